/-
  Merged by program: EqDd, DbF, RooLaw.
-/
import Derived.Test.YtlcpekpgkllbkaaR15
import Derived.StillTailTactics
import Derived.Test.YtlcpekpgkllbkaaR43
import Derived.Test.YtlcpekpgkllbkaaR19
import Derived.Test.YtlcpekpgkllbkaaR26
import Derived.Deep.RegionHeld3

/-
  The comparison of a TableData with itself, wherever the two lie. Written by genpair.py.
-/
namespace Go.Proofs.Ytlcpekpgkllbkaa
open Go.RowKit

set_option maxHeartbeats 800000 in
set_option maxRecDepth 100000 in
theorem eqDd_same (x : Dd) (w : World) (cs ds : List Value) (h : kDd.R w x cs) (h' : kDd.R w x ds) : Calls Try.prog 91 #[.agg cs.toArray, .agg ds.toArray] w (LawYes w) := by
  obtain ⟨TA, ta, td, rfl, hs, hy⟩ := kDd_open h
  obtain ⟨TA', ta', td', rfl, _, hy'⟩ := kDd_open h'
  obtain ⟨W1, hW1⟩ : ∃ W1, (w.alloc (.cells #[.string x.1, .slice TA ta td] 86)).alloc (.cells #[.string x.1, .slice TA' ta' td'] 86) = W1 := ⟨_, rfl⟩
  obtain ⟨H, hH⟩ : ∃ H, w.heap.size = H := ⟨_, rfl⟩
  have b0 : Box2 W1 H 86 (.string x.1) (.slice TA ta td) := by rw [← hW1, ← hH]; exact (Box2.new w _ _ _).alloc _
  have b1 : Box2 W1 (H + 1) 86 (.string x.1) (.slice TA' ta' td') := by
    rw [← hW1, ← hH]
    have := Box2.new (w.alloc (.cells #[.string x.1, .slice TA ta td] 86)) 86 (.string x.1) (.slice TA' ta' td')
    simpa using this
  have hb1 : Below w.heap.size w W1 := by rw [← hW1]; exact ((Below.refl _ _).alloc (Nat.le_refl _) _).alloc (by simp) _
  have HC := Lib.hid (eqVas_K x.2 W1 ((kVa.list 92).keep hy hb1) ((kVa.list 92).keep hy' hb1))
  have HW1 := Lib.hid hW1
  have HB1 := Lib.hid hb1
  have x0 := b0.c0
  have x1 := b0.c1
  have y0 := b1.c0
  have y1 := b1.c1
  generalize x.1 = nm at HW1 x0 y0 hs ⊢
  clear h h' hy hy' hW1 b0 b1 hb1
  go_enter Try.func91, Try.ntmps91
  go_wp2_with fail
  rw [HW1.out]
  go_wp2_with fail
  refine HC.out.mono ?_
  rintro e w2 ⟨rfl, hb2⟩
  have HB2 := Lib.hid (HB1.out.trans (hb2.mono HB1.out.size))
  clear hb2
  go_wp2_with fail
  go_ret
  exact ⟨rfl, HB2.out⟩

set_option maxHeartbeats 800000 in
set_option maxRecDepth 100000 in
theorem eqDdS_same (xs : List Dd) (w : World) (A B : Option Addr) (c d : Nat) (hA : RL kDd w A xs) (hB : RL kDd w B xs) (hl : xs.length ≤ 9223372036854775807) :
    Calls Try.prog 65 #[.slice A xs.length c, .slice B xs.length d] w (LawYes w) := by
  have HA := Lib.hid hA
  have HB := Lib.hid hB
  clear hA hB
  go_enter Try.func65, Try.ntmps65
  go_wp2_with fail
  go_loopw [5] (fun i wr => ∃ k : Nat, k ≤ xs.length ∧ i = .int .i64 k ∧ Below w.heap.size w wr) (fun i _ => xs.length - (intOf i).toNat)
  case atStart => exact ⟨0, Nat.zero_le _, rfl, Below.refl _ _⟩
  case round =>
    obtain ⟨k, hk, rfl, hb⟩ := hrel
    by_cases hlt : k < xs.length
    · obtain ⟨ad, p, c0, c1, rfl, hpe, hr, q0, q1⟩ := rl_at2 kDd_n HA.out hb hlt
      obtain ⟨bd, p', d0, d1, rfl, hpe', hr', q0', q1'⟩ := rl_at2 kDd_n HB.out hb hlt
      have HR := Lib.hid hr
      have HR' := Lib.hid hr'
      have HBW := Lib.hid hb
      clear hr hr' hb
      go_wp2_with fail
      go_still_tail 8, (by kernel_rfl)
      change wpList _ _ _ _ _ wr.drew
      have hd : Below wr.heap.size wr wr.drew := (Below.refl _ _).drew
      have HC := Lib.hid (eqDd_same xs[k] wr.drew [c0, c1] [d0, d1] (kDd.keep HR.out hd) (kDd.keep HR'.out hd))
      have HB2 := Lib.hid (HBW.out.trans (hd.mono HBW.out.size))
      clear hd
      go_wp2_with fail
      refine HC.out.mono ?_
      rintro e w2 ⟨rfl, hb2⟩
      have HB3 := Lib.hid (HB2.out.trans (hb2.mono HB2.out.size))
      clear hb2
      go_wp2_with fail
      go_roundw
      case rel => exact ⟨k + 1, hlt, by go_num, HB3.out⟩
      case measure => simp [intOf]; omega
    · go_wp2_with fail
      go_ret
      exact ⟨rfl, hb⟩
end Go.Proofs.Ytlcpekpgkllbkaa

/-
  The laws' functions on a DB. Written by genwrap.py.
-/
namespace Go.Proofs.Ytlcpekpgkllbkaa
open Go.RowKit

set_option maxHeartbeats 800000 in
theorem szDB_any (t : Db) (w : World) (cs : List Value) (left : Int) (h : RDb w t cs) (h0 : 0 ≤ left) (h1 : left ≤ 1048576) : Calls Try.prog 20 #[.agg cs.toArray, .int .i64 left] w (SzV (wDb t) left w) := by
  obtain ⟨A, d, rfl, hl, _, hp⟩ := h.open
  obtain ⟨W1, hW1⟩ : ∃ W1, w.alloc (.cells #[.slice A t.length d] 45) = W1 := ⟨_, rfl⟩
  obtain ⟨H, hH⟩ : ∃ H, w.heap.size = H := ⟨_, rfl⟩
  have hbox : Box1 W1 H 45 (.slice A t.length d) := by rw [← hW1, ← hH]; exact Box1.new w _ _
  have hb0 : Below w.heap.size w W1 := by rw [← hW1]; exact (Below.refl _ _).alloc (Nat.le_refl _) _
  have HC := Lib.hid (szDdS_any t W1 A d left (hp.keep hb0) hl h0 h1)
  have HW1 := Lib.hid hW1
  have HB0 := Lib.hid hb0
  have x0 := hbox.c0
  have HWX : Hid (wDb t = wL wDd t) := Lib.hid rfl
  generalize wDb t = wx at HWX ⊢
  generalize wL wDd t = wy at HWX HC
  generalize t.length = n at HC HW1 x0 ⊢
  clear h hp hl hW1 hbox hb0
  go_enter Try.func20, Try.ntmps20
  go_wp2_with fail
  rw [HW1.out]
  go_wp2_with fail
  refine HC.out.mono ?_
  rintro e w2 ⟨r, rfl, hs1, hs2, hs3, hb2⟩
  have HS3 := Lib.hid hs3
  have HB2 := Lib.hid (HB0.out.trans (hb2.mono HB0.out.size))
  clear hs3 hb2
  by_cases hz : r < 0
  · go_wp2_with fail
    go_ret
    exact ⟨-1, rfl, by omega, by omega, by omega, HB2.out⟩
  · go_wp2_with fail
    go_ret
    exact ⟨r, rfl, by omega, by omega, fun _ => by rw [HWX.out]; exact HS3.out (by omega), HB2.out⟩

set_option maxHeartbeats 1600000 in
set_option maxRecDepth 100000 in
theorem toDB_any (t : Db) (w : World) (cs : List Value) (h : RDb w t cs) (hw : wDb t ≤ 1048576) : Calls Try.prog 22 #[.agg cs.toArray] w (MadeDb t w) := by
  obtain ⟨A, d, rfl, hl, _, hp⟩ := h.open
  obtain ⟨W1, hW1⟩ : ∃ W1, ((w.alloc (.cells #[.slice A t.length d] 45)).alloc (.cells #[.slice none 0 0] 51)).alloc (.cells #[.slice none 0 0] 51) = W1 := ⟨_, rfl⟩
  obtain ⟨H, hH⟩ : ∃ H, w.heap.size = H := ⟨_, rfl⟩
  have b0 : Box1 W1 H 45 (.slice A t.length d) := by rw [← hW1, ← hH]; exact ((Box1.new w _ _).alloc _).alloc _
  have b1 : Box1 W1 (H + 1) 51 (.slice none 0 0) := by
    rw [← hW1, ← hH]
    have := (Box1.new (w.alloc (.cells #[.slice A t.length d] 45)) 51 (.slice none 0 0)).alloc (.cells #[.slice none 0 0] 51)
    simpa using this
  have b2 : Box1 W1 (H + 1 + 1) 51 (.slice none 0 0) := by
    rw [← hW1, ← hH]
    have := Box1.new ((w.alloc (.cells #[.slice A t.length d] 45)).alloc (.cells #[.slice none 0 0] 51)) 51 (.slice none 0 0)
    simpa using this
  have hb1 : Below w.heap.size w W1 := by rw [← hW1]; exact (((Below.refl _ _).alloc (Nat.le_refl _) _).alloc (by simp) _).alloc (by simp; omega) _
  have hs1 : W1.heap.size = H + 1 + 1 + 1 := by rw [← hW1, ← hH]; simp
  have HC := Lib.hid (toDdS_any t W1 A d (hp.keep hb1) hw)
  have HMK : Hid (∀ (U : World) (A5 : Option Addr) (d5 : Nat) (fp : List Nat), OL kDd 86 U t (.slice A5 t.length d5) fp → (∀ b ∈ fp, w.heap.size ≤ b ∧ b < U.heap.size) → Below w.heap.size w U → MadeDb t w (.returned (.agg #[.slice A5 t.length d5])) U) := Lib.hid (fun U A5 d5 fp h1 h2 h3 => ⟨A5, d5, fp, rfl, ODb.ol.2 h1, h2, h3⟩)
  have HW1 := Lib.hid hW1
  have HB1 := Lib.hid hb1
  have HS1 := Lib.hid hs1
  have HH := Lib.hid hH
  have B1 := Lib.hid b1
  have B2 := Lib.hid b2
  have x0 := b0.c0
  clear h hp hl hW1 b0 b1 b2 hb1 hs1 hw
  go_enter Try.func22, Try.ntmps22
  go_wp2_with fail
  rw [HW1.out]
  go_wp2_with fail
  refine HC.out.mono ?_
  rintro e w2 ⟨A5, d5, fp, rfl, ho, hfp, hb2⟩
  have hz2 := hb2.size
  have hz1 := HS1.out
  have t1 := B1.out.under hb2 (by omega)
  have t2 := B2.out.under hb2 (by omega)
  have g0 := t2.c0
  have gf0 := t2.free 0
  have k0 := t1.c0
  have kf0 := t1.free 0
  have HO := Lib.hid ho
  have HFP := Lib.hid hfp
  have HB2 := Lib.hid hb2
  have T1 := Lib.hid t1
  have HZ2 := Lib.hid hz2
  clear ho hfp hb2 t1 t2 hz2 hz1 x0
  obtain ⟨n, hn⟩ : ∃ n, t.length = n := ⟨_, rfl⟩
  rw [hn] at HMK HO ⊢
  clear hn
  go_wp2_with fail
  generalize hV : w2.setCell ⟨H + 1 + 1, 0, none⟩ (.slice A5 n d5) = V
  generalize hU : V.setCell ⟨H + 1, 0, none⟩ (.slice A5 n d5) = U
  have hg5 : w2.grownBy V (some (H + 1 + 1)) := by rw [← hV]; exact grown_set (World.grownBy.refl _ _) _
  have hg6 : V.grownBy U (some (H + 1)) := by rw [← hU]; exact grown_set (World.grownBy.refl _ _) _
  have u1 : Box1 U (H + 1) 51 (.slice A5 n d5) := by
    rw [← hU, ← hV]
    exact (T1.out.far (by show H + 1 ≠ H + 1 + 1; omega) _).set0 _
  have hww := HH.out
  have hz1 := HS1.out
  have hz2 := HZ2.out
  have hs5 := hg5.size
  have hs6 := hg6.size
  have hne : ∀ b ∈ fp, H + 1 + 1 < b := fun b hb => by have := (HFP.out b hb).1; omega
  have hO := OL.held (OL.held HO.out (K := fun i => some i ≠ some (H + 1 + 1)) ⟨hg5.os, hg5.tape, hg5.output, hg5.size, fun i hi hd => hg5.block i hi hd⟩ (fun b hb e => by injection e with e; have := hne b hb; omega)) (K := fun i => some i ≠ some (H + 1)) ⟨hg6.os, hg6.tape, hg6.output, hg6.size, fun i hi hd => hg6.block i hi hd⟩ (fun b hb e => by injection e with e; have := hne b hb; omega)
  have hbU : Below w.heap.size w U := ((HB1.out.trans (HB2.out.mono HB1.out.size)).grown hg5 (HB1.out.trans (HB2.out.mono HB1.out.size)).size (fun q hq => by injection hq with hq; omega)).grown hg6 (by have := (HB1.out.trans (HB2.out.mono HB1.out.size)).size; omega) (fun q hq => by injection hq with hq; omega)
  have q0 := u1.c0
  have HR := Lib.hid (HMK.out U A5 d5 fp hO (fun b hb => by have := HFP.out b hb; omega) hbU)
  clear hO hbU hne hg5 hg6 hV hU u1
  exact bodyPost_ret (v := .agg #[.slice A5 n d5]) (by simp [results, Try.results22, go_sem, q0]) rfl HR.out

set_option maxHeartbeats 800000 in
set_option maxRecDepth 100000 in
theorem eqDB_same (t : Db) (w : World) (cs ds : List Value) (h : RDb w t cs) (h' : RDb w t ds) : Calls Try.prog 25 #[.agg cs.toArray, .agg ds.toArray] w (LawYes w) := by
  obtain ⟨A, c, rfl, hl, _, hp⟩ := h.open
  obtain ⟨B, d, rfl, _, _, hp'⟩ := h'.open
  obtain ⟨W1, hW1⟩ : ∃ W1, (w.alloc (.cells #[.slice A t.length c] 51)).alloc (.cells #[.slice B t.length d] 51) = W1 := ⟨_, rfl⟩
  obtain ⟨H, hH⟩ : ∃ H, w.heap.size = H := ⟨_, rfl⟩
  have b0 : Box1 W1 H 51 (.slice A t.length c) := by rw [← hW1, ← hH]; exact (Box1.new w _ _).alloc _
  have b1 : Box1 W1 (H + 1) 51 (.slice B t.length d) := by
    rw [← hW1, ← hH]
    have := Box1.new (w.alloc (.cells #[.slice A t.length c] 51)) 51 (.slice B t.length d)
    simpa using this
  have hb1 : Below w.heap.size w W1 := by rw [← hW1]; exact ((Below.refl _ _).alloc (Nat.le_refl _) _).alloc (by simp) _
  have HC := Lib.hid (eqDdS_same t W1 A B c d (hp.keep hb1) (hp'.keep hb1) hl)
  have HW1 := Lib.hid hW1
  have HB1 := Lib.hid hb1
  have x0 := b0.c0
  have y0 := b1.c0
  generalize t.length = n at HC HW1 x0 y0 ⊢
  clear h h' hp hp' hl hW1 b0 b1 hb1
  go_enter Try.func25, Try.ntmps25
  go_wp2_with fail
  rw [HW1.out]
  go_wp2_with fail
  refine HC.out.mono ?_
  rintro e w2 ⟨rfl, hb2⟩
  have HB2 := Lib.hid (HB1.out.trans (hb2.mono HB1.out.size))
  clear hb2
  go_wp2_with fail
  go_ret
  exact ⟨rfl, HB2.out⟩
end Go.Proofs.Ytlcpekpgkllbkaa

/-
  The walk of laws.FnExactRowsOf. Written by genlaw.py.
-/
namespace Go.Proofs.Ytlcpekpgkllbkaa
open Go.RowKit

def rooMade1 (t : Db) (t0 : Nat) (w : World) (e : Ending) (w' : World) : Prop :=
  ∃ (A : Option Addr) (d : Nat) (fp : List Nat), e = .returned (.agg #[.slice A t0 d]) ∧ ODb w' t [.slice A t0 d] fp ∧ (∀ b ∈ fp, w.heap.size ≤ b ∧ b < w'.heap.size) ∧ Below w.heap.size w w' 
def rooMade2 (F : List Va) (f0 : Nat) (w : World) (e : Ending) (w' : World) : Prop :=
  ∃ (A : Option Addr) (d : Nat) (fp : List Nat), e = .returned (.slice A f0 d) ∧ OVl w' F (.slice A f0 d) fp ∧ (∀ b ∈ fp, w.heap.size ≤ b ∧ b < w'.heap.size) ∧ Below w.heap.size w w'
theorem roo_made2 {p : List Va} {w : World} {e : Ending} {w' : World} (h : MadeL' kVa 92 p w e w') : rooMade2 p p.length w e w' := by
  obtain ⟨A, d, fp, he, ho, hf, hb⟩ := h
  exact ⟨A, d, fp, he, OVl.ol.2 ho, hf, hb⟩

set_option maxRecDepth 100000 in
set_option maxHeartbeats 8000000 in
theorem roo_law (t : Db) (cs : List Value) (x : ByteArray) (w : World) (h : RDb w t cs) (hx : x.size ≤ 9223372036854775807) : Calls Try.prog 5 #[.agg cs.toArray, .string x] w (LawYes w) := by
  obtain ⟨c0, rfl⟩ := h.one
  obtain ⟨W1, hW1⟩ : ∃ W1, w.alloc (.cells #[c0] 45) = W1 := ⟨_, rfl⟩
  obtain ⟨H, hH⟩ : ∃ H, w.heap.size = H := ⟨_, rfl⟩
  have hbox : Box1 W1 H 45 c0 := by rw [← hW1, ← hH]; exact Box1.new w _ _
  have hb0 : Below w.heap.size w W1 := by rw [← hW1]; exact (Below.refl _ _).alloc (Nat.le_refl _) _
  by_cases hbig : 1048576 < x.size
  · have HY : Hid (LawYes w (.returned (.bool true)) W1) := ⟨rfl, hb0⟩
    have HW1 := Lib.hid hW1
    clear h hbox hb0 hW1
    go_enter Try.func5, Try.ntmps5
    go_wp2_with fail
    rw [HW1.out]
    go_ret
    exact HY.out
  have hxx : ¬ (1048576 : Int) < (x.size : Int) := by omega
  have HSZ := Lib.hid (szDB_any t W1 _ 1048576 (h.keep hb0) (by decide) (by decide))
  have HT := Lib.hid (fun W (hB : Below w.heap.size w W) => h.keep hB)
  have HW1 := Lib.hid hW1
  have BH0 := Lib.hid hbox
  have HB0 := Lib.hid hb0
  have HHH := Lib.hid hH
  have HZ1 : Hid (W1.heap.size = H + 1) := Lib.hid (by rw [← hW1, ← hH]; simp)
  have rH0 := hbox.c0
  clear h hbox hb0 hW1 hbig
  go_enter Try.func5, Try.ntmps5
  go_wp2_with fail
  rw [HW1.out]
  go_wp2_with fail
  refine HSZ.out.mono ?_
  rintro e a1 ⟨r, rfl, r1, r2, r3, hb⟩
  clear HSZ rH0
  have HB1 := Lib.hid (HB0.out.trans (hb.mono HB0.out.size))
  have BH1 := Lib.hid (BH0.out.under hb BH0.out.lt)
  clear HB0 BH0
  have NUM1 : Hid (H < a1.heap.size) := Lib.hid (by have := hb.size; have := HZ1.out; omega)
  clear hb
  by_cases hr : r < 0
  · have HY : Hid (LawYes w (.returned (.bool true)) a1) := ⟨rfl, HB1.out⟩
    clear r3
    go_wp2_with fail
    go_ret
    exact HY.out
  have hw : wDb t ≤ 1048576 := by have := r3 (by omega); omega
  have hrr : 0 ≤ r := by omega
  obtain ⟨F, hF⟩ : ∃ F, rowsD t x = F := ⟨_, rfl⟩
  have HCY : Hid ((1 : Int) + cntDb t ≤ 1000000000000) := Lib.hid (by have := cnt_wDb t; omega)
  have HCF : Hid ((1 : Int) + cntVK F ≤ 1000000000000) := Lib.hid (by have hbd := (show cntVK F ≤ 1000000000 from by have h1 := cnt_wVas F; have h2 := rowsD_w t x; rw [hF] at h2; omega); omega)
  obtain ⟨t0, ht0⟩ : ∃ t0, t.length = t0 := ⟨_, rfl⟩
  obtain ⟨f0, hf0⟩ : ∃ f0, F.length = f0 := ⟨_, rfl⟩
  have TO : Hid (∀ W, Below w.heap.size w W → Calls Try.prog 22 #[.agg #[c0]] W (rooMade1 t t0 W)) := Lib.hid (fun W hB => by
    refine (toDB_any t W _ (HT.out W hB) hw).mono ?_
    rintro e w' hm
    unfold MadeDb at hm
    rw [ht0] at hm
    exact hm)
  have SPF : Hid (∀ (W : World) (cs : List Value) (fp : List Nat), ODb W t cs fp → Calls Try.prog 21 #[.agg cs.toArray, .string x] W (rooMade2 F f0 W)) := Lib.hid (fun W cs fp ho => by
    refine (specRows_any t x W cs ho.reads hw).mono ?_
    rintro e w' hm
    have hm := roo_made2 hm
    rw [hF] at hm
    simp only [hf0] at hm
    exact hm)
  have IMF : Hid (∀ (W : World) (cs : List Value) (fp : List Nat), ODb W t cs fp → Calls Try.prog 23 #[.agg cs.toArray, .string x] W (rooMade2 F f0 W)) := Lib.hid (fun W cs fp ho => by
    refine (implRows_any t x W cs ho.reads hw hx).mono ?_
    rintro e w' hm
    have hm := roo_made2 hm
    rw [hF] at hm
    simp only [hf0] at hm
    exact hm)
  clear r3 hw hr r1 r2 HT hF ht0 hf0
  have rH0 := BH1.out.c0
  go_wp2_with fail
  refine (TO.out a1 HB1.out).mono ?_
  rintro e a2 ⟨A2, d2, fp2, rfl, ho, hf, hb⟩
  have HC := Lib.hid (SPF.out a2 _ _ ho)
  have NUM2 : Hid (H < a2.heap.size) := Lib.hid (by have := NUM1.out; have := hb.size; omega)
  clear rH0
  have HB2 := Lib.hid (HB1.out.trans (hb.mono HB1.out.size))
  have BH2 := Lib.hid (BH1.out.under hb BH1.out.lt)
  clear HB1 BH1
  clear ho hf hb NUM1
  go_wp2_with fail
  refine HC.out.mono ?_
  rintro e a3 ⟨AW, dW, fpW, rfl, ho, hf, hb⟩
  obtain ⟨P, hP⟩ : ∃ P, a3.heap.size = P := ⟨_, rfl⟩
  have HB3 := Lib.hid (HB2.out.trans (hb.mono HB2.out.size))
  have BH3 := Lib.hid (BH2.out.under hb BH2.out.lt)
  clear HB2 BH2
  have TW3 := Lib.hid ho
  have NW : Hid (∀ b ∈ fpW, H < b ∧ b < P) := Lib.hid (fun b hm => by have := hf b hm; have := NUM2.out; omega)
  have NUM3 : Hid (H < P ∧ P ≤ a3.heap.size) := Lib.hid (by have := NUM2.out; have := hb.size; omega)
  clear ho hf hb NUM2
  clear HC
  have rH0 := BH3.out.c0
  go_wp2_with fail
  refine (TO.out a3 HB3.out).mono ?_
  rintro e a5 ⟨AX, dX, fpX, rfl, ho, hf, hb⟩
  clear rH0
  obtain ⟨a6, ha6⟩ : ∃ a6, a5.alloc (.cells #[.slice AX t0 dX] 51) = a6 := ⟨_, rfl⟩
  obtain ⟨X, hX⟩ : ∃ X, a5.heap.size = X := ⟨_, rfl⟩
  have hza6 : a6.heap.size = X + 1 := by rw [← ha6, ← hX]; simp
  have hal : Below a5.heap.size a5 a6 := by rw [← ha6]; exact (Below.refl _ _).alloc (Nat.le_refl _) _
  have hbx : Box1 a6 X 51 (.slice AX t0 dX) := by rw [← ha6, ← hX]; exact Box1.new a5 _ _
  have hb' := hb.trans (hal.mono hb.size)
  have HB4 := Lib.hid (HB3.out.trans (hb'.mono HB3.out.size))
  have BH4 := Lib.hid (BH3.out.under hb' BH3.out.lt)
  have TW4 := Lib.hid (TW3.out.under hb')
  clear HB3 BH3 TW3
  have BX4 := Lib.hid hbx
  have TY4 := Lib.hid (ho.under hal)
  have NY : Hid (∀ b ∈ fpX, P ≤ b ∧ b < X) := Lib.hid (fun b hm => by have := hf b hm; have := NUM3.out; omega)
  have NUM4 : Hid (H < P ∧ P ≤ X ∧ X < a6.heap.size) := Lib.hid (by have := NUM3.out; have := hb.size; omega)
  have HWn := Lib.hid ha6
  clear ho hf hb hb' hal hbx hza6 ha6 NUM3
  have rr := BX4.out
  rw [← HWn.out] at rr
  have rX0 := rr.c0
  clear rr
  go_wp2_with fail
  rw [HWn.out]
  refine (IMF.out a6 _ _ TY4.out).mono ?_
  rintro e a7 ⟨AG, dG, fpG, rfl, ho, hf, hb⟩
  clear rX0
  clear HWn
  obtain ⟨G, hG⟩ : ∃ G, a7.heap.size = G := ⟨_, rfl⟩
  have HB5 := Lib.hid (HB4.out.trans (hb.mono HB4.out.size))
  have BH5 := Lib.hid (BH4.out.under hb BH4.out.lt)
  have BX5 := Lib.hid (BX4.out.under hb BX4.out.lt)
  have TW5 := Lib.hid (TW4.out.under hb)
  have TY5 := Lib.hid (TY4.out.under hb)
  clear HB4 BH4 BX4 TW4 TY4
  have TZ5 := Lib.hid ho
  have NZ : Hid (∀ b ∈ fpG, X < b ∧ b < G) := Lib.hid (fun b hm => by have := hf b hm; have := NUM4.out; omega)
  have NUM : Hid (w.heap.size = H ∧ H < P ∧ P ≤ X ∧ X < G ∧ G ≤ a7.heap.size) := Lib.hid (by have := HHH.out; have := NUM4.out; have := hb.size; omega)
  clear ho hf hb NUM4
  clear HHH HZ1
  have HC := Lib.hid (eqVs_same F a7 _ _ _ _ _ _ TZ5.out.reads TW5.out.reads)
  go_wp2_with fail
  refine HC.out.mono ?_
  rintro e a9 ⟨rfl, hb⟩
  have HB6 := Lib.hid (HB5.out.trans (hb.mono HB5.out.size))
  have BH6 := Lib.hid (BH5.out.under hb BH5.out.lt)
  have BX6 := Lib.hid (BX5.out.under hb BX5.out.lt)
  have TW6 := Lib.hid (TW5.out.under hb)
  have TY6 := Lib.hid (TY5.out.under hb)
  have TZ6 := Lib.hid (TZ5.out.under hb)
  clear HB5 BH5 BX5 TW5 TY5 TZ5
  clear HC hb
  have rX0 := BX6.out.c0
  have rH0 := BH6.out.c0
  go_wp2_with fail
  clear rX0 rH0
  have HB7 := Lib.hid HB6.out.drew
  have BH7 := Lib.hid (show Box1 a9.drew H 45 c0 from BH6.out)
  have BX7 := Lib.hid (show Box1 a9.drew X 51 (.slice AX t0 dX) from BX6.out)
  have TW7 := Lib.hid (TW6.out.under (show Below a9.heap.size a9 a9.drew from (Below.refl _ _).drew))
  have TY7 := Lib.hid (TY6.out.under (show Below a9.heap.size a9 a9.drew from (Below.refl _ _).drew))
  have TZ7 := Lib.hid (TZ6.out.under (show Below a9.heap.size a9 a9.drew from (Below.refl _ _).drew))
  clear HB6 BH6 BX6 TW6 TY6 TZ6
  have rX0 := BX7.out.c0
  have rH0 := BH7.out.c0
  go_region_held3 (fun W => W.cell? ⟨X, 0, none⟩ = some (.slice AX t0 dX) ∧ W.cell? ⟨H, 0, none⟩ = some c0)
    (first | (refine ⟨?_, ?_⟩ <;> assumption) | go_keep)
    (first
      | (go_at_call 22; refine (TO.out a9.drew HB7.out).mono ?_; rintro e a10 ⟨A10, d10, fp10, rfl, ho, hf, hb⟩; have HB8 := Lib.hid (HB7.out.trans (hb.mono HB7.out.size)); have BH8 := Lib.hid (BH7.out.under hb BH7.out.lt); have BX8 := Lib.hid (BX7.out.under hb BX7.out.lt); have TW8 := Lib.hid (TW7.out.under hb); have TY8 := Lib.hid (TY7.out.under hb); have TZ8 := Lib.hid (TZ7.out.under hb); have HC := Lib.hid (eqDB_same t a10 _ _ TY8.out.reads ho.reads); have uX0 := BX8.out.c0; have uH0 := BH8.out.c0; clear ho hf hb)
      | (go_at_call 25; refine HC.out.mono ?_; rintro e a11 ⟨rfl, hb⟩; have HB9 := Lib.hid (HB8.out.trans (hb.mono HB8.out.size)); have BH9 := Lib.hid (BH8.out.under hb BH8.out.lt); have BX9 := Lib.hid (BX8.out.under hb BX8.out.lt); have TW9 := Lib.hid (TW8.out.under hb); have TY9 := Lib.hid (TY8.out.under hb); have TZ9 := Lib.hid (TZ8.out.under hb); have vX0 := BX9.out.c0; have vH0 := BH9.out.c0; clear HC hb))
  clear rX0 rH0 uX0 uH0 vX0 vH0 HB7 HB8 BH7 BX7 BH8 BX8 TW7 TY7 TZ7 TW8 TY8 TZ8
  have rX0 := BX9.out.c0
  go_wp2_with fail
  refine (markDb_any t a11 _ fpX 1 TY9.out (by decide) HCY.out).mono ?_
  rintro e a12 ⟨tm, k1, rfl, k1p, k1b, hot, _, ho⟩
  clear rX0
  have HB10 := Lib.hid (HB9.out.trans (ho.below HB9.out.size (fun x hx => by have := NUM.out; have := NY.out x hx; omega)))
  have BH10 := Lib.hid (box1_onlyM BH9.out ho (fun hm => by have := NUM.out; have := NY.out H hm; omega))
  have BX10 := Lib.hid (box1_onlyM BX9.out ho (fun hm => by have := NUM.out; have := NY.out X hm; omega))
  have TW10 := Lib.hid (OVl.onlyM TW9.out ho (fun b hb hm => by have := NUM.out; have := NW.out b hb; have := NY.out b hm; omega))
  have TZ10 := Lib.hid (OVl.onlyM TZ9.out ho (fun b hb hm => by have := NUM.out; have := NZ.out b hb; have := NY.out b hm; omega))
  clear HB9 BH9 BX9 TW9 TY9 TZ9
  clear ho hot
  have k1n : ¬ k1 < 0 := by omega
  have HC := Lib.hid (eqVs_same F a12 _ _ _ _ _ _ TZ10.out.reads TW10.out.reads)
  go_wp2_with fail
  refine HC.out.mono ?_
  rintro e a13 ⟨rfl, hb⟩
  have HB11 := Lib.hid (HB10.out.trans (hb.mono HB10.out.size))
  have BH11 := Lib.hid (BH10.out.under hb BH10.out.lt)
  have BX11 := Lib.hid (BX10.out.under hb BX10.out.lt)
  have TW11 := Lib.hid (TW10.out.under hb)
  have TZ11 := Lib.hid (TZ10.out.under hb)
  clear HB10 BH10 BX10 TW10 TZ10
  clear HC hb
  go_wp2_with fail
  refine (markVs_any F a13 _ _ _ fpG 1 TZ11.out (by decide) HCF.out).mono ?_
  rintro e a14 ⟨Fm, k2, rfl, k2p, k2b, hot, hheld, ho⟩
  have HB12 := Lib.hid (HB11.out.trans (ho.below HB11.out.size (fun x hx => by have := NUM.out; have := NZ.out x hx; omega)))
  have BH12 := Lib.hid (box1_onlyM BH11.out ho (fun hm => by have := NUM.out; have := NZ.out H hm; omega))
  have BX12 := Lib.hid (box1_onlyM BX11.out ho (fun hm => by have := NUM.out; have := NZ.out X hm; omega))
  have TW12 := Lib.hid (OVl.onlyM TW11.out ho (fun b hb hm => by have := NUM.out; have := NW.out b hb; have := NZ.out b hm; omega))
  have TZ12 := Lib.hid hot
  clear HB11 BH11 BX11 TW11 TZ11
  have HLD := Lib.hid hheld
  clear ho hot hheld
  have k2n : ¬ k2 < 0 := by omega
  have HC := Lib.hid (heldVs_any Fm a14 _ _ _ 1 k2 TZ12.out.reads HLD.out (by decide) k2b)
  go_wp2_with fail
  refine HC.out.mono ?_
  rintro e a15 ⟨rfl, hb⟩
  have HB13 := Lib.hid (HB12.out.trans (hb.mono HB12.out.size))
  have BH13 := Lib.hid (BH12.out.under hb BH12.out.lt)
  have BX13 := Lib.hid (BX12.out.under hb BX12.out.lt)
  have TW13 := Lib.hid (TW12.out.under hb)
  have TZ13 := Lib.hid (TZ12.out.under hb)
  clear HB12 BH12 BX12 TW12 TZ12
  clear HC hb
  have rH0 := BH13.out.c0
  go_wp2_with fail
  refine (TO.out a15 HB13.out).mono ?_
  rintro e a16 ⟨A16, d16, fp16, rfl, ho, hf, hb⟩
  have HC := Lib.hid (IMF.out a16 _ _ ho)
  clear rH0
  have HB14 := Lib.hid (HB13.out.trans (hb.mono HB13.out.size))
  have BH14 := Lib.hid (BH13.out.under hb BH13.out.lt)
  have BX14 := Lib.hid (BX13.out.under hb BX13.out.lt)
  have TW14 := Lib.hid (TW13.out.under hb)
  have TZ14 := Lib.hid (TZ13.out.under hb)
  clear HB13 BH13 BX13 TW13 TZ13
  clear ho hf hb
  go_wp2_with fail
  refine HC.out.mono ?_
  rintro e a17 ⟨AQ, dQ, fpQ, rfl, ho, hf, hb⟩
  have HB15 := Lib.hid (HB14.out.trans (hb.mono HB14.out.size))
  have BH15 := Lib.hid (BH14.out.under hb BH14.out.lt)
  have BX15 := Lib.hid (BX14.out.under hb BX14.out.lt)
  have TW15 := Lib.hid (TW14.out.under hb)
  have TZ15 := Lib.hid (TZ14.out.under hb)
  clear HB14 BH14 BX14 TW14 TZ14
  have TQ := Lib.hid ho
  clear ho hf hb HC
  have HC := Lib.hid (eqVs_same F a17 _ _ _ _ _ _ TQ.out.reads TW15.out.reads)
  go_wp2_with fail
  refine HC.out.mono ?_
  rintro e a19 ⟨rfl, hb⟩
  have HB16 := Lib.hid (HB15.out.trans (hb.mono HB15.out.size))
  have BH16 := Lib.hid (BH15.out.under hb BH15.out.lt)
  have BX16 := Lib.hid (BX15.out.under hb BX15.out.lt)
  have TW16 := Lib.hid (TW15.out.under hb)
  have TZ16 := Lib.hid (TZ15.out.under hb)
  clear HB15 BH15 BX15 TW15 TZ15
  clear HC hb
  have HC := Lib.hid (heldVs_any Fm a19 _ _ _ 1 k2 TZ16.out.reads HLD.out (by decide) k2b)
  go_wp2_with fail
  refine HC.out.mono ?_
  rintro e a20 ⟨rfl, hb⟩
  have HY : Hid (LawYes w (.returned (.bool true)) a20) := ⟨rfl, HB16.out.trans (hb.mono HB16.out.size)⟩
  clear HC hb
  go_wp2_with fail
  go_ret
  exact HY.out
end Go.Proofs.Ytlcpekpgkllbkaa
