/-
  Merged by program: EqDc, ScF, TyHeld.
-/
import Derived.Test.YtlcpekpgkllbkaaT8
import Derived.StillTailTactics
import Derived.Test.YtlcpekpgkllbkaaT41
import Derived.Test.YtlcpekpgkllbkaaT42
import Derived.Test.YtlcpekpgkllbkaaT12

/-
  The comparison of a TableDecl with itself, wherever the two lie. Written by genpair.py.
-/
namespace Go.Proofs.Ytlcpekpgkllbkaa
open Go.RowKit

set_option maxHeartbeats 800000 in
set_option maxRecDepth 100000 in
theorem eqDc_same (x : Dc) (w : World) (cs ds : List Value) (h : kDc.R w x cs) (h' : kDc.R w x ds) : Calls Try.prog 81 #[.agg cs.toArray, .agg ds.toArray] w (LawYes w) := by
  obtain ⟨tk, TL, TA, tl, tc, ta, td, rfl, hs, hy⟩ := kDc_open h
  obtain ⟨tk', TL', TA', tl', tc', ta', td', rfl, _, hy'⟩ := kDc_open h'
  obtain ⟨W1, hW1⟩ : ∃ W1, (w.alloc (.cells #[.string x.1, .int .i64 tk, .slice TL tl tc, .slice TA ta td] 64)).alloc (.cells #[.string x.1, .int .i64 tk', .slice TL' tl' tc', .slice TA' ta' td'] 64) = W1 := ⟨_, rfl⟩
  obtain ⟨H, hH⟩ : ∃ H, w.heap.size = H := ⟨_, rfl⟩
  have b0 : Box4 W1 H 64 (.string x.1) (.int .i64 tk) (.slice TL tl tc) (.slice TA ta td) := by rw [← hW1, ← hH]; exact (Box4.new w _ _ _ _ _).alloc _
  have b1 : Box4 W1 (H + 1) 64 (.string x.1) (.int .i64 tk') (.slice TL' tl' tc') (.slice TA' ta' td') := by
    rw [← hW1, ← hH]
    have := Box4.new (w.alloc (.cells #[.string x.1, .int .i64 tk, .slice TL tl tc, .slice TA ta td] 64)) 64 (.string x.1) (.int .i64 tk') (.slice TL' tl' tc') (.slice TA' ta' td')
    simpa using this
  have hb1 : Below w.heap.size w W1 := by rw [← hW1]; exact ((Below.refl _ _).alloc (Nat.le_refl _) _).alloc (by simp) _
  have HC := Lib.hid (eqTy_K x.2 W1 _ _ (kTy.keep hy hb1) (kTy.keep hy' hb1))
  have HW1 := Lib.hid hW1
  have HB1 := Lib.hid hb1
  have x0 := b0.c0
  have x1 := b0.c1
  have x2 := b0.c2
  have x3 := b0.c3
  have y0 := b1.c0
  have y1 := b1.c1
  have y2 := b1.c2
  have y3 := b1.c3
  generalize x.1 = nm at HW1 x0 y0 hs ⊢
  clear h h' hy hy' hW1 b0 b1 hb1
  go_enter Try.func81, Try.ntmps81
  go_wp2_with fail
  rw [HW1.out]
  go_wp2_with fail
  refine HC.out.mono ?_
  rintro e w2 ⟨rfl, hb2⟩
  have HB2 := Lib.hid (HB1.out.trans (hb2.mono HB1.out.size))
  clear hb2
  go_wp2_with fail
  go_ret
  exact ⟨rfl, HB2.out⟩

set_option maxHeartbeats 800000 in
set_option maxRecDepth 100000 in
theorem eqDcS_same (xs : List Dc) (w : World) (A B : Option Addr) (c d : Nat) (hA : RL kDc w A xs) (hB : RL kDc w B xs) (hl : xs.length ≤ 9223372036854775807) :
    Calls Try.prog 45 #[.slice A xs.length c, .slice B xs.length d] w (LawYes w) := by
  have HA := Lib.hid hA
  have HB := Lib.hid hB
  clear hA hB
  go_enter Try.func45, Try.ntmps45
  go_wp2_with fail
  go_loopw [5] (fun i wr => ∃ k : Nat, k ≤ xs.length ∧ i = .int .i64 k ∧ Below w.heap.size w wr) (fun i _ => xs.length - (intOf i).toNat)
  case atStart => exact ⟨0, Nat.zero_le _, rfl, Below.refl _ _⟩
  case round =>
    obtain ⟨k, hk, rfl, hb⟩ := hrel
    by_cases hlt : k < xs.length
    · obtain ⟨ad, p, c0, c1, c2, c3, rfl, hpe, hr, q0, q1, q2, q3⟩ := rl_at4 kDc_n HA.out hb hlt
      obtain ⟨bd, p', d0, d1, d2, d3, rfl, hpe', hr', q0', q1', q2', q3'⟩ := rl_at4 kDc_n HB.out hb hlt
      have HR := Lib.hid hr
      have HR' := Lib.hid hr'
      have HBW := Lib.hid hb
      clear hr hr' hb
      go_wp2_with fail
      go_still_tail 8, (by kernel_rfl)
      change wpList _ _ _ _ _ wr.drew
      have hd : Below wr.heap.size wr wr.drew := (Below.refl _ _).drew
      have HC := Lib.hid (eqDc_same xs[k] wr.drew [c0, c1, c2, c3] [d0, d1, d2, d3] (kDc.keep HR.out hd) (kDc.keep HR'.out hd))
      have HB2 := Lib.hid (HBW.out.trans (hd.mono HBW.out.size))
      clear hd
      go_wp2_with fail
      refine HC.out.mono ?_
      rintro e w2 ⟨rfl, hb2⟩
      have HB3 := Lib.hid (HB2.out.trans (hb2.mono HB2.out.size))
      clear hb2
      go_wp2_with fail
      go_roundw
      case rel => exact ⟨k + 1, hlt, by go_num, HB3.out⟩
      case measure => simp [intOf]; omega
    · go_wp2_with fail
      go_ret
      exact ⟨rfl, hb⟩
end Go.Proofs.Ytlcpekpgkllbkaa

/-
  The laws' functions on a Schema. Written by genwrap.py.
-/
namespace Go.Proofs.Ytlcpekpgkllbkaa
open Go.RowKit

set_option maxHeartbeats 800000 in
theorem szSchema_any (t : Sc) (w : World) (cs : List Value) (left : Int) (h : RSc w t cs) (h0 : 0 ≤ left) (h1 : left ≤ 1048576) : Calls Try.prog 9 #[.agg cs.toArray, .int .i64 left] w (SzV (wSc t) left w) := by
  obtain ⟨A, d, rfl, hl, _, hp⟩ := h.open
  obtain ⟨W1, hW1⟩ : ∃ W1, w.alloc (.cells #[.slice A t.length d] 24) = W1 := ⟨_, rfl⟩
  obtain ⟨H, hH⟩ : ∃ H, w.heap.size = H := ⟨_, rfl⟩
  have hbox : Box1 W1 H 24 (.slice A t.length d) := by rw [← hW1, ← hH]; exact Box1.new w _ _
  have hb0 : Below w.heap.size w W1 := by rw [← hW1]; exact (Below.refl _ _).alloc (Nat.le_refl _) _
  have HC := Lib.hid (szDcS_any t W1 A d left (hp.keep hb0) hl h0 h1)
  have HW1 := Lib.hid hW1
  have HB0 := Lib.hid hb0
  have x0 := hbox.c0
  have HWX : Hid (wSc t = wL wDc t) := Lib.hid rfl
  generalize wSc t = wx at HWX ⊢
  generalize wL wDc t = wy at HWX HC
  generalize t.length = n at HC HW1 x0 ⊢
  clear h hp hl hW1 hbox hb0
  go_enter Try.func9, Try.ntmps9
  go_wp2_with fail
  rw [HW1.out]
  go_wp2_with fail
  refine HC.out.mono ?_
  rintro e w2 ⟨r, rfl, hs1, hs2, hs3, hb2⟩
  have HS3 := Lib.hid hs3
  have HB2 := Lib.hid (HB0.out.trans (hb2.mono HB0.out.size))
  clear hs3 hb2
  by_cases hz : r < 0
  · go_wp2_with fail
    go_ret
    exact ⟨-1, rfl, by omega, by omega, by omega, HB2.out⟩
  · go_wp2_with fail
    go_ret
    exact ⟨r, rfl, by omega, by omega, fun _ => by rw [HWX.out]; exact HS3.out (by omega), HB2.out⟩

set_option maxHeartbeats 1600000 in
set_option maxRecDepth 100000 in
theorem toSchema_any (t : Sc) (w : World) (cs : List Value) (h : RSc w t cs) (hw : wSc t ≤ 1048576) : Calls Try.prog 11 #[.agg cs.toArray] w (MadeSc t w) := by
  obtain ⟨A, d, rfl, hl, _, hp⟩ := h.open
  obtain ⟨W1, hW1⟩ : ∃ W1, ((w.alloc (.cells #[.slice A t.length d] 24)).alloc (.cells #[.slice none 0 0] 29)).alloc (.cells #[.slice none 0 0] 29) = W1 := ⟨_, rfl⟩
  obtain ⟨H, hH⟩ : ∃ H, w.heap.size = H := ⟨_, rfl⟩
  have b0 : Box1 W1 H 24 (.slice A t.length d) := by rw [← hW1, ← hH]; exact ((Box1.new w _ _).alloc _).alloc _
  have b1 : Box1 W1 (H + 1) 29 (.slice none 0 0) := by
    rw [← hW1, ← hH]
    have := (Box1.new (w.alloc (.cells #[.slice A t.length d] 24)) 29 (.slice none 0 0)).alloc (.cells #[.slice none 0 0] 29)
    simpa using this
  have b2 : Box1 W1 (H + 1 + 1) 29 (.slice none 0 0) := by
    rw [← hW1, ← hH]
    have := Box1.new ((w.alloc (.cells #[.slice A t.length d] 24)).alloc (.cells #[.slice none 0 0] 29)) 29 (.slice none 0 0)
    simpa using this
  have hb1 : Below w.heap.size w W1 := by rw [← hW1]; exact (((Below.refl _ _).alloc (Nat.le_refl _) _).alloc (by simp) _).alloc (by simp; omega) _
  have hs1 : W1.heap.size = H + 1 + 1 + 1 := by rw [← hW1, ← hH]; simp
  have HC := Lib.hid (toDcS_any t W1 A d (hp.keep hb1) hw)
  have HMK : Hid (∀ (U : World) (A5 : Option Addr) (d5 : Nat) (fp : List Nat), OL kDc 64 U t (.slice A5 t.length d5) fp → (∀ b ∈ fp, w.heap.size ≤ b ∧ b < U.heap.size) → Below w.heap.size w U → MadeSc t w (.returned (.agg #[.slice A5 t.length d5])) U) := Lib.hid (fun U A5 d5 fp h1 h2 h3 => ⟨A5, d5, fp, rfl, OSc.ol.2 h1, h2, h3⟩)
  have HW1 := Lib.hid hW1
  have HB1 := Lib.hid hb1
  have HS1 := Lib.hid hs1
  have HH := Lib.hid hH
  have B1 := Lib.hid b1
  have B2 := Lib.hid b2
  have x0 := b0.c0
  clear h hp hl hW1 b0 b1 b2 hb1 hs1 hw
  go_enter Try.func11, Try.ntmps11
  go_wp2_with fail
  rw [HW1.out]
  go_wp2_with fail
  refine HC.out.mono ?_
  rintro e w2 ⟨A5, d5, fp, rfl, ho, hfp, hb2⟩
  have hz2 := hb2.size
  have hz1 := HS1.out
  have t1 := B1.out.under hb2 (by omega)
  have t2 := B2.out.under hb2 (by omega)
  have g0 := t2.c0
  have gf0 := t2.free 0
  have k0 := t1.c0
  have kf0 := t1.free 0
  have HO := Lib.hid ho
  have HFP := Lib.hid hfp
  have HB2 := Lib.hid hb2
  have T1 := Lib.hid t1
  have HZ2 := Lib.hid hz2
  clear ho hfp hb2 t1 t2 hz2 hz1 x0
  obtain ⟨n, hn⟩ : ∃ n, t.length = n := ⟨_, rfl⟩
  rw [hn] at HMK HO ⊢
  clear hn
  go_wp2_with fail
  generalize hV : w2.setCell ⟨H + 1 + 1, 0, none⟩ (.slice A5 n d5) = V
  generalize hU : V.setCell ⟨H + 1, 0, none⟩ (.slice A5 n d5) = U
  have hg5 : w2.grownBy V (some (H + 1 + 1)) := by rw [← hV]; exact grown_set (World.grownBy.refl _ _) _
  have hg6 : V.grownBy U (some (H + 1)) := by rw [← hU]; exact grown_set (World.grownBy.refl _ _) _
  have u1 : Box1 U (H + 1) 29 (.slice A5 n d5) := by
    rw [← hU, ← hV]
    exact (T1.out.far (by show H + 1 ≠ H + 1 + 1; omega) _).set0 _
  have hww := HH.out
  have hz1 := HS1.out
  have hz2 := HZ2.out
  have hs5 := hg5.size
  have hs6 := hg6.size
  have hne : ∀ b ∈ fp, H + 1 + 1 < b := fun b hb => by have := (HFP.out b hb).1; omega
  have hO := OL.held (OL.held HO.out (K := fun i => some i ≠ some (H + 1 + 1)) ⟨hg5.os, hg5.tape, hg5.output, hg5.size, fun i hi hd => hg5.block i hi hd⟩ (fun b hb e => by injection e with e; have := hne b hb; omega)) (K := fun i => some i ≠ some (H + 1)) ⟨hg6.os, hg6.tape, hg6.output, hg6.size, fun i hi hd => hg6.block i hi hd⟩ (fun b hb e => by injection e with e; have := hne b hb; omega)
  have hbU : Below w.heap.size w U := ((HB1.out.trans (HB2.out.mono HB1.out.size)).grown hg5 (HB1.out.trans (HB2.out.mono HB1.out.size)).size (fun q hq => by injection hq with hq; omega)).grown hg6 (by have := (HB1.out.trans (HB2.out.mono HB1.out.size)).size; omega) (fun q hq => by injection hq with hq; omega)
  have q0 := u1.c0
  have HR := Lib.hid (HMK.out U A5 d5 fp hO (fun b hb => by have := HFP.out b hb; omega) hbU)
  clear hO hbU hne hg5 hg6 hV hU u1
  exact bodyPost_ret (v := .agg #[.slice A5 n d5]) (by simp [results, Try.results11, go_sem, q0]) rfl HR.out

set_option maxHeartbeats 800000 in
set_option maxRecDepth 100000 in
theorem eqSchema_same (t : Sc) (w : World) (cs ds : List Value) (h : RSc w t cs) (h' : RSc w t ds) : Calls Try.prog 13 #[.agg cs.toArray, .agg ds.toArray] w (LawYes w) := by
  obtain ⟨A, c, rfl, hl, _, hp⟩ := h.open
  obtain ⟨B, d, rfl, _, _, hp'⟩ := h'.open
  obtain ⟨W1, hW1⟩ : ∃ W1, (w.alloc (.cells #[.slice A t.length c] 29)).alloc (.cells #[.slice B t.length d] 29) = W1 := ⟨_, rfl⟩
  obtain ⟨H, hH⟩ : ∃ H, w.heap.size = H := ⟨_, rfl⟩
  have b0 : Box1 W1 H 29 (.slice A t.length c) := by rw [← hW1, ← hH]; exact (Box1.new w _ _).alloc _
  have b1 : Box1 W1 (H + 1) 29 (.slice B t.length d) := by
    rw [← hW1, ← hH]
    have := Box1.new (w.alloc (.cells #[.slice A t.length c] 29)) 29 (.slice B t.length d)
    simpa using this
  have hb1 : Below w.heap.size w W1 := by rw [← hW1]; exact ((Below.refl _ _).alloc (Nat.le_refl _) _).alloc (by simp) _
  have HC := Lib.hid (eqDcS_same t W1 A B c d (hp.keep hb1) (hp'.keep hb1) hl)
  have HW1 := Lib.hid hW1
  have HB1 := Lib.hid hb1
  have x0 := b0.c0
  have y0 := b1.c0
  generalize t.length = n at HC HW1 x0 y0 ⊢
  clear h h' hp hp' hl hW1 b0 b1 hb1
  go_enter Try.func13, Try.ntmps13
  go_wp2_with fail
  rw [HW1.out]
  go_wp2_with fail
  refine HC.out.mono ?_
  rintro e w2 ⟨rfl, hb2⟩
  have HB2 := Lib.hid (HB1.out.trans (hb2.mono HB1.out.size))
  clear hb2
  go_wp2_with fail
  go_ret
  exact ⟨rfl, HB2.out⟩
end Go.Proofs.Ytlcpekpgkllbkaa

/-
  The walks of the laws' heldTypeS, heldType.
-/
namespace Go.Proofs.Ytlcpekpgkllbkaa
open Go.RowKit

theorem HeldK.le {k k' : Int} {ks : List Ty} (h : HeldK k ks k') : k ≤ k' := by
  induction h with
  | nil => exact Int.le_refl _
  | cons => omega
theorem HeldK.split {k k' : Int} {t : Ty} {ks : List Ty} (h : HeldK k (t :: ks) k') : ∃ (n : Nat) (cs : List Ty) (k1 : Int), t = .node ⟨k, marksB (k + 1) n⟩ cs ∧ HeldK (k + 1 + n) cs k1 ∧ HeldK k1 ks k' := by
  cases h with
  | cons _ k1 _ n cs _ h1 h2 => exact ⟨n, cs, k1, rfl, h1, h2⟩
theorem HeldK.done {k k' : Int} (h : HeldK k [] k') : k = k' := by cases h; rfl
def CountsI (v : Int) (w : World) (e : Ending) (w' : World) : Prop := e = .returned (.int .i64 v) ∧ Below w.heap.size w w'
def HeldKids (ks : List Ty) : Prop := ∀ (w : World) (A : Option Addr) (d : Nat) (k k' : Int), RKids w A ks → HeldK k ks k' → ks.length ≤ 9223372036854775807 → 0 < k → k' ≤ 1000000000000 → Calls Try.prog 56 #[.slice A ks.length d, .int .i64 k] w (CountsI k' w)

set_option maxRecDepth 100000 in
set_option maxHeartbeats 2000000 in
theorem heldKids_any (ks : List Ty) (ih : ∀ t ∈ ks, HeldKids t.kids) : HeldKids ks := by
  intro w A d k0 k' hp hh hl hk0 hkb
  have HI := Lib.hid ih
  have HP := Lib.hid hp
  have HH := Lib.hid hh
  have hk01 := hh.le
  clear ih hp hh
  go_enter Try.func56, Try.ntmps56
  go_wp2_with fail
  go_loopw [1, 5] (fun kv iv wr => ∃ (i : Nat) (k : Int), i ≤ ks.length ∧ iv = .int .i64 i ∧ kv = .int .i64 k ∧ HeldK k (ks.drop i) k' ∧ 0 < k ∧ Below w.heap.size w wr) (fun _ iv _ => ks.length - (intOf iv).toNat)
  case atStart => exact ⟨0, k0, Nat.zero_le _, rfl, rfl, HH.out, hk0, Below.refl _ _⟩
  case round =>
    obtain ⟨i, k, hi, rfl, rfl, hheld, hk, hb⟩ := hrel
    have hkk := hheld.le
    by_cases hlt : i < ks.length
    · rw [List.drop_eq_getElem_cons hlt] at hheld
      obtain ⟨n, cs, k1, hnode, h1, h2⟩ := hheld.split
      obtain ⟨ad, p, c0, c1, c2, rfl, hpe, hr, q0, q1, q2⟩ := kid_at HP.out hb hlt
      have hK := HI.out ks[i] (List.getElem_mem hlt)
      rw [hnode] at hr hK
      obtain ⟨L, e1, B, d2, he, hsl, _, _, _, _, hcl, hkd⟩ := hr.out
      injection he with x0 he
      injection he with x1 he
      injection he with x2 _
      have y0 : c0 = .int .i64 k := x0
      have y1 : c1 = .slice L n e1 := by rw [x1]; show Value.slice L (marksB (k + 1) n).length e1 = _; rw [marksB_len]
      have hsl' : Sl wr L (marks (k + 1) n) := by rw [marks_eq]; exact hsl
      rw [y0] at q0
      rw [y1] at q1
      rw [x2] at q2
      have hk1 := h1.le
      have hk2 := h2.le
      have hkn : k + 1 + n ≤ 1000000000000 := by omega
      have hk1b : k1 ≤ 1000000000000 := by omega
      have hk1p : 0 < k1 := by omega
      have HC1 := Lib.hid (heldStringS_any L n e1 (k + 1) wr hsl' (by omega) (by omega))
      have HC2 := Lib.hid (fun (w2 : World) (hb2 : Below wr.heap.size wr w2) => hK w2 B d2 (k + 1 + n) k1 (hkd.keep hb2) h1 hcl (by omega) hk1b)
      have HKP := Lib.hid (fun (w2 : World) (hb2 : Below wr.heap.size wr w2) => (hb2.cell (World.block_lt_of_cell? wr _ q2)).trans q2)
      have H2 := Lib.hid h2
      have HB := Lib.hid hb
      have hk1n : ¬ k1 < 0 := by omega
      have hkk1 : k ≤ 1000000000000 := by omega
      have hkn0 : ¬ k + 1 + (n : Int) < 0 := by omega
      obtain ⟨z, hz⟩ : ∃ z, cs.length = z := ⟨_, rfl⟩
      rw [show (Tr.node (⟨k, marksB (k + 1) n⟩ : TyA) cs).kids = cs from rfl] at HC2
      rw [hz] at q2 HC2 HKP
      clear hheld hnode hr hK hsl hkd x0 x1 x2 y0 y1 hsl' h1 h2 hb hk1 hk2 hkk hcl hk01 hkb hz
      go_wp2_with fail
      refine HC1.out.mono ?_
      rintro e w2 ⟨rfl, hb2⟩
      have HB2 := Lib.hid (HB.out.trans (hb2.mono HB.out.size))
      have s2 := HKP.out w2 hb2
      have HC3 := Lib.hid (HC2.out w2 hb2)
      clear hb2 q0 q1 q2 HC1 HC2 HKP
      go_wp2_with fail
      refine HC3.out.mono ?_
      rintro e w3 ⟨rfl, hb3⟩
      have HB3 := Lib.hid (HB2.out.trans (hb3.mono HB2.out.size))
      clear hb3 s2 HC3
      go_wp2_with fail
      go_roundw
      case rel => exact ⟨i + 1, k1, hlt, by go_num, rfl, H2.out, hk1p, HB3.out⟩
      case measure => simp [intOf]; omega
    · have he : i = ks.length := by omega
      have hkv : k = k' := by
        rw [he, List.drop_length] at hheld
        exact hheld.done
      have HF : Hid (CountsI k' w (.returned (.int .i64 k)) wr) := ⟨by rw [hkv], hb⟩
      clear he hkv hheld hb hkk
      go_wp2_with fail
      go_ret
      exact HF.out
theorem heldTree : ∀ t : Ty, HeldKids t.kids := by
  refine Tr.ind ?_
  intro a ks ih
  exact heldKids_any ks ih

set_option maxRecDepth 100000 in
set_option maxHeartbeats 1600000 in
theorem heldType_any (t : Ty) (w : World) (cs : List Value) (k k' : Int) (h : RTy w t cs) (hh : HeldT k t k') (hk : 0 < k) (hkb : k' ≤ 1000000000000) : Calls Try.prog 19 #[.agg cs.toArray, .int .i64 k] w (CountsI k' w) := by
  obtain ⟨n, ks, hnode, hheld⟩ := hh
  have hke := hheld.le
  have hK := heldTree t
  rw [hnode] at h hK
  obtain ⟨L, c, A, d, rfl, k1, _, _, _, _, k6, hp⟩ := h.out
  have hml := marksB_len k n
  have hsl : Sl w L (marks k n) := by rw [marks_eq]; exact k1
  have hK2 : HeldKids ks := hK
  show Calls _ _ #[.agg #[.int .i64 t.top.kind, .slice L (marksB k n).length c, .slice A ks.length d], _] _ _
  rw [hml]
  generalize t.top.kind = q
  obtain ⟨W1, hW1⟩ : ∃ W1, w.alloc (.cells #[.int .i64 q, .slice L n c, .slice A ks.length d] 36) = W1 := ⟨_, rfl⟩
  obtain ⟨H, hH⟩ : ∃ H, w.heap.size = H := ⟨_, rfl⟩
  have b0 : Box3 W1 H 36 (.int .i64 q) (.slice L n c) (.slice A ks.length d) := by rw [← hW1, ← hH]; exact Box3.new w _ _ _ _
  have hb1 : Below w.heap.size w W1 := by rw [← hW1]; exact (Below.refl _ _).alloc (Nat.le_refl _) _
  have HC1 := Lib.hid (heldStringS_any L n c k W1 (hsl.below hb1) hk (by omega))
  have HC2 := Lib.hid (fun (w2 : World) (hb2 : Below w.heap.size w w2) => hK2 w2 A d (k + n) k' (hp.keep hb2) hheld k6 (by omega) hkb)
  have HW1 := Lib.hid hW1
  have HB1 := Lib.hid hb1
  have B1 := Lib.hid b0
  have x1 := b0.c1
  have hkn0 : ¬ k + (n : Int) < 0 := by omega
  have hk0 : ¬ k' < 0 := by omega
  have hkn : k + (n : Int) ≤ 1000000000000 := by omega
  obtain ⟨z, hz⟩ : ∃ z, ks.length = z := ⟨_, rfl⟩
  rw [hz] at HC2 HW1 B1 ⊢
  clear h hnode hheld hK k1 k6 hp hml hsl hK2 hW1 b0 hb1 hke hz
  go_enter Try.func19, Try.ntmps19
  go_wp2_with fail
  rw [HW1.out]
  go_wp2_with fail
  refine HC1.out.mono ?_
  rintro e w2 ⟨rfl, hb2⟩
  have HB2 := Lib.hid (HB1.out.trans (hb2.mono HB1.out.size))
  have s2 := (B1.out.under hb2 B1.out.lt).c2
  have HC3 := Lib.hid (HC2.out w2 HB2.out)
  clear hb2 x1 HC1 HC2
  go_wp2_with fail
  refine HC3.out.mono ?_
  rintro e w3 ⟨rfl, hb3⟩
  have HF : Hid (CountsI k' w (.returned (.int .i64 k')) w3) := ⟨rfl, HB2.out.trans (hb3.mono HB2.out.size)⟩
  clear hb3 s2 HC3
  go_wp2_with fail
  go_ret
  exact HF.out
end Go.Proofs.Ytlcpekpgkllbkaa
