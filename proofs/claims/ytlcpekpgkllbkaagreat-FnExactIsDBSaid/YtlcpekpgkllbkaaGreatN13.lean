/-
  Merged by program: KdVa, KDd, Db, SzDd, ToDd.
-/
import Derived.Test.YtlcpekpgkllbkaaGreatN6
import Derived.Test.YtlcpekpgkllbkaaGreatN7
import Derived.Test.YtlcpekpgkllbkaaGreatN11
import Derived.Test.YtlcpekpgkllbkaaGreatN12
import Derived.Test.YtlcpekpgkllbkaaGreatN10
import Derived.Test.YtlcpekpgkllbkaaGreatN8

/-
  Values and lists of values as kinds of data; the laws' functions on such lists in the words of kinds.
-/
namespace Go.Proofs.YtlcpekpgkllbkaaGreat
open Go.RowKit

theorem OVa.heldK {w w' : World} {t : Va} {cs : List Value} {fp : List Nat} {K : Nat → Prop} (h : OVa w t cs fp) (hH : Held K w w') (hK : ∀ b ∈ fp, K b) : OVa w' t cs fp := by
  induction h with
  | node a ks L A c d xs fs h0 h1 h2 h3 h4 h5 ih =>
    refine .node a ks L A c d xs fs h0 (own_heldK h1 hH fun b hb => hK b (by simp [hb])) h2 (own_heldK h3 hH fun b hb => hK b (by simp [hb])) (fun j t hj => ih j t hj fun b hb => hK b ?_) h5
    rw [List.mem_append, List.mem_flatMap]
    exact .inr ⟨j, List.mem_range.2 (List.getElem?_eq_some_iff.1 hj).1, hb⟩
def kVa : Kd Va where
  n := 4
  R := RVa
  O := OVa
  len h := h.len
  keep h hb := h.keep hb
  reads h := h.reads
  held h hH hK := h.heldK hH hK
  nodup h := h.nodup
theorem rl_va {w : World} {A : Option Addr} {ks : List Va} : RL kVa w A ks ↔ RVas w A ks := Iff.rfl
theorem kVas_shape {e : TypeId} {w : World} {ts : List Va} {cs : List Value} (h : (kVa.list e).R w ts cs) : ∃ TA ta td, cs = [.slice TA ta td] := by
  obtain ⟨A, d, rfl, _⟩ := h
  exact ⟨_, _, _, rfl⟩
theorem kVas_slice {e : TypeId} {w : World} {ts : List Va} {A : Option Addr} {n d : Nat} (h : (kVa.list e).R w ts [.slice A n d]) : n = ts.length ∧ ts.length ≤ 9223372036854775807 ∧ ts.length ≤ d ∧ RVas w A ts := by
  obtain ⟨A', d', e1, h1, h2, h3⟩ := h
  injection e1 with e1 _
  injection e1 with e1 e2 e3
  subst e1 e2 e3
  exact ⟨rfl, h1, h2, h3⟩
theorem szVas_K (ts : List Va) (w : World) (left : Int) {A : Option Addr} {n d : Nat} (h : (kVa.list 33).R w ts [.slice A n d]) (h0 : 0 ≤ left) (h1 : left ≤ 1048576) : Calls Tryz.prog 90 #[.slice A n d, .int .i64 left] w (SzV (wL wv ts) left w) := by
  obtain ⟨rfl, hl, _, hp⟩ := kVas_slice h
  exact szValueS_of ts (fun t _ => szValue_any t) w A d left hp hl h0 h1
theorem toVas_K (ts : List Va) (w : World) {A : Option Addr} {n d : Nat} (h : (kVa.list 33).R w ts [.slice A n d]) (hw : wL wv ts ≤ 1048576) : Calls Tryz.prog 92 #[.slice A n d] w (MadeK (kVa.list 33) ts (fun cs => cs.headD undef) w) := by
  obtain ⟨rfl, hl, _, hp⟩ := kVas_slice h
  refine (toValueS_of ts (fun t _ => toValue_any t) w A d hp hw).mono fun e w' ⟨A', d', xs, fs, he, ho, hk, hn, hb, hbw⟩ => ?_
  exact ⟨[.slice A' ts.length d'], _, he, ⟨_, rfl, A', d', xs, fs, rfl, hl, ho, hk, rfl, hn⟩, hb, hbw⟩
theorem eqVas_K (ts : List Va) (w : World) {A B : Option Addr} {n m c d : Nat} (h : (kVa.list 33).R w ts [.slice A n c]) (h' : (kVa.list 33).R w ts [.slice B m d]) : Calls Tryz.prog 94 #[.slice A n c, .slice B m d] w (LawYes w) := by
  obtain ⟨rfl, hl, _, hp⟩ := kVas_slice h
  obtain ⟨rfl, _, _, hp'⟩ := kVas_slice h'
  exact eqValueS_of ts (fun t _ => eqValue_same t) w A B c d hp hp' hl
end Go.Proofs.YtlcpekpgkllbkaaGreat

/-
  Structs of a name and a list of values (TableData). Written by genpair.py.
-/
namespace Go.Proofs.YtlcpekpgkllbkaaGreat
open Go.RowKit

abbrev Dd := ByteArray × List Va
def kDd : Kd Dd := kStr.prod (kVa.list 33)
theorem kDd_n : kDd.n = 2 := rfl
def wDd (x : Dd) : Nat := x.1.size + (wL wv) x.2
theorem kDd_open {w : World} {x : Dd} {cs : List Value} (h : kDd.R w x cs) : ∃ TA ta td, cs = [.string x.1, .slice TA ta td] ∧ x.1.size ≤ 9223372036854775807 ∧ (kVa.list 33).R w x.2 [.slice TA ta td] := by
  obtain ⟨c1, c2, rfl, ⟨rfl, h1⟩, h2⟩ := h
  obtain ⟨TA, ta, td, rfl⟩ := kVas_shape h2
  exact ⟨TA, ta, td, rfl, h1, h2⟩
theorem kDd_make {w : World} {x : Dd} {ys : List Value} (h1 : x.1.size ≤ 9223372036854775807) (h2 : (kVa.list 33).R w x.2 ys) : kDd.R w x (.string x.1 :: ys) := ⟨[.string x.1], ys, rfl, ⟨rfl, h1⟩, h2⟩
theorem kDd_omake {w : World} {x : Dd} {ys : List Value} {fp : List Nat} (h1 : x.1.size ≤ 9223372036854775807) (h2 : (kVa.list 33).O w x.2 ys fp) : kDd.O w x (.string x.1 :: ys) fp := ⟨[.string x.1], ys, [], fp, rfl, ⟨rfl, h1, rfl⟩, h2, rfl, (kVa.list 33).nodup h2⟩
theorem kDd_oopen {w : World} {x : Dd} {cs : List Value} {fp : List Nat} (h : kDd.O w x cs fp) : ∃ TA ta td, cs = [.string x.1, .slice TA ta td] ∧ x.1.size ≤ 9223372036854775807 ∧ (kVa.list 33).O w x.2 [.slice TA ta td] fp := by
  obtain ⟨c1, c2, f1, f2, rfl, ⟨rfl, h1, rfl⟩, h2, rfl, _⟩ := h
  obtain ⟨TA, ta, td, rfl⟩ := kVas_shape ((kVa.list 33).reads h2)
  exact ⟨TA, ta, td, rfl, h1, h2⟩
end Go.Proofs.YtlcpekpgkllbkaaGreat

/-
  DB: a struct of one field, a list of TableData. Written by genwrap.py.
-/
namespace Go.Proofs.YtlcpekpgkllbkaaGreat
open Go.RowKit

abbrev Db := List Dd
def RDb (w : World) (t : Db) (cs : List Value) : Prop := (kDd.list 92).R w t cs
def ODb (w : World) (t : Db) (cs : List Value) (fp : List Nat) : Prop := (kDd.list 92).O w t cs fp
def wDb (t : Db) : Nat := wL wDd t
theorem RDb.keep {w w' : World} {t : Db} {cs : List Value} (h : RDb w t cs) (hb : Below w.heap.size w w') : RDb w' t cs := (kDd.list 92).keep h hb
theorem RDb.open {w : World} {t : Db} {cs : List Value} (h : RDb w t cs) : ∃ A d, cs = [.slice A t.length d] ∧ t.length ≤ 9223372036854775807 ∧ t.length ≤ d ∧ RL kDd w A t := h
theorem RDb.one {w : World} {t : Db} {cs : List Value} (h : RDb w t cs) : ∃ c0, cs = [c0] := by
  obtain ⟨A, d, rfl, _⟩ := h
  exact ⟨_, rfl⟩
theorem ODb.reads {w : World} {t : Db} {cs : List Value} {fp : List Nat} (h : ODb w t cs fp) : RDb w t cs := (kDd.list 92).reads h
theorem ODb.under {w w' : World} {t : Db} {cs : List Value} {fp : List Nat} (h : ODb w t cs fp) (hb : Below w.heap.size w w') : ODb w' t cs fp := (kDd.list 92).under h hb
theorem ODb.ol {w : World} {t : Db} {s : Value} {fp : List Nat} : ODb w t [s] fp ↔ OL kDd 92 w t s fp := by
  constructor
  · rintro ⟨s', e, h⟩
    injection e with e _
    subst e
    exact h
  · intro h
    exact ⟨s, rfl, h⟩
/-- in new memory -/
def MadeDb (t : Db) (w : World) (e : Ending) (w' : World) : Prop :=
  ∃ (A : Option Addr) (d : Nat) (fp : List Nat), e = .returned (.agg #[.slice A t.length d]) ∧ ODb w' t [.slice A t.length d] fp ∧ (∀ b ∈ fp, w.heap.size ≤ b ∧ b < w'.heap.size) ∧ Below w.heap.size w w'
theorem len_wDb (t : Db) : t.length ≤ wDb t := by unfold wDb wL; omega
end Go.Proofs.YtlcpekpgkllbkaaGreat

/-
  How great a TableData is, as the laws reckon it. Written by genpair.py.
-/
namespace Go.Proofs.YtlcpekpgkllbkaaGreat
open Go.RowKit

set_option maxHeartbeats 800000 in
theorem szDd_any (x : Dd) (w : World) (cs : List Value) (left : Int) (h : kDd.R w x cs) (h0 : 0 ≤ left) (h1 : left ≤ 1048576) : Calls Tryz.prog 132 #[.agg cs.toArray, .int .i64 left] w (SzV (wDd x) left w) := by
  obtain ⟨TA, ta, td, rfl, hs, hy⟩ := kDd_open h
  obtain ⟨W1, hW1⟩ : ∃ W1, w.alloc (.cells #[.string x.1, .slice TA ta td] 178) = W1 := ⟨_, rfl⟩
  obtain ⟨H, hH⟩ : ∃ H, w.heap.size = H := ⟨_, rfl⟩
  have hbox : Box2 W1 H 178 (.string x.1) (.slice TA ta td) := by rw [← hW1, ← hH]; exact Box2.new w _ _ _
  have hb0 : Below w.heap.size w W1 := by rw [← hW1]; exact (Below.refl _ _).alloc (Nat.le_refl _) _
  have HC := Lib.hid (fun (l : Int) (g0 : 0 ≤ l) (g1 : l ≤ 1048576) => szVas_K x.2 W1 l ((kVa.list 33).keep hy hb0) g0 g1)
  have HW1 := Lib.hid hW1
  have HB0 := Lib.hid hb0
  have x0 := hbox.c0
  have x1 := hbox.c1
  have HWX : Hid (wDd x = x.1.size + (wL wv) x.2) := Lib.hid rfl
  generalize wDd x = wx at HWX ⊢
  generalize (wL wv) x.2 = wy at HWX HC
  generalize x.1 = nm at HWX HW1 hs x0 ⊢
  clear h hy hW1 hbox hb0
  by_cases hneg : left - nm.size < 0
  · go_enter Tryz.func132, Tryz.ntmps132
    go_wp2_with fail
    rw [HW1.out]
    go_wp2_with fail
    go_ret
    exact ⟨-1, rfl, by omega, by omega, by omega, HB0.out⟩
  · have HC1 := Lib.hid (HC.out (left - nm.size) (by omega) (by omega))
    go_enter Tryz.func132, Tryz.ntmps132
    go_wp2_with fail
    rw [HW1.out]
    go_wp2_with fail
    refine HC1.out.mono ?_
    rintro e w2 ⟨r, rfl, hs1, hs2, hs3, hb2⟩
    have HS3 := Lib.hid hs3
    have HB2 := Lib.hid (HB0.out.trans (hb2.mono HB0.out.size))
    clear hs3 hb2
    by_cases hz : r < 0
    · go_wp2_with fail
      go_ret
      exact ⟨-1, rfl, by omega, by omega, by omega, HB2.out⟩
    · go_wp2_with fail
      go_ret
      refine ⟨r, rfl, by omega, by omega, fun _ => ?_, HB2.out⟩
      have e2 := HS3.out (by omega)
      have e3 := HWX.out
      omega

set_option maxHeartbeats 800000 in
theorem szDdS_any (xs : List Dd) (w : World) (A : Option Addr) (d : Nat) (left : Int) (hp : RL kDd w A xs) (hl : xs.length ≤ 9223372036854775807) (h0 : 0 ≤ left) (h1 : left ≤ 1048576) :
    Calls Tryz.prog 84 #[.slice A xs.length d, .int .i64 left] w (SzV (wL wDd xs) left w) := by
  have HP := Lib.hid hp
  clear hp
  by_cases hneg : left - xs.length < 0
  · go_enter Tryz.func84, Tryz.ntmps84
    go_wp2_with fail
    go_ret
    exact ⟨-1, rfl, by omega, by omega, by omega, Below.refl _ _⟩
  · go_enter Tryz.func84, Tryz.ntmps84
    go_wp2_with fail
    go_loopw [1, 5] (fun l i wr => ∃ k : Nat, k ≤ xs.length ∧ i = .int .i64 k ∧ ∃ r : Int, l = .int .i64 r ∧ 0 ≤ r ∧ r + xs.length + ((xs.take k).map wDd).sum = left ∧ Below w.heap.size w wr) (fun _ i _ => xs.length - (intOf i).toNat)
    case atStart => exact ⟨0, Nat.zero_le _, rfl, _, rfl, by omega, by simp, Below.refl _ _⟩
    case round =>
      obtain ⟨k, hk, rfl, r, rfl, hr0, hr, hb⟩ := hrel
      have hr1 : r ≤ 1048576 := by omega
      have HR := Lib.hid hr
      clear hr
      by_cases hlt : k < xs.length
      · obtain ⟨ad, p, c0, c1, rfl, hpe, hrt, q0, q1⟩ := rl_at2 kDd_n HP.out hb hlt
        have hst := sum_take_succ wDd xs k hlt
        have hc := szDd_any xs[k] wr [c0, c1] r hrt hr0 hr1
        obtain ⟨m, hm⟩ : ∃ m, wDd xs[k] = m := ⟨_, rfl⟩
        rw [hm] at hst hc
        have HC := Lib.hid hc
        have HST := Lib.hid hst
        clear hc hrt hst hm
        go_wp2_with fail
        refine HC.out.mono ?_
        rintro e w2 ⟨r', rfl, hr2, hr3, hr4, hb2⟩
        have HB3 := Lib.hid (hb.trans (hb2.mono hb.size))
        have HR4 := Lib.hid hr4
        clear hr4 hb2
        by_cases hz : r' < 0
        · go_wp2_with fail
          go_ret
          exact ⟨-1, rfl, by omega, by omega, by omega, HB3.out⟩
        · go_wp2_with fail
          go_roundw
          case rel => exact ⟨k + 1, hlt, by go_num, r', rfl, by omega, by have h1 := HR4.out (by omega); have h2 := HR.out; have h3 := HST.out; omega, HB3.out⟩
          case measure => simp [intOf]; omega
      · have he : k = xs.length := by omega
        have HS : Hid (r + wL wDd xs = left) := by
          have h := HR.out
          rw [he, List.take_length] at h
          show _ = _
          unfold wL
          omega
        clear he
        go_wp2_with fail
        go_ret
        exact ⟨r, rfl, by have := HR.out; omega, by omega, fun _ => HS.out, hb⟩
end Go.Proofs.YtlcpekpgkllbkaaGreat

/-
  A copy of a TableData in new memory. Written by genpair.py.
-/
namespace Go.Proofs.YtlcpekpgkllbkaaGreat
open Go.RowKit

theorem infoDd : (Tryz.prog.info? 92).map (fun i => (i.zero, i.size, i.bytes)) = some (some (.agg #[.string ⟨#[]⟩, .slice none 0 0]), 2, 40) := by kernel_rfl

set_option maxHeartbeats 1600000 in
set_option maxRecDepth 100000 in
theorem toDd_any (x : Dd) (w : World) (cs : List Value) (h : kDd.R w x cs) (hw : wDd x ≤ 1048576) : Calls Tryz.prog 134 #[.agg cs.toArray] w (MadeK kDd x (fun cs => .agg cs.toArray) w) := by
  obtain ⟨TA, ta, td, rfl, hs, hy⟩ := kDd_open h
  obtain ⟨W1, hW1⟩ : ∃ W1, ((w.alloc (.cells #[.string x.1, .slice TA ta td] 178)).alloc (.cells #[.string ⟨#[]⟩, .slice none 0 0] 92)).alloc (.cells #[.string x.1, .slice none 0 0] 92) = W1 := ⟨_, rfl⟩
  obtain ⟨H, hH⟩ : ∃ H, w.heap.size = H := ⟨_, rfl⟩
  have b0 : Box2 W1 H 178 (.string x.1) (.slice TA ta td) := by rw [← hW1, ← hH]; exact ((Box2.new w _ _ _).alloc _).alloc _
  have b1 : Box2 W1 (H + 1) 92 (.string ⟨#[]⟩) (.slice none 0 0) := by
    rw [← hW1, ← hH]
    have := (Box2.new (w.alloc (.cells #[.string x.1, .slice TA ta td] 178)) 92 (.string ⟨#[]⟩) (.slice none 0 0)).alloc (.cells #[.string x.1, .slice none 0 0] 92)
    simpa using this
  have b2 : Box2 W1 (H + 1 + 1) 92 (.string x.1) (.slice none 0 0) := by
    rw [← hW1, ← hH]
    have := Box2.new ((w.alloc (.cells #[.string x.1, .slice TA ta td] 178)).alloc (.cells #[.string ⟨#[]⟩, .slice none 0 0] 92)) 92 (.string x.1) (.slice none 0 0)
    simpa using this
  have hb1 : Below w.heap.size w W1 := by rw [← hW1]; exact (((Below.refl _ _).alloc (Nat.le_refl _) _).alloc (by simp) _).alloc (by simp; omega) _
  have hs1 : W1.heap.size = H + 1 + 1 + 1 := by rw [← hW1, ← hH]; simp
  have hwy : (wL wv) x.2 ≤ 1048576 := by unfold wDd at hw; omega
  have HC := Lib.hid (toVas_K x.2 W1 ((kVa.list 33).keep hy hb1) hwy)
  have HMK : Hid (∀ (U : World) (rs : List Value) (fp : List Nat), (kVa.list 33).O U x.2 rs fp → (∀ b ∈ fp, w.heap.size ≤ b ∧ b < U.heap.size) → Below w.heap.size w U → MadeK kDd x (fun cs => .agg cs.toArray) w (.returned (.agg (.string x.1 :: rs).toArray)) U) := Lib.hid (fun U rs fp h1 h2 h3 => ⟨_, fp, rfl, kDd_omake hs h1, h2, h3⟩)
  have HW1 := Lib.hid hW1
  have HB1 := Lib.hid hb1
  have HS1 := Lib.hid hs1
  have HH := Lib.hid hH
  have B1 := Lib.hid b1
  have B2 := Lib.hid b2
  have x0 := b0.c0
  have x1 := b0.c1
  clear h hy hW1 b0 b1 b2 hb1 hs1 hw hwy
  generalize x.1 = nm at HW1 HMK B2 hs x0 ⊢
  go_enter Tryz.func134, Tryz.ntmps134
  go_wp2_with fail
  rw [HW1.out]
  go_wp2_with fail
  refine HC.out.mono ?_
  rintro e w2 ⟨rs, fp, he, ho, hfp, hb2⟩
  obtain ⟨RA, ra, rd, rfl⟩ := kVas_shape ((kVa.list 33).reads ho)
  subst he
  have hz2 := hb2.size
  have hz1 := HS1.out
  have t1 := B1.out.under hb2 (by omega)
  have t2 := B2.out.under hb2 (by omega)
  have g0 := t2.c0
  have g1 := t2.c1
  have gf1 := t2.free 1
  have k0 := t1.c0
  have k1 := t1.c1
  have kf0 := t1.free 0
  have kf1 := t1.free 1
  have HO := Lib.hid ho
  have HFP := Lib.hid hfp
  have HB2 := Lib.hid hb2
  have T1 := Lib.hid t1
  have HZ2 := Lib.hid hz2
  clear ho hfp hb2 t1 t2 hz2 hz1 x0 x1
  go_wp2_with fail
  generalize hV : (w2.setCell ⟨H + 1 + 1, 1, none⟩ (.slice RA ra rd)) = V
  generalize hU : ((V.setCell ⟨H + 1, 0, none⟩ (.string nm)).setCell ⟨H + 1, 1, none⟩ (.slice RA ra rd)) = U
  have hg5 : w2.grownBy V (some (H + 1 + 1)) := by rw [← hV]; exact grown_set (World.grownBy.refl _ _) _
  have hg6 : V.grownBy U (some (H + 1)) := by rw [← hU]; exact grown_set (grown_set (World.grownBy.refl _ _) _) _
  have u1 : Box2 U (H + 1) 92 (.string nm) (.slice RA ra rd) := by
    rw [← hU, ← hV]
    exact (((T1.out.far (by show H + 1 ≠ H + 1 + 1; omega) _).set0 _).set1 _)
  have hww := HH.out
  have hz1 := HS1.out
  have hz2 := HZ2.out
  have hs5 := hg5.size
  have hs6 := hg6.size
  have hne : ∀ b ∈ fp, H + 1 + 1 < b := fun b hb => by have := (HFP.out b hb).1; omega
  have hO := (kVa.list 33).okeep ((kVa.list 33).okeep HO.out hg5 (fun b hb e => by injection e with e; have := hne b hb; omega)) hg6 (fun b hb e => by injection e with e; have := hne b hb; omega)
  have hbU : Below w.heap.size w U := ((HB1.out.trans (HB2.out.mono HB1.out.size)).grown hg5 (HB1.out.trans (HB2.out.mono HB1.out.size)).size (fun q hq => by injection hq with hq; omega)).grown hg6 (by have := (HB1.out.trans (HB2.out.mono HB1.out.size)).size; omega) (fun q hq => by injection hq with hq; omega)
  have q0 := u1.c0
  have q1 := u1.c1
  have HR := Lib.hid (HMK.out U _ fp hO (fun b hb => by have := HFP.out b hb; omega) hbU)
  clear hO hbU hne hg5 hg6 hV hU u1
  exact bodyPost_ret (v := .agg #[.string nm, .slice RA ra rd]) (by simp [results, Tryz.results134, go_sem, q0, q1]) rfl HR.out

set_option maxHeartbeats 1600000 in
set_option maxRecDepth 100000 in
theorem toDdS_any (xs : List Dd) (w : World) (A : Option Addr) (d : Nat) (hp : RL kDd w A xs) (hw : wL wDd xs ≤ 1048576) : Calls Tryz.prog 86 #[.slice A xs.length d] w (MadeL' kDd 92 xs w) := by
  obtain ⟨i0, hi, hz0, hz1, hz2⟩ := info_parts infoDd
  have hl : xs.length ≤ 1048576 := by unfold wL at hw; omega
  have HP := Lib.hid hp
  have HWT := Lib.hid hw
  clear hp hw
  go_enter Tryz.func86, Tryz.ntmps86
  go_wp2_with (at_make; refine wpList_make_full _ rfl _ _ 27 rfl w.heap.size 92 i0 (.agg #[.string ⟨#[]⟩, .slice none 0 0]) 2 Tryz.underlying27 hi hz0 hz1 _ _ _ _ xs.length rfl rfl rfl rfl (by rw [hz2]; omega) (by unfold maxLen; omega) (Nat.le_refl _) ?_; intro w0 hown0 hgrow0)
  have hb0 : Below w.heap.size w w0 := (Below.refl _ _).grown hgrow0 (Nat.le_refl _) (fun k hk => by cases hk)
  go_loopw [4] (fun i wr => ToLInv kDd 92 xs w i wr) (fun i _ => xs.length - (intOf i).toNat)
  case atStart => exact tolinv_zero kDd 92 xs hown0 hb0
  case round =>
    obtain ⟨k, cells, fs, hk, rfl, hown, hkid, hnd, hbd, hb⟩ := hrel
    have HO := Lib.hid hown
    have HK := Lib.hid hkid
    have HN := Lib.hid hnd
    have HBD := Lib.hid hbd
    have HB := Lib.hid hb
    clear hown hkid hnd hbd
    by_cases hlt : k < xs.length
    · obtain ⟨ad, p, c0, c1, rfl, hpe, hrt, q0, q1⟩ := rl_at2 kDd_n HP.out hb hlt
      have HC := Lib.hid (toDd_any xs[k] wr [c0, c1] hrt (wL_le hlt HWT.out).1)
      clear hrt
      go_wp2_with fail
      refine HC.out.mono ?_
      rintro e w2 ⟨rs, fp, he, hot, hfp, hb2⟩
      obtain ⟨RA, ra, rd, hrs, _, _⟩ := kDd_oopen hot
      subst hrs
      subst he
      generalize xs[k].1 = nm at hot ⊢
      have ho2 : w2.ownsRow w.heap.size 92 2 (.slice (some ⟨w.heap.size, 0, none⟩) xs.length xs.length) xs.length cells := HO.out.kept (row := none) ⟨hb2.os, hb2.tape, hb2.output, hb2.size, fun i hi _ => hb2.block i hi⟩ (.inr (by simp [Value.ownBlock]))
      have hxl : cells.length = xs.length * 2 := ho2.1
      have m0 : w2.cell? ⟨w.heap.size, k * 2, none⟩ = some (cells[k * 2]'(by omega)) := by rw [ho2.cellAt _ (by omega)]; exact List.getElem?_eq_getElem _
      have m1 : w2.cell? ⟨w.heap.size, k * 2 + 1, none⟩ = some (cells[k * 2 + 1]'(by omega)) := by rw [ho2.cellAt _ (by omega)]; exact List.getElem?_eq_getElem _
      have f0 := ho2.frozenAt (k * 2)
      have f1 := ho2.frozenAt (k * 2 + 1)
      have HR : Hid (∀ i, i = Value.int .i64 ((k + 1 : Nat) : Int) → ToLInv kDd 92 xs w i (store2 w2 w.heap.size k (.string nm) (.slice RA ra rd))) := fun i hi => tolinv_store2 kDd_n hlt hi HO.out HK.out HN.out HBD.out HB.out hb2 hot hfp
      clear hot hfp hb2 ho2 hb
      go_wp2_with fail
      go_roundw
      case rel => exact HR.out _ (by go_num)
      case measure => simp [intOf]; omega
    · have he : k = xs.length := by omega
      subst he
      have HR := Lib.hid (tolinv_done (a := kDd) (e := 92) (xs := xs) (w := w) (wr := wr) (by omega) ⟨_, cells, fs, Nat.le_refl _, rfl, HO.out, HK.out, HN.out, HBD.out, HB.out⟩)
      clear HO HK HN HBD hb
      go_wp2_with fail
      go_ret
      exact HR.out
end Go.Proofs.YtlcpekpgkllbkaaGreat
