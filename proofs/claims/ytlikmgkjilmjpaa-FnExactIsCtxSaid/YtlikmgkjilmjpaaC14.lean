/-
  Merged by program: TyEq, KdTy, KTg.
-/
import Derived.Test.YtlikmgkjilmjpaaC2
import Derived.Test.YtlikmgkjilmjpaaC8
import Derived.Test.YtlikmgkjilmjpaaC6
import Derived.StillTailTactics
import Derived.Test.YtlikmgkjilmjpaaC10
import Derived.Test.YtlikmgkjilmjpaaC13
import Derived.Test.YtlikmgkjilmjpaaC9
import Derived.Test.YtlikmgkjilmjpaaC11

/-
  The comparison of a type with itself, wherever the two lie: 'eqType', 'eqTypeS'.
-/
namespace Go.Proofs.Ytlikmgkjilmjpaa
open Go.RowKit

def EqK (t : Ty) : Prop := ∀ (w : World) (cs ds : List Value), RTy w t cs → RTy w t ds → Calls Try.prog 19 #[.agg cs.toArray, .agg ds.toArray] w (LawYes w)

set_option maxHeartbeats 800000 in
set_option maxRecDepth 100000 in
theorem eqTypeS_of (ks : List Ty) (ih : ∀ t ∈ ks, EqK t) (w : World) (A B : Option Addr) (c d : Nat) (hA : RKids w A ks) (hB : RKids w B ks) (hl : ks.length ≤ 9223372036854775807) :
    Calls Try.prog 50 #[.slice A ks.length c, .slice B ks.length d] w (LawYes w) := by
  have HA := Lib.hid hA
  have HB := Lib.hid hB
  have HI := Lib.hid ih
  clear hA hB ih
  go_enter Try.func50, Try.ntmps50
  go_wp2_with fail
  go_loopw [5] (fun i wr => ∃ k : Nat, k ≤ ks.length ∧ i = .int .i64 k ∧ Below w.heap.size w wr) (fun i _ => ks.length - (intOf i).toNat)
  case atStart => exact ⟨0, Nat.zero_le _, rfl, Below.refl _ _⟩
  case round =>
    obtain ⟨k, hk, rfl, hb⟩ := hrel
    by_cases hlt : k < ks.length
    · obtain ⟨ad, p, c0, c1, c2, rfl, hpe, hr, q0, q1, q2⟩ := kid_at HA.out hb hlt
      obtain ⟨bd, p', d0, d1, d2, rfl, hpe', hr', q0', q1', q2'⟩ := kid_at HB.out hb hlt
      have HR := Lib.hid hr
      have HR' := Lib.hid hr'
      have HBW := Lib.hid hb
      clear hr hr' hb
      go_wp2_with fail
      go_still_tail 8, (by kernel_rfl)
      change wpList _ _ _ _ _ wr.drew
      have hd : Below wr.heap.size wr wr.drew := (Below.refl _ _).drew
      have HC := Lib.hid (HI.out ks[k] (List.getElem_mem hlt) wr.drew [c0, c1, c2] [d0, d1, d2] (HR.out.keep hd) (HR'.out.keep hd))
      have HB2 := Lib.hid (HBW.out.trans (hd.mono HBW.out.size))
      clear hd
      go_wp2_with fail
      refine HC.out.mono ?_
      rintro e w2 ⟨rfl, hb2⟩
      have HB3 := Lib.hid (HB2.out.trans (hb2.mono HB2.out.size))
      clear hb2
      go_wp2_with fail
      go_roundw
      case rel => exact ⟨k + 1, hlt, by go_num, HB3.out⟩
      case measure => simp [intOf]; omega
    · go_wp2_with fail
      go_ret
      exact ⟨rfl, hb⟩

set_option maxHeartbeats 800000 in
set_option maxRecDepth 100000 in
theorem eqType_same : ∀ t : Ty, EqK t := by
  refine Tr.ind ?_
  intro a ks ih w cs ds h h'
  obtain ⟨L, c, A, d, rfl, k1, k2, k3, k4, k5, k6, hp⟩ := h.out
  obtain ⟨L', c', A', d', rfl, k1', _, _, _, _, _, hp'⟩ := h'.out
  obtain ⟨W1, hW1⟩ : ∃ W1, (w.alloc (.cells #[.int .i64 a.kind, .slice L a.labels.length c, .slice A ks.length d] 41)).alloc (.cells #[.int .i64 a.kind, .slice L' a.labels.length c', .slice A' ks.length d'] 41) = W1 := ⟨_, rfl⟩
  obtain ⟨H, hH⟩ : ∃ H, w.heap.size = H := ⟨_, rfl⟩
  have b0 : Box3 W1 H 41 (.int .i64 a.kind) (.slice L a.labels.length c) (.slice A ks.length d) := by rw [← hW1, ← hH]; exact (Box3.new w _ _ _ _).alloc _
  have b1 : Box3 W1 (H + 1) 41 (.int .i64 a.kind) (.slice L' a.labels.length c') (.slice A' ks.length d') := by
    rw [← hW1, ← hH]
    have := Box3.new (w.alloc (.cells #[.int .i64 a.kind, .slice L a.labels.length c, .slice A ks.length d] 41)) 41 (.int .i64 a.kind) (.slice L' a.labels.length c') (.slice A' ks.length d')
    simpa using this
  have hb1 : Below w.heap.size w W1 := by rw [← hW1]; exact ((Below.refl _ _).alloc (Nat.le_refl _) _).alloc (by simp) _
  have HW1 := Lib.hid hW1
  have HP := Lib.hid (hp.keep hb1)
  have HP' := Lib.hid (hp'.keep hb1)
  have HL := Lib.hid (k1.below hb1)
  have HL' := Lib.hid (k1'.below hb1)
  have HB1 := Lib.hid hb1
  have HI := Lib.hid ih
  have x0 := b0.c0
  have x1 := b0.c1
  have x2 := b0.c2
  have y0 := b1.c0
  have y1 := b1.c1
  have y2 := b1.c2
  have B0 := Lib.hid b0
  have B1 := Lib.hid b1
  clear hp hp' ih k1 k1' k5 h h' hW1 b0 b1 hb1
  go_enter Try.func19, Try.ntmps19
  go_wp2_with fail
  rw [HW1.out]
  refine (eqL_any _ _ _ _ a.labels W1 HL.out HL'.out k4).mono ?_
  rintro e w2 ⟨rfl, hb2⟩
  have hz : H + 1 < W1.heap.size := B1.out.lt
  have z2 := (B0.out.under hb2 (by omega)).c2
  have v2 := (B1.out.under hb2 (by omega)).c2
  have HP2 := Lib.hid (HP.out.keep hb2)
  have HP2' := Lib.hid (HP'.out.keep hb2)
  have HB2 := Lib.hid (HB1.out.trans (hb2.mono HB1.out.size))
  clear hb2 x0 x1 x2 y0 y1 y2
  go_wp2_with fail
  refine (eqTypeS_of ks HI.out w2 A A' d d' HP2.out HP2'.out k6).mono ?_
  rintro e w3 ⟨rfl, hb3⟩
  have HB3 := Lib.hid (HB2.out.trans (hb3.mono HB2.out.size))
  clear hb3 z2 v2
  go_wp2_with fail
  go_ret
  exact ⟨rfl, HB3.out⟩
end Go.Proofs.Ytlikmgkjilmjpaa

/-
  Types as a kind of data; the laws' functions on them in the words of kinds.
-/
namespace Go.Proofs.Ytlikmgkjilmjpaa
open Go.RowKit

theorem kTy_shape {w : World} {t : Ty} {cs : List Value} (h : kTy.R w t cs) : ∃ tk TL TA tl tc ta td, cs = [.int .i64 tk, .slice TL tl tc, .slice TA ta td] := by
  cases t with
  | node a ks =>
    obtain ⟨L, c, A, d, rfl, _⟩ := RTy.out h
    exact ⟨_, _, _, _, _, _, _, rfl⟩
theorem szTy_K (t : Ty) (w : World) (cs : List Value) (left : Int) (h : kTy.R w t cs) (h0 : 0 ≤ left) (h1 : left ≤ 1048576) : Calls Try.prog 15 #[.agg cs.toArray, .int .i64 left] w (SzV (wt t) left w) := szType_any t w cs left h h0 h1
theorem toTy_K (t : Ty) (w : World) (cs : List Value) (h : kTy.R w t cs) (hw : wt t ≤ 1048576) : Calls Try.prog 17 #[.agg cs.toArray] w (MadeK kTy t (fun cs => .agg cs.toArray) w) :=
  (toType_any t w cs h hw).mono fun _ _ ⟨_, _, _, _, fp, he, ho, hb, hbw⟩ => ⟨_, fp, he, ho, hb, hbw⟩
theorem eqTy_K (t : Ty) (w : World) (cs ds : List Value) (h : kTy.R w t cs) (h' : kTy.R w t ds) : Calls Try.prog 19 #[.agg cs.toArray, .agg ds.toArray] w (LawYes w) := eqType_same t w cs ds h h'
end Go.Proofs.Ytlikmgkjilmjpaa

/-
  Structs of a name and a type (Typing). Written by genpair.py.
-/
namespace Go.Proofs.Ytlikmgkjilmjpaa
open Go.RowKit

abbrev Tg := ByteArray × Ty
def kTg : Kd Tg := kStr.prod kTy
theorem kTg_n : kTg.n = 4 := rfl
def wTg (x : Tg) : Nat := x.1.size + wt x.2
theorem kTg_open {w : World} {x : Tg} {cs : List Value} (h : kTg.R w x cs) : ∃ tk TL TA tl tc ta td, cs = [.string x.1, .int .i64 tk, .slice TL tl tc, .slice TA ta td] ∧ x.1.size ≤ 9223372036854775807 ∧ kTy.R w x.2 [.int .i64 tk, .slice TL tl tc, .slice TA ta td] := by
  obtain ⟨c1, c2, rfl, ⟨rfl, h1⟩, h2⟩ := h
  obtain ⟨tk, TL, TA, tl, tc, ta, td, rfl⟩ := kTy_shape h2
  exact ⟨tk, TL, TA, tl, tc, ta, td, rfl, h1, h2⟩
theorem kTg_make {w : World} {x : Tg} {ys : List Value} (h1 : x.1.size ≤ 9223372036854775807) (h2 : kTy.R w x.2 ys) : kTg.R w x (.string x.1 :: ys) := ⟨[.string x.1], ys, rfl, ⟨rfl, h1⟩, h2⟩
theorem kTg_omake {w : World} {x : Tg} {ys : List Value} {fp : List Nat} (h1 : x.1.size ≤ 9223372036854775807) (h2 : kTy.O w x.2 ys fp) : kTg.O w x (.string x.1 :: ys) fp := ⟨[.string x.1], ys, [], fp, rfl, ⟨rfl, h1, rfl⟩, h2, rfl, kTy.nodup h2⟩
theorem kTg_oopen {w : World} {x : Tg} {cs : List Value} {fp : List Nat} (h : kTg.O w x cs fp) : ∃ tk TL TA tl tc ta td, cs = [.string x.1, .int .i64 tk, .slice TL tl tc, .slice TA ta td] ∧ x.1.size ≤ 9223372036854775807 ∧ kTy.O w x.2 [.int .i64 tk, .slice TL tl tc, .slice TA ta td] fp := by
  obtain ⟨c1, c2, f1, f2, rfl, ⟨rfl, h1, rfl⟩, h2, rfl, _⟩ := h
  obtain ⟨tk, TL, TA, tl, tc, ta, td, rfl⟩ := kTy_shape (kTy.reads h2)
  exact ⟨tk, TL, TA, tl, tc, ta, td, rfl, h1, h2⟩
end Go.Proofs.Ytlikmgkjilmjpaa
