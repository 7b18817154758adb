/-
  Merged by program: EqTg, KDc, Box1.
-/
import Derived.Test.YtlikmgkjilmjpaaC14
import Derived.StillTailTactics
import Derived.Test.YtlikmgkjilmjpaaC11
import Derived.Test.YtlikmgkjilmjpaaC1
import Derived.Laws.Rows

/-
  The comparison of a Typing with itself, wherever the two lie. Written by genpair.py.
-/
namespace Go.Proofs.Ytlikmgkjilmjpaa
open Go.RowKit

set_option maxHeartbeats 800000 in
set_option maxRecDepth 100000 in
theorem eqTg_same (x : Tg) (w : World) (cs ds : List Value) (h : kTg.R w x cs) (h' : kTg.R w x ds) : Calls Try.prog 71 #[.agg cs.toArray, .agg ds.toArray] w (LawYes w) := by
  obtain ⟨tk, TL, TA, tl, tc, ta, td, rfl, hs, hy⟩ := kTg_open h
  obtain ⟨tk', TL', TA', tl', tc', ta', td', rfl, _, hy'⟩ := kTg_open h'
  obtain ⟨W1, hW1⟩ : ∃ W1, (w.alloc (.cells #[.string x.1, .int .i64 tk, .slice TL tl tc, .slice TA ta td] 89)).alloc (.cells #[.string x.1, .int .i64 tk', .slice TL' tl' tc', .slice TA' ta' td'] 89) = W1 := ⟨_, rfl⟩
  obtain ⟨H, hH⟩ : ∃ H, w.heap.size = H := ⟨_, rfl⟩
  have b0 : Box4 W1 H 89 (.string x.1) (.int .i64 tk) (.slice TL tl tc) (.slice TA ta td) := by rw [← hW1, ← hH]; exact (Box4.new w _ _ _ _ _).alloc _
  have b1 : Box4 W1 (H + 1) 89 (.string x.1) (.int .i64 tk') (.slice TL' tl' tc') (.slice TA' ta' td') := by
    rw [← hW1, ← hH]
    have := Box4.new (w.alloc (.cells #[.string x.1, .int .i64 tk, .slice TL tl tc, .slice TA ta td] 89)) 89 (.string x.1) (.int .i64 tk') (.slice TL' tl' tc') (.slice TA' ta' td')
    simpa using this
  have hb1 : Below w.heap.size w W1 := by rw [← hW1]; exact ((Below.refl _ _).alloc (Nat.le_refl _) _).alloc (by simp) _
  have HC := Lib.hid (eqTy_K x.2 W1 _ _ (kTy.keep hy hb1) (kTy.keep hy' hb1))
  have HW1 := Lib.hid hW1
  have HB1 := Lib.hid hb1
  have x0 := b0.c0
  have x1 := b0.c1
  have x2 := b0.c2
  have x3 := b0.c3
  have y0 := b1.c0
  have y1 := b1.c1
  have y2 := b1.c2
  have y3 := b1.c3
  generalize x.1 = nm at HW1 x0 y0 hs ⊢
  clear h h' hy hy' hW1 b0 b1 hb1
  go_enter Try.func71, Try.ntmps71
  go_wp2_with fail
  rw [HW1.out]
  go_wp2_with fail
  refine HC.out.mono ?_
  rintro e w2 ⟨rfl, hb2⟩
  have HB2 := Lib.hid (HB1.out.trans (hb2.mono HB1.out.size))
  clear hb2
  go_wp2_with fail
  go_ret
  exact ⟨rfl, HB2.out⟩

set_option maxHeartbeats 800000 in
set_option maxRecDepth 100000 in
theorem eqTgS_same (xs : List Tg) (w : World) (A B : Option Addr) (c d : Nat) (hA : RL kTg w A xs) (hB : RL kTg w B xs) (hl : xs.length ≤ 9223372036854775807) :
    Calls Try.prog 34 #[.slice A xs.length c, .slice B xs.length d] w (LawYes w) := by
  have HA := Lib.hid hA
  have HB := Lib.hid hB
  clear hA hB
  go_enter Try.func34, Try.ntmps34
  go_wp2_with fail
  go_loopw [5] (fun i wr => ∃ k : Nat, k ≤ xs.length ∧ i = .int .i64 k ∧ Below w.heap.size w wr) (fun i _ => xs.length - (intOf i).toNat)
  case atStart => exact ⟨0, Nat.zero_le _, rfl, Below.refl _ _⟩
  case round =>
    obtain ⟨k, hk, rfl, hb⟩ := hrel
    by_cases hlt : k < xs.length
    · obtain ⟨ad, p, c0, c1, c2, c3, rfl, hpe, hr, q0, q1, q2, q3⟩ := rl_at4 kTg_n HA.out hb hlt
      obtain ⟨bd, p', d0, d1, d2, d3, rfl, hpe', hr', q0', q1', q2', q3'⟩ := rl_at4 kTg_n HB.out hb hlt
      have HR := Lib.hid hr
      have HR' := Lib.hid hr'
      have HBW := Lib.hid hb
      clear hr hr' hb
      go_wp2_with fail
      go_still_tail 8, (by kernel_rfl)
      change wpList _ _ _ _ _ wr.drew
      have hd : Below wr.heap.size wr wr.drew := (Below.refl _ _).drew
      have HC := Lib.hid (eqTg_same xs[k] wr.drew [c0, c1, c2, c3] [d0, d1, d2, d3] (kTg.keep HR.out hd) (kTg.keep HR'.out hd))
      have HB2 := Lib.hid (HBW.out.trans (hd.mono HBW.out.size))
      clear hd
      go_wp2_with fail
      refine HC.out.mono ?_
      rintro e w2 ⟨rfl, hb2⟩
      have HB3 := Lib.hid (HB2.out.trans (hb2.mono HB2.out.size))
      clear hb2
      go_wp2_with fail
      go_roundw
      case rel => exact ⟨k + 1, hlt, by go_num, HB3.out⟩
      case measure => simp [intOf]; omega
    · go_wp2_with fail
      go_ret
      exact ⟨rfl, hb⟩
end Go.Proofs.Ytlikmgkjilmjpaa

/-
  Structs of a name and a type (TableDecl). Written by genpair.py.
-/
namespace Go.Proofs.Ytlikmgkjilmjpaa
open Go.RowKit

abbrev Dc := ByteArray × Ty
def kDc : Kd Dc := kStr.prod kTy
theorem kDc_n : kDc.n = 4 := rfl
def wDc (x : Dc) : Nat := x.1.size + wt x.2
theorem kDc_open {w : World} {x : Dc} {cs : List Value} (h : kDc.R w x cs) : ∃ tk TL TA tl tc ta td, cs = [.string x.1, .int .i64 tk, .slice TL tl tc, .slice TA ta td] ∧ x.1.size ≤ 9223372036854775807 ∧ kTy.R w x.2 [.int .i64 tk, .slice TL tl tc, .slice TA ta td] := by
  obtain ⟨c1, c2, rfl, ⟨rfl, h1⟩, h2⟩ := h
  obtain ⟨tk, TL, TA, tl, tc, ta, td, rfl⟩ := kTy_shape h2
  exact ⟨tk, TL, TA, tl, tc, ta, td, rfl, h1, h2⟩
theorem kDc_make {w : World} {x : Dc} {ys : List Value} (h1 : x.1.size ≤ 9223372036854775807) (h2 : kTy.R w x.2 ys) : kDc.R w x (.string x.1 :: ys) := ⟨[.string x.1], ys, rfl, ⟨rfl, h1⟩, h2⟩
theorem kDc_omake {w : World} {x : Dc} {ys : List Value} {fp : List Nat} (h1 : x.1.size ≤ 9223372036854775807) (h2 : kTy.O w x.2 ys fp) : kDc.O w x (.string x.1 :: ys) fp := ⟨[.string x.1], ys, [], fp, rfl, ⟨rfl, h1, rfl⟩, h2, rfl, kTy.nodup h2⟩
theorem kDc_oopen {w : World} {x : Dc} {cs : List Value} {fp : List Nat} (h : kDc.O w x cs fp) : ∃ tk TL TA tl tc ta td, cs = [.string x.1, .int .i64 tk, .slice TL tl tc, .slice TA ta td] ∧ x.1.size ≤ 9223372036854775807 ∧ kTy.O w x.2 [.int .i64 tk, .slice TL tl tc, .slice TA ta td] fp := by
  obtain ⟨c1, c2, f1, f2, rfl, ⟨rfl, h1, rfl⟩, h2, rfl, _⟩ := h
  obtain ⟨tk, TL, TA, tl, tc, ta, td, rfl⟩ := kTy_shape (kTy.reads h2)
  exact ⟨tk, TL, TA, tl, tc, ta, td, rfl, h1, h2⟩
end Go.Proofs.Ytlikmgkjilmjpaa

/-
  A block of 1 cells that is known whole. Hangs on no program. Written by genbox.py.
-/
namespace Go.Proofs.Ytlikmgkjilmjpaa
open Go.RowKit

def Box1 (w : World) (g : Nat) (t : TypeId) (a0 : Value) : Prop := w.heap[g]? = some (.cells #[a0] t (0, 0))
section
variable {w w' : World} {g : Nat} {t : TypeId} {a0 : Value}
theorem Box1.new (w : World) (t : TypeId) (a0 : Value) : Box1 (w.alloc (.cells #[a0] t)) w.heap.size t a0 := heap_alloc_new w _
theorem Box1.lt (h : Box1 w g t a0) : g < w.heap.size := (Array.getElem?_eq_some_iff.1 h).1
theorem Box1.c0 (h : Box1 w g t a0) : w.cell? ⟨g, 0, none⟩ = some a0 := cell_of_row w g 0 _ t (0, 0) h
theorem Box1.free (h : Box1 w g t a0) (i : Nat) : w.frozen? ⟨g, i, none⟩ = false := frozen_of_row w g i _ t h
theorem Box1.under (h : Box1 w g t a0) {B : Nat} (hb : Below B w w') (hg : g < B) : Box1 w' g t a0 := (hb.block g hg).trans h
theorem Box1.alloc (h : Box1 w g t a0) (o : Obj) : Box1 (w.alloc o) g t a0 := ((((Below.refl _ _).alloc (Nat.le_refl _) o : Below w.heap.size w (w.alloc o))).block g h.lt).trans h
theorem Box1.far (h : Box1 w g t a0) {p : Addr} (hp : g ≠ p.block) (u : Value) : Box1 (w.setCell p u) g t a0 := (Below.heap_setCell w p u g hp).trans h
theorem Box1.set0 (h : Box1 w g t a0) (u : Value) : Box1 (w.setCell ⟨g, 0, none⟩ u) g t u := heap_setCell_same w g 0 _ t u h
theorem Box1.grown {row : Option Nat} (h : Box1 w g t a0) (hg : w.grownBy w' row) (hne : some g ≠ row) : Box1 w' g t a0 := (hg.block g h.lt hne).trans h
end
end Go.Proofs.Ytlikmgkjilmjpaa
