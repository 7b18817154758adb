/-
  Merged by program: Box, NodC.
-/
import Derived.Test.YthcfgpjldhiinaaT1
import Derived.Laws.Rows
import Derived.Test.YthcfgpjldhiinaaT9
import Derived.Test.YthcfgpjldhiinaaT4

/-
  A block of three cells that is known whole (a struct that was boxed, declared, or is a result). Hangs on no program.
-/
namespace Go.Proofs.Ythcfgpjldhiinaa
open Go.RowKit

def Box3 (w : World) (g : Nat) (t : TypeId) (a b c : Value) : Prop := w.heap[g]? = some (.cells #[a, b, c] t (0, 0))
section
variable {w w' : World} {g : Nat} {t : TypeId} {a b c : Value}
theorem Box3.new (w : World) (t : TypeId) (a b c : Value) : Box3 (w.alloc (.cells #[a, b, c] t)) w.heap.size t a b c := heap_alloc_new w _
theorem Box3.lt (h : Box3 w g t a b c) : g < w.heap.size := (Array.getElem?_eq_some_iff.1 h).1
theorem Box3.c0 (h : Box3 w g t a b c) : w.cell? ⟨g, 0, none⟩ = some a := cell_of_row w g 0 _ t (0, 0) h
theorem Box3.c1 (h : Box3 w g t a b c) : w.cell? ⟨g, 1, none⟩ = some b := cell_of_row w g 1 _ t (0, 0) h
theorem Box3.c2 (h : Box3 w g t a b c) : w.cell? ⟨g, 2, none⟩ = some c := cell_of_row w g 2 _ t (0, 0) h
theorem Box3.free (h : Box3 w g t a b c) (i : Nat) : w.frozen? ⟨g, i, none⟩ = false := frozen_of_row w g i _ t h
theorem Box3.under (h : Box3 w g t a b c) {B : Nat} (hb : Below B w w') (hg : g < B) : Box3 w' g t a b c := (hb.block g hg).trans h
theorem Box3.alloc (h : Box3 w g t a b c) (o : Obj) : Box3 (w.alloc o) g t a b c := (heap_alloc_old w o h.lt).trans h
theorem Box3.far (h : Box3 w g t a b c) {p : Addr} (hp : g ≠ p.block) (u : Value) : Box3 (w.setCell p u) g t a b c := (Below.heap_setCell w p u g hp).trans h
theorem Box3.set0 (h : Box3 w g t a b c) (u : Value) : Box3 (w.setCell ⟨g, 0, none⟩ u) g t u b c := heap_setCell_same w g 0 _ t u h
theorem Box3.set1 (h : Box3 w g t a b c) (u : Value) : Box3 (w.setCell ⟨g, 1, none⟩ u) g t a u c := heap_setCell_same w g 1 _ t u h
theorem Box3.set2 (h : Box3 w g t a b c) (u : Value) : Box3 (w.setCell ⟨g, 2, none⟩ u) g t a b u := heap_setCell_same w g 2 _ t u h
end
end Go.Proofs.Ythcfgpjldhiinaa

/-
  What clients of an iterator over nodes keep. Hangs on no program (but for the type of a counter).
-/
namespace Go.Proofs.Ythcfgpjldhiinaa
open Go.RowKit

/-- the first of the k-th pair is ds k -/
def DRd (ds : Nat → Nat) (k : Nat) (v : Array Value) : Prop := ∃ u, v = #[.int .i64 (ds k : Int), u]
theorem DRd.size {ds : Nat → Nat} {k : Nat} {v : Array Value} (h : DRd ds k v) : v.size = 2 := by
  obtain ⟨u, rfl⟩ := h
  rfl
theorem GivesN.weaken {N : Fence} {n : Nat} {P : Program} {g : Nat} {lb : Array Value} {M : Nat} {Rd Rd' : Nat → Array Value → Prop} {On Keep : Nat → Prop} {W : World} (h : GivesN N n P g lb M Rd On Keep W) (hR : ∀ k v, Rd k v → Rd' k v) : GivesN N n P g lb M Rd' On Keep W :=
  fun l J Jx hJ hB hY h0 => h l J Jx hJ hB (fun k v F W1 hk hj hr => hY k v F W1 hk hj (hR k v hr)) h0
/-- a variable in block H holds f k; nothing below has changed -/
def NumI (w : World) (H : Nat) (f : Nat → Nat) (N k : Nat) (F : Nat → Prop) (W : World) : Prop := k ≤ N ∧ F = (fun b => b = H) ∧ Boxed W H 3 (.int .i64 (f k : Int)) ∧ Below w.heap.size w W
theorem NumI.keep {w A C : World} {H : Nat} {f : Nat → Nat} {N k : Nat} {F : Nat → Prop} {D : Nat} (h : NumI w H f N k F A) (hh : Held (fun i => i < D ∨ F i) A C) (hD : w.heap.size ≤ D := by omega) : NumI w H f N k F C := by
  obtain ⟨h1, rfl, h3, h4⟩ := h
  exact ⟨h1, rfl, (hh.block H h3.lt (.inr rfl)).trans h3, h4.trans (hh.below h4.size fun i hi => .inl (by omega))⟩
theorem NumI.bnd {w A : World} {H : Nat} {f : Nat → Nat} {N k : Nat} {F : Nat → Prop} (h : NumI w H f N k F A) (hH : w.heap.size = H) : ∀ b, F b → ¬ b < w.heap.size ∧ b < A.heap.size := by
  obtain ⟨_, rfl, h3, _⟩ := h
  rintro b rfl
  exact ⟨by omega, h3.lt⟩
end Go.Proofs.Ythcfgpjldhiinaa
