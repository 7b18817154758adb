/-
  Merged by program: Box4.
-/
import Derived.Test.YtckoookgjhngkaaIV1
import Derived.Laws.Rows

/-
  A block of four cells that is known whole. Hangs on no program.
-/
namespace Go.Proofs.Ytckoookgjhngkaa
open Go.RowKit

def Box4 (w : World) (g : Nat) (t : TypeId) (a b c d : Value) : Prop := w.heap[g]? = some (.cells #[a, b, c, d] t (0, 0))
section
variable {w w' : World} {g : Nat} {t : TypeId} {a b c d : Value}
theorem Box4.new (w : World) (t : TypeId) (a b c d : Value) : Box4 (w.alloc (.cells #[a, b, c, d] t)) w.heap.size t a b c d := heap_alloc_new w _
theorem Box4.lt (h : Box4 w g t a b c d) : g < w.heap.size := (Array.getElem?_eq_some_iff.1 h).1
theorem Box4.c0 (h : Box4 w g t a b c d) : w.cell? ⟨g, 0, none⟩ = some a := cell_of_row w g 0 _ t (0, 0) h
theorem Box4.c1 (h : Box4 w g t a b c d) : w.cell? ⟨g, 1, none⟩ = some b := cell_of_row w g 1 _ t (0, 0) h
theorem Box4.c2 (h : Box4 w g t a b c d) : w.cell? ⟨g, 2, none⟩ = some c := cell_of_row w g 2 _ t (0, 0) h
theorem Box4.c3 (h : Box4 w g t a b c d) : w.cell? ⟨g, 3, none⟩ = some d := cell_of_row w g 3 _ t (0, 0) h
theorem Box4.free (h : Box4 w g t a b c d) (i : Nat) : w.frozen? ⟨g, i, none⟩ = false := frozen_of_row w g i _ t h
theorem Box4.under (h : Box4 w g t a b c d) {B : Nat} (hb : Below B w w') (hg : g < B) : Box4 w' g t a b c d := (hb.block g hg).trans h
theorem Box4.alloc (h : Box4 w g t a b c d) (o : Obj) : Box4 (w.alloc o) g t a b c d := (heap_alloc_old w o h.lt).trans h
theorem Box4.far (h : Box4 w g t a b c d) {p : Addr} (hp : g ≠ p.block) (u : Value) : Box4 (w.setCell p u) g t a b c d := (Below.heap_setCell w p u g hp).trans h
theorem Box4.set0 (h : Box4 w g t a b c d) (u : Value) : Box4 (w.setCell ⟨g, 0, none⟩ u) g t u b c d := heap_setCell_same w g 0 _ t u h
theorem Box4.set1 (h : Box4 w g t a b c d) (u : Value) : Box4 (w.setCell ⟨g, 1, none⟩ u) g t a u c d := heap_setCell_same w g 1 _ t u h
theorem Box4.set2 (h : Box4 w g t a b c d) (u : Value) : Box4 (w.setCell ⟨g, 2, none⟩ u) g t a b u d := heap_setCell_same w g 2 _ t u h
theorem Box4.set3 (h : Box4 w g t a b c d) (u : Value) : Box4 (w.setCell ⟨g, 3, none⟩ u) g t a b c u := heap_setCell_same w g 3 _ t u h
theorem Box4.grown {row : Option Nat} (h : Box4 w g t a b c d) (hg : w.grownBy w' row) (hne : some g ≠ row) : Box4 w' g t a b c d := (hg.block g h.lt hne).trans h
end
end Go.Proofs.Ytckoookgjhngkaa
