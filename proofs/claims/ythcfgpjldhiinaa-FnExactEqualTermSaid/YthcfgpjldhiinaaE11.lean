/-
  Merged by program: Box8.
-/
import Derived.Test.YthcfgpjldhiinaaE1
import Derived.Laws.Rows

/-
  A block of 8 cells that is known whole. Hangs on no program. Written by genbox.py.
-/
namespace Go.Proofs.Ythcfgpjldhiinaa
open Go.RowKit

def Box8 (w : World) (g : Nat) (t : TypeId) (a0 a1 a2 a3 a4 a5 a6 a7 : Value) : Prop := w.heap[g]? = some (.cells #[a0, a1, a2, a3, a4, a5, a6, a7] t (0, 0))
section
variable {w w' : World} {g : Nat} {t : TypeId} {a0 a1 a2 a3 a4 a5 a6 a7 : Value}
theorem Box8.new (w : World) (t : TypeId) (a0 a1 a2 a3 a4 a5 a6 a7 : Value) : Box8 (w.alloc (.cells #[a0, a1, a2, a3, a4, a5, a6, a7] t)) w.heap.size t a0 a1 a2 a3 a4 a5 a6 a7 := heap_alloc_new w _
theorem Box8.lt (h : Box8 w g t a0 a1 a2 a3 a4 a5 a6 a7) : g < w.heap.size := (Array.getElem?_eq_some_iff.1 h).1
theorem Box8.c0 (h : Box8 w g t a0 a1 a2 a3 a4 a5 a6 a7) : w.cell? ⟨g, 0, none⟩ = some a0 := cell_of_row w g 0 _ t (0, 0) h
theorem Box8.c1 (h : Box8 w g t a0 a1 a2 a3 a4 a5 a6 a7) : w.cell? ⟨g, 1, none⟩ = some a1 := cell_of_row w g 1 _ t (0, 0) h
theorem Box8.c2 (h : Box8 w g t a0 a1 a2 a3 a4 a5 a6 a7) : w.cell? ⟨g, 2, none⟩ = some a2 := cell_of_row w g 2 _ t (0, 0) h
theorem Box8.c3 (h : Box8 w g t a0 a1 a2 a3 a4 a5 a6 a7) : w.cell? ⟨g, 3, none⟩ = some a3 := cell_of_row w g 3 _ t (0, 0) h
theorem Box8.c4 (h : Box8 w g t a0 a1 a2 a3 a4 a5 a6 a7) : w.cell? ⟨g, 4, none⟩ = some a4 := cell_of_row w g 4 _ t (0, 0) h
theorem Box8.c5 (h : Box8 w g t a0 a1 a2 a3 a4 a5 a6 a7) : w.cell? ⟨g, 5, none⟩ = some a5 := cell_of_row w g 5 _ t (0, 0) h
theorem Box8.c6 (h : Box8 w g t a0 a1 a2 a3 a4 a5 a6 a7) : w.cell? ⟨g, 6, none⟩ = some a6 := cell_of_row w g 6 _ t (0, 0) h
theorem Box8.c7 (h : Box8 w g t a0 a1 a2 a3 a4 a5 a6 a7) : w.cell? ⟨g, 7, none⟩ = some a7 := cell_of_row w g 7 _ t (0, 0) h
theorem Box8.free (h : Box8 w g t a0 a1 a2 a3 a4 a5 a6 a7) (i : Nat) : w.frozen? ⟨g, i, none⟩ = false := frozen_of_row w g i _ t h
theorem Box8.under (h : Box8 w g t a0 a1 a2 a3 a4 a5 a6 a7) {B : Nat} (hb : Below B w w') (hg : g < B) : Box8 w' g t a0 a1 a2 a3 a4 a5 a6 a7 := (hb.block g hg).trans h
theorem Box8.alloc (h : Box8 w g t a0 a1 a2 a3 a4 a5 a6 a7) (o : Obj) : Box8 (w.alloc o) g t a0 a1 a2 a3 a4 a5 a6 a7 := (heap_alloc_old w o h.lt).trans h
theorem Box8.far (h : Box8 w g t a0 a1 a2 a3 a4 a5 a6 a7) {p : Addr} (hp : g ≠ p.block) (u : Value) : Box8 (w.setCell p u) g t a0 a1 a2 a3 a4 a5 a6 a7 := (Below.heap_setCell w p u g hp).trans h
theorem Box8.set0 (h : Box8 w g t a0 a1 a2 a3 a4 a5 a6 a7) (u : Value) : Box8 (w.setCell ⟨g, 0, none⟩ u) g t u a1 a2 a3 a4 a5 a6 a7 := heap_setCell_same w g 0 _ t u h
theorem Box8.set1 (h : Box8 w g t a0 a1 a2 a3 a4 a5 a6 a7) (u : Value) : Box8 (w.setCell ⟨g, 1, none⟩ u) g t a0 u a2 a3 a4 a5 a6 a7 := heap_setCell_same w g 1 _ t u h
theorem Box8.set2 (h : Box8 w g t a0 a1 a2 a3 a4 a5 a6 a7) (u : Value) : Box8 (w.setCell ⟨g, 2, none⟩ u) g t a0 a1 u a3 a4 a5 a6 a7 := heap_setCell_same w g 2 _ t u h
theorem Box8.set3 (h : Box8 w g t a0 a1 a2 a3 a4 a5 a6 a7) (u : Value) : Box8 (w.setCell ⟨g, 3, none⟩ u) g t a0 a1 a2 u a4 a5 a6 a7 := heap_setCell_same w g 3 _ t u h
theorem Box8.set4 (h : Box8 w g t a0 a1 a2 a3 a4 a5 a6 a7) (u : Value) : Box8 (w.setCell ⟨g, 4, none⟩ u) g t a0 a1 a2 a3 u a5 a6 a7 := heap_setCell_same w g 4 _ t u h
theorem Box8.set5 (h : Box8 w g t a0 a1 a2 a3 a4 a5 a6 a7) (u : Value) : Box8 (w.setCell ⟨g, 5, none⟩ u) g t a0 a1 a2 a3 a4 u a6 a7 := heap_setCell_same w g 5 _ t u h
theorem Box8.set6 (h : Box8 w g t a0 a1 a2 a3 a4 a5 a6 a7) (u : Value) : Box8 (w.setCell ⟨g, 6, none⟩ u) g t a0 a1 a2 a3 a4 a5 u a7 := heap_setCell_same w g 6 _ t u h
theorem Box8.set7 (h : Box8 w g t a0 a1 a2 a3 a4 a5 a6 a7) (u : Value) : Box8 (w.setCell ⟨g, 7, none⟩ u) g t a0 a1 a2 a3 a4 a5 a6 u := heap_setCell_same w g 7 _ t u h
theorem Box8.grown {row : Option Nat} (h : Box8 w g t a0 a1 a2 a3 a4 a5 a6 a7) (hg : w.grownBy w' row) (hne : some g ≠ row) : Box8 w' g t a0 a1 a2 a3 a4 a5 a6 a7 := (hg.block g h.lt hne).trans h
end
end Go.Proofs.Ythcfgpjldhiinaa
