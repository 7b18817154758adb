/-
  Merged by program: Box, TyHas, Box4.
-/
import Derived.Test.YtckoookgjhngkaaDoorFV1
import Derived.Laws.Rows
import Derived.Test.YtckoookgjhngkaaDoorFV3

/-
  A block of three cells that is known whole (a struct that was boxed, declared, or is a result). Hangs on no program.
-/
namespace Go.Proofs.YtckoookgjhngkaaDoor
open Go.RowKit

def Box3 (w : World) (g : Nat) (t : TypeId) (a b c : Value) : Prop := w.heap[g]? = some (.cells #[a, b, c] t (0, 0))
section
variable {w w' : World} {g : Nat} {t : TypeId} {a b c : Value}
theorem Box3.new (w : World) (t : TypeId) (a b c : Value) : Box3 (w.alloc (.cells #[a, b, c] t)) w.heap.size t a b c := heap_alloc_new w _
theorem Box3.lt (h : Box3 w g t a b c) : g < w.heap.size := (Array.getElem?_eq_some_iff.1 h).1
theorem Box3.c0 (h : Box3 w g t a b c) : w.cell? ⟨g, 0, none⟩ = some a := cell_of_row w g 0 _ t (0, 0) h
theorem Box3.c1 (h : Box3 w g t a b c) : w.cell? ⟨g, 1, none⟩ = some b := cell_of_row w g 1 _ t (0, 0) h
theorem Box3.c2 (h : Box3 w g t a b c) : w.cell? ⟨g, 2, none⟩ = some c := cell_of_row w g 2 _ t (0, 0) h
theorem Box3.free (h : Box3 w g t a b c) (i : Nat) : w.frozen? ⟨g, i, none⟩ = false := frozen_of_row w g i _ t h
theorem Box3.under (h : Box3 w g t a b c) {B : Nat} (hb : Below B w w') (hg : g < B) : Box3 w' g t a b c := (hb.block g hg).trans h
theorem Box3.alloc (h : Box3 w g t a b c) (o : Obj) : Box3 (w.alloc o) g t a b c := (heap_alloc_old w o h.lt).trans h
theorem Box3.far (h : Box3 w g t a b c) {p : Addr} (hp : g ≠ p.block) (u : Value) : Box3 (w.setCell p u) g t a b c := (Below.heap_setCell w p u g hp).trans h
theorem Box3.set0 (h : Box3 w g t a b c) (u : Value) : Box3 (w.setCell ⟨g, 0, none⟩ u) g t u b c := heap_setCell_same w g 0 _ t u h
theorem Box3.set1 (h : Box3 w g t a b c) (u : Value) : Box3 (w.setCell ⟨g, 1, none⟩ u) g t a u c := heap_setCell_same w g 1 _ t u h
theorem Box3.set2 (h : Box3 w g t a b c) (u : Value) : Box3 (w.setCell ⟨g, 2, none⟩ u) g t a b u := heap_setCell_same w g 2 _ t u h
end
end Go.Proofs.YtckoookgjhngkaaDoor

/-
  The model's search for a kind in a type (l3Has), and its count down by nodes (l3Left).
-/
namespace Go.Proofs.YtckoookgjhngkaaDoor
open Go.RowKit

/-- an answer that is true or false; all that was there is as it was -/
def Truth (b : Bool) (w : World) (e : Ending) (w' : World) : Prop := e = .returned (.bool b) ∧ Below w.heap.size w w'

/-- does a kind occur? -/
def Tr.has (q : Int) : Ty → Bool
  | .node a ks => (ks.attach.any fun ⟨t, _⟩ => t.has q) || decide (a.kind = q)
theorem has_node (q : Int) (a : TyA) (ks : List Ty) : Tr.has q (.node a ks) = (ks.any (Tr.has q) || decide (a.kind = q)) := by
  rw [Tr.has]
  congr 1
  rw [Bool.eq_iff_iff, List.any_eq_true, List.any_eq_true]
  constructor
  · rintro ⟨⟨t, ht⟩, _, h⟩; exact ⟨t, ht, h⟩
  · rintro ⟨t, ht, h⟩; exact ⟨⟨t, ht⟩, List.mem_attach _ _, h⟩
/-- none of the first k answers yes -/
def NoTo {β : Type} (f : β → Bool) (ks : List β) (k : Nat) : Prop := ∀ j (h : j < ks.length), j < k → f ks[j] = false
theorem noTo_zero {β : Type} (f : β → Bool) (ks : List β) : NoTo f ks 0 := fun j _ h => by omega
theorem noTo_succ {β : Type} {f : β → Bool} {ks : List β} {k : Nat} (h : NoTo f ks k) (hk : k < ks.length) (hf : f ks[k] = false) : NoTo f ks (k + 1) := by
  intro j hj hlt
  by_cases e : j = k
  · subst e; exact hf
  · exact h j hj (by omega)
theorem noTo_all {β : Type} {f : β → Bool} {ks : List β} (h : NoTo f ks ks.length) : ks.any f = false := by
  rw [Bool.eq_false_iff, Ne, List.any_eq_true]
  rintro ⟨t, ht, hf⟩
  obtain ⟨j, hj, rfl⟩ := List.getElem_of_mem ht
  rw [h j hj hj] at hf
  cases hf
theorem any_at {β : Type} {f : β → Bool} {ks : List β} {k : Nat} (hk : k < ks.length) (hf : f ks[k] = true) : ks.any f = true := List.any_eq_true.2 ⟨_, List.getElem_mem hk, hf⟩

/-- what is left of a number of nodes, -1: there were more -/
def Left (n : Nat) (left : Int) (w : World) (e : Ending) (w' : World) : Prop := ∃ r : Int, e = .returned (.int .i64 r) ∧ -1 ≤ r ∧ r ≤ left ∧ (0 ≤ r → r + n = left) ∧ (r < 0 → left < n) ∧ Below w.heap.size w w'

end Go.Proofs.YtckoookgjhngkaaDoor

/-
  A block of four cells that is known whole. Hangs on no program.
-/
namespace Go.Proofs.YtckoookgjhngkaaDoor
open Go.RowKit

def Box4 (w : World) (g : Nat) (t : TypeId) (a b c d : Value) : Prop := w.heap[g]? = some (.cells #[a, b, c, d] t (0, 0))
section
variable {w w' : World} {g : Nat} {t : TypeId} {a b c d : Value}
theorem Box4.new (w : World) (t : TypeId) (a b c d : Value) : Box4 (w.alloc (.cells #[a, b, c, d] t)) w.heap.size t a b c d := heap_alloc_new w _
theorem Box4.lt (h : Box4 w g t a b c d) : g < w.heap.size := (Array.getElem?_eq_some_iff.1 h).1
theorem Box4.c0 (h : Box4 w g t a b c d) : w.cell? ⟨g, 0, none⟩ = some a := cell_of_row w g 0 _ t (0, 0) h
theorem Box4.c1 (h : Box4 w g t a b c d) : w.cell? ⟨g, 1, none⟩ = some b := cell_of_row w g 1 _ t (0, 0) h
theorem Box4.c2 (h : Box4 w g t a b c d) : w.cell? ⟨g, 2, none⟩ = some c := cell_of_row w g 2 _ t (0, 0) h
theorem Box4.c3 (h : Box4 w g t a b c d) : w.cell? ⟨g, 3, none⟩ = some d := cell_of_row w g 3 _ t (0, 0) h
theorem Box4.free (h : Box4 w g t a b c d) (i : Nat) : w.frozen? ⟨g, i, none⟩ = false := frozen_of_row w g i _ t h
theorem Box4.under (h : Box4 w g t a b c d) {B : Nat} (hb : Below B w w') (hg : g < B) : Box4 w' g t a b c d := (hb.block g hg).trans h
theorem Box4.alloc (h : Box4 w g t a b c d) (o : Obj) : Box4 (w.alloc o) g t a b c d := (heap_alloc_old w o h.lt).trans h
theorem Box4.far (h : Box4 w g t a b c d) {p : Addr} (hp : g ≠ p.block) (u : Value) : Box4 (w.setCell p u) g t a b c d := (Below.heap_setCell w p u g hp).trans h
theorem Box4.set0 (h : Box4 w g t a b c d) (u : Value) : Box4 (w.setCell ⟨g, 0, none⟩ u) g t u b c d := heap_setCell_same w g 0 _ t u h
theorem Box4.set1 (h : Box4 w g t a b c d) (u : Value) : Box4 (w.setCell ⟨g, 1, none⟩ u) g t a u c d := heap_setCell_same w g 1 _ t u h
theorem Box4.set2 (h : Box4 w g t a b c d) (u : Value) : Box4 (w.setCell ⟨g, 2, none⟩ u) g t a b u d := heap_setCell_same w g 2 _ t u h
theorem Box4.set3 (h : Box4 w g t a b c d) (u : Value) : Box4 (w.setCell ⟨g, 3, none⟩ u) g t a b c u := heap_setCell_same w g 3 _ t u h
theorem Box4.grown {row : Option Nat} (h : Box4 w g t a b c d) (hg : w.grownBy w' row) (hne : some g ≠ row) : Box4 w' g t a b c d := (hg.block g h.lt hne).trans h
end
end Go.Proofs.YtckoookgjhngkaaDoor
