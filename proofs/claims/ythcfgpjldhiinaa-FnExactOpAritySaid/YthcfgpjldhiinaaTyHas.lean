/-
  The model's search for a kind in a type (l3Has), and its count down by nodes (l3Left).
-/
import Derived.Test.YthcfgpjldhiinaaTyNum
import Derived.Test.YthcfgpjldhiinaaBox
namespace Go.Proofs.Ythcfgpjldhiinaa
open Go.RowKit

/-- an answer that is true or false; all that was there is as it was -/
def Truth (b : Bool) (w : World) (e : Ending) (w' : World) : Prop := e = .returned (.bool b) ∧ Below w.heap.size w w'

/-- does a kind occur? -/
def Tr.has (q : Int) : Ty → Bool
  | .node a ks => (ks.attach.any fun ⟨t, _⟩ => t.has q) || decide (a.kind = q)
theorem has_node (q : Int) (a : TyA) (ks : List Ty) : Tr.has q (.node a ks) = (ks.any (Tr.has q) || decide (a.kind = q)) := by
  rw [Tr.has]
  congr 1
  rw [Bool.eq_iff_iff, List.any_eq_true, List.any_eq_true]
  constructor
  · rintro ⟨⟨t, ht⟩, _, h⟩; exact ⟨t, ht, h⟩
  · rintro ⟨t, ht, h⟩; exact ⟨⟨t, ht⟩, List.mem_attach _ _, h⟩
/-- none of the first k answers yes -/
def NoTo {β : Type} (f : β → Bool) (ks : List β) (k : Nat) : Prop := ∀ j (h : j < ks.length), j < k → f ks[j] = false
theorem noTo_zero {β : Type} (f : β → Bool) (ks : List β) : NoTo f ks 0 := fun j _ h => by omega
theorem noTo_succ {β : Type} {f : β → Bool} {ks : List β} {k : Nat} (h : NoTo f ks k) (hk : k < ks.length) (hf : f ks[k] = false) : NoTo f ks (k + 1) := by
  intro j hj hlt
  by_cases e : j = k
  · subst e; exact hf
  · exact h j hj (by omega)
theorem noTo_all {β : Type} {f : β → Bool} {ks : List β} (h : NoTo f ks ks.length) : ks.any f = false := by
  rw [Bool.eq_false_iff, Ne, List.any_eq_true]
  rintro ⟨t, ht, hf⟩
  obtain ⟨j, hj, rfl⟩ := List.getElem_of_mem ht
  rw [h j hj hj] at hf
  cases hf
theorem any_at {β : Type} {f : β → Bool} {ks : List β} {k : Nat} (hk : k < ks.length) (hf : f ks[k] = true) : ks.any f = true := List.any_eq_true.2 ⟨_, List.getElem_mem hk, hf⟩

/-- what is left of a number of nodes, -1: there were more -/
def Left (n : Nat) (left : Int) (w : World) (e : Ending) (w' : World) : Prop := ∃ r : Int, e = .returned (.int .i64 r) ∧ -1 ≤ r ∧ r ≤ left ∧ (0 ≤ r → r + n = left) ∧ (r < 0 → left < n) ∧ Below w.heap.size w w'

end Go.Proofs.Ythcfgpjldhiinaa
