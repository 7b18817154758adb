/-
  The model's EqualType: it says whether the two trees are one.
-/
import Derived.Test.YtpcegakpdjmaaaaTyValid
import Derived.Lib.SlicesS
import Derived.StillTailTactics
namespace Go.Proofs.Ytpcegakpdjmaaaa
open Go.RowKit

/-- are the two one? -/
noncomputable def same {β : Type} (x y : β) : Bool := @decide (x = y) (Classical.propDecidable _)
theorem same_yes {β : Type} {x y : β} (h : x = y) : same x y = true := by unfold same; simp [h]
theorem same_no {β : Type} {x y : β} (h : x ≠ y) : same x y = false := by unfold same; simp [h]

def EqTo {β : Type} (xs ys : List β) (k : Nat) : Prop := ∀ j, j < k → xs[j]? = ys[j]?
theorem eqTo_zero {β : Type} (xs ys : List β) : EqTo xs ys 0 := fun j h => by omega
theorem eqTo_succ {β : Type} {xs ys : List β} {k : Nat} (h : EqTo xs ys k) (h1 : k < xs.length) (h2 : k < ys.length) (he : xs[k] = ys[k]) : EqTo xs ys (k + 1) := by
  intro j hj
  by_cases e : j = k
  · subst e
    rw [List.getElem?_eq_getElem h1, List.getElem?_eq_getElem h2, he]
  · exact h j (by omega)
theorem eqTo_all {β : Type} {xs ys : List β} (h : EqTo xs ys xs.length) (hl : xs.length = ys.length) : xs = ys := by
  apply List.ext_getElem?
  intro j
  by_cases hj : j < xs.length
  · exact h j hj
  · rw [List.getElem?_eq_none (by omega), List.getElem?_eq_none (by omega)]
theorem ne_at {β : Type} {xs ys : List β} {k : Nat} (h1 : k < xs.length) (h2 : k < ys.length) (he : xs[k] ≠ ys[k]) : xs ≠ ys := by
  rintro rfl
  exact he rfl

theorem ty_ne {a b : TyA} {ks js : List Ty} (h : a.kind ≠ b.kind ∨ a.labels ≠ b.labels ∨ ks ≠ js) : same (Tr.node a ks) (Tr.node b js) = false := by
  apply same_no
  intro e
  injection e with e1 e2
  subst e1
  subst e2
  rcases h with h | h | h <;> exact h rfl
theorem ty_eq {a b : TyA} {ks js : List Ty} (h1 : a.kind = b.kind) (h2 : a.labels = b.labels) (h3 : ks = js) : same (Tr.node a ks) (Tr.node b js) = true := by
  apply same_yes
  obtain ⟨k, l⟩ := a
  obtain ⟨k', l'⟩ := b
  simp only at h1 h2
  rw [h1, h2, h3]
theorem same_iff {β : Type} {x y : β} : same x y = true ↔ x = y := by unfold same; simp
theorem same_iff_no {β : Type} {x y : β} : same x y = false ↔ x ≠ y := by unfold same; simp

end Go.Proofs.Ytpcegakpdjmaaaa
