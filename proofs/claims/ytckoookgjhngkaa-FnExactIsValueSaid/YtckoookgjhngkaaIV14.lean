/-
  Merged by program: TyForm.
-/
import Derived.Test.YtckoookgjhngkaaIV5
import Derived.Test.YtckoookgjhngkaaIV9
import Derived.Test.YtckoookgjhngkaaIV13

/-
  Whether every node of a type has its form (the model's l3Form), and the model's IsValidType, IsData, IsRow.
-/
namespace Go.Proofs.Ytckoookgjhngkaa
open Go.RowKit

/-- how many parts a kind asks for; -1: no such kind -/
def want (k : Int) : Int := if k = 1 then 0 else if k = 2 then 0 else if k = 4 then 1 else if k = 5 then 2 else -1
/-- is a function within the one part of a bag? -/
def bagFun (a : TyA) (ks : List Ty) : Bool := decide (a.kind = 4) && (decide (ks.length = 1) && ks.any (Tr.has 5))
def formA (a : TyA) (ks : List Ty) : Bool :=
  if a.kind = 3 then decide (ks.length = a.labels.length) && (labB a.labels && !(Tr.has 5 (.node a ks)))
  else !(bagFun a ks) && (decide (a.labels.length = 0) && decide ((ks.length : Int) = want a.kind))
def Tr.form : Ty → Bool
  | .node a ks => (ks.attach.all fun ⟨t, _⟩ => t.form) && formA a ks
theorem form_node (a : TyA) (ks : List Ty) : Tr.form (.node a ks) = (ks.all Tr.form && formA a ks) := by
  rw [Tr.form]
  congr 1
  rw [Bool.eq_iff_iff, List.all_eq_true, List.all_eq_true]
  constructor
  · intro h t ht; exact h ⟨t, ht⟩ (List.mem_attach _ _)
  · rintro h ⟨t, ht⟩ _; exact h t ht
/-- all of the first k answer yes -/
def AllTo {β : Type} (f : β → Bool) (ks : List β) (k : Nat) : Prop := ∀ j (h : j < ks.length), j < k → f ks[j] = true
theorem allTo_zero {β : Type} (f : β → Bool) (ks : List β) : AllTo f ks 0 := fun j _ h => by omega
theorem allTo_succ {β : Type} {f : β → Bool} {ks : List β} {k : Nat} (h : AllTo f ks k) (hk : k < ks.length) (hf : f ks[k] = true) : AllTo f ks (k + 1) := by
  intro j hj hlt
  by_cases e : j = k
  · subst e; exact hf
  · exact h j hj (by omega)
theorem allTo_all {β : Type} {f : β → Bool} {ks : List β} (h : AllTo f ks ks.length) : ks.all f = true := by
  rw [List.all_eq_true]
  intro x hx
  obtain ⟨j, hj, rfl⟩ := List.getElem_of_mem hx
  exact h j hj hj
theorem all_not {β : Type} {f : β → Bool} {ks : List β} {k : Nat} (hk : k < ks.length) (hf : f ks[k] = false) : ks.all f = false := by
  rw [Bool.eq_false_iff, Ne, List.all_eq_true]
  intro h
  have := h _ (List.getElem_mem hk)
  rw [hf] at this
  cases this
theorem kid_wt_le {a : TyA} {ks : List Ty} {t : Ty} (h : t ∈ ks) : wt t ≤ wt (.node a ks) := by
  rw [wt_node]
  have := kid_sum_le wt h
  unfold wtK
  omega
theorem total_mem {xs : List ByteArray} {x : ByteArray} (h : x ∈ xs) : x.size ≤ total xs := kid_sum_le (·.size) h
theorem wt_labels {a : TyA} {ks : List Ty} {B : Nat} (h : wt (.node a ks) ≤ B) : a.labels.length ≤ B ∧ ∀ x ∈ a.labels, x.size ≤ B := by
  rw [wt_node] at h
  unfold wtA at h
  exact ⟨by omega, fun x hx => by have := total_mem hx; omega⟩
theorem truth_iff {a b : Bool} {w w' : World} (h : a = b) (hb : Below w.heap.size w w') : Truth a w (.returned (.bool b)) w' := ⟨by rw [h], hb⟩

end Go.Proofs.Ytckoookgjhngkaa
