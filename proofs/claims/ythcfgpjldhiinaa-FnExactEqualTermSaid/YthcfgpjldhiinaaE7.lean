/-
  Merged by program: Asc, Labels, TyForm.
-/
import Derived.Test.YthcfgpjldhiinaaE1
import Derived.Test.YthcfgpjldhiinaaProg
import Derived.RegionTactic
import Derived.Deep.QuietTactic
import Derived.BigQuiet
import Derived.IntWalk
import Derived.Test.YthcfgpjldhiinaaE6
import Derived.Test.YthcfgpjldhiinaaE4
import Derived.Test.YthcfgpjldhiinaaE5

/-
  Whether each text of a list precedes the next one: the model's AreAscending and the program's give one answer.
-/
namespace Go.Proofs.Ythcfgpjldhiinaa
open Go.RowKit

/-- the text precedes the other one, byte by byte -/
def ltS (x y : ByteArray) : Bool := Op.bytesLess x.toList y.toList
/-- the two at j stand in order -/
def okAt (xs : List ByteArray) (j : Nat) : Bool := ltS (xs.getD j ByteArray.empty) (xs.getD (j + 1) ByteArray.empty)
def ascL (xs : List ByteArray) : Bool := (List.range (xs.length - 1)).all (okAt xs)
def AscTo (xs : List ByteArray) (k : Nat) : Prop := ∀ j, j < k → okAt xs j = true
theorem ascTo_zero (xs : List ByteArray) : AscTo xs 0 := fun j h => by omega
theorem ascTo_succ {xs : List ByteArray} {k : Nat} (h : AscTo xs k) (hk : okAt xs k = true) : AscTo xs (k + 1) := by
  intro j hj
  by_cases e : j = k
  · subst e; exact hk
  · exact h j (by omega)
theorem asc_yes {xs : List ByteArray} {k : Nat} (h : AscTo xs k) (hk : xs.length ≤ k + 1) : ascL xs = true := by
  unfold ascL
  rw [List.all_eq_true]
  intro j hj
  exact h j (by simp at hj; omega)
theorem asc_no {xs : List ByteArray} {k : Nat} (hk : k + 1 < xs.length) (h : okAt xs k = false) : ascL xs = false := by
  unfold ascL
  rw [Bool.eq_false_iff, Ne, List.all_eq_true]
  intro hall
  have := hall k (by simp; omega)
  rw [h] at this
  cases this
theorem okAt_get {xs : List ByteArray} {k : Nat} (hk : k + 1 < xs.length) : okAt xs k = Op.bytesLess (xs[k]'(by omega)).toList (xs[k + 1]).toList := by
  simp [okAt, ltS, List.getD, hk, show k < xs.length by omega]
theorem geq_run (t : TypeId) (x y : ByteArray) {b : Bool} (h : Op.bytesLess x.toList y.toList = b) : binOp .geq t (.string x) (.string y) = pure (.bool !b) := by
  rw [← h]
  simp [binOp, Op.stringOp]
theorem ret_bool {a b : Bool} (h : a = b) : Ending.returned (.bool a) = .returned (.bool b) := by rw [h]

/-- an answer that is true or false; nothing but draws -/
def Tells (b : Bool) (w : World) (e : Ending) (w' : World) : Prop := e = .returned (.bool b) ∧ ∃ n, w' = w.drewN n

end Go.Proofs.Ythcfgpjldhiinaa

/-
  Whether a list can be that of the labels of a record (the model's l3Labels).
-/
namespace Go.Proofs.Ythcfgpjldhiinaa
open Go.RowKit

def labB (ls : List ByteArray) : Bool := ls.all nameB && ((decide (1 ≤ ls.length) && decide (ls.length ≤ 4)) && ascL ls)
def NamesTo (ls : List ByteArray) (k : Nat) : Prop := ∀ j (h : j < ls.length), j < k → nameB ls[j] = true
theorem namesTo_zero (ls : List ByteArray) : NamesTo ls 0 := fun j _ h => by omega
theorem namesTo_succ {ls : List ByteArray} {k : Nat} (h : NamesTo ls k) (hk : k < ls.length) (hf : nameB ls[k] = true) : NamesTo ls (k + 1) := by
  intro j hj hlt
  by_cases e : j = k
  · subst e; exact hf
  · exact h j hj (by omega)
theorem lab_all {ls : List ByteArray} (h : NamesTo ls ls.length) : labB ls = ((decide (1 ≤ ls.length) && decide (ls.length ≤ 4)) && ascL ls) := by
  unfold labB
  have e : ls.all nameB = true := by
    rw [List.all_eq_true]
    intro x hx
    obtain ⟨j, hj, rfl⟩ := List.getElem_of_mem hx
    exact h j hj hj
  rw [e, Bool.true_and]
theorem lab_no {ls : List ByteArray} {k : Nat} (hk : k < ls.length) (hf : nameB ls[k] = false) : labB ls = false := by
  unfold labB
  have e : ls.all nameB = false := by
    rw [Bool.eq_false_iff, Ne, List.all_eq_true]
    intro h
    have := h _ (List.getElem_mem hk)
    rw [hf] at this
    cases this
  rw [e, Bool.false_and]

end Go.Proofs.Ythcfgpjldhiinaa

/-
  Whether every node of a type has its form (the model's l3Form), and the model's IsValidType, IsData, IsRow.
-/
namespace Go.Proofs.Ythcfgpjldhiinaa
open Go.RowKit

/-- how many parts a kind asks for; -1: no such kind -/
def want (k : Int) : Int := if k = 1 then 0 else if k = 2 then 0 else if k = 4 then 1 else if k = 5 then 2 else -1
/-- is a function within the one part of a bag? -/
def bagFun (a : TyA) (ks : List Ty) : Bool := decide (a.kind = 4) && (decide (ks.length = 1) && ks.any (Tr.has 5))
def formA (a : TyA) (ks : List Ty) : Bool :=
  if a.kind = 3 then decide (ks.length = a.labels.length) && (labB a.labels && !(Tr.has 5 (.node a ks)))
  else !(bagFun a ks) && (decide (a.labels.length = 0) && decide ((ks.length : Int) = want a.kind))
def Tr.form : Ty → Bool
  | .node a ks => (ks.attach.all fun ⟨t, _⟩ => t.form) && formA a ks
theorem form_node (a : TyA) (ks : List Ty) : Tr.form (.node a ks) = (ks.all Tr.form && formA a ks) := by
  rw [Tr.form]
  congr 1
  rw [Bool.eq_iff_iff, List.all_eq_true, List.all_eq_true]
  constructor
  · intro h t ht; exact h ⟨t, ht⟩ (List.mem_attach _ _)
  · rintro h ⟨t, ht⟩ _; exact h t ht
/-- all of the first k answer yes -/
def AllTo {β : Type} (f : β → Bool) (ks : List β) (k : Nat) : Prop := ∀ j (h : j < ks.length), j < k → f ks[j] = true
theorem allTo_zero {β : Type} (f : β → Bool) (ks : List β) : AllTo f ks 0 := fun j _ h => by omega
theorem allTo_succ {β : Type} {f : β → Bool} {ks : List β} {k : Nat} (h : AllTo f ks k) (hk : k < ks.length) (hf : f ks[k] = true) : AllTo f ks (k + 1) := by
  intro j hj hlt
  by_cases e : j = k
  · subst e; exact hf
  · exact h j hj (by omega)
theorem allTo_all {β : Type} {f : β → Bool} {ks : List β} (h : AllTo f ks ks.length) : ks.all f = true := by
  rw [List.all_eq_true]
  intro x hx
  obtain ⟨j, hj, rfl⟩ := List.getElem_of_mem hx
  exact h j hj hj
theorem all_not {β : Type} {f : β → Bool} {ks : List β} {k : Nat} (hk : k < ks.length) (hf : f ks[k] = false) : ks.all f = false := by
  rw [Bool.eq_false_iff, Ne, List.all_eq_true]
  intro h
  have := h _ (List.getElem_mem hk)
  rw [hf] at this
  cases this
theorem kid_wt_le {a : TyA} {ks : List Ty} {t : Ty} (h : t ∈ ks) : wt t ≤ wt (.node a ks) := by
  rw [wt_node]
  have := kid_sum_le wt h
  unfold wtK
  omega
theorem total_mem {xs : List ByteArray} {x : ByteArray} (h : x ∈ xs) : x.size ≤ total xs := kid_sum_le (·.size) h
theorem wt_labels {a : TyA} {ks : List Ty} {B : Nat} (h : wt (.node a ks) ≤ B) : a.labels.length ≤ B ∧ ∀ x ∈ a.labels, x.size ≤ B := by
  rw [wt_node] at h
  unfold wtA at h
  exact ⟨by omega, fun x hx => by have := total_mem hx; omega⟩
theorem truth_iff {a b : Bool} {w w' : World} (h : a = b) (hb : Below w.heap.size w w') : Truth a w (.returned (.bool b)) w' := ⟨by rw [h], hb⟩

end Go.Proofs.Ythcfgpjldhiinaa
