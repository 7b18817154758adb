/-
  Merged by program: Name.
-/
import Derived.Test.YthcfgpjldhiinaaE1
import Derived.Test.YthcfgpjldhiinaaProg
import Derived.Laws.RangeString
import Derived.Laws.RangeAny
import Derived.Lib.SlicesS

/-
  Whether a text is a name: the model reads its bytes, the program its runes; they give one answer for every text, valid UTF-8 or not.
-/
namespace Go.Proofs.Ythcfgpjldhiinaa
open Go.RowKit

def letN (u : Nat) : Bool := decide (97 ≤ u) && decide (u ≤ 122)
def digN (u : Nat) : Bool := decide (48 ≤ u) && decide (u ≤ 57)
/-- may the byte u stand at place k of a name? -/
def okN (k u : Nat) : Bool := letN u || (decide (k ≠ 0) && digN u)
def nameB (s : ByteArray) : Bool := ((List.range s.size).all fun k => okN k (s.get! k).toNat) && (decide (1 ≤ s.size) && (decide (s.size ≤ 4) && (!(s.toList == [105, 102]) && !(s.toList == [102, 111, 114]))))
def NmTo (s : ByteArray) (k : Nat) : Prop := ∀ j, j < k → okN j (s.get! j).toNat = true
theorem get_bang (s : ByteArray) (k : Nat) (h : k < s.size) : s.get! k = s[k]'h := by
  have := get_at s k h
  simpa using this
theorem nmTo_zero (s : ByteArray) : NmTo s 0 := fun j h => by omega
theorem okN_of {k u : Nat} (h : (97 ≤ u ∧ u ≤ 122) ∨ (k ≠ 0 ∧ 48 ≤ u ∧ u ≤ 57)) : okN k u = true := by
  unfold okN letN digN
  rcases h with ⟨h1, h2⟩ | ⟨h1, h2, h3⟩
  · simp [h1, h2]
  · simp [h1, h2, h3]
theorem okN_not {k u : Nat} (h1 : ¬ (97 ≤ u ∧ u ≤ 122)) (h2 : k = 0 ∨ u < 48 ∨ 57 < u) : okN k u = false := by
  unfold okN letN digN
  have e1 : (decide (97 ≤ u) && decide (u ≤ 122)) = false := by simpa using h1
  rw [e1, Bool.false_or]
  simp
  omega
theorem nmTo_succ {s : ByteArray} {k : Nat} (h : NmTo s k) (hk : k < s.size) (hg : (97 ≤ (s[k]'hk).toNat ∧ (s[k]'hk).toNat ≤ 122) ∨ (k ≠ 0 ∧ 48 ≤ (s[k]'hk).toNat ∧ (s[k]'hk).toNat ≤ 57)) : NmTo s (k + 1) := by
  intro j hj
  by_cases e : j = k
  · subst e
    rw [get_bang s j hk]
    exact okN_of hg
  · exact h j (by omega)
theorem name_no {s : ByteArray} {k : Nat} (hk : k < s.size) (h1 : ¬ (97 ≤ (s[k]'hk).toNat ∧ (s[k]'hk).toNat ≤ 122)) (h2 : k = 0 ∨ (s[k]'hk).toNat < 48 ∨ 57 < (s[k]'hk).toNat) : nameB s = false := by
  have h := okN_not h1 h2
  rw [← get_bang s k hk] at h
  unfold nameB
  have e : ((List.range s.size).all fun k => okN k (s.get! k).toNat) = false := by
    rw [Bool.eq_false_iff, Ne, List.all_eq_true]
    intro hall
    have := hall k (by simpa using hk)
    rw [h] at this
    cases this
  rw [e, Bool.false_and]
theorem name_all {s : ByteArray} (h : NmTo s s.size) : nameB s = (decide (1 ≤ s.size) && (decide (s.size ≤ 4) && (!(s.toList == [105, 102]) && !(s.toList == [102, 111, 114])))) := by
  unfold nameB
  have e : ((List.range s.size).all fun k => okN k (s.get! k).toNat) = true := by
    rw [List.all_eq_true]
    intro j hj
    exact h j (by simpa using hj)
  rw [e, Bool.true_and]
theorem ret_nm {a b : Bool} (h : a = b) : Ending.returned (.bool a) = .returned (.bool b) := by rw [h]

/-- an answer that is true or false, the world as it was -/
def Says (b : Bool) (w : World) (e : Ending) (w' : World) : Prop := e = .returned (.bool b) ∧ w = w'

end Go.Proofs.Ythcfgpjldhiinaa
