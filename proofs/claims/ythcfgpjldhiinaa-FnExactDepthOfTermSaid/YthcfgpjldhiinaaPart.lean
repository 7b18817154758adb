/-
  Rows of structs of three cells: the part of one struct; a struct stored. Plain lists, and rows of the call's own.
-/
import Derived.Test.YthcfgpjldhiinaaWords
namespace Go.Proofs.Ythcfgpjldhiinaa
open Go.RowKit

/-- the cells of the j-th struct -/
def part3 {β : Type} (xs : List β) (j : Nat) : List β := (xs.drop (j * 3)).take 3
theorem part3_get {β : Type} (xs : List β) (j i : Nat) (hi : i < 3) : (part3 xs j)[i]? = xs[j * 3 + i]? := by
  unfold part3
  rw [List.getElem?_take_of_lt hi, List.getElem?_drop]
theorem part3_len {β : Type} (xs : List β) (j : Nat) (h : j * 3 + 3 ≤ xs.length) : (part3 xs j).length = 3 := by
  unfold part3
  rw [List.length_take, List.length_drop]
  omega
theorem part3_ext {β : Type} {xs ys : List β} {j : Nat} (h : ∀ i, i < 3 → xs[j * 3 + i]? = ys[j * 3 + i]?) : part3 xs j = part3 ys j := by
  apply List.ext_getElem?
  intro i
  by_cases hi : i < 3
  · rw [part3_get _ _ _ hi, part3_get _ _ _ hi]; exact h i hi
  · unfold part3
    rw [List.getElem?_take_eq_none (by omega), List.getElem?_take_eq_none (by omega)]
/-- the j-th struct replaced -/
def put3 {β : Type} (xs : List β) (j : Nat) (a b c : β) : List β := ((xs.set (j * 3) a).set (j * 3 + 1) b).set (j * 3 + 2) c
theorem put3_len {β : Type} (xs : List β) (j : Nat) (a b c : β) : (put3 xs j a b c).length = xs.length := by simp [put3]
theorem put3_at {β : Type} (xs : List β) (j : Nat) (a b c : β) (h : j * 3 + 3 ≤ xs.length) : part3 (put3 xs j a b c) j = [a, b, c] := by
  apply List.ext_getElem?
  intro i
  by_cases hi : i < 3
  · rw [part3_get _ _ _ hi]
    unfold put3
    have h0 : j * 3 < xs.length := by omega
    have h1 : j * 3 + 1 < xs.length := by omega
    have h2 : j * 3 + 2 < xs.length := by omega
    match i, hi with
    | 0, _ => simp [h0]
    | 1, _ => simp [h1]
    | 2, _ => simp [h2]
  · rw [List.getElem?_eq_none (by rw [part3_len _ _ (by rw [put3_len]; exact h)]; omega), List.getElem?_eq_none (by simp; omega)]
theorem put3_other {β : Type} (xs : List β) (j k : Nat) (a b c : β) (h : k ≠ j) : part3 (put3 xs j a b c) k = part3 xs k := by
  refine part3_ext fun i hi => ?_
  unfold put3
  rw [List.getElem?_set_ne (by omega), List.getElem?_set_ne (by omega), List.getElem?_set_ne (by omega)]

/-- three stores into a row of the call's own -/
def store3 (w : World) (g j : Nat) (a b c : Value) : World := ((w.setCell ⟨g, j * 3, none⟩ a).setCell ⟨g, j * 3 + 1, none⟩ b).setCell ⟨g, j * 3 + 2, none⟩ c
theorem own_store3 {w : World} {base g n cap : Nat} {e : TypeId} {xs : List Value} (h : w.ownsRow base e 3 (.slice (some ⟨g, 0, none⟩) n cap) n xs) (j : Nat) (a b c : Value) :
    (store3 w g j a b c).ownsRow base e 3 (.slice (some ⟨g, 0, none⟩) n cap) n (put3 xs j a b c) ∧ w.grownBy (store3 w g j a b c) (some g) := by
  have h1 := h.stored (j * 3) a
  have h2 := h1.1.stored (j * 3 + 1) b
  have h3 := h2.1.stored (j * 3 + 2) c
  refine ⟨h3.1, ⟨rfl, rfl, rfl, ?_, fun k hk hne => ?_⟩⟩
  · exact Nat.le_trans h1.2.size (Nat.le_trans h2.2.size h3.2.size)
  · exact (h3.2.block k (Nat.lt_of_lt_of_le hk (Nat.le_trans h1.2.size h2.2.size)) hne).trans ((h2.2.block k (Nat.lt_of_lt_of_le hk h1.2.size) hne).trans (h1.2.block k hk hne))
end Go.Proofs.Ythcfgpjldhiinaa
