/-
  Merged by program: Part8, Part.
-/
import Derived.Test.YthcfgpjldhiinaaDoorV1

/-
  Rows of structs of 8 cells: the part of one struct; a struct stored. Plain lists, and rows of the call's own. Written by genbox.py.
-/
namespace Go.Proofs.YthcfgpjldhiinaaDoor
open Go.RowKit

theorem grown_trans8 {a b c : World} {g : Nat} (h : a.grownBy b (some g)) (k : b.grownBy c (some g)) : a.grownBy c (some g) :=
  ⟨k.os.trans h.os, k.tape.trans h.tape, k.output.trans h.output, Nat.le_trans h.size k.size, fun i hi hn => (k.block i (Nat.lt_of_lt_of_le hi h.size) hn).trans (h.block i hi hn)⟩
/-- the cells of the j-th struct -/
def part8 {β : Type} (xs : List β) (j : Nat) : List β := (xs.drop (j * 8)).take 8
theorem part8_get {β : Type} (xs : List β) (j i : Nat) (hi : i < 8) : (part8 xs j)[i]? = xs[j * 8 + i]? := by
  unfold part8
  rw [List.getElem?_take_of_lt hi, List.getElem?_drop]
theorem part8_len {β : Type} (xs : List β) (j : Nat) (h : j * 8 + 8 ≤ xs.length) : (part8 xs j).length = 8 := by
  unfold part8
  rw [List.length_take, List.length_drop]
  omega
theorem part8_ext {β : Type} {xs ys : List β} {j : Nat} (h : ∀ i, i < 8 → xs[j * 8 + i]? = ys[j * 8 + i]?) : part8 xs j = part8 ys j := by
  apply List.ext_getElem?
  intro i
  by_cases hi : i < 8
  · rw [part8_get _ _ _ hi, part8_get _ _ _ hi]; exact h i hi
  · unfold part8
    rw [List.getElem?_take_eq_none (by omega), List.getElem?_take_eq_none (by omega)]
/-- the j-th struct replaced -/
def put8 {β : Type} (xs : List β) (j : Nat) (a0 a1 a2 a3 a4 a5 a6 a7 : β) : List β := (((((((xs.set (j * 8) a0).set (j * 8 + 1) a1).set (j * 8 + 2) a2).set (j * 8 + 3) a3).set (j * 8 + 4) a4).set (j * 8 + 5) a5).set (j * 8 + 6) a6).set (j * 8 + 7) a7
theorem put8_len {β : Type} (xs : List β) (j : Nat) (a0 a1 a2 a3 a4 a5 a6 a7 : β) : (put8 xs j a0 a1 a2 a3 a4 a5 a6 a7).length = xs.length := by simp [put8]
theorem put8_at {β : Type} (xs : List β) (j : Nat) (a0 a1 a2 a3 a4 a5 a6 a7 : β) (h : j * 8 + 8 ≤ xs.length) : part8 (put8 xs j a0 a1 a2 a3 a4 a5 a6 a7) j = [a0, a1, a2, a3, a4, a5, a6, a7] := by
  apply List.ext_getElem?
  intro i
  by_cases hi : i < 8
  · rw [part8_get _ _ _ hi]
    unfold put8
    match i, hi with
    | 0, _ =>
      have h0 : j * 8 < xs.length := by omega
      simp [h0]
    | 1, _ =>
      have h0 : j * 8 + 1 < xs.length := by omega
      simp [h0]
    | 2, _ =>
      have h0 : j * 8 + 2 < xs.length := by omega
      simp [h0]
    | 3, _ =>
      have h0 : j * 8 + 3 < xs.length := by omega
      simp [h0]
    | 4, _ =>
      have h0 : j * 8 + 4 < xs.length := by omega
      simp [h0]
    | 5, _ =>
      have h0 : j * 8 + 5 < xs.length := by omega
      simp [h0]
    | 6, _ =>
      have h0 : j * 8 + 6 < xs.length := by omega
      simp [h0]
    | 7, _ =>
      have h0 : j * 8 + 7 < xs.length := by omega
      simp [h0]
  · rw [List.getElem?_eq_none (by rw [part8_len _ _ (by rw [put8_len]; exact h)]; omega), List.getElem?_eq_none (by simp; omega)]
theorem put8_other {β : Type} (xs : List β) (j k : Nat) (a0 a1 a2 a3 a4 a5 a6 a7 : β) (h : k ≠ j) : part8 (put8 xs j a0 a1 a2 a3 a4 a5 a6 a7) k = part8 xs k := by
  refine part8_ext fun i hi => ?_
  unfold put8
  rw [List.getElem?_set_ne (by omega), List.getElem?_set_ne (by omega), List.getElem?_set_ne (by omega), List.getElem?_set_ne (by omega), List.getElem?_set_ne (by omega), List.getElem?_set_ne (by omega), List.getElem?_set_ne (by omega), List.getElem?_set_ne (by omega)]

/-- 8 stores into a row of the call's own -/
def store8 (w : World) (g j : Nat) (a0 a1 a2 a3 a4 a5 a6 a7 : Value) : World := (((((((w.setCell ⟨g, j * 8, none⟩ a0).setCell ⟨g, j * 8 + 1, none⟩ a1).setCell ⟨g, j * 8 + 2, none⟩ a2).setCell ⟨g, j * 8 + 3, none⟩ a3).setCell ⟨g, j * 8 + 4, none⟩ a4).setCell ⟨g, j * 8 + 5, none⟩ a5).setCell ⟨g, j * 8 + 6, none⟩ a6).setCell ⟨g, j * 8 + 7, none⟩ a7
theorem own_store8 {w : World} {base g n cap : Nat} {e : TypeId} {xs : List Value} (h : w.ownsRow base e 8 (.slice (some ⟨g, 0, none⟩) n cap) n xs) (j : Nat) (a0 a1 a2 a3 a4 a5 a6 a7 : Value) :
    (store8 w g j a0 a1 a2 a3 a4 a5 a6 a7).ownsRow base e 8 (.slice (some ⟨g, 0, none⟩) n cap) n (put8 xs j a0 a1 a2 a3 a4 a5 a6 a7) ∧ w.grownBy (store8 w g j a0 a1 a2 a3 a4 a5 a6 a7) (some g) := by
  have h1 := h.stored (j * 8) a0
  have h2 := h1.1.stored (j * 8 + 1) a1
  have h3 := h2.1.stored (j * 8 + 2) a2
  have h4 := h3.1.stored (j * 8 + 3) a3
  have h5 := h4.1.stored (j * 8 + 4) a4
  have h6 := h5.1.stored (j * 8 + 5) a5
  have h7 := h6.1.stored (j * 8 + 6) a6
  have h8 := h7.1.stored (j * 8 + 7) a7
  refine ⟨h8.1, ?_⟩
  have g1 := h1.2
  have g2 := grown_trans8 g1 h2.2
  have g3 := grown_trans8 g2 h3.2
  have g4 := grown_trans8 g3 h4.2
  have g5 := grown_trans8 g4 h5.2
  have g6 := grown_trans8 g5 h6.2
  have g7 := grown_trans8 g6 h7.2
  have g8 := grown_trans8 g7 h8.2
  exact g8
end Go.Proofs.YthcfgpjldhiinaaDoor

/-
  Rows of structs of three cells: the part of one struct; a struct stored. Plain lists, and rows of the call's own.
-/
namespace Go.Proofs.YthcfgpjldhiinaaDoor
open Go.RowKit

/-- the cells of the j-th struct -/
def part3 {β : Type} (xs : List β) (j : Nat) : List β := (xs.drop (j * 3)).take 3
theorem part3_get {β : Type} (xs : List β) (j i : Nat) (hi : i < 3) : (part3 xs j)[i]? = xs[j * 3 + i]? := by
  unfold part3
  rw [List.getElem?_take_of_lt hi, List.getElem?_drop]
theorem part3_len {β : Type} (xs : List β) (j : Nat) (h : j * 3 + 3 ≤ xs.length) : (part3 xs j).length = 3 := by
  unfold part3
  rw [List.length_take, List.length_drop]
  omega
theorem part3_ext {β : Type} {xs ys : List β} {j : Nat} (h : ∀ i, i < 3 → xs[j * 3 + i]? = ys[j * 3 + i]?) : part3 xs j = part3 ys j := by
  apply List.ext_getElem?
  intro i
  by_cases hi : i < 3
  · rw [part3_get _ _ _ hi, part3_get _ _ _ hi]; exact h i hi
  · unfold part3
    rw [List.getElem?_take_eq_none (by omega), List.getElem?_take_eq_none (by omega)]
/-- the j-th struct replaced -/
def put3 {β : Type} (xs : List β) (j : Nat) (a b c : β) : List β := ((xs.set (j * 3) a).set (j * 3 + 1) b).set (j * 3 + 2) c
theorem put3_len {β : Type} (xs : List β) (j : Nat) (a b c : β) : (put3 xs j a b c).length = xs.length := by simp [put3]
theorem put3_at {β : Type} (xs : List β) (j : Nat) (a b c : β) (h : j * 3 + 3 ≤ xs.length) : part3 (put3 xs j a b c) j = [a, b, c] := by
  apply List.ext_getElem?
  intro i
  by_cases hi : i < 3
  · rw [part3_get _ _ _ hi]
    unfold put3
    have h0 : j * 3 < xs.length := by omega
    have h1 : j * 3 + 1 < xs.length := by omega
    have h2 : j * 3 + 2 < xs.length := by omega
    match i, hi with
    | 0, _ => simp [h0]
    | 1, _ => simp [h1]
    | 2, _ => simp [h2]
  · rw [List.getElem?_eq_none (by rw [part3_len _ _ (by rw [put3_len]; exact h)]; omega), List.getElem?_eq_none (by simp; omega)]
theorem put3_other {β : Type} (xs : List β) (j k : Nat) (a b c : β) (h : k ≠ j) : part3 (put3 xs j a b c) k = part3 xs k := by
  refine part3_ext fun i hi => ?_
  unfold put3
  rw [List.getElem?_set_ne (by omega), List.getElem?_set_ne (by omega), List.getElem?_set_ne (by omega)]

/-- three stores into a row of the call's own -/
def store3 (w : World) (g j : Nat) (a b c : Value) : World := ((w.setCell ⟨g, j * 3, none⟩ a).setCell ⟨g, j * 3 + 1, none⟩ b).setCell ⟨g, j * 3 + 2, none⟩ c
theorem own_store3 {w : World} {base g n cap : Nat} {e : TypeId} {xs : List Value} (h : w.ownsRow base e 3 (.slice (some ⟨g, 0, none⟩) n cap) n xs) (j : Nat) (a b c : Value) :
    (store3 w g j a b c).ownsRow base e 3 (.slice (some ⟨g, 0, none⟩) n cap) n (put3 xs j a b c) ∧ w.grownBy (store3 w g j a b c) (some g) := by
  have h1 := h.stored (j * 3) a
  have h2 := h1.1.stored (j * 3 + 1) b
  have h3 := h2.1.stored (j * 3 + 2) c
  refine ⟨h3.1, ⟨rfl, rfl, rfl, ?_, fun k hk hne => ?_⟩⟩
  · exact Nat.le_trans h1.2.size (Nat.le_trans h2.2.size h3.2.size)
  · exact (h3.2.block k (Nat.lt_of_lt_of_le hk (Nat.le_trans h1.2.size h2.2.size)) hne).trans ((h2.2.block k (Nat.lt_of_lt_of_le hk h1.2.size) hne).trans (h1.2.block k hk hne))
end Go.Proofs.YthcfgpjldhiinaaDoor
