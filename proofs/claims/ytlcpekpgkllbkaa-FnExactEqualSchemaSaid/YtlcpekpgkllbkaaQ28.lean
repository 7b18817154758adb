/-
  Merged by program: SchD, Uniq.
-/
import Derived.Test.YtlcpekpgkllbkaaQ14
import Derived.Test.YtlcpekpgkllbkaaQ20
import Derived.Test.YtlcpekpgkllbkaaQ26
import Derived.Test.YtlcpekpgkllbkaaQ24
import Derived.Test.YtlcpekpgkllbkaaQ27
import Derived.Test.YtlcpekpgkllbkaaQ1
import Derived.Lib.SlicesS

/-
  Schemas and databases as lists: what the document's chapter 9 asks of them, in plain words. Hangs on no function of the program.
-/
namespace Go.Proofs.Ytlcpekpgkllbkaa
open Go.RowKit

def declB (d : Dc) : Bool := nameB d.1 && rowB d.2
def namesOf (xs : Sc) : List ByteArray := xs.map fun d => d.1
def schB (xs : Sc) : Bool := xs.all declB && (decide (xs.length ≤ 4) && ascL (namesOf xs))
theorem all_take {α : Type} {f : α → Bool} {xs : List α} {k : Nat} (h : (xs.take k).all f = true) (hk : k < xs.length) (hf : f xs[k] = true) : (xs.take (k + 1)).all f = true := by
  rw [List.take_add_one, List.getElem?_eq_getElem hk, List.all_append, h]
  simp [hf]
theorem all_no {α : Type} {f : α → Bool} {xs : List α} {k : Nat} (hk : k < xs.length) (hf : f xs[k] = false) : xs.all f = false := by
  rw [List.all_eq_false]
  exact ⟨xs[k], List.getElem_mem hk, by simp [hf]⟩
theorem sch_no {xs : Sc} {k : Nat} (hk : k < xs.length) (hf : declB xs[k] = false) : schB xs = false := by unfold schB; rw [all_no hk hf]; rfl
theorem sch_all {xs : Sc} (h : (xs.take xs.length).all declB = true) : schB xs = (decide (xs.length ≤ 4) && ascL (namesOf xs)) := by
  rw [List.take_length] at h
  unfold schB
  rw [h]
  rfl
theorem namesOf_take (xs : Sc) (k : Nat) (hk : k < xs.length) : (namesOf (xs.take (k + 1))).map Value.string = (namesOf (xs.take k)).map Value.string ++ [.string xs[k].1] := by
  unfold namesOf
  rw [List.take_add_one, List.getElem?_eq_getElem hk, List.map_append, List.map_append]
  rfl
noncomputable def sameDc (a b : Dc) : Bool := decide (a.1 = b.1) && same a.2 b.2
def allPairs {α β : Type} (f : α → β → Bool) (xs : List α) (ys : List β) : Bool := (xs.zip ys).all fun p => f p.1 p.2
theorem pairs_no {α β : Type} {f : α → β → Bool} {xs : List α} {ys : List β} {k : Nat} (h1 : k < xs.length) (h2 : k < ys.length) (hf : f xs[k] ys[k] = false) : allPairs f xs ys = false := by
  unfold allPairs
  have hk : k < (xs.zip ys).length := by rw [List.length_zip]; omega
  exact all_no hk (by rw [List.getElem_zip]; exact hf)
def PairsTo {α β : Type} (f : α → β → Bool) (xs : List α) (ys : List β) (k : Nat) : Prop := ((xs.zip ys).take k).all (fun p => f p.1 p.2) = true
theorem pairsTo_zero {α β : Type} (f : α → β → Bool) (xs : List α) (ys : List β) : PairsTo f xs ys 0 := by simp [PairsTo]
theorem pairsTo_more {α β : Type} {f : α → β → Bool} {xs : List α} {ys : List β} {k : Nat} (h : PairsTo f xs ys k) (h1 : k < xs.length) (h2 : k < ys.length) (hf : f xs[k] ys[k] = true) : PairsTo f xs ys (k + 1) := by
  have hk : k < (xs.zip ys).length := by rw [List.length_zip]; omega
  exact all_take h hk (by rw [List.getElem_zip]; exact hf)
theorem pairsTo_all {α β : Type} {f : α → β → Bool} {xs : List α} {ys : List β} (h : PairsTo f xs ys xs.length) : allPairs f xs ys = true := by
  unfold PairsTo at h
  rw [List.take_of_length_le (by rw [List.length_zip]; omega)] at h
  exact h
noncomputable def eqScB (a b : Sc) : Bool := decide (a.length = b.length) && allPairs sameDc a b
end Go.Proofs.Ytlcpekpgkllbkaa

/-
  The different texts of a list, each at its first place: plain lists.
-/
namespace Go.Proofs.Ytlcpekpgkllbkaa

theorem idx_neg {o : List ByteArray} {x : ByteArray} (h : ¬ x ∈ o) : Lib.idxOfS o x < 0 := by
  rcases Int.lt_or_le (Lib.idxOfS o x) 0 with h1 | h1
  · exact h1
  · exact absurd ((Lib.idxOfS_nonneg_iff o x).1 h1) h
theorem idx_pos {o : List ByteArray} {x : ByteArray} (h : x ∈ o) : ¬ Lib.idxOfS o x < 0 := by
  have := (Lib.idxOfS_nonneg_iff o x).2 h
  omega
def addU (o : List ByteArray) (x : ByteArray) : List ByteArray := if Lib.idxOfS o x < 0 then o ++ [x] else o
def uq (o xs : List ByteArray) : List ByteArray := xs.foldl addU o
theorem uq_nil (o : List ByteArray) : uq o [] = o := rfl
theorem uq_app (o a b : List ByteArray) : uq o (a ++ b) = uq (uq o a) b := by simp [uq, List.foldl_append]
theorem uq_succ (o xs : List ByteArray) (k : Nat) (h : k < xs.length) : uq o (xs.take (k + 1)) = addU (uq o (xs.take k)) xs[k] := by
  rw [List.take_succ_eq_append_getElem h, uq_app]; rfl
theorem addU_in {o : List ByteArray} {x : ByteArray} (h : x ∈ o) : addU o x = o := by simp [addU, idx_pos h]
theorem addU_new {o : List ByteArray} {x : ByteArray} (h : ¬ x ∈ o) : addU o x = o ++ [x] := by simp [addU, idx_neg h]
theorem addU_len (o : List ByteArray) (x : ByteArray) : (addU o x).length ≤ o.length + 1 := by
  unfold addU
  split
  · simp
  · omega
theorem uq_len : ∀ (xs o : List ByteArray), (uq o xs).length ≤ o.length + xs.length
  | [], o => by simp [uq]
  | x :: r, o => by
    have h1 := uq_len r (addU o x)
    have h2 := addU_len o x
    simp only [uq, List.foldl_cons, List.length_cons] at h1 ⊢
    omega
theorem mem_addU {o : List ByteArray} {x y : ByteArray} : y ∈ addU o x ↔ y ∈ o ∨ y = x := by
  by_cases h : x ∈ o
  · rw [addU_in h]
    constructor
    · exact .inl
    · rintro (h1 | rfl)
      · exact h1
      · exact h
  · rw [addU_new h]
    simp
theorem mem_uq : ∀ {xs o : List ByteArray} {y : ByteArray}, y ∈ uq o xs ↔ y ∈ o ∨ y ∈ xs
  | [], o, y => by simp [uq]
  | x :: r, o, y => by
    have := @mem_uq r (addU o x) y
    simp only [uq, List.foldl_cons] at this ⊢
    rw [this, mem_addU, List.mem_cons]
    constructor
    · rintro ((h | h) | h) <;> simp [h]
    · rintro (h | h | h) <;> simp [h]
theorem nodup_addU {o : List ByteArray} {x : ByteArray} (h : o.Nodup) : (addU o x).Nodup := by
  by_cases hx : x ∈ o
  · rw [addU_in hx]; exact h
  · rw [addU_new hx]
    refine List.nodup_append.2 ⟨h, by simp, fun a ha b hb e => ?_⟩
    rw [List.mem_singleton] at hb
    subst hb
    subst e
    exact hx ha
theorem nodup_uq : ∀ {xs o : List ByteArray}, o.Nodup → (uq o xs).Nodup
  | [], _, h => h
  | x :: r, o, h => by
    show (uq (addU o x) r).Nodup
    exact nodup_uq (nodup_addU h)
end Go.Proofs.Ytlcpekpgkllbkaa
