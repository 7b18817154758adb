/-
  Merged by program: Uniq.
-/
import Derived.Test.YtlcedleebbgebaaDoorF1
import Derived.Lib.SlicesS

/-
  The different texts of a list, each at its first place: plain lists.
-/
namespace Go.Proofs.YtlcedleebbgebaaDoor

theorem idx_neg {o : List ByteArray} {x : ByteArray} (h : ¬ x ∈ o) : Lib.idxOfS o x < 0 := by
  rcases Int.lt_or_le (Lib.idxOfS o x) 0 with h1 | h1
  · exact h1
  · exact absurd ((Lib.idxOfS_nonneg_iff o x).1 h1) h
theorem idx_pos {o : List ByteArray} {x : ByteArray} (h : x ∈ o) : ¬ Lib.idxOfS o x < 0 := by
  have := (Lib.idxOfS_nonneg_iff o x).2 h
  omega
def addU (o : List ByteArray) (x : ByteArray) : List ByteArray := if Lib.idxOfS o x < 0 then o ++ [x] else o
def uq (o xs : List ByteArray) : List ByteArray := xs.foldl addU o
theorem uq_nil (o : List ByteArray) : uq o [] = o := rfl
theorem uq_app (o a b : List ByteArray) : uq o (a ++ b) = uq (uq o a) b := by simp [uq, List.foldl_append]
theorem uq_succ (o xs : List ByteArray) (k : Nat) (h : k < xs.length) : uq o (xs.take (k + 1)) = addU (uq o (xs.take k)) xs[k] := by
  rw [List.take_succ_eq_append_getElem h, uq_app]; rfl
theorem addU_in {o : List ByteArray} {x : ByteArray} (h : x ∈ o) : addU o x = o := by simp [addU, idx_pos h]
theorem addU_new {o : List ByteArray} {x : ByteArray} (h : ¬ x ∈ o) : addU o x = o ++ [x] := by simp [addU, idx_neg h]
theorem addU_len (o : List ByteArray) (x : ByteArray) : (addU o x).length ≤ o.length + 1 := by
  unfold addU
  split
  · simp
  · omega
theorem uq_len : ∀ (xs o : List ByteArray), (uq o xs).length ≤ o.length + xs.length
  | [], o => by simp [uq]
  | x :: r, o => by
    have h1 := uq_len r (addU o x)
    have h2 := addU_len o x
    simp only [uq, List.foldl_cons, List.length_cons] at h1 ⊢
    omega
theorem mem_addU {o : List ByteArray} {x y : ByteArray} : y ∈ addU o x ↔ y ∈ o ∨ y = x := by
  by_cases h : x ∈ o
  · rw [addU_in h]
    constructor
    · exact .inl
    · rintro (h1 | rfl)
      · exact h1
      · exact h
  · rw [addU_new h]
    simp
theorem mem_uq : ∀ {xs o : List ByteArray} {y : ByteArray}, y ∈ uq o xs ↔ y ∈ o ∨ y ∈ xs
  | [], o, y => by simp [uq]
  | x :: r, o, y => by
    have := @mem_uq r (addU o x) y
    simp only [uq, List.foldl_cons] at this ⊢
    rw [this, mem_addU, List.mem_cons]
    constructor
    · rintro ((h | h) | h) <;> simp [h]
    · rintro (h | h | h) <;> simp [h]
theorem nodup_addU {o : List ByteArray} {x : ByteArray} (h : o.Nodup) : (addU o x).Nodup := by
  by_cases hx : x ∈ o
  · rw [addU_in hx]; exact h
  · rw [addU_new hx]
    refine List.nodup_append.2 ⟨h, by simp, fun a ha b hb e => ?_⟩
    rw [List.mem_singleton] at hb
    subst hb
    subst e
    exact hx ha
theorem nodup_uq : ∀ {xs o : List ByteArray}, o.Nodup → (uq o xs).Nodup
  | [], _, h => h
  | x :: r, o, h => by
    show (uq (addU o x) r).Nodup
    exact nodup_uq (nodup_addU h)
end Go.Proofs.YtlcedleebbgebaaDoor
