/-
  Lists of strings joined by a separator, as lists of bytes.
-/
import Derived.Test.YtffaggiblglcbaaWords
import Derived.Lib.Join
namespace Go.Proofs.Ytffaggiblglcbaa
open Go.RowKit

/-- the text of a list, the separator between its elements -/
def jn (xs : List ByteArray) (sp : ByteArray) : List UInt8 := Lib.join (xs.map (·.data.toList)) sp.data.toList
theorem jn_zero (xs : List ByteArray) (sp : ByteArray) : jn (xs.take 0) sp = [] := by simp [jn, Lib.join_nil]
theorem jn_one (xs : List ByteArray) (sp x : ByteArray) (h : xs[0]? = some x) : jn (xs.take 1) sp = x.data.toList := by
  rw [show xs.take 1 = [x] from by rw [List.take_add_one, h]; simp]
  simp [jn, Lib.join_one]
theorem jn_succ (xs : List ByteArray) (sp x : ByteArray) (k : Nat) (h : xs[k + 1]? = some x) : jn (xs.take (k + 2)) sp = jn (xs.take (k + 1)) sp ++ sp.data.toList ++ x.data.toList := by
  cases xs with
  | nil => simp at h
  | cons y r =>
    have hr : (r.map (·.data.toList))[k]? = some x.data.toList := by
      rw [List.getElem?_cons_succ] at h
      rw [List.getElem?_map, h]; rfl
    have := Lib.joinTail_take_succ sp.data.toList (r.map (·.data.toList)) k x.data.toList hr
    simp only [jn, List.take_succ_cons, List.map_cons, Lib.join_cons, List.map_take]
    rw [this]
    simp [List.append_assoc]
theorem jn_more (xs : List ByteArray) (sp x : ByteArray) (k : Nat) (hk : 0 < k) (h : xs[k]? = some x) : jn (xs.take (k + 1)) sp = jn (xs.take k) sp ++ sp.data.toList ++ x.data.toList := by
  obtain ⟨j, rfl⟩ : ∃ j, k = j + 1 := ⟨k - 1, by omega⟩
  exact jn_succ xs sp x j h
theorem lens_total (xs : List ByteArray) : Lib.lens (xs.map (·.data.toList)) = total xs := by
  unfold Lib.lens total
  rw [List.map_map]
  congr 1
theorem jn_len (xs : List ByteArray) (sp : ByteArray) : (jn xs sp).length ≤ xs.length * sp.size + total xs := by
  cases xs with
  | nil => simp [jn, Lib.join_nil]
  | cons y r =>
    have h1 := lens_total (y :: r)
    unfold jn
    rw [List.map_cons] at h1 ⊢
    rw [Lib.join_length, h1, size_data, List.length_map, Nat.mul_comm]
    have : r.length * sp.size ≤ (y :: r).length * sp.size := Nat.mul_le_mul_right _ (by simp)
    omega
theorem jn_take_len (xs : List ByteArray) (sp : ByteArray) (k : Nat) : (jn (xs.take k) sp).length ≤ xs.length * sp.size + total xs := by
  have h1 := jn_len (xs.take k) sp
  have h2 := total_take_le xs k
  have h3 : (xs.take k).length * sp.size ≤ xs.length * sp.size := Nat.mul_le_mul_right _ (by rw [List.length_take]; omega)
  omega

end Go.Proofs.Ytffaggiblglcbaa
