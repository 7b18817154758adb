/-
  Splitting at a byte, as a function on lists of bytes; what Go's strings.Split gives is that.
-/
import Derived.Test.YtbahiaeppagncaaDoorWords
import Derived.Lib.SplitLaws
import Derived.Lib.IndexBytes
import Derived.Lib.IndexLaws
namespace Go.Proofs.YtbahiaeppagncaaDoor

/-- the parts of a text between the places of a byte -/
def splitL (c : UInt8) : List UInt8 → List (List UInt8)
  | [] => [[]]
  | b :: r => if b = c then [] :: splitL c r else
      match splitL c r with
      | [] => [[b]]
      | h :: t => (b :: h) :: t
theorem splitL_none (c : UInt8) : ∀ (p : List UInt8), c ∉ p → splitL c p = [p]
  | [], _ => rfl
  | b :: r, h => by
    simp only [List.mem_cons, not_or] at h
    rw [splitL, if_neg (fun e => h.1 e.symm), splitL_none c r h.2]
theorem splitL_at (c : UInt8) (q : List UInt8) : ∀ (p : List UInt8), c ∉ p → splitL c (p ++ c :: q) = p :: splitL c q
  | [], _ => by rw [List.nil_append, splitL, if_pos rfl]
  | b :: r, h => by
    simp only [List.mem_cons, not_or] at h
    rw [List.cons_append, splitL, if_neg (fun e => h.1 e.symm), splitL_at c q r h.2]
theorem splitL_len (c : UInt8) (l : List UInt8) : 1 ≤ (splitL c l).length ∧ (splitL c l).length ≤ l.length + 1 := by
  induction l with
  | nil => simp [splitL]
  | cons b r ih =>
    rw [splitL]
    split
    · simp only [List.length_cons]; omega
    · split
      · rename_i h
        rw [h] at ih
        simp at ih
      · rename_i h
        rw [h] at ih
        simp only [List.length_cons] at ih ⊢
        omega

theorem splitL_count (c : UInt8) (l : List UInt8) : (splitL c l).length = l.count c + 1 := by
  induction l with
  | nil => rfl
  | cons b r ih =>
    rw [splitL]
    split
    · rename_i h
      subst h
      rw [List.count_cons_self, List.length_cons, ih]
    · rename_i h
      rw [List.count_cons_of_ne (by simpa using h)]
      split
      · rename_i h2
        rw [h2] at ih
        simp at ih
      · rename_i h2
        rw [h2] at ih
        simpa using ih
theorem splitK_eq (c : UInt8) : ∀ (n : Nat) (l : List UInt8), l.count c = n → Lib.splitK [c] 0 n l = splitL c l
  | 0, l, h => by
    rw [splitL_none c l (List.count_eq_zero.1 h)]
    rfl
  | n + 1, l, h => by
    have hge := Lib.indexByte_ge l c
    rcases Int.lt_or_le (Lib.indexByte l c) 0 with hneg | hpos
    · have e : Lib.indexByte l c = -1 := by omega
      have hno : c ∉ l := by
        intro hm
        obtain ⟨k, hk, e2⟩ := List.getElem_of_mem hm
        exact Lib.indexByte_none e k (by rw [List.getElem?_eq_getElem hk, e2])
      rw [List.count_eq_zero.2 hno] at h
      omega
    · obtain ⟨o, ho⟩ : ∃ o : Nat, Lib.indexByte l c = o := ⟨(Lib.indexByte l c).toNat, by omega⟩
      obtain ⟨h1, h2⟩ := Lib.indexByte_some ho
      have hlt : o < l.length := (List.getElem?_eq_some_iff.1 h1).1
      have hco : l[o] = c := (List.getElem?_eq_some_iff.1 h1).2
      have hl : l = l.take o ++ c :: l.drop (o + 1) := by
        rw [← hco, ← List.drop_eq_getElem_cons hlt, List.take_append_drop]
      have hp : c ∉ l.take o := by
        intro hm
        obtain ⟨k, hk, e2⟩ := List.getElem_of_mem hm
        rw [List.length_take] at hk
        refine h2 k (by omega) ?_
        rw [List.getElem_take] at e2
        rw [List.getElem?_eq_getElem (by omega), e2]
      have hcount : (l.drop (o + 1)).count c = n := by
        rw [hl, List.count_append, List.count_eq_zero.2 hp, List.count_cons_self] at h
        omega
      rw [Lib.splitK, Lib.index_one, ho, if_neg (by simp)]
      have ih := splitK_eq c n (l.drop (o + 1)) hcount
      have e3 : splitL c l = l.take o :: splitL c (l.drop (o + 1)) := by
        conv => lhs; rw [hl]
        exact splitL_at c _ _ hp
      rw [e3, ← ih]
      simp

theorem split_data (s : ByteArray) (c : UInt8) : (Lib.splitB ⟨#[c]⟩ 0 (Lib.countB s ⟨#[c]⟩) s).map (·.data.toList) = splitL c s.data.toList := by
  rw [Lib.splitB_data]
  have e : Lib.countB s ⟨#[c]⟩ = s.data.toList.count c := by
    show Lib.count s.data.toList [c] = _
    exact Lib.count_one c _
  rw [e]
  exact splitK_eq c _ _ rfl
theorem split_count (s : ByteArray) (c : UInt8) : (Lib.splitB ⟨#[c]⟩ 0 (Lib.countB s ⟨#[c]⟩) s).length = Lib.countB s ⟨#[c]⟩ + 1 := by
  have h := congrArg List.length (split_data s c)
  rw [List.length_map, splitL_count] at h
  rw [h]
  congr 1
  exact (Lib.count_one c _).symm
theorem data_inj {a b : ByteArray} (h : a.data.toList = b.data.toList) : a = b := by
  apply ByteArray.ext
  exact Array.toList_inj.1 h
theorem map_data_inj : ∀ {xs ys : List ByteArray}, xs.map (·.data.toList) = ys.map (·.data.toList) → xs = ys
  | [], [], _ => rfl
  | [], _ :: _, h => by simp at h
  | _ :: _, [], h => by simp at h
  | x :: xs, y :: ys, h => by
    simp only [List.map_cons, List.cons.injEq] at h
    rw [data_inj h.1, map_data_inj h.2]

/-- what the loop over the bytes knows: the parts found so far, and that the byte does not stand in what follows up to here -/
def SState (c : UInt8) (L : List UInt8) (xs : List ByteArray) (fr k : Nat) : Prop :=
  (k ≤ L.length ∧ fr ≤ k ∧ xs.map (·.data.toList) ++ splitL c (L.drop fr) = splitL c L ∧ c ∉ (L.drop fr).take (k - fr)) ∨ (k = L.length + 1 ∧ xs.map (·.data.toList) = splitL c L)
theorem sstate_start (c : UInt8) (L : List UInt8) : SState c L [] 0 0 := .inl ⟨Nat.zero_le _, Nat.le_refl _, by simp, by simp⟩
theorem sstate_skip {c : UInt8} {L : List UInt8} {xs : List ByteArray} {fr k : Nat} (h : SState c L xs fr k) (hk : k < L.length) (hne : L[k] ≠ c) : SState c L xs fr (k + 1) := by
  rcases h with ⟨h1, h2, h3, h4⟩ | ⟨h1, _⟩
  · refine .inl ⟨hk, by omega, h3, ?_⟩
    rw [show k + 1 - fr = (k - fr) + 1 by omega, List.take_add_one, List.mem_append, not_or]
    refine ⟨h4, ?_⟩
    rw [List.getElem?_drop, show fr + (k - fr) = k by omega, List.getElem?_eq_getElem hk]
    simpa using fun e => hne e.symm
  · omega
theorem sstate_cut {c : UInt8} {L : List UInt8} {xs : List ByteArray} {fr k : Nat} (h : SState c L xs fr k) (hk : k < L.length) (he : L[k] = c) (x : ByteArray) (hx : x.data.toList = (L.drop fr).take (k - fr)) : SState c L (xs ++ [x]) (k + 1) (k + 1) := by
  rcases h with ⟨h1, h2, h3, h4⟩ | ⟨h1, _⟩
  · refine .inl ⟨hk, Nat.le_refl _, ?_, by simp⟩
    have e : L.drop fr = (L.drop fr).take (k - fr) ++ c :: L.drop (k + 1) := by
      have e1 : (L.drop fr).drop (k - fr) = c :: L.drop (k + 1) := by rw [List.drop_drop, show fr + (k - fr) = k by omega, List.drop_eq_getElem_cons hk, he]
      rw [← e1, List.take_append_drop]
    rw [e, splitL_at c _ _ h4] at h3
    rw [List.map_append, List.append_assoc, ← h3]
    simp [hx]
  · omega
theorem sstate_last {c : UInt8} {L : List UInt8} {xs : List ByteArray} {fr : Nat} (h : SState c L xs fr L.length) (x : ByteArray) (hx : x.data.toList = (L.drop fr).take (L.length - fr)) : SState c L (xs ++ [x]) (L.length + 1) (L.length + 1) := by
  rcases h with ⟨h1, h2, h3, h4⟩ | ⟨h1, _⟩
  · refine .inr ⟨rfl, ?_⟩
    have e : (L.drop fr).take (L.length - fr) = L.drop fr := List.take_of_length_le (by rw [List.length_drop]; omega)
    rw [e] at h4 hx
    rw [splitL_none c _ h4] at h3
    rw [← h3, List.map_append]
    simp [hx]
  · omega
theorem sstate_end {c : UInt8} {L : List UInt8} {xs : List ByteArray} {fr k : Nat} (h : SState c L xs fr k) (hk : L.length < k) : xs.map (·.data.toList) = splitL c L := by
  rcases h with ⟨h1, _⟩ | ⟨_, h2⟩
  · omega
  · exact h2
end Go.Proofs.YtbahiaeppagncaaDoor
