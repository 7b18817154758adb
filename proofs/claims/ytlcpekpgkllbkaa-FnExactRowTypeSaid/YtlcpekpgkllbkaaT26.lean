/-
  Merged by program: SchD, Uniq, AscL.
-/
import Derived.Test.YtlcpekpgkllbkaaT8
import Derived.Test.YtlcpekpgkllbkaaT17
import Derived.Test.YtlcpekpgkllbkaaT25
import Derived.Test.YtlcpekpgkllbkaaT23
import Derived.Test.YtlcpekpgkllbkaaT1
import Derived.Lib.SlicesS
import Derived.Sort.EncStr

/-
  Schemas and databases as lists: what the document's chapter 9 asks of them, in plain words. Hangs on no function of the program.
-/
namespace Go.Proofs.Ytlcpekpgkllbkaa
open Go.RowKit

def declB (d : Dc) : Bool := nameB d.1 && rowB d.2
def namesOf (xs : Sc) : List ByteArray := xs.map fun d => d.1
def schB (xs : Sc) : Bool := xs.all declB && (decide (xs.length ≤ 4) && ascL (namesOf xs))
theorem all_take {α : Type} {f : α → Bool} {xs : List α} {k : Nat} (h : (xs.take k).all f = true) (hk : k < xs.length) (hf : f xs[k] = true) : (xs.take (k + 1)).all f = true := by
  rw [List.take_add_one, List.getElem?_eq_getElem hk, List.all_append, h]
  simp [hf]
theorem all_no {α : Type} {f : α → Bool} {xs : List α} {k : Nat} (hk : k < xs.length) (hf : f xs[k] = false) : xs.all f = false := by
  rw [List.all_eq_false]
  exact ⟨xs[k], List.getElem_mem hk, by simp [hf]⟩
theorem sch_no {xs : Sc} {k : Nat} (hk : k < xs.length) (hf : declB xs[k] = false) : schB xs = false := by unfold schB; rw [all_no hk hf]; rfl
theorem sch_all {xs : Sc} (h : (xs.take xs.length).all declB = true) : schB xs = (decide (xs.length ≤ 4) && ascL (namesOf xs)) := by
  rw [List.take_length] at h
  unfold schB
  rw [h]
  rfl
theorem namesOf_take (xs : Sc) (k : Nat) (hk : k < xs.length) : (namesOf (xs.take (k + 1))).map Value.string = (namesOf (xs.take k)).map Value.string ++ [.string xs[k].1] := by
  unfold namesOf
  rw [List.take_add_one, List.getElem?_eq_getElem hk, List.map_append, List.map_append]
  rfl
noncomputable def sameDc (a b : Dc) : Bool := decide (a.1 = b.1) && same a.2 b.2
def allPairs {α β : Type} (f : α → β → Bool) (xs : List α) (ys : List β) : Bool := (xs.zip ys).all fun p => f p.1 p.2
theorem pairs_no {α β : Type} {f : α → β → Bool} {xs : List α} {ys : List β} {k : Nat} (h1 : k < xs.length) (h2 : k < ys.length) (hf : f xs[k] ys[k] = false) : allPairs f xs ys = false := by
  unfold allPairs
  have hk : k < (xs.zip ys).length := by rw [List.length_zip]; omega
  exact all_no hk (by rw [List.getElem_zip]; exact hf)
def PairsTo {α β : Type} (f : α → β → Bool) (xs : List α) (ys : List β) (k : Nat) : Prop := ((xs.zip ys).take k).all (fun p => f p.1 p.2) = true
theorem pairsTo_zero {α β : Type} (f : α → β → Bool) (xs : List α) (ys : List β) : PairsTo f xs ys 0 := by simp [PairsTo]
theorem pairsTo_more {α β : Type} {f : α → β → Bool} {xs : List α} {ys : List β} {k : Nat} (h : PairsTo f xs ys k) (h1 : k < xs.length) (h2 : k < ys.length) (hf : f xs[k] ys[k] = true) : PairsTo f xs ys (k + 1) := by
  have hk : k < (xs.zip ys).length := by rw [List.length_zip]; omega
  exact all_take h hk (by rw [List.getElem_zip]; exact hf)
theorem pairsTo_all {α β : Type} {f : α → β → Bool} {xs : List α} {ys : List β} (h : PairsTo f xs ys xs.length) : allPairs f xs ys = true := by
  unfold PairsTo at h
  rw [List.take_of_length_le (by rw [List.length_zip]; omega)] at h
  exact h
noncomputable def eqScB (a b : Sc) : Bool := decide (a.length = b.length) && allPairs sameDc a b
end Go.Proofs.Ytlcpekpgkllbkaa

/-
  The different texts of a list, each at its first place: plain lists.
-/
namespace Go.Proofs.Ytlcpekpgkllbkaa

theorem idx_neg {o : List ByteArray} {x : ByteArray} (h : ¬ x ∈ o) : Lib.idxOfS o x < 0 := by
  rcases Int.lt_or_le (Lib.idxOfS o x) 0 with h1 | h1
  · exact h1
  · exact absurd ((Lib.idxOfS_nonneg_iff o x).1 h1) h
theorem idx_pos {o : List ByteArray} {x : ByteArray} (h : x ∈ o) : ¬ Lib.idxOfS o x < 0 := by
  have := (Lib.idxOfS_nonneg_iff o x).2 h
  omega
def addU (o : List ByteArray) (x : ByteArray) : List ByteArray := if Lib.idxOfS o x < 0 then o ++ [x] else o
def uq (o xs : List ByteArray) : List ByteArray := xs.foldl addU o
theorem uq_nil (o : List ByteArray) : uq o [] = o := rfl
theorem uq_app (o a b : List ByteArray) : uq o (a ++ b) = uq (uq o a) b := by simp [uq, List.foldl_append]
theorem uq_succ (o xs : List ByteArray) (k : Nat) (h : k < xs.length) : uq o (xs.take (k + 1)) = addU (uq o (xs.take k)) xs[k] := by
  rw [List.take_succ_eq_append_getElem h, uq_app]; rfl
theorem addU_in {o : List ByteArray} {x : ByteArray} (h : x ∈ o) : addU o x = o := by simp [addU, idx_pos h]
theorem addU_new {o : List ByteArray} {x : ByteArray} (h : ¬ x ∈ o) : addU o x = o ++ [x] := by simp [addU, idx_neg h]
theorem addU_len (o : List ByteArray) (x : ByteArray) : (addU o x).length ≤ o.length + 1 := by
  unfold addU
  split
  · simp
  · omega
theorem uq_len : ∀ (xs o : List ByteArray), (uq o xs).length ≤ o.length + xs.length
  | [], o => by simp [uq]
  | x :: r, o => by
    have h1 := uq_len r (addU o x)
    have h2 := addU_len o x
    simp only [uq, List.foldl_cons, List.length_cons] at h1 ⊢
    omega
theorem mem_addU {o : List ByteArray} {x y : ByteArray} : y ∈ addU o x ↔ y ∈ o ∨ y = x := by
  by_cases h : x ∈ o
  · rw [addU_in h]
    constructor
    · exact .inl
    · rintro (h1 | rfl)
      · exact h1
      · exact h
  · rw [addU_new h]
    simp
theorem mem_uq : ∀ {xs o : List ByteArray} {y : ByteArray}, y ∈ uq o xs ↔ y ∈ o ∨ y ∈ xs
  | [], o, y => by simp [uq]
  | x :: r, o, y => by
    have := @mem_uq r (addU o x) y
    simp only [uq, List.foldl_cons] at this ⊢
    rw [this, mem_addU, List.mem_cons]
    constructor
    · rintro ((h | h) | h) <;> simp [h]
    · rintro (h | h | h) <;> simp [h]
theorem nodup_addU {o : List ByteArray} {x : ByteArray} (h : o.Nodup) : (addU o x).Nodup := by
  by_cases hx : x ∈ o
  · rw [addU_in hx]; exact h
  · rw [addU_new hx]
    refine List.nodup_append.2 ⟨h, by simp, fun a ha b hb e => ?_⟩
    rw [List.mem_singleton] at hb
    subst hb
    subst e
    exact hx ha
theorem nodup_uq : ∀ {xs o : List ByteArray}, o.Nodup → (uq o xs).Nodup
  | [], _, h => h
  | x :: r, o, h => by
    show (uq (addU o x) r).Nodup
    exact nodup_uq (nodup_addU h)
end Go.Proofs.Ytlcpekpgkllbkaa

/-
  Lists of texts in strictly ascending order: one list for one set; an element put in; a sorted list without repeats. Plain lists.
-/
namespace Go.Proofs.Ytlcpekpgkllbkaa

theorem less_eq : ∀ (x y : List UInt8), Op.bytesLess x y = decide (x < y)
  | _, [] => by simp [Op.bytesLess]
  | [], b :: y => by simp [Op.bytesLess]
  | a :: x, b :: y => by
    rw [Op.bytesLess, less_eq x y, Bool.eq_iff_iff]
    simp [List.cons_lt_cons_iff]
/-- the text precedes the other one -/
def Lt (x y : ByteArray) : Prop := x.data.toList < y.data.toList
theorem lt_iff (x y : ByteArray) : Op.bytesLess x.toList y.toList = true ↔ Lt x y := by
  rw [less_eq, ByteArray.toList_eq, ByteArray.toList_eq, decide_eq_true_eq]; rfl
theorem not_lt_iff (x y : ByteArray) : Op.bytesLess x.toList y.toList = false ↔ ¬ Lt x y := by
  rw [← lt_iff, Bool.not_eq_true]
theorem Lt.irrefl (x : ByteArray) : ¬ Lt x x := List.lt_irrefl _
theorem Lt.trans {x y z : ByteArray} (h : Lt x y) (k : Lt y z) : Lt x z := List.lt_trans h k
theorem Lt.asymm {x y : ByteArray} (h : Lt x y) : ¬ Lt y x := fun k => Lt.irrefl x (h.trans k)
theorem lt_of_ne {a b : List UInt8} (h : a ≤ b) (hne : a ≠ b) : a < b := by
  rcases Classical.em (a < b) with h1 | h1
  · exact h1
  · exact absurd (List.le_antisymm h (List.not_lt.1 h1)) hne
theorem Lt.total {x y : ByteArray} (h : ¬ Lt x y) (hne : x ≠ y) : Lt y x := by
  have h1 : y.data.toList ≤ x.data.toList := List.not_lt.1 h
  exact lt_of_ne h1 (fun e => hne (ByteArray.ext (Array.toList_inj.1 e.symm)))

/-- strictly ascending -/
def Asc (l : List ByteArray) : Prop := l.Pairwise Lt
theorem asc_unique : ∀ {o p : List ByteArray}, Asc o → Asc p → (∀ y, y ∈ o ↔ y ∈ p) → o = p
  | [], [], _, _, _ => rfl
  | [], b :: p, _, _, h => by have := (h b).2 (by simp); simp at this
  | a :: o, [], _, _, h => by have := (h a).1 (by simp); simp at this
  | a :: o, b :: p, ho, hp, h => by
    obtain ⟨h1, h2⟩ := List.pairwise_cons.1 ho
    obtain ⟨k1, k2⟩ := List.pairwise_cons.1 hp
    have hab : a = b := by
      rcases List.mem_cons.1 ((h a).1 (by simp)) with e | e
      · exact e
      · rcases List.mem_cons.1 ((h b).2 (by simp)) with e' | e'
        · exact e'.symm
        · exact absurd (h1 b e') (k1 a e).asymm
    subst hab
    have hop : o = p := asc_unique h2 k2 (fun y => by
      constructor
      · intro hy
        rcases List.mem_cons.1 ((h y).1 (by simp [hy])) with e | e
        · subst e; exact absurd (h1 y hy) (Lt.irrefl y)
        · exact e
      · intro hy
        rcases List.mem_cons.1 ((h y).2 (by simp [hy])) with e | e
        · subst e; exact absurd (k1 y hy) (Lt.irrefl y)
        · exact e)
    rw [hop]

/-- all up to this place precede x -/
def LtTo (o : List ByteArray) (x : ByteArray) (a : Nat) : Prop := ∀ y ∈ o.take a, Lt y x
theorem ltTo_zero (o : List ByteArray) (x : ByteArray) : LtTo o x 0 := by intro y h; simp at h
theorem ltTo_succ {o : List ByteArray} {x : ByteArray} {a : Nat} (h : LtTo o x a) (ha : a < o.length) (hx : Lt o[a] x) : LtTo o x (a + 1) := by
  intro y hy
  rw [List.take_succ_eq_append_getElem ha, List.mem_append, List.mem_singleton] at hy
  rcases hy with hy | rfl
  · exact h y hy
  · exact hx
theorem put_asc {o : List ByteArray} {x : ByteArray} {a : Nat} (ho : Asc o) (h : LtTo o x a) (hge : ∀ (ha : a < o.length), ¬ Lt o[a] x ∧ o[a] ≠ x) : Asc (o.take a ++ [x] ++ o.drop a) := by
  have ho' : Asc (o.take a ++ o.drop a) := by rw [List.take_append_drop]; exact ho
  obtain ⟨h1, h2, h3⟩ := List.pairwise_append.1 ho'
  have hd : ∀ y ∈ o.drop a, Lt x y := by
    intro y hy
    rcases Nat.lt_or_ge a o.length with ha | ha
    · rw [List.drop_eq_getElem_cons ha] at hy h2
      have hx := Lt.total (hge ha).1 (hge ha).2
      rcases List.mem_cons.1 hy with rfl | hy
      · exact hx
      · exact hx.trans ((List.pairwise_cons.1 h2).1 y hy)
    · rw [List.drop_of_length_le ha] at hy; simp at hy
  refine List.pairwise_append.2 ⟨List.pairwise_append.2 ⟨h1, List.pairwise_singleton _ _, fun y hy z hz => ?_⟩, h2, fun y hy z hz => ?_⟩
  · rw [List.mem_singleton] at hz
    subst hz
    exact h y hy
  · rcases List.mem_append.1 hy with hy | hy
    · exact h3 y hy z hz
    · rw [List.mem_singleton] at hy
      subst hy
      exact hd z hz
theorem put_mem {o : List ByteArray} {x y : ByteArray} {a : Nat} : y ∈ o.take a ++ [x] ++ o.drop a ↔ y ∈ o ∨ y = x := by
  have : y ∈ o ↔ y ∈ o.take a ∨ y ∈ o.drop a := by rw [← List.mem_append, List.take_append_drop]
  rw [this]
  simp only [List.mem_append, List.mem_singleton]
  constructor
  · rintro ((h | h) | h) <;> simp [h]
  · rintro ((h | h) | h) <;> simp [h]

/-! ### the library's sort of a list without repeats -/
def bytesOf (l : List ByteArray) : List (List UInt8) := l.map (·.data.toList)
def textsOf (l : List (List UInt8)) : List ByteArray := l.map fun b => ⟨b.toArray⟩
theorem texts_bytes (l : List ByteArray) : textsOf (bytesOf l) = l := by
  unfold textsOf bytesOf
  rw [List.map_map]
  conv => rhs; rw [← List.map_id l]
  rfl
theorem bytes_texts (l : List (List UInt8)) : bytesOf (textsOf l) = l := by
  unfold textsOf bytesOf
  rw [List.map_map]
  conv => rhs; rw [← List.map_id l]
  apply List.map_congr_left
  intro b _
  simp
theorem enc_texts (l : List (List UInt8)) : l.map encStr = (textsOf l).map Value.string := by
  unfold textsOf
  rw [List.map_map]
  rfl
def sorted (l : List ByteArray) : List ByteArray := textsOf ((bytesOf l).mergeSort fun x y => decide (x ≤ y))
theorem sorted_len (l : List ByteArray) : (sorted l).length = l.length := by simp [sorted, textsOf, bytesOf]
theorem sorted_mem (l : List ByteArray) (y : ByteArray) : y ∈ sorted l ↔ y ∈ l := by
  have e : y ∈ sorted l ↔ y ∈ textsOf (bytesOf l) := by
    unfold sorted textsOf
    exact ((List.mergeSort_perm (bytesOf l) _).map _).mem_iff
  rw [e, texts_bytes]
theorem sorted_asc {l : List ByteArray} (h : l.Nodup) : Asc (sorted l) := by
  have hb : (bytesOf l).Nodup := by
    refine List.pairwise_map.2 (h.imp fun {a b} hne e => hne ?_)
    exact ByteArray.ext (Array.toList_inj.1 e)
  have tr : ∀ a b c : List UInt8, decide (a ≤ b) = true → decide (b ≤ c) = true → decide (a ≤ c) = true := fun a b c h1 h2 => by
    rw [decide_eq_true_eq] at h1 h2 ⊢
    exact List.le_trans h1 h2
  have tot : ∀ a b : List UInt8, (decide (a ≤ b) || decide (b ≤ a)) = true := fun a b => by
    rw [Bool.or_eq_true, decide_eq_true_eq, decide_eq_true_eq]
    exact List.le_total a b
  have h1 := List.pairwise_mergeSort tr tot (bytesOf l)
  have h2 : ((bytesOf l).mergeSort fun x y => decide (x ≤ y)).Nodup := (List.mergeSort_perm (bytesOf l) _).nodup_iff.2 hb
  unfold sorted textsOf Asc
  refine List.pairwise_map.2 ((h1.and h2).imp fun {a b} hab => ?_)
  show (⟨a.toArray⟩ : ByteArray).data.toList < (⟨b.toArray⟩ : ByteArray).data.toList
  have hle : a ≤ b := by have := hab.1; rwa [decide_eq_true_eq] at this
  simpa using lt_of_ne hle hab.2
end Go.Proofs.Ytlcpekpgkllbkaa
