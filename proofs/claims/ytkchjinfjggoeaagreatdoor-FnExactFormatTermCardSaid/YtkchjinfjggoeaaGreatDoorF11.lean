/-
  Merged by program: Jn, Txt, TTxt.
-/
import Derived.Test.YtkchjinfjggoeaaGreatDoorF1
import Derived.Lib.Join
import Derived.Test.YtkchjinfjggoeaaGreatDoorF7
import Derived.Test.YtkchjinfjggoeaaGreatDoorF10
import Derived.Lib.ItoaLen

/-
  Lists of strings joined by a separator, as lists of bytes.
-/
namespace Go.Proofs.YtkchjinfjggoeaaGreatDoor
open Go.RowKit

/-- the text of a list, the separator between its elements -/
def jn (xs : List ByteArray) (sp : ByteArray) : List UInt8 := Lib.join (xs.map (·.data.toList)) sp.data.toList
theorem jn_zero (xs : List ByteArray) (sp : ByteArray) : jn (xs.take 0) sp = [] := by simp [jn, Lib.join_nil]
theorem jn_one (xs : List ByteArray) (sp x : ByteArray) (h : xs[0]? = some x) : jn (xs.take 1) sp = x.data.toList := by
  rw [show xs.take 1 = [x] from by rw [List.take_add_one, h]; simp]
  simp [jn, Lib.join_one]
theorem jn_succ (xs : List ByteArray) (sp x : ByteArray) (k : Nat) (h : xs[k + 1]? = some x) : jn (xs.take (k + 2)) sp = jn (xs.take (k + 1)) sp ++ sp.data.toList ++ x.data.toList := by
  cases xs with
  | nil => simp at h
  | cons y r =>
    have hr : (r.map (·.data.toList))[k]? = some x.data.toList := by
      rw [List.getElem?_cons_succ] at h
      rw [List.getElem?_map, h]; rfl
    have := Lib.joinTail_take_succ sp.data.toList (r.map (·.data.toList)) k x.data.toList hr
    simp only [jn, List.take_succ_cons, List.map_cons, Lib.join_cons, List.map_take]
    rw [this]
    simp [List.append_assoc]
theorem jn_more (xs : List ByteArray) (sp x : ByteArray) (k : Nat) (hk : 0 < k) (h : xs[k]? = some x) : jn (xs.take (k + 1)) sp = jn (xs.take k) sp ++ sp.data.toList ++ x.data.toList := by
  obtain ⟨j, rfl⟩ : ∃ j, k = j + 1 := ⟨k - 1, by omega⟩
  exact jn_succ xs sp x j h
theorem lens_total (xs : List ByteArray) : Lib.lens (xs.map (·.data.toList)) = total xs := by
  unfold Lib.lens total
  rw [List.map_map]
  congr 1
theorem jn_len (xs : List ByteArray) (sp : ByteArray) : (jn xs sp).length ≤ xs.length * sp.size + total xs := by
  cases xs with
  | nil => simp [jn, Lib.join_nil]
  | cons y r =>
    have h1 := lens_total (y :: r)
    unfold jn
    rw [List.map_cons] at h1 ⊢
    rw [Lib.join_length, h1, size_data, List.length_map, Nat.mul_comm]
    have : r.length * sp.size ≤ (y :: r).length * sp.size := Nat.mul_le_mul_right _ (by simp)
    omega
theorem jn_take_len (xs : List ByteArray) (sp : ByteArray) (k : Nat) : (jn (xs.take k) sp).length ≤ xs.length * sp.size + total xs := by
  have h1 := jn_len (xs.take k) sp
  have h2 := total_take_le xs k
  have h3 : (xs.take k).length * sp.size ≤ xs.length * sp.size := Nat.mul_le_mul_right _ (by rw [List.length_take]; omega)
  omega

end Go.Proofs.YtkchjinfjggoeaaGreatDoor

/-
  The text of a type. Hangs on no function of the program.
-/
namespace Go.Proofs.YtkchjinfjggoeaaGreatDoor
open Go.RowKit

/-- bytes as a string -/
def bs (l : List UInt8) : ByteArray := ⟨l.toArray⟩
theorem bs_data (l : List UInt8) : (bs l).data.toList = l := rfl
theorem bs_size (l : List UInt8) : (bs l).size = l.length := rfl
theorem bs_of (s : ByteArray) : bs s.data.toList = s := rfl
theorem bs_app (s : ByteArray) (l : List UInt8) : s ++ bs l = bs (s.data.toList ++ l) := by
  apply ByteArray.ext
  apply Array.ext'
  simp [bs]
theorem bs_bs (l m : List UInt8) : bs l ++ bs m = bs (l ++ m) := bs_app (bs l) m

/-- a part's text: within a record its label stands ahead of it -/
def partT (a : TyA) (i : Nat) (s : List UInt8) : List UInt8 := if a.kind = 3 then (a.labels.getD i ⟨#[]⟩).data.toList ++ 58 :: s else s
/-- a node's text, out of those of its parts -/
def nodeT (q : Int) (ps : List (List UInt8)) : List UInt8 :=
  if q = 1 then [73] else if q = 2 then [66] else if q = 3 then 123 :: (Lib.join ps [44] ++ [125]) else if q = 4 then 91 :: (ps.getD 0 [] ++ [93]) else 40 :: (Lib.join ps [62] ++ [41])
def Tr.txt : Ty → List UInt8
  | .node a ks => nodeT a.kind ((ks.attach.map fun ⟨t, _⟩ => t.txt).mapIdx (partT a))
def partsT (a : TyA) (ks : List Ty) : List (List UInt8) := (ks.map Tr.txt).mapIdx (partT a)
theorem txt_node (a : TyA) (ks : List Ty) : Tr.txt (.node a ks) = nodeT a.kind (partsT a ks) := by
  rw [Tr.txt, partsT]
  congr 2
  exact List.attach_map_val (l := ks) (f := Tr.txt) ▸ rfl
theorem partsT_len (a : TyA) (ks : List Ty) : (partsT a ks).length = ks.length := by simp [partsT]
theorem partsT_at (a : TyA) (ks : List Ty) (k : Nat) (h : k < ks.length) : (partsT a ks)[k]? = some (partT a k ks[k].txt) := by
  unfold partsT
  rw [List.getElem?_mapIdx, List.getElem?_map, List.getElem?_eq_getElem h]
  rfl
theorem partsT_take (a : TyA) (ks : List Ty) (k : Nat) (h : k < ks.length) : (partsT a ks).take (k + 1) = (partsT a ks).take k ++ [partT a k ks[k].txt] := by
  rw [List.take_add_one, partsT_at a ks k h]
  rfl
def lenS (ps : List (List UInt8)) : Nat := (ps.map List.length).sum
theorem lenS_app (a b : List (List UInt8)) : lenS (a ++ b) = lenS a + lenS b := by simp [lenS]
theorem lenS_lens (ps : List (List UInt8)) : Lib.lens ps = lenS ps := rfl
theorem total_bs (ps : List (List UInt8)) : total (ps.map bs) = lenS ps := by
  unfold total lenS
  rw [List.map_map]
  congr 1
theorem total_take_more (ls : List ByteArray) (k : Nat) : total (ls.take k) + (ls.getD k ⟨#[]⟩).size = total (ls.take (k + 1)) := by
  unfold total
  rw [List.take_add_one]
  cases h : ls[k]? with
  | none => simp [List.getD, h]; rfl
  | some x => simp [List.getD, h]
theorem join_le (ps : List (List UInt8)) (c : UInt8) : (Lib.join ps [c]).length ≤ lenS ps + ps.length := by
  cases ps with
  | nil => simp [Lib.join_nil]
  | cons x r =>
    rw [Lib.join_length, lenS_lens]
    simp
    omega
/-- the texts of the first parts are bounded by what the type takes -/
theorem parts_le (a : TyA) (ks : List Ty) (ih : ∀ t ∈ ks, t.txt.length ≤ 4 * wt t + 2) : ∀ k, k ≤ ks.length → lenS ((partsT a ks).take k) ≤ total (a.labels.take k) + 3 * k + 4 * ((ks.take k).map wt).sum
  | 0, _ => by simp [lenS]
  | k + 1, h => by
    have h1 := parts_le a ks ih k (by omega)
    have hk : k < ks.length := h
    have h2 := total_take_more a.labels k
    have h3 := sum_take_succ wt ks k hk
    have h4 := ih ks[k] (List.getElem_mem hk)
    rw [partsT_take a ks k hk, lenS_app, h3, ← h2]
    have h5 : (partT a k ks[k].txt).length ≤ (a.labels.getD k ⟨#[]⟩).size + 1 + ks[k].txt.length := by
      unfold partT
      split
      · rw [List.length_append, size_data, List.length_cons]; omega
      · omega
    have h6 : lenS [partT a k ks[k].txt] = (partT a k ks[k].txt).length := by simp [lenS]
    omega
theorem txt_le : ∀ t : Ty, t.txt.length ≤ 4 * wt t + 2 := by
  refine Tr.ind ?_
  intro a ks ih
  have h1 := parts_le a ks ih ks.length (Nat.le_refl _)
  rw [List.take_of_length_le (by rw [partsT_len]; exact Nat.le_refl _), List.take_length] at h1
  have h2 := total_take_le a.labels ks.length
  rw [txt_node, wt_node]
  unfold wtA wtK
  have h3 := join_le (partsT a ks) 44
  have h4 := join_le (partsT a ks) 62
  rw [partsT_len] at h3 h4
  unfold nodeT
  split
  · simp
  · split
    · simp
    · split
      · simp; omega
      · split
        · have h5 : ((partsT a ks).getD 0 []).length ≤ lenS (partsT a ks) := by
            cases hp : partsT a ks with
            | nil => simp
            | cons x r => simp [lenS]
          simp only [List.length_cons, List.length_append, List.length_nil]
          omega
        · simp; omega
theorem parts_all (a : TyA) (ks : List Ty) : lenS (partsT a ks) + ks.length ≤ 4 * wt (.node a ks) := by
  have h1 := parts_le a ks (fun t _ => txt_le t) ks.length (Nat.le_refl _)
  rw [List.take_of_length_le (by rw [partsT_len]; exact Nat.le_refl _), List.take_length] at h1
  have h2 := total_take_le a.labels ks.length
  rw [wt_node]
  unfold wtA wtK
  omega
/-- what FormatType gives -/
def txtV (t : Ty) : List UInt8 := if validB t = true then t.txt else []
end Go.Proofs.YtkchjinfjggoeaaGreatDoor

/-
  The text of a term. Hangs on no function of the program.
-/
namespace Go.Proofs.YtkchjinfjggoeaaGreatDoor
open Go.RowKit

/-- a part's text: within a record its label stands ahead of it -/
def partY (a : TeA) (i : Nat) (s : List UInt8) : List UInt8 := if a.kind = 5 then (a.labels.getD i ⟨#[]⟩).data.toList ++ 61 :: s else s
/-- a node's text, out of its name, its number, its type's text and those of its parts -/
def nodeY (p : Int) (nm : List UInt8) (q : Int) (ty : List UInt8) (ps : List (List UInt8)) : List UInt8 :=
  if p = 1 then nm else if p = 2 then Lib.itoa q else if p = 3 then [35, if q = 1 then 116 else 102]
  else if p = 4 then (if ps.length = 1 then 40 :: 33 :: (ps.getD 0 [] ++ [41]) else 40 :: (ps.getD 0 [] ++ (nm ++ (ps.getD 1 [] ++ [41]))))
  else if p = 5 then 123 :: (Lib.join ps [44] ++ [125]) else if p = 6 then ps.getD 0 [] ++ 46 :: nm else if p = 7 then 91 :: 58 :: (ty ++ [93]) else if p = 8 then 91 :: (ps.getD 0 [] ++ [93])
  else if p = 9 then 40 :: (ps.getD 0 [] ++ 43 :: 43 :: (ps.getD 1 [] ++ [41])) else if p = 10 then 40 :: 102 :: 111 :: 114 :: 32 :: (nm ++ 60 :: 45 :: (ps.getD 0 [] ++ 32 :: (ps.getD 1 [] ++ [41])))
  else if p = 11 then 40 :: 105 :: 102 :: 32 :: (Lib.join ps [32] ++ [41]) else if p = 12 then 64 :: nm else if p = 13 then 40 :: 92 :: (nm ++ 58 :: (ty ++ 46 :: (ps.getD 0 [] ++ [41])))
  else if p = 14 then 40 :: (Lib.join ps [32] ++ [41]) else if p = 15 then 40 :: 101 :: 109 :: 112 :: 116 :: 121 :: 32 :: (ps.getD 0 [] ++ [41]) else 40 :: 99 :: 111 :: 117 :: 110 :: 116 :: 32 :: (ps.getD 0 [] ++ [41])
def Tr.ttx : Te → List UInt8
  | .node a ks => nodeY a.kind a.name.data.toList a.num a.type.txt ((ks.attach.map fun ⟨t, _⟩ => t.ttx).mapIdx (partY a))
def partsY (a : TeA) (ks : List Te) : List (List UInt8) := (ks.map Tr.ttx).mapIdx (partY a)
theorem ttx_node (a : TeA) (ks : List Te) : Tr.ttx (.node a ks) = nodeY a.kind a.name.data.toList a.num a.type.txt (partsY a ks) := by
  rw [Tr.ttx, partsY]
  congr 2
  exact List.attach_map_val (l := ks) (f := Tr.ttx) ▸ rfl
theorem partsY_len (a : TeA) (ks : List Te) : (partsY a ks).length = ks.length := by simp [partsY]
theorem partsY_at (a : TeA) (ks : List Te) (k : Nat) (h : k < ks.length) : (partsY a ks)[k]? = some (partY a k ks[k].ttx) := by
  unfold partsY
  rw [List.getElem?_mapIdx, List.getElem?_map, List.getElem?_eq_getElem h]
  rfl
theorem partsY_take (a : TeA) (ks : List Te) (k : Nat) (h : k < ks.length) : (partsY a ks).take (k + 1) = (partsY a ks).take k ++ [partY a k ks[k].ttx] := by
  rw [List.take_add_one, partsY_at a ks k h]
  rfl
theorem partY_le (a : TeA) (k : Nat) (l : List UInt8) : (partY a k l).length ≤ (a.labels.getD k ⟨#[]⟩).size + 1 + l.length := by
  unfold partY
  split
  · rw [List.length_append, size_data, List.length_cons]; omega
  · omega
/-- the texts of the first parts are bounded by what the value takes -/
theorem partsY_le (a : TeA) (ks : List Te) (ih : ∀ t ∈ ks, t.ttx.length ≤ 30 * wte t + 24) : ∀ k, k ≤ ks.length → lenS ((partsY a ks).take k) ≤ total (a.labels.take k) + 25 * k + 30 * ((ks.take k).map wte).sum
  | 0, _ => by simp [lenS]
  | k + 1, h => by
    have h1 := partsY_le a ks ih k (by omega)
    have hk : k < ks.length := h
    have h2 := total_take_more a.labels k
    have h3 := sum_take_succ wte ks k hk
    have h4 := ih ks[k] (List.getElem_mem hk)
    rw [partsY_take a ks k hk, lenS_app, h3, ← h2]
    have h5 := partY_le a k ks[k].ttx
    have h6 : lenS [partY a k ks[k].ttx] = (partY a k ks[k].ttx).length := by simp [lenS]
    omega
/-- every number is an int's -/
inductive OkE : Te → Prop where
  | node (a : TeA) (ks : List Te) (h : a.ok) (hk : ∀ t, t ∈ ks → OkE t) : OkE (.node a ks)
def Tr.okE (t : Te) : Prop := OkE t
theorem okE_node (a : TeA) (ks : List Te) : Tr.okE (.node a ks) ↔ a.ok ∧ ∀ t ∈ ks, t.okE := by
  constructor
  · intro h
    cases h with
    | node _ _ h1 h2 => exact ⟨h1, h2⟩
  · rintro ⟨h1, h2⟩
    exact .node a ks h1 h2
theorem RTe.okE {w : World} {t : Te} {cs : List Value} (h : RTe w t cs) : t.okE := by
  induction h with
  | node a ks TL TA L A tc td c d ps _ _ h2 h3 h4 _ h6 ih =>
    rw [okE_node]
    refine ⟨h2, fun t ht => ?_⟩
    obtain ⟨j, hj, rfl⟩ := List.getElem_of_mem ht
    exact ih j _ (List.getElem?_eq_getElem hj)
theorem lenS_two (ps : List (List UInt8)) : (ps.getD 0 []).length + (ps.getD 1 []).length ≤ lenS ps := by
  match ps with
  | [] => simp [lenS]
  | [x] => simp [lenS]
  | x :: y :: r => simp [lenS]
theorem nodeY_le (p : Int) (nm : List UInt8) (q : Int) (ty : List UInt8) (ps : List (List UInt8)) (hq : (Lib.itoa q).length ≤ 21) : (nodeY p nm q ty ps).length ≤ 21 + nm.length + ty.length + lenS ps + ps.length := by
  have h1 := lenS_two ps
  have h2 := join_le ps 44
  have h3 := join_le ps 32
  unfold nodeY
  rcases Decidable.em (p = 1) with e | e
  · rw [if_pos e]; omega
  rw [if_neg e]
  rcases Decidable.em (p = 2) with e | e
  · rw [if_pos e]; omega
  rw [if_neg e]
  rcases Decidable.em (p = 3) with e | e
  · rw [if_pos e]; simp only [List.length_cons, List.length_nil]; omega
  rw [if_neg e]
  rcases Decidable.em (p = 4) with e | e
  · rw [if_pos e]; split <;> simp only [List.length_cons, List.length_append, List.length_nil] <;> omega
  rw [if_neg e]
  rcases Decidable.em (p = 5) with e | e
  · rw [if_pos e]; simp only [List.length_cons, List.length_append, List.length_nil]; omega
  rw [if_neg e]
  rcases Decidable.em (p = 6) with e | e
  · rw [if_pos e]; simp only [List.length_cons, List.length_append]; omega
  rw [if_neg e]
  rcases Decidable.em (p = 7) with e | e
  · rw [if_pos e]; simp only [List.length_cons, List.length_append, List.length_nil]; omega
  rw [if_neg e]
  rcases Decidable.em (p = 8) with e | e
  · rw [if_pos e]; simp only [List.length_cons, List.length_append, List.length_nil]; omega
  rw [if_neg e]
  rcases Decidable.em (p = 9) with e | e
  · rw [if_pos e]; simp only [List.length_cons, List.length_append, List.length_nil]; omega
  rw [if_neg e]
  rcases Decidable.em (p = 10) with e | e
  · rw [if_pos e]; simp only [List.length_cons, List.length_append, List.length_nil]; omega
  rw [if_neg e]
  rcases Decidable.em (p = 11) with e | e
  · rw [if_pos e]; simp only [List.length_cons, List.length_append, List.length_nil]; omega
  rw [if_neg e]
  rcases Decidable.em (p = 12) with e | e
  · rw [if_pos e]; simp only [List.length_cons]; omega
  rw [if_neg e]
  rcases Decidable.em (p = 13) with e | e
  · rw [if_pos e]; simp only [List.length_cons, List.length_append, List.length_nil]; omega
  rw [if_neg e]
  rcases Decidable.em (p = 14) with e | e
  · rw [if_pos e]; simp only [List.length_cons, List.length_append, List.length_nil]; omega
  rw [if_neg e]
  rcases Decidable.em (p = 15) with e | e
  · rw [if_pos e]; simp only [List.length_cons, List.length_append, List.length_nil]; omega
  rw [if_neg e]
  simp only [List.length_cons, List.length_append, List.length_nil]; omega
theorem ttx_le : ∀ t : Te, t.okE → t.ttx.length ≤ 30 * wte t + 24 := by
  refine Tr.ind ?_
  intro a ks ih hok
  obtain ⟨⟨_, _, _, hn0, hn1, _, _⟩, hk⟩ := (okE_node a ks).1 hok
  have h1 := partsY_le a ks (fun t ht => ih t ht (hk t ht)) ks.length (Nat.le_refl _)
  rw [List.take_of_length_le (by rw [partsY_len]; exact Nat.le_refl _), List.take_length] at h1
  have h2 := total_take_le a.labels ks.length
  have h5 := Lib.itoa_length_le a.num hn0 hn1
  have h3 := nodeY_le a.kind a.name.data.toList a.num a.type.txt (partsY a ks) (by omega)
  have h4 := txt_le a.type
  have h6 : a.name.data.toList.length = a.name.size := size_data _
  rw [ttx_node, wte_node]
  rw [partsY_len] at h3
  unfold wteA wteK
  omega
theorem partsY_all (a : TeA) (ks : List Te) (h : ∀ t ∈ ks, t.okE) : lenS (partsY a ks) + ks.length ≤ 30 * wte (.node a ks) := by
  have h1 := partsY_le a ks (fun t ht => ttx_le t (h t ht)) ks.length (Nat.le_refl _)
  rw [List.take_of_length_le (by rw [partsY_len]; exact Nat.le_refl _), List.take_length] at h1
  have h2 := total_take_le a.labels ks.length
  rw [wte_node]
  unfold wteA wteK
  omega
end Go.Proofs.YtkchjinfjggoeaaGreatDoor
