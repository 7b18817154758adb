/-
  Merged by program: TyValid, Jn, Txt.
-/
import Derived.Test.YtckoookgjhngkaaDoorFV10
import Derived.Test.YtckoookgjhngkaaDoorFV1
import Derived.Lib.Join

/-
  The model's IsValidType, IsData.
-/
namespace Go.Proofs.YtckoookgjhngkaaDoor
open Go.RowKit

theorem RTy.three {w : World} {t : Ty} {cs : List Value} (h : RTy w t cs) : ∃ c0 c1 c2, cs = [c0, c1, c2] := by
  have hl : cs.length = 3 := Reads.len h
  match cs, hl with
  | [a, b, c], _ => exact ⟨a, b, c, rfl⟩
def validB (t : Ty) : Bool := decide (t.size ≤ 24) && (decide (t.deep ≤ 7) && t.form)

def dataB (t : Ty) : Bool := validB t && !(Tr.has 5 t)
end Go.Proofs.YtckoookgjhngkaaDoor

/-
  Lists of strings joined by a separator, as lists of bytes.
-/
namespace Go.Proofs.YtckoookgjhngkaaDoor
open Go.RowKit

/-- the text of a list, the separator between its elements -/
def jn (xs : List ByteArray) (sp : ByteArray) : List UInt8 := Lib.join (xs.map (·.data.toList)) sp.data.toList
theorem jn_zero (xs : List ByteArray) (sp : ByteArray) : jn (xs.take 0) sp = [] := by simp [jn, Lib.join_nil]
theorem jn_one (xs : List ByteArray) (sp x : ByteArray) (h : xs[0]? = some x) : jn (xs.take 1) sp = x.data.toList := by
  rw [show xs.take 1 = [x] from by rw [List.take_add_one, h]; simp]
  simp [jn, Lib.join_one]
theorem jn_succ (xs : List ByteArray) (sp x : ByteArray) (k : Nat) (h : xs[k + 1]? = some x) : jn (xs.take (k + 2)) sp = jn (xs.take (k + 1)) sp ++ sp.data.toList ++ x.data.toList := by
  cases xs with
  | nil => simp at h
  | cons y r =>
    have hr : (r.map (·.data.toList))[k]? = some x.data.toList := by
      rw [List.getElem?_cons_succ] at h
      rw [List.getElem?_map, h]; rfl
    have := Lib.joinTail_take_succ sp.data.toList (r.map (·.data.toList)) k x.data.toList hr
    simp only [jn, List.take_succ_cons, List.map_cons, Lib.join_cons, List.map_take]
    rw [this]
    simp [List.append_assoc]
theorem jn_more (xs : List ByteArray) (sp x : ByteArray) (k : Nat) (hk : 0 < k) (h : xs[k]? = some x) : jn (xs.take (k + 1)) sp = jn (xs.take k) sp ++ sp.data.toList ++ x.data.toList := by
  obtain ⟨j, rfl⟩ : ∃ j, k = j + 1 := ⟨k - 1, by omega⟩
  exact jn_succ xs sp x j h
theorem lens_total (xs : List ByteArray) : Lib.lens (xs.map (·.data.toList)) = total xs := by
  unfold Lib.lens total
  rw [List.map_map]
  congr 1
theorem jn_len (xs : List ByteArray) (sp : ByteArray) : (jn xs sp).length ≤ xs.length * sp.size + total xs := by
  cases xs with
  | nil => simp [jn, Lib.join_nil]
  | cons y r =>
    have h1 := lens_total (y :: r)
    unfold jn
    rw [List.map_cons] at h1 ⊢
    rw [Lib.join_length, h1, size_data, List.length_map, Nat.mul_comm]
    have : r.length * sp.size ≤ (y :: r).length * sp.size := Nat.mul_le_mul_right _ (by simp)
    omega
theorem jn_take_len (xs : List ByteArray) (sp : ByteArray) (k : Nat) : (jn (xs.take k) sp).length ≤ xs.length * sp.size + total xs := by
  have h1 := jn_len (xs.take k) sp
  have h2 := total_take_le xs k
  have h3 : (xs.take k).length * sp.size ≤ xs.length * sp.size := Nat.mul_le_mul_right _ (by rw [List.length_take]; omega)
  omega

end Go.Proofs.YtckoookgjhngkaaDoor

/-
  The text of a type. Hangs on no function of the program.
-/
namespace Go.Proofs.YtckoookgjhngkaaDoor
open Go.RowKit

/-- bytes as a string -/
def bs (l : List UInt8) : ByteArray := ⟨l.toArray⟩
theorem bs_data (l : List UInt8) : (bs l).data.toList = l := rfl
theorem bs_size (l : List UInt8) : (bs l).size = l.length := rfl
theorem bs_of (s : ByteArray) : bs s.data.toList = s := rfl
theorem bs_app (s : ByteArray) (l : List UInt8) : s ++ bs l = bs (s.data.toList ++ l) := by
  apply ByteArray.ext
  apply Array.ext'
  simp [bs]
theorem bs_bs (l m : List UInt8) : bs l ++ bs m = bs (l ++ m) := bs_app (bs l) m

/-- a part's text: within a record its label stands ahead of it -/
def partT (a : TyA) (i : Nat) (s : List UInt8) : List UInt8 := if a.kind = 3 then (a.labels.getD i ⟨#[]⟩).data.toList ++ 58 :: s else s
/-- a node's text, out of those of its parts -/
def nodeT (q : Int) (ps : List (List UInt8)) : List UInt8 :=
  if q = 1 then [73] else if q = 2 then [66] else if q = 3 then 123 :: (Lib.join ps [44] ++ [125]) else if q = 4 then 91 :: (ps.getD 0 [] ++ [93]) else 40 :: (Lib.join ps [62] ++ [41])
def Tr.txt : Ty → List UInt8
  | .node a ks => nodeT a.kind ((ks.attach.map fun ⟨t, _⟩ => t.txt).mapIdx (partT a))
def partsT (a : TyA) (ks : List Ty) : List (List UInt8) := (ks.map Tr.txt).mapIdx (partT a)
theorem txt_node (a : TyA) (ks : List Ty) : Tr.txt (.node a ks) = nodeT a.kind (partsT a ks) := by
  rw [Tr.txt, partsT]
  congr 2
  exact List.attach_map_val (l := ks) (f := Tr.txt) ▸ rfl
theorem partsT_len (a : TyA) (ks : List Ty) : (partsT a ks).length = ks.length := by simp [partsT]
theorem partsT_at (a : TyA) (ks : List Ty) (k : Nat) (h : k < ks.length) : (partsT a ks)[k]? = some (partT a k ks[k].txt) := by
  unfold partsT
  rw [List.getElem?_mapIdx, List.getElem?_map, List.getElem?_eq_getElem h]
  rfl
theorem partsT_take (a : TyA) (ks : List Ty) (k : Nat) (h : k < ks.length) : (partsT a ks).take (k + 1) = (partsT a ks).take k ++ [partT a k ks[k].txt] := by
  rw [List.take_add_one, partsT_at a ks k h]
  rfl
def lenS (ps : List (List UInt8)) : Nat := (ps.map List.length).sum
theorem lenS_app (a b : List (List UInt8)) : lenS (a ++ b) = lenS a + lenS b := by simp [lenS]
theorem lenS_lens (ps : List (List UInt8)) : Lib.lens ps = lenS ps := rfl
theorem total_bs (ps : List (List UInt8)) : total (ps.map bs) = lenS ps := by
  unfold total lenS
  rw [List.map_map]
  congr 1
theorem total_take_more (ls : List ByteArray) (k : Nat) : total (ls.take k) + (ls.getD k ⟨#[]⟩).size = total (ls.take (k + 1)) := by
  unfold total
  rw [List.take_add_one]
  cases h : ls[k]? with
  | none => simp [List.getD, h]; rfl
  | some x => simp [List.getD, h]
theorem join_le (ps : List (List UInt8)) (c : UInt8) : (Lib.join ps [c]).length ≤ lenS ps + ps.length := by
  cases ps with
  | nil => simp [Lib.join_nil]
  | cons x r =>
    rw [Lib.join_length, lenS_lens]
    simp
    omega
/-- the texts of the first parts are bounded by what the type takes -/
theorem parts_le (a : TyA) (ks : List Ty) (ih : ∀ t ∈ ks, t.txt.length ≤ 4 * wt t + 2) : ∀ k, k ≤ ks.length → lenS ((partsT a ks).take k) ≤ total (a.labels.take k) + 3 * k + 4 * ((ks.take k).map wt).sum
  | 0, _ => by simp [lenS]
  | k + 1, h => by
    have h1 := parts_le a ks ih k (by omega)
    have hk : k < ks.length := h
    have h2 := total_take_more a.labels k
    have h3 := sum_take_succ wt ks k hk
    have h4 := ih ks[k] (List.getElem_mem hk)
    rw [partsT_take a ks k hk, lenS_app, h3, ← h2]
    have h5 : (partT a k ks[k].txt).length ≤ (a.labels.getD k ⟨#[]⟩).size + 1 + ks[k].txt.length := by
      unfold partT
      split
      · rw [List.length_append, size_data, List.length_cons]; omega
      · omega
    have h6 : lenS [partT a k ks[k].txt] = (partT a k ks[k].txt).length := by simp [lenS]
    omega
theorem txt_le : ∀ t : Ty, t.txt.length ≤ 4 * wt t + 2 := by
  refine Tr.ind ?_
  intro a ks ih
  have h1 := parts_le a ks ih ks.length (Nat.le_refl _)
  rw [List.take_of_length_le (by rw [partsT_len]; exact Nat.le_refl _), List.take_length] at h1
  have h2 := total_take_le a.labels ks.length
  rw [txt_node, wt_node]
  unfold wtA wtK
  have h3 := join_le (partsT a ks) 44
  have h4 := join_le (partsT a ks) 62
  rw [partsT_len] at h3 h4
  unfold nodeT
  split
  · simp
  · split
    · simp
    · split
      · simp; omega
      · split
        · have h5 : ((partsT a ks).getD 0 []).length ≤ lenS (partsT a ks) := by
            cases hp : partsT a ks with
            | nil => simp
            | cons x r => simp [lenS]
          simp only [List.length_cons, List.length_append, List.length_nil]
          omega
        · simp; omega
theorem parts_all (a : TyA) (ks : List Ty) : lenS (partsT a ks) + ks.length ≤ 4 * wt (.node a ks) := by
  have h1 := parts_le a ks (fun t _ => txt_le t) ks.length (Nat.le_refl _)
  rw [List.take_of_length_le (by rw [partsT_len]; exact Nat.le_refl _), List.take_length] at h1
  have h2 := total_take_le a.labels ks.length
  rw [wt_node]
  unfold wtA wtK
  omega
/-- what FormatType gives -/
def txtV (t : Ty) : List UInt8 := if validB t = true then t.txt else []
end Go.Proofs.YtckoookgjhngkaaDoor
