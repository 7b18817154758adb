/-
  Merged by program: VTxt.
-/
import Derived.Test.YtckoookgjhngkaaDoorFV11
import Derived.Test.YtckoookgjhngkaaDoorFV12
import Derived.Lib.ItoaLen

/-
  The text of a value. Hangs on no function of the program.
-/
namespace Go.Proofs.YtckoookgjhngkaaDoor
open Go.RowKit

/-- a part's text: within a record its label stands ahead of it -/
def partX (a : VaA) (i : Nat) (s : List UInt8) : List UInt8 := if a.kind = 3 then (a.labels.getD i ⟨#[]⟩).data.toList ++ 61 :: s else s
/-- a node's text, out of those of its parts -/
def nodeX (p q : Int) (ps : List (List UInt8)) : List UInt8 :=
  if p = 1 then Lib.itoa q else if p = 2 then [35, if q = 1 then 116 else 102] else if p = 3 then 123 :: (Lib.join ps [44] ++ [125]) else 91 :: (Lib.join ps [44] ++ [93])
def Tr.vtx : Va → List UInt8
  | .node a ks => nodeX a.kind a.num ((ks.attach.map fun ⟨t, _⟩ => t.vtx).mapIdx (partX a))
def partsX (a : VaA) (ks : List Va) : List (List UInt8) := (ks.map Tr.vtx).mapIdx (partX a)
theorem vtx_node (a : VaA) (ks : List Va) : Tr.vtx (.node a ks) = nodeX a.kind a.num (partsX a ks) := by
  rw [Tr.vtx, partsX]
  congr 2
  exact List.attach_map_val (l := ks) (f := Tr.vtx) ▸ rfl
theorem partsX_len (a : VaA) (ks : List Va) : (partsX a ks).length = ks.length := by simp [partsX]
theorem partsX_at (a : VaA) (ks : List Va) (k : Nat) (h : k < ks.length) : (partsX a ks)[k]? = some (partX a k ks[k].vtx) := by
  unfold partsX
  rw [List.getElem?_mapIdx, List.getElem?_map, List.getElem?_eq_getElem h]
  rfl
theorem partsX_take (a : VaA) (ks : List Va) (k : Nat) (h : k < ks.length) : (partsX a ks).take (k + 1) = (partsX a ks).take k ++ [partX a k ks[k].vtx] := by
  rw [List.take_add_one, partsX_at a ks k h]
  rfl
theorem partX_le (a : VaA) (k : Nat) (l : List UInt8) : (partX a k l).length ≤ (a.labels.getD k ⟨#[]⟩).size + 1 + l.length := by
  unfold partX
  split
  · rw [List.length_append, size_data, List.length_cons]; omega
  · omega
/-- the texts of the first parts are bounded by what the value takes -/
theorem partsX_le (a : VaA) (ks : List Va) (ih : ∀ t ∈ ks, t.vtx.length ≤ 26 * wv t + 24) : ∀ k, k ≤ ks.length → lenS ((partsX a ks).take k) ≤ total (a.labels.take k) + 25 * k + 26 * ((ks.take k).map wv).sum
  | 0, _ => by simp [lenS]
  | k + 1, h => by
    have h1 := partsX_le a ks ih k (by omega)
    have hk : k < ks.length := h
    have h2 := total_take_more a.labels k
    have h3 := sum_take_succ wv ks k hk
    have h4 := ih ks[k] (List.getElem_mem hk)
    rw [partsX_take a ks k hk, lenS_app, h3, ← h2]
    have h5 := partX_le a k ks[k].vtx
    have h6 : lenS [partX a k ks[k].vtx] = (partX a k ks[k].vtx).length := by simp [lenS]
    omega
/-- every number is an int's -/
inductive OkV : Va → Prop where
  | node (a : VaA) (ks : List Va) (h : a.ok) (hk : ∀ t, t ∈ ks → OkV t) : OkV (.node a ks)
def Tr.okV (t : Va) : Prop := OkV t
theorem okV_node (a : VaA) (ks : List Va) : Tr.okV (.node a ks) ↔ a.ok ∧ ∀ t ∈ ks, t.okV := by
  constructor
  · intro h
    cases h with
    | node _ _ h1 h2 => exact ⟨h1, h2⟩
  · rintro ⟨h1, h2⟩
    exact .node a ks h1 h2
theorem RVa.okV {w : World} {t : Va} {cs : List Value} (h : RVa w t cs) : t.okV := by
  induction h with
  | node a ks L A c d ps h1 h2 h3 h4 _ h6 ih =>
    rw [okV_node]
    refine ⟨h2, fun t ht => ?_⟩
    obtain ⟨j, hj, rfl⟩ := List.getElem_of_mem ht
    exact ih j _ (List.getElem?_eq_getElem hj)
theorem vtx_le : ∀ t : Va, t.okV → t.vtx.length ≤ 26 * wv t + 24 := by
  refine Tr.ind ?_
  intro a ks ih hok
  obtain ⟨⟨_, _, hn0, hn1, _, _⟩, hk⟩ := (okV_node a ks).1 hok
  have h1 := partsX_le a ks (fun t ht => ih t ht (hk t ht)) ks.length (Nat.le_refl _)
  rw [List.take_of_length_le (by rw [partsX_len]; exact Nat.le_refl _), List.take_length] at h1
  have h2 := total_take_le a.labels ks.length
  rw [vtx_node, wv_node]
  unfold wvA wvK
  have h3 := join_le (partsX a ks) 44
  rw [partsX_len] at h3
  have h5 := Lib.itoa_length_le a.num hn0 hn1
  unfold nodeX
  split
  · omega
  · split
    · simp
    · split
      · simp only [List.length_cons, List.length_append, List.length_nil]; omega
      · simp only [List.length_cons, List.length_append, List.length_nil]; omega
theorem partsX_all (a : VaA) (ks : List Va) (h : ∀ t ∈ ks, t.okV) : lenS (partsX a ks) + ks.length ≤ 26 * wv (.node a ks) := by
  have h1 := partsX_le a ks (fun t ht => vtx_le t (h t ht)) ks.length (Nat.le_refl _)
  rw [List.take_of_length_le (by rw [partsX_len]; exact Nat.le_refl _), List.take_length] at h1
  have h2 := total_take_le a.labels ks.length
  rw [wv_node]
  unfold wvA wvK
  omega
/-- what FormatValue gives -/
def vtxB (t : Va) : List UInt8 := if isvB t = true then t.vtx else []
/-- what the form of a node says -/
theorem nodeV_cases {a : VaA} {n : Nat} (h : nodeV a n = true) : (a.kind = 1 ∧ a.labels.length = 0 ∧ n = 0) ∨ (a.kind = 2 ∧ a.labels.length = 0 ∧ n = 0 ∧ (a.num = 0 ∨ a.num = 1)) ∨ (a.kind = 3 ∧ a.num = 0 ∧ a.labels.length = n ∧ labB a.labels = true) ∨ (a.kind = 4 ∧ a.num = 0 ∧ a.labels.length = 0) := by
  unfold nodeV nodeVB at h
  split at h
  · simp only [Bool.and_eq_true, decide_eq_true_eq] at h
    exact .inl ⟨by assumption, h.1, h.2⟩
  · split at h
    · simp only [Bool.and_eq_true, decide_eq_true_eq] at h
      exact .inr (.inl ⟨by assumption, h.1, h.2.1, h.2.2⟩)
    · split at h
      · simp only [Bool.and_eq_true, decide_eq_true_eq] at h
        exact .inr (.inr (.inl ⟨by assumption, h.1, h.2.1, h.2.2⟩))
      · split at h
        · simp only [Bool.and_eq_true, decide_eq_true_eq] at h
          exact .inr (.inr (.inr ⟨by assumption, h.1, h.2⟩))
        · cases h
theorem formV_kids {a : VaA} {ks : List Va} (h : Tr.formV (.node a ks) = true) : (∀ t ∈ ks, t.formV = true) ∧ nodeV a ks.length = true := by
  rw [formV_node, Bool.and_eq_true, List.all_eq_true] at h
  exact h
end Go.Proofs.YtckoookgjhngkaaDoor
