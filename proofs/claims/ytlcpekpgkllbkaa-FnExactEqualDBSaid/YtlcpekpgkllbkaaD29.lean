/-
  Merged by program: HasD, DbD, Pre, PreD.
-/
import Derived.Test.YtlcpekpgkllbkaaD25
import Derived.Test.YtlcpekpgkllbkaaD11
import Derived.Test.YtlcpekpgkllbkaaD27
import Derived.Test.YtlcpekpgkllbkaaD28
import Derived.Test.YtlcpekpgkllbkaaD1
import Derived.Test.YtlcpekpgkllbkaaD20

/-
  Whether a value has a type, over trees: by recursion on the type; what a data type looks like.
-/
namespace Go.Proofs.Ytlcpekpgkllbkaa

mutual
def hasT : Ty → Va → Bool
  | .node a ks, v =>
    if a.kind = 1 then decide (v.top.kind = 1) && (decide (v.top.labels.length = 0) && decide (v.kids.length = 0))
    else if a.kind = 2 then decide (v.top.kind = 2) && (decide (v.top.num = 0 ∨ v.top.num = 1) && (decide (v.top.labels.length = 0) && decide (v.kids.length = 0)))
    else if a.kind = 3 then decide (v.top.kind = 3) && (decide (v.top.num = 0) && (decide (v.top.labels = a.labels) && hasTs ks v.kids))
    else decide (v.top.kind = 4) && (decide (v.top.num = 0) && (decide (v.top.labels.length = 0) && v.kids.all fun x => hasTh ks x))
def hasTs : List Ty → List Va → Bool
  | [], [] => true
  | t :: ts, v :: vs => hasT t v && hasTs ts vs
  | [], _ :: _ => false
  | _ :: _, [] => false
def hasTh : List Ty → Va → Bool
  | [], _ => true
  | t :: _, v => hasT t v
end
theorem hasTs_len : ∀ {ts : List Ty} {vs : List Va}, hasTs ts vs = true → ts.length = vs.length
  | [], [], _ => rfl
  | t :: ts, v :: vs, h => by
    rw [hasTs, Bool.and_eq_true] at h
    simp [hasTs_len h.2]
  | [], _ :: _, h => by simp [hasTs] at h
  | _ :: _, [], h => by simp [hasTs] at h
/-- the types are the values', from the k-th on -/
theorem hasTs_step {ts : List Ty} {vs : List Va} {k : Nat} (h1 : k < ts.length) (h2 : k < vs.length) : hasTs (ts.drop k) (vs.drop k) = (hasT ts[k] vs[k] && hasTs (ts.drop (k + 1)) (vs.drop (k + 1))) := by
  rw [List.drop_eq_getElem_cons h1, List.drop_eq_getElem_cons h2, hasTs]
theorem hasTs_end {ts : List Ty} {vs : List Va} {k : Nat} (h1 : ts.length ≤ k) (h2 : vs.length ≤ k) : hasTs (ts.drop k) (vs.drop k) = true := by
  rw [List.drop_eq_nil_of_le h1, List.drop_eq_nil_of_le h2, hasTs]
/-- a data type -/
def DatT (t : Ty) : Prop := t.form = true ∧ Tr.has 5 t = false
theorem DatT.of {t : Ty} (h : dataB t = true) : DatT t := by
  unfold dataB validB at h
  simp only [Bool.and_eq_true, Bool.not_eq_true'] at h
  exact ⟨h.1.2.2, h.2⟩
theorem DatT.kid {a : TyA} {ks : List Ty} (h : DatT (.node a ks)) {t : Ty} (ht : t ∈ ks) : DatT t := by
  obtain ⟨h1, h2⟩ := h
  rw [form_node, Bool.and_eq_true, List.all_eq_true] at h1
  rw [has_node, Bool.or_eq_false_iff] at h2
  refine ⟨h1.1 t ht, ?_⟩
  have := h2.1
  rw [List.any_eq_false] at this
  simpa using this t ht
/-- the four kinds of data types -/
theorem DatT.cases {a : TyA} {ks : List Ty} (h : DatT (.node a ks)) :
    ((a.kind = 1 ∨ a.kind = 2) ∧ a.labels.length = 0 ∧ ks.length = 0) ∨ (a.kind = 3 ∧ ks.length = a.labels.length) ∨ (a.kind = 4 ∧ a.labels.length = 0 ∧ ks.length = 1) := by
  obtain ⟨h1, h2⟩ := h
  rw [form_node, Bool.and_eq_true] at h1
  have hf := h1.2
  rw [has_node, Bool.or_eq_false_iff] at h2
  have h5 : a.kind ≠ 5 := by simpa using h2.2
  unfold formA at hf
  by_cases h3 : a.kind = 3
  · rw [if_pos h3] at hf
    simp only [Bool.and_eq_true, decide_eq_true_eq] at hf
    exact .inr (.inl ⟨h3, hf.1⟩)
  · rw [if_neg h3] at hf
    simp only [Bool.and_eq_true, decide_eq_true_eq] at hf
    obtain ⟨_, hl, hw⟩ := hf
    unfold want at hw
    by_cases k1 : a.kind = 1
    · rw [if_pos k1] at hw
      exact .inl ⟨.inl k1, hl, by omega⟩
    · by_cases k2 : a.kind = 2
      · rw [if_neg k1, if_pos k2] at hw
        exact .inl ⟨.inr k2, hl, by omega⟩
      · by_cases k4 : a.kind = 4
        · rw [if_neg k1, if_neg k2, if_pos k4] at hw
          exact .inr (.inr ⟨k4, hl, by omega⟩)
        · rw [if_neg k1, if_neg k2, if_neg k4, if_neg h5] at hw
          omega
def hasV (v : Va) (t : Ty) : Bool := dataB t && (decide (v.size ≤ 2000) && hasT t v)
end Go.Proofs.Ytlcpekpgkllbkaa

/-
  When two databases are equal, in plain words. Hangs on no function of the program.
-/
namespace Go.Proofs.Ytlcpekpgkllbkaa
open Go.RowKit

def sameVa (u v : Va) : Bool := decide (cmpV u v = 0)
def sameDd (a b : Dd) : Bool := decide (a.1 = b.1) && (decide (a.2.length = b.2.length) && allPairs sameVa a.2 b.2)
def eqDbB (a b : Db) : Bool := decide (a.length = b.length) && allPairs sameDd a b
noncomputable def tdataB (x : Dc) (d : Dd) : Bool := decide (d.1 = x.1) && (decide (d.2.length ≤ 8) && d.2.all fun v => hasV v x.2)
noncomputable def dbB (xs : Sc) (ds : Db) : Bool := schB xs && (decide (xs.length = ds.length) && allPairs tdataB xs ds)
theorem str_neS {s t : ByteArray} (h : s ≠ t) : (s.toList == t.toList) = false := by
  rw [beq_eq_false_iff_ne, ByteArray.toList_eq, ByteArray.toList_eq]
  intro e
  exact h (ByteArray.ext (Array.toList_inj.1 e))
end Go.Proofs.Ytlcpekpgkllbkaa

/-
  Trees in the order in which a node stands before those below it. Hangs on no program.
-/
namespace Go.Proofs.Ytlcpekpgkllbkaa
open Go.RowKit

section
variable {α : Type}
/-- the nodes with their depths, each before those below -/
def Tr.pre : Tr α → Nat → List (Nat × Tr α)
  | .node a ks, d => (d, .node a ks) :: (ks.attach.map fun ⟨t, _⟩ => t.pre (d + 1)).flatten
def preL (d : Nat) (ts : List (Tr α)) : List (Nat × Tr α) := (ts.map fun t => t.pre d).flatten
theorem pre_node (a : α) (ks : List (Tr α)) (d : Nat) : (Tr.node a ks).pre d = (d, .node a ks) :: preL (d + 1) ks := by
  rw [Tr.pre]
  unfold preL
  congr 2
  exact List.attach_map_val (l := ks) (f := fun t => t.pre (d + 1)) ▸ rfl
theorem pre_top (t : Tr α) (d : Nat) : t.pre d = (d, t) :: preL (d + 1) t.kids := by
  cases t with
  | node a ks => exact pre_node a ks d
theorem preL_nil (d : Nat) : preL d ([] : List (Tr α)) = [] := rfl
theorem preL_cons (d : Nat) (t : Tr α) (ts : List (Tr α)) : preL d (t :: ts) = t.pre d ++ preL d ts := rfl
theorem preL_one (d : Nat) (t : Tr α) : preL d [t] = t.pre d := by rw [preL_cons, preL_nil, List.append_nil]
/-- lists that are yet to be walked, the next one first, with the slice in which each lies and the depth -/
abbrev NStk (α : Type) := List (List (Tr α) × Value × Nat)
def preS (S : NStk α) : List (Nat × Tr α) := (S.map fun p => preL p.2.2 p.1).flatten
theorem preS_cons (p : List (Tr α) × Value × Nat) (S : NStk α) : preS (p :: S) = preL p.2.2 p.1 ++ preS S := rfl
theorem preS_step (x : Tr α) (xs : List (Tr α)) (s : Value) (d : Nat) (S : NStk α) : preS ((x :: xs, s, d) :: S) = (d, x) :: (preL (d + 1) x.kids ++ (preL d xs ++ preS S)) := by
  rw [preS_cons, preL_cons, pre_top]
  simp
theorem pre_pos (t : Tr α) (d : Nat) : 0 < (t.pre d).length := by rw [pre_top]; simp
theorem preL_len (d : Nat) : ∀ ts : List (Tr α), ts.length ≤ (preL d ts).length
  | [] => Nat.le_refl _
  | t :: ts => by
    have := preL_len d ts
    have := pre_pos t d
    rw [preL_cons, List.length_append, List.length_cons]
    omega
theorem preS_len (S : NStk α) (h : ∀ p ∈ S, 0 < p.1.length) : S.length ≤ (preS S).length := by
  induction S with
  | nil => simp
  | cons p S ih =>
    have := ih fun q hq => h q (List.mem_cons_of_mem _ hq)
    have := h p (List.mem_cons_self ..)
    have := preL_len p.2.2 p.1
    rw [preS_cons, List.length_append, List.length_cons]
    omega
/-- what a sum over the tree is -/
theorem pre_sum (f : α → Nat) : ∀ (t : Tr α) (d : Nat), ((t.pre d).map fun p => f p.2.top).sum = t.sum f := by
  refine Tr.ind ?_
  intro a ks ih d
  rw [pre_node, Tr.sum_node, List.map_cons, List.sum_cons]
  congr 1
  have h : ∀ ts : List (Tr α), (∀ t ∈ ts, t ∈ ks) → ((preL (d + 1) ts).map fun p => f p.2.top).sum = (ts.map (Tr.sum f)).sum := by
    intro ts
    induction ts with
    | nil => intro _; rfl
    | cons t ts iht =>
      intro hm
      rw [preL_cons, List.map_append, List.sum_append, iht (fun x hx => hm x (by simp [hx])), ih t (hm t (by simp)) (d + 1), List.map_cons, List.sum_cons]
  exact h ks fun _ h => h
theorem pre_len (t : Tr α) (d : Nat) : (t.pre d).length = t.sum fun _ => 1 := by
  rw [← pre_sum (fun _ => 1) t d, List.map_const', List.sum_replicate_nat]
  simp
end
end Go.Proofs.Ytlcpekpgkllbkaa

/-
  The depth of a tree is the greatest of those of its nodes.
-/
namespace Go.Proofs.Ytlcpekpgkllbkaa
open Go.RowKit

section
variable {α : Type}
theorem le_foldl_max : ∀ (xs : List Nat) (a : Nat), a ≤ xs.foldl max a ∧ ∀ x ∈ xs, x ≤ xs.foldl max a
  | [], a => ⟨Nat.le_refl _, fun x h => by cases h⟩
  | y :: xs, a => by
    have ⟨h1, h2⟩ := le_foldl_max xs (max a y)
    refine ⟨Nat.le_trans (Nat.le_max_left _ _) h1, fun x hx => ?_⟩
    rcases List.mem_cons.1 hx with rfl | hx
    · exact Nat.le_trans (Nat.le_max_right _ _) h1
    · exact h2 x hx
theorem foldl_max_is : ∀ (xs : List Nat) (a : Nat), xs.foldl max a = a ∨ ∃ x ∈ xs, xs.foldl max a = x
  | [], a => .inl rfl
  | y :: xs, a => by
    rcases foldl_max_is xs (max a y) with h | ⟨x, hx, h⟩
    · rw [List.foldl_cons, h]
      rcases Nat.le_total a y with k | k
      · exact .inr ⟨y, by simp, Nat.max_eq_right k⟩
      · exact .inl (Nat.max_eq_left k)
    · exact .inr ⟨x, List.mem_cons_of_mem _ hx, h⟩
theorem deep_pos (t : Tr α) : 1 ≤ t.deep := by
  cases t with
  | node a ks => rw [deep_node]; omega
theorem pre_deep : ∀ (t : Tr α) (d : Nat), (∀ p ∈ t.pre d, d ≤ p.1 ∧ p.1 + 1 ≤ d + t.deep) ∧ ∃ p ∈ t.pre d, p.1 + 1 = d + t.deep := by
  refine Tr.ind ?_
  intro a ks ih d
  rw [pre_node, deep_node]
  constructor
  · intro p hp
    rcases List.mem_cons.1 hp with rfl | hp
    · exact ⟨Nat.le_refl _, by show d + 1 ≤ _; omega⟩
    · unfold preL at hp
      obtain ⟨l, hl, hp⟩ := List.mem_flatten.1 hp
      obtain ⟨t, ht, rfl⟩ := List.mem_map.1 hl
      have h1 := (ih t ht (d + 1)).1 p hp
      have h2 := (le_foldl_max (ks.map Tr.deep) 0).2 t.deep (List.mem_map_of_mem ht)
      omega
  · rcases foldl_max_is (ks.map Tr.deep) 0 with h | ⟨x, hx, h⟩
    · refine ⟨(d, .node a ks), List.mem_cons_self .., ?_⟩
      show d + 1 = _
      omega
    · obtain ⟨t, ht, rfl⟩ := List.mem_map.1 hx
      obtain ⟨p, hp, e⟩ := (ih t ht (d + 1)).2
      refine ⟨p, List.mem_cons_of_mem _ ?_, by omega⟩
      unfold preL
      exact List.mem_flatten.2 ⟨_, List.mem_map_of_mem ht, hp⟩
theorem deep_le_sizeN (t : Tr α) : t.deep ≤ t.size := by
  have h2 : ∀ (t : Tr α), t.deep ≤ t.size := by
    refine Tr.ind ?_
    intro a ks ih
    rw [deep_node]
    have e : (Tr.node a ks).size = 1 + (ks.map Tr.size).sum := Tr.sum_node _ a ks
    rw [e]
    have := foldl_max_le (m := (ks.map Tr.size).sum) (ks.map Tr.deep) 0 (Nat.zero_le _) (by
      intro x hx
      obtain ⟨t, ht, rfl⟩ := List.mem_map.1 hx
      exact Nat.le_trans (ih t ht) (kid_sum_le Tr.size ht))
    omega
  exact h2 t
/-- the greatest depth among the first k nodes -/
def topTo (t : Tr α) (k : Nat) : Nat := (((t.pre 1).take k).map Prod.fst).foldl max 0
theorem topTo_zero (t : Tr α) : topTo t 0 = 0 := rfl
theorem topTo_succ (t : Tr α) {k : Nat} {p : Nat × Tr α} (h : (t.pre 1)[k]? = some p) : topTo t (k + 1) = max (topTo t k) p.1 := by
  unfold topTo
  rw [List.take_add_one, h, List.map_append, List.foldl_append]
  rfl
theorem topTo_le (t : Tr α) (k : Nat) : topTo t k ≤ t.deep := by
  unfold topTo
  refine foldl_max_le _ _ (Nat.zero_le _) fun x hx => ?_
  obtain ⟨p, hp, rfl⟩ := List.mem_map.1 hx
  have := ((pre_deep t 1).1 p (List.mem_of_mem_take hp)).2
  omega
theorem topTo_all (t : Tr α) : topTo t (t.pre 1).length = t.deep := by
  have h1 := topTo_le t (t.pre 1).length
  obtain ⟨p, hp, e⟩ := (pre_deep t 1).2
  have h2 : p.1 ≤ topTo t (t.pre 1).length := by
    unfold topTo
    rw [List.take_length]
    exact (le_foldl_max _ 0).2 _ (List.mem_map_of_mem hp)
  omega
end
end Go.Proofs.Ytlcpekpgkllbkaa
