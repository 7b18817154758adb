/-
  Merged by program: TySize, TyNum, PreD.
-/
import Derived.Test.YthcfgpjldhiinaaT3
import Derived.Test.YthcfgpjldhiinaaT2

/-
  The model's SizeOfType.
-/
namespace Go.Proofs.Ythcfgpjldhiinaa
open Go.RowKit

/-- an answer that is a number; all that was there is as it was -/
def Counts (n : Int) (w : World) (e : Ending) (w' : World) : Prop := e = .returned (.int .i64 n) ∧ Below w.heap.size w w'

end Go.Proofs.Ythcfgpjldhiinaa

/-
  The model's DepthOfType and CountBags.
-/
namespace Go.Proofs.Ythcfgpjldhiinaa
open Go.RowKit

/-- the depth: 1 without parts -/
def Tr.deep {α : Type} : Tr α → Nat
  | .node _ ks => (ks.attach.map fun ⟨t, _⟩ => t.deep).foldl max 0 + 1
theorem deep_node {α : Type} (a : α) (ks : List (Tr α)) : (Tr.node a ks).deep = (ks.map Tr.deep).foldl max 0 + 1 := by
  rw [Tr.deep]
  congr 2
  exact List.attach_map_val (l := ks) (f := Tr.deep) ▸ rfl
/-- the depth of the first k parts -/
def deepTo {α : Type} (ks : List (Tr α)) (k : Nat) : Nat := ((ks.take k).map Tr.deep).foldl max 0
theorem deepTo_zero {α : Type} (ks : List (Tr α)) : deepTo ks 0 = 0 := rfl
theorem deepTo_succ {α : Type} (ks : List (Tr α)) (k : Nat) (h : k < ks.length) : deepTo ks (k + 1) = max (deepTo ks k) ks[k].deep := by
  unfold deepTo
  rw [List.take_succ_eq_append_getElem h, List.map_append, List.foldl_append]
  rfl
theorem deepTo_all {α : Type} (a : α) (ks : List (Tr α)) : (Tr.node a ks).deep = deepTo ks ks.length + 1 := by rw [deep_node, deepTo, List.take_length]
theorem foldl_max_le {m : Nat} : ∀ (xs : List Nat) (a : Nat), a ≤ m → (∀ x ∈ xs, x ≤ m) → xs.foldl max a ≤ m
  | [], a, h, _ => h
  | x :: xs, a, h, hx => foldl_max_le xs _ (Nat.max_le.2 ⟨h, hx x (by simp)⟩) (fun y hy => hx y (by simp [hy]))
theorem kid_sum_le {β : Type} (f : β → Nat) {ks : List β} {t : β} (h : t ∈ ks) : f t ≤ (ks.map f).sum := by
  induction ks with
  | nil => cases h
  | cons x xs ih =>
    rcases List.mem_cons.1 h with rfl | h
    · simp
    · have := ih h; simp; omega
theorem deep_le_size : ∀ t : Ty, t.deep ≤ t.size := by
  refine Tr.ind ?_
  intro a ks ih
  rw [deep_node, size_node]
  have := foldl_max_le (m := (ks.map Tr.size).sum) (ks.map Tr.deep) 0 (Nat.zero_le _) (by
    intro x hx
    obtain ⟨t, ht, rfl⟩ := List.mem_map.1 hx
    exact Nat.le_trans (ih t ht) (kid_sum_le Tr.size ht))
  omega
theorem kid_size_lt {a : TyA} {ks : List Ty} {t : Ty} (h : t ∈ ks) : t.size < (Tr.node a ks).size := by
  rw [size_node]
  have := kid_sum_le Tr.size h
  omega

theorem l1Max_any {w : World} {a b : Nat} : Calls Try.prog 35 #[.int .i64 a, .int .i64 b] w (Counts (max a b : Nat) w) := by
  have h1 : b < a → (Counts (max a b : Nat) w (.returned (.int .i64 a)) w) := by
    intro h; refine ⟨?_, Below.refl _ _⟩; rw [Nat.max_eq_left (by omega)]
  have h2 : ¬ b < a → (Counts (max a b : Nat) w (.returned (.int .i64 b)) w) := by
    intro h; refine ⟨?_, Below.refl _ _⟩; rw [Nat.max_eq_right (by omega)]
  have H1 := Lib.hid h1
  have H2 := Lib.hid h2
  clear h1 h2
  go_enter Try.func35, Try.ntmps35
  by_cases h : b < a
  · have hH := Lib.hid (H1.out h)
    clear H1 H2
    go_wp2_with fail
    go_ret
    exact hH.out
  · have hH := Lib.hid (H2.out h)
    clear H1 H2
    go_wp2_with fail
    go_ret
    exact hH.out

/-- how many nodes are bags -/
def Tr.bags (t : Ty) : Nat := t.sum fun a => if a.kind = 4 then 1 else 0
theorem bags_node (a : TyA) (ks : List Ty) : (Tr.node a ks).bags = (if a.kind = 4 then 1 else 0) + (ks.map Tr.bags).sum := Tr.sum_node _ a ks
theorem sum_le_sum {β : Type} (f g : β → Nat) : ∀ ks : List β, (∀ t ∈ ks, f t ≤ g t) → (ks.map f).sum ≤ (ks.map g).sum
  | [], _ => Nat.le_refl _
  | x :: xs, h => by
    have h1 := h x (by simp)
    have h2 := sum_le_sum f g xs (fun t ht => h t (by simp [ht]))
    simp
    omega
theorem bags_le_size : ∀ t : Ty, t.bags ≤ t.size := by
  refine Tr.ind ?_
  intro a ks ih
  rw [bags_node, size_node]
  have := sum_le_sum Tr.bags Tr.size ks ih
  split <;> omega

end Go.Proofs.Ythcfgpjldhiinaa

/-
  The depth of a tree is the greatest of those of its nodes.
-/
namespace Go.Proofs.Ythcfgpjldhiinaa
open Go.RowKit

section
variable {α : Type}
theorem le_foldl_max : ∀ (xs : List Nat) (a : Nat), a ≤ xs.foldl max a ∧ ∀ x ∈ xs, x ≤ xs.foldl max a
  | [], a => ⟨Nat.le_refl _, fun x h => by cases h⟩
  | y :: xs, a => by
    have ⟨h1, h2⟩ := le_foldl_max xs (max a y)
    refine ⟨Nat.le_trans (Nat.le_max_left _ _) h1, fun x hx => ?_⟩
    rcases List.mem_cons.1 hx with rfl | hx
    · exact Nat.le_trans (Nat.le_max_right _ _) h1
    · exact h2 x hx
theorem foldl_max_is : ∀ (xs : List Nat) (a : Nat), xs.foldl max a = a ∨ ∃ x ∈ xs, xs.foldl max a = x
  | [], a => .inl rfl
  | y :: xs, a => by
    rcases foldl_max_is xs (max a y) with h | ⟨x, hx, h⟩
    · rw [List.foldl_cons, h]
      rcases Nat.le_total a y with k | k
      · exact .inr ⟨y, by simp, Nat.max_eq_right k⟩
      · exact .inl (Nat.max_eq_left k)
    · exact .inr ⟨x, List.mem_cons_of_mem _ hx, h⟩
theorem deep_pos (t : Tr α) : 1 ≤ t.deep := by
  cases t with
  | node a ks => rw [deep_node]; omega
theorem pre_deep : ∀ (t : Tr α) (d : Nat), (∀ p ∈ t.pre d, d ≤ p.1 ∧ p.1 + 1 ≤ d + t.deep) ∧ ∃ p ∈ t.pre d, p.1 + 1 = d + t.deep := by
  refine Tr.ind ?_
  intro a ks ih d
  rw [pre_node, deep_node]
  constructor
  · intro p hp
    rcases List.mem_cons.1 hp with rfl | hp
    · exact ⟨Nat.le_refl _, by show d + 1 ≤ _; omega⟩
    · unfold preL at hp
      obtain ⟨l, hl, hp⟩ := List.mem_flatten.1 hp
      obtain ⟨t, ht, rfl⟩ := List.mem_map.1 hl
      have h1 := (ih t ht (d + 1)).1 p hp
      have h2 := (le_foldl_max (ks.map Tr.deep) 0).2 t.deep (List.mem_map_of_mem ht)
      omega
  · rcases foldl_max_is (ks.map Tr.deep) 0 with h | ⟨x, hx, h⟩
    · refine ⟨(d, .node a ks), List.mem_cons_self .., ?_⟩
      show d + 1 = _
      omega
    · obtain ⟨t, ht, rfl⟩ := List.mem_map.1 hx
      obtain ⟨p, hp, e⟩ := (ih t ht (d + 1)).2
      refine ⟨p, List.mem_cons_of_mem _ ?_, by omega⟩
      unfold preL
      exact List.mem_flatten.2 ⟨_, List.mem_map_of_mem ht, hp⟩
theorem deep_le_sizeN (t : Tr α) : t.deep ≤ t.size := by
  have h2 : ∀ (t : Tr α), t.deep ≤ t.size := by
    refine Tr.ind ?_
    intro a ks ih
    rw [deep_node]
    have e : (Tr.node a ks).size = 1 + (ks.map Tr.size).sum := Tr.sum_node _ a ks
    rw [e]
    have := foldl_max_le (m := (ks.map Tr.size).sum) (ks.map Tr.deep) 0 (Nat.zero_le _) (by
      intro x hx
      obtain ⟨t, ht, rfl⟩ := List.mem_map.1 hx
      exact Nat.le_trans (ih t ht) (kid_sum_le Tr.size ht))
    omega
  exact h2 t
/-- the greatest depth among the first k nodes -/
def topTo (t : Tr α) (k : Nat) : Nat := (((t.pre 1).take k).map Prod.fst).foldl max 0
theorem topTo_zero (t : Tr α) : topTo t 0 = 0 := rfl
theorem topTo_succ (t : Tr α) {k : Nat} {p : Nat × Tr α} (h : (t.pre 1)[k]? = some p) : topTo t (k + 1) = max (topTo t k) p.1 := by
  unfold topTo
  rw [List.take_add_one, h, List.map_append, List.foldl_append]
  rfl
theorem topTo_le (t : Tr α) (k : Nat) : topTo t k ≤ t.deep := by
  unfold topTo
  refine foldl_max_le _ _ (Nat.zero_le _) fun x hx => ?_
  obtain ⟨p, hp, rfl⟩ := List.mem_map.1 hx
  have := ((pre_deep t 1).1 p (List.mem_of_mem_take hp)).2
  omega
theorem topTo_all (t : Tr α) : topTo t (t.pre 1).length = t.deep := by
  have h1 := topTo_le t (t.pre 1).length
  obtain ⟨p, hp, e⟩ := (pre_deep t 1).2
  have h2 : p.1 ≤ topTo t (t.pre 1).length := by
    unfold topTo
    rw [List.take_length]
    exact (le_foldl_max _ 0).2 _ (List.mem_map_of_mem hp)
  omega
end
end Go.Proofs.Ythcfgpjldhiinaa
