/-
  Merged by program: TySize, TyNum.
-/
import Derived.Test.YthcfgpjldhiinaaE2

/-
  The model's SizeOfType.
-/
namespace Go.Proofs.Ythcfgpjldhiinaa
open Go.RowKit

/-- an answer that is a number; all that was there is as it was -/
def Counts (n : Int) (w : World) (e : Ending) (w' : World) : Prop := e = .returned (.int .i64 n) ∧ Below w.heap.size w w'

end Go.Proofs.Ythcfgpjldhiinaa

/-
  The model's DepthOfType and CountBags.
-/
namespace Go.Proofs.Ythcfgpjldhiinaa
open Go.RowKit

/-- the depth: 1 without parts -/
def Tr.deep {α : Type} : Tr α → Nat
  | .node _ ks => (ks.attach.map fun ⟨t, _⟩ => t.deep).foldl max 0 + 1
theorem deep_node {α : Type} (a : α) (ks : List (Tr α)) : (Tr.node a ks).deep = (ks.map Tr.deep).foldl max 0 + 1 := by
  rw [Tr.deep]
  congr 2
  exact List.attach_map_val (l := ks) (f := Tr.deep) ▸ rfl
/-- the depth of the first k parts -/
def deepTo {α : Type} (ks : List (Tr α)) (k : Nat) : Nat := ((ks.take k).map Tr.deep).foldl max 0
theorem deepTo_zero {α : Type} (ks : List (Tr α)) : deepTo ks 0 = 0 := rfl
theorem deepTo_succ {α : Type} (ks : List (Tr α)) (k : Nat) (h : k < ks.length) : deepTo ks (k + 1) = max (deepTo ks k) ks[k].deep := by
  unfold deepTo
  rw [List.take_succ_eq_append_getElem h, List.map_append, List.foldl_append]
  rfl
theorem deepTo_all {α : Type} (a : α) (ks : List (Tr α)) : (Tr.node a ks).deep = deepTo ks ks.length + 1 := by rw [deep_node, deepTo, List.take_length]
theorem foldl_max_le {m : Nat} : ∀ (xs : List Nat) (a : Nat), a ≤ m → (∀ x ∈ xs, x ≤ m) → xs.foldl max a ≤ m
  | [], a, h, _ => h
  | x :: xs, a, h, hx => foldl_max_le xs _ (Nat.max_le.2 ⟨h, hx x (by simp)⟩) (fun y hy => hx y (by simp [hy]))
theorem kid_sum_le {β : Type} (f : β → Nat) {ks : List β} {t : β} (h : t ∈ ks) : f t ≤ (ks.map f).sum := by
  induction ks with
  | nil => cases h
  | cons x xs ih =>
    rcases List.mem_cons.1 h with rfl | h
    · simp
    · have := ih h; simp; omega
theorem deep_le_size : ∀ t : Ty, t.deep ≤ t.size := by
  refine Tr.ind ?_
  intro a ks ih
  rw [deep_node, size_node]
  have := foldl_max_le (m := (ks.map Tr.size).sum) (ks.map Tr.deep) 0 (Nat.zero_le _) (by
    intro x hx
    obtain ⟨t, ht, rfl⟩ := List.mem_map.1 hx
    exact Nat.le_trans (ih t ht) (kid_sum_le Tr.size ht))
  omega
theorem kid_size_lt {a : TyA} {ks : List Ty} {t : Ty} (h : t ∈ ks) : t.size < (Tr.node a ks).size := by
  rw [size_node]
  have := kid_sum_le Tr.size h
  omega

theorem l1Max_any {w : World} {a b : Nat} : Calls Try.prog 35 #[.int .i64 a, .int .i64 b] w (Counts (max a b : Nat) w) := by
  have h1 : b < a → (Counts (max a b : Nat) w (.returned (.int .i64 a)) w) := by
    intro h; refine ⟨?_, Below.refl _ _⟩; rw [Nat.max_eq_left (by omega)]
  have h2 : ¬ b < a → (Counts (max a b : Nat) w (.returned (.int .i64 b)) w) := by
    intro h; refine ⟨?_, Below.refl _ _⟩; rw [Nat.max_eq_right (by omega)]
  have H1 := Lib.hid h1
  have H2 := Lib.hid h2
  clear h1 h2
  go_enter Try.func35, Try.ntmps35
  by_cases h : b < a
  · have hH := Lib.hid (H1.out h)
    clear H1 H2
    go_wp2_with fail
    go_ret
    exact hH.out
  · have hH := Lib.hid (H2.out h)
    clear H1 H2
    go_wp2_with fail
    go_ret
    exact hH.out

/-- how many nodes are bags -/
def Tr.bags (t : Ty) : Nat := t.sum fun a => if a.kind = 4 then 1 else 0
theorem bags_node (a : TyA) (ks : List Ty) : (Tr.node a ks).bags = (if a.kind = 4 then 1 else 0) + (ks.map Tr.bags).sum := Tr.sum_node _ a ks
theorem sum_le_sum {β : Type} (f g : β → Nat) : ∀ ks : List β, (∀ t ∈ ks, f t ≤ g t) → (ks.map f).sum ≤ (ks.map g).sum
  | [], _ => Nat.le_refl _
  | x :: xs, h => by
    have h1 := h x (by simp)
    have h2 := sum_le_sum f g xs (fun t ht => h t (by simp [ht]))
    simp
    omega
theorem bags_le_size : ∀ t : Ty, t.bags ≤ t.size := by
  refine Tr.ind ?_
  intro a ks ih
  rw [bags_node, size_node]
  have := sum_le_sum Tr.bags Tr.size ks ih
  split <;> omega

end Go.Proofs.Ythcfgpjldhiinaa
