/-
  Trees in the order in which a node stands before those below it. Hangs on no program.
-/
import Derived.Test.YthcfgpjldhiinaaTree
namespace Go.Proofs.Ythcfgpjldhiinaa
open Go.RowKit

section
variable {α : Type}
/-- the nodes with their depths, each before those below -/
def Tr.pre : Tr α → Nat → List (Nat × Tr α)
  | .node a ks, d => (d, .node a ks) :: (ks.attach.map fun ⟨t, _⟩ => t.pre (d + 1)).flatten
def preL (d : Nat) (ts : List (Tr α)) : List (Nat × Tr α) := (ts.map fun t => t.pre d).flatten
theorem pre_node (a : α) (ks : List (Tr α)) (d : Nat) : (Tr.node a ks).pre d = (d, .node a ks) :: preL (d + 1) ks := by
  rw [Tr.pre]
  unfold preL
  congr 2
  exact List.attach_map_val (l := ks) (f := fun t => t.pre (d + 1)) ▸ rfl
theorem pre_top (t : Tr α) (d : Nat) : t.pre d = (d, t) :: preL (d + 1) t.kids := by
  cases t with
  | node a ks => exact pre_node a ks d
theorem preL_nil (d : Nat) : preL d ([] : List (Tr α)) = [] := rfl
theorem preL_cons (d : Nat) (t : Tr α) (ts : List (Tr α)) : preL d (t :: ts) = t.pre d ++ preL d ts := rfl
theorem preL_one (d : Nat) (t : Tr α) : preL d [t] = t.pre d := by rw [preL_cons, preL_nil, List.append_nil]
/-- lists that are yet to be walked, the next one first, with the slice in which each lies and the depth -/
abbrev NStk (α : Type) := List (List (Tr α) × Value × Nat)
def preS (S : NStk α) : List (Nat × Tr α) := (S.map fun p => preL p.2.2 p.1).flatten
theorem preS_cons (p : List (Tr α) × Value × Nat) (S : NStk α) : preS (p :: S) = preL p.2.2 p.1 ++ preS S := rfl
theorem preS_step (x : Tr α) (xs : List (Tr α)) (s : Value) (d : Nat) (S : NStk α) : preS ((x :: xs, s, d) :: S) = (d, x) :: (preL (d + 1) x.kids ++ (preL d xs ++ preS S)) := by
  rw [preS_cons, preL_cons, pre_top]
  simp
theorem pre_pos (t : Tr α) (d : Nat) : 0 < (t.pre d).length := by rw [pre_top]; simp
theorem preL_len (d : Nat) : ∀ ts : List (Tr α), ts.length ≤ (preL d ts).length
  | [] => Nat.le_refl _
  | t :: ts => by
    have := preL_len d ts
    have := pre_pos t d
    rw [preL_cons, List.length_append, List.length_cons]
    omega
theorem preS_len (S : NStk α) (h : ∀ p ∈ S, 0 < p.1.length) : S.length ≤ (preS S).length := by
  induction S with
  | nil => simp
  | cons p S ih =>
    have := ih fun q hq => h q (List.mem_cons_of_mem _ hq)
    have := h p (List.mem_cons_self ..)
    have := preL_len p.2.2 p.1
    rw [preS_cons, List.length_append, List.length_cons]
    omega
/-- what a sum over the tree is -/
theorem pre_sum (f : α → Nat) : ∀ (t : Tr α) (d : Nat), ((t.pre d).map fun p => f p.2.top).sum = t.sum f := by
  refine Tr.ind ?_
  intro a ks ih d
  rw [pre_node, Tr.sum_node, List.map_cons, List.sum_cons]
  congr 1
  have h : ∀ ts : List (Tr α), (∀ t ∈ ts, t ∈ ks) → ((preL (d + 1) ts).map fun p => f p.2.top).sum = (ts.map (Tr.sum f)).sum := by
    intro ts
    induction ts with
    | nil => intro _; rfl
    | cons t ts iht =>
      intro hm
      rw [preL_cons, List.map_append, List.sum_append, iht (fun x hx => hm x (by simp [hx])), ih t (hm t (by simp)) (d + 1), List.map_cons, List.sum_cons]
  exact h ks fun _ h => h
theorem pre_len (t : Tr α) (d : Nat) : (t.pre d).length = t.sum fun _ => 1 := by
  rw [← pre_sum (fun _ => 1) t d, List.map_const', List.sum_replicate_nat]
  simp
end
end Go.Proofs.Ythcfgpjldhiinaa
