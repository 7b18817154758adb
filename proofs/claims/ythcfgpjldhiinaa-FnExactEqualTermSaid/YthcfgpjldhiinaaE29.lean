/-
  Merged by program: TeW, Pre2M.
-/
import Derived.Test.YthcfgpjldhiinaaE28
import Derived.Test.YthcfgpjldhiinaaE13
import Derived.Test.YthcfgpjldhiinaaE19

/-
  What a node within a term weighs. Hangs on no program.
-/
namespace Go.Proofs.Ythcfgpjldhiinaa
open Go.RowKit

theorem wte_node_mem : ∀ (t : Te) (d : Nat) (p : Nat × Te), p ∈ t.pre d → wte p.2 ≤ wte t := by
  refine Tr.ind ?_
  intro a ks ih d p hp
  rw [pre_node] at hp
  rcases List.mem_cons.1 hp with rfl | hp
  · exact Nat.le_refl _
  · unfold preL at hp
    obtain ⟨l, hl, hp⟩ := List.mem_flatten.1 hp
    obtain ⟨t, ht, rfl⟩ := List.mem_map.1 hl
    have h1 := ih t ht _ p hp
    have h2 : wte t ≤ wte (.node a ks) := by
      rw [wte_node]
      have := kid_sum_le wte ht
      unfold wteK
      omega
    omega
theorem wt_type_le (t : Te) : wt t.top.type ≤ wte t := by
  cases t with
  | node a ks =>
    rw [wte_node]
    show wt a.type ≤ _
    unfold wteA
    omega
end Go.Proofs.Ythcfgpjldhiinaa

/-
  The first of a pair is a node of the first tree. Hangs on no program.
-/
namespace Go.Proofs.Ythcfgpjldhiinaa
open Go.RowKit

section
variable {α : Type}
/-- the first of a pair is a node of the first tree -/
theorem pre2_mem : ∀ (x y : Tr α) (d : Nat), ∀ p ∈ pre2 x y, ∃ e, (e, p.1) ∈ x.pre d := by
  refine Tr.ind ?_
  intro a ks ih y d p hp
  rw [pre2_top] at hp
  rw [pre_node]
  rcases List.mem_cons.1 hp with rfl | hp
  · exact ⟨d, List.mem_cons_self ..⟩
  · have h : ∀ (ts us : List (Tr α)), (∀ t ∈ ts, t ∈ ks) → p ∈ pairL ts us → ∃ e, (e, p.1) ∈ preL (d + 1) ts := by
      intro ts
      induction ts with
      | nil => intro us _ h; simp [pairL] at h
      | cons t ts iht =>
        intro us hm h
        cases us with
        | nil => simp [pairL] at h
        | cons u us =>
          rw [pairL_cons] at h
          rw [preL_cons]
          rcases List.mem_append.1 h with h | h
          · obtain ⟨e, he⟩ := ih t (hm t (by simp)) u (d + 1) p h
            exact ⟨e, List.mem_append.2 (.inl he)⟩
          · obtain ⟨e, he⟩ := iht us (fun x hx => hm x (by simp [hx])) h
            exact ⟨e, List.mem_append.2 (.inr he)⟩
    obtain ⟨e, he⟩ := h ks y.kids (fun _ h => h) hp
    exact ⟨e, List.mem_cons_of_mem _ he⟩
end
end Go.Proofs.Ythcfgpjldhiinaa
