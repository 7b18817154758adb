/-
  Merged by program: Pre2.
-/
import Derived.Test.YtlcpekpgkllbkaaQ33

/-
  Two trees walked side by side, each pair of nodes before those below. Hangs on no program.
-/
namespace Go.Proofs.Ytlcpekpgkllbkaa
open Go.RowKit

section
variable {α : Type}
def pre2 : Tr α → Tr α → List (Tr α × Tr α)
  | .node a ks, y => (.node a ks, y) :: ((ks.attach.zip y.kids).map fun ⟨⟨t, _⟩, u⟩ => pre2 t u).flatten
def pairL (ts us : List (Tr α)) : List (Tr α × Tr α) := ((ts.zip us).map fun p => pre2 p.1 p.2).flatten
theorem pre2_top (x y : Tr α) : pre2 x y = (x, y) :: pairL x.kids y.kids := by
  cases x with
  | node a ks =>
    rw [pre2]
    unfold pairL
    congr 2
    show _ = (ks.zip y.kids).map _
    conv => rhs; rw [← List.attach_map_subtype_val ks]
    rw [List.zip_map_left, List.map_map]
    rfl
theorem pairL_nil (us : List (Tr α)) : pairL ([] : List (Tr α)) us = [] := rfl
theorem pairL_cons (t u : Tr α) (ts us : List (Tr α)) : pairL (t :: ts) (u :: us) = pre2 t u ++ pairL ts us := rfl
theorem pairL_one (t u : Tr α) : pairL [t] [u] = pre2 t u := by rw [pairL_cons, pairL_nil, List.append_nil]
/-- pairs of lists that are yet to be walked, the next pair first, each list with its slice -/
abbrev NPStk (α : Type) := List ((List (Tr α) × Value) × (List (Tr α) × Value))
def pairS (S : NPStk α) : List (Tr α × Tr α) := (S.map fun p => pairL p.1.1 p.2.1).flatten
theorem pairS_cons (p : (List (Tr α) × Value) × (List (Tr α) × Value)) (S : NPStk α) : pairS (p :: S) = pairL p.1.1 p.2.1 ++ pairS S := rfl
theorem pairS_step (x y : Tr α) (xs ys : List (Tr α)) (s t : Value) (S : NPStk α) : pairS (((x :: xs, s), (y :: ys, t)) :: S) = (x, y) :: (pairL x.kids y.kids ++ (pairL xs ys ++ pairS S)) := by
  rw [pairS_cons, pairL_cons, pre2_top]
  simp
theorem pre2_pos (x y : Tr α) : 0 < (pre2 x y).length := by rw [pre2_top]; simp
theorem pairS_len (S : NPStk α) (h : ∀ p ∈ S, 0 < p.1.1.length ∧ p.1.1.length = p.2.1.length) : S.length ≤ (pairS S).length := by
  induction S with
  | nil => simp
  | cons p S ih =>
    have := ih fun q hq => h q (List.mem_cons_of_mem _ hq)
    obtain ⟨h1, h2⟩ := h p (List.mem_cons_self ..)
    rw [pairS_cons, List.length_append, List.length_cons]
    obtain ⟨⟨ts, s⟩, ⟨us, t⟩⟩ := p
    match ts, us, h1, h2 with
    | t1 :: ts, u1 :: us, _, _ =>
      rw [show pairL (((t1 :: ts, s), (u1 :: us, t)) : (List (Tr α) × Value) × (List (Tr α) × Value)).1.1 (((t1 :: ts, s), (u1 :: us, t)) : (List (Tr α) × Value) × (List (Tr α) × Value)).2.1 = pre2 t1 u1 ++ pairL ts us from rfl, List.length_append]
      have := pre2_pos t1 u1
      omega
theorem pre2_len : ∀ (x y : Tr α) (d : Nat), (pre2 x y).length ≤ (x.pre d).length := by
  refine Tr.ind ?_
  intro a ks ih y d
  rw [pre2_top, pre_node, List.length_cons, List.length_cons]
  have h : ∀ (ts us : List (Tr α)), (∀ t ∈ ts, t ∈ ks) → (pairL ts us).length ≤ (preL (d + 1) ts).length := by
    intro ts
    induction ts with
    | nil => intro us _; simp [pairL]
    | cons t ts iht =>
      intro us hm
      cases us with
      | nil => simp [pairL]
      | cons u us =>
        have h1 := ih t (hm t (by simp)) u (d + 1)
        have h2 := iht us fun x hx => hm x (by simp [hx])
        rw [pairL_cons, preL_cons, List.length_append, List.length_append]
        omega
  have := h ks y.kids fun t ht => ht
  show (pairL ks y.kids).length + 1 ≤ _
  omega
/-- the trees are the same exactly if the nodes of all pairs are -/
theorem pre2_same : ∀ x y : Tr α, x = y ↔ ∀ p ∈ pre2 x y, p.1.top = p.2.top ∧ p.1.kids.length = p.2.kids.length := by
  refine Tr.ind ?_
  intro a ks ih y
  cases y with
  | node b ls =>
  rw [pre2_top]
  show _ ↔ ∀ p ∈ (Tr.node a ks, Tr.node b ls) :: pairL ks ls, _
  have h : ∀ (ts us : List (Tr α)), (∀ t ∈ ts, t ∈ ks) → ts.length = us.length → (ts = us ↔ ∀ p ∈ pairL ts us, p.1.top = p.2.top ∧ p.1.kids.length = p.2.kids.length) := by
    intro ts
    induction ts with
    | nil =>
      intro us _ hl
      have : us = [] := List.eq_nil_of_length_eq_zero hl.symm
      subst this
      simp [pairL]
    | cons t ts iht =>
      intro us hm hl
      cases us with
      | nil => simp at hl
      | cons u us =>
        have h1 := ih t (hm t (by simp)) u
        have h2 := iht us (fun x hx => hm x (by simp [hx])) (by simpa using hl)
        rw [pairL_cons, List.cons.injEq, h1, h2]
        simp only [List.mem_append]
        constructor
        · rintro ⟨k1, k2⟩ p (hp | hp)
          · exact k1 p hp
          · exact k2 p hp
        · intro k
          exact ⟨fun p hp => k p (.inl hp), fun p hp => k p (.inr hp)⟩
  constructor
  · intro e
    injection e with e1 e2
    subst e1 e2
    intro p hp
    rcases List.mem_cons.1 hp with rfl | hp
    · exact ⟨rfl, rfl⟩
    · exact (h ks ks (fun _ h => h) rfl).1 rfl p hp
  · intro k
    obtain ⟨k1, k2⟩ := k _ (List.mem_cons_self ..)
    have k1 : a = b := k1
    have k2 : ks.length = ls.length := k2
    have := (h ks ls (fun _ h => h) k2).2 fun p hp => k p (List.mem_cons_of_mem _ hp)
    rw [k1, this]
end
end Go.Proofs.Ytlcpekpgkllbkaa
