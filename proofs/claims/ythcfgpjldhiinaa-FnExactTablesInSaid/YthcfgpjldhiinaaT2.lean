/-
  Merged by program: Tree, Pre.
-/
import Derived.Test.YthcfgpjldhiinaaT1

/-
  Trees of structs: a node's own cells, and behind them, in its last cell, a slice of the nodes below. Hangs on no program.
-/
namespace Go.Proofs.Ythcfgpjldhiinaa
open Go.RowKit

/-- a tree: what a node holds, and the nodes below -/
inductive Tr (α : Type) : Type where
  | node (a : α) (ks : List (Tr α)) : Tr α

section
variable {α : Type}
theorem Tr.ind {m : Tr α → Prop} (h : ∀ a ks, (∀ t ∈ ks, m t) → m (.node a ks)) : ∀ t, m t
  | .node a ks => h a ks (fun t _ => Tr.ind h t)
def Tr.top : Tr α → α
  | .node a _ => a
def Tr.kids : Tr α → List (Tr α)
  | .node _ ks => ks

/-- the k-th part of n cells lies behind an address -/
def Part (w : World) (A : Option Addr) (m k : Nat) (cs : List Value) : Prop := cs.length = m ∧ ∃ ad, A = some ad ∧ ∀ i u, cs[i]? = some u → w.cell? (ad.add (k * m + i)) = some u
theorem Part.below {w w' : World} {A : Option Addr} {m k : Nat} {cs : List Value} (h : Part w A m k cs) (hb : Below w.heap.size w w') : Part w' A m k cs := by
  obtain ⟨h1, ad, h2, h3⟩ := h
  exact ⟨h1, ad, h2, fun i u hi => (hb.cell (World.block_lt_of_cell? w _ (h3 i u hi))).trans (h3 i u hi)⟩

/-- what a node's own cells say, in a world -/
structure Head (α : Type) where
  says : World → α → List Value → Prop
  kept : ∀ {w w' a cs}, says w a cs → Below w.heap.size w w' → says w' a cs

/-- the cells read as the tree: m cells a node, the last one the slice of the nodes below -/
inductive Reads (H : Head α) (m : Nat) (w : World) : Tr α → List Value → Prop where
  | node (a : α) (ks : List (Tr α)) (hs : List Value) (A : Option Addr) (c : Nat) (cs : Nat → List Value) (h1 : H.says w a hs) (h2 : hs.length + 1 = m) (h3 : ks.length ≤ 9223372036854775807)
      (h4 : ∀ j, j < ks.length → Part w A m j (cs j)) (h5 : ∀ j t, ks[j]? = some t → Reads H m w t (cs j)) (h6 : ks.length ≤ c) : Reads H m w (.node a ks) (hs ++ [.slice A ks.length c])

theorem Reads.keep {H : Head α} {m : Nat} {w w' : World} {t : Tr α} {cs : List Value} (h : Reads H m w t cs) (hb : Below w.heap.size w w') : Reads H m w' t cs := by
  induction h with
  | node a ks hs A c cs h1 h2 h3 h4 _ h6 ih => exact .node a ks hs A c cs (H.kept h1 hb) h2 h3 (fun j hj => (h4 j hj).below hb) ih h6
theorem Reads.len {H : Head α} {m : Nat} {w : World} {t : Tr α} {cs : List Value} (h : Reads H m w t cs) : cs.length = m := by
  cases h with
  | node a ks hs A c cs h1 h2 => simpa using h2

/-- a sum over the tree -/
def Tr.sum (f : α → Nat) : Tr α → Nat
  | .node a ks => f a + (ks.attach.map fun ⟨t, _⟩ => t.sum f).sum
theorem Tr.sum_node (f : α → Nat) (a : α) (ks : List (Tr α)) : (Tr.node a ks).sum f = f a + (ks.map (Tr.sum f)).sum := by
  rw [Tr.sum]
  congr 2
  exact List.attach_map_val (l := ks) (f := Tr.sum f) ▸ rfl
end
end Go.Proofs.Ythcfgpjldhiinaa

/-
  Trees in the order in which a node stands before those below it. Hangs on no program.
-/
namespace Go.Proofs.Ythcfgpjldhiinaa
open Go.RowKit

section
variable {α : Type}
/-- the nodes with their depths, each before those below -/
def Tr.pre : Tr α → Nat → List (Nat × Tr α)
  | .node a ks, d => (d, .node a ks) :: (ks.attach.map fun ⟨t, _⟩ => t.pre (d + 1)).flatten
def preL (d : Nat) (ts : List (Tr α)) : List (Nat × Tr α) := (ts.map fun t => t.pre d).flatten
theorem pre_node (a : α) (ks : List (Tr α)) (d : Nat) : (Tr.node a ks).pre d = (d, .node a ks) :: preL (d + 1) ks := by
  rw [Tr.pre]
  unfold preL
  congr 2
  exact List.attach_map_val (l := ks) (f := fun t => t.pre (d + 1)) ▸ rfl
theorem pre_top (t : Tr α) (d : Nat) : t.pre d = (d, t) :: preL (d + 1) t.kids := by
  cases t with
  | node a ks => exact pre_node a ks d
theorem preL_nil (d : Nat) : preL d ([] : List (Tr α)) = [] := rfl
theorem preL_cons (d : Nat) (t : Tr α) (ts : List (Tr α)) : preL d (t :: ts) = t.pre d ++ preL d ts := rfl
theorem preL_one (d : Nat) (t : Tr α) : preL d [t] = t.pre d := by rw [preL_cons, preL_nil, List.append_nil]
/-- lists that are yet to be walked, the next one first, with the slice in which each lies and the depth -/
abbrev NStk (α : Type) := List (List (Tr α) × Value × Nat)
def preS (S : NStk α) : List (Nat × Tr α) := (S.map fun p => preL p.2.2 p.1).flatten
theorem preS_cons (p : List (Tr α) × Value × Nat) (S : NStk α) : preS (p :: S) = preL p.2.2 p.1 ++ preS S := rfl
theorem preS_step (x : Tr α) (xs : List (Tr α)) (s : Value) (d : Nat) (S : NStk α) : preS ((x :: xs, s, d) :: S) = (d, x) :: (preL (d + 1) x.kids ++ (preL d xs ++ preS S)) := by
  rw [preS_cons, preL_cons, pre_top]
  simp
theorem pre_pos (t : Tr α) (d : Nat) : 0 < (t.pre d).length := by rw [pre_top]; simp
theorem preL_len (d : Nat) : ∀ ts : List (Tr α), ts.length ≤ (preL d ts).length
  | [] => Nat.le_refl _
  | t :: ts => by
    have := preL_len d ts
    have := pre_pos t d
    rw [preL_cons, List.length_append, List.length_cons]
    omega
theorem preS_len (S : NStk α) (h : ∀ p ∈ S, 0 < p.1.length) : S.length ≤ (preS S).length := by
  induction S with
  | nil => simp
  | cons p S ih =>
    have := ih fun q hq => h q (List.mem_cons_of_mem _ hq)
    have := h p (List.mem_cons_self ..)
    have := preL_len p.2.2 p.1
    rw [preS_cons, List.length_append, List.length_cons]
    omega
/-- what a sum over the tree is -/
theorem pre_sum (f : α → Nat) : ∀ (t : Tr α) (d : Nat), ((t.pre d).map fun p => f p.2.top).sum = t.sum f := by
  refine Tr.ind ?_
  intro a ks ih d
  rw [pre_node, Tr.sum_node, List.map_cons, List.sum_cons]
  congr 1
  have h : ∀ ts : List (Tr α), (∀ t ∈ ts, t ∈ ks) → ((preL (d + 1) ts).map fun p => f p.2.top).sum = (ts.map (Tr.sum f)).sum := by
    intro ts
    induction ts with
    | nil => intro _; rfl
    | cons t ts iht =>
      intro hm
      rw [preL_cons, List.map_append, List.sum_append, iht (fun x hx => hm x (by simp [hx])), ih t (hm t (by simp)) (d + 1), List.map_cons, List.sum_cons]
  exact h ks fun _ h => h
theorem pre_len (t : Tr α) (d : Nat) : (t.pre d).length = t.sum fun _ => 1 := by
  rw [← pre_sum (fun _ => 1) t d, List.map_const', List.sum_replicate_nat]
  simp
end
end Go.Proofs.Ythcfgpjldhiinaa
