/-
  Trees of structs: a node's own cells, and behind them, in its last cell, a slice of the nodes below. Hangs on no program.
-/
import Derived.Test.YthcfgpjldhiinaaWords
namespace Go.Proofs.Ythcfgpjldhiinaa
open Go.RowKit

/-- a tree: what a node holds, and the nodes below -/
inductive Tr (α : Type) : Type where
  | node (a : α) (ks : List (Tr α)) : Tr α

section
variable {α : Type}
theorem Tr.ind {m : Tr α → Prop} (h : ∀ a ks, (∀ t ∈ ks, m t) → m (.node a ks)) : ∀ t, m t
  | .node a ks => h a ks (fun t _ => Tr.ind h t)
def Tr.top : Tr α → α
  | .node a _ => a
def Tr.kids : Tr α → List (Tr α)
  | .node _ ks => ks

/-- the k-th part of n cells lies behind an address -/
def Part (w : World) (A : Option Addr) (m k : Nat) (cs : List Value) : Prop := cs.length = m ∧ ∃ ad, A = some ad ∧ ∀ i u, cs[i]? = some u → w.cell? (ad.add (k * m + i)) = some u
theorem Part.below {w w' : World} {A : Option Addr} {m k : Nat} {cs : List Value} (h : Part w A m k cs) (hb : Below w.heap.size w w') : Part w' A m k cs := by
  obtain ⟨h1, ad, h2, h3⟩ := h
  exact ⟨h1, ad, h2, fun i u hi => (hb.cell (World.block_lt_of_cell? w _ (h3 i u hi))).trans (h3 i u hi)⟩

/-- what a node's own cells say, in a world -/
structure Head (α : Type) where
  says : World → α → List Value → Prop
  kept : ∀ {w w' a cs}, says w a cs → Below w.heap.size w w' → says w' a cs

/-- the cells read as the tree: m cells a node, the last one the slice of the nodes below -/
inductive Reads (H : Head α) (m : Nat) (w : World) : Tr α → List Value → Prop where
  | node (a : α) (ks : List (Tr α)) (hs : List Value) (A : Option Addr) (c : Nat) (cs : Nat → List Value) (h1 : H.says w a hs) (h2 : hs.length + 1 = m) (h3 : ks.length ≤ 9223372036854775807)
      (h4 : ∀ j, j < ks.length → Part w A m j (cs j)) (h5 : ∀ j t, ks[j]? = some t → Reads H m w t (cs j)) (h6 : ks.length ≤ c) : Reads H m w (.node a ks) (hs ++ [.slice A ks.length c])

theorem Reads.keep {H : Head α} {m : Nat} {w w' : World} {t : Tr α} {cs : List Value} (h : Reads H m w t cs) (hb : Below w.heap.size w w') : Reads H m w' t cs := by
  induction h with
  | node a ks hs A c cs h1 h2 h3 h4 _ h6 ih => exact .node a ks hs A c cs (H.kept h1 hb) h2 h3 (fun j hj => (h4 j hj).below hb) ih h6
theorem Reads.len {H : Head α} {m : Nat} {w : World} {t : Tr α} {cs : List Value} (h : Reads H m w t cs) : cs.length = m := by
  cases h with
  | node a ks hs A c cs h1 h2 => simpa using h2

/-- a sum over the tree -/
def Tr.sum (f : α → Nat) : Tr α → Nat
  | .node a ks => f a + (ks.attach.map fun ⟨t, _⟩ => t.sum f).sum
theorem Tr.sum_node (f : α → Nat) (a : α) (ks : List (Tr α)) : (Tr.node a ks).sum f = f a + (ks.map (Tr.sum f)).sum := by
  rw [Tr.sum]
  congr 2
  exact List.attach_map_val (l := ks) (f := Tr.sum f) ▸ rfl
end
end Go.Proofs.Ythcfgpjldhiinaa
