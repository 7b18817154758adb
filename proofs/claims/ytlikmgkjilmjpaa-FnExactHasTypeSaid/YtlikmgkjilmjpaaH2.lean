/-
  Merged by program: Tree, Ty, TySize.
-/
import Derived.Test.YtlikmgkjilmjpaaH1
import Derived.Test.YtlikmgkjilmjpaaProg

/-
  Trees of structs: a node's own cells, and behind them, in its last cell, a slice of the nodes below. Hangs on no program.
-/
namespace Go.Proofs.Ytlikmgkjilmjpaa
open Go.RowKit

/-- a tree: what a node holds, and the nodes below -/
inductive Tr (α : Type) : Type where
  | node (a : α) (ks : List (Tr α)) : Tr α

section
variable {α : Type}
theorem Tr.ind {m : Tr α → Prop} (h : ∀ a ks, (∀ t ∈ ks, m t) → m (.node a ks)) : ∀ t, m t
  | .node a ks => h a ks (fun t _ => Tr.ind h t)
def Tr.top : Tr α → α
  | .node a _ => a
def Tr.kids : Tr α → List (Tr α)
  | .node _ ks => ks

/-- the k-th part of n cells lies behind an address -/
def Part (w : World) (A : Option Addr) (m k : Nat) (cs : List Value) : Prop := cs.length = m ∧ ∃ ad, A = some ad ∧ ∀ i u, cs[i]? = some u → w.cell? (ad.add (k * m + i)) = some u
theorem Part.below {w w' : World} {A : Option Addr} {m k : Nat} {cs : List Value} (h : Part w A m k cs) (hb : Below w.heap.size w w') : Part w' A m k cs := by
  obtain ⟨h1, ad, h2, h3⟩ := h
  exact ⟨h1, ad, h2, fun i u hi => (hb.cell (World.block_lt_of_cell? w _ (h3 i u hi))).trans (h3 i u hi)⟩

/-- what a node's own cells say, in a world -/
structure Head (α : Type) where
  says : World → α → List Value → Prop
  kept : ∀ {w w' a cs}, says w a cs → Below w.heap.size w w' → says w' a cs

/-- the cells read as the tree: m cells a node, the last one the slice of the nodes below -/
inductive Reads (H : Head α) (m : Nat) (w : World) : Tr α → List Value → Prop where
  | node (a : α) (ks : List (Tr α)) (hs : List Value) (A : Option Addr) (c : Nat) (cs : Nat → List Value) (h1 : H.says w a hs) (h2 : hs.length + 1 = m) (h3 : ks.length ≤ 9223372036854775807)
      (h4 : ∀ j, j < ks.length → Part w A m j (cs j)) (h5 : ∀ j t, ks[j]? = some t → Reads H m w t (cs j)) (h6 : ks.length ≤ c) : Reads H m w (.node a ks) (hs ++ [.slice A ks.length c])

theorem Reads.keep {H : Head α} {m : Nat} {w w' : World} {t : Tr α} {cs : List Value} (h : Reads H m w t cs) (hb : Below w.heap.size w w') : Reads H m w' t cs := by
  induction h with
  | node a ks hs A c cs h1 h2 h3 h4 _ h6 ih => exact .node a ks hs A c cs (H.kept h1 hb) h2 h3 (fun j hj => (h4 j hj).below hb) ih h6
theorem Reads.len {H : Head α} {m : Nat} {w : World} {t : Tr α} {cs : List Value} (h : Reads H m w t cs) : cs.length = m := by
  cases h with
  | node a ks hs A c cs h1 h2 => simpa using h2

/-- a sum over the tree -/
def Tr.sum (f : α → Nat) : Tr α → Nat
  | .node a ks => f a + (ks.attach.map fun ⟨t, _⟩ => t.sum f).sum
theorem Tr.sum_node (f : α → Nat) (a : α) (ks : List (Tr α)) : (Tr.node a ks).sum f = f a + (ks.map (Tr.sum f)).sum := by
  rw [Tr.sum]
  congr 2
  exact List.attach_map_val (l := ks) (f := Tr.sum f) ▸ rfl
end
end Go.Proofs.Ytlikmgkjilmjpaa

/-
  Types as trees: a kind, labels, and the types of the parts; how they lie in memory.
-/
namespace Go.Proofs.Ytlikmgkjilmjpaa
open Go.RowKit

structure TyA where
  kind : Int
  labels : List ByteArray
abbrev Ty := Tr TyA
def tyHead : Head TyA where
  says w a cs := ∃ L c, cs = [.int .i64 a.kind, .slice L a.labels.length c] ∧ Sl w L (a.labels.map Value.string) ∧ -9223372036854775808 ≤ a.kind ∧ a.kind ≤ 9223372036854775807 ∧ a.labels.length ≤ 9223372036854775807 ∧ ∀ x ∈ a.labels, x.size ≤ 9223372036854775807
  kept := by
    rintro w w' a cs ⟨L, c, h1, h2, h3⟩ hb
    exact ⟨L, c, h1, h2.below hb, h3⟩
/-- three cells that read as a type -/
def RTy (w : World) (t : Ty) (cs : List Value) : Prop := Reads tyHead 3 w t cs
theorem RTy.keep {w w' : World} {t : Ty} {cs : List Value} (h : RTy w t cs) (hb : Below w.heap.size w w') : RTy w' t cs := Reads.keep h hb
/-- the slice with the address A reads as a list of types -/
def RKids (w : World) (A : Option Addr) (ks : List Ty) : Prop := ∃ ps : Nat → List Value, ∀ j t, ks[j]? = some t → RTy w t (ps j) ∧ ∃ ad, A = some ad ∧ ∀ i u, (ps j)[i]? = some u → w.cell? (ad.add (j * 3 + i)) = some u
theorem RKids.keep {w w' : World} {A : Option Addr} {ks : List Ty} (h : RKids w A ks) (hb : Below w.heap.size w w') : RKids w' A ks := by
  obtain ⟨ps, hp⟩ := h
  refine ⟨ps, fun j t hj => ?_⟩
  obtain ⟨h1, ad, h2, h3⟩ := hp j t hj
  exact ⟨h1.keep hb, ad, h2, fun i u hi => (hb.cell (World.block_lt_of_cell? w _ (h3 i u hi))).trans (h3 i u hi)⟩
/-- the three cells written out -/
theorem RTy.out {w : World} {a : TyA} {ks : List Ty} {cs : List Value} (h : RTy w (.node a ks) cs) : ∃ L c A d, cs = [.int .i64 a.kind, .slice L a.labels.length c, .slice A ks.length d] ∧
    Sl w L (a.labels.map Value.string) ∧ -9223372036854775808 ≤ a.kind ∧ a.kind ≤ 9223372036854775807 ∧ a.labels.length ≤ 9223372036854775807 ∧ (∀ x ∈ a.labels, x.size ≤ 9223372036854775807) ∧ ks.length ≤ 9223372036854775807 ∧ RKids w A ks := by
  cases h with
  | node a ks hs A d ps h1 h2 h3 h4 h5 _ =>
    obtain ⟨L, c, rfl, k1, k2, k3, k4, k5⟩ := h1
    refine ⟨L, c, A, d, rfl, k1, k2, k3, k4, k5, h3, ps, fun j t hj => ⟨h5 j t hj, ?_⟩⟩
    exact (h4 j (List.getElem?_eq_some_iff.1 hj).1).2
/-- the slice of the parts is no longer than there is room -/
theorem RTy.cap {w : World} {t : Ty} {c0 c1 : Value} {A : Option Addr} {n d : Nat} (h : RTy w t [c0, c1, .slice A n d]) : t.kids.length = n ∧ t.kids.length ≤ d := by
  obtain ⟨cs, hcs⟩ : ∃ cs, [c0, c1, Value.slice A n d] = cs := ⟨_, rfl⟩
  rw [hcs] at h
  cases h with
  | node a ks hs A' d' ps h1 h2 h3 h4 h5 h6 =>
    obtain ⟨L, c, rfl, _⟩ := h1
    simp only [List.cons_append, List.nil_append, List.cons.injEq, Value.slice.injEq, and_true] at hcs
    obtain ⟨_, _, _, e1, e2⟩ := hcs
    exact ⟨e1.symm, by rw [e2]; exact h6⟩
/-- how many nodes -/
def Tr.size {α : Type} (t : Tr α) : Nat := t.sum fun _ => 1
theorem size_node (a : TyA) (ks : List Ty) : (Tr.node a ks).size = 1 + (ks.map Tr.size).sum := Tr.sum_node _ a ks

theorem sum_take_succ {β : Type} (f : β → Nat) (xs : List β) (k : Nat) (h : k < xs.length) : ((xs.take (k + 1)).map f).sum = ((xs.take k).map f).sum + f xs[k] := by
  rw [List.take_succ_eq_append_getElem h, List.map_append, List.sum_append]
  simp
theorem sum_take_le {β : Type} (f : β → Nat) (xs : List β) (k : Nat) : ((xs.take k).map f).sum ≤ (xs.map f).sum := by
  have h : (xs.map f).sum = ((xs.take k).map f).sum + ((xs.drop k).map f).sum := by
    rw [← List.sum_append, ← List.map_append, List.take_append_drop]
  omega

theorem addr_next (ad : Addr) (n i : Nat) (hi : 0 < i) : ad.add (n + i) = ⟨(ad.add n).block, (ad.add n).off + i, none⟩ := by
  unfold Addr.add
  rw [if_neg (by omega)]
  by_cases hn : n = 0
  · subst hn; simp
  · rw [if_neg hn]
    simp [Nat.add_assoc]
/-- the k-th node below, in a later world: its cells as the walk asks for them -/
theorem kid_at {w wr : World} {A : Option Addr} {ks : List Ty} (hp : RKids w A ks) (hb : Below w.heap.size w wr) {k : Nat} (hk : k < ks.length) : ∃ (ad p : Addr) (c0 c1 c2 : Value), A = some ad ∧ ad.add (k * 3) = p ∧ RTy wr ks[k] [c0, c1, c2] ∧ wr.cell? p = some c0 ∧ wr.cell? ⟨p.block, p.off + 1, none⟩ = some c1 ∧ wr.cell? ⟨p.block, p.off + 2, none⟩ = some c2 := by
  obtain ⟨ps, hp⟩ := hp
  obtain ⟨hr, ad, hA, hc⟩ := hp k ks[k] (List.getElem?_eq_getElem hk)
  have hl : (ps k).length = 3 := Reads.len hr
  have hcell : ∀ i u, (ps k)[i]? = some u → wr.cell? (ad.add (k * 3 + i)) = some u := fun i u hi => (hb.cell (World.block_lt_of_cell? w _ (hc i u hi))).trans (hc i u hi)
  obtain ⟨c0, c1, c2, he⟩ : ∃ c0 c1 c2, ps k = [c0, c1, c2] := by
    match ps k, hl with
    | [a, b, c], _ => exact ⟨a, b, c, rfl⟩
  rw [he] at hcell hr
  refine ⟨ad, _, c0, c1, c2, hA, rfl, hr.keep hb, hcell 0 _ rfl, ?_, ?_⟩
  · rw [← addr_next ad (k * 3) 1 (by omega)]; exact hcell 1 _ rfl
  · rw [← addr_next ad (k * 3) 2 (by omega)]; exact hcell 2 _ rfl
end Go.Proofs.Ytlikmgkjilmjpaa

/-
  The model's SizeOfType.
-/
namespace Go.Proofs.Ytlikmgkjilmjpaa
open Go.RowKit

/-- an answer that is a number; all that was there is as it was -/
def Counts (n : Int) (w : World) (e : Ending) (w' : World) : Prop := e = .returned (.int .i64 n) ∧ Below w.heap.size w w'

end Go.Proofs.Ytlikmgkjilmjpaa
