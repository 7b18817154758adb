/-
  Values as trees: a kind, a number, labels, and the parts; how they lie in memory.
-/
import Derived.Test.YtpcegakpdjmaaaaTy
import Derived.Test.YtpcegakpdjmaaaaProg
namespace Go.Proofs.Ytpcegakpdjmaaaa
open Go.RowKit

structure VaA where
  kind : Int
  num : Int
  labels : List ByteArray
abbrev Va := Tr VaA
def vaHead : Head VaA where
  says w a cs := ∃ L c, cs = [.int .i64 a.kind, .int .i64 a.num, .slice L a.labels.length c] ∧ Sl w L (a.labels.map Value.string) ∧ -9223372036854775808 ≤ a.kind ∧ a.kind ≤ 9223372036854775807 ∧ -9223372036854775808 ≤ a.num ∧ a.num ≤ 9223372036854775807 ∧ a.labels.length ≤ 9223372036854775807 ∧ ∀ x ∈ a.labels, x.size ≤ 9223372036854775807
  kept := by
    rintro w w' a cs ⟨L, c, h1, h2, h3⟩ hb
    exact ⟨L, c, h1, h2.below hb, h3⟩
/-- four cells that read as a value -/
def RVa (w : World) (t : Va) (cs : List Value) : Prop := Reads vaHead 4 w t cs
theorem RVa.keep {w w' : World} {t : Va} {cs : List Value} (h : RVa w t cs) (hb : Below w.heap.size w w') : RVa w' t cs := Reads.keep h hb
/-- the slice with the address A reads as a list of values -/
def RVas (w : World) (A : Option Addr) (ks : List Va) : Prop := ∃ ps : Nat → List Value, ∀ j t, ks[j]? = some t → RVa w t (ps j) ∧ ∃ ad, A = some ad ∧ ∀ i u, (ps j)[i]? = some u → w.cell? (ad.add (j * 4 + i)) = some u
theorem RVas.keep {w w' : World} {A : Option Addr} {ks : List Va} (h : RVas w A ks) (hb : Below w.heap.size w w') : RVas w' A ks := by
  obtain ⟨ps, hp⟩ := h
  refine ⟨ps, fun j t hj => ?_⟩
  obtain ⟨h1, ad, h2, h3⟩ := hp j t hj
  exact ⟨h1.keep hb, ad, h2, fun i u hi => (hb.cell (World.block_lt_of_cell? w _ (h3 i u hi))).trans (h3 i u hi)⟩
/-- what a value's own cells are bound by -/
def VaA.ok (a : VaA) : Prop := -9223372036854775808 ≤ a.kind ∧ a.kind ≤ 9223372036854775807 ∧ -9223372036854775808 ≤ a.num ∧ a.num ≤ 9223372036854775807 ∧ a.labels.length ≤ 9223372036854775807 ∧ ∀ x ∈ a.labels, x.size ≤ 9223372036854775807
/-- the four cells written out -/
theorem RVa.out {w : World} {a : VaA} {ks : List Va} {cs : List Value} (h : RVa w (.node a ks) cs) : ∃ L c A d, cs = [.int .i64 a.kind, .int .i64 a.num, .slice L a.labels.length c, .slice A ks.length d] ∧
    Sl w L (a.labels.map Value.string) ∧ a.ok ∧ ks.length ≤ 9223372036854775807 ∧ RVas w A ks := by
  cases h with
  | node a ks hs A d ps h1 h2 h3 h4 h5 =>
    obtain ⟨L, c, rfl, k1, k2⟩ := h1
    exact ⟨L, c, A, d, rfl, k1, k2, h3, ps, fun j t hj => ⟨h5 j t hj, (h4 j (List.getElem?_eq_some_iff.1 hj).1).2⟩⟩
/-- the same, of any tree -/
theorem RVa.open {w : World} {t : Va} {cs : List Value} (h : RVa w t cs) : ∃ L c A d, cs = [.int .i64 t.top.kind, .int .i64 t.top.num, .slice L t.top.labels.length c, .slice A t.kids.length d] ∧
    Sl w L (t.top.labels.map Value.string) ∧ t.top.ok ∧ t.kids.length ≤ 9223372036854775807 ∧ RVas w A t.kids := by
  cases t with
  | node a ks => exact h.out
theorem RVa.four {w : World} {t : Va} {cs : List Value} (h : RVa w t cs) : ∃ c0 c1 c2 c3, cs = [c0, c1, c2, c3] := by
  obtain ⟨L, c, A, d, rfl, _⟩ := h.open
  exact ⟨_, _, _, _, rfl⟩
/-- .. and put together -/
theorem RVa.make {w : World} {a : VaA} {ks : List Va} {L A : Option Addr} {c d : Nat} (h1 : Sl w L (a.labels.map Value.string)) (h2 : a.ok) (h3 : ks.length ≤ 9223372036854775807) (h4 : RVas w A ks) :
    RVa w (.node a ks) [.int .i64 a.kind, .int .i64 a.num, .slice L a.labels.length c, .slice A ks.length d] := by
  obtain ⟨ps, hp⟩ := h4
  have he : ∀ j t, ks[j]? = some t → (ps j).length = 4 := fun j t hj => Reads.len (hp j t hj).1
  refine Reads.node a ks [.int .i64 a.kind, .int .i64 a.num, .slice L a.labels.length c] A d ps ⟨L, c, rfl, h1, h2⟩ rfl h3 (fun j hj => ?_) (fun j t hj => (hp j t hj).1)
  have hj' := List.getElem?_eq_getElem hj
  exact ⟨he j _ hj', (hp j _ hj').2⟩
theorem size_nodeV (a : VaA) (ks : List Va) : (Tr.node a ks).size = 1 + (ks.map Tr.size).sum := Tr.sum_node _ a ks
theorem size_ge {α : Type} (t : Tr α) : 1 ≤ t.size := by
  cases t with
  | node a ks => unfold Tr.size; rw [Tr.sum_node]; omega

/-- the k-th value below, in a later world: its cells as the walk asks for them -/
theorem vid_at {w wr : World} {A : Option Addr} {ks : List Va} (hp : RVas w A ks) (hb : Below w.heap.size w wr) {k : Nat} (hk : k < ks.length) : ∃ (ad p : Addr) (c0 c1 c2 c3 : Value), A = some ad ∧ ad.add (k * 4) = p ∧ RVa wr ks[k] [c0, c1, c2, c3] ∧ wr.cell? p = some c0 ∧ wr.cell? ⟨p.block, p.off + 1, none⟩ = some c1 ∧ wr.cell? ⟨p.block, p.off + 2, none⟩ = some c2 ∧ wr.cell? ⟨p.block, p.off + 3, none⟩ = some c3 := by
  obtain ⟨ps, hp⟩ := hp
  obtain ⟨hr, ad, hA, hc⟩ := hp k ks[k] (List.getElem?_eq_getElem hk)
  have hl : (ps k).length = 4 := Reads.len hr
  have hcell : ∀ i u, (ps k)[i]? = some u → wr.cell? (ad.add (k * 4 + i)) = some u := fun i u hi => (hb.cell (World.block_lt_of_cell? w _ (hc i u hi))).trans (hc i u hi)
  obtain ⟨c0, c1, c2, c3, he⟩ : ∃ c0 c1 c2 c3, ps k = [c0, c1, c2, c3] := by
    match ps k, hl with
    | [a, b, c, d], _ => exact ⟨a, b, c, d, rfl⟩
  rw [he] at hcell hr
  refine ⟨ad, _, c0, c1, c2, c3, hA, rfl, hr.keep hb, hcell 0 _ rfl, ?_, ?_, ?_⟩
  · rw [← addr_next ad (k * 4) 1 (by omega)]; exact hcell 1 _ rfl
  · rw [← addr_next ad (k * 4) 2 (by omega)]; exact hcell 2 _ rfl
  · rw [← addr_next ad (k * 4) 3 (by omega)]; exact hcell 3 _ rfl
end Go.Proofs.Ytpcegakpdjmaaaa
