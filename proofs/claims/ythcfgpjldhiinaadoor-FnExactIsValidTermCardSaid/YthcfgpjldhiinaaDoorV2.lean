/-
  Merged by program: Te.
-/
import Derived.Test.YthcfgpjldhiinaaDoorV1
import Derived.Test.YthcfgpjldhiinaaDoorProg

/-
  Terms as trees: a kind, a name, a number, a type, labels, and the parts; how they lie in memory.
-/
namespace Go.Proofs.YthcfgpjldhiinaaDoor
open Go.RowKit

structure TeA where
  kind : Int
  name : ByteArray
  num : Int
  type : Ty
  labels : List ByteArray
abbrev Te := Tr TeA
/-- what a term's own cells are bound by -/
def TeA.ok (a : TeA) : Prop := -9223372036854775808 ≤ a.kind ∧ a.kind ≤ 9223372036854775807 ∧ a.name.size ≤ 9223372036854775807 ∧ -9223372036854775808 ≤ a.num ∧ a.num ≤ 9223372036854775807 ∧ a.labels.length ≤ 9223372036854775807 ∧ ∀ x ∈ a.labels, x.size ≤ 9223372036854775807
/-- eight cells that read as a term -/
inductive RTe (w : World) : Te → List Value → Prop where
  | node (a : TeA) (ks : List Te) (TL TA L A : Option Addr) (tc td c d : Nat) (ps : Nat → List Value)
      (h0 : RTy w a.type [.int .i64 a.type.top.kind, .slice TL a.type.top.labels.length tc, .slice TA a.type.kids.length td]) (h1 : Sl w L (a.labels.map Value.string)) (h2 : a.ok) (h3 : ks.length ≤ 9223372036854775807) (h4 : ks.length ≤ d)
      (h5 : ∀ j t, ks[j]? = some t → RTe w t (ps j)) (h6 : ∀ j t, ks[j]? = some t → ∃ ad, A = some ad ∧ ∀ i u, (ps j)[i]? = some u → w.cell? (ad.add (j * 8 + i)) = some u) :
      RTe w (.node a ks) [.int .i64 a.kind, .string a.name, .int .i64 a.num, .int .i64 a.type.top.kind, .slice TL a.type.top.labels.length tc, .slice TA a.type.kids.length td, .slice L a.labels.length c, .slice A ks.length d]
theorem RTe.keep {w w' : World} {t : Te} {cs : List Value} (h : RTe w t cs) (hb : Below w.heap.size w w') : RTe w' t cs := by
  induction h with
  | node a ks TL TA L A tc td c d ps h0 h1 h2 h3 h4 _ h6 ih =>
    refine .node a ks TL TA L A tc td c d ps (h0.keep hb) (h1.below hb) h2 h3 h4 ih fun j t hj => ?_
    obtain ⟨ad, e, hc⟩ := h6 j t hj
    exact ⟨ad, e, fun i u hi => (hb.cell (World.block_lt_of_cell? w _ (hc i u hi))).trans (hc i u hi)⟩
theorem RTe.len {w : World} {t : Te} {cs : List Value} (h : RTe w t cs) : cs.length = 8 := by cases h; rfl
/-- the slice with the address A reads as a list of terms -/
def RTes (w : World) (A : Option Addr) (ks : List Te) : Prop := ∃ ps : Nat → List Value, ∀ j t, ks[j]? = some t → RTe w t (ps j) ∧ ∃ ad, A = some ad ∧ ∀ i u, (ps j)[i]? = some u → w.cell? (ad.add (j * 8 + i)) = some u
theorem RTes.keep {w w' : World} {A : Option Addr} {ks : List Te} (h : RTes w A ks) (hb : Below w.heap.size w w') : RTes w' A ks := by
  obtain ⟨ps, hp⟩ := h
  refine ⟨ps, fun j t hj => ?_⟩
  obtain ⟨h1, ad, h2, h3⟩ := hp j t hj
  exact ⟨h1.keep hb, ad, h2, fun i u hi => (hb.cell (World.block_lt_of_cell? w _ (h3 i u hi))).trans (h3 i u hi)⟩
/-- the eight cells written out -/
theorem RTe.out {w : World} {a : TeA} {ks : List Te} {cs : List Value} (h : RTe w (.node a ks) cs) : ∃ TL tc TA td L c A d, cs = [.int .i64 a.kind, .string a.name, .int .i64 a.num, .int .i64 a.type.top.kind, .slice TL a.type.top.labels.length tc, .slice TA a.type.kids.length td, .slice L a.labels.length c, .slice A ks.length d] ∧
    RTy w a.type [.int .i64 a.type.top.kind, .slice TL a.type.top.labels.length tc, .slice TA a.type.kids.length td] ∧ Sl w L (a.labels.map Value.string) ∧ a.ok ∧ ks.length ≤ 9223372036854775807 ∧ ks.length ≤ d ∧ RTes w A ks := by
  cases h with
  | node a ks TL TA L A tc td c d ps h0 h1 h2 h3 h4 h5 h6 => exact ⟨TL, tc, TA, td, L, c, A, d, rfl, h0, h1, h2, h3, h4, ps, fun j t hj => ⟨h5 j t hj, h6 j t hj⟩⟩
/-- the same, of any tree -/
theorem RTe.open {w : World} {t : Te} {cs : List Value} (h : RTe w t cs) : ∃ TL tc TA td L c A d, cs = [.int .i64 t.top.kind, .string t.top.name, .int .i64 t.top.num, .int .i64 t.top.type.top.kind, .slice TL t.top.type.top.labels.length tc, .slice TA t.top.type.kids.length td, .slice L t.top.labels.length c, .slice A t.kids.length d] ∧
    RTy w t.top.type [.int .i64 t.top.type.top.kind, .slice TL t.top.type.top.labels.length tc, .slice TA t.top.type.kids.length td] ∧ Sl w L (t.top.labels.map Value.string) ∧ t.top.ok ∧ t.kids.length ≤ 9223372036854775807 ∧ t.kids.length ≤ d ∧ RTes w A t.kids := by
  cases t with
  | node a ks => exact h.out
theorem RTe.eight {w : World} {t : Te} {cs : List Value} (h : RTe w t cs) : ∃ c0 c1 c2 c3 c4 c5 c6 c7, cs = [c0, c1, c2, c3, c4, c5, c6, c7] := by
  obtain ⟨_, _, _, _, _, _, _, _, rfl, _⟩ := h.open
  exact ⟨_, _, _, _, _, _, _, _, rfl⟩
/-- in the form that a store asks for -/
theorem RTe.shape {w : World} {t : Te} {c0 c1 c2 c3 c4 c5 c6 c7 : Value} (h : RTe w t [c0, c1, c2, c3, c4, c5, c6, c7]) : ∃ k s n tk TL tl tc TA ta td L l c A m d, c0 = .int .i64 k ∧ c1 = .string s ∧ c2 = .int .i64 n ∧ c3 = .int .i64 tk ∧ c4 = .slice TL tl tc ∧ c5 = .slice TA ta td ∧ c6 = .slice L l c ∧ c7 = .slice A m d := by
  obtain ⟨TL, tc, TA, td, L, c, A, d, e, _⟩ := h.open
  simp only [List.cons.injEq, and_true] at e
  exact ⟨_, _, _, _, _, _, _, _, _, _, _, _, _, _, _, _, e.1, e.2.1, e.2.2.1, e.2.2.2.1, e.2.2.2.2.1, e.2.2.2.2.2.1, e.2.2.2.2.2.2.1, e.2.2.2.2.2.2.2⟩
/-- .. and put together -/
theorem RTe.make {w : World} {a : TeA} {ks : List Te} {TL TA L A : Option Addr} {tc td c d : Nat} (h0 : RTy w a.type [.int .i64 a.type.top.kind, .slice TL a.type.top.labels.length tc, .slice TA a.type.kids.length td]) (h1 : Sl w L (a.labels.map Value.string)) (h2 : a.ok) (h3 : ks.length ≤ 9223372036854775807) (h4 : ks.length ≤ d) (h5 : RTes w A ks) :
    RTe w (.node a ks) [.int .i64 a.kind, .string a.name, .int .i64 a.num, .int .i64 a.type.top.kind, .slice TL a.type.top.labels.length tc, .slice TA a.type.kids.length td, .slice L a.labels.length c, .slice A ks.length d] := by
  obtain ⟨ps, hp⟩ := h5
  exact .node a ks TL TA L A tc td c d ps h0 h1 h2 h3 h4 (fun j t hj => (hp j t hj).1) (fun j t hj => (hp j t hj).2)
theorem size_nodeE (a : TeA) (ks : List Te) : (Tr.node a ks).size = 1 + (ks.map Tr.size).sum := Tr.sum_node _ a ks

/-- the k-th term below, in a later world: its cells as the walk asks for them -/
theorem tid_at {w wr : World} {A : Option Addr} {ks : List Te} (hp : RTes w A ks) (hb : Below w.heap.size w wr) {k : Nat} (hk : k < ks.length) : ∃ (ad p : Addr) (c0 c1 c2 c3 c4 c5 c6 c7 : Value), A = some ad ∧ ad.add (k * 8) = p ∧ RTe wr ks[k] [c0, c1, c2, c3, c4, c5, c6, c7] ∧ wr.cell? p = some c0 ∧ wr.cell? ⟨p.block, p.off + 1, none⟩ = some c1 ∧ wr.cell? ⟨p.block, p.off + 2, none⟩ = some c2 ∧ wr.cell? ⟨p.block, p.off + 3, none⟩ = some c3 ∧
    wr.cell? ⟨p.block, p.off + 4, none⟩ = some c4 ∧ wr.cell? ⟨p.block, p.off + 5, none⟩ = some c5 ∧ wr.cell? ⟨p.block, p.off + 6, none⟩ = some c6 ∧ wr.cell? ⟨p.block, p.off + 7, none⟩ = some c7 := by
  obtain ⟨ps, hp⟩ := hp
  obtain ⟨hr, ad, hA, hc⟩ := hp k ks[k] (List.getElem?_eq_getElem hk)
  have hcell : ∀ i u, (ps k)[i]? = some u → wr.cell? (ad.add (k * 8 + i)) = some u := fun i u hi => (hb.cell (World.block_lt_of_cell? w _ (hc i u hi))).trans (hc i u hi)
  obtain ⟨c0, c1, c2, c3, c4, c5, c6, c7, he⟩ := hr.eight
  rw [he] at hcell hr
  refine ⟨ad, _, c0, c1, c2, c3, c4, c5, c6, c7, hA, rfl, hr.keep hb, hcell 0 _ rfl, ?_, ?_, ?_, ?_, ?_, ?_, ?_⟩
  · rw [← addr_next ad (k * 8) 1 (by omega)]; exact hcell 1 _ rfl
  · rw [← addr_next ad (k * 8) 2 (by omega)]; exact hcell 2 _ rfl
  · rw [← addr_next ad (k * 8) 3 (by omega)]; exact hcell 3 _ rfl
  · rw [← addr_next ad (k * 8) 4 (by omega)]; exact hcell 4 _ rfl
  · rw [← addr_next ad (k * 8) 5 (by omega)]; exact hcell 5 _ rfl
  · rw [← addr_next ad (k * 8) 6 (by omega)]; exact hcell 6 _ rfl
  · rw [← addr_next ad (k * 8) 7 (by omega)]; exact hcell 7 _ rfl
end Go.Proofs.YthcfgpjldhiinaaDoor
