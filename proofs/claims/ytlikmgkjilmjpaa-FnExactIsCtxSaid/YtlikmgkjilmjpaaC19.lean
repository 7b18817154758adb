/-
  Merged by program: Kd2, Box2, VaOwn.
-/
import Derived.Test.YtlikmgkjilmjpaaC10
import Derived.Test.YtlikmgkjilmjpaaC18
import Derived.Test.YtlikmgkjilmjpaaC1
import Derived.Laws.Rows
import Derived.Test.YtlikmgkjilmjpaaC12
import Derived.Test.YtlikmgkjilmjpaaC11
import Derived.Test.YtlikmgkjilmjpaaC6

/-
  Lists of structs of 2 cells: the k-th one, and its store. Hangs on no program. Written by genat.py.
-/
namespace Go.Proofs.Ytlikmgkjilmjpaa
open Go.RowKit

theorem rl_at2 {α : Type} {a : Kd α} (hn : a.n = 2) {w wr : World} {A : Option Addr} {xs : List α} (hp : RL a w A xs) (hb : Below w.heap.size w wr) {k : Nat} (hk : k < xs.length) : ∃ (ad p : Addr) (c0 c1 : Value), A = some ad ∧ ad.add (k * 2) = p ∧ a.R wr xs[k] [c0, c1] ∧ wr.cell? p = some c0 ∧ wr.cell? ⟨p.block, p.off + 1, none⟩ = some c1 := by
  obtain ⟨ps, hp⟩ := hp
  obtain ⟨hr, ad, hA, hc⟩ := hp k xs[k] (List.getElem?_eq_getElem hk)
  have hl : (ps k).length = 2 := by rw [a.len hr, hn]
  rw [hn] at hc
  have hcell : ∀ i u, (ps k)[i]? = some u → wr.cell? (ad.add (k * 2 + i)) = some u := fun i u hi => (hb.cell (World.block_lt_of_cell? w _ (hc i u hi))).trans (hc i u hi)
  obtain ⟨c0, c1, he⟩ : ∃ c0 c1, ps k = [c0, c1] := by
    match ps k, hl with
    | [x0, x1], _ => exact ⟨x0, x1, rfl⟩
  rw [he] at hcell hr
  refine ⟨ad, _, c0, c1, hA, rfl, a.keep hr hb, hcell 0 _ rfl, ?_⟩
  · rw [← addr_next ad (k * 2) 1 (by omega)]; exact hcell 1 _ rfl
/-- the cells of the place k are stored -/
theorem tolinv_store2 {α : Type} {a : Kd α} (hn : a.n = 2) {e : TypeId} {xs : List α} {w wr w2 : World} {k : Nat} {cells : List Value} {fs : Nat → List Nat} {fp : List Nat} {r0 r1 : Value} {i : Value} (hk : k < xs.length) (hi : i = .int .i64 ((k + 1 : Nat) : Int))
    (hown : wr.ownsRow w.heap.size e a.n (.slice (some ⟨w.heap.size, 0, none⟩) xs.length xs.length) xs.length cells) (hkid : ∀ (j : Nat) (x : α), j < k → xs[j]? = some x → a.O wr x (partK a.n cells j) (fs j)) (hnd : ((List.range k).flatMap fs).Nodup)
    (hbd : ∀ j, j < k → ∀ b ∈ fs j, w.heap.size < b ∧ b < wr.heap.size) (hb : Below w.heap.size w wr) (hb2 : Below wr.heap.size wr w2) (hot : a.O w2 xs[k] [r0, r1] fp) (hfp : ∀ b ∈ fp, wr.heap.size ≤ b ∧ b < w2.heap.size) :
    ToLInv a e xs w i (store2 w2 w.heap.size k r0 r1) := by
  have hxl : cells.length = xs.length * 2 := by rw [← hn]; exact hown.1
  have ho2 : w2.ownsRow w.heap.size e a.n (.slice (some ⟨w.heap.size, 0, none⟩) xs.length xs.length) xs.length cells :=
    hown.kept (row := none) ⟨hb2.os, hb2.tape, hb2.output, hb2.size, fun i hi _ => hb2.block i hi⟩ (.inr (by simp [Value.ownBlock]))
  rw [hn] at ho2
  obtain ⟨h3, hg3⟩ := own_store2 ho2 k r0 r1
  rw [← hn] at h3
  refine tolinv_more hk hi hown hkid hnd hbd hb hb2 hot hfp h3 hg3 ?_ fun j hj => ?_
  · rw [hn]; exact put2_at cells k r0 r1 (by omega)
  · rw [hn]; exact put2_other cells k j r0 r1 hj
end Go.Proofs.Ytlikmgkjilmjpaa

/-
  A block of 2 cells that is known whole. Hangs on no program. Written by genbox.py.
-/
namespace Go.Proofs.Ytlikmgkjilmjpaa
open Go.RowKit

def Box2 (w : World) (g : Nat) (t : TypeId) (a0 a1 : Value) : Prop := w.heap[g]? = some (.cells #[a0, a1] t (0, 0))
section
variable {w w' : World} {g : Nat} {t : TypeId} {a0 a1 : Value}
theorem Box2.new (w : World) (t : TypeId) (a0 a1 : Value) : Box2 (w.alloc (.cells #[a0, a1] t)) w.heap.size t a0 a1 := heap_alloc_new w _
theorem Box2.lt (h : Box2 w g t a0 a1) : g < w.heap.size := (Array.getElem?_eq_some_iff.1 h).1
theorem Box2.c0 (h : Box2 w g t a0 a1) : w.cell? ⟨g, 0, none⟩ = some a0 := cell_of_row w g 0 _ t (0, 0) h
theorem Box2.c1 (h : Box2 w g t a0 a1) : w.cell? ⟨g, 1, none⟩ = some a1 := cell_of_row w g 1 _ t (0, 0) h
theorem Box2.free (h : Box2 w g t a0 a1) (i : Nat) : w.frozen? ⟨g, i, none⟩ = false := frozen_of_row w g i _ t h
theorem Box2.under (h : Box2 w g t a0 a1) {B : Nat} (hb : Below B w w') (hg : g < B) : Box2 w' g t a0 a1 := (hb.block g hg).trans h
theorem Box2.alloc (h : Box2 w g t a0 a1) (o : Obj) : Box2 (w.alloc o) g t a0 a1 := ((((Below.refl _ _).alloc (Nat.le_refl _) o : Below w.heap.size w (w.alloc o))).block g h.lt).trans h
theorem Box2.far (h : Box2 w g t a0 a1) {p : Addr} (hp : g ≠ p.block) (u : Value) : Box2 (w.setCell p u) g t a0 a1 := (Below.heap_setCell w p u g hp).trans h
theorem Box2.set0 (h : Box2 w g t a0 a1) (u : Value) : Box2 (w.setCell ⟨g, 0, none⟩ u) g t u a1 := heap_setCell_same w g 0 _ t u h
theorem Box2.set1 (h : Box2 w g t a0 a1) (u : Value) : Box2 (w.setCell ⟨g, 1, none⟩ u) g t a0 u := heap_setCell_same w g 1 _ t u h
theorem Box2.grown {row : Option Nat} (h : Box2 w g t a0 a1) (hg : w.grownBy w' row) (hne : some g ≠ row) : Box2 w' g t a0 a1 := (hg.block g h.lt hne).trans h
end
end Go.Proofs.Ytlikmgkjilmjpaa

/-
  A value in memory of the call's own: its rows, one block each, no two alike.
-/
namespace Go.Proofs.Ytlikmgkjilmjpaa
open Go.RowKit

/-- the four cells are a value of the call's own; its blocks -/
inductive OVa (w : World) : Va → List Value → List Nat → Prop where
  | node (a : VaA) (ks : List Va) (L A : Option Addr) (c d : Nat) (xs : List Value) (fs : Nat → List Nat) (h0 : a.ok) (h1 : w.ownsRow 0 9 1 (.slice L a.labels.length c) a.labels.length (a.labels.map Value.string)) (h2 : ks.length ≤ 9223372036854775807)
      (h3 : w.ownsRow 0 30 4 (.slice A ks.length d) ks.length xs) (h4 : ∀ j t, ks[j]? = some t → OVa w t (part4 xs j) (fs j)) (h5 : (blk L ++ blk A ++ (List.range ks.length).flatMap fs).Nodup) :
      OVa w (.node a ks) [.int .i64 a.kind, .int .i64 a.num, .slice L a.labels.length c, .slice A ks.length d] (blk L ++ blk A ++ (List.range ks.length).flatMap fs)

theorem OVa.reads {w : World} {t : Va} {cs : List Value} {fp : List Nat} (h : OVa w t cs fp) : RVa w t cs := by
  induction h with
  | node a ks L A c d xs fs h0 h1 h2 h3 _ _ ih =>
    have hx : xs.length = ks.length * 4 := h3.1
    refine .node a ks L A c d (part4 xs) (Sl.of_own h1) h0 h2 ?_ (fun j t hj => ih j t hj) (fun j t hj => ?_)
    · rcases h3.2 with ⟨_, h0⟩ | ⟨g, cap, cur, hv, _, _, hc, _⟩
      · omega
      · injection hv with _ _ e3
        omega
    have hj := (List.getElem?_eq_some_iff.1 hj).1
    rcases h3.2 with ⟨_, h0⟩ | ⟨g, cap, cur, hv, _⟩
    · omega
    · injection hv with e1 _ _
      subst e1
      refine ⟨_, rfl, fun i u hi => ?_⟩
      have hi3 : i < 4 := by
        have := (List.getElem?_eq_some_iff.1 hi).1
        rw [part4_len _ _ (by omega)] at this
        exact this
      rw [part4_get _ _ _ hi3] at hi
      exact h3.cells (g := g) rfl _ u hi
theorem OVa.keep {w w' : World} {t : Va} {cs : List Value} {fp : List Nat} {row : Option Nat} (h : OVa w t cs fp) (hg : w.grownBy w' row) (hne : ∀ b ∈ fp, some b ≠ row) : OVa w' t cs fp := by
  induction h with
  | node a ks L A c d xs fs h0 h1 h2 h3 h4 h5 ih =>
    refine .node a ks L A c d xs fs h0 (own_keep h1 hg (fun b hb => hne b (by simp [hb]))) h2 (own_keep h3 hg (fun b hb => hne b (by simp [hb]))) (fun j t hj => ih j t hj (fun b hb => hne b ?_)) h5
    rw [List.mem_append, List.mem_flatMap]
    exact .inr ⟨j, List.mem_range.2 (List.getElem?_eq_some_iff.1 hj).1, hb⟩
theorem OVa.under {w w' : World} {t : Va} {cs : List Value} {fp : List Nat} (h : OVa w t cs fp) (hb : Below w.heap.size w w') : OVa w' t cs fp :=
  h.keep (row := none) ⟨hb.os, hb.tape, hb.output, hb.size, fun i hi _ => hb.block i hi⟩ (fun b _ => by simp)
theorem OVa.nodup {w : World} {t : Va} {cs : List Value} {fp : List Nat} (h : OVa w t cs fp) : fp.Nodup := by
  cases h with
  | node a ks L A c d xs fs _ _ _ _ _ h5 => exact h5
/-- the four cells written out -/
theorem OVa.four {w : World} {t : Va} {cs : List Value} {fp : List Nat} (h : OVa w t cs fp) : ∃ L c A d, cs = [.int .i64 t.top.kind, .int .i64 t.top.num, .slice L t.top.labels.length c, .slice A t.kids.length d] := by
  cases h with
  | node a ks L A c d xs fs => exact ⟨L, c, A, d, rfl⟩

/-- a value in new memory -/
def MadeV (t : Va) (w : World) (e : Ending) (w' : World) : Prop :=
  ∃ (L A : Option Addr) (c d : Nat) (fp : List Nat), e = .returned (.agg #[.int .i64 t.top.kind, .int .i64 t.top.num, .slice L t.top.labels.length c, .slice A t.kids.length d]) ∧ OVa w' t [.int .i64 t.top.kind, .int .i64 t.top.num, .slice L t.top.labels.length c, .slice A t.kids.length d] fp ∧
    (∀ b ∈ fp, w.heap.size ≤ b ∧ b < w'.heap.size) ∧ Below w.heap.size w w'
end Go.Proofs.Ytlikmgkjilmjpaa
