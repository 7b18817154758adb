/-
  Merged by program: Part4, Kd4, Box4, Va, VaSz.
-/
import Derived.Test.YtlikmgkjilmjpaaGreatI1
import Derived.Test.YtlikmgkjilmjpaaGreatI4
import Derived.Laws.Rows
import Derived.Test.YtlikmgkjilmjpaaGreatProg
import Derived.Test.YtlikmgkjilmjpaaGreatI3

/-
  Rows of structs of four cells: the part of one struct; a struct stored. Plain lists, and rows of the call's own.
-/
namespace Go.Proofs.YtlikmgkjilmjpaaGreat
open Go.RowKit

/-- the cells of the j-th struct -/
def part4 {β : Type} (xs : List β) (j : Nat) : List β := (xs.drop (j * 4)).take 4
theorem part4_get {β : Type} (xs : List β) (j i : Nat) (hi : i < 4) : (part4 xs j)[i]? = xs[j * 4 + i]? := by
  unfold part4
  rw [List.getElem?_take_of_lt hi, List.getElem?_drop]
theorem part4_len {β : Type} (xs : List β) (j : Nat) (h : j * 4 + 4 ≤ xs.length) : (part4 xs j).length = 4 := by
  unfold part4
  rw [List.length_take, List.length_drop]
  omega
theorem part4_ext {β : Type} {xs ys : List β} {j : Nat} (h : ∀ i, i < 4 → xs[j * 4 + i]? = ys[j * 4 + i]?) : part4 xs j = part4 ys j := by
  apply List.ext_getElem?
  intro i
  by_cases hi : i < 4
  · rw [part4_get _ _ _ hi, part4_get _ _ _ hi]; exact h i hi
  · unfold part4
    rw [List.getElem?_take_eq_none (by omega), List.getElem?_take_eq_none (by omega)]
/-- the j-th struct replaced -/
def put4 {β : Type} (xs : List β) (j : Nat) (a b c d : β) : List β := (((xs.set (j * 4) a).set (j * 4 + 1) b).set (j * 4 + 2) c).set (j * 4 + 3) d
theorem put4_len {β : Type} (xs : List β) (j : Nat) (a b c d : β) : (put4 xs j a b c d).length = xs.length := by simp [put4]
theorem put4_at {β : Type} (xs : List β) (j : Nat) (a b c d : β) (h : j * 4 + 4 ≤ xs.length) : part4 (put4 xs j a b c d) j = [a, b, c, d] := by
  apply List.ext_getElem?
  intro i
  by_cases hi : i < 4
  · rw [part4_get _ _ _ hi]
    unfold put4
    have h0 : j * 4 < xs.length := by omega
    have h1 : j * 4 + 1 < xs.length := by omega
    have h2 : j * 4 + 2 < xs.length := by omega
    have h3 : j * 4 + 3 < xs.length := by omega
    match i, hi with
    | 0, _ => simp [h0]
    | 1, _ => simp [h1]
    | 2, _ => simp [h2]
    | 3, _ => simp [h3]
  · rw [List.getElem?_eq_none (by rw [part4_len _ _ (by rw [put4_len]; exact h)]; omega), List.getElem?_eq_none (by simp; omega)]
theorem put4_other {β : Type} (xs : List β) (j k : Nat) (a b c d : β) (h : k ≠ j) : part4 (put4 xs j a b c d) k = part4 xs k := by
  refine part4_ext fun i hi => ?_
  unfold put4
  rw [List.getElem?_set_ne (by omega), List.getElem?_set_ne (by omega), List.getElem?_set_ne (by omega), List.getElem?_set_ne (by omega)]

/-- four stores into a row of the call's own -/
def store4 (w : World) (g j : Nat) (a b c d : Value) : World := (((w.setCell ⟨g, j * 4, none⟩ a).setCell ⟨g, j * 4 + 1, none⟩ b).setCell ⟨g, j * 4 + 2, none⟩ c).setCell ⟨g, j * 4 + 3, none⟩ d
theorem own_store4 {w : World} {base g n cap : Nat} {e : TypeId} {xs : List Value} (h : w.ownsRow base e 4 (.slice (some ⟨g, 0, none⟩) n cap) n xs) (j : Nat) (a b c d : Value) :
    (store4 w g j a b c d).ownsRow base e 4 (.slice (some ⟨g, 0, none⟩) n cap) n (put4 xs j a b c d) ∧ w.grownBy (store4 w g j a b c d) (some g) := by
  have h1 := h.stored (j * 4) a
  have h2 := h1.1.stored (j * 4 + 1) b
  have h3 := h2.1.stored (j * 4 + 2) c
  have h4 := h3.1.stored (j * 4 + 3) d
  have s3 := Nat.le_trans h1.2.size (Nat.le_trans h2.2.size h3.2.size)
  refine ⟨h4.1, ⟨rfl, rfl, rfl, ?_, fun k hk hne => ?_⟩⟩
  · exact Nat.le_trans s3 h4.2.size
  · exact (h4.2.block k (Nat.lt_of_lt_of_le hk s3) hne).trans ((h3.2.block k (Nat.lt_of_lt_of_le hk (Nat.le_trans h1.2.size h2.2.size)) hne).trans ((h2.2.block k (Nat.lt_of_lt_of_le hk h1.2.size) hne).trans (h1.2.block k hk hne)))
end Go.Proofs.YtlikmgkjilmjpaaGreat

/-
  Lists of structs of 4 cells: the k-th one, and its store. Hangs on no program. Written by genat.py.
-/
namespace Go.Proofs.YtlikmgkjilmjpaaGreat
open Go.RowKit

theorem rl_at4 {α : Type} {a : Kd α} (hn : a.n = 4) {w wr : World} {A : Option Addr} {xs : List α} (hp : RL a w A xs) (hb : Below w.heap.size w wr) {k : Nat} (hk : k < xs.length) : ∃ (ad p : Addr) (c0 c1 c2 c3 : Value), A = some ad ∧ ad.add (k * 4) = p ∧ a.R wr xs[k] [c0, c1, c2, c3] ∧ wr.cell? p = some c0 ∧ wr.cell? ⟨p.block, p.off + 1, none⟩ = some c1 ∧ wr.cell? ⟨p.block, p.off + 2, none⟩ = some c2 ∧ wr.cell? ⟨p.block, p.off + 3, none⟩ = some c3 := by
  obtain ⟨ps, hp⟩ := hp
  obtain ⟨hr, ad, hA, hc⟩ := hp k xs[k] (List.getElem?_eq_getElem hk)
  have hl : (ps k).length = 4 := by rw [a.len hr, hn]
  rw [hn] at hc
  have hcell : ∀ i u, (ps k)[i]? = some u → wr.cell? (ad.add (k * 4 + i)) = some u := fun i u hi => (hb.cell (World.block_lt_of_cell? w _ (hc i u hi))).trans (hc i u hi)
  obtain ⟨c0, c1, c2, c3, he⟩ : ∃ c0 c1 c2 c3, ps k = [c0, c1, c2, c3] := by
    match ps k, hl with
    | [x0, x1, x2, x3], _ => exact ⟨x0, x1, x2, x3, rfl⟩
  rw [he] at hcell hr
  refine ⟨ad, _, c0, c1, c2, c3, hA, rfl, a.keep hr hb, hcell 0 _ rfl, ?_, ?_, ?_⟩
  · rw [← addr_next ad (k * 4) 1 (by omega)]; exact hcell 1 _ rfl
  · rw [← addr_next ad (k * 4) 2 (by omega)]; exact hcell 2 _ rfl
  · rw [← addr_next ad (k * 4) 3 (by omega)]; exact hcell 3 _ rfl
/-- the cells of the place k are stored -/
theorem tolinv_store4 {α : Type} {a : Kd α} (hn : a.n = 4) {e : TypeId} {xs : List α} {w wr w2 : World} {k : Nat} {cells : List Value} {fs : Nat → List Nat} {fp : List Nat} {r0 r1 r2 r3 : Value} {i : Value} (hk : k < xs.length) (hi : i = .int .i64 ((k + 1 : Nat) : Int))
    (hown : wr.ownsRow w.heap.size e a.n (.slice (some ⟨w.heap.size, 0, none⟩) xs.length xs.length) xs.length cells) (hkid : ∀ (j : Nat) (x : α), j < k → xs[j]? = some x → a.O wr x (partK a.n cells j) (fs j)) (hnd : ((List.range k).flatMap fs).Nodup)
    (hbd : ∀ j, j < k → ∀ b ∈ fs j, w.heap.size < b ∧ b < wr.heap.size) (hb : Below w.heap.size w wr) (hb2 : Below wr.heap.size wr w2) (hot : a.O w2 xs[k] [r0, r1, r2, r3] fp) (hfp : ∀ b ∈ fp, wr.heap.size ≤ b ∧ b < w2.heap.size) :
    ToLInv a e xs w i (store4 w2 w.heap.size k r0 r1 r2 r3) := by
  have hxl : cells.length = xs.length * 4 := by rw [← hn]; exact hown.1
  have ho2 : w2.ownsRow w.heap.size e a.n (.slice (some ⟨w.heap.size, 0, none⟩) xs.length xs.length) xs.length cells :=
    hown.kept (row := none) ⟨hb2.os, hb2.tape, hb2.output, hb2.size, fun i hi _ => hb2.block i hi⟩ (.inr (by simp [Value.ownBlock]))
  rw [hn] at ho2
  obtain ⟨h3, hg3⟩ := own_store4 ho2 k r0 r1 r2 r3
  rw [← hn] at h3
  refine tolinv_more hk hi hown hkid hnd hbd hb hb2 hot hfp h3 hg3 ?_ fun j hj => ?_
  · rw [hn]; exact put4_at cells k r0 r1 r2 r3 (by omega)
  · rw [hn]; exact put4_other cells k j r0 r1 r2 r3 hj
end Go.Proofs.YtlikmgkjilmjpaaGreat

/-
  A block of four cells that is known whole. Hangs on no program.
-/
namespace Go.Proofs.YtlikmgkjilmjpaaGreat
open Go.RowKit

def Box4 (w : World) (g : Nat) (t : TypeId) (a b c d : Value) : Prop := w.heap[g]? = some (.cells #[a, b, c, d] t (0, 0))
section
variable {w w' : World} {g : Nat} {t : TypeId} {a b c d : Value}
theorem Box4.new (w : World) (t : TypeId) (a b c d : Value) : Box4 (w.alloc (.cells #[a, b, c, d] t)) w.heap.size t a b c d := heap_alloc_new w _
theorem Box4.lt (h : Box4 w g t a b c d) : g < w.heap.size := (Array.getElem?_eq_some_iff.1 h).1
theorem Box4.c0 (h : Box4 w g t a b c d) : w.cell? ⟨g, 0, none⟩ = some a := cell_of_row w g 0 _ t (0, 0) h
theorem Box4.c1 (h : Box4 w g t a b c d) : w.cell? ⟨g, 1, none⟩ = some b := cell_of_row w g 1 _ t (0, 0) h
theorem Box4.c2 (h : Box4 w g t a b c d) : w.cell? ⟨g, 2, none⟩ = some c := cell_of_row w g 2 _ t (0, 0) h
theorem Box4.c3 (h : Box4 w g t a b c d) : w.cell? ⟨g, 3, none⟩ = some d := cell_of_row w g 3 _ t (0, 0) h
theorem Box4.free (h : Box4 w g t a b c d) (i : Nat) : w.frozen? ⟨g, i, none⟩ = false := frozen_of_row w g i _ t h
theorem Box4.under (h : Box4 w g t a b c d) {B : Nat} (hb : Below B w w') (hg : g < B) : Box4 w' g t a b c d := (hb.block g hg).trans h
theorem Box4.alloc (h : Box4 w g t a b c d) (o : Obj) : Box4 (w.alloc o) g t a b c d := ((((Below.refl _ _).alloc (Nat.le_refl _) o : Below w.heap.size w (w.alloc o))).block g h.lt).trans h
theorem Box4.far (h : Box4 w g t a b c d) {p : Addr} (hp : g ≠ p.block) (u : Value) : Box4 (w.setCell p u) g t a b c d := (Below.heap_setCell w p u g hp).trans h
theorem Box4.set0 (h : Box4 w g t a b c d) (u : Value) : Box4 (w.setCell ⟨g, 0, none⟩ u) g t u b c d := heap_setCell_same w g 0 _ t u h
theorem Box4.set1 (h : Box4 w g t a b c d) (u : Value) : Box4 (w.setCell ⟨g, 1, none⟩ u) g t a u c d := heap_setCell_same w g 1 _ t u h
theorem Box4.set2 (h : Box4 w g t a b c d) (u : Value) : Box4 (w.setCell ⟨g, 2, none⟩ u) g t a b u d := heap_setCell_same w g 2 _ t u h
theorem Box4.set3 (h : Box4 w g t a b c d) (u : Value) : Box4 (w.setCell ⟨g, 3, none⟩ u) g t a b c u := heap_setCell_same w g 3 _ t u h
theorem Box4.grown {row : Option Nat} (h : Box4 w g t a b c d) (hg : w.grownBy w' row) (hne : some g ≠ row) : Box4 w' g t a b c d := (hg.block g h.lt hne).trans h
end
end Go.Proofs.YtlikmgkjilmjpaaGreat

/-
  Values as trees: a kind, a number, labels, and the parts; how they lie in memory.
-/
namespace Go.Proofs.YtlikmgkjilmjpaaGreat
open Go.RowKit

structure VaA where
  kind : Int
  num : Int
  labels : List ByteArray
abbrev Va := Tr VaA
/-- what a value's own cells are bound by -/
def VaA.ok (a : VaA) : Prop := -9223372036854775808 ≤ a.kind ∧ a.kind ≤ 9223372036854775807 ∧ -9223372036854775808 ≤ a.num ∧ a.num ≤ 9223372036854775807 ∧ a.labels.length ≤ 9223372036854775807 ∧ ∀ x ∈ a.labels, x.size ≤ 9223372036854775807
/-- four cells that read as a value -/
inductive RVa (w : World) : Va → List Value → Prop where
  | node (a : VaA) (ks : List Va) (L A : Option Addr) (c d : Nat) (ps : Nat → List Value) (h1 : Sl w L (a.labels.map Value.string)) (h2 : a.ok) (h3 : ks.length ≤ 9223372036854775807) (h4 : ks.length ≤ d)
      (h5 : ∀ j t, ks[j]? = some t → RVa w t (ps j)) (h6 : ∀ j t, ks[j]? = some t → ∃ ad, A = some ad ∧ ∀ i u, (ps j)[i]? = some u → w.cell? (ad.add (j * 4 + i)) = some u) :
      RVa w (.node a ks) [.int .i64 a.kind, .int .i64 a.num, .slice L a.labels.length c, .slice A ks.length d]
theorem RVa.keep {w w' : World} {t : Va} {cs : List Value} (h : RVa w t cs) (hb : Below w.heap.size w w') : RVa w' t cs := by
  induction h with
  | node a ks L A c d ps h1 h2 h3 h4 _ h6 ih =>
    refine .node a ks L A c d ps (h1.below hb) h2 h3 h4 ih fun j t hj => ?_
    obtain ⟨ad, e, hc⟩ := h6 j t hj
    exact ⟨ad, e, fun i u hi => (hb.cell (World.block_lt_of_cell? w _ (hc i u hi))).trans (hc i u hi)⟩
theorem RVa.len {w : World} {t : Va} {cs : List Value} (h : RVa w t cs) : cs.length = 4 := by cases h; rfl
/-- the slice with the address A reads as a list of values -/
def RVas (w : World) (A : Option Addr) (ks : List Va) : Prop := ∃ ps : Nat → List Value, ∀ j t, ks[j]? = some t → RVa w t (ps j) ∧ ∃ ad, A = some ad ∧ ∀ i u, (ps j)[i]? = some u → w.cell? (ad.add (j * 4 + i)) = some u
theorem RVas.keep {w w' : World} {A : Option Addr} {ks : List Va} (h : RVas w A ks) (hb : Below w.heap.size w w') : RVas w' A ks := by
  obtain ⟨ps, hp⟩ := h
  refine ⟨ps, fun j t hj => ?_⟩
  obtain ⟨h1, ad, h2, h3⟩ := hp j t hj
  exact ⟨h1.keep hb, ad, h2, fun i u hi => (hb.cell (World.block_lt_of_cell? w _ (h3 i u hi))).trans (h3 i u hi)⟩
/-- the four cells written out -/
theorem RVa.out {w : World} {a : VaA} {ks : List Va} {cs : List Value} (h : RVa w (.node a ks) cs) : ∃ L c A d, cs = [.int .i64 a.kind, .int .i64 a.num, .slice L a.labels.length c, .slice A ks.length d] ∧
    Sl w L (a.labels.map Value.string) ∧ a.ok ∧ ks.length ≤ 9223372036854775807 ∧ RVas w A ks := by
  cases h with
  | node a ks L A c d ps h1 h2 h3 h4 h5 h6 => exact ⟨L, c, A, d, rfl, h1, h2, h3, ps, fun j t hj => ⟨h5 j t hj, h6 j t hj⟩⟩
theorem RVa.cap {w : World} {t : Va} {c0 c1 c2 : Value} {A : Option Addr} {n d : Nat} (h : RVa w t [c0, c1, c2, .slice A n d]) : n ≤ d := by
  generalize hcs : [c0, c1, c2, .slice A n d] = cs at h
  cases h with
  | node a ks L A' c d' ps h1 h2 h3 h4 h5 h6 =>
    simp only [List.cons.injEq, Value.slice.injEq, and_true] at hcs
    omega
/-- the same, of any tree -/
theorem RVa.open {w : World} {t : Va} {cs : List Value} (h : RVa w t cs) : ∃ L c A d, cs = [.int .i64 t.top.kind, .int .i64 t.top.num, .slice L t.top.labels.length c, .slice A t.kids.length d] ∧
    Sl w L (t.top.labels.map Value.string) ∧ t.top.ok ∧ t.kids.length ≤ 9223372036854775807 ∧ RVas w A t.kids := by
  cases t with
  | node a ks => exact h.out
theorem RVa.four {w : World} {t : Va} {cs : List Value} (h : RVa w t cs) : ∃ c0 c1 c2 c3, cs = [c0, c1, c2, c3] := by
  obtain ⟨L, c, A, d, rfl, _⟩ := h.open
  exact ⟨_, _, _, _, rfl⟩
/-- .. and put together -/
theorem RVa.make {w : World} {a : VaA} {ks : List Va} {L A : Option Addr} {c d : Nat} (h1 : Sl w L (a.labels.map Value.string)) (h2 : a.ok) (h3 : ks.length ≤ 9223372036854775807) (h4 : ks.length ≤ d) (h5 : RVas w A ks) :
    RVa w (.node a ks) [.int .i64 a.kind, .int .i64 a.num, .slice L a.labels.length c, .slice A ks.length d] := by
  obtain ⟨ps, hp⟩ := h5
  exact .node a ks L A c d ps h1 h2 h3 h4 (fun j t hj => (hp j t hj).1) (fun j t hj => (hp j t hj).2)
theorem size_nodeV (a : VaA) (ks : List Va) : (Tr.node a ks).size = 1 + (ks.map Tr.size).sum := Tr.sum_node _ a ks
theorem size_ge {α : Type} (t : Tr α) : 1 ≤ t.size := by
  cases t with
  | node a ks => unfold Tr.size; rw [Tr.sum_node]; omega

/-- the k-th value below, in a later world: its cells as the walk asks for them -/
theorem vid_at {w wr : World} {A : Option Addr} {ks : List Va} (hp : RVas w A ks) (hb : Below w.heap.size w wr) {k : Nat} (hk : k < ks.length) : ∃ (ad p : Addr) (c0 c1 c2 c3 : Value), A = some ad ∧ ad.add (k * 4) = p ∧ RVa wr ks[k] [c0, c1, c2, c3] ∧ wr.cell? p = some c0 ∧ wr.cell? ⟨p.block, p.off + 1, none⟩ = some c1 ∧ wr.cell? ⟨p.block, p.off + 2, none⟩ = some c2 ∧ wr.cell? ⟨p.block, p.off + 3, none⟩ = some c3 := by
  obtain ⟨ps, hp⟩ := hp
  obtain ⟨hr, ad, hA, hc⟩ := hp k ks[k] (List.getElem?_eq_getElem hk)
  have hl : (ps k).length = 4 := hr.len
  have hcell : ∀ i u, (ps k)[i]? = some u → wr.cell? (ad.add (k * 4 + i)) = some u := fun i u hi => (hb.cell (World.block_lt_of_cell? w _ (hc i u hi))).trans (hc i u hi)
  obtain ⟨c0, c1, c2, c3, he⟩ : ∃ c0 c1 c2 c3, ps k = [c0, c1, c2, c3] := by
    match ps k, hl with
    | [a, b, c, d], _ => exact ⟨a, b, c, d, rfl⟩
  rw [he] at hcell hr
  refine ⟨ad, _, c0, c1, c2, c3, hA, rfl, hr.keep hb, hcell 0 _ rfl, ?_, ?_, ?_⟩
  · rw [← addr_next ad (k * 4) 1 (by omega)]; exact hcell 1 _ rfl
  · rw [← addr_next ad (k * 4) 2 (by omega)]; exact hcell 2 _ rfl
  · rw [← addr_next ad (k * 4) 3 (by omega)]; exact hcell 3 _ rfl
end Go.Proofs.YtlikmgkjilmjpaaGreat

/-
  How great a value is, as the laws reckon it: 'szValue', 'szValueS'.
-/
namespace Go.Proofs.YtlikmgkjilmjpaaGreat
open Go.RowKit

/-- the laws' own types, which mirror the program's -/
def wvA (a : VaA) : Nat := a.labels.length + total a.labels
/-- what a value takes of the laws' bound -/
def wv (t : Va) : Nat := t.sum (fun a => wvA a + 1) - 1
def wvK (ks : List Va) : Nat := ks.length + (ks.map wv).sum
theorem wv_pos (t : Va) : 1 ≤ t.sum (fun a => wvA a + 1) := by
  cases t with
  | node a ks => rw [Tr.sum_node]; omega
theorem wv_sum (ks : List Va) : (ks.map (Tr.sum fun a => wvA a + 1)).sum = wvK ks := by
  unfold wvK
  induction ks with
  | nil => rfl
  | cons t r ih =>
    have := wv_pos t
    simp only [List.map_cons, List.sum_cons, List.length_cons, ih]
    unfold wv
    omega
theorem wv_node (a : VaA) (ks : List Va) : wv (.node a ks) = wvA a + wvK ks := by
  unfold wv
  rw [Tr.sum_node, wv_sum]
  omega
theorem size_wv (t : Va) : t.size ≤ wv t + 1 := by
  have : t.size ≤ t.sum (fun a => wvA a + 1) := by
    refine Tr.ind (m := fun t => t.size ≤ t.sum (fun a => wvA a + 1)) (fun a ks ih => ?_) t
    rw [size_nodeV, Tr.sum_node]
    have h := sum_le Tr.size (Tr.sum fun a => wvA a + 1) ks ih
    omega
  unfold wv
  omega

/-- where the answer is not negative, what is left over is the rest -/
def SzV (n : Nat) (left : Int) (w : World) (e : Ending) (w' : World) : Prop := ∃ r : Int, e = .returned (.int .i64 r) ∧ r ≤ left ∧ -1 ≤ r ∧ (0 ≤ r → r + n = left) ∧ Below w.heap.size w w'

def SzVK (t : Va) : Prop := ∀ (w : World) (cs : List Value) (left : Int), RVa w t cs → 0 ≤ left → left ≤ 1048576 → Calls Tryz.prog 7 #[.agg cs.toArray, .int .i64 left] w (SzV (wv t) left w)

set_option maxHeartbeats 800000 in
theorem szValueS_of (ks : List Va) (ih : ∀ t ∈ ks, SzVK t) (w : World) (A : Option Addr) (d : Nat) (left : Int) (hp : RVas w A ks) (hl : ks.length ≤ 9223372036854775807) (h0 : 0 ≤ left) (h1 : left ≤ 1048576) :
    Calls Tryz.prog 25 #[.slice A ks.length d, .int .i64 left] w (SzV (wvK ks) left w) := by
  have HP := Lib.hid hp
  have HI := Lib.hid ih
  clear hp ih
  by_cases hneg : left - ks.length < 0
  · go_enter Tryz.func25, Tryz.ntmps25
    go_wp2_with fail
    go_ret
    exact ⟨-1, rfl, by omega, by omega, by omega, Below.refl _ _⟩
  · go_enter Tryz.func25, Tryz.ntmps25
    go_wp2_with fail
    go_loopw [1, 5] (fun l i wr => ∃ k : Nat, k ≤ ks.length ∧ i = .int .i64 k ∧ ∃ r : Int, l = .int .i64 r ∧ 0 ≤ r ∧ r + ks.length + ((ks.take k).map wv).sum = left ∧ Below w.heap.size w wr) (fun _ i _ => ks.length - (intOf i).toNat)
    case atStart => exact ⟨0, Nat.zero_le _, rfl, _, rfl, by omega, by simp, Below.refl _ _⟩
    case round =>
      obtain ⟨k, hk, rfl, r, rfl, hr0, hr, hb⟩ := hrel
      have hr1 : r ≤ 1048576 := by omega
      have HR := Lib.hid hr
      clear hr
      by_cases hlt : k < ks.length
      · obtain ⟨ad, p, c0, c1, c2, c3, rfl, hpe, hrt, q0, q1, q2, q3⟩ := vid_at HP.out hb hlt
        have hst := sum_take_succ wv ks k hlt
        have hc := HI.out ks[k] (List.getElem_mem hlt) wr [c0, c1, c2, c3] r hrt hr0 hr1
        obtain ⟨m, hm⟩ : ∃ m, wv ks[k] = m := ⟨_, rfl⟩
        rw [hm] at hst hc
        have HC := Lib.hid hc
        have HST := Lib.hid hst
        clear hc hrt hst hm
        go_wp2_with fail
        refine HC.out.mono ?_
        rintro e w2 ⟨r', rfl, hr2, hr3, hr4, hb2⟩
        have HB3 := Lib.hid (hb.trans (hb2.mono hb.size))
        have HR4 := Lib.hid hr4
        clear hr4 hb2
        by_cases hz : r' < 0
        · go_wp2_with fail
          go_ret
          exact ⟨-1, rfl, by omega, by omega, by omega, HB3.out⟩
        · go_wp2_with fail
          go_roundw
          case rel => exact ⟨k + 1, hlt, by go_num, r', rfl, by omega, by have h1 := HR4.out (by omega); have h2 := HR.out; have h3 := HST.out; omega, HB3.out⟩
          case measure => simp [intOf]; omega
      · have he : k = ks.length := by omega
        have HS : Hid (r + wvK ks = left) := by
          have h := HR.out
          rw [he, List.take_length] at h
          show _ = _
          unfold wvK
          omega
        clear he
        go_wp2_with fail
        go_ret
        exact ⟨r, rfl, by have := HR.out; omega, by omega, fun _ => HS.out, hb⟩

set_option maxHeartbeats 800000 in
theorem szValue_any : ∀ t : Va, SzVK t := by
  refine Tr.ind ?_
  intro a ks ih w cs left h h0 h1
  obtain ⟨L, c, A, d, rfl, k1, ⟨_, _, _, _, k4, k5⟩, k6, hp⟩ := h.out
  have HN := Lib.hid (wv_node a ks)
  obtain ⟨W1, hW1⟩ : ∃ W1, w.alloc (.cells #[.int .i64 a.kind, .int .i64 a.num, .slice L a.labels.length c, .slice A ks.length d] 31) = W1 := ⟨_, rfl⟩
  have hb0 : Below w.heap.size w W1 := by rw [← hW1]; exact (Below.refl _ _).alloc (Nat.le_refl _) _
  have hbx1 : W1.cell? ⟨w.heap.size, 2, none⟩ = some (.slice L a.labels.length c) := by rw [← hW1]; exact cell_of_row _ _ 2 _ _ _ (heap_alloc_new w _)
  have hbx2 : W1.cell? ⟨w.heap.size, 3, none⟩ = some (.slice A ks.length d) := by rw [← hW1]; exact cell_of_row _ _ 3 _ _ _ (heap_alloc_new w _)
  have HW1 := Lib.hid hW1
  have HP := Lib.hid (hp.keep hb0)
  have HL := Lib.hid (k1.below hb0)
  have HB0 := Lib.hid hb0
  have HI := Lib.hid ih
  have HX := Lib.hid k5
  clear hp ih hb0 hW1 k1 k5 h
  go_enter Tryz.func7, Tryz.ntmps7
  go_wp2_with fail
  rw [HW1.out]
  go_wp2_with fail
  refine (szStringS_any L c a.labels left W1 HL.out k4 HX.out h0 h1).mono ?_
  rintro e w' ⟨r, rfl, hr1, hr2, hr3, rfl⟩
  have HR3 := Lib.hid hr3
  clear hr3
  by_cases hneg : r < 0
  · go_wp2_with fail
    go_ret
    exact ⟨-1, rfl, by omega, by omega, by omega, HB0.out⟩
  · go_wp2_with fail
    refine (szValueS_of ks HI.out W1 A d r HP.out k6 (by omega) (by omega)).mono ?_
    rintro e w2 ⟨r', rfl, hs1, hs2, hs3, hb2⟩
    have HS3 := Lib.hid hs3
    have HB2 := Lib.hid (HB0.out.trans (hb2.mono HB0.out.size))
    clear hs3 hb2
    by_cases hz : r' < 0
    · go_wp2_with fail
      go_ret
      exact ⟨-1, rfl, by omega, by omega, by omega, HB2.out⟩
    · go_wp2_with fail
      go_ret
      refine ⟨r', rfl, by omega, by omega, fun _ => ?_, HB2.out⟩
      have e1 := HR3.out (by omega)
      have e2 := HS3.out (by omega)
      rw [HN.out]
      unfold wvA
      omega
end Go.Proofs.YtlikmgkjilmjpaaGreat
