/-
  Merged by program: Part4, Kd4, Box4.
-/
import Derived.Test.YtlikmgkjilmjpaaC1
import Derived.Test.YtlikmgkjilmjpaaC10
import Derived.Laws.Rows

/-
  Rows of structs of four cells: the part of one struct; a struct stored. Plain lists, and rows of the call's own.
-/
namespace Go.Proofs.Ytlikmgkjilmjpaa
open Go.RowKit

/-- the cells of the j-th struct -/
def part4 {β : Type} (xs : List β) (j : Nat) : List β := (xs.drop (j * 4)).take 4
theorem part4_get {β : Type} (xs : List β) (j i : Nat) (hi : i < 4) : (part4 xs j)[i]? = xs[j * 4 + i]? := by
  unfold part4
  rw [List.getElem?_take_of_lt hi, List.getElem?_drop]
theorem part4_len {β : Type} (xs : List β) (j : Nat) (h : j * 4 + 4 ≤ xs.length) : (part4 xs j).length = 4 := by
  unfold part4
  rw [List.length_take, List.length_drop]
  omega
theorem part4_ext {β : Type} {xs ys : List β} {j : Nat} (h : ∀ i, i < 4 → xs[j * 4 + i]? = ys[j * 4 + i]?) : part4 xs j = part4 ys j := by
  apply List.ext_getElem?
  intro i
  by_cases hi : i < 4
  · rw [part4_get _ _ _ hi, part4_get _ _ _ hi]; exact h i hi
  · unfold part4
    rw [List.getElem?_take_eq_none (by omega), List.getElem?_take_eq_none (by omega)]
/-- the j-th struct replaced -/
def put4 {β : Type} (xs : List β) (j : Nat) (a b c d : β) : List β := (((xs.set (j * 4) a).set (j * 4 + 1) b).set (j * 4 + 2) c).set (j * 4 + 3) d
theorem put4_len {β : Type} (xs : List β) (j : Nat) (a b c d : β) : (put4 xs j a b c d).length = xs.length := by simp [put4]
theorem put4_at {β : Type} (xs : List β) (j : Nat) (a b c d : β) (h : j * 4 + 4 ≤ xs.length) : part4 (put4 xs j a b c d) j = [a, b, c, d] := by
  apply List.ext_getElem?
  intro i
  by_cases hi : i < 4
  · rw [part4_get _ _ _ hi]
    unfold put4
    have h0 : j * 4 < xs.length := by omega
    have h1 : j * 4 + 1 < xs.length := by omega
    have h2 : j * 4 + 2 < xs.length := by omega
    have h3 : j * 4 + 3 < xs.length := by omega
    match i, hi with
    | 0, _ => simp [h0]
    | 1, _ => simp [h1]
    | 2, _ => simp [h2]
    | 3, _ => simp [h3]
  · rw [List.getElem?_eq_none (by rw [part4_len _ _ (by rw [put4_len]; exact h)]; omega), List.getElem?_eq_none (by simp; omega)]
theorem put4_other {β : Type} (xs : List β) (j k : Nat) (a b c d : β) (h : k ≠ j) : part4 (put4 xs j a b c d) k = part4 xs k := by
  refine part4_ext fun i hi => ?_
  unfold put4
  rw [List.getElem?_set_ne (by omega), List.getElem?_set_ne (by omega), List.getElem?_set_ne (by omega), List.getElem?_set_ne (by omega)]

/-- four stores into a row of the call's own -/
def store4 (w : World) (g j : Nat) (a b c d : Value) : World := (((w.setCell ⟨g, j * 4, none⟩ a).setCell ⟨g, j * 4 + 1, none⟩ b).setCell ⟨g, j * 4 + 2, none⟩ c).setCell ⟨g, j * 4 + 3, none⟩ d
theorem own_store4 {w : World} {base g n cap : Nat} {e : TypeId} {xs : List Value} (h : w.ownsRow base e 4 (.slice (some ⟨g, 0, none⟩) n cap) n xs) (j : Nat) (a b c d : Value) :
    (store4 w g j a b c d).ownsRow base e 4 (.slice (some ⟨g, 0, none⟩) n cap) n (put4 xs j a b c d) ∧ w.grownBy (store4 w g j a b c d) (some g) := by
  have h1 := h.stored (j * 4) a
  have h2 := h1.1.stored (j * 4 + 1) b
  have h3 := h2.1.stored (j * 4 + 2) c
  have h4 := h3.1.stored (j * 4 + 3) d
  have s3 := Nat.le_trans h1.2.size (Nat.le_trans h2.2.size h3.2.size)
  refine ⟨h4.1, ⟨rfl, rfl, rfl, ?_, fun k hk hne => ?_⟩⟩
  · exact Nat.le_trans s3 h4.2.size
  · exact (h4.2.block k (Nat.lt_of_lt_of_le hk s3) hne).trans ((h3.2.block k (Nat.lt_of_lt_of_le hk (Nat.le_trans h1.2.size h2.2.size)) hne).trans ((h2.2.block k (Nat.lt_of_lt_of_le hk h1.2.size) hne).trans (h1.2.block k hk hne)))
end Go.Proofs.Ytlikmgkjilmjpaa

/-
  Lists of structs of 4 cells: the k-th one, and its store. Hangs on no program. Written by genat.py.
-/
namespace Go.Proofs.Ytlikmgkjilmjpaa
open Go.RowKit

theorem rl_at4 {α : Type} {a : Kd α} (hn : a.n = 4) {w wr : World} {A : Option Addr} {xs : List α} (hp : RL a w A xs) (hb : Below w.heap.size w wr) {k : Nat} (hk : k < xs.length) : ∃ (ad p : Addr) (c0 c1 c2 c3 : Value), A = some ad ∧ ad.add (k * 4) = p ∧ a.R wr xs[k] [c0, c1, c2, c3] ∧ wr.cell? p = some c0 ∧ wr.cell? ⟨p.block, p.off + 1, none⟩ = some c1 ∧ wr.cell? ⟨p.block, p.off + 2, none⟩ = some c2 ∧ wr.cell? ⟨p.block, p.off + 3, none⟩ = some c3 := by
  obtain ⟨ps, hp⟩ := hp
  obtain ⟨hr, ad, hA, hc⟩ := hp k xs[k] (List.getElem?_eq_getElem hk)
  have hl : (ps k).length = 4 := by rw [a.len hr, hn]
  rw [hn] at hc
  have hcell : ∀ i u, (ps k)[i]? = some u → wr.cell? (ad.add (k * 4 + i)) = some u := fun i u hi => (hb.cell (World.block_lt_of_cell? w _ (hc i u hi))).trans (hc i u hi)
  obtain ⟨c0, c1, c2, c3, he⟩ : ∃ c0 c1 c2 c3, ps k = [c0, c1, c2, c3] := by
    match ps k, hl with
    | [x0, x1, x2, x3], _ => exact ⟨x0, x1, x2, x3, rfl⟩
  rw [he] at hcell hr
  refine ⟨ad, _, c0, c1, c2, c3, hA, rfl, a.keep hr hb, hcell 0 _ rfl, ?_, ?_, ?_⟩
  · rw [← addr_next ad (k * 4) 1 (by omega)]; exact hcell 1 _ rfl
  · rw [← addr_next ad (k * 4) 2 (by omega)]; exact hcell 2 _ rfl
  · rw [← addr_next ad (k * 4) 3 (by omega)]; exact hcell 3 _ rfl
/-- the cells of the place k are stored -/
theorem tolinv_store4 {α : Type} {a : Kd α} (hn : a.n = 4) {e : TypeId} {xs : List α} {w wr w2 : World} {k : Nat} {cells : List Value} {fs : Nat → List Nat} {fp : List Nat} {r0 r1 r2 r3 : Value} {i : Value} (hk : k < xs.length) (hi : i = .int .i64 ((k + 1 : Nat) : Int))
    (hown : wr.ownsRow w.heap.size e a.n (.slice (some ⟨w.heap.size, 0, none⟩) xs.length xs.length) xs.length cells) (hkid : ∀ (j : Nat) (x : α), j < k → xs[j]? = some x → a.O wr x (partK a.n cells j) (fs j)) (hnd : ((List.range k).flatMap fs).Nodup)
    (hbd : ∀ j, j < k → ∀ b ∈ fs j, w.heap.size < b ∧ b < wr.heap.size) (hb : Below w.heap.size w wr) (hb2 : Below wr.heap.size wr w2) (hot : a.O w2 xs[k] [r0, r1, r2, r3] fp) (hfp : ∀ b ∈ fp, wr.heap.size ≤ b ∧ b < w2.heap.size) :
    ToLInv a e xs w i (store4 w2 w.heap.size k r0 r1 r2 r3) := by
  have hxl : cells.length = xs.length * 4 := by rw [← hn]; exact hown.1
  have ho2 : w2.ownsRow w.heap.size e a.n (.slice (some ⟨w.heap.size, 0, none⟩) xs.length xs.length) xs.length cells :=
    hown.kept (row := none) ⟨hb2.os, hb2.tape, hb2.output, hb2.size, fun i hi _ => hb2.block i hi⟩ (.inr (by simp [Value.ownBlock]))
  rw [hn] at ho2
  obtain ⟨h3, hg3⟩ := own_store4 ho2 k r0 r1 r2 r3
  rw [← hn] at h3
  refine tolinv_more hk hi hown hkid hnd hbd hb hb2 hot hfp h3 hg3 ?_ fun j hj => ?_
  · rw [hn]; exact put4_at cells k r0 r1 r2 r3 (by omega)
  · rw [hn]; exact put4_other cells k j r0 r1 r2 r3 hj
end Go.Proofs.Ytlikmgkjilmjpaa

/-
  A block of four cells that is known whole. Hangs on no program.
-/
namespace Go.Proofs.Ytlikmgkjilmjpaa
open Go.RowKit

def Box4 (w : World) (g : Nat) (t : TypeId) (a b c d : Value) : Prop := w.heap[g]? = some (.cells #[a, b, c, d] t (0, 0))
section
variable {w w' : World} {g : Nat} {t : TypeId} {a b c d : Value}
theorem Box4.new (w : World) (t : TypeId) (a b c d : Value) : Box4 (w.alloc (.cells #[a, b, c, d] t)) w.heap.size t a b c d := heap_alloc_new w _
theorem Box4.lt (h : Box4 w g t a b c d) : g < w.heap.size := (Array.getElem?_eq_some_iff.1 h).1
theorem Box4.c0 (h : Box4 w g t a b c d) : w.cell? ⟨g, 0, none⟩ = some a := cell_of_row w g 0 _ t (0, 0) h
theorem Box4.c1 (h : Box4 w g t a b c d) : w.cell? ⟨g, 1, none⟩ = some b := cell_of_row w g 1 _ t (0, 0) h
theorem Box4.c2 (h : Box4 w g t a b c d) : w.cell? ⟨g, 2, none⟩ = some c := cell_of_row w g 2 _ t (0, 0) h
theorem Box4.c3 (h : Box4 w g t a b c d) : w.cell? ⟨g, 3, none⟩ = some d := cell_of_row w g 3 _ t (0, 0) h
theorem Box4.free (h : Box4 w g t a b c d) (i : Nat) : w.frozen? ⟨g, i, none⟩ = false := frozen_of_row w g i _ t h
theorem Box4.under (h : Box4 w g t a b c d) {B : Nat} (hb : Below B w w') (hg : g < B) : Box4 w' g t a b c d := (hb.block g hg).trans h
theorem Box4.alloc (h : Box4 w g t a b c d) (o : Obj) : Box4 (w.alloc o) g t a b c d := ((((Below.refl _ _).alloc (Nat.le_refl _) o : Below w.heap.size w (w.alloc o))).block g h.lt).trans h
theorem Box4.far (h : Box4 w g t a b c d) {p : Addr} (hp : g ≠ p.block) (u : Value) : Box4 (w.setCell p u) g t a b c d := (Below.heap_setCell w p u g hp).trans h
theorem Box4.set0 (h : Box4 w g t a b c d) (u : Value) : Box4 (w.setCell ⟨g, 0, none⟩ u) g t u b c d := heap_setCell_same w g 0 _ t u h
theorem Box4.set1 (h : Box4 w g t a b c d) (u : Value) : Box4 (w.setCell ⟨g, 1, none⟩ u) g t a u c d := heap_setCell_same w g 1 _ t u h
theorem Box4.set2 (h : Box4 w g t a b c d) (u : Value) : Box4 (w.setCell ⟨g, 2, none⟩ u) g t a b u d := heap_setCell_same w g 2 _ t u h
theorem Box4.set3 (h : Box4 w g t a b c d) (u : Value) : Box4 (w.setCell ⟨g, 3, none⟩ u) g t a b c u := heap_setCell_same w g 3 _ t u h
theorem Box4.grown {row : Option Nat} (h : Box4 w g t a b c d) (hg : w.grownBy w' row) (hne : some g ≠ row) : Box4 w' g t a b c d := (hg.block g h.lt hne).trans h
end
end Go.Proofs.Ytlikmgkjilmjpaa
