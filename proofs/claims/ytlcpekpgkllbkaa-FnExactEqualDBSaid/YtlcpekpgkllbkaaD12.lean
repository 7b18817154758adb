/-
  Merged by program: Part4, VaOwn, Box4.
-/
import Derived.Test.YtlcpekpgkllbkaaD1
import Derived.Test.YtlcpekpgkllbkaaD11
import Derived.Test.YtlcpekpgkllbkaaD5
import Derived.Laws.Rows

/-
  Rows of structs of four cells: the part of one struct; a struct stored. Plain lists, and rows of the call's own.
-/
namespace Go.Proofs.Ytlcpekpgkllbkaa
open Go.RowKit

/-- the cells of the j-th struct -/
def part4 {β : Type} (xs : List β) (j : Nat) : List β := (xs.drop (j * 4)).take 4
theorem part4_get {β : Type} (xs : List β) (j i : Nat) (hi : i < 4) : (part4 xs j)[i]? = xs[j * 4 + i]? := by
  unfold part4
  rw [List.getElem?_take_of_lt hi, List.getElem?_drop]
theorem part4_len {β : Type} (xs : List β) (j : Nat) (h : j * 4 + 4 ≤ xs.length) : (part4 xs j).length = 4 := by
  unfold part4
  rw [List.length_take, List.length_drop]
  omega
theorem part4_ext {β : Type} {xs ys : List β} {j : Nat} (h : ∀ i, i < 4 → xs[j * 4 + i]? = ys[j * 4 + i]?) : part4 xs j = part4 ys j := by
  apply List.ext_getElem?
  intro i
  by_cases hi : i < 4
  · rw [part4_get _ _ _ hi, part4_get _ _ _ hi]; exact h i hi
  · unfold part4
    rw [List.getElem?_take_eq_none (by omega), List.getElem?_take_eq_none (by omega)]
/-- the j-th struct replaced -/
def put4 {β : Type} (xs : List β) (j : Nat) (a b c d : β) : List β := (((xs.set (j * 4) a).set (j * 4 + 1) b).set (j * 4 + 2) c).set (j * 4 + 3) d
theorem put4_len {β : Type} (xs : List β) (j : Nat) (a b c d : β) : (put4 xs j a b c d).length = xs.length := by simp [put4]
theorem put4_at {β : Type} (xs : List β) (j : Nat) (a b c d : β) (h : j * 4 + 4 ≤ xs.length) : part4 (put4 xs j a b c d) j = [a, b, c, d] := by
  apply List.ext_getElem?
  intro i
  by_cases hi : i < 4
  · rw [part4_get _ _ _ hi]
    unfold put4
    have h0 : j * 4 < xs.length := by omega
    have h1 : j * 4 + 1 < xs.length := by omega
    have h2 : j * 4 + 2 < xs.length := by omega
    have h3 : j * 4 + 3 < xs.length := by omega
    match i, hi with
    | 0, _ => simp [h0]
    | 1, _ => simp [h1]
    | 2, _ => simp [h2]
    | 3, _ => simp [h3]
  · rw [List.getElem?_eq_none (by rw [part4_len _ _ (by rw [put4_len]; exact h)]; omega), List.getElem?_eq_none (by simp; omega)]
theorem put4_other {β : Type} (xs : List β) (j k : Nat) (a b c d : β) (h : k ≠ j) : part4 (put4 xs j a b c d) k = part4 xs k := by
  refine part4_ext fun i hi => ?_
  unfold put4
  rw [List.getElem?_set_ne (by omega), List.getElem?_set_ne (by omega), List.getElem?_set_ne (by omega), List.getElem?_set_ne (by omega)]

/-- four stores into a row of the call's own -/
def store4 (w : World) (g j : Nat) (a b c d : Value) : World := (((w.setCell ⟨g, j * 4, none⟩ a).setCell ⟨g, j * 4 + 1, none⟩ b).setCell ⟨g, j * 4 + 2, none⟩ c).setCell ⟨g, j * 4 + 3, none⟩ d
theorem own_store4 {w : World} {base g n cap : Nat} {e : TypeId} {xs : List Value} (h : w.ownsRow base e 4 (.slice (some ⟨g, 0, none⟩) n cap) n xs) (j : Nat) (a b c d : Value) :
    (store4 w g j a b c d).ownsRow base e 4 (.slice (some ⟨g, 0, none⟩) n cap) n (put4 xs j a b c d) ∧ w.grownBy (store4 w g j a b c d) (some g) := by
  have h1 := h.stored (j * 4) a
  have h2 := h1.1.stored (j * 4 + 1) b
  have h3 := h2.1.stored (j * 4 + 2) c
  have h4 := h3.1.stored (j * 4 + 3) d
  have s3 := Nat.le_trans h1.2.size (Nat.le_trans h2.2.size h3.2.size)
  refine ⟨h4.1, ⟨rfl, rfl, rfl, ?_, fun k hk hne => ?_⟩⟩
  · exact Nat.le_trans s3 h4.2.size
  · exact (h4.2.block k (Nat.lt_of_lt_of_le hk s3) hne).trans ((h3.2.block k (Nat.lt_of_lt_of_le hk (Nat.le_trans h1.2.size h2.2.size)) hne).trans ((h2.2.block k (Nat.lt_of_lt_of_le hk h1.2.size) hne).trans (h1.2.block k hk hne)))
end Go.Proofs.Ytlcpekpgkllbkaa

/-
  A value in memory of the call's own: its rows, one block each, no two alike.
-/
namespace Go.Proofs.Ytlcpekpgkllbkaa
open Go.RowKit

/-- the four cells are a value of the call's own; its blocks -/
inductive OVa (w : World) : Va → List Value → List Nat → Prop where
  | node (a : VaA) (ks : List Va) (L A : Option Addr) (c d : Nat) (xs : List Value) (fs : Nat → List Nat) (h0 : a.ok) (h1 : w.ownsRow 0 9 1 (.slice L a.labels.length c) a.labels.length (a.labels.map Value.string)) (h2 : ks.length ≤ 9223372036854775807)
      (h3 : w.ownsRow 0 92 4 (.slice A ks.length d) ks.length xs) (h4 : ∀ j t, ks[j]? = some t → OVa w t (part4 xs j) (fs j)) (h5 : (blk L ++ blk A ++ (List.range ks.length).flatMap fs).Nodup) :
      OVa w (.node a ks) [.int .i64 a.kind, .int .i64 a.num, .slice L a.labels.length c, .slice A ks.length d] (blk L ++ blk A ++ (List.range ks.length).flatMap fs)

theorem OVa.reads {w : World} {t : Va} {cs : List Value} {fp : List Nat} (h : OVa w t cs fp) : RVa w t cs := by
  induction h with
  | node a ks L A c d xs fs h0 h1 h2 h3 _ _ ih =>
    have hx : xs.length = ks.length * 4 := h3.1
    refine .node a ks L A c d (part4 xs) (Sl.of_own h1) h0 h2 ?_ (fun j t hj => ih j t hj) (fun j t hj => ?_)
    · rcases h3.2 with ⟨_, h0⟩ | ⟨g, cap, cur, hv, _, _, hc, _⟩
      · omega
      · injection hv with _ _ e3
        omega
    have hj := (List.getElem?_eq_some_iff.1 hj).1
    rcases h3.2 with ⟨_, h0⟩ | ⟨g, cap, cur, hv, _⟩
    · omega
    · injection hv with e1 _ _
      subst e1
      refine ⟨_, rfl, fun i u hi => ?_⟩
      have hi3 : i < 4 := by
        have := (List.getElem?_eq_some_iff.1 hi).1
        rw [part4_len _ _ (by omega)] at this
        exact this
      rw [part4_get _ _ _ hi3] at hi
      exact h3.cells (g := g) rfl _ u hi
theorem OVa.keep {w w' : World} {t : Va} {cs : List Value} {fp : List Nat} {row : Option Nat} (h : OVa w t cs fp) (hg : w.grownBy w' row) (hne : ∀ b ∈ fp, some b ≠ row) : OVa w' t cs fp := by
  induction h with
  | node a ks L A c d xs fs h0 h1 h2 h3 h4 h5 ih =>
    refine .node a ks L A c d xs fs h0 (own_keep h1 hg (fun b hb => hne b (by simp [hb]))) h2 (own_keep h3 hg (fun b hb => hne b (by simp [hb]))) (fun j t hj => ih j t hj (fun b hb => hne b ?_)) h5
    rw [List.mem_append, List.mem_flatMap]
    exact .inr ⟨j, List.mem_range.2 (List.getElem?_eq_some_iff.1 hj).1, hb⟩
theorem OVa.under {w w' : World} {t : Va} {cs : List Value} {fp : List Nat} (h : OVa w t cs fp) (hb : Below w.heap.size w w') : OVa w' t cs fp :=
  h.keep (row := none) ⟨hb.os, hb.tape, hb.output, hb.size, fun i hi _ => hb.block i hi⟩ (fun b _ => by simp)
theorem OVa.nodup {w : World} {t : Va} {cs : List Value} {fp : List Nat} (h : OVa w t cs fp) : fp.Nodup := by
  cases h with
  | node a ks L A c d xs fs _ _ _ _ _ h5 => exact h5
/-- the four cells written out -/
theorem OVa.four {w : World} {t : Va} {cs : List Value} {fp : List Nat} (h : OVa w t cs fp) : ∃ L c A d, cs = [.int .i64 t.top.kind, .int .i64 t.top.num, .slice L t.top.labels.length c, .slice A t.kids.length d] := by
  cases h with
  | node a ks L A c d xs fs => exact ⟨L, c, A, d, rfl⟩

/-- a value in new memory -/
def MadeV (t : Va) (w : World) (e : Ending) (w' : World) : Prop :=
  ∃ (L A : Option Addr) (c d : Nat) (fp : List Nat), e = .returned (.agg #[.int .i64 t.top.kind, .int .i64 t.top.num, .slice L t.top.labels.length c, .slice A t.kids.length d]) ∧ OVa w' t [.int .i64 t.top.kind, .int .i64 t.top.num, .slice L t.top.labels.length c, .slice A t.kids.length d] fp ∧
    (∀ b ∈ fp, w.heap.size ≤ b ∧ b < w'.heap.size) ∧ Below w.heap.size w w'
end Go.Proofs.Ytlcpekpgkllbkaa

/-
  A block of four cells that is known whole. Hangs on no program.
-/
namespace Go.Proofs.Ytlcpekpgkllbkaa
open Go.RowKit

def Box4 (w : World) (g : Nat) (t : TypeId) (a b c d : Value) : Prop := w.heap[g]? = some (.cells #[a, b, c, d] t (0, 0))
section
variable {w w' : World} {g : Nat} {t : TypeId} {a b c d : Value}
theorem Box4.new (w : World) (t : TypeId) (a b c d : Value) : Box4 (w.alloc (.cells #[a, b, c, d] t)) w.heap.size t a b c d := heap_alloc_new w _
theorem Box4.lt (h : Box4 w g t a b c d) : g < w.heap.size := (Array.getElem?_eq_some_iff.1 h).1
theorem Box4.c0 (h : Box4 w g t a b c d) : w.cell? ⟨g, 0, none⟩ = some a := cell_of_row w g 0 _ t (0, 0) h
theorem Box4.c1 (h : Box4 w g t a b c d) : w.cell? ⟨g, 1, none⟩ = some b := cell_of_row w g 1 _ t (0, 0) h
theorem Box4.c2 (h : Box4 w g t a b c d) : w.cell? ⟨g, 2, none⟩ = some c := cell_of_row w g 2 _ t (0, 0) h
theorem Box4.c3 (h : Box4 w g t a b c d) : w.cell? ⟨g, 3, none⟩ = some d := cell_of_row w g 3 _ t (0, 0) h
theorem Box4.free (h : Box4 w g t a b c d) (i : Nat) : w.frozen? ⟨g, i, none⟩ = false := frozen_of_row w g i _ t h
theorem Box4.under (h : Box4 w g t a b c d) {B : Nat} (hb : Below B w w') (hg : g < B) : Box4 w' g t a b c d := (hb.block g hg).trans h
theorem Box4.alloc (h : Box4 w g t a b c d) (o : Obj) : Box4 (w.alloc o) g t a b c d := ((((Below.refl _ _).alloc (Nat.le_refl _) o : Below w.heap.size w (w.alloc o))).block g h.lt).trans h
theorem Box4.far (h : Box4 w g t a b c d) {p : Addr} (hp : g ≠ p.block) (u : Value) : Box4 (w.setCell p u) g t a b c d := (Below.heap_setCell w p u g hp).trans h
theorem Box4.set0 (h : Box4 w g t a b c d) (u : Value) : Box4 (w.setCell ⟨g, 0, none⟩ u) g t u b c d := heap_setCell_same w g 0 _ t u h
theorem Box4.set1 (h : Box4 w g t a b c d) (u : Value) : Box4 (w.setCell ⟨g, 1, none⟩ u) g t a u c d := heap_setCell_same w g 1 _ t u h
theorem Box4.set2 (h : Box4 w g t a b c d) (u : Value) : Box4 (w.setCell ⟨g, 2, none⟩ u) g t a b u d := heap_setCell_same w g 2 _ t u h
theorem Box4.set3 (h : Box4 w g t a b c d) (u : Value) : Box4 (w.setCell ⟨g, 3, none⟩ u) g t a b c u := heap_setCell_same w g 3 _ t u h
theorem Box4.grown {row : Option Nat} (h : Box4 w g t a b c d) (hg : w.grownBy w' row) (hne : some g ≠ row) : Box4 w' g t a b c d := (hg.block g h.lt hne).trans h
end
end Go.Proofs.Ytlcpekpgkllbkaa
