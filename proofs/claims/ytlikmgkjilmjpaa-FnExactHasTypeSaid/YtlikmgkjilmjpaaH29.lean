/-
  Merged by program: NodVK, Part4, VaOwn.
-/
import Derived.Test.YtlikmgkjilmjpaaH28
import Derived.Test.YtlikmgkjilmjpaaH9
import Derived.Test.YtlikmgkjilmjpaaH10
import Derived.Test.YtlikmgkjilmjpaaH1
import Derived.Test.YtlikmgkjilmjpaaH16

/-
  A node of impl.Value: its parts as a list to come; the program's argsOfValue. Written by wip/tools/mknod.py.
-/
namespace Go.Proofs.Ytlikmgkjilmjpaa
open Go.RowKit

/-- a node's cells in the form that a store asks for -/
theorem rd_shapeV {w : World} {x : Va} {c0 c1 c2 c3 : Value} (h : RVa w x [c0, c1, c2, c3]) : ∃ ek en eL el elc, c0 = .int .i64 ek ∧ c1 = .int .i64 en ∧ c2 = .slice eL el elc := by
  obtain ⟨LL, c, A, d, e, _⟩ := h.open
  simp only [List.cons.injEq, and_true] at e
  exact ⟨_, _, _, _, _, e.1, e.2.1, e.2.2.1⟩
/-- the parts of a node -/
theorem rd_kidsV {w : World} {x : Va} {c0 c1 c2 c3 : Value} (h : RVa w x [c0, c1, c2, c3]) : ∃ A d, c3 = .slice A x.kids.length d ∧ x.kids.length ≤ d ∧ x.kids.length ≤ 9223372036854775807 ∧ RowN (RVa w) 4 w A x.kids := by
  obtain ⟨LL, c, A, d, e, h1, h2, h3, h4⟩ := h.open
  simp only [List.cons.injEq, and_true] at e
  obtain ⟨rfl, rfl, rfl, rfl⟩ := e
  exact ⟨A, d, rfl, h.cap, h3, h4⟩
/-- the parts of a node, as a list to come -/
theorem nlist_kidsV {w W : World} {K : Nat → Prop} {x : Va} {A : Option Addr} {d : Nat} (h0 : 0 < x.kids.length) (hd : x.kids.length ≤ d) (hl : x.kids.length ≤ 9223372036854775807) (h : RowN (RVa w) 4 w A x.kids)
    (hW : Below w.heap.size w W) (hK : ∀ b, b < w.heap.size → K b) : ∃ ad, A = some ad ∧ NList (RVa w) 4 W K x.kids (.slice A x.kids.length d) := by
  obtain ⟨ps, hp⟩ := h
  obtain ⟨h1, ad, rfl, h3⟩ := hp 0 _ (List.getElem?_eq_getElem h0)
  obtain ⟨c0, c1, c2, c3, he⟩ := h1.four
  rw [he] at h3
  have hb := World.block_lt_of_cell? w _ (h3 0 _ rfl)
  rw [addr_block] at hb
  exact ⟨ad, rfl, ad, d, rfl, hd, hl, h0, hK _ hb, RowN.held ⟨ps, hp⟩ fun b hb => hW.block b hb⟩

def ArgsAtV (c0 c1 c2 c3 : Value) (w : World) (e : Ending) (w' : World) : Prop := e = .returned c3 ∧ w' = w.alloc (.cells #[c0, c1, c2, c3] 30)
theorem argsV_any (c0 c1 c2 c3 : Value) (w : World) : Calls Try.prog 54 #[.agg #[c0, c1, c2, c3]] w (ArgsAtV c0 c1 c2 c3 w) := by
  have hR : Hid (ArgsAtV c0 c1 c2 c3 w (.returned c3) (w.alloc (.cells #[c0, c1, c2, c3] 30))) := ⟨rfl, rfl⟩
  go_enter Try.func54, Try.ntmps54
  go_wp2_with fail
  go_ret
  exact hR.out
end Go.Proofs.Ytlikmgkjilmjpaa

/-
  Rows of structs of four cells: the part of one struct; a struct stored. Plain lists, and rows of the call's own.
-/
namespace Go.Proofs.Ytlikmgkjilmjpaa
open Go.RowKit

/-- the cells of the j-th struct -/
def part4 {β : Type} (xs : List β) (j : Nat) : List β := (xs.drop (j * 4)).take 4
theorem part4_get {β : Type} (xs : List β) (j i : Nat) (hi : i < 4) : (part4 xs j)[i]? = xs[j * 4 + i]? := by
  unfold part4
  rw [List.getElem?_take_of_lt hi, List.getElem?_drop]
theorem part4_len {β : Type} (xs : List β) (j : Nat) (h : j * 4 + 4 ≤ xs.length) : (part4 xs j).length = 4 := by
  unfold part4
  rw [List.length_take, List.length_drop]
  omega
theorem part4_ext {β : Type} {xs ys : List β} {j : Nat} (h : ∀ i, i < 4 → xs[j * 4 + i]? = ys[j * 4 + i]?) : part4 xs j = part4 ys j := by
  apply List.ext_getElem?
  intro i
  by_cases hi : i < 4
  · rw [part4_get _ _ _ hi, part4_get _ _ _ hi]; exact h i hi
  · unfold part4
    rw [List.getElem?_take_eq_none (by omega), List.getElem?_take_eq_none (by omega)]
/-- the j-th struct replaced -/
def put4 {β : Type} (xs : List β) (j : Nat) (a b c d : β) : List β := (((xs.set (j * 4) a).set (j * 4 + 1) b).set (j * 4 + 2) c).set (j * 4 + 3) d
theorem put4_len {β : Type} (xs : List β) (j : Nat) (a b c d : β) : (put4 xs j a b c d).length = xs.length := by simp [put4]
theorem put4_at {β : Type} (xs : List β) (j : Nat) (a b c d : β) (h : j * 4 + 4 ≤ xs.length) : part4 (put4 xs j a b c d) j = [a, b, c, d] := by
  apply List.ext_getElem?
  intro i
  by_cases hi : i < 4
  · rw [part4_get _ _ _ hi]
    unfold put4
    have h0 : j * 4 < xs.length := by omega
    have h1 : j * 4 + 1 < xs.length := by omega
    have h2 : j * 4 + 2 < xs.length := by omega
    have h3 : j * 4 + 3 < xs.length := by omega
    match i, hi with
    | 0, _ => simp [h0]
    | 1, _ => simp [h1]
    | 2, _ => simp [h2]
    | 3, _ => simp [h3]
  · rw [List.getElem?_eq_none (by rw [part4_len _ _ (by rw [put4_len]; exact h)]; omega), List.getElem?_eq_none (by simp; omega)]
theorem put4_other {β : Type} (xs : List β) (j k : Nat) (a b c d : β) (h : k ≠ j) : part4 (put4 xs j a b c d) k = part4 xs k := by
  refine part4_ext fun i hi => ?_
  unfold put4
  rw [List.getElem?_set_ne (by omega), List.getElem?_set_ne (by omega), List.getElem?_set_ne (by omega), List.getElem?_set_ne (by omega)]

/-- four stores into a row of the call's own -/
def store4 (w : World) (g j : Nat) (a b c d : Value) : World := (((w.setCell ⟨g, j * 4, none⟩ a).setCell ⟨g, j * 4 + 1, none⟩ b).setCell ⟨g, j * 4 + 2, none⟩ c).setCell ⟨g, j * 4 + 3, none⟩ d
theorem own_store4 {w : World} {base g n cap : Nat} {e : TypeId} {xs : List Value} (h : w.ownsRow base e 4 (.slice (some ⟨g, 0, none⟩) n cap) n xs) (j : Nat) (a b c d : Value) :
    (store4 w g j a b c d).ownsRow base e 4 (.slice (some ⟨g, 0, none⟩) n cap) n (put4 xs j a b c d) ∧ w.grownBy (store4 w g j a b c d) (some g) := by
  have h1 := h.stored (j * 4) a
  have h2 := h1.1.stored (j * 4 + 1) b
  have h3 := h2.1.stored (j * 4 + 2) c
  have h4 := h3.1.stored (j * 4 + 3) d
  have s3 := Nat.le_trans h1.2.size (Nat.le_trans h2.2.size h3.2.size)
  refine ⟨h4.1, ⟨rfl, rfl, rfl, ?_, fun k hk hne => ?_⟩⟩
  · exact Nat.le_trans s3 h4.2.size
  · exact (h4.2.block k (Nat.lt_of_lt_of_le hk s3) hne).trans ((h3.2.block k (Nat.lt_of_lt_of_le hk (Nat.le_trans h1.2.size h2.2.size)) hne).trans ((h2.2.block k (Nat.lt_of_lt_of_le hk h1.2.size) hne).trans (h1.2.block k hk hne)))
end Go.Proofs.Ytlikmgkjilmjpaa

/-
  A value in memory of the call's own: its rows, one block each, no two alike.
-/
namespace Go.Proofs.Ytlikmgkjilmjpaa
open Go.RowKit

/-- the four cells are a value of the call's own; its blocks -/
inductive OVa (w : World) : Va → List Value → List Nat → Prop where
  | node (a : VaA) (ks : List Va) (L A : Option Addr) (c d : Nat) (xs : List Value) (fs : Nat → List Nat) (h0 : a.ok) (h1 : w.ownsRow 0 9 1 (.slice L a.labels.length c) a.labels.length (a.labels.map Value.string)) (h2 : ks.length ≤ 9223372036854775807)
      (h3 : w.ownsRow 0 30 4 (.slice A ks.length d) ks.length xs) (h4 : ∀ j t, ks[j]? = some t → OVa w t (part4 xs j) (fs j)) (h5 : (blk L ++ blk A ++ (List.range ks.length).flatMap fs).Nodup) :
      OVa w (.node a ks) [.int .i64 a.kind, .int .i64 a.num, .slice L a.labels.length c, .slice A ks.length d] (blk L ++ blk A ++ (List.range ks.length).flatMap fs)

theorem OVa.reads {w : World} {t : Va} {cs : List Value} {fp : List Nat} (h : OVa w t cs fp) : RVa w t cs := by
  induction h with
  | node a ks L A c d xs fs h0 h1 h2 h3 _ _ ih =>
    have hx : xs.length = ks.length * 4 := h3.1
    refine .node a ks L A c d (part4 xs) (Sl.of_own h1) h0 h2 ?_ (fun j t hj => ih j t hj) (fun j t hj => ?_)
    · rcases h3.2 with ⟨_, h0⟩ | ⟨g, cap, cur, hv, _, _, hc, _⟩
      · omega
      · injection hv with _ _ e3
        omega
    have hj := (List.getElem?_eq_some_iff.1 hj).1
    rcases h3.2 with ⟨_, h0⟩ | ⟨g, cap, cur, hv, _⟩
    · omega
    · injection hv with e1 _ _
      subst e1
      refine ⟨_, rfl, fun i u hi => ?_⟩
      have hi3 : i < 4 := by
        have := (List.getElem?_eq_some_iff.1 hi).1
        rw [part4_len _ _ (by omega)] at this
        exact this
      rw [part4_get _ _ _ hi3] at hi
      exact h3.cells (g := g) rfl _ u hi
theorem OVa.keep {w w' : World} {t : Va} {cs : List Value} {fp : List Nat} {row : Option Nat} (h : OVa w t cs fp) (hg : w.grownBy w' row) (hne : ∀ b ∈ fp, some b ≠ row) : OVa w' t cs fp := by
  induction h with
  | node a ks L A c d xs fs h0 h1 h2 h3 h4 h5 ih =>
    refine .node a ks L A c d xs fs h0 (own_keep h1 hg (fun b hb => hne b (by simp [hb]))) h2 (own_keep h3 hg (fun b hb => hne b (by simp [hb]))) (fun j t hj => ih j t hj (fun b hb => hne b ?_)) h5
    rw [List.mem_append, List.mem_flatMap]
    exact .inr ⟨j, List.mem_range.2 (List.getElem?_eq_some_iff.1 hj).1, hb⟩
theorem OVa.under {w w' : World} {t : Va} {cs : List Value} {fp : List Nat} (h : OVa w t cs fp) (hb : Below w.heap.size w w') : OVa w' t cs fp :=
  h.keep (row := none) ⟨hb.os, hb.tape, hb.output, hb.size, fun i hi _ => hb.block i hi⟩ (fun b _ => by simp)
theorem OVa.nodup {w : World} {t : Va} {cs : List Value} {fp : List Nat} (h : OVa w t cs fp) : fp.Nodup := by
  cases h with
  | node a ks L A c d xs fs _ _ _ _ _ h5 => exact h5
/-- the four cells written out -/
theorem OVa.four {w : World} {t : Va} {cs : List Value} {fp : List Nat} (h : OVa w t cs fp) : ∃ L c A d, cs = [.int .i64 t.top.kind, .int .i64 t.top.num, .slice L t.top.labels.length c, .slice A t.kids.length d] := by
  cases h with
  | node a ks L A c d xs fs => exact ⟨L, c, A, d, rfl⟩

/-- a value in new memory -/
def MadeV (t : Va) (w : World) (e : Ending) (w' : World) : Prop :=
  ∃ (L A : Option Addr) (c d : Nat) (fp : List Nat), e = .returned (.agg #[.int .i64 t.top.kind, .int .i64 t.top.num, .slice L t.top.labels.length c, .slice A t.kids.length d]) ∧ OVa w' t [.int .i64 t.top.kind, .int .i64 t.top.num, .slice L t.top.labels.length c, .slice A t.kids.length d] fp ∧
    (∀ b ∈ fp, w.heap.size ≤ b ∧ b < w'.heap.size) ∧ Below w.heap.size w w'
end Go.Proofs.Ytlikmgkjilmjpaa
