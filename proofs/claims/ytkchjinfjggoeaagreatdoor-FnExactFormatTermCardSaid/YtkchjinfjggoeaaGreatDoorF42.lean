/-
  Merged by program: Part8, TeOwn.
-/
import Derived.Test.YtkchjinfjggoeaaGreatDoorF1
import Derived.Test.YtkchjinfjggoeaaGreatDoorF2
import Derived.Test.YtkchjinfjggoeaaGreatDoorF13

/-
  Rows of structs of 8 cells: the part of one struct; a struct stored. Plain lists, and rows of the call's own. Written by genbox.py.
-/
namespace Go.Proofs.YtkchjinfjggoeaaGreatDoor
open Go.RowKit

theorem grown_trans8 {a b c : World} {g : Nat} (h : a.grownBy b (some g)) (k : b.grownBy c (some g)) : a.grownBy c (some g) :=
  ⟨k.os.trans h.os, k.tape.trans h.tape, k.output.trans h.output, Nat.le_trans h.size k.size, fun i hi hn => (k.block i (Nat.lt_of_lt_of_le hi h.size) hn).trans (h.block i hi hn)⟩
/-- the cells of the j-th struct -/
def part8 {β : Type} (xs : List β) (j : Nat) : List β := (xs.drop (j * 8)).take 8
theorem part8_get {β : Type} (xs : List β) (j i : Nat) (hi : i < 8) : (part8 xs j)[i]? = xs[j * 8 + i]? := by
  unfold part8
  rw [List.getElem?_take_of_lt hi, List.getElem?_drop]
theorem part8_len {β : Type} (xs : List β) (j : Nat) (h : j * 8 + 8 ≤ xs.length) : (part8 xs j).length = 8 := by
  unfold part8
  rw [List.length_take, List.length_drop]
  omega
theorem part8_ext {β : Type} {xs ys : List β} {j : Nat} (h : ∀ i, i < 8 → xs[j * 8 + i]? = ys[j * 8 + i]?) : part8 xs j = part8 ys j := by
  apply List.ext_getElem?
  intro i
  by_cases hi : i < 8
  · rw [part8_get _ _ _ hi, part8_get _ _ _ hi]; exact h i hi
  · unfold part8
    rw [List.getElem?_take_eq_none (by omega), List.getElem?_take_eq_none (by omega)]
/-- the j-th struct replaced -/
def put8 {β : Type} (xs : List β) (j : Nat) (a0 a1 a2 a3 a4 a5 a6 a7 : β) : List β := (((((((xs.set (j * 8) a0).set (j * 8 + 1) a1).set (j * 8 + 2) a2).set (j * 8 + 3) a3).set (j * 8 + 4) a4).set (j * 8 + 5) a5).set (j * 8 + 6) a6).set (j * 8 + 7) a7
theorem put8_len {β : Type} (xs : List β) (j : Nat) (a0 a1 a2 a3 a4 a5 a6 a7 : β) : (put8 xs j a0 a1 a2 a3 a4 a5 a6 a7).length = xs.length := by simp [put8]
theorem put8_at {β : Type} (xs : List β) (j : Nat) (a0 a1 a2 a3 a4 a5 a6 a7 : β) (h : j * 8 + 8 ≤ xs.length) : part8 (put8 xs j a0 a1 a2 a3 a4 a5 a6 a7) j = [a0, a1, a2, a3, a4, a5, a6, a7] := by
  apply List.ext_getElem?
  intro i
  by_cases hi : i < 8
  · rw [part8_get _ _ _ hi]
    unfold put8
    match i, hi with
    | 0, _ =>
      have h0 : j * 8 < xs.length := by omega
      simp [h0]
    | 1, _ =>
      have h0 : j * 8 + 1 < xs.length := by omega
      simp [h0]
    | 2, _ =>
      have h0 : j * 8 + 2 < xs.length := by omega
      simp [h0]
    | 3, _ =>
      have h0 : j * 8 + 3 < xs.length := by omega
      simp [h0]
    | 4, _ =>
      have h0 : j * 8 + 4 < xs.length := by omega
      simp [h0]
    | 5, _ =>
      have h0 : j * 8 + 5 < xs.length := by omega
      simp [h0]
    | 6, _ =>
      have h0 : j * 8 + 6 < xs.length := by omega
      simp [h0]
    | 7, _ =>
      have h0 : j * 8 + 7 < xs.length := by omega
      simp [h0]
  · rw [List.getElem?_eq_none (by rw [part8_len _ _ (by rw [put8_len]; exact h)]; omega), List.getElem?_eq_none (by simp; omega)]
theorem put8_other {β : Type} (xs : List β) (j k : Nat) (a0 a1 a2 a3 a4 a5 a6 a7 : β) (h : k ≠ j) : part8 (put8 xs j a0 a1 a2 a3 a4 a5 a6 a7) k = part8 xs k := by
  refine part8_ext fun i hi => ?_
  unfold put8
  rw [List.getElem?_set_ne (by omega), List.getElem?_set_ne (by omega), List.getElem?_set_ne (by omega), List.getElem?_set_ne (by omega), List.getElem?_set_ne (by omega), List.getElem?_set_ne (by omega), List.getElem?_set_ne (by omega), List.getElem?_set_ne (by omega)]

/-- 8 stores into a row of the call's own -/
def store8 (w : World) (g j : Nat) (a0 a1 a2 a3 a4 a5 a6 a7 : Value) : World := (((((((w.setCell ⟨g, j * 8, none⟩ a0).setCell ⟨g, j * 8 + 1, none⟩ a1).setCell ⟨g, j * 8 + 2, none⟩ a2).setCell ⟨g, j * 8 + 3, none⟩ a3).setCell ⟨g, j * 8 + 4, none⟩ a4).setCell ⟨g, j * 8 + 5, none⟩ a5).setCell ⟨g, j * 8 + 6, none⟩ a6).setCell ⟨g, j * 8 + 7, none⟩ a7
theorem own_store8 {w : World} {base g n cap : Nat} {e : TypeId} {xs : List Value} (h : w.ownsRow base e 8 (.slice (some ⟨g, 0, none⟩) n cap) n xs) (j : Nat) (a0 a1 a2 a3 a4 a5 a6 a7 : Value) :
    (store8 w g j a0 a1 a2 a3 a4 a5 a6 a7).ownsRow base e 8 (.slice (some ⟨g, 0, none⟩) n cap) n (put8 xs j a0 a1 a2 a3 a4 a5 a6 a7) ∧ w.grownBy (store8 w g j a0 a1 a2 a3 a4 a5 a6 a7) (some g) := by
  have h1 := h.stored (j * 8) a0
  have h2 := h1.1.stored (j * 8 + 1) a1
  have h3 := h2.1.stored (j * 8 + 2) a2
  have h4 := h3.1.stored (j * 8 + 3) a3
  have h5 := h4.1.stored (j * 8 + 4) a4
  have h6 := h5.1.stored (j * 8 + 5) a5
  have h7 := h6.1.stored (j * 8 + 6) a6
  have h8 := h7.1.stored (j * 8 + 7) a7
  refine ⟨h8.1, ?_⟩
  have g1 := h1.2
  have g2 := grown_trans8 g1 h2.2
  have g3 := grown_trans8 g2 h3.2
  have g4 := grown_trans8 g3 h4.2
  have g5 := grown_trans8 g4 h5.2
  have g6 := grown_trans8 g5 h6.2
  have g7 := grown_trans8 g6 h7.2
  have g8 := grown_trans8 g7 h8.2
  exact g8
end Go.Proofs.YtkchjinfjggoeaaGreatDoor

/-
  A term in memory of the call's own: its rows, one block each, no two alike.
-/
namespace Go.Proofs.YtkchjinfjggoeaaGreatDoor
open Go.RowKit

/-- the eight cells are a term of the call's own; its blocks -/
inductive OTe (w : World) : Te → List Value → List Nat → Prop where
  | node (a : TeA) (ks : List Te) (TL TA L A : Option Addr) (tc td c d : Nat) (fpT : List Nat) (xs : List Value) (fs : Nat → List Nat) (h0 : a.ok) (hT : OTy w a.type [.int .i64 a.type.top.kind, .slice TL a.type.top.labels.length tc, .slice TA a.type.kids.length td] fpT)
      (h1 : w.ownsRow 0 9 1 (.slice L a.labels.length c) a.labels.length (a.labels.map Value.string)) (h2 : ks.length ≤ 9223372036854775807)
      (h3 : w.ownsRow 0 30 8 (.slice A ks.length d) ks.length xs) (h4 : ∀ j t, ks[j]? = some t → OTe w t (part8 xs j) (fs j)) (h5 : (fpT ++ (blk L ++ blk A ++ (List.range ks.length).flatMap fs)).Nodup) :
      OTe w (.node a ks) [.int .i64 a.kind, .string a.name, .int .i64 a.num, .int .i64 a.type.top.kind, .slice TL a.type.top.labels.length tc, .slice TA a.type.kids.length td, .slice L a.labels.length c, .slice A ks.length d] (fpT ++ (blk L ++ blk A ++ (List.range ks.length).flatMap fs))

theorem OTe.reads {w : World} {t : Te} {cs : List Value} {fp : List Nat} (h : OTe w t cs fp) : RTe w t cs := by
  induction h with
  | node a ks TL TA L A tc td c d fpT xs fs h0 hT h1 h2 h3 _ _ ih =>
    have hx : xs.length = ks.length * 8 := h3.1
    refine .node a ks TL TA L A tc td c d (part8 xs) hT.reads (Sl.of_own h1) h0 h2 ?_ (fun j t hj => ih j t hj) (fun j t hj => ?_)
    · rcases h3.2 with ⟨_, h0⟩ | ⟨g, cap, cur, hv, _, _, hc, _⟩
      · omega
      · injection hv with _ _ e3
        omega
    have hj := (List.getElem?_eq_some_iff.1 hj).1
    rcases h3.2 with ⟨_, h0⟩ | ⟨g, cap, cur, hv, _⟩
    · omega
    · injection hv with e1 _ _
      subst e1
      refine ⟨_, rfl, fun i u hi => ?_⟩
      have hi3 : i < 8 := by
        have := (List.getElem?_eq_some_iff.1 hi).1
        rw [part8_len _ _ (by omega)] at this
        exact this
      rw [part8_get _ _ _ hi3] at hi
      exact h3.cells (g := g) rfl _ u hi
theorem OTe.keep {w w' : World} {t : Te} {cs : List Value} {fp : List Nat} {row : Option Nat} (h : OTe w t cs fp) (hg : w.grownBy w' row) (hne : ∀ b ∈ fp, some b ≠ row) : OTe w' t cs fp := by
  induction h with
  | node a ks TL TA L A tc td c d fpT xs fs h0 hT h1 h2 h3 h4 h5 ih =>
    refine .node a ks TL TA L A tc td c d fpT xs fs h0 (hT.keep hg (fun b hb => hne b (by simp [hb]))) (own_keep h1 hg (fun b hb => hne b (by simp [hb]))) h2 (own_keep h3 hg (fun b hb => hne b (by simp [hb]))) (fun j t hj => ih j t hj (fun b hb => hne b ?_)) h5
    rw [List.mem_append, List.mem_append, List.mem_flatMap]
    exact .inr (.inr ⟨j, List.mem_range.2 (List.getElem?_eq_some_iff.1 hj).1, hb⟩)
theorem OTe.under {w w' : World} {t : Te} {cs : List Value} {fp : List Nat} (h : OTe w t cs fp) (hb : Below w.heap.size w w') : OTe w' t cs fp :=
  h.keep (row := none) ⟨hb.os, hb.tape, hb.output, hb.size, fun i hi _ => hb.block i hi⟩ (fun b _ => by simp)
theorem OTe.nodup {w : World} {t : Te} {cs : List Value} {fp : List Nat} (h : OTe w t cs fp) : fp.Nodup := by
  cases h with
  | node a ks TL TA L A tc td c d fpT xs fs _ _ _ _ _ _ h5 => exact h5
/-- the eight cells written out -/
theorem OTe.eight {w : World} {t : Te} {cs : List Value} {fp : List Nat} (h : OTe w t cs fp) : ∃ TL tc TA td L c A d, cs = [.int .i64 t.top.kind, .string t.top.name, .int .i64 t.top.num, .int .i64 t.top.type.top.kind, .slice TL t.top.type.top.labels.length tc, .slice TA t.top.type.kids.length td, .slice L t.top.labels.length c, .slice A t.kids.length d] := by
  obtain ⟨TL, tc, TA, td, L, c, A, d, e, _⟩ := h.reads.open
  exact ⟨TL, tc, TA, td, L, c, A, d, e⟩

/-- the cells of a term that lies in these slices -/
def teCells (t : Te) (TL : Option Addr) (tc : Nat) (TA : Option Addr) (td : Nat) (L : Option Addr) (c : Nat) (A : Option Addr) (d : Nat) : List Value := [.int .i64 t.top.kind, .string t.top.name, .int .i64 t.top.num, .int .i64 t.top.type.top.kind, .slice TL t.top.type.top.labels.length tc, .slice TA t.top.type.kids.length td, .slice L t.top.labels.length c, .slice A t.kids.length d]
/-- a term in new memory -/
def MadeTe (t : Te) (w : World) (e : Ending) (w' : World) : Prop :=
  ∃ (TL : Option Addr) (tc : Nat) (TA : Option Addr) (td : Nat) (L : Option Addr) (c : Nat) (A : Option Addr) (d : Nat) (fp : List Nat), e = .returned (.agg #[.int .i64 t.top.kind, .string t.top.name, .int .i64 t.top.num, .int .i64 t.top.type.top.kind, .slice TL t.top.type.top.labels.length tc, .slice TA t.top.type.kids.length td, .slice L t.top.labels.length c, .slice A t.kids.length d]) ∧
    OTe w' t (teCells t TL tc TA td L c A d) fp ∧ (∀ b ∈ fp, w.heap.size ≤ b ∧ b < w'.heap.size) ∧ Below w.heap.size w w'
end Go.Proofs.YtkchjinfjggoeaaGreatDoor
