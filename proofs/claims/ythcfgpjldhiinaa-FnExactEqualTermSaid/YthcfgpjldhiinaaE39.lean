/-
  Merged by program: TeOwn.
-/
import Derived.Test.YthcfgpjldhiinaaE10
import Derived.Test.YthcfgpjldhiinaaE32
import Derived.Test.YthcfgpjldhiinaaE38

/-
  A term in memory of the call's own: its rows, one block each, no two alike.
-/
namespace Go.Proofs.Ythcfgpjldhiinaa
open Go.RowKit

/-- the eight cells are a term of the call's own; its blocks -/
inductive OTe (w : World) : Te → List Value → List Nat → Prop where
  | node (a : TeA) (ks : List Te) (TL TA L A : Option Addr) (tc td c d : Nat) (fpT : List Nat) (xs : List Value) (fs : Nat → List Nat) (h0 : a.ok) (hT : OTy w a.type [.int .i64 a.type.top.kind, .slice TL a.type.top.labels.length tc, .slice TA a.type.kids.length td] fpT)
      (h1 : w.ownsRow 0 9 1 (.slice L a.labels.length c) a.labels.length (a.labels.map Value.string)) (h2 : ks.length ≤ 9223372036854775807)
      (h3 : w.ownsRow 0 38 8 (.slice A ks.length d) ks.length xs) (h4 : ∀ j t, ks[j]? = some t → OTe w t (part8 xs j) (fs j)) (h5 : (fpT ++ (blk L ++ blk A ++ (List.range ks.length).flatMap fs)).Nodup) :
      OTe w (.node a ks) [.int .i64 a.kind, .string a.name, .int .i64 a.num, .int .i64 a.type.top.kind, .slice TL a.type.top.labels.length tc, .slice TA a.type.kids.length td, .slice L a.labels.length c, .slice A ks.length d] (fpT ++ (blk L ++ blk A ++ (List.range ks.length).flatMap fs))

theorem OTe.reads {w : World} {t : Te} {cs : List Value} {fp : List Nat} (h : OTe w t cs fp) : RTe w t cs := by
  induction h with
  | node a ks TL TA L A tc td c d fpT xs fs h0 hT h1 h2 h3 _ _ ih =>
    have hx : xs.length = ks.length * 8 := h3.1
    refine .node a ks TL TA L A tc td c d (part8 xs) hT.reads (Sl.of_own h1) h0 h2 ?_ (fun j t hj => ih j t hj) (fun j t hj => ?_)
    · rcases h3.2 with ⟨_, h0⟩ | ⟨g, cap, cur, hv, _, _, hc, _⟩
      · omega
      · injection hv with _ _ e3
        omega
    have hj := (List.getElem?_eq_some_iff.1 hj).1
    rcases h3.2 with ⟨_, h0⟩ | ⟨g, cap, cur, hv, _⟩
    · omega
    · injection hv with e1 _ _
      subst e1
      refine ⟨_, rfl, fun i u hi => ?_⟩
      have hi3 : i < 8 := by
        have := (List.getElem?_eq_some_iff.1 hi).1
        rw [part8_len _ _ (by omega)] at this
        exact this
      rw [part8_get _ _ _ hi3] at hi
      exact h3.cells (g := g) rfl _ u hi
theorem OTe.keep {w w' : World} {t : Te} {cs : List Value} {fp : List Nat} {row : Option Nat} (h : OTe w t cs fp) (hg : w.grownBy w' row) (hne : ∀ b ∈ fp, some b ≠ row) : OTe w' t cs fp := by
  induction h with
  | node a ks TL TA L A tc td c d fpT xs fs h0 hT h1 h2 h3 h4 h5 ih =>
    refine .node a ks TL TA L A tc td c d fpT xs fs h0 (hT.keep hg (fun b hb => hne b (by simp [hb]))) (own_keep h1 hg (fun b hb => hne b (by simp [hb]))) h2 (own_keep h3 hg (fun b hb => hne b (by simp [hb]))) (fun j t hj => ih j t hj (fun b hb => hne b ?_)) h5
    rw [List.mem_append, List.mem_append, List.mem_flatMap]
    exact .inr (.inr ⟨j, List.mem_range.2 (List.getElem?_eq_some_iff.1 hj).1, hb⟩)
theorem OTe.under {w w' : World} {t : Te} {cs : List Value} {fp : List Nat} (h : OTe w t cs fp) (hb : Below w.heap.size w w') : OTe w' t cs fp :=
  h.keep (row := none) ⟨hb.os, hb.tape, hb.output, hb.size, fun i hi _ => hb.block i hi⟩ (fun b _ => by simp)
theorem OTe.nodup {w : World} {t : Te} {cs : List Value} {fp : List Nat} (h : OTe w t cs fp) : fp.Nodup := by
  cases h with
  | node a ks TL TA L A tc td c d fpT xs fs _ _ _ _ _ _ h5 => exact h5
/-- the eight cells written out -/
theorem OTe.eight {w : World} {t : Te} {cs : List Value} {fp : List Nat} (h : OTe w t cs fp) : ∃ TL tc TA td L c A d, cs = [.int .i64 t.top.kind, .string t.top.name, .int .i64 t.top.num, .int .i64 t.top.type.top.kind, .slice TL t.top.type.top.labels.length tc, .slice TA t.top.type.kids.length td, .slice L t.top.labels.length c, .slice A t.kids.length d] := by
  obtain ⟨TL, tc, TA, td, L, c, A, d, e, _⟩ := h.reads.open
  exact ⟨TL, tc, TA, td, L, c, A, d, e⟩

/-- the cells of a term that lies in these slices -/
def teCells (t : Te) (TL : Option Addr) (tc : Nat) (TA : Option Addr) (td : Nat) (L : Option Addr) (c : Nat) (A : Option Addr) (d : Nat) : List Value := [.int .i64 t.top.kind, .string t.top.name, .int .i64 t.top.num, .int .i64 t.top.type.top.kind, .slice TL t.top.type.top.labels.length tc, .slice TA t.top.type.kids.length td, .slice L t.top.labels.length c, .slice A t.kids.length d]
/-- a term in new memory -/
def MadeTe (t : Te) (w : World) (e : Ending) (w' : World) : Prop :=
  ∃ (TL : Option Addr) (tc : Nat) (TA : Option Addr) (td : Nat) (L : Option Addr) (c : Nat) (A : Option Addr) (d : Nat) (fp : List Nat), e = .returned (.agg #[.int .i64 t.top.kind, .string t.top.name, .int .i64 t.top.num, .int .i64 t.top.type.top.kind, .slice TL t.top.type.top.labels.length tc, .slice TA t.top.type.kids.length td, .slice L t.top.labels.length c, .slice A t.kids.length d]) ∧
    OTe w' t (teCells t TL tc TA td L c A d) fp ∧ (∀ b ∈ fp, w.heap.size ≤ b ∧ b < w'.heap.size) ∧ Below w.heap.size w w'
end Go.Proofs.Ythcfgpjldhiinaa
