/-
  Merged by program: VaOwn.
-/
import Derived.Test.YtckoookgjhngkaaDoorFV5
import Derived.Test.YtckoookgjhngkaaDoorFV26
import Derived.Test.YtckoookgjhngkaaDoorFV19

/-
  A value in memory of the call's own: its rows, one block each, no two alike.
-/
namespace Go.Proofs.YtckoookgjhngkaaDoor
open Go.RowKit

/-- the four cells are a value of the call's own; its blocks -/
inductive OVa (w : World) : Va → List Value → List Nat → Prop where
  | node (a : VaA) (ks : List Va) (L A : Option Addr) (c d : Nat) (xs : List Value) (fs : Nat → List Nat) (h0 : a.ok) (h1 : w.ownsRow 0 9 1 (.slice L a.labels.length c) a.labels.length (a.labels.map Value.string)) (h2 : ks.length ≤ 9223372036854775807)
      (h3 : w.ownsRow 0 30 4 (.slice A ks.length d) ks.length xs) (h4 : ∀ j t, ks[j]? = some t → OVa w t (part4 xs j) (fs j)) (h5 : (blk L ++ blk A ++ (List.range ks.length).flatMap fs).Nodup) :
      OVa w (.node a ks) [.int .i64 a.kind, .int .i64 a.num, .slice L a.labels.length c, .slice A ks.length d] (blk L ++ blk A ++ (List.range ks.length).flatMap fs)

theorem OVa.reads {w : World} {t : Va} {cs : List Value} {fp : List Nat} (h : OVa w t cs fp) : RVa w t cs := by
  induction h with
  | node a ks L A c d xs fs h0 h1 h2 h3 _ _ ih =>
    have hx : xs.length = ks.length * 4 := h3.1
    refine .node a ks L A c d (part4 xs) (Sl.of_own h1) h0 h2 ?_ (fun j t hj => ih j t hj) (fun j t hj => ?_)
    · rcases h3.2 with ⟨_, h0⟩ | ⟨g, cap, cur, hv, _, _, hc, _⟩
      · omega
      · injection hv with _ _ e3
        omega
    have hj := (List.getElem?_eq_some_iff.1 hj).1
    rcases h3.2 with ⟨_, h0⟩ | ⟨g, cap, cur, hv, _⟩
    · omega
    · injection hv with e1 _ _
      subst e1
      refine ⟨_, rfl, fun i u hi => ?_⟩
      have hi3 : i < 4 := by
        have := (List.getElem?_eq_some_iff.1 hi).1
        rw [part4_len _ _ (by omega)] at this
        exact this
      rw [part4_get _ _ _ hi3] at hi
      exact h3.cells (g := g) rfl _ u hi
theorem OVa.keep {w w' : World} {t : Va} {cs : List Value} {fp : List Nat} {row : Option Nat} (h : OVa w t cs fp) (hg : w.grownBy w' row) (hne : ∀ b ∈ fp, some b ≠ row) : OVa w' t cs fp := by
  induction h with
  | node a ks L A c d xs fs h0 h1 h2 h3 h4 h5 ih =>
    refine .node a ks L A c d xs fs h0 (own_keep h1 hg (fun b hb => hne b (by simp [hb]))) h2 (own_keep h3 hg (fun b hb => hne b (by simp [hb]))) (fun j t hj => ih j t hj (fun b hb => hne b ?_)) h5
    rw [List.mem_append, List.mem_flatMap]
    exact .inr ⟨j, List.mem_range.2 (List.getElem?_eq_some_iff.1 hj).1, hb⟩
theorem OVa.under {w w' : World} {t : Va} {cs : List Value} {fp : List Nat} (h : OVa w t cs fp) (hb : Below w.heap.size w w') : OVa w' t cs fp :=
  h.keep (row := none) ⟨hb.os, hb.tape, hb.output, hb.size, fun i hi _ => hb.block i hi⟩ (fun b _ => by simp)
theorem OVa.nodup {w : World} {t : Va} {cs : List Value} {fp : List Nat} (h : OVa w t cs fp) : fp.Nodup := by
  cases h with
  | node a ks L A c d xs fs _ _ _ _ _ h5 => exact h5
/-- the four cells written out -/
theorem OVa.four {w : World} {t : Va} {cs : List Value} {fp : List Nat} (h : OVa w t cs fp) : ∃ L c A d, cs = [.int .i64 t.top.kind, .int .i64 t.top.num, .slice L t.top.labels.length c, .slice A t.kids.length d] := by
  cases h with
  | node a ks L A c d xs fs => exact ⟨L, c, A, d, rfl⟩

/-- a value in new memory -/
def MadeV (t : Va) (w : World) (e : Ending) (w' : World) : Prop :=
  ∃ (L A : Option Addr) (c d : Nat) (fp : List Nat), e = .returned (.agg #[.int .i64 t.top.kind, .int .i64 t.top.num, .slice L t.top.labels.length c, .slice A t.kids.length d]) ∧ OVa w' t [.int .i64 t.top.kind, .int .i64 t.top.num, .slice L t.top.labels.length c, .slice A t.kids.length d] fp ∧
    (∀ b ∈ fp, w.heap.size ≤ b ∧ b < w'.heap.size) ∧ Below w.heap.size w w'
end Go.Proofs.YtckoookgjhngkaaDoor
