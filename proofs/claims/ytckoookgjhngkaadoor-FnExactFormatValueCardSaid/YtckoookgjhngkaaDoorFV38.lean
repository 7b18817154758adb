/-
  Merged by program: LevSize, ValSize.
-/
import Derived.Test.YtckoookgjhngkaaDoorFV26
import Derived.Test.YtckoookgjhngkaaDoorFV37
import Derived.Test.YtckoookgjhngkaaDoorFV4

/-
  The program's SizeOfType and DepthOfType.
-/
namespace Go.Proofs.YtckoookgjhngkaaDoor
open Go.RowKit Go.Shelf

attribute [local go_sem] Oper.semAt_some

/-- a variable holds a number; what was there is as it was -/
def CountI (w : World) (B : Nat) (q : Nat) (W : World) : Prop := Boxed W B 3 (.int .i64 (q : Int)) ∧ Below w.heap.size w W
theorem boxed_below {A C : World} {B D : Nat} {ty : TypeId} {v : Value} (h : Boxed A B ty v) (hb : Below D A C) (hB : B < D) : Boxed C B ty v := (hb.block B hB).trans h
theorem CountI.under {w A C : World} {B q D : Nat} (h : CountI w B q A) (hb : Below D A C) (hB : B < D) (hw : w.heap.size ≤ D) : CountI w B q C :=
  ⟨boxed_below h.1 hb hB, h.2.trans (hb.mono hw)⟩
theorem CountI.set {w W : World} {B q m : Nat} (h : CountI w B q W) (hB : w.heap.size ≤ B) : CountI w B m (W.setCell ⟨B, 0, none⟩ (.int .i64 (m : Int))) :=
  ⟨h.1.set _, h.2.setCell (p := ⟨B, 0, none⟩) hB _⟩

end Go.Proofs.YtckoookgjhngkaaDoor

/-
  The program's SizeOfValue.
-/
namespace Go.Proofs.YtckoookgjhngkaaDoor
open Go.RowKit Go.Shelf

attribute [local go_sem] Oper.semAt_some

/-- between two rounds: the variable at C holds how many nodes were given -/
def CntV (w : World) (G C M : Nat) (S : Stk) (F : Nat → Prop) (W : World) : Prop :=
  F = (fun b => b = C) ∧ C < W.heap.size ∧ Below w.heap.size w W ∧ StkR w G S W ∧ ∃ q, q + sizesS S = M ∧ Boxed W C 3 (.int .i64 (q : Int))
theorem CntV.keep {w : World} {G C M : Nat} {S : Stk} {F : Nat → Prop} {lo : Nat} (hlo : w.heap.size ≤ lo) (hG : G < lo) {A B : World} (h : CntV w G C M S F A) (hH : Held (fun i => i < lo ∨ F i) A B) : CntV w G C M S F B := by
  obtain ⟨rfl, h1, h2, h3, q, h4, h5⟩ := h
  refine ⟨rfl, Nat.lt_of_lt_of_le h1 hH.size, h2.trans (hH.below h2.size fun i hi => .inl (by omega)), h3.held hH fun b hb => .inl (by omega), q, h4, ?_⟩
  exact (hH.block C h1 (.inr rfl)).trans h5

end Go.Proofs.YtckoookgjhngkaaDoor
