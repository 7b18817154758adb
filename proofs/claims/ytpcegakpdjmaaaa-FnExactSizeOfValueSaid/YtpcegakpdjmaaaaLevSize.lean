/-
  The program's SizeOfType and DepthOfType.
-/
import Derived.Test.YtpcegakpdjmaaaaLevSeq
namespace Go.Proofs.Ytpcegakpdjmaaaa
open Go.RowKit Go.Shelf

attribute [local go_sem] Oper.semAt_some

def FnAt (p : Nat) (c0 c1 c2 : Value) (w : World) (e : Ending) (w' : World) : Prop := e = .returned (.func (.func 98) #[] #[.pointer (some ⟨p, 0, none⟩)]) ∧ w' = w.alloc (.cells #[c0, c1, c2] 41)
theorem levels_any (w : World) (c0 c1 c2 : Value) : Calls Try.prog 82 #[.agg #[c0, c1, c2]] w (FnAt w.heap.size c0 c1 c2 w) := by
  have hR : Hid (FnAt w.heap.size c0 c1 c2 w (.returned (.func (.func 98) #[] #[.pointer (some ⟨w.heap.size, 0, none⟩)])) (w.alloc (.cells #[c0, c1, c2] 41))) := ⟨rfl, rfl⟩
  go_enter Try.func82, Try.ntmps82
  go_wp2_with fail
  go_ret
  exact hR.out

/-- a variable holds a number; what was there is as it was -/
def CountI (w : World) (B : Nat) (q : Nat) (W : World) : Prop := Boxed W B 3 (.int .i64 (q : Int)) ∧ Below w.heap.size w W
theorem boxed_below {A C : World} {B D : Nat} {ty : TypeId} {v : Value} (h : Boxed A B ty v) (hb : Below D A C) (hB : B < D) : Boxed C B ty v := (hb.block B hB).trans h
theorem CountI.under {w A C : World} {B q D : Nat} (h : CountI w B q A) (hb : Below D A C) (hB : B < D) (hw : w.heap.size ≤ D) : CountI w B q C :=
  ⟨boxed_below h.1 hb hB, h.2.trans (hb.mono hw)⟩
theorem CountI.set {w W : World} {B q m : Nat} (h : CountI w B q W) (hB : w.heap.size ≤ B) : CountI w B m (W.setCell ⟨B, 0, none⟩ (.int .i64 (m : Int))) :=
  ⟨h.1.set _, h.2.setCell (p := ⟨B, 0, none⟩) hB _⟩

end Go.Proofs.Ytpcegakpdjmaaaa
