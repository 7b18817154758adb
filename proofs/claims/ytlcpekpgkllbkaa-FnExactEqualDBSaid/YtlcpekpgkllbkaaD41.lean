/-
  Merged by program: VaShp.
-/
import Derived.Test.YtlcpekpgkllbkaaD11

/-
  The shape of a value's cells. Hangs on no program.
-/
namespace Go.Proofs.Ytlcpekpgkllbkaa
open Go.RowKit

theorem RVa.shape {w : World} {v : Va} {c0 c1 c2 c3 : Value} (h : RVa w v [c0, c1, c2, c3]) : ∃ p q L l c A m d, c0 = .int .i64 p ∧ c1 = .int .i64 q ∧ c2 = .slice L l c ∧ c3 = .slice A m d := by
  obtain ⟨L, c, A, d, he, _⟩ := h.open
  injection he with e0 he
  injection he with e1 he
  injection he with e2 he
  injection he with e3 _
  exact ⟨_, _, _, _, _, _, _, _, e0, e1, e2, e3⟩
end Go.Proofs.Ytlcpekpgkllbkaa
