/-
  Merged by program: Least.
-/
import Derived.Test.YthcfgpjldhiinaaE1

/-
  The least number of which a property holds: a loop's measure that hangs on what exists. Hangs on no program.
-/
namespace Go.Proofs.Ythcfgpjldhiinaa
open Go.RowKit

def Least (Q : Nat → Prop) (n : Nat) : Prop := Q n ∧ ∀ m, Q m → n ≤ m
theorem least_ex {Q : Nat → Prop} (h : ∃ n, Q n) : ∃ n, Least Q n := by
  obtain ⟨n, hn⟩ := h
  induction n using Nat.strongRecOn with
  | _ n ih =>
    by_cases h : ∃ m, m < n ∧ Q m
    · obtain ⟨m, hm, hq⟩ := h
      exact ih m hm hq
    · exact ⟨n, hn, fun m hm => Nat.le_of_not_lt fun hlt => h ⟨m, hlt, hm⟩⟩
theorem least_at {Q : Nat → Prop} {m : Nat} (h : Q m) : Least Q (Classical.epsilon (Least Q)) := Classical.epsilon_spec (least_ex ⟨m, h⟩)
theorem addr_block (a : Addr) (j : Nat) : (a.add j).block = a.block := by unfold Addr.add; split <;> rfl
end Go.Proofs.Ythcfgpjldhiinaa
