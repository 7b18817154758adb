/-
  Merged by program: EqStr.
-/
import Derived.Test.YtlcedleebbgebaaDoorF1
import Derived.Test.YtlcedleebbgebaaDoorProg
import Derived.OwnWalk
import Derived.RegionTactic
import Derived.Deep.QuietTactic
import Derived.BigQuiet

/-
  The comparison of two equal lists of strings ('eqStringS').
-/
namespace Go.Proofs.YtlcedleebbgebaaDoor
open Go.RowKit

set_option maxHeartbeats 800000 in
theorem eqStringS_same (A B : Option Addr) (c d : Nat) (xs : List ByteArray) (w : World) (hA : Sl w A (xs.map Value.string)) (hB : Sl w B (xs.map Value.string)) (hn : xs.length ≤ 9223372036854775807) :
    Calls Tryd.prog 8 #[.slice A xs.length c, .slice B xs.length d] w (Yes w) := by
  go_enter Tryd.func8, Tryd.ntmps8
  go_wp2
  go_loopw [5] (fun i wr => ∃ k : Nat, k ≤ xs.length ∧ i = .int .i64 k ∧ ∃ n, wr = w.drewN n) (fun i _ => xs.length - (intOf i).toNat)
  case atStart => exact ⟨0, Nat.zero_le _, rfl, 0, rfl⟩
  case round =>
    obtain ⟨k, hk, rfl, n, rfl⟩ := hrel
    by_cases hlt : k < xs.length
    · obtain ⟨ad, rfl, hc⟩ := hA k (.string xs[k]) (by simp [hlt])
      obtain ⟨bd, rfl, hd⟩ := hB k (.string xs[k]) (by simp [hlt])
      go_wp2
      go_quiet (fail)
      go_wp2
      go_roundw
      case rel => exact ⟨k + 1, by omega, by go_num, _, rfl⟩
      case measure => simp [intOf]; omega
    · go_wp2
      go_ret
      exact ⟨rfl, n, rfl⟩
end Go.Proofs.YtlcedleebbgebaaDoor
