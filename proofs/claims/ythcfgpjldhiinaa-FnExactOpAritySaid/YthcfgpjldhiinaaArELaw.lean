/-
  The walk of laws.FnExactOpArity.
-/
import Derived.Test.YthcfgpjldhiinaaArI
namespace Go.Proofs.Ythcfgpjldhiinaa
open Go.RowKit

set_option maxHeartbeats 800000 in
theorem arE_law (s : ByteArray) (w : World) (hs : s.size ≤ 9223372036854775807) : Calls Try.prog 3 #[.string s] w (LawYes w) := by
  by_cases hbig : 1048576 < s.size
  · go_enter Try.func3, Try.ntmps3
    go_wp2
    go_ret
    exact ⟨rfl, Below.refl _ _⟩
  · go_enter Try.func3, Try.ntmps3
    go_wp2_with fail
    refine (specArity_any s w).mono ?_
    rintro e w1 ⟨rfl, rfl⟩
    go_wp2_with fail
    refine (implArity_any s w).mono ?_
    rintro e w1 ⟨rfl, hb1⟩
    generalize arB s = y
    go_wp2_with fail
    go_ret
    exact ⟨rfl, hb1⟩
end Go.Proofs.Ythcfgpjldhiinaa
