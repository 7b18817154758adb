/-
  The laws' own bound on a draw: 'big'.
-/
import Derived.Test.YtgelkgkmkckinaaWords
import Derived.Test.YtgelkgkmkckinaaProg
namespace Go.Proofs.Ytgelkgkmkckinaa
open Go.RowKit

theorem big_any (A : Option Addr) (n cap : Nat) (w : World) : Calls Try.prog 9 #[.slice A n cap] w (fun e w' => e = .returned (.bool (decide (1048576 < (n : Int)))) ∧ w = w') := by
  go_enter Try.func9, Try.ntmps9
  go_wp2_with fail
  go_ret
  exact ⟨rfl, rfl⟩
end Go.Proofs.Ytgelkgkmkckinaa
