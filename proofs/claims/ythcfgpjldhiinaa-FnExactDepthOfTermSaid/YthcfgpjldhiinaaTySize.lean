/-
  The model's SizeOfType.
-/
import Derived.Test.YthcfgpjldhiinaaTy
namespace Go.Proofs.Ythcfgpjldhiinaa
open Go.RowKit

/-- an answer that is a number; all that was there is as it was -/
def Counts (n : Int) (w : World) (e : Ending) (w' : World) : Prop := e = .returned (.int .i64 n) ∧ Below w.heap.size w w'

end Go.Proofs.Ythcfgpjldhiinaa
