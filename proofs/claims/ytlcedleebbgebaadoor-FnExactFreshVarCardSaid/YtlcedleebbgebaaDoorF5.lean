/-
  Merged by program: NumW.
-/
import Derived.Test.YtlcedleebbgebaaDoorF1

/-
  A call that answers a number and leaves the world as it was.
-/
namespace Go.Proofs.YtlcedleebbgebaaDoor
open Go.RowKit

def Num (n : Int) (w : World) (e : Ending) (w' : World) : Prop := e = .returned (.int .i64 n) ∧ w = w'
end Go.Proofs.YtlcedleebbgebaaDoor
