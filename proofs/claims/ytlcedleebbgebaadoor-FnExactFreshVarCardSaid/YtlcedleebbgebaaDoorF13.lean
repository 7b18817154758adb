/-
  Merged by program: TabB.
-/
import Derived.Test.YtlcedleebbgebaaDoorF12
import Derived.Test.YtlcedleebbgebaaDoorF1

/-
  The table of powers in memory; the program's textOfBool.
-/
namespace Go.Proofs.YtlcedleebbgebaaDoor
open Go.RowKit Go.Shelf

/-- the table of powers lies in memory -/
def TabOk (w : World) : Prop := Lib.TabIs Tryd.prog w "internal/strconv.uint64pow10" .u64 Lib.pow10Tab ∧ 0 < w.heap.size
theorem TabOk.keep {w w' : World} (h : TabOk w) (hb : Below w.heap.size w w') : TabOk w' := ⟨tab_below gPow h.2 h.1 hb, Nat.lt_of_lt_of_le h.2 hb.size⟩

def boolT (q : Int) : List UInt8 := [35, if q = 1 then 116 else 102]
end Go.Proofs.YtlcedleebbgebaaDoor
