/-
  Merged by program: Mark.
-/
import Derived.Test.YtckoookgjhngkaaIV28
import Derived.OwnWalk
import Derived.RegionTactic
import Derived.Deep.RegionHeld3

/-
  The marks that a law writes into a result to see whose memory it is: a text for each number; writing them into a list of strings; reading them back.
-/
namespace Go.Proofs.Ytckoookgjhngkaa
open Go.RowKit

def mtext (k : Int) : List UInt8 := 109 :: digs k.natAbs

/-- the marks from k on -/
def marks (k : Int) (n : Nat) : List Value := (List.range n).map fun (j : Nat) => Value.string ⟨(mtext (k + (j : Int))).toArray⟩
theorem marks_at (k : Int) (n j : Nat) (h : j < n) : (marks k n)[j]? = some (.string ⟨(mtext (k + j)).toArray⟩) := by simp [marks, h]
theorem marks_len (k : Int) (n : Nat) : (marks k n).length = n := by simp [marks]
theorem over_step (ms xs : List Value) (j : Nat) (u : Value) (hl : ms.length = xs.length) (h : ms[j]? = some u) : (ms.take j ++ xs.drop j).set j u = ms.take (j + 1) ++ xs.drop (j + 1) := by
  have hj : j < ms.length := (List.getElem?_eq_some_iff.1 h).1
  rw [List.set_append_right _ _ (by rw [List.length_take]; omega), List.take_add_one, h]
  have e2 : j - (ms.take j).length = 0 := by rw [List.length_take]; omega
  have e3 : xs.drop j = xs[j] :: xs.drop (j + 1) := List.drop_eq_getElem_cons (by omega)
  rw [e2, e3, List.set_cons_zero]
  simp

def MarkPost (e : TypeId) (g n cap : Nat) (base : Nat) (k : Int) (w : World) (en : Ending) (w' : World) : Prop :=
  en = .returned (.int .i64 (k + n)) ∧ w'.ownsRow base e 1 (.slice (some ⟨g, 0, none⟩) n cap) n (marks k n) ∧ w.grownBy w' (some g)

def HeldPost (n : Nat) (k : Int) (w : World) (en : Ending) (w' : World) : Prop := en = .returned (.int .i64 (k + n)) ∧ Below w.heap.size w w'

end Go.Proofs.Ytckoookgjhngkaa
