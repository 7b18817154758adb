/-
  Merged by program: NodTK.
-/
import Derived.Test.YtlikmgkjilmjpaaH28
import Derived.Test.YtlikmgkjilmjpaaH2
import Derived.Test.YtlikmgkjilmjpaaH3
import Derived.Test.YtlikmgkjilmjpaaH9

/-
  A node of impl.Type: its parts as a list to come; the program's argsOfType. Written by wip/tools/mknod.py.
-/
namespace Go.Proofs.Ytlikmgkjilmjpaa
open Go.RowKit

/-- a node's cells in the form that a store asks for -/
theorem rd_shapeT {w : World} {x : Ty} {c0 c1 c2 : Value} (h : RTy w x [c0, c1, c2]) : ∃ ek eL el elc, c0 = .int .i64 ek ∧ c1 = .slice eL el elc := by
  cases x with
  | node a ks =>
    obtain ⟨L, c, A, d, e, _⟩ := h.out
    simp only [List.cons.injEq, and_true] at e
    exact ⟨_, _, _, _, e.1, e.2.1⟩
/-- the parts of a node -/
theorem rd_kidsT {w : World} {x : Ty} {c0 c1 c2 : Value} (h : RTy w x [c0, c1, c2]) : ∃ A d, c2 = .slice A x.kids.length d ∧ x.kids.length ≤ d ∧ x.kids.length ≤ 9223372036854775807 ∧ RowN (RTy w) 3 w A x.kids := by
  cases x with
  | node a ks =>
    obtain ⟨L, c, A, d, e, _, _, _, _, _, h3, h4⟩ := h.out
    simp only [List.cons.injEq, and_true] at e
    obtain ⟨rfl, rfl, rfl⟩ := e
    exact ⟨A, d, rfl, h.cap.2, h3, h4⟩
/-- the parts of a node, as a list to come -/
theorem nlist_kidsT {w W : World} {K : Nat → Prop} {x : Ty} {A : Option Addr} {d : Nat} (h0 : 0 < x.kids.length) (hd : x.kids.length ≤ d) (hl : x.kids.length ≤ 9223372036854775807) (h : RowN (RTy w) 3 w A x.kids)
    (hW : Below w.heap.size w W) (hK : ∀ b, b < w.heap.size → K b) : ∃ ad, A = some ad ∧ NList (RTy w) 3 W K x.kids (.slice A x.kids.length d) := by
  obtain ⟨ps, hp⟩ := h
  obtain ⟨h1, ad, rfl, h3⟩ := hp 0 _ (List.getElem?_eq_getElem h0)
  obtain ⟨c0, c1, c2, he⟩ := h1.three
  rw [he] at h3
  have hb := World.block_lt_of_cell? w _ (h3 0 _ rfl)
  rw [addr_block] at hb
  exact ⟨ad, rfl, ad, d, rfl, hd, hl, h0, hK _ hb, RowN.held ⟨ps, hp⟩ fun b hb => hW.block b hb⟩

def ArgsAtT (c0 c1 c2 : Value) (w : World) (e : Ending) (w' : World) : Prop := e = .returned c2 ∧ w' = w.alloc (.cells #[c0, c1, c2] 41)
theorem argsT_any (c0 c1 c2 : Value) (w : World) : Calls Try.prog 120 #[.agg #[c0, c1, c2]] w (ArgsAtT c0 c1 c2 w) := by
  have hR : Hid (ArgsAtT c0 c1 c2 w (.returned c2) (w.alloc (.cells #[c0, c1, c2] 41))) := ⟨rfl, rfl⟩
  go_enter Try.func120, Try.ntmps120
  go_wp2_with fail
  go_ret
  exact hR.out
end Go.Proofs.Ytlikmgkjilmjpaa
