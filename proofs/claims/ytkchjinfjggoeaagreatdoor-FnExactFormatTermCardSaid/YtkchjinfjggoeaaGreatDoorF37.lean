/-
  Merged by program: NodEK.
-/
import Derived.Test.YtkchjinfjggoeaaGreatDoorF27
import Derived.Test.YtkchjinfjggoeaaGreatDoorF2
import Derived.Test.YtkchjinfjggoeaaGreatDoorF4

/-
  A node of impl.Term: its parts as a list to come; the program's argsOfTerm. Written by wip/tools/mknod.py.
-/
namespace Go.Proofs.YtkchjinfjggoeaaGreatDoor
open Go.RowKit

/-- a node's cells in the form that a store asks for -/
theorem rd_shapeE {w : World} {x : Te} {c0 c1 c2 c3 c4 c5 c6 c7 : Value} (h : RTe w x [c0, c1, c2, c3, c4, c5, c6, c7]) : ∃ ek es en et eTL etl etc eTA eta etd eL el elc, c0 = .int .i64 ek ∧ c1 = .string es ∧ c2 = .int .i64 en ∧ c3 = .int .i64 et ∧ c4 = .slice eTL etl etc ∧ c5 = .slice eTA eta etd ∧ c6 = .slice eL el elc := by
  obtain ⟨k, s, n, tk, TL, tl, tc, TA, ta, td, L, l, c, A, m, d, h0, h1, h2, h3, h4, h5, h6, h7⟩ := h.shape
  exact ⟨k, s, n, tk, TL, tl, tc, TA, ta, td, L, l, c, h0, h1, h2, h3, h4, h5, h6⟩
/-- the parts of a node -/
theorem rd_kidsE {w : World} {x : Te} {c0 c1 c2 c3 c4 c5 c6 c7 : Value} (h : RTe w x [c0, c1, c2, c3, c4, c5, c6, c7]) : ∃ A d, c7 = .slice A x.kids.length d ∧ x.kids.length ≤ d ∧ x.kids.length ≤ 9223372036854775807 ∧ RowN (RTe w) 8 w A x.kids := by
  obtain ⟨TL, tc, TA, td, LL, c, A, d, e, h1, h2, h3, h4, h5, h6⟩ := h.open
  simp only [List.cons.injEq, and_true] at e
  exact ⟨A, d, e.2.2.2.2.2.2.2, h5, h4, h6⟩
/-- the parts of a node, as a list to come -/
theorem nlist_kidsE {w W : World} {K : Nat → Prop} {x : Te} {A : Option Addr} {d : Nat} (h0 : 0 < x.kids.length) (hd : x.kids.length ≤ d) (hl : x.kids.length ≤ 9223372036854775807) (h : RowN (RTe w) 8 w A x.kids)
    (hW : Below w.heap.size w W) (hK : ∀ b, b < w.heap.size → K b) : ∃ ad, A = some ad ∧ NList (RTe w) 8 W K x.kids (.slice A x.kids.length d) := by
  obtain ⟨ps, hp⟩ := h
  obtain ⟨h1, ad, rfl, h3⟩ := hp 0 _ (List.getElem?_eq_getElem h0)
  obtain ⟨c0, c1, c2, c3, c4, c5, c6, c7, he⟩ := h1.eight
  rw [he] at h3
  have hb := World.block_lt_of_cell? w _ (h3 0 _ rfl)
  rw [addr_block] at hb
  exact ⟨ad, rfl, ad, d, rfl, hd, hl, h0, hK _ hb, RowN.held ⟨ps, hp⟩ fun b hb => hW.block b hb⟩

def ArgsAtE (c0 c1 c2 c3 c4 c5 c6 c7 : Value) (w : World) (e : Ending) (w' : World) : Prop := e = .returned c7 ∧ w' = w.alloc (.cells #[c0, c1, c2, c3, c4, c5, c6, c7] 30)
theorem argsE_any (c0 c1 c2 c3 c4 c5 c6 c7 : Value) (w : World) : Calls Tryz.prog 32 #[.agg #[c0, c1, c2, c3, c4, c5, c6, c7]] w (ArgsAtE c0 c1 c2 c3 c4 c5 c6 c7 w) := by
  have hR : Hid (ArgsAtE c0 c1 c2 c3 c4 c5 c6 c7 w (.returned c7) (w.alloc (.cells #[c0, c1, c2, c3, c4, c5, c6, c7] 30))) := ⟨rfl, rfl⟩
  go_enter Tryz.func32, Tryz.ntmps32
  go_wp2_with fail
  go_ret
  exact hR.out
end Go.Proofs.YtkchjinfjggoeaaGreatDoor
