/-
  Merged by program: SEq, NodTK.
-/
import Derived.Test.YthcfgpjldhiinaaE8
import Derived.Deep.RegionHeld3
import Derived.Test.YthcfgpjldhiinaaE18
import Derived.Test.YthcfgpjldhiinaaE2
import Derived.Test.YthcfgpjldhiinaaE4

/-
  The library's slices.Equal at lists of strings.
-/
namespace Go.Proofs.Ythcfgpjldhiinaa
open Go.RowKit

set_option maxHeartbeats 800000 in
set_option maxRecDepth 100000 in
theorem sEq_any (A B : Option Addr) (c d : Nat) (xs ys : List ByteArray) (w : World) (hA : Sl w A (xs.map Value.string)) (hB : Sl w B (ys.map Value.string)) (hn : xs.length ≤ 9223372036854775807) :
    Calls Try.prog 53 #[.slice A xs.length c, .slice B ys.length d] w (Tells (same xs ys) w) := by
  by_cases hl : xs.length = ys.length
  · have HL := Lib.hid hl
    rw [← hl]
    clear hl
    go_enter Try.func53, Try.ntmps53
    go_wp2_with fail
    go_loopw [13] (fun i wr => ∃ k : Nat, k ≤ xs.length ∧ i = .int .i64 k ∧ EqTo xs ys k ∧ ∃ n, wr = w.drewN n) (fun i _ => xs.length - (intOf i).toNat)
    case atStart => exact ⟨0, Nat.zero_le _, rfl, eqTo_zero _ _, 0, rfl⟩
    case round =>
      obtain ⟨k, hk, rfl, hno, n, rfl⟩ := hrel
      by_cases hlt : k < xs.length
      · have hlt2 : k < ys.length := by have := HL.out; omega
        obtain ⟨ad, rfl, hc⟩ := hA k (.string xs[k]) (by simp [hlt])
        obtain ⟨bd, rfl, hd⟩ := hB k (.string ys[k]) (by simp [hlt2])
        by_cases hx : xs[k] = ys[k]
        · have HN := Lib.hid (eqTo_succ hno hlt hlt2 hx)
          rw [← hx] at hd
          clear hx hno
          go_wp2
          go_quiet (fail)
          go_wp2
          go_roundw
          case rel => exact ⟨k + 1, by omega, by go_num, HN.out, _, rfl⟩
          case measure => simp [intOf]; omega
        · have HR := Lib.hid (same_no (ne_at hlt hlt2 hx))
          have hb := (Lib.bytes_beq_false_iff xs[k] ys[k]).2 hx
          clear hx hno
          go_wp2
          go_quiet (fail)
          go_wp2
          go_ret
          exact ⟨ret_bool HR.out.symm, _, World.drewN_drewN _ _ _⟩
      · have he : k = xs.length := by omega
        have HR := Lib.hid (same_yes (eqTo_all (he ▸ hno) HL.out))
        clear he hno
        go_wp2_with fail
        go_ret
        exact ⟨ret_bool HR.out.symm, n, rfl⟩
  · have HR := Lib.hid (same_no (x := xs) (y := ys) (fun e => hl (by rw [e])))
    go_enter Try.func53, Try.ntmps53
    go_wp2_with fail
    go_ret
    exact ⟨ret_bool HR.out.symm, 0, rfl⟩
end Go.Proofs.Ythcfgpjldhiinaa

/-
  A node of impl.Type: its parts as a list to come; the program's argsOfType. Written by wip/tools/mknod.py.
-/
namespace Go.Proofs.Ythcfgpjldhiinaa
open Go.RowKit

/-- a node's cells in the form that a store asks for -/
theorem rd_shapeT {w : World} {x : Ty} {c0 c1 c2 : Value} (h : RTy w x [c0, c1, c2]) : ∃ ek eL el elc, c0 = .int .i64 ek ∧ c1 = .slice eL el elc := by
  cases x with
  | node a ks =>
    obtain ⟨L, c, A, d, e, _⟩ := h.out
    simp only [List.cons.injEq, and_true] at e
    exact ⟨_, _, _, _, e.1, e.2.1⟩
/-- the parts of a node -/
theorem rd_kidsT {w : World} {x : Ty} {c0 c1 c2 : Value} (h : RTy w x [c0, c1, c2]) : ∃ A d, c2 = .slice A x.kids.length d ∧ x.kids.length ≤ d ∧ x.kids.length ≤ 9223372036854775807 ∧ RowN (RTy w) 3 w A x.kids := by
  cases x with
  | node a ks =>
    obtain ⟨L, c, A, d, e, _, _, _, _, _, h3, h4⟩ := h.out
    simp only [List.cons.injEq, and_true] at e
    obtain ⟨rfl, rfl, rfl⟩ := e
    exact ⟨A, d, rfl, h.cap.2, h3, h4⟩
/-- the parts of a node, as a list to come -/
theorem nlist_kidsT {w W : World} {K : Nat → Prop} {x : Ty} {A : Option Addr} {d : Nat} (h0 : 0 < x.kids.length) (hd : x.kids.length ≤ d) (hl : x.kids.length ≤ 9223372036854775807) (h : RowN (RTy w) 3 w A x.kids)
    (hW : Below w.heap.size w W) (hK : ∀ b, b < w.heap.size → K b) : ∃ ad, A = some ad ∧ NList (RTy w) 3 W K x.kids (.slice A x.kids.length d) := by
  obtain ⟨ps, hp⟩ := h
  obtain ⟨h1, ad, rfl, h3⟩ := hp 0 _ (List.getElem?_eq_getElem h0)
  obtain ⟨c0, c1, c2, he⟩ := h1.three
  rw [he] at h3
  have hb := World.block_lt_of_cell? w _ (h3 0 _ rfl)
  rw [addr_block] at hb
  exact ⟨ad, rfl, ad, d, rfl, hd, hl, h0, hK _ hb, RowN.held ⟨ps, hp⟩ fun b hb => hW.block b hb⟩

def ArgsAtT (c0 c1 c2 : Value) (w : World) (e : Ending) (w' : World) : Prop := e = .returned c2 ∧ w' = w.alloc (.cells #[c0, c1, c2] 35)
theorem argsT_any (c0 c1 c2 : Value) (w : World) : Calls Try.prog 60 #[.agg #[c0, c1, c2]] w (ArgsAtT c0 c1 c2 w) := by
  have hR : Hid (ArgsAtT c0 c1 c2 w (.returned c2) (w.alloc (.cells #[c0, c1, c2] 35))) := ⟨rfl, rfl⟩
  go_enter Try.func60, Try.ntmps60
  go_wp2_with fail
  go_ret
  exact hR.out
end Go.Proofs.Ythcfgpjldhiinaa
