/-
  Merged by program: SEq.
-/
import Derived.Test.YtpcegakpdjmaaaaH12
import Derived.Deep.RegionHeld3

/-
  The library's slices.Equal at lists of strings.
-/
namespace Go.Proofs.Ytpcegakpdjmaaaa
open Go.RowKit

set_option maxHeartbeats 800000 in
set_option maxRecDepth 100000 in
theorem sEq_any (A B : Option Addr) (c d : Nat) (xs ys : List ByteArray) (w : World) (hA : Sl w A (xs.map Value.string)) (hB : Sl w B (ys.map Value.string)) (hn : xs.length ≤ 9223372036854775807) :
    Calls Try.prog 67 #[.slice A xs.length c, .slice B ys.length d] w (Tells (same xs ys) w) := by
  by_cases hl : xs.length = ys.length
  · have HL := Lib.hid hl
    rw [← hl]
    clear hl
    go_enter Try.func67, Try.ntmps67
    go_wp2_with fail
    go_loopw [13] (fun i wr => ∃ k : Nat, k ≤ xs.length ∧ i = .int .i64 k ∧ EqTo xs ys k ∧ ∃ n, wr = w.drewN n) (fun i _ => xs.length - (intOf i).toNat)
    case atStart => exact ⟨0, Nat.zero_le _, rfl, eqTo_zero _ _, 0, rfl⟩
    case round =>
      obtain ⟨k, hk, rfl, hno, n, rfl⟩ := hrel
      by_cases hlt : k < xs.length
      · have hlt2 : k < ys.length := by have := HL.out; omega
        obtain ⟨ad, rfl, hc⟩ := hA k (.string xs[k]) (by simp [hlt])
        obtain ⟨bd, rfl, hd⟩ := hB k (.string ys[k]) (by simp [hlt2])
        by_cases hx : xs[k] = ys[k]
        · have HN := Lib.hid (eqTo_succ hno hlt hlt2 hx)
          rw [← hx] at hd
          clear hx hno
          go_wp2
          go_quiet (fail)
          go_wp2
          go_roundw
          case rel => exact ⟨k + 1, by omega, by go_num, HN.out, _, rfl⟩
          case measure => simp [intOf]; omega
        · have HR := Lib.hid (same_no (ne_at hlt hlt2 hx))
          have hb := (Lib.bytes_beq_false_iff xs[k] ys[k]).2 hx
          clear hx hno
          go_wp2
          go_quiet (fail)
          go_wp2
          go_ret
          exact ⟨ret_bool HR.out.symm, _, World.drewN_drewN _ _ _⟩
      · have he : k = xs.length := by omega
        have HR := Lib.hid (same_yes (eqTo_all (he ▸ hno) HL.out))
        clear he hno
        go_wp2_with fail
        go_ret
        exact ⟨ret_bool HR.out.symm, n, rfl⟩
  · have HR := Lib.hid (same_no (x := xs) (y := ys) (fun e => hl (by rw [e])))
    go_enter Try.func67, Try.ntmps67
    go_wp2_with fail
    go_ret
    exact ⟨ret_bool HR.out.symm, 0, rfl⟩
end Go.Proofs.Ytpcegakpdjmaaaa
