/-
  Merged by program: JoinA.
-/
import Derived.Test.YtlcedleebbgebaaDoorF1
import Derived.Test.YtlcedleebbgebaaDoorProg

/-
  The size of a list of strings, as the laws reckon it: 'szStringS'.
-/
namespace Go.Proofs.YtlcedleebbgebaaDoor
open Go.RowKit

/-- what szStringS leaves: where its answer is not negative, what is left over is the rest -/
def SzPost (n : Nat) (xs : List ByteArray) (left : Int) (w : World) (e : Ending) (w' : World) : Prop :=
  ∃ r : Int, e = .returned (.int .i64 r) ∧ r ≤ left ∧ -1 ≤ r ∧ (0 ≤ r → r + n + total xs = left) ∧ w = w'

set_option maxHeartbeats 400000 in
theorem szStringS_any (A : Option Addr) (c : Nat) (xs : List ByteArray) (left : Int) (w : World) (h : Sl w A (xs.map Value.string)) (hn : xs.length ≤ 9223372036854775807)
    (hx : ∀ x ∈ xs, x.size ≤ 9223372036854775807) (h0 : 0 ≤ left) (h1 : left ≤ 1048576) :
    Calls Tryd.prog 4 #[.slice A xs.length c, .int .i64 left] w (SzPost xs.length xs left w) := by
  go_enter Tryd.func4, Tryd.ntmps4
  by_cases hneg : left - xs.length < 0
  · go_wp2
    go_ret
    exact ⟨-1, rfl, by omega, by omega, by omega, rfl⟩
  · go_wp2
    go_loop [1, 5] (fun l i => ∃ k : Nat, k ≤ xs.length ∧ i = .int .i64 k ∧ ∃ r : Int, l = .int .i64 r ∧ 0 ≤ r ∧ r + xs.length + total (xs.take k) = left) (fun _ i => xs.length - (intOf i).toNat)
    case atStart => exact ⟨0, Nat.zero_le _, rfl, _, rfl, by omega, by simp [total]⟩
    case round =>
      obtain ⟨k, hk, rfl, r, rfl, hr0, hr⟩ := hrel
      by_cases hlt : k < xs.length
      · have hs := total_take_succ xs k xs[k] (List.getElem?_eq_getElem hlt)
        obtain ⟨ad, rfl, hc⟩ := h k (.string xs[k]) (by simp [hlt])
        have hxk := hx xs[k] (List.getElem_mem hlt)
        have HS := Lib.hid hs
        have HR := Lib.hid hr
        clear hs hr
        have hr1 : r ≤ 1048576 := by have := HR.out; omega
        by_cases hz : r - (xs[k].size : Int) < 0
        · go_wp2
          go_ret
          exact ⟨-1, rfl, by omega, by omega, by omega, rfl⟩
        · go_wp2
          go_round
          case rel => exact ⟨k + 1, by omega, by go_num, _, rfl, by omega, by have := HS.out; have := HR.out; omega⟩
          case measure => simp [intOf]; omega
      · have he : k = xs.length := by omega
        have htk : xs.take k = xs := by rw [he]; exact List.take_length
        have HR := Lib.hid hr
        have HT := Lib.hid htk
        clear hr htk he
        go_wp2
        go_ret
        exact ⟨r, rfl, by have := HR.out; omega, by omega, fun _ => by have := HR.out; rw [HT.out] at this; omega, rfl⟩
end Go.Proofs.YtlcedleebbgebaaDoor
