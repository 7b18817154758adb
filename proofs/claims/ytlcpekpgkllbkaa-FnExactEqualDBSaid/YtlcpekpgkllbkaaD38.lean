/-
  Merged by program: CmpN.
-/
import Derived.Test.YtlcpekpgkllbkaaD32
import Derived.Test.YtlcpekpgkllbkaaD31
import Derived.Test.YtlcpekpgkllbkaaD37
import Derived.Test.YtlcpekpgkllbkaaD12
import Derived.Test.YtlcpekpgkllbkaaD23
import Derived.Deep.RegionHeld3

/-
  The program's compareNodes, and what it calls of Go's library: cmp.Compare, cmp.Or, slices.Compare.
-/
namespace Go.Proofs.Ytlcpekpgkllbkaa
open Go.RowKit

def Fls (w : World) (e : Ending) (w' : World) : Prop := e = .returned (.bool false) ∧ w' = w
theorem nanInt_any (n : Int) (w : World) : Calls Try.prog 144 #[.int .i64 n] w (Fls w) := by
  go_enter Try.func144, Try.ntmps144
  go_wp2_with fail
  go_ret
  exact ⟨rfl, rfl⟩
theorem nanStr_any (s : ByteArray) (w : World) : Calls Try.prog 147 #[.string s] w (Fls w) := by
  go_enter Try.func147, Try.ntmps147
  go_wp2_with fail
  go_ret
  exact ⟨rfl, rfl⟩
theorem cmpInt_any (a b : Int) (w : World) : Calls Try.prog 141 #[.int .i64 a, .int .i64 b] w (Num (numC a b) w) := by
  have HA := Lib.hid (nanInt_any a w)
  have HB := Lib.hid (nanInt_any b w)
  by_cases h1 : a < b
  · have hN : numC a b = -1 := by unfold numC; rw [if_pos h1]
    have HR : Hid (Num (numC a b) w (.returned (.int .i64 (-1))) w) := ⟨by rw [hN], rfl⟩
    clear hN
    go_enter Try.func141, Try.ntmps141
    go_wp2_with fail
    refine HA.out.mono ?_
    rintro e w' ⟨rfl, rfl⟩
    go_wp2_with fail
    refine HB.out.mono ?_
    rintro e w' ⟨rfl, rfl⟩
    go_wp2_with fail
    go_ret
    exact HR.out
  · by_cases h2 : b < a
    · have hN : numC a b = 1 := by unfold numC; rw [if_neg h1, if_pos h2]
      have HR : Hid (Num (numC a b) w (.returned (.int .i64 1)) w) := ⟨by rw [hN], rfl⟩
      clear hN
      go_enter Try.func141, Try.ntmps141
      go_wp2_with fail
      refine HA.out.mono ?_
      rintro e w' ⟨rfl, rfl⟩
      go_wp2_with fail
      refine HB.out.mono ?_
      rintro e w' ⟨rfl, rfl⟩
      go_wp2_with fail
      go_ret
      exact HR.out
    · have hN : numC a b = 0 := by unfold numC; rw [if_neg h1, if_neg h2]
      have HR : Hid (Num (numC a b) w (.returned (.int .i64 0)) w) := ⟨by rw [hN], rfl⟩
      clear hN
      go_enter Try.func141, Try.ntmps141
      go_wp2_with fail
      refine HA.out.mono ?_
      rintro e w' ⟨rfl, rfl⟩
      go_wp2_with fail
      refine HB.out.mono ?_
      rintro e w' ⟨rfl, rfl⟩
      go_wp2_with fail
      go_ret
      exact HR.out
theorem cmpStr_any (a b : ByteArray) (w : World) : Calls Try.prog 145 #[.string a, .string b] w (Num (strC a b) w) := by
  have HA := Lib.hid (nanStr_any a w)
  have HB := Lib.hid (nanStr_any b w)
  have hN : strC a b = if ltB a b = true then -1 else if ltB b a = true then 1 else 0 := rfl
  unfold ltB at hN
  have HR : Hid (Num (strC a b) w (.returned (.int .i64 (strC a b))) w) := ⟨rfl, rfl⟩
  rw [hN] at HR ⊢
  clear hN
  by_cases h1 : Op.bytesLess a.toList b.toList = true
  · simp only [h1, if_true] at HR ⊢
    go_enter Try.func145, Try.ntmps145
    go_wp2_with fail
    refine HA.out.mono ?_
    rintro e w' ⟨rfl, rfl⟩
    go_wp2_with fail
    refine HB.out.mono ?_
    rintro e w' ⟨rfl, rfl⟩
    go_wp2_with fail
    go_ret
    exact HR.out
  · have h1' : Op.bytesLess a.toList b.toList = false := by simpa using h1
    by_cases h2 : Op.bytesLess b.toList a.toList = true
    · simp only [h1', h2, if_true] at HR ⊢
      have hq := gtr_run 9 a b h2
      go_enter Try.func145, Try.ntmps145
      go_wp2_with fail
      refine HA.out.mono ?_
      rintro e w' ⟨rfl, rfl⟩
      go_wp2_with fail
      refine HB.out.mono ?_
      rintro e w' ⟨rfl, rfl⟩
      go_wp2_with fail
      go_ret
      exact HR.out
    · have h2' : Op.bytesLess b.toList a.toList = false := by simpa using h2
      simp only [h1', h2'] at HR ⊢
      have hq := gtr_run 9 a b h2'
      go_enter Try.func145, Try.ntmps145
      go_wp2_with fail
      refine HA.out.mono ?_
      rintro e w' ⟨rfl, rfl⟩
      go_wp2_with fail
      refine HB.out.mono ?_
      rintro e w' ⟨rfl, rfl⟩
      go_wp2_with fail
      go_ret
      exact HR.out

def firstC : List Int → Int
  | [] => 0
  | x :: xs => orC x (firstC xs)
theorem firstC_skip (xs : List Int) : ∀ k, (∀ j, j < k → xs.getD j 0 = 0) → firstC xs = firstC (xs.drop k)
  | 0, _ => rfl
  | k + 1, h => by
    rw [firstC_skip xs k fun j hj => h j (by omega)]
    by_cases hk : k < xs.length
    · rw [List.drop_eq_getElem_cons hk]
      have := h k (by omega)
      simp [List.getD, hk] at this
      simp [firstC, orC, this]
    · rw [List.drop_eq_nil_of_le (by omega), List.drop_eq_nil_of_le (by omega)]
set_option maxHeartbeats 800000 in
theorem cmpOr_any (A : Option Addr) (c : Nat) (xs : List Int) (w : World) (h : Sl w A (xs.map (Value.int .i64))) (hn : xs.length ≤ 1048576) : Calls Try.prog 140 #[.slice A xs.length c] w (Num (firstC xs) w) := by
  have HS := Lib.hid h
  clear h
  go_enter Try.func140, Try.ntmps140
  go_wp2_with fail
  go_loopw [8] (fun i wr => ∃ k : Nat, i = .int .i64 (k : Int) ∧ k ≤ xs.length ∧ (∀ j, j < k → xs.getD j 0 = 0) ∧ wr = w) (fun i _ => xs.length - (intOf i).toNat)
  case atStart => exact ⟨0, rfl, Nat.zero_le _, fun j hj => by omega, rfl⟩
  case round =>
    obtain ⟨k, rfl, hk, hz, rfl⟩ := hrel
    have HZ := Lib.hid hz
    clear hz
    by_cases hlt : k < xs.length
    · obtain ⟨ad, rfl, hc⟩ := HS.out k (.int .i64 (xs[k]'hlt)) (by simp [hlt])
      obtain ⟨x, hx⟩ : ∃ x, xs[k] = x := ⟨_, rfl⟩
      rw [hx] at hc
      by_cases h0 : x = 0
      · have HX : Hid (∀ j, j < k + 1 → xs.getD j 0 = 0) := fun j hj => by
          rcases Nat.lt_or_ge j k with h | h
          · exact HZ.out j h
          · have : j = k := by omega
            subst this
            simp [List.getD, hlt, hx, h0]
        clear hx
        go_wp2_with fail
        go_roundw
        case rel => exact ⟨k + 1, by go_num, hlt, HX.out, trivial⟩
        case measure => simp [intOf]; omega
      · have hN : firstC xs = x := by
          rw [firstC_skip xs k HZ.out, List.drop_eq_getElem_cons hlt, hx]
          simp [firstC, orC, h0]
        have HR : Hid (Num (firstC xs) wr (.returned (.int .i64 x)) wr) := ⟨by rw [hN], rfl⟩
        clear hN hx
        go_wp2_with fail
        go_ret
        exact HR.out
    · have hN : firstC xs = 0 := by
        rw [firstC_skip xs k HZ.out, List.drop_eq_nil_of_le (by omega)]
        rfl
      have HR : Hid (Num (firstC xs) wr (.returned (.int .i64 0)) wr) := ⟨by rw [hN], rfl⟩
      clear hN
      go_wp2_with fail
      go_ret
      exact HR.out
end Go.Proofs.Ytlcpekpgkllbkaa
