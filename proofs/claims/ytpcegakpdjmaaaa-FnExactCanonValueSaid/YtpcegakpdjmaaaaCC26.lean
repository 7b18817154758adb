/-
  Merged by program: Asc, NodC.
-/
import Derived.Test.YtpcegakpdjmaaaaCC1
import Derived.Test.YtpcegakpdjmaaaaProg
import Derived.RegionTactic
import Derived.Deep.QuietTactic
import Derived.BigQuiet
import Derived.IntWalk
import Derived.Test.YtpcegakpdjmaaaaCC10
import Derived.Test.YtpcegakpdjmaaaaCC25
import Derived.Test.YtpcegakpdjmaaaaCC17
import Derived.Deep.RegionHeld3

/-
  Whether each text of a list precedes the next one: the model's AreAscending and the program's give one answer.
-/
namespace Go.Proofs.Ytpcegakpdjmaaaa
open Go.RowKit

/-- the text precedes the other one, byte by byte -/
def ltS (x y : ByteArray) : Bool := Op.bytesLess x.toList y.toList
/-- the two at j stand in order -/
def okAt (xs : List ByteArray) (j : Nat) : Bool := ltS (xs.getD j ByteArray.empty) (xs.getD (j + 1) ByteArray.empty)
def ascL (xs : List ByteArray) : Bool := (List.range (xs.length - 1)).all (okAt xs)
def AscTo (xs : List ByteArray) (k : Nat) : Prop := ∀ j, j < k → okAt xs j = true
theorem ascTo_zero (xs : List ByteArray) : AscTo xs 0 := fun j h => by omega
theorem ascTo_succ {xs : List ByteArray} {k : Nat} (h : AscTo xs k) (hk : okAt xs k = true) : AscTo xs (k + 1) := by
  intro j hj
  by_cases e : j = k
  · subst e; exact hk
  · exact h j (by omega)
theorem asc_yes {xs : List ByteArray} {k : Nat} (h : AscTo xs k) (hk : xs.length ≤ k + 1) : ascL xs = true := by
  unfold ascL
  rw [List.all_eq_true]
  intro j hj
  exact h j (by simp at hj; omega)
theorem asc_no {xs : List ByteArray} {k : Nat} (hk : k + 1 < xs.length) (h : okAt xs k = false) : ascL xs = false := by
  unfold ascL
  rw [Bool.eq_false_iff, Ne, List.all_eq_true]
  intro hall
  have := hall k (by simp; omega)
  rw [h] at this
  cases this
theorem okAt_get {xs : List ByteArray} {k : Nat} (hk : k + 1 < xs.length) : okAt xs k = Op.bytesLess (xs[k]'(by omega)).toList (xs[k + 1]).toList := by
  simp [okAt, ltS, List.getD, hk, show k < xs.length by omega]
theorem geq_run (t : TypeId) (x y : ByteArray) {b : Bool} (h : Op.bytesLess x.toList y.toList = b) : binOp .geq t (.string x) (.string y) = pure (.bool !b) := by
  rw [← h]
  simp [binOp, Op.stringOp]
theorem ret_bool {a b : Bool} (h : a = b) : Ending.returned (.bool a) = .returned (.bool b) := by rw [h]

/-- an answer that is true or false; nothing but draws -/
def Tells (b : Bool) (w : World) (e : Ending) (w' : World) : Prop := e = .returned (.bool b) ∧ ∃ n, w' = w.drewN n

set_option maxHeartbeats 800000 in
theorem specAsc_any (A : Option Addr) (c : Nat) (xs : List ByteArray) (w : World) (h : Sl w A (xs.map Value.string)) (hn : xs.length ≤ 1048576) :
    Calls Try.prog 107 #[.slice A xs.length c] w (Tells (ascL xs) w) := by
  go_enter Try.func107, Try.ntmps107
  go_wp2
  go_loopw [3] (fun i wr => ∃ k : Nat, i = .int .i64 ((k : Int) + 1) ∧ k ≤ xs.length ∧ AscTo xs k ∧ ∃ n, wr = w.drewN n) (fun i _ => xs.length - (intOf i).toNat)
  case atStart => exact ⟨0, rfl, Nat.zero_le _, ascTo_zero _, 0, rfl⟩
  case round =>
    obtain ⟨k, rfl, hk, hasc, n, rfl⟩ := hrel
    by_cases hlt : k + 1 < xs.length
    · have hk4 : k < xs.length := by omega
      obtain ⟨ad, rfl, hc0⟩ := h k (.string (xs[k]'hk4)) (by simp [hk4])
      obtain ⟨m, hm⟩ : ∃ m, m = k + 1 := ⟨_, rfl⟩
      have hk6 : m < xs.length := by omega
      obtain ⟨ad', e, hc1⟩ := h m (.string (xs[m]'hk6)) (by simp [hk6])
      injection e with e
      subst e
      have hg : Op.bytesLess (xs[k]'hk4).toList (xs[m]'hk6).toList = okAt xs k := by subst hm; exact (okAt_get hlt).symm
      have hk1 : IntKind.i64.wrap (k : Int) = (k : Int) := IntWalk.i64_in _ (by omega)
      have hk2 : (0 : Int) ≤ (k : Int) + 1 := by omega
      have hk5 : (k : Int) + 1 < (xs.length : Int) := by omega
      have hk3 : ((k : Int) + 1).toNat = m := by omega
      clear hm
      cases hb : okAt xs k
      · rw [hb] at hg
        have hq := geq_run 9 _ _ hg
        simp only [Bool.not_false] at hq
        clear hg
        have HA := Lib.hid (asc_no hlt hb)
        clear hb hasc
        go_wp2
        go_quiet (fail)
        clear hk1 hk2 hk3 hq
        go_wp2
        go_ret
        exact ⟨ret_bool HA.out.symm, _, World.drewN_drewN _ _ _⟩
      · rw [hb] at hg
        have hq := geq_run 9 _ _ hg
        simp only [Bool.not_true] at hq
        clear hg
        have HA := Lib.hid (ascTo_succ hasc hb)
        clear hb hasc
        go_wp2
        go_quiet (fail)
        clear hk1 hk2 hk3 hq
        go_wp2
        go_roundw
        case rel => exact ⟨k + 1, by go_num, by omega, HA.out, _, rfl⟩
        case measure => simp [intOf]; omega
    · have HA := Lib.hid (asc_yes hasc (by omega))
      clear hasc
      go_wp2
      go_ret
      exact ⟨ret_bool HA.out.symm, n, rfl⟩
end Go.Proofs.Ytpcegakpdjmaaaa

/-
  The program's compareNodes, and what it calls of Go's library: cmp.Compare, cmp.Or, slices.Compare.
-/
namespace Go.Proofs.Ytpcegakpdjmaaaa
open Go.RowKit

/-- an answer that is a number; nothing turns -/
def Num (n : Int) (w : World) (e : Ending) (w' : World) : Prop := e = .returned (.int .i64 n) ∧ w' = w
def Fls (w : World) (e : Ending) (w' : World) : Prop := e = .returned (.bool false) ∧ w' = w
theorem nanInt_any (n : Int) (w : World) : Calls Try.prog 84 #[.int .i64 n] w (Fls w) := by
  go_enter Try.func84, Try.ntmps84
  go_wp2_with fail
  go_ret
  exact ⟨rfl, rfl⟩
theorem nanStr_any (s : ByteArray) (w : World) : Calls Try.prog 100 #[.string s] w (Fls w) := by
  go_enter Try.func100, Try.ntmps100
  go_wp2_with fail
  go_ret
  exact ⟨rfl, rfl⟩
theorem cmpInt_any (a b : Int) (w : World) : Calls Try.prog 73 #[.int .i64 a, .int .i64 b] w (Num (numC a b) w) := by
  have HA := Lib.hid (nanInt_any a w)
  have HB := Lib.hid (nanInt_any b w)
  by_cases h1 : a < b
  · have hN : numC a b = -1 := by unfold numC; rw [if_pos h1]
    have HR : Hid (Num (numC a b) w (.returned (.int .i64 (-1))) w) := ⟨by rw [hN], rfl⟩
    clear hN
    go_enter Try.func73, Try.ntmps73
    go_wp2_with fail
    refine HA.out.mono ?_
    rintro e w' ⟨rfl, rfl⟩
    go_wp2_with fail
    refine HB.out.mono ?_
    rintro e w' ⟨rfl, rfl⟩
    go_wp2_with fail
    go_ret
    exact HR.out
  · by_cases h2 : b < a
    · have hN : numC a b = 1 := by unfold numC; rw [if_neg h1, if_pos h2]
      have HR : Hid (Num (numC a b) w (.returned (.int .i64 1)) w) := ⟨by rw [hN], rfl⟩
      clear hN
      go_enter Try.func73, Try.ntmps73
      go_wp2_with fail
      refine HA.out.mono ?_
      rintro e w' ⟨rfl, rfl⟩
      go_wp2_with fail
      refine HB.out.mono ?_
      rintro e w' ⟨rfl, rfl⟩
      go_wp2_with fail
      go_ret
      exact HR.out
    · have hN : numC a b = 0 := by unfold numC; rw [if_neg h1, if_neg h2]
      have HR : Hid (Num (numC a b) w (.returned (.int .i64 0)) w) := ⟨by rw [hN], rfl⟩
      clear hN
      go_enter Try.func73, Try.ntmps73
      go_wp2_with fail
      refine HA.out.mono ?_
      rintro e w' ⟨rfl, rfl⟩
      go_wp2_with fail
      refine HB.out.mono ?_
      rintro e w' ⟨rfl, rfl⟩
      go_wp2_with fail
      go_ret
      exact HR.out
theorem gtr_run (t : TypeId) (x y : ByteArray) {b : Bool} (h : Op.bytesLess y.toList x.toList = b) : binOp .gtr t (.string x) (.string y) = pure (.bool b) := by
  have he : (!Op.bytesLess x.toList y.toList && !x.toList == y.toList) = b := by
    rw [← h]
    by_cases h1 : Op.bytesLess y.toList x.toList = true
    · have l := (lt_iff y x).1 h1
      have h2 := (not_lt_iff x y).2 l.asymm
      have h3 : (x.toList == y.toList) = false := by
        rw [beq_eq_false_iff_ne, ByteArray.toList_eq, ByteArray.toList_eq]
        intro e
        have : x = y := ByteArray.ext (Array.toList_inj.1 e)
        subst this
        exact Lt.irrefl x l
      rw [h1, h2, h3]; rfl
    · have h1' : Op.bytesLess y.toList x.toList = false := by simpa using h1
      rw [h1']
      by_cases h2 : x = y
      · subst h2
        simp
      · have l := Lt.total ((not_lt_iff y x).1 h1') (fun e => h2 e.symm)
        rw [(lt_iff x y).2 l]; rfl
  simp [binOp, Op.stringOp, he]
theorem cmpStr_any (a b : ByteArray) (w : World) : Calls Try.prog 85 #[.string a, .string b] w (Num (strC a b) w) := by
  have HA := Lib.hid (nanStr_any a w)
  have HB := Lib.hid (nanStr_any b w)
  have hN : strC a b = if ltB a b = true then -1 else if ltB b a = true then 1 else 0 := rfl
  unfold ltB at hN
  have HR : Hid (Num (strC a b) w (.returned (.int .i64 (strC a b))) w) := ⟨rfl, rfl⟩
  rw [hN] at HR ⊢
  clear hN
  by_cases h1 : Op.bytesLess a.toList b.toList = true
  · simp only [h1, if_true] at HR ⊢
    go_enter Try.func85, Try.ntmps85
    go_wp2_with fail
    refine HA.out.mono ?_
    rintro e w' ⟨rfl, rfl⟩
    go_wp2_with fail
    refine HB.out.mono ?_
    rintro e w' ⟨rfl, rfl⟩
    go_wp2_with fail
    go_ret
    exact HR.out
  · have h1' : Op.bytesLess a.toList b.toList = false := by simpa using h1
    by_cases h2 : Op.bytesLess b.toList a.toList = true
    · simp only [h1', h2, if_true] at HR ⊢
      have hq := gtr_run 9 a b h2
      go_enter Try.func85, Try.ntmps85
      go_wp2_with fail
      refine HA.out.mono ?_
      rintro e w' ⟨rfl, rfl⟩
      go_wp2_with fail
      refine HB.out.mono ?_
      rintro e w' ⟨rfl, rfl⟩
      go_wp2_with fail
      go_ret
      exact HR.out
    · have h2' : Op.bytesLess b.toList a.toList = false := by simpa using h2
      simp only [h1', h2'] at HR ⊢
      have hq := gtr_run 9 a b h2'
      go_enter Try.func85, Try.ntmps85
      go_wp2_with fail
      refine HA.out.mono ?_
      rintro e w' ⟨rfl, rfl⟩
      go_wp2_with fail
      refine HB.out.mono ?_
      rintro e w' ⟨rfl, rfl⟩
      go_wp2_with fail
      go_ret
      exact HR.out

def firstC : List Int → Int
  | [] => 0
  | x :: xs => orC x (firstC xs)
theorem firstC_skip (xs : List Int) : ∀ k, (∀ j, j < k → xs.getD j 0 = 0) → firstC xs = firstC (xs.drop k)
  | 0, _ => rfl
  | k + 1, h => by
    rw [firstC_skip xs k fun j hj => h j (by omega)]
    by_cases hk : k < xs.length
    · rw [List.drop_eq_getElem_cons hk]
      have := h k (by omega)
      simp [List.getD, hk] at this
      simp [firstC, orC, this]
    · rw [List.drop_eq_nil_of_le (by omega), List.drop_eq_nil_of_le (by omega)]
set_option maxHeartbeats 800000 in
theorem cmpOr_any (A : Option Addr) (c : Nat) (xs : List Int) (w : World) (h : Sl w A (xs.map (Value.int .i64))) (hn : xs.length ≤ 1048576) : Calls Try.prog 72 #[.slice A xs.length c] w (Num (firstC xs) w) := by
  have HS := Lib.hid h
  clear h
  go_enter Try.func72, Try.ntmps72
  go_wp2_with fail
  go_loopw [8] (fun i wr => ∃ k : Nat, i = .int .i64 (k : Int) ∧ k ≤ xs.length ∧ (∀ j, j < k → xs.getD j 0 = 0) ∧ wr = w) (fun i _ => xs.length - (intOf i).toNat)
  case atStart => exact ⟨0, rfl, Nat.zero_le _, fun j hj => by omega, rfl⟩
  case round =>
    obtain ⟨k, rfl, hk, hz, rfl⟩ := hrel
    have HZ := Lib.hid hz
    clear hz
    by_cases hlt : k < xs.length
    · obtain ⟨ad, rfl, hc⟩ := HS.out k (.int .i64 (xs[k]'hlt)) (by simp [hlt])
      obtain ⟨x, hx⟩ : ∃ x, xs[k] = x := ⟨_, rfl⟩
      rw [hx] at hc
      by_cases h0 : x = 0
      · have HX : Hid (∀ j, j < k + 1 → xs.getD j 0 = 0) := fun j hj => by
          rcases Nat.lt_or_ge j k with h | h
          · exact HZ.out j h
          · have : j = k := by omega
            subst this
            simp [List.getD, hlt, hx, h0]
        clear hx
        go_wp2_with fail
        go_roundw
        case rel => exact ⟨k + 1, by go_num, hlt, HX.out, trivial⟩
        case measure => simp [intOf]; omega
      · have hN : firstC xs = x := by
          rw [firstC_skip xs k HZ.out, List.drop_eq_getElem_cons hlt, hx]
          simp [firstC, orC, h0]
        have HR : Hid (Num (firstC xs) wr (.returned (.int .i64 x)) wr) := ⟨by rw [hN], rfl⟩
        clear hN hx
        go_wp2_with fail
        go_ret
        exact HR.out
    · have hN : firstC xs = 0 := by
        rw [firstC_skip xs k HZ.out, List.drop_eq_nil_of_le (by omega)]
        rfl
      have HR : Hid (Num (firstC xs) wr (.returned (.int .i64 0)) wr) := ⟨by rw [hN], rfl⟩
      clear hN
      go_wp2_with fail
      go_ret
      exact HR.out
end Go.Proofs.Ytpcegakpdjmaaaa
