/-
  The model's OpArity.
-/
import Derived.Test.YthcfgpjldhiinaaTyHas
namespace Go.Proofs.Ythcfgpjldhiinaa
open Go.RowKit

/-- how many arguments an operation has -/
def arB (s : ByteArray) : Int := if s.toList == [43] then 2 else if s.toList == [45] then 2 else if s.toList == [61] then 2 else if s.toList == [60] then 2 else if s.toList == [38] then 2 else if s.toList == [124] then 2 else if s.toList == [33] then 1 else 0
def Arity (s : ByteArray) (w : World) (e : Ending) (w' : World) : Prop := e = .returned (.int .i64 (arB s)) ∧ w = w'
theorem arB_le (s : ByteArray) : 0 ≤ arB s ∧ arB s ≤ 2 := by
  unfold arB
  repeat' split
  all_goals omega

set_option maxHeartbeats 800000 in
theorem specArity_any (s : ByteArray) (w : World) : Calls Try.prog 8 #[.string s] w (Arity s w) := by
  have hR : ∀ k, k = arB s → Arity s w (.returned (.int .i64 k)) w := fun k h => ⟨by rw [h], rfl⟩
  have HR := Lib.hid hR
  clear hR
  cases e0 : (s.toList == [43]) with
  | true =>
    have HV : Hid ((2 : Int) = arB s) := Lib.hid (by unfold arB; simp only [e0, if_true])
    go_enter Try.func8, Try.ntmps8
    go_wp2_with fail
    go_ret
    exact HR.out _ HV.out
  | false =>
    cases e1 : (s.toList == [45]) with
    | true =>
      have HV : Hid ((2 : Int) = arB s) := Lib.hid (by unfold arB; simp only [e0, e1, if_true, Bool.false_eq_true, if_false])
      go_enter Try.func8, Try.ntmps8
      go_wp2_with fail
      go_ret
      exact HR.out _ HV.out
    | false =>
      cases e2 : (s.toList == [61]) with
      | true =>
        have HV : Hid ((2 : Int) = arB s) := Lib.hid (by unfold arB; simp only [e0, e1, e2, if_true, Bool.false_eq_true, if_false])
        go_enter Try.func8, Try.ntmps8
        go_wp2_with fail
        go_ret
        exact HR.out _ HV.out
      | false =>
        cases e3 : (s.toList == [60]) with
        | true =>
          have HV : Hid ((2 : Int) = arB s) := Lib.hid (by unfold arB; simp only [e0, e1, e2, e3, if_true, Bool.false_eq_true, if_false])
          go_enter Try.func8, Try.ntmps8
          go_wp2_with fail
          go_ret
          exact HR.out _ HV.out
        | false =>
          cases e4 : (s.toList == [38]) with
          | true =>
            have HV : Hid ((2 : Int) = arB s) := Lib.hid (by unfold arB; simp only [e0, e1, e2, e3, e4, if_true, Bool.false_eq_true, if_false])
            go_enter Try.func8, Try.ntmps8
            go_wp2_with fail
            go_ret
            exact HR.out _ HV.out
          | false =>
            cases e5 : (s.toList == [124]) with
            | true =>
              have HV : Hid ((2 : Int) = arB s) := Lib.hid (by unfold arB; simp only [e0, e1, e2, e3, e4, e5, if_true, Bool.false_eq_true, if_false])
              go_enter Try.func8, Try.ntmps8
              go_wp2_with fail
              go_ret
              exact HR.out _ HV.out
            | false =>
              cases e6 : (s.toList == [33]) with
              | true =>
                have HV : Hid ((1 : Int) = arB s) := Lib.hid (by unfold arB; simp only [e0, e1, e2, e3, e4, e5, e6, if_true, Bool.false_eq_true, if_false])
                go_enter Try.func8, Try.ntmps8
                go_wp2_with fail
                go_ret
                exact HR.out _ HV.out
              | false =>
                have HV : Hid ((0 : Int) = arB s) := Lib.hid (by unfold arB; simp only [e0, e1, e2, e3, e4, e5, e6, Bool.false_eq_true, if_false])
                go_enter Try.func8, Try.ntmps8
                go_wp2_with fail
                go_ret
                exact HR.out _ HV.out
end Go.Proofs.Ythcfgpjldhiinaa
