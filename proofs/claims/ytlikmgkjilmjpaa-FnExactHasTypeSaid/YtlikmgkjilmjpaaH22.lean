/-
  Merged by program: HasN.
-/
import Derived.Test.YtlikmgkjilmjpaaH10
import Derived.Test.YtlikmgkjilmjpaaH21

/-
  The program's isIntValue, isBoolValue, isBagNode, hasNoParts.
-/
namespace Go.Proofs.Ytlikmgkjilmjpaa
open Go.RowKit

theorem below_box (w : World) (cs : Array Value) (t : TypeId) : Below w.heap.size w (w.alloc (.cells cs t)) := (Below.refl _ _).alloc (Nat.le_refl _) _

set_option maxRecDepth 100000 in
set_option maxHeartbeats 800000 in
theorem noParts_any (c0 c1 : Value) (L A : Option Addr) (l c m d : Nat) (w : World) : Calls Try.prog 102 #[.agg #[c0, c1, .slice L l c, .slice A m d]] w (Truth (plainB l m 0) w) := by
  have HR : Hid (∀ b, b = plainB l m 0 → Truth (plainB l m 0) w (.returned (.bool b)) (w.alloc (.cells #[c0, c1, .slice L l c, .slice A m d] 30))) := by
    rintro b rfl
    exact ⟨rfl, below_box _ _ _⟩
  by_cases hn : l = 0
  · subst hn
    have HE : Hid (((m : Int) == 0) = plainB 0 m 0) := Lib.hid (by
      unfold plainB
      by_cases h : m = 0
      · subst h; simp
      · have h' : (m : Int) ≠ 0 := by omega
        simp [h])
    go_enter Try.func102, Try.ntmps102
    go_wp2_with fail
    go_ret
    exact HR.out _ HE.out
  · have hn' : ((l : Int) == 0) = false := by simp [hn]
    have HE : Hid (false = plainB l m 0) := Lib.hid (by unfold plainB; simp [hn])
    clear hn
    go_enter Try.func102, Try.ntmps102
    go_wp2_with fail
    go_ret
    exact HR.out _ HE.out

def intB (p : Int) (l m : Nat) : Bool := decide (p = 1) && plainB l m 0
def boolB (p q : Int) (l m : Nat) : Bool := decide (p = 2) && (decide (q = 0 ∨ q = 1) && plainB l m 0)
def bagB (p q : Int) (l : Nat) : Bool := decide (p = 4) && (decide (q = 0) && decide (l = 0))

set_option maxRecDepth 100000 in
set_option maxHeartbeats 800000 in
theorem isIntV_any (p q : Int) (L A : Option Addr) (l c m d : Nat) (w : World) : Calls Try.prog 79 #[.agg #[.int .i64 p, .int .i64 q, .slice L l c, .slice A m d]] w (Truth (intB p l m) w) := by
  obtain ⟨W1, hW1⟩ : ∃ W1, w.alloc (.cells #[.int .i64 p, .int .i64 q, .slice L l c, .slice A m d] 30) = W1 := ⟨_, rfl⟩
  obtain ⟨H, hH⟩ : ∃ H, w.heap.size = H := ⟨_, rfl⟩
  have hb1 : Below w.heap.size w W1 := by rw [← hW1]; exact below_box _ _ _
  have hbx : Box4 W1 H 30 (.int .i64 p) (.int .i64 q) (.slice L l c) (.slice A m d) := by rw [← hW1, ← hH]; exact Box4.new w _ _ _ _ _
  have HC := Lib.hid (noParts_any (.int .i64 p) (.int .i64 q) L A l c m d W1)
  obtain ⟨N, hN⟩ : ∃ N, intB p l m = N := ⟨_, rfl⟩
  have hV : intB p l m = (decide (p = 1) && plainB l m 0) := rfl
  rw [hN] at hV ⊢
  have HV := Lib.hid hV
  have HW1 := Lib.hid hW1
  have HB1 := Lib.hid hb1
  have x0 := hbx.c0
  have x1 := hbx.c1
  have x2 := hbx.c2
  have x3 := hbx.c3
  clear hW1 hb1 hbx hN hV
  by_cases e0 : p = 1
  · subst e0
    go_enter Try.func79, Try.ntmps79
    go_wp2_with fail
    rw [HW1.out]
    go_wp2_with fail
    refine HC.out.mono ?_
    rintro e w2 ⟨rfl, hb⟩
    have HR : Hid (Truth N w (.returned (.bool (plainB l m 0))) w2) := truth_iff (by rw [HV.out]; simp) (HB1.out.trans (hb.mono HB1.out.size))
    clear hb
    go_wp2_with fail
    go_ret
    exact HR.out
  · have HR : Hid (∀ b, b = false → Truth N w (.returned (.bool b)) W1) := fun b hb => truth_iff (by rw [HV.out, hb, decide_eq_false e0]; rfl) HB1.out
    clear HV HC
    go_enter Try.func79, Try.ntmps79
    go_wp2_with fail
    rw [HW1.out]
    go_wp2_with fail
    go_ret
    exact HR.out _ (by first | rfl | simp [e0])

set_option maxRecDepth 100000 in
set_option maxHeartbeats 800000 in
theorem isBoolV_any (p q : Int) (L A : Option Addr) (l c m d : Nat) (w : World) : Calls Try.prog 80 #[.agg #[.int .i64 p, .int .i64 q, .slice L l c, .slice A m d]] w (Truth (boolB p q l m) w) := by
  obtain ⟨W1, hW1⟩ : ∃ W1, w.alloc (.cells #[.int .i64 p, .int .i64 q, .slice L l c, .slice A m d] 30) = W1 := ⟨_, rfl⟩
  obtain ⟨H, hH⟩ : ∃ H, w.heap.size = H := ⟨_, rfl⟩
  have hb1 : Below w.heap.size w W1 := by rw [← hW1]; exact below_box _ _ _
  have hbx : Box4 W1 H 30 (.int .i64 p) (.int .i64 q) (.slice L l c) (.slice A m d) := by rw [← hW1, ← hH]; exact Box4.new w _ _ _ _ _
  have HC := Lib.hid (noParts_any (.int .i64 p) (.int .i64 q) L A l c m d W1)
  obtain ⟨N, hN⟩ : ∃ N, boolB p q l m = N := ⟨_, rfl⟩
  have hV : boolB p q l m = (decide (p = 2) && (decide (q = 0 ∨ q = 1) && plainB l m 0)) := rfl
  rw [hN] at hV ⊢
  have HV := Lib.hid hV
  have HW1 := Lib.hid hW1
  have HB1 := Lib.hid hb1
  have x0 := hbx.c0
  have x1 := hbx.c1
  have x2 := hbx.c2
  have x3 := hbx.c3
  clear hW1 hb1 hbx hN hV
  by_cases e0 : p = 2
  · subst e0
    by_cases e1 : q = 0
    · subst e1
      go_enter Try.func80, Try.ntmps80
      go_wp2_with fail
      rw [HW1.out]
      go_wp2_with fail
      refine HC.out.mono ?_
      rintro e w2 ⟨rfl, hb⟩
      have HR : Hid (Truth N w (.returned (.bool (plainB l m 0))) w2) := truth_iff (by rw [HV.out]; simp) (HB1.out.trans (hb.mono HB1.out.size))
      clear hb
      go_wp2_with fail
      go_ret
      exact HR.out
    · by_cases e2 : q = 1
      · subst e2
        go_enter Try.func80, Try.ntmps80
        go_wp2_with fail
        rw [HW1.out]
        go_wp2_with fail
        refine HC.out.mono ?_
        rintro e w2 ⟨rfl, hb⟩
        have HR : Hid (Truth N w (.returned (.bool (plainB l m 0))) w2) := truth_iff (by rw [HV.out]; simp) (HB1.out.trans (hb.mono HB1.out.size))
        clear hb
        go_wp2_with fail
        go_ret
        exact HR.out
      · have HR : Hid (∀ b, b = false → Truth N w (.returned (.bool b)) W1) := fun b hb => truth_iff (by rw [HV.out, hb]; simp [e1, e2]) HB1.out
        have f1 : (q == 0) = false := by simp [e1]
        have f2 : (q == 1) = false := by simp [e2]
        clear HV HC
        go_enter Try.func80, Try.ntmps80
        go_wp2_with fail
        rw [HW1.out]
        go_wp2_with fail
        go_ret
        exact HR.out _ (by first | rfl | simp [e1, e2])
  · have HR : Hid (∀ b, b = false → Truth N w (.returned (.bool b)) W1) := fun b hb => truth_iff (by rw [HV.out, hb, decide_eq_false e0]; rfl) HB1.out
    clear HV HC
    go_enter Try.func80, Try.ntmps80
    go_wp2_with fail
    rw [HW1.out]
    go_wp2_with fail
    go_ret
    exact HR.out _ (by first | rfl | simp [e0])

set_option maxRecDepth 100000 in
set_option maxHeartbeats 800000 in
theorem isBagN_any (p q : Int) (L A : Option Addr) (l c m d : Nat) (w : World) : Calls Try.prog 83 #[.agg #[.int .i64 p, .int .i64 q, .slice L l c, .slice A m d]] w (Truth (bagB p q l) w) := by
  obtain ⟨W1, hW1⟩ : ∃ W1, w.alloc (.cells #[.int .i64 p, .int .i64 q, .slice L l c, .slice A m d] 30) = W1 := ⟨_, rfl⟩
  obtain ⟨H, hH⟩ : ∃ H, w.heap.size = H := ⟨_, rfl⟩
  have hb1 : Below w.heap.size w W1 := by rw [← hW1]; exact below_box _ _ _
  have hbx : Box4 W1 H 30 (.int .i64 p) (.int .i64 q) (.slice L l c) (.slice A m d) := by rw [← hW1, ← hH]; exact Box4.new w _ _ _ _ _
  have HR : Hid (∀ b, b = bagB p q l → Truth (bagB p q l) w (.returned (.bool b)) W1) := by
    rintro b rfl
    exact ⟨rfl, hb1⟩
  have HW1 := Lib.hid hW1
  have x0 := hbx.c0
  have x1 := hbx.c1
  have x2 := hbx.c2
  have x3 := hbx.c3
  clear hW1 hb1 hbx
  by_cases e0 : p = 4
  · by_cases e1 : q = 0
    · have HE : Hid (((l : Int) == 0) = bagB p q l) := Lib.hid (by
        unfold bagB
        subst e0 e1
        by_cases h : l = 0
        · subst h; simp
        · simp [h])
      subst e0 e1
      go_enter Try.func83, Try.ntmps83
      go_wp2_with fail
      rw [HW1.out]
      go_wp2_with fail
      go_ret
      exact HR.out _ HE.out
    · have HE : Hid (false = bagB p q l) := Lib.hid (by unfold bagB; simp [e1])
      subst e0
      go_enter Try.func83, Try.ntmps83
      go_wp2_with fail
      rw [HW1.out]
      go_wp2_with fail
      go_ret
      first | exact HR.out _ HE.out | exact HR.out _ ((by simp [e1]) : _ = false).trans HE.out
  · have HE : Hid (false = bagB p q l) := Lib.hid (by unfold bagB; simp [e0])
    go_enter Try.func83, Try.ntmps83
    go_wp2_with fail
    rw [HW1.out]
    go_wp2_with fail
    go_ret
    first | exact HR.out _ HE.out | exact HR.out _ (((by simp [e0]) : _ = false).trans HE.out)
end Go.Proofs.Ytlikmgkjilmjpaa
