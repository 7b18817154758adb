/-
  Merged by program: EvName, AscI, Parts, HasN.
-/
import Derived.Test.YtlcpekpgkllbkaaGreatN21
import Derived.Test.YtlcpekpgkllbkaaGreatN16
import Derived.Test.YtlcpekpgkllbkaaGreatN15
import Derived.Test.YtlcpekpgkllbkaaGreatN20
import Derived.Test.YtlcpekpgkllbkaaGreatN7

/-
  The program's every over names.
-/
namespace Go.Proofs.YtlcpekpgkllbkaaGreat
open Go.RowKit

set_option maxRecDepth 100000 in
set_option maxHeartbeats 800000 in
theorem everyName_any (A : Option Addr) (c : Nat) (xs : List ByteArray) (w : World) (h : Sl w A (xs.map Value.string)) (hn : xs.length ≤ 1048576) (hx : ∀ x ∈ xs, x.size ≤ 1048576) :
    Calls Tryz.prog 214 #[.slice A xs.length c, .func (.func 127) #[] #[]] w (Truth (xs.all nameB) w) := by
  have HX := Lib.hid hx
  have HS := Lib.hid h
  clear hx h
  go_enter Tryz.func214, Tryz.ntmps214
  go_wp2_with fail
  go_loopw [9] (fun i wr => ∃ k : Nat, k ≤ xs.length ∧ i = .int .i64 k ∧ NamesTo xs k ∧ Below w.heap.size w wr) (fun i _ => xs.length - (intOf i).toNat)
  case atStart => exact ⟨0, Nat.zero_le _, rfl, namesTo_zero _, Below.refl _ _⟩
  case round =>
    obtain ⟨k, hk, rfl, hno, hb⟩ := hrel
    have HNO := Lib.hid hno
    have HB := Lib.hid hb
    clear hno hb
    by_cases hlt : k < xs.length
    · obtain ⟨ad, rfl, hc⟩ := (HS.out.below HB.out) k (.string xs[k]) (by simp [hlt])
      have HC := Lib.hid (implName_any xs[k] wr (HX.out _ (List.getElem_mem hlt)))
      by_cases hf : nameB xs[k] = true
      · have HN := Lib.hid (namesTo_succ HNO.out hlt hf)
        rw [hf] at HC
        clear hf
        go_wp2_with fail
        refine HC.out.mono ?_
        rintro e w2 ⟨rfl, hb2⟩
        have HB2 := Lib.hid (HB.out.trans (hb2.mono HB.out.size))
        clear hb2
        go_wp2_with fail
        go_roundw
        case rel => exact ⟨k + 1, hlt, by go_num, HN.out, HB2.out⟩
        case measure => simp [intOf]; omega
      · have hff : nameB xs[k] = false := by simpa using hf
        rw [hff] at HC
        have HE : Hid (xs.all nameB = false) := Lib.hid (by
          rw [Bool.eq_false_iff, Ne, List.all_eq_true]
          intro h
          have := h _ (List.getElem_mem hlt)
          rw [hff] at this
          cases this)
        clear hf hff
        go_wp2_with fail
        refine HC.out.mono ?_
        rintro e w2 ⟨rfl, hb2⟩
        have HB2 := Lib.hid (HB.out.trans (hb2.mono HB.out.size))
        clear hb2
        go_wp2_with fail
        go_ret
        exact ⟨by rw [HE.out]; rfl, HB2.out⟩
    · have he : k = xs.length := by omega
      have HE : Hid (xs.all nameB = true) := Lib.hid (by
        rw [List.all_eq_true]
        intro x hx
        obtain ⟨j, hj, rfl⟩ := List.getElem_of_mem hx
        exact HNO.out j hj (by omega))
      clear he
      go_wp2_with fail
      go_ret
      exact ⟨by rw [HE.out]; rfl, HB.out⟩
end Go.Proofs.YtlcpekpgkllbkaaGreat

/-
  The program's AreAscending.
-/
namespace Go.Proofs.YtlcpekpgkllbkaaGreat
open Go.RowKit

set_option maxHeartbeats 800000 in
theorem implAsc_any (A : Option Addr) (c : Nat) (xs : List ByteArray) (w : World) (h : Sl w A (xs.map Value.string)) (hn : xs.length ≤ 1048576) :
    Calls Tryz.prog 76 #[.slice A xs.length c] w (Tells (ascL xs) w) := by
  go_enter Tryz.func76, Tryz.ntmps76
  go_wp2
  go_loopw [3] (fun i wr => ∃ k : Nat, i = .int .i64 ((k : Int) + 1) ∧ k ≤ xs.length ∧ AscTo xs k ∧ ∃ n, wr = w.drewN n) (fun i _ => xs.length - (intOf i).toNat)
  case atStart => exact ⟨0, rfl, Nat.zero_le _, ascTo_zero _, 0, rfl⟩
  case round =>
    obtain ⟨k, rfl, hk, hasc, n, rfl⟩ := hrel
    by_cases hlt : k + 1 < xs.length
    · have hk4 : k < xs.length := by omega
      obtain ⟨ad, rfl, hc0⟩ := h k (.string (xs[k]'hk4)) (by simp [hk4])
      obtain ⟨m, hm⟩ : ∃ m, m = k + 1 := ⟨_, rfl⟩
      have hk6 : m < xs.length := by omega
      obtain ⟨ad', e, hc1⟩ := h m (.string (xs[m]'hk6)) (by simp [hk6])
      injection e with e
      subst e
      have hg : Op.bytesLess (xs[k]'hk4).toList (xs[m]'hk6).toList = okAt xs k := by subst hm; exact (okAt_get hlt).symm
      have hk1 : IntKind.i64.wrap (k : Int) = (k : Int) := IntWalk.i64_in _ (by omega)
      have hk2 : (0 : Int) ≤ (k : Int) + 1 := by omega
      have hk5 : (k : Int) + 1 < (xs.length : Int) := by omega
      have hk3 : ((k : Int) + 1).toNat = m := by omega
      clear hm
      cases hb : okAt xs k
      · rw [hb] at hg
        have hq := geq_run 9 _ _ hg
        simp only [Bool.not_false] at hq
        clear hg
        have HA := Lib.hid (asc_no hlt hb)
        clear hb hasc
        go_wp2
        go_quiet (fail)
        clear hk1 hk2 hk3 hq
        go_wp2
        go_ret
        exact ⟨ret_bool HA.out.symm, _, World.drewN_drewN _ _ _⟩
      · rw [hb] at hg
        have hq := geq_run 9 _ _ hg
        simp only [Bool.not_true] at hq
        clear hg
        have HA := Lib.hid (ascTo_succ hasc hb)
        clear hb hasc
        go_wp2
        go_quiet (fail)
        clear hk1 hk2 hk3 hq
        go_wp2
        go_roundw
        case rel => exact ⟨k + 1, by go_num, by omega, HA.out, _, rfl⟩
        case measure => simp [intOf]; omega
    · have HA := Lib.hid (asc_yes hasc (by omega))
      clear hasc
      go_wp2
      go_ret
      exact ⟨ret_bool HA.out.symm, n, rfl⟩
end Go.Proofs.YtlcpekpgkllbkaaGreat

/-
  The program's methods hasItsParts, by the kind of a type.
-/
namespace Go.Proofs.YtlcpekpgkllbkaaGreat
open Go.RowKit

def plainB (n m k : Nat) : Bool := decide (n = 0) && decide (m = k)

set_option maxRecDepth 100000 in
set_option maxHeartbeats 800000 in
theorem plain_any (c0 : Value) (L A : Option Addr) (n c m d k : Nat) (w : World) : Calls Tryz.prog 216 #[.agg #[c0, .slice L n c, .slice A m d], .int .i64 (k : Int)] w (Truth (plainB n m k) w) := by
  have hb0 : Below w.heap.size w (w.alloc (.cells #[c0, .slice L n c, .slice A m d] 48)) := (Below.refl _ _).alloc (Nat.le_refl _) _
  have HR : Hid (∀ b, b = plainB n m k → Truth (plainB n m k) w (.returned (.bool b)) (w.alloc (.cells #[c0, .slice L n c, .slice A m d] 48))) := by
    rintro b rfl
    exact ⟨rfl, hb0⟩
  clear hb0
  by_cases hn : n = 0
  · subst hn
    have HE : Hid (((m : Int) == (k : Int)) = plainB 0 m k) := Lib.hid (by
      unfold plainB
      by_cases h : m = k
      · subst h; simp
      · have h' : (m : Int) ≠ (k : Int) := by omega
        simp [h, h'])
    go_enter Tryz.func216, Tryz.ntmps216
    go_wp2_with fail
    go_ret
    exact HR.out _ HE.out
  · have hn' : ((n : Int) == 0) = false := by simp [hn]
    have HE : Hid (false = plainB n m k) := Lib.hid (by unfold plainB; simp [hn])
    clear hn
    go_enter Tryz.func216, Tryz.ntmps216
    go_wp2_with fail
    go_ret
    exact HR.out _ HE.out

theorem truth_box {t : TypeId} {b : Bool} {w : World} {cs : Array Value} {e : Ending} {w' : World} (h : Truth b (w.alloc (.cells cs t)) e w') : Truth b w e w' :=
  ⟨h.1, ((Below.refl _ w).alloc (Nat.le_refl _) _).trans (h.2.mono (by simp))⟩
set_option maxRecDepth 100000 in
theorem intParts (c0 : Value) (L A : Option Addr) (n c m d : Nat) (w : World) : Calls Tryz.prog 215 #[.agg #[c0, .slice L n c, .slice A m d]] w (Truth (plainB n m 0) w) := by
  have HC := Lib.hid (plain_any c0 L A n c m d 0 (w.alloc (.cells #[c0, .slice L n c, .slice A m d] 215)))
  go_enter Tryz.func215, Tryz.ntmps215
  go_wp2_with fail
  refine HC.out.mono ?_
  rintro e w1 h
  have HF := Lib.hid (truth_box h)
  obtain ⟨rfl, _⟩ := h
  go_wp2_with fail
  go_ret
  exact HF.out
set_option maxRecDepth 100000 in
theorem boolParts (c0 : Value) (L A : Option Addr) (n c m d : Nat) (w : World) : Calls Tryz.prog 217 #[.agg #[c0, .slice L n c, .slice A m d]] w (Truth (plainB n m 0) w) := by
  have HC := Lib.hid (plain_any c0 L A n c m d 0 (w.alloc (.cells #[c0, .slice L n c, .slice A m d] 216)))
  go_enter Tryz.func217, Tryz.ntmps217
  go_wp2_with fail
  refine HC.out.mono ?_
  rintro e w1 h
  have HF := Lib.hid (truth_box h)
  obtain ⟨rfl, _⟩ := h
  go_wp2_with fail
  go_ret
  exact HF.out
set_option maxRecDepth 100000 in
theorem bagParts (c0 : Value) (L A : Option Addr) (n c m d : Nat) (w : World) : Calls Tryz.prog 218 #[.agg #[c0, .slice L n c, .slice A m d]] w (Truth (plainB n m 1) w) := by
  have HC := Lib.hid (plain_any c0 L A n c m d 1 (w.alloc (.cells #[c0, .slice L n c, .slice A m d] 218)))
  go_enter Tryz.func218, Tryz.ntmps218
  go_wp2_with fail
  refine HC.out.mono ?_
  rintro e w1 h
  have HF := Lib.hid (truth_box h)
  obtain ⟨rfl, _⟩ := h
  go_wp2_with fail
  go_ret
  exact HF.out
set_option maxRecDepth 100000 in
theorem funParts (c0 : Value) (L A : Option Addr) (n c m d : Nat) (w : World) : Calls Tryz.prog 219 #[.agg #[c0, .slice L n c, .slice A m d]] w (Truth (plainB n m 2) w) := by
  have HC := Lib.hid (plain_any c0 L A n c m d 2 (w.alloc (.cells #[c0, .slice L n c, .slice A m d] 219)))
  go_enter Tryz.func219, Tryz.ntmps219
  go_wp2_with fail
  refine HC.out.mono ?_
  rintro e w1 h
  have HF := Lib.hid (truth_box h)
  obtain ⟨rfl, _⟩ := h
  go_wp2_with fail
  go_ret
  exact HF.out
theorem noneParts (c0 c1 c2 : Value) (w : World) : Calls Tryz.prog 220 #[.agg #[c0, c1, c2]] w (Truth false w) := by
  have HF : Hid (Truth false w (.returned (.bool false)) (w.alloc (.cells #[c0, c1, c2] 220))) := ⟨rfl, (Below.refl _ _).alloc (Nat.le_refl _) _⟩
  go_enter Tryz.func220, Tryz.ntmps220
  go_wp2_with fail
  go_ret
  exact HF.out
end Go.Proofs.YtlcpekpgkllbkaaGreat

/-
  The program's isIntValue, isBoolValue, isBagNode, hasNoParts.
-/
namespace Go.Proofs.YtlcpekpgkllbkaaGreat
open Go.RowKit

theorem below_box (w : World) (cs : Array Value) (t : TypeId) : Below w.heap.size w (w.alloc (.cells cs t)) := (Below.refl _ _).alloc (Nat.le_refl _) _

set_option maxRecDepth 100000 in
set_option maxHeartbeats 800000 in
theorem noParts_any (c0 c1 : Value) (L A : Option Addr) (l c m d : Nat) (w : World) : Calls Tryz.prog 191 #[.agg #[c0, c1, .slice L l c, .slice A m d]] w (Truth (plainB l m 0) w) := by
  have HR : Hid (∀ b, b = plainB l m 0 → Truth (plainB l m 0) w (.returned (.bool b)) (w.alloc (.cells #[c0, c1, .slice L l c, .slice A m d] 33))) := by
    rintro b rfl
    exact ⟨rfl, below_box _ _ _⟩
  by_cases hn : l = 0
  · subst hn
    have HE : Hid (((m : Int) == 0) = plainB 0 m 0) := Lib.hid (by
      unfold plainB
      by_cases h : m = 0
      · subst h; simp
      · have h' : (m : Int) ≠ 0 := by omega
        simp [h])
    go_enter Tryz.func191, Tryz.ntmps191
    go_wp2_with fail
    go_ret
    exact HR.out _ HE.out
  · have hn' : ((l : Int) == 0) = false := by simp [hn]
    have HE : Hid (false = plainB l m 0) := Lib.hid (by unfold plainB; simp [hn])
    clear hn
    go_enter Tryz.func191, Tryz.ntmps191
    go_wp2_with fail
    go_ret
    exact HR.out _ HE.out

def intB (p : Int) (l m : Nat) : Bool := decide (p = 1) && plainB l m 0
def boolB (p q : Int) (l m : Nat) : Bool := decide (p = 2) && (decide (q = 0 ∨ q = 1) && plainB l m 0)
def bagB (p q : Int) (l : Nat) : Bool := decide (p = 4) && (decide (q = 0) && decide (l = 0))

set_option maxRecDepth 100000 in
set_option maxHeartbeats 800000 in
theorem isIntV_any (p q : Int) (L A : Option Addr) (l c m d : Nat) (w : World) : Calls Tryz.prog 175 #[.agg #[.int .i64 p, .int .i64 q, .slice L l c, .slice A m d]] w (Truth (intB p l m) w) := by
  obtain ⟨W1, hW1⟩ : ∃ W1, w.alloc (.cells #[.int .i64 p, .int .i64 q, .slice L l c, .slice A m d] 33) = W1 := ⟨_, rfl⟩
  obtain ⟨H, hH⟩ : ∃ H, w.heap.size = H := ⟨_, rfl⟩
  have hb1 : Below w.heap.size w W1 := by rw [← hW1]; exact below_box _ _ _
  have hbx : Box4 W1 H 33 (.int .i64 p) (.int .i64 q) (.slice L l c) (.slice A m d) := by rw [← hW1, ← hH]; exact Box4.new w _ _ _ _ _
  have HC := Lib.hid (noParts_any (.int .i64 p) (.int .i64 q) L A l c m d W1)
  obtain ⟨N, hN⟩ : ∃ N, intB p l m = N := ⟨_, rfl⟩
  have hV : intB p l m = (decide (p = 1) && plainB l m 0) := rfl
  rw [hN] at hV ⊢
  have HV := Lib.hid hV
  have HW1 := Lib.hid hW1
  have HB1 := Lib.hid hb1
  have x0 := hbx.c0
  have x1 := hbx.c1
  have x2 := hbx.c2
  have x3 := hbx.c3
  clear hW1 hb1 hbx hN hV
  by_cases e0 : p = 1
  · subst e0
    go_enter Tryz.func175, Tryz.ntmps175
    go_wp2_with fail
    rw [HW1.out]
    go_wp2_with fail
    refine HC.out.mono ?_
    rintro e w2 ⟨rfl, hb⟩
    have HR : Hid (Truth N w (.returned (.bool (plainB l m 0))) w2) := truth_iff (by rw [HV.out]; simp) (HB1.out.trans (hb.mono HB1.out.size))
    clear hb
    go_wp2_with fail
    go_ret
    exact HR.out
  · have HR : Hid (∀ b, b = false → Truth N w (.returned (.bool b)) W1) := fun b hb => truth_iff (by rw [HV.out, hb, decide_eq_false e0]; rfl) HB1.out
    clear HV HC
    go_enter Tryz.func175, Tryz.ntmps175
    go_wp2_with fail
    rw [HW1.out]
    go_wp2_with fail
    go_ret
    exact HR.out _ (by first | rfl | simp [e0])

set_option maxRecDepth 100000 in
set_option maxHeartbeats 800000 in
theorem isBoolV_any (p q : Int) (L A : Option Addr) (l c m d : Nat) (w : World) : Calls Tryz.prog 176 #[.agg #[.int .i64 p, .int .i64 q, .slice L l c, .slice A m d]] w (Truth (boolB p q l m) w) := by
  obtain ⟨W1, hW1⟩ : ∃ W1, w.alloc (.cells #[.int .i64 p, .int .i64 q, .slice L l c, .slice A m d] 33) = W1 := ⟨_, rfl⟩
  obtain ⟨H, hH⟩ : ∃ H, w.heap.size = H := ⟨_, rfl⟩
  have hb1 : Below w.heap.size w W1 := by rw [← hW1]; exact below_box _ _ _
  have hbx : Box4 W1 H 33 (.int .i64 p) (.int .i64 q) (.slice L l c) (.slice A m d) := by rw [← hW1, ← hH]; exact Box4.new w _ _ _ _ _
  have HC := Lib.hid (noParts_any (.int .i64 p) (.int .i64 q) L A l c m d W1)
  obtain ⟨N, hN⟩ : ∃ N, boolB p q l m = N := ⟨_, rfl⟩
  have hV : boolB p q l m = (decide (p = 2) && (decide (q = 0 ∨ q = 1) && plainB l m 0)) := rfl
  rw [hN] at hV ⊢
  have HV := Lib.hid hV
  have HW1 := Lib.hid hW1
  have HB1 := Lib.hid hb1
  have x0 := hbx.c0
  have x1 := hbx.c1
  have x2 := hbx.c2
  have x3 := hbx.c3
  clear hW1 hb1 hbx hN hV
  by_cases e0 : p = 2
  · subst e0
    by_cases e1 : q = 0
    · subst e1
      go_enter Tryz.func176, Tryz.ntmps176
      go_wp2_with fail
      rw [HW1.out]
      go_wp2_with fail
      refine HC.out.mono ?_
      rintro e w2 ⟨rfl, hb⟩
      have HR : Hid (Truth N w (.returned (.bool (plainB l m 0))) w2) := truth_iff (by rw [HV.out]; simp) (HB1.out.trans (hb.mono HB1.out.size))
      clear hb
      go_wp2_with fail
      go_ret
      exact HR.out
    · by_cases e2 : q = 1
      · subst e2
        go_enter Tryz.func176, Tryz.ntmps176
        go_wp2_with fail
        rw [HW1.out]
        go_wp2_with fail
        refine HC.out.mono ?_
        rintro e w2 ⟨rfl, hb⟩
        have HR : Hid (Truth N w (.returned (.bool (plainB l m 0))) w2) := truth_iff (by rw [HV.out]; simp) (HB1.out.trans (hb.mono HB1.out.size))
        clear hb
        go_wp2_with fail
        go_ret
        exact HR.out
      · have HR : Hid (∀ b, b = false → Truth N w (.returned (.bool b)) W1) := fun b hb => truth_iff (by rw [HV.out, hb]; simp [e1, e2]) HB1.out
        have f1 : (q == 0) = false := by simp [e1]
        have f2 : (q == 1) = false := by simp [e2]
        clear HV HC
        go_enter Tryz.func176, Tryz.ntmps176
        go_wp2_with fail
        rw [HW1.out]
        go_wp2_with fail
        go_ret
        exact HR.out _ (by first | rfl | simp [e1, e2])
  · have HR : Hid (∀ b, b = false → Truth N w (.returned (.bool b)) W1) := fun b hb => truth_iff (by rw [HV.out, hb, decide_eq_false e0]; rfl) HB1.out
    clear HV HC
    go_enter Tryz.func176, Tryz.ntmps176
    go_wp2_with fail
    rw [HW1.out]
    go_wp2_with fail
    go_ret
    exact HR.out _ (by first | rfl | simp [e0])

set_option maxRecDepth 100000 in
set_option maxHeartbeats 800000 in
theorem isBagN_any (p q : Int) (L A : Option Addr) (l c m d : Nat) (w : World) : Calls Tryz.prog 178 #[.agg #[.int .i64 p, .int .i64 q, .slice L l c, .slice A m d]] w (Truth (bagB p q l) w) := by
  obtain ⟨W1, hW1⟩ : ∃ W1, w.alloc (.cells #[.int .i64 p, .int .i64 q, .slice L l c, .slice A m d] 33) = W1 := ⟨_, rfl⟩
  obtain ⟨H, hH⟩ : ∃ H, w.heap.size = H := ⟨_, rfl⟩
  have hb1 : Below w.heap.size w W1 := by rw [← hW1]; exact below_box _ _ _
  have hbx : Box4 W1 H 33 (.int .i64 p) (.int .i64 q) (.slice L l c) (.slice A m d) := by rw [← hW1, ← hH]; exact Box4.new w _ _ _ _ _
  have HR : Hid (∀ b, b = bagB p q l → Truth (bagB p q l) w (.returned (.bool b)) W1) := by
    rintro b rfl
    exact ⟨rfl, hb1⟩
  have HW1 := Lib.hid hW1
  have x0 := hbx.c0
  have x1 := hbx.c1
  have x2 := hbx.c2
  have x3 := hbx.c3
  clear hW1 hb1 hbx
  by_cases e0 : p = 4
  · by_cases e1 : q = 0
    · have HE : Hid (((l : Int) == 0) = bagB p q l) := Lib.hid (by
        unfold bagB
        subst e0 e1
        by_cases h : l = 0
        · subst h; simp
        · simp [h])
      subst e0 e1
      go_enter Tryz.func178, Tryz.ntmps178
      go_wp2_with fail
      rw [HW1.out]
      go_wp2_with fail
      go_ret
      exact HR.out _ HE.out
    · have HE : Hid (false = bagB p q l) := Lib.hid (by unfold bagB; simp [e1])
      subst e0
      go_enter Tryz.func178, Tryz.ntmps178
      go_wp2_with fail
      rw [HW1.out]
      go_wp2_with fail
      go_ret
      first | exact HR.out _ HE.out | exact HR.out _ ((by simp [e1]) : _ = false).trans HE.out
  · have HE : Hid (false = bagB p q l) := Lib.hid (by unfold bagB; simp [e0])
    go_enter Tryz.func178, Tryz.ntmps178
    go_wp2_with fail
    rw [HW1.out]
    go_wp2_with fail
    go_ret
    first | exact HR.out _ HE.out | exact HR.out _ (((by simp [e0]) : _ = false).trans HE.out)
end Go.Proofs.YtlcpekpgkllbkaaGreat
