/-
  Merged by program: EvName, AscI, Parts.
-/
import Derived.Test.YtlikmgkjilmjpaaH20
import Derived.Test.YtlikmgkjilmjpaaH7
import Derived.Test.YtlikmgkjilmjpaaH4
import Derived.Test.YtlikmgkjilmjpaaH19

/-
  The program's every over names.
-/
namespace Go.Proofs.Ytlikmgkjilmjpaa
open Go.RowKit

set_option maxRecDepth 100000 in
set_option maxHeartbeats 800000 in
theorem everyName_any (A : Option Addr) (c : Nat) (xs : List ByteArray) (w : World) (h : Sl w A (xs.map Value.string)) (hn : xs.length ≤ 1048576) (hx : ∀ x ∈ xs, x.size ≤ 1048576) :
    Calls Try.prog 151 #[.slice A xs.length c, .func (.func 97) #[] #[]] w (Truth (xs.all nameB) w) := by
  have HX := Lib.hid hx
  have HS := Lib.hid h
  clear hx h
  go_enter Try.func151, Try.ntmps151
  go_wp2_with fail
  go_loopw [9] (fun i wr => ∃ k : Nat, k ≤ xs.length ∧ i = .int .i64 k ∧ NamesTo xs k ∧ Below w.heap.size w wr) (fun i _ => xs.length - (intOf i).toNat)
  case atStart => exact ⟨0, Nat.zero_le _, rfl, namesTo_zero _, Below.refl _ _⟩
  case round =>
    obtain ⟨k, hk, rfl, hno, hb⟩ := hrel
    have HNO := Lib.hid hno
    have HB := Lib.hid hb
    clear hno hb
    by_cases hlt : k < xs.length
    · obtain ⟨ad, rfl, hc⟩ := (HS.out.below HB.out) k (.string xs[k]) (by simp [hlt])
      have HC := Lib.hid (implName_any xs[k] wr (HX.out _ (List.getElem_mem hlt)))
      by_cases hf : nameB xs[k] = true
      · have HN := Lib.hid (namesTo_succ HNO.out hlt hf)
        rw [hf] at HC
        clear hf
        go_wp2_with fail
        refine HC.out.mono ?_
        rintro e w2 ⟨rfl, hb2⟩
        have HB2 := Lib.hid (HB.out.trans (hb2.mono HB.out.size))
        clear hb2
        go_wp2_with fail
        go_roundw
        case rel => exact ⟨k + 1, hlt, by go_num, HN.out, HB2.out⟩
        case measure => simp [intOf]; omega
      · have hff : nameB xs[k] = false := by simpa using hf
        rw [hff] at HC
        have HE : Hid (xs.all nameB = false) := Lib.hid (by
          rw [Bool.eq_false_iff, Ne, List.all_eq_true]
          intro h
          have := h _ (List.getElem_mem hlt)
          rw [hff] at this
          cases this)
        clear hf hff
        go_wp2_with fail
        refine HC.out.mono ?_
        rintro e w2 ⟨rfl, hb2⟩
        have HB2 := Lib.hid (HB.out.trans (hb2.mono HB.out.size))
        clear hb2
        go_wp2_with fail
        go_ret
        exact ⟨by rw [HE.out]; rfl, HB2.out⟩
    · have he : k = xs.length := by omega
      have HE : Hid (xs.all nameB = true) := Lib.hid (by
        rw [List.all_eq_true]
        intro x hx
        obtain ⟨j, hj, rfl⟩ := List.getElem_of_mem hx
        exact HNO.out j hj (by omega))
      clear he
      go_wp2_with fail
      go_ret
      exact ⟨by rw [HE.out]; rfl, HB.out⟩
end Go.Proofs.Ytlikmgkjilmjpaa

/-
  The program's AreAscending.
-/
namespace Go.Proofs.Ytlikmgkjilmjpaa
open Go.RowKit

set_option maxHeartbeats 800000 in
theorem implAsc_any (A : Option Addr) (c : Nat) (xs : List ByteArray) (w : World) (h : Sl w A (xs.map Value.string)) (hn : xs.length ≤ 1048576) :
    Calls Try.prog 150 #[.slice A xs.length c] w (Tells (ascL xs) w) := by
  go_enter Try.func150, Try.ntmps150
  go_wp2
  go_loopw [3] (fun i wr => ∃ k : Nat, i = .int .i64 ((k : Int) + 1) ∧ k ≤ xs.length ∧ AscTo xs k ∧ ∃ n, wr = w.drewN n) (fun i _ => xs.length - (intOf i).toNat)
  case atStart => exact ⟨0, rfl, Nat.zero_le _, ascTo_zero _, 0, rfl⟩
  case round =>
    obtain ⟨k, rfl, hk, hasc, n, rfl⟩ := hrel
    by_cases hlt : k + 1 < xs.length
    · have hk4 : k < xs.length := by omega
      obtain ⟨ad, rfl, hc0⟩ := h k (.string (xs[k]'hk4)) (by simp [hk4])
      obtain ⟨m, hm⟩ : ∃ m, m = k + 1 := ⟨_, rfl⟩
      have hk6 : m < xs.length := by omega
      obtain ⟨ad', e, hc1⟩ := h m (.string (xs[m]'hk6)) (by simp [hk6])
      injection e with e
      subst e
      have hg : Op.bytesLess (xs[k]'hk4).toList (xs[m]'hk6).toList = okAt xs k := by subst hm; exact (okAt_get hlt).symm
      have hk1 : IntKind.i64.wrap (k : Int) = (k : Int) := IntWalk.i64_in _ (by omega)
      have hk2 : (0 : Int) ≤ (k : Int) + 1 := by omega
      have hk5 : (k : Int) + 1 < (xs.length : Int) := by omega
      have hk3 : ((k : Int) + 1).toNat = m := by omega
      clear hm
      cases hb : okAt xs k
      · rw [hb] at hg
        have hq := geq_run 9 _ _ hg
        simp only [Bool.not_false] at hq
        clear hg
        have HA := Lib.hid (asc_no hlt hb)
        clear hb hasc
        go_wp2
        go_quiet (fail)
        clear hk1 hk2 hk3 hq
        go_wp2
        go_ret
        exact ⟨ret_bool HA.out.symm, _, World.drewN_drewN _ _ _⟩
      · rw [hb] at hg
        have hq := geq_run 9 _ _ hg
        simp only [Bool.not_true] at hq
        clear hg
        have HA := Lib.hid (ascTo_succ hasc hb)
        clear hb hasc
        go_wp2
        go_quiet (fail)
        clear hk1 hk2 hk3 hq
        go_wp2
        go_roundw
        case rel => exact ⟨k + 1, by go_num, by omega, HA.out, _, rfl⟩
        case measure => simp [intOf]; omega
    · have HA := Lib.hid (asc_yes hasc (by omega))
      clear hasc
      go_wp2
      go_ret
      exact ⟨ret_bool HA.out.symm, n, rfl⟩
end Go.Proofs.Ytlikmgkjilmjpaa

/-
  The program's methods hasItsParts, by the kind of a type.
-/
namespace Go.Proofs.Ytlikmgkjilmjpaa
open Go.RowKit

def plainB (n m k : Nat) : Bool := decide (n = 0) && decide (m = k)

set_option maxRecDepth 100000 in
set_option maxHeartbeats 800000 in
theorem plain_any (c0 : Value) (L A : Option Addr) (n c m d k : Nat) (w : World) : Calls Try.prog 146 #[.agg #[c0, .slice L n c, .slice A m d], .int .i64 (k : Int)] w (Truth (plainB n m k) w) := by
  have hb0 : Below w.heap.size w (w.alloc (.cells #[c0, .slice L n c, .slice A m d] 41)) := (Below.refl _ _).alloc (Nat.le_refl _) _
  have HR : Hid (∀ b, b = plainB n m k → Truth (plainB n m k) w (.returned (.bool b)) (w.alloc (.cells #[c0, .slice L n c, .slice A m d] 41))) := by
    rintro b rfl
    exact ⟨rfl, hb0⟩
  clear hb0
  by_cases hn : n = 0
  · subst hn
    have HE : Hid (((m : Int) == (k : Int)) = plainB 0 m k) := Lib.hid (by
      unfold plainB
      by_cases h : m = k
      · subst h; simp
      · have h' : (m : Int) ≠ (k : Int) := by omega
        simp [h, h'])
    go_enter Try.func146, Try.ntmps146
    go_wp2_with fail
    go_ret
    exact HR.out _ HE.out
  · have hn' : ((n : Int) == 0) = false := by simp [hn]
    have HE : Hid (false = plainB n m k) := Lib.hid (by unfold plainB; simp [hn])
    clear hn
    go_enter Try.func146, Try.ntmps146
    go_wp2_with fail
    go_ret
    exact HR.out _ HE.out

theorem truth_box {t : TypeId} {b : Bool} {w : World} {cs : Array Value} {e : Ending} {w' : World} (h : Truth b (w.alloc (.cells cs t)) e w') : Truth b w e w' :=
  ⟨h.1, ((Below.refl _ w).alloc (Nat.le_refl _) _).trans (h.2.mono (by simp))⟩
set_option maxRecDepth 100000 in
theorem intParts (c0 : Value) (L A : Option Addr) (n c m d : Nat) (w : World) : Calls Try.prog 145 #[.agg #[c0, .slice L n c, .slice A m d]] w (Truth (plainB n m 0) w) := by
  have HC := Lib.hid (plain_any c0 L A n c m d 0 (w.alloc (.cells #[c0, .slice L n c, .slice A m d] 101)))
  go_enter Try.func145, Try.ntmps145
  go_wp2_with fail
  refine HC.out.mono ?_
  rintro e w1 h
  have HF := Lib.hid (truth_box h)
  obtain ⟨rfl, _⟩ := h
  go_wp2_with fail
  go_ret
  exact HF.out
set_option maxRecDepth 100000 in
theorem boolParts (c0 : Value) (L A : Option Addr) (n c m d : Nat) (w : World) : Calls Try.prog 147 #[.agg #[c0, .slice L n c, .slice A m d]] w (Truth (plainB n m 0) w) := by
  have HC := Lib.hid (plain_any c0 L A n c m d 0 (w.alloc (.cells #[c0, .slice L n c, .slice A m d] 102)))
  go_enter Try.func147, Try.ntmps147
  go_wp2_with fail
  refine HC.out.mono ?_
  rintro e w1 h
  have HF := Lib.hid (truth_box h)
  obtain ⟨rfl, _⟩ := h
  go_wp2_with fail
  go_ret
  exact HF.out
set_option maxRecDepth 100000 in
theorem bagParts (c0 : Value) (L A : Option Addr) (n c m d : Nat) (w : World) : Calls Try.prog 152 #[.agg #[c0, .slice L n c, .slice A m d]] w (Truth (plainB n m 1) w) := by
  have HC := Lib.hid (plain_any c0 L A n c m d 1 (w.alloc (.cells #[c0, .slice L n c, .slice A m d] 105)))
  go_enter Try.func152, Try.ntmps152
  go_wp2_with fail
  refine HC.out.mono ?_
  rintro e w1 h
  have HF := Lib.hid (truth_box h)
  obtain ⟨rfl, _⟩ := h
  go_wp2_with fail
  go_ret
  exact HF.out
set_option maxRecDepth 100000 in
theorem funParts (c0 : Value) (L A : Option Addr) (n c m d : Nat) (w : World) : Calls Try.prog 153 #[.agg #[c0, .slice L n c, .slice A m d]] w (Truth (plainB n m 2) w) := by
  have HC := Lib.hid (plain_any c0 L A n c m d 2 (w.alloc (.cells #[c0, .slice L n c, .slice A m d] 123)))
  go_enter Try.func153, Try.ntmps153
  go_wp2_with fail
  refine HC.out.mono ?_
  rintro e w1 h
  have HF := Lib.hid (truth_box h)
  obtain ⟨rfl, _⟩ := h
  go_wp2_with fail
  go_ret
  exact HF.out
theorem noneParts (c0 c1 c2 : Value) (w : World) : Calls Try.prog 154 #[.agg #[c0, c1, c2]] w (Truth false w) := by
  have HF : Hid (Truth false w (.returned (.bool false)) (w.alloc (.cells #[c0, c1, c2] 125))) := ⟨rfl, (Below.refl _ _).alloc (Nat.le_refl _) _⟩
  go_enter Try.func154, Try.ntmps154
  go_wp2_with fail
  go_ret
  exact HF.out
end Go.Proofs.Ytlikmgkjilmjpaa
