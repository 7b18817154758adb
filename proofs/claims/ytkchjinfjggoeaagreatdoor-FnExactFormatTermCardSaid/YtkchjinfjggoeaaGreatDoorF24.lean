/-
  Merged by program: EvName, AscI, Parts, RecLab, PartsR.
-/
import Derived.Test.YtkchjinfjggoeaaGreatDoorF23
import Derived.Test.YtkchjinfjggoeaaGreatDoorF5
import Derived.Test.YtkchjinfjggoeaaGreatDoorF3

/-
  The program's every over names.
-/
namespace Go.Proofs.YtkchjinfjggoeaaGreatDoor
open Go.RowKit

set_option maxRecDepth 100000 in
set_option maxHeartbeats 800000 in
theorem everyName_any (A : Option Addr) (c : Nat) (xs : List ByteArray) (w : World) (h : Sl w A (xs.map Value.string)) (hn : xs.length ≤ 1048576) (hx : ∀ x ∈ xs, x.size ≤ 1048576) :
    Calls Tryz.prog 185 #[.slice A xs.length c, .func (.func 164) #[] #[]] w (Truth (xs.all nameB) w) := by
  have HX := Lib.hid hx
  have HS := Lib.hid h
  clear hx h
  go_enter Tryz.func185, Tryz.ntmps185
  go_wp2_with fail
  go_loopw [9] (fun i wr => ∃ k : Nat, k ≤ xs.length ∧ i = .int .i64 k ∧ NamesTo xs k ∧ Below w.heap.size w wr) (fun i _ => xs.length - (intOf i).toNat)
  case atStart => exact ⟨0, Nat.zero_le _, rfl, namesTo_zero _, Below.refl _ _⟩
  case round =>
    obtain ⟨k, hk, rfl, hno, hb⟩ := hrel
    have HNO := Lib.hid hno
    have HB := Lib.hid hb
    clear hno hb
    by_cases hlt : k < xs.length
    · obtain ⟨ad, rfl, hc⟩ := (HS.out.below HB.out) k (.string xs[k]) (by simp [hlt])
      have HC := Lib.hid (implName_any xs[k] wr (HX.out _ (List.getElem_mem hlt)))
      by_cases hf : nameB xs[k] = true
      · have HN := Lib.hid (namesTo_succ HNO.out hlt hf)
        rw [hf] at HC
        clear hf
        go_wp2_with fail
        refine HC.out.mono ?_
        rintro e w2 ⟨rfl, hb2⟩
        have HB2 := Lib.hid (HB.out.trans (hb2.mono HB.out.size))
        clear hb2
        go_wp2_with fail
        go_roundw
        case rel => exact ⟨k + 1, hlt, by go_num, HN.out, HB2.out⟩
        case measure => simp [intOf]; omega
      · have hff : nameB xs[k] = false := by simpa using hf
        rw [hff] at HC
        have HE : Hid (xs.all nameB = false) := Lib.hid (by
          rw [Bool.eq_false_iff, Ne, List.all_eq_true]
          intro h
          have := h _ (List.getElem_mem hlt)
          rw [hff] at this
          cases this)
        clear hf hff
        go_wp2_with fail
        refine HC.out.mono ?_
        rintro e w2 ⟨rfl, hb2⟩
        have HB2 := Lib.hid (HB.out.trans (hb2.mono HB.out.size))
        clear hb2
        go_wp2_with fail
        go_ret
        exact ⟨by rw [HE.out]; rfl, HB2.out⟩
    · have he : k = xs.length := by omega
      have HE : Hid (xs.all nameB = true) := Lib.hid (by
        rw [List.all_eq_true]
        intro x hx
        obtain ⟨j, hj, rfl⟩ := List.getElem_of_mem hx
        exact HNO.out j hj (by omega))
      clear he
      go_wp2_with fail
      go_ret
      exact ⟨by rw [HE.out]; rfl, HB.out⟩
end Go.Proofs.YtkchjinfjggoeaaGreatDoor

/-
  The program's AreAscending.
-/
namespace Go.Proofs.YtkchjinfjggoeaaGreatDoor
open Go.RowKit

set_option maxHeartbeats 800000 in
theorem implAsc_any (A : Option Addr) (c : Nat) (xs : List ByteArray) (w : World) (h : Sl w A (xs.map Value.string)) (hn : xs.length ≤ 1048576) :
    Calls Tryz.prog 184 #[.slice A xs.length c] w (Tells (ascL xs) w) := by
  go_enter Tryz.func184, Tryz.ntmps184
  go_wp2
  go_loopw [3] (fun i wr => ∃ k : Nat, i = .int .i64 ((k : Int) + 1) ∧ k ≤ xs.length ∧ AscTo xs k ∧ ∃ n, wr = w.drewN n) (fun i _ => xs.length - (intOf i).toNat)
  case atStart => exact ⟨0, rfl, Nat.zero_le _, ascTo_zero _, 0, rfl⟩
  case round =>
    obtain ⟨k, rfl, hk, hasc, n, rfl⟩ := hrel
    by_cases hlt : k + 1 < xs.length
    · have hk4 : k < xs.length := by omega
      obtain ⟨ad, rfl, hc0⟩ := h k (.string (xs[k]'hk4)) (by simp [hk4])
      obtain ⟨m, hm⟩ : ∃ m, m = k + 1 := ⟨_, rfl⟩
      have hk6 : m < xs.length := by omega
      obtain ⟨ad', e, hc1⟩ := h m (.string (xs[m]'hk6)) (by simp [hk6])
      injection e with e
      subst e
      have hg : Op.bytesLess (xs[k]'hk4).toList (xs[m]'hk6).toList = okAt xs k := by subst hm; exact (okAt_get hlt).symm
      have hk1 : IntKind.i64.wrap (k : Int) = (k : Int) := IntWalk.i64_in _ (by omega)
      have hk2 : (0 : Int) ≤ (k : Int) + 1 := by omega
      have hk5 : (k : Int) + 1 < (xs.length : Int) := by omega
      have hk3 : ((k : Int) + 1).toNat = m := by omega
      clear hm
      cases hb : okAt xs k
      · rw [hb] at hg
        have hq := geq_run 9 _ _ hg
        simp only [Bool.not_false] at hq
        clear hg
        have HA := Lib.hid (asc_no hlt hb)
        clear hb hasc
        go_wp2
        go_quiet (fail)
        clear hk1 hk2 hk3 hq
        go_wp2
        go_ret
        exact ⟨ret_bool HA.out.symm, _, World.drewN_drewN _ _ _⟩
      · rw [hb] at hg
        have hq := geq_run 9 _ _ hg
        simp only [Bool.not_true] at hq
        clear hg
        have HA := Lib.hid (ascTo_succ hasc hb)
        clear hb hasc
        go_wp2
        go_quiet (fail)
        clear hk1 hk2 hk3 hq
        go_wp2
        go_roundw
        case rel => exact ⟨k + 1, by go_num, by omega, HA.out, _, rfl⟩
        case measure => simp [intOf]; omega
    · have HA := Lib.hid (asc_yes hasc (by omega))
      clear hasc
      go_wp2
      go_ret
      exact ⟨ret_bool HA.out.symm, n, rfl⟩
end Go.Proofs.YtkchjinfjggoeaaGreatDoor

/-
  The program's methods hasItsParts, by the kind of a type.
-/
namespace Go.Proofs.YtkchjinfjggoeaaGreatDoor
open Go.RowKit

def plainB (n m k : Nat) : Bool := decide (n = 0) && decide (m = k)

set_option maxRecDepth 100000 in
set_option maxHeartbeats 800000 in
theorem plain_any (c0 : Value) (L A : Option Addr) (n c m d k : Nat) (w : World) : Calls Tryz.prog 257 #[.agg #[c0, .slice L n c, .slice A m d], .int .i64 (k : Int)] w (Truth (plainB n m k) w) := by
  have hb0 : Below w.heap.size w (w.alloc (.cells #[c0, .slice L n c, .slice A m d] 27)) := (Below.refl _ _).alloc (Nat.le_refl _) _
  have HR : Hid (∀ b, b = plainB n m k → Truth (plainB n m k) w (.returned (.bool b)) (w.alloc (.cells #[c0, .slice L n c, .slice A m d] 27))) := by
    rintro b rfl
    exact ⟨rfl, hb0⟩
  clear hb0
  by_cases hn : n = 0
  · subst hn
    have HE : Hid (((m : Int) == (k : Int)) = plainB 0 m k) := Lib.hid (by
      unfold plainB
      by_cases h : m = k
      · subst h; simp
      · have h' : (m : Int) ≠ (k : Int) := by omega
        simp [h, h'])
    go_enter Tryz.func257, Tryz.ntmps257
    go_wp2_with fail
    go_ret
    exact HR.out _ HE.out
  · have hn' : ((n : Int) == 0) = false := by simp [hn]
    have HE : Hid (false = plainB n m k) := Lib.hid (by unfold plainB; simp [hn])
    clear hn
    go_enter Tryz.func257, Tryz.ntmps257
    go_wp2_with fail
    go_ret
    exact HR.out _ HE.out

theorem truth_box {t : TypeId} {b : Bool} {w : World} {cs : Array Value} {e : Ending} {w' : World} (h : Truth b (w.alloc (.cells cs t)) e w') : Truth b w e w' :=
  ⟨h.1, ((Below.refl _ w).alloc (Nat.le_refl _) _).trans (h.2.mono (by simp))⟩
set_option maxRecDepth 100000 in
theorem intParts (c0 : Value) (L A : Option Addr) (n c m d : Nat) (w : World) : Calls Tryz.prog 256 #[.agg #[c0, .slice L n c, .slice A m d]] w (Truth (plainB n m 0) w) := by
  have HC := Lib.hid (plain_any c0 L A n c m d 0 (w.alloc (.cells #[c0, .slice L n c, .slice A m d] 190)))
  go_enter Tryz.func256, Tryz.ntmps256
  go_wp2_with fail
  refine HC.out.mono ?_
  rintro e w1 h
  have HF := Lib.hid (truth_box h)
  obtain ⟨rfl, _⟩ := h
  go_wp2_with fail
  go_ret
  exact HF.out
set_option maxRecDepth 100000 in
theorem boolParts (c0 : Value) (L A : Option Addr) (n c m d : Nat) (w : World) : Calls Tryz.prog 258 #[.agg #[c0, .slice L n c, .slice A m d]] w (Truth (plainB n m 0) w) := by
  have HC := Lib.hid (plain_any c0 L A n c m d 0 (w.alloc (.cells #[c0, .slice L n c, .slice A m d] 191)))
  go_enter Tryz.func258, Tryz.ntmps258
  go_wp2_with fail
  refine HC.out.mono ?_
  rintro e w1 h
  have HF := Lib.hid (truth_box h)
  obtain ⟨rfl, _⟩ := h
  go_wp2_with fail
  go_ret
  exact HF.out
set_option maxRecDepth 100000 in
theorem bagParts (c0 : Value) (L A : Option Addr) (n c m d : Nat) (w : World) : Calls Tryz.prog 260 #[.agg #[c0, .slice L n c, .slice A m d]] w (Truth (plainB n m 1) w) := by
  have HC := Lib.hid (plain_any c0 L A n c m d 1 (w.alloc (.cells #[c0, .slice L n c, .slice A m d] 194)))
  go_enter Tryz.func260, Tryz.ntmps260
  go_wp2_with fail
  refine HC.out.mono ?_
  rintro e w1 h
  have HF := Lib.hid (truth_box h)
  obtain ⟨rfl, _⟩ := h
  go_wp2_with fail
  go_ret
  exact HF.out
set_option maxRecDepth 100000 in
theorem funParts (c0 : Value) (L A : Option Addr) (n c m d : Nat) (w : World) : Calls Tryz.prog 261 #[.agg #[c0, .slice L n c, .slice A m d]] w (Truth (plainB n m 2) w) := by
  have HC := Lib.hid (plain_any c0 L A n c m d 2 (w.alloc (.cells #[c0, .slice L n c, .slice A m d] 195)))
  go_enter Tryz.func261, Tryz.ntmps261
  go_wp2_with fail
  refine HC.out.mono ?_
  rintro e w1 h
  have HF := Lib.hid (truth_box h)
  obtain ⟨rfl, _⟩ := h
  go_wp2_with fail
  go_ret
  exact HF.out
theorem noneParts (c0 c1 c2 : Value) (w : World) : Calls Tryz.prog 262 #[.agg #[c0, c1, c2]] w (Truth false w) := by
  have HF : Hid (Truth false w (.returned (.bool false)) (w.alloc (.cells #[c0, c1, c2] 209))) := ⟨rfl, (Below.refl _ _).alloc (Nat.le_refl _) _⟩
  go_enter Tryz.func262, Tryz.ntmps262
  go_wp2_with fail
  go_ret
  exact HF.out
end Go.Proofs.YtkchjinfjggoeaaGreatDoor

/-
  The program's areRecordLabels.
-/
namespace Go.Proofs.YtkchjinfjggoeaaGreatDoor
open Go.RowKit

theorem labB_no {ls : List ByteArray} (h : ls.length = 0 ∨ 4 < ls.length) : labB ls = false := by
  unfold labB
  rcases h with h | h
  · rw [decide_eq_false (p := 1 ≤ ls.length) (by omega)]; simp
  · rw [decide_eq_false (p := ls.length ≤ 4) (by omega)]; simp
theorem labB_yes {ls : List ByteArray} (h1 : 1 ≤ ls.length) (h4 : ls.length ≤ 4) : labB ls = (ascL ls && ls.all nameB) := by
  unfold labB
  rw [decide_eq_true h1, decide_eq_true h4, Bool.true_and, Bool.true_and, Bool.and_comm]

set_option maxRecDepth 100000 in
set_option maxHeartbeats 800000 in
theorem recLabels_any (L : Option Addr) (ls : List ByteArray) (c : Nat) (w : World) (h : Sl w L (ls.map Value.string)) (hn : ls.length ≤ 1048576) (hx : ∀ x ∈ ls, x.size ≤ 1048576) :
    Calls Tryz.prog 166 #[.slice L ls.length c] w (Truth (labB ls) w) := by
  have HA := Lib.hid (implAsc_any L c ls w h hn)
  have HE := Lib.hid (fun W (hB : Below w.heap.size w W) => everyName_any L c ls W (h.below hB) hn hx)
  obtain ⟨n, hnn⟩ : ∃ n, ls.length = n := ⟨_, rfl⟩
  clear h hx
  by_cases hno : ls.length = 0 ∨ 4 < ls.length
  · have HF : Hid (Truth (labB ls) w (.returned (.bool false)) w) := by rw [labB_no hno]; exact ⟨rfl, Below.refl _ _⟩
    rw [hnn] at hno ⊢
    clear hnn hn HA HE
    go_enter Tryz.func166, Tryz.ntmps166
    by_cases h0 : n = 0
    · subst h0
      clear hno
      go_wp2_with fail
      go_ret
      exact HF.out
    · have e0 : (0 : Int) < (n : Int) := by omega
      have e4 : ¬ (n : Int) ≤ 4 := by omega
      clear hno h0
      go_wp2_with fail
      go_ret
      exact HF.out
  · have h1 : 1 ≤ ls.length := by omega
    have h4 : ls.length ≤ 4 := by omega
    have hY := labB_yes h1 h4
    rw [hnn] at h1 h4 HA HE ⊢
    have e0 : (0 : Int) < (n : Int) := by omega
    have e4 : (n : Int) ≤ 4 := by omega
    have HY := Lib.hid hY
    clear hno h1 h4 hnn hn hY
    go_enter Tryz.func166, Tryz.ntmps166
    go_wp2_with fail
    refine HA.out.mono ?_
    rintro e w2 ⟨rfl, i, rfl⟩
    have hb2 : Below w.heap.size w (w.drewN i) := below_drewN (Below.refl _ _) i
    have HB2 := Lib.hid hb2
    clear hb2
    cases ha : ascL ls with
    | false =>
      have HF : Hid (Truth (labB ls) w (.returned (.bool false)) (w.drewN i)) := by rw [HY.out, ha]; exact ⟨rfl, HB2.out⟩
      clear ha
      go_wp2_with fail
      go_ret
      exact HF.out
    | true =>
      have HC := Lib.hid (HE.out (w.drewN i) HB2.out)
      have HF : Hid (labB ls = ls.all nameB) := by rw [HY.out, ha]; exact Bool.true_and _
      clear ha
      go_wp2_with fail
      refine HC.out.mono ?_
      rintro e w3 ⟨rfl, hb3⟩
      have HR : Hid (Truth (labB ls) w (.returned (.bool (ls.all nameB))) w3) := by rw [HF.out]; exact ⟨rfl, HB2.out.trans (hb3.mono HB2.out.size)⟩
      clear hb3
      generalize ls.all nameB = b at HR ⊢
      go_wp2_with fail
      go_ret
      exact HR.out
end Go.Proofs.YtkchjinfjggoeaaGreatDoor

/-
  The program's hasItsParts for records, over areRecordLabels.
-/
namespace Go.Proofs.YtkchjinfjggoeaaGreatDoor
open Go.RowKit

def recB (ls : List ByteArray) (m : Nat) : Bool := decide (m = ls.length) && labB ls

set_option maxRecDepth 100000 in
set_option maxHeartbeats 800000 in
theorem recParts (c0 : Value) (L A : Option Addr) (ls : List ByteArray) (c m d : Nat) (w : World) (h : Sl w L (ls.map Value.string)) (hn : ls.length ≤ 1048576) (hx : ∀ x ∈ ls, x.size ≤ 1048576) :
    Calls Tryz.prog 259 #[.agg #[c0, .slice L ls.length c, .slice A m d]] w (Truth (recB ls m) w) := by
  obtain ⟨W1, hW1⟩ : ∃ W1, w.alloc (.cells #[c0, .slice L ls.length c, .slice A m d] 192) = W1 := ⟨_, rfl⟩
  obtain ⟨H, hH⟩ : ∃ H, w.heap.size = H := ⟨_, rfl⟩
  have hb0 : Below w.heap.size w W1 := by rw [← hW1]; exact (Below.refl _ _).alloc (Nat.le_refl _) _
  have hbox : Box3 W1 H 192 c0 (.slice L ls.length c) (.slice A m d) := by rw [← hW1, ← hH]; exact Box3.new w _ _ _ _
  have HC := Lib.hid (recLabels_any L ls c W1 (h.below hb0) hn hx)
  have hrec : recB ls m = (labB ls && decide (ls.length = m)) := by
    unfold recB
    rw [Bool.and_comm]
    congr 1
    by_cases e : m = ls.length
    · rw [decide_eq_true e, decide_eq_true e.symm]
    · rw [decide_eq_false e, decide_eq_false (fun e2 => e e2.symm)]
  have HW1 := Lib.hid hW1
  have HB1 := Lib.hid hb0
  have BX := Lib.hid hbox
  have x1 := hbox.c1
  have x2 := hbox.c2
  generalize recB ls m = r at hrec ⊢
  generalize labB ls = lb at HC hrec
  generalize ls.length = n at HC hrec hW1 x1 BX HW1 hn ⊢
  have HN := Lib.hid hrec
  clear h hx hb0 hbox hW1 hrec hn
  cases lb with
  | false =>
    go_enter Tryz.func259, Tryz.ntmps259
    go_wp2_with fail
    rw [HW1.out]
    go_wp2_with fail
    refine HC.out.mono ?_
    rintro e w2 ⟨rfl, hb2⟩
    have HF : Hid (Truth r w (.returned (.bool false)) w2) := Lib.hid ⟨by rw [HN.out]; rfl, HB1.out.trans (hb2.mono HB1.out.size)⟩
    clear hb2 x1 x2
    go_wp2_with fail
    go_ret
    exact HF.out
  | true =>
    have HE : Hid (r = ((n : Int) == (m : Int))) := Lib.hid (by
      rw [HN.out, Bool.true_and]
      by_cases h : n = m
      · subst h; simp
      · have h' : (n : Int) ≠ (m : Int) := by omega
        rw [decide_eq_false h, beq_eq_false_iff_ne.2 h'])
    go_enter Tryz.func259, Tryz.ntmps259
    go_wp2_with fail
    rw [HW1.out]
    go_wp2_with fail
    refine HC.out.mono ?_
    rintro e w2 ⟨rfl, hb2⟩
    have HF : Hid (Truth r w (.returned (.bool ((n : Int) == (m : Int)))) w2) := Lib.hid ⟨by rw [HE.out], HB1.out.trans (hb2.mono HB1.out.size)⟩
    have b2 := BX.out.under hb2 BX.out.lt
    clear hb2 x1 x2
    have x1 := b2.c1
    have x2 := b2.c2
    clear b2
    go_wp2_with fail
    go_ret
    exact HF.out
end Go.Proofs.YtkchjinfjggoeaaGreatDoor
