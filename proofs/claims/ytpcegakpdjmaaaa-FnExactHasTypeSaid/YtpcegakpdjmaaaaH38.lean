/-
  Merged by program: PartsR.
-/
import Derived.Test.YtpcegakpdjmaaaaH24

/-
  The program's hasItsParts for records; the six together.
-/
namespace Go.Proofs.Ytpcegakpdjmaaaa
open Go.RowKit

def recB (ls : List ByteArray) (m : Nat) : Bool := decide (m = ls.length) && labB ls
theorem recB_no {ls : List ByteArray} {m : Nat} (h : ls.length = 0 ∨ 4 < ls.length ∨ m ≠ ls.length) : recB ls m = false := by
  unfold recB labB
  rcases h with h | h | h
  · rw [decide_eq_false (p := 1 ≤ ls.length) (by omega)]; simp
  · rw [decide_eq_false (p := ls.length ≤ 4) (by omega)]; simp
  · rw [decide_eq_false h]; simp
theorem recB_yes {ls : List ByteArray} {m : Nat} (h1 : 1 ≤ ls.length) (h4 : ls.length ≤ 4) (hm : m = ls.length) : recB ls m = (ascL ls && ls.all nameB) := by
  unfold recB labB
  rw [decide_eq_true h1, decide_eq_true h4, decide_eq_true hm, Bool.true_and, Bool.true_and, Bool.true_and, Bool.and_comm]

set_option maxRecDepth 100000 in
set_option maxHeartbeats 800000 in
theorem recParts (c0 : Value) (L A : Option Addr) (ls : List ByteArray) (c m d : Nat) (w : World) (h : Sl w L (ls.map Value.string)) (hn : ls.length ≤ 1048576) (hx : ∀ x ∈ ls, x.size ≤ 1048576) :
    Calls Try.prog 127 #[.agg #[c0, .slice L ls.length c, .slice A m d]] w (Truth (recB ls m) w) := by
  obtain ⟨W1, hW1⟩ : ∃ W1, w.alloc (.cells #[c0, .slice L ls.length c, .slice A m d] 85) = W1 := ⟨_, rfl⟩
  obtain ⟨H, hH⟩ : ∃ H, w.heap.size = H := ⟨_, rfl⟩
  have hb0 : Below w.heap.size w W1 := by rw [← hW1]; exact (Below.refl _ _).alloc (Nat.le_refl _) _
  have hbox : Box3 W1 H 85 c0 (.slice L ls.length c) (.slice A m d) := by rw [← hW1, ← hH]; exact Box3.new w _ _ _ _
  have HA := Lib.hid (implAsc_any L c ls W1 (h.below hb0) hn)
  have HE := Lib.hid (fun W (hB : Below w.heap.size w W) => everyName_any L c ls W (h.below hB) hn hx)
  have HW1 := Lib.hid hW1
  have HB1 := Lib.hid hb0
  have BX := Lib.hid hbox
  have x1 := hbox.c1
  have x2 := hbox.c2
  obtain ⟨n, hnn⟩ : ∃ n, ls.length = n := ⟨_, rfl⟩
  clear h hx hb0 hbox hW1
  by_cases hno : ls.length = 0 ∨ 4 < ls.length ∨ m ≠ ls.length
  · have HF : Hid (Truth (recB ls m) w (.returned (.bool false)) W1) := by rw [recB_no hno]; exact ⟨rfl, HB1.out⟩
    rw [hnn] at hno x1 HW1 ⊢
    clear hnn hn HA HE BX
    go_enter Try.func127, Try.ntmps127
    by_cases h0 : n = 0
    · subst h0
      clear hno
      go_wp2_with fail
      rw [HW1.out]
      go_wp2_with fail
      go_ret
      exact HF.out
    · have e0 : ((n : Int) == 0) = false := by simp [h0]
      by_cases h4 : 4 < n
      · have e4 : (4 : Int) < (n : Int) := by omega
        clear hno h0
        go_wp2_with fail
        rw [HW1.out]
        go_wp2_with fail
        go_ret
        exact HF.out
      · have e4 : ¬ (4 : Int) < (n : Int) := by omega
        have em : ((n : Int) == (m : Int)) = false := by
          have : (n : Int) ≠ (m : Int) := by omega
          simp [this]
        clear hno h0 h4
        go_wp2_with fail
        rw [HW1.out]
        go_wp2_with fail
        go_ret
        exact HF.out
  · have h1 : 1 ≤ ls.length := by omega
    have h4 : ls.length ≤ 4 := by omega
    have hm : m = ls.length := by omega
    have hY := recB_yes h1 h4 hm
    subst hm
    rw [hnn] at h1 h4 x1 x2 HA HE HW1 BX hY ⊢
    have e0 : ((n : Int) == 0) = false := by
      have : n ≠ 0 := by omega
      simp [this]
    have e4 : ¬ (4 : Int) < (n : Int) := by omega
    have HY := Lib.hid hY
    clear hno h1 h4 hnn hn hY
    go_enter Try.func127, Try.ntmps127
    go_wp2_with fail
    rw [HW1.out]
    go_wp2_with fail
    refine HA.out.mono ?_
    rintro e w2 ⟨rfl, i, rfl⟩
    have hb2 : Below W1.heap.size W1 (W1.drewN i) := below_drewN (Below.refl _ _) i
    have HB2 := Lib.hid (HB1.out.trans (hb2.mono HB1.out.size))
    have hz2 : (W1.drewN i).cell? ⟨H, 1, none⟩ = some (.slice L n c) := (BX.out.under hb2 BX.out.lt).c1
    clear hb2
    cases ha : ascL ls with
    | false =>
      have HF : Hid (Truth (recB ls n) w (.returned (.bool false)) (W1.drewN i)) := by rw [HY.out, ha]; exact ⟨rfl, HB2.out⟩
      clear ha
      go_wp2_with fail
      go_ret
      exact HF.out
    | true =>
      have HC := Lib.hid (HE.out (W1.drewN i) HB2.out)
      have HF : Hid (recB ls n = ls.all nameB) := by rw [HY.out, ha]; exact Bool.true_and _
      clear ha
      go_wp2_with fail
      refine HC.out.mono ?_
      rintro e w3 ⟨rfl, hb3⟩
      have HR : Hid (Truth (recB ls n) w (.returned (.bool (ls.all nameB))) w3) := by rw [HF.out]; exact ⟨rfl, HB2.out.trans (hb3.mono HB2.out.size)⟩
      clear hb3
      generalize ls.all nameB = b at HR ⊢
      go_wp2_with fail
      go_ret
      exact HR.out
end Go.Proofs.Ytpcegakpdjmaaaa
