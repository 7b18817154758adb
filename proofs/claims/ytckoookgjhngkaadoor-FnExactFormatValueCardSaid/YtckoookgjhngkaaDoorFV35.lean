/-
  Merged by program: RecLab.
-/
import Derived.Test.YtckoookgjhngkaaDoorFV33

/-
  The program's areRecordLabels.
-/
namespace Go.Proofs.YtckoookgjhngkaaDoor
open Go.RowKit

theorem labB_no {ls : List ByteArray} (h : ls.length = 0 ∨ 4 < ls.length) : labB ls = false := by
  unfold labB
  rcases h with h | h
  · rw [decide_eq_false (p := 1 ≤ ls.length) (by omega)]; simp
  · rw [decide_eq_false (p := ls.length ≤ 4) (by omega)]; simp
theorem labB_yes {ls : List ByteArray} (h1 : 1 ≤ ls.length) (h4 : ls.length ≤ 4) : labB ls = (ascL ls && ls.all nameB) := by
  unfold labB
  rw [decide_eq_true h1, decide_eq_true h4, Bool.true_and, Bool.true_and, Bool.and_comm]

set_option maxRecDepth 100000 in
set_option maxHeartbeats 800000 in
theorem recLabels_any (L : Option Addr) (ls : List ByteArray) (c : Nat) (w : World) (h : Sl w L (ls.map Value.string)) (hn : ls.length ≤ 1048576) (hx : ∀ x ∈ ls, x.size ≤ 1048576) :
    Calls Tryd.prog 35 #[.slice L ls.length c] w (Truth (labB ls) w) := by
  have HA := Lib.hid (implAsc_any L c ls w h hn)
  have HE := Lib.hid (fun W (hB : Below w.heap.size w W) => everyName_any L c ls W (h.below hB) hn hx)
  obtain ⟨n, hnn⟩ : ∃ n, ls.length = n := ⟨_, rfl⟩
  clear h hx
  by_cases hno : ls.length = 0 ∨ 4 < ls.length
  · have HF : Hid (Truth (labB ls) w (.returned (.bool false)) w) := by rw [labB_no hno]; exact ⟨rfl, Below.refl _ _⟩
    rw [hnn] at hno ⊢
    clear hnn hn HA HE
    go_enter Tryd.func35, Tryd.ntmps35
    by_cases h0 : n = 0
    · subst h0
      clear hno
      go_wp2_with fail
      go_ret
      exact HF.out
    · have e0 : (0 : Int) < (n : Int) := by omega
      have e4 : ¬ (n : Int) ≤ 4 := by omega
      clear hno h0
      go_wp2_with fail
      go_ret
      exact HF.out
  · have h1 : 1 ≤ ls.length := by omega
    have h4 : ls.length ≤ 4 := by omega
    have hY := labB_yes h1 h4
    rw [hnn] at h1 h4 HA HE ⊢
    have e0 : (0 : Int) < (n : Int) := by omega
    have e4 : (n : Int) ≤ 4 := by omega
    have HY := Lib.hid hY
    clear hno h1 h4 hnn hn hY
    go_enter Tryd.func35, Tryd.ntmps35
    go_wp2_with fail
    refine HA.out.mono ?_
    rintro e w2 ⟨rfl, i, rfl⟩
    have hb2 : Below w.heap.size w (w.drewN i) := below_drewN (Below.refl _ _) i
    have HB2 := Lib.hid hb2
    clear hb2
    cases ha : ascL ls with
    | false =>
      have HF : Hid (Truth (labB ls) w (.returned (.bool false)) (w.drewN i)) := by rw [HY.out, ha]; exact ⟨rfl, HB2.out⟩
      clear ha
      go_wp2_with fail
      go_ret
      exact HF.out
    | true =>
      have HC := Lib.hid (HE.out (w.drewN i) HB2.out)
      have HF : Hid (labB ls = ls.all nameB) := by rw [HY.out, ha]; exact Bool.true_and _
      clear ha
      go_wp2_with fail
      refine HC.out.mono ?_
      rintro e w3 ⟨rfl, hb3⟩
      have HR : Hid (Truth (labB ls) w (.returned (.bool (ls.all nameB))) w3) := by rw [HF.out]; exact ⟨rfl, HB2.out.trans (hb3.mono HB2.out.size)⟩
      clear hb3
      generalize ls.all nameB = b at HR ⊢
      go_wp2_with fail
      go_ret
      exact HR.out
end Go.Proofs.YtckoookgjhngkaaDoor
