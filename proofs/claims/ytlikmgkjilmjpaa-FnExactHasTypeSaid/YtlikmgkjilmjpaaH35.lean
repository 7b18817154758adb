/-
  Merged by program: RecLab, PartsR.
-/
import Derived.Test.YtlikmgkjilmjpaaH21

/-
  The program's areRecordLabels.
-/
namespace Go.Proofs.Ytlikmgkjilmjpaa
open Go.RowKit

theorem labB_no {ls : List ByteArray} (h : ls.length = 0 ∨ 4 < ls.length) : labB ls = false := by
  unfold labB
  rcases h with h | h
  · rw [decide_eq_false (p := 1 ≤ ls.length) (by omega)]; simp
  · rw [decide_eq_false (p := ls.length ≤ 4) (by omega)]; simp
theorem labB_yes {ls : List ByteArray} (h1 : 1 ≤ ls.length) (h4 : ls.length ≤ 4) : labB ls = (ascL ls && ls.all nameB) := by
  unfold labB
  rw [decide_eq_true h1, decide_eq_true h4, Bool.true_and, Bool.true_and, Bool.and_comm]

set_option maxRecDepth 100000 in
set_option maxHeartbeats 800000 in
theorem recLabels_any (L : Option Addr) (ls : List ByteArray) (c : Nat) (w : World) (h : Sl w L (ls.map Value.string)) (hn : ls.length ≤ 1048576) (hx : ∀ x ∈ ls, x.size ≤ 1048576) :
    Calls Try.prog 149 #[.slice L ls.length c] w (Truth (labB ls) w) := by
  have HA := Lib.hid (implAsc_any L c ls w h hn)
  have HE := Lib.hid (fun W (hB : Below w.heap.size w W) => everyName_any L c ls W (h.below hB) hn hx)
  obtain ⟨n, hnn⟩ : ∃ n, ls.length = n := ⟨_, rfl⟩
  clear h hx
  by_cases hno : ls.length = 0 ∨ 4 < ls.length
  · have HF : Hid (Truth (labB ls) w (.returned (.bool false)) w) := by rw [labB_no hno]; exact ⟨rfl, Below.refl _ _⟩
    rw [hnn] at hno ⊢
    clear hnn hn HA HE
    go_enter Try.func149, Try.ntmps149
    by_cases h0 : n = 0
    · subst h0
      clear hno
      go_wp2_with fail
      go_ret
      exact HF.out
    · have e0 : (0 : Int) < (n : Int) := by omega
      have e4 : ¬ (n : Int) ≤ 4 := by omega
      clear hno h0
      go_wp2_with fail
      go_ret
      exact HF.out
  · have h1 : 1 ≤ ls.length := by omega
    have h4 : ls.length ≤ 4 := by omega
    have hY := labB_yes h1 h4
    rw [hnn] at h1 h4 HA HE ⊢
    have e0 : (0 : Int) < (n : Int) := by omega
    have e4 : (n : Int) ≤ 4 := by omega
    have HY := Lib.hid hY
    clear hno h1 h4 hnn hn hY
    go_enter Try.func149, Try.ntmps149
    go_wp2_with fail
    refine HA.out.mono ?_
    rintro e w2 ⟨rfl, i, rfl⟩
    have hb2 : Below w.heap.size w (w.drewN i) := below_drewN (Below.refl _ _) i
    have HB2 := Lib.hid hb2
    clear hb2
    cases ha : ascL ls with
    | false =>
      have HF : Hid (Truth (labB ls) w (.returned (.bool false)) (w.drewN i)) := by rw [HY.out, ha]; exact ⟨rfl, HB2.out⟩
      clear ha
      go_wp2_with fail
      go_ret
      exact HF.out
    | true =>
      have HC := Lib.hid (HE.out (w.drewN i) HB2.out)
      have HF : Hid (labB ls = ls.all nameB) := by rw [HY.out, ha]; exact Bool.true_and _
      clear ha
      go_wp2_with fail
      refine HC.out.mono ?_
      rintro e w3 ⟨rfl, hb3⟩
      have HR : Hid (Truth (labB ls) w (.returned (.bool (ls.all nameB))) w3) := by rw [HF.out]; exact ⟨rfl, HB2.out.trans (hb3.mono HB2.out.size)⟩
      clear hb3
      generalize ls.all nameB = b at HR ⊢
      go_wp2_with fail
      go_ret
      exact HR.out
end Go.Proofs.Ytlikmgkjilmjpaa

/-
  The program's hasItsParts for records, over areRecordLabels.
-/
namespace Go.Proofs.Ytlikmgkjilmjpaa
open Go.RowKit

def recB (ls : List ByteArray) (m : Nat) : Bool := decide (m = ls.length) && labB ls

set_option maxRecDepth 100000 in
set_option maxHeartbeats 800000 in
theorem recParts (c0 : Value) (L A : Option Addr) (ls : List ByteArray) (c m d : Nat) (w : World) (h : Sl w L (ls.map Value.string)) (hn : ls.length ≤ 1048576) (hx : ∀ x ∈ ls, x.size ≤ 1048576) :
    Calls Try.prog 148 #[.agg #[c0, .slice L ls.length c, .slice A m d]] w (Truth (recB ls m) w) := by
  obtain ⟨W1, hW1⟩ : ∃ W1, w.alloc (.cells #[c0, .slice L ls.length c, .slice A m d] 103) = W1 := ⟨_, rfl⟩
  obtain ⟨H, hH⟩ : ∃ H, w.heap.size = H := ⟨_, rfl⟩
  have hb0 : Below w.heap.size w W1 := by rw [← hW1]; exact (Below.refl _ _).alloc (Nat.le_refl _) _
  have hbox : Box3 W1 H 103 c0 (.slice L ls.length c) (.slice A m d) := by rw [← hW1, ← hH]; exact Box3.new w _ _ _ _
  have HC := Lib.hid (recLabels_any L ls c W1 (h.below hb0) hn hx)
  have hrec : recB ls m = (labB ls && decide (ls.length = m)) := by
    unfold recB
    rw [Bool.and_comm]
    congr 1
    by_cases e : m = ls.length
    · rw [decide_eq_true e, decide_eq_true e.symm]
    · rw [decide_eq_false e, decide_eq_false (fun e2 => e e2.symm)]
  have HW1 := Lib.hid hW1
  have HB1 := Lib.hid hb0
  have BX := Lib.hid hbox
  have x1 := hbox.c1
  have x2 := hbox.c2
  generalize recB ls m = r at hrec ⊢
  generalize labB ls = lb at HC hrec
  generalize ls.length = n at HC hrec hW1 x1 BX HW1 hn ⊢
  have HN := Lib.hid hrec
  clear h hx hb0 hbox hW1 hrec hn
  cases lb with
  | false =>
    go_enter Try.func148, Try.ntmps148
    go_wp2_with fail
    rw [HW1.out]
    go_wp2_with fail
    refine HC.out.mono ?_
    rintro e w2 ⟨rfl, hb2⟩
    have HF : Hid (Truth r w (.returned (.bool false)) w2) := Lib.hid ⟨by rw [HN.out]; rfl, HB1.out.trans (hb2.mono HB1.out.size)⟩
    clear hb2 x1 x2
    go_wp2_with fail
    go_ret
    exact HF.out
  | true =>
    have HE : Hid (r = ((n : Int) == (m : Int))) := Lib.hid (by
      rw [HN.out, Bool.true_and]
      by_cases h : n = m
      · subst h; simp
      · have h' : (n : Int) ≠ (m : Int) := by omega
        rw [decide_eq_false h, beq_eq_false_iff_ne.2 h'])
    go_enter Try.func148, Try.ntmps148
    go_wp2_with fail
    rw [HW1.out]
    go_wp2_with fail
    refine HC.out.mono ?_
    rintro e w2 ⟨rfl, hb2⟩
    have HF : Hid (Truth r w (.returned (.bool ((n : Int) == (m : Int)))) w2) := Lib.hid ⟨by rw [HE.out], HB1.out.trans (hb2.mono HB1.out.size)⟩
    have b2 := BX.out.under hb2 BX.out.lt
    clear hb2 x1 x2
    have x1 := b2.c1
    have x2 := b2.c2
    clear b2
    go_wp2_with fail
    go_ret
    exact HF.out
end Go.Proofs.Ytlikmgkjilmjpaa
