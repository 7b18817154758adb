/-
  Merged by program: Labels.
-/
import Derived.Test.YtckoookgjhngkaaIV11
import Derived.Test.YtckoookgjhngkaaIV12

/-
  Whether a list can be that of the labels of a record (the model's l3Labels).
-/
namespace Go.Proofs.Ytckoookgjhngkaa
open Go.RowKit

def labB (ls : List ByteArray) : Bool := ls.all nameB && ((decide (1 ≤ ls.length) && decide (ls.length ≤ 4)) && ascL ls)
def NamesTo (ls : List ByteArray) (k : Nat) : Prop := ∀ j (h : j < ls.length), j < k → nameB ls[j] = true
theorem namesTo_zero (ls : List ByteArray) : NamesTo ls 0 := fun j _ h => by omega
theorem namesTo_succ {ls : List ByteArray} {k : Nat} (h : NamesTo ls k) (hk : k < ls.length) (hf : nameB ls[k] = true) : NamesTo ls (k + 1) := by
  intro j hj hlt
  by_cases e : j = k
  · subst e; exact hf
  · exact h j hj (by omega)
theorem lab_all {ls : List ByteArray} (h : NamesTo ls ls.length) : labB ls = ((decide (1 ≤ ls.length) && decide (ls.length ≤ 4)) && ascL ls) := by
  unfold labB
  have e : ls.all nameB = true := by
    rw [List.all_eq_true]
    intro x hx
    obtain ⟨j, hj, rfl⟩ := List.getElem_of_mem hx
    exact h j hj hj
  rw [e, Bool.true_and]
theorem lab_no {ls : List ByteArray} {k : Nat} (hk : k < ls.length) (hf : nameB ls[k] = false) : labB ls = false := by
  unfold labB
  have e : ls.all nameB = false := by
    rw [Bool.eq_false_iff, Ne, List.all_eq_true]
    intro h
    have := h _ (List.getElem_mem hk)
    rw [hf] at this
    cases this
  rw [e, Bool.false_and]

theorem l1In_any (x lo hi : Int) (w : World) : Calls Try.prog 21 #[.int .i64 x, .int .i64 lo, .int .i64 hi] w (Says (decide (lo ≤ x) && decide (x ≤ hi)) w) := by
  go_enter Try.func21, Try.ntmps21
  by_cases h1 : lo ≤ x
  · have e1 : (decide (lo ≤ x) && decide (x ≤ hi)) = decide (x ≤ hi) := by simp [h1]
    rw [e1]
    go_wp2
    go_ret
    exact ⟨rfl, rfl⟩
  · have e1 : (decide (lo ≤ x) && decide (x ≤ hi)) = false := by simp [h1]
    rw [e1]
    go_wp2
    go_ret
    exact ⟨rfl, rfl⟩

set_option maxHeartbeats 800000 in
theorem l3Labels_any (A : Option Addr) (c : Nat) (xs : List ByteArray) (w : World) (h : Sl w A (xs.map Value.string)) (hn : xs.length ≤ 1048576) (hx : ∀ x ∈ xs, x.size ≤ 1048576) :
    Calls Try.prog 22 #[.slice A xs.length c] w (Tells (labB xs) w) := by
  have HX := Lib.hid hx
  have HS := Lib.hid h
  clear hx
  go_enter Try.func22, Try.ntmps22
  go_wp2_with fail
  go_loop [3] (fun i => ∃ k : Nat, k ≤ xs.length ∧ i = .int .i64 k ∧ NamesTo xs k) (fun i => xs.length - (intOf i).toNat)
  case atStart => exact ⟨0, Nat.zero_le _, rfl, namesTo_zero _⟩
  case round =>
    obtain ⟨k, hk, rfl, hno⟩ := hrel
    by_cases hlt : k < xs.length
    · obtain ⟨ad, rfl, hc⟩ := h k (.string xs[k]) (by simp [hlt])
      have HN := Lib.hid hno
      have HC := Lib.hid (specName_any xs[k] w (HX.out _ (List.getElem_mem hlt)))
      clear hno
      go_wp2_with fail
      refine HC.out.mono ?_
      rintro e w2 ⟨rfl, rfl⟩
      by_cases hf : nameB xs[k] = true
      · have HN2 := Lib.hid (namesTo_succ HN.out hlt hf)
        rw [hf]
        clear hf
        go_wp2_with fail
        go_round
        case rel => exact ⟨k + 1, by omega, by go_num, HN2.out⟩
        case measure => simp [intOf]; omega
      · have hf' : nameB xs[k] = false := by simpa using hf
        have HR := Lib.hid (lab_no hlt hf')
        rw [hf']
        clear hf hf'
        go_wp2_with fail
        go_ret
        exact ⟨ret_bool HR.out.symm, 0, rfl⟩
    · have he : k = xs.length := by omega
      have HL := Lib.hid (lab_all (he ▸ hno))
      clear he hno
      have HI := Lib.hid (l1In_any (xs.length : Nat) 1 4 w)
      have he2 : (decide ((1 : Int) ≤ (xs.length : Nat)) && decide (((xs.length : Nat) : Int) ≤ 4)) = (decide (1 ≤ xs.length) && decide (xs.length ≤ 4)) := by
        congr 1
        · simp; omega
        · simp; omega
      have HE := Lib.hid he2
      clear he2
      go_wp2_with fail
      refine HI.out.mono ?_
      rintro e w2 ⟨rfl, rfl⟩
      rw [HE.out]
      cases hin : (decide (1 ≤ xs.length) && decide (xs.length ≤ 4))
      · have HR : Hid (labB xs = false) := by rw [HL.out, hin]; rfl
        clear hin
        go_wp2_with fail
        go_ret
        exact ⟨ret_bool HR.out.symm, 0, rfl⟩
      · have HR : Hid (labB xs = ascL xs) := by rw [HL.out, hin]; rfl
        have HC := Lib.hid (specAsc_any A c xs w HS.out hn)
        clear hin
        go_wp2_with fail
        refine HC.out.mono ?_
        rintro e w2 ⟨rfl, n, rfl⟩
        go_wp2_with fail
        go_ret
        exact ⟨ret_bool HR.out.symm, n, rfl⟩
end Go.Proofs.Ytckoookgjhngkaa
