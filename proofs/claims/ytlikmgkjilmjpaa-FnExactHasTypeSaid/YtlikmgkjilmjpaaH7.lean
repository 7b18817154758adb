/-
  Merged by program: Asc, Labels.
-/
import Derived.Test.YtlikmgkjilmjpaaH1
import Derived.Test.YtlikmgkjilmjpaaProg
import Derived.RegionTactic
import Derived.Deep.QuietTactic
import Derived.BigQuiet
import Derived.IntWalk
import Derived.Test.YtlikmgkjilmjpaaH6

/-
  Whether each text of a list precedes the next one: the model's AreAscending and the program's give one answer.
-/
namespace Go.Proofs.Ytlikmgkjilmjpaa
open Go.RowKit

/-- the text precedes the other one, byte by byte -/
def ltS (x y : ByteArray) : Bool := Op.bytesLess x.toList y.toList
/-- the two at j stand in order -/
def okAt (xs : List ByteArray) (j : Nat) : Bool := ltS (xs.getD j ByteArray.empty) (xs.getD (j + 1) ByteArray.empty)
def ascL (xs : List ByteArray) : Bool := (List.range (xs.length - 1)).all (okAt xs)
def AscTo (xs : List ByteArray) (k : Nat) : Prop := ∀ j, j < k → okAt xs j = true
theorem ascTo_zero (xs : List ByteArray) : AscTo xs 0 := fun j h => by omega
theorem ascTo_succ {xs : List ByteArray} {k : Nat} (h : AscTo xs k) (hk : okAt xs k = true) : AscTo xs (k + 1) := by
  intro j hj
  by_cases e : j = k
  · subst e; exact hk
  · exact h j (by omega)
theorem asc_yes {xs : List ByteArray} {k : Nat} (h : AscTo xs k) (hk : xs.length ≤ k + 1) : ascL xs = true := by
  unfold ascL
  rw [List.all_eq_true]
  intro j hj
  exact h j (by simp at hj; omega)
theorem asc_no {xs : List ByteArray} {k : Nat} (hk : k + 1 < xs.length) (h : okAt xs k = false) : ascL xs = false := by
  unfold ascL
  rw [Bool.eq_false_iff, Ne, List.all_eq_true]
  intro hall
  have := hall k (by simp; omega)
  rw [h] at this
  cases this
theorem okAt_get {xs : List ByteArray} {k : Nat} (hk : k + 1 < xs.length) : okAt xs k = Op.bytesLess (xs[k]'(by omega)).toList (xs[k + 1]).toList := by
  simp [okAt, ltS, List.getD, hk, show k < xs.length by omega]
theorem geq_run (t : TypeId) (x y : ByteArray) {b : Bool} (h : Op.bytesLess x.toList y.toList = b) : binOp .geq t (.string x) (.string y) = pure (.bool !b) := by
  rw [← h]
  simp [binOp, Op.stringOp]
theorem ret_bool {a b : Bool} (h : a = b) : Ending.returned (.bool a) = .returned (.bool b) := by rw [h]

/-- an answer that is true or false; nothing but draws -/
def Tells (b : Bool) (w : World) (e : Ending) (w' : World) : Prop := e = .returned (.bool b) ∧ ∃ n, w' = w.drewN n

set_option maxHeartbeats 800000 in
theorem specAsc_any (A : Option Addr) (c : Nat) (xs : List ByteArray) (w : World) (h : Sl w A (xs.map Value.string)) (hn : xs.length ≤ 1048576) :
    Calls Try.prog 127 #[.slice A xs.length c] w (Tells (ascL xs) w) := by
  go_enter Try.func127, Try.ntmps127
  go_wp2
  go_loopw [3] (fun i wr => ∃ k : Nat, i = .int .i64 ((k : Int) + 1) ∧ k ≤ xs.length ∧ AscTo xs k ∧ ∃ n, wr = w.drewN n) (fun i _ => xs.length - (intOf i).toNat)
  case atStart => exact ⟨0, rfl, Nat.zero_le _, ascTo_zero _, 0, rfl⟩
  case round =>
    obtain ⟨k, rfl, hk, hasc, n, rfl⟩ := hrel
    by_cases hlt : k + 1 < xs.length
    · have hk4 : k < xs.length := by omega
      obtain ⟨ad, rfl, hc0⟩ := h k (.string (xs[k]'hk4)) (by simp [hk4])
      obtain ⟨m, hm⟩ : ∃ m, m = k + 1 := ⟨_, rfl⟩
      have hk6 : m < xs.length := by omega
      obtain ⟨ad', e, hc1⟩ := h m (.string (xs[m]'hk6)) (by simp [hk6])
      injection e with e
      subst e
      have hg : Op.bytesLess (xs[k]'hk4).toList (xs[m]'hk6).toList = okAt xs k := by subst hm; exact (okAt_get hlt).symm
      have hk1 : IntKind.i64.wrap (k : Int) = (k : Int) := IntWalk.i64_in _ (by omega)
      have hk2 : (0 : Int) ≤ (k : Int) + 1 := by omega
      have hk5 : (k : Int) + 1 < (xs.length : Int) := by omega
      have hk3 : ((k : Int) + 1).toNat = m := by omega
      clear hm
      cases hb : okAt xs k
      · rw [hb] at hg
        have hq := geq_run 9 _ _ hg
        simp only [Bool.not_false] at hq
        clear hg
        have HA := Lib.hid (asc_no hlt hb)
        clear hb hasc
        go_wp2
        go_quiet (fail)
        clear hk1 hk2 hk3 hq
        go_wp2
        go_ret
        exact ⟨ret_bool HA.out.symm, _, World.drewN_drewN _ _ _⟩
      · rw [hb] at hg
        have hq := geq_run 9 _ _ hg
        simp only [Bool.not_true] at hq
        clear hg
        have HA := Lib.hid (ascTo_succ hasc hb)
        clear hb hasc
        go_wp2
        go_quiet (fail)
        clear hk1 hk2 hk3 hq
        go_wp2
        go_roundw
        case rel => exact ⟨k + 1, by go_num, by omega, HA.out, _, rfl⟩
        case measure => simp [intOf]; omega
    · have HA := Lib.hid (asc_yes hasc (by omega))
      clear hasc
      go_wp2
      go_ret
      exact ⟨ret_bool HA.out.symm, n, rfl⟩
end Go.Proofs.Ytlikmgkjilmjpaa

/-
  Whether a list can be that of the labels of a record (the model's l3Labels).
-/
namespace Go.Proofs.Ytlikmgkjilmjpaa
open Go.RowKit

def labB (ls : List ByteArray) : Bool := ls.all nameB && ((decide (1 ≤ ls.length) && decide (ls.length ≤ 4)) && ascL ls)
def NamesTo (ls : List ByteArray) (k : Nat) : Prop := ∀ j (h : j < ls.length), j < k → nameB ls[j] = true
theorem namesTo_zero (ls : List ByteArray) : NamesTo ls 0 := fun j _ h => by omega
theorem namesTo_succ {ls : List ByteArray} {k : Nat} (h : NamesTo ls k) (hk : k < ls.length) (hf : nameB ls[k] = true) : NamesTo ls (k + 1) := by
  intro j hj hlt
  by_cases e : j = k
  · subst e; exact hf
  · exact h j hj (by omega)
theorem lab_all {ls : List ByteArray} (h : NamesTo ls ls.length) : labB ls = ((decide (1 ≤ ls.length) && decide (ls.length ≤ 4)) && ascL ls) := by
  unfold labB
  have e : ls.all nameB = true := by
    rw [List.all_eq_true]
    intro x hx
    obtain ⟨j, hj, rfl⟩ := List.getElem_of_mem hx
    exact h j hj hj
  rw [e, Bool.true_and]
theorem lab_no {ls : List ByteArray} {k : Nat} (hk : k < ls.length) (hf : nameB ls[k] = false) : labB ls = false := by
  unfold labB
  have e : ls.all nameB = false := by
    rw [Bool.eq_false_iff, Ne, List.all_eq_true]
    intro h
    have := h _ (List.getElem_mem hk)
    rw [hf] at this
    cases this
  rw [e, Bool.false_and]

theorem l1In_any (x lo hi : Int) (w : World) : Calls Try.prog 74 #[.int .i64 x, .int .i64 lo, .int .i64 hi] w (Says (decide (lo ≤ x) && decide (x ≤ hi)) w) := by
  go_enter Try.func74, Try.ntmps74
  by_cases h1 : lo ≤ x
  · have e1 : (decide (lo ≤ x) && decide (x ≤ hi)) = decide (x ≤ hi) := by simp [h1]
    rw [e1]
    go_wp2
    go_ret
    exact ⟨rfl, rfl⟩
  · have e1 : (decide (lo ≤ x) && decide (x ≤ hi)) = false := by simp [h1]
    rw [e1]
    go_wp2
    go_ret
    exact ⟨rfl, rfl⟩

set_option maxHeartbeats 800000 in
theorem l3Labels_any (A : Option Addr) (c : Nat) (xs : List ByteArray) (w : World) (h : Sl w A (xs.map Value.string)) (hn : xs.length ≤ 1048576) (hx : ∀ x ∈ xs, x.size ≤ 1048576) :
    Calls Try.prog 116 #[.slice A xs.length c] w (Tells (labB xs) w) := by
  have HX := Lib.hid hx
  have HS := Lib.hid h
  clear hx
  go_enter Try.func116, Try.ntmps116
  go_wp2_with fail
  go_loop [3] (fun i => ∃ k : Nat, k ≤ xs.length ∧ i = .int .i64 k ∧ NamesTo xs k) (fun i => xs.length - (intOf i).toNat)
  case atStart => exact ⟨0, Nat.zero_le _, rfl, namesTo_zero _⟩
  case round =>
    obtain ⟨k, hk, rfl, hno⟩ := hrel
    by_cases hlt : k < xs.length
    · obtain ⟨ad, rfl, hc⟩ := h k (.string xs[k]) (by simp [hlt])
      have HN := Lib.hid hno
      have HC := Lib.hid (specName_any xs[k] w (HX.out _ (List.getElem_mem hlt)))
      clear hno
      go_wp2_with fail
      refine HC.out.mono ?_
      rintro e w2 ⟨rfl, rfl⟩
      by_cases hf : nameB xs[k] = true
      · have HN2 := Lib.hid (namesTo_succ HN.out hlt hf)
        rw [hf]
        clear hf
        go_wp2_with fail
        go_round
        case rel => exact ⟨k + 1, by omega, by go_num, HN2.out⟩
        case measure => simp [intOf]; omega
      · have hf' : nameB xs[k] = false := by simpa using hf
        have HR := Lib.hid (lab_no hlt hf')
        rw [hf']
        clear hf hf'
        go_wp2_with fail
        go_ret
        exact ⟨ret_bool HR.out.symm, 0, rfl⟩
    · have he : k = xs.length := by omega
      have HL := Lib.hid (lab_all (he ▸ hno))
      clear he hno
      have HI := Lib.hid (l1In_any (xs.length : Nat) 1 4 w)
      have he2 : (decide ((1 : Int) ≤ (xs.length : Nat)) && decide (((xs.length : Nat) : Int) ≤ 4)) = (decide (1 ≤ xs.length) && decide (xs.length ≤ 4)) := by
        congr 1
        · simp; omega
        · simp; omega
      have HE := Lib.hid he2
      clear he2
      go_wp2_with fail
      refine HI.out.mono ?_
      rintro e w2 ⟨rfl, rfl⟩
      rw [HE.out]
      cases hin : (decide (1 ≤ xs.length) && decide (xs.length ≤ 4))
      · have HR : Hid (labB xs = false) := by rw [HL.out, hin]; rfl
        clear hin
        go_wp2_with fail
        go_ret
        exact ⟨ret_bool HR.out.symm, 0, rfl⟩
      · have HR : Hid (labB xs = ascL xs) := by rw [HL.out, hin]; rfl
        have HC := Lib.hid (specAsc_any A c xs w HS.out hn)
        clear hin
        go_wp2_with fail
        refine HC.out.mono ?_
        rintro e w2 ⟨rfl, n, rfl⟩
        go_wp2_with fail
        go_ret
        exact ⟨ret_bool HR.out.symm, n, rfl⟩
end Go.Proofs.Ytlikmgkjilmjpaa
