/-
  Merged by program: Name.
-/
import Derived.Test.YtlikmgkjilmjpaaH1
import Derived.Test.YtlikmgkjilmjpaaProg
import Derived.Laws.RangeString
import Derived.Laws.RangeAny
import Derived.Lib.SlicesS

/-
  Whether a text is a name: the model reads its bytes, the program its runes; they give one answer for every text, valid UTF-8 or not.
-/
namespace Go.Proofs.Ytlikmgkjilmjpaa
open Go.RowKit

def letN (u : Nat) : Bool := decide (97 ≤ u) && decide (u ≤ 122)
def digN (u : Nat) : Bool := decide (48 ≤ u) && decide (u ≤ 57)
/-- may the byte u stand at place k of a name? -/
def okN (k u : Nat) : Bool := letN u || (decide (k ≠ 0) && digN u)
def nameB (s : ByteArray) : Bool := ((List.range s.size).all fun k => okN k (s.get! k).toNat) && (decide (1 ≤ s.size) && (decide (s.size ≤ 4) && (!(s.toList == [105, 102]) && !(s.toList == [102, 111, 114]))))
def NmTo (s : ByteArray) (k : Nat) : Prop := ∀ j, j < k → okN j (s.get! j).toNat = true
theorem get_bang (s : ByteArray) (k : Nat) (h : k < s.size) : s.get! k = s[k]'h := by
  have := get_at s k h
  simpa using this
theorem nmTo_zero (s : ByteArray) : NmTo s 0 := fun j h => by omega
theorem okN_of {k u : Nat} (h : (97 ≤ u ∧ u ≤ 122) ∨ (k ≠ 0 ∧ 48 ≤ u ∧ u ≤ 57)) : okN k u = true := by
  unfold okN letN digN
  rcases h with ⟨h1, h2⟩ | ⟨h1, h2, h3⟩
  · simp [h1, h2]
  · simp [h1, h2, h3]
theorem okN_not {k u : Nat} (h1 : ¬ (97 ≤ u ∧ u ≤ 122)) (h2 : k = 0 ∨ u < 48 ∨ 57 < u) : okN k u = false := by
  unfold okN letN digN
  have e1 : (decide (97 ≤ u) && decide (u ≤ 122)) = false := by simpa using h1
  rw [e1, Bool.false_or]
  simp
  omega
theorem nmTo_succ {s : ByteArray} {k : Nat} (h : NmTo s k) (hk : k < s.size) (hg : (97 ≤ (s[k]'hk).toNat ∧ (s[k]'hk).toNat ≤ 122) ∨ (k ≠ 0 ∧ 48 ≤ (s[k]'hk).toNat ∧ (s[k]'hk).toNat ≤ 57)) : NmTo s (k + 1) := by
  intro j hj
  by_cases e : j = k
  · subst e
    rw [get_bang s j hk]
    exact okN_of hg
  · exact h j (by omega)
theorem name_no {s : ByteArray} {k : Nat} (hk : k < s.size) (h1 : ¬ (97 ≤ (s[k]'hk).toNat ∧ (s[k]'hk).toNat ≤ 122)) (h2 : k = 0 ∨ (s[k]'hk).toNat < 48 ∨ 57 < (s[k]'hk).toNat) : nameB s = false := by
  have h := okN_not h1 h2
  rw [← get_bang s k hk] at h
  unfold nameB
  have e : ((List.range s.size).all fun k => okN k (s.get! k).toNat) = false := by
    rw [Bool.eq_false_iff, Ne, List.all_eq_true]
    intro hall
    have := hall k (by simpa using hk)
    rw [h] at this
    cases this
  rw [e, Bool.false_and]
theorem name_all {s : ByteArray} (h : NmTo s s.size) : nameB s = (decide (1 ≤ s.size) && (decide (s.size ≤ 4) && (!(s.toList == [105, 102]) && !(s.toList == [102, 111, 114])))) := by
  unfold nameB
  have e : ((List.range s.size).all fun k => okN k (s.get! k).toNat) = true := by
    rw [List.all_eq_true]
    intro j hj
    exact h j (by simpa using hj)
  rw [e, Bool.true_and]
theorem ret_nm {a b : Bool} (h : a = b) : Ending.returned (.bool a) = .returned (.bool b) := by rw [h]

/-- an answer that is true or false, the world as it was -/
def Says (b : Bool) (w : World) (e : Ending) (w' : World) : Prop := e = .returned (.bool b) ∧ w = w'

set_option maxHeartbeats 1600000 in
theorem specName_any (s : ByteArray) (w : World) (hs : s.size ≤ 1048576) : Calls Try.prog 66 #[.string s] w (Says (nameB s) w) := by
  go_enter Try.func66, Try.ntmps66
  go_wp2
  go_loop [3] (fun i => ∃ k : Nat, k ≤ s.size ∧ i = .int .i64 k ∧ NmTo s k) (fun i => s.size - (intOf i).toNat)
  case atStart => exact ⟨0, Nat.zero_le _, rfl, nmTo_zero _⟩
  case round =>
    obtain ⟨k, hk, rfl, hno⟩ := hrel
    by_cases hlt : k < s.size
    · have HN := Lib.hid hno
      clear hno
      by_cases hL : (97 : Int) ≤ (s[k].toNat : Int) ∧ (s[k].toNat : Int) ≤ 122
      · obtain ⟨ha, hb⟩ := hL
        go_wp2
        go_round
        case rel => exact ⟨k + 1, by omega, by go_num, nmTo_succ HN.out hlt (.inl ⟨by omega, by omega⟩)⟩
        case measure => simp [intOf]; omega
      · rcases Nat.eq_zero_or_pos k with rfl | hkp
        · have HX := Lib.hid (name_no hlt (by omega) (.inl rfl))
          by_cases ha : (97 : Int) ≤ (s[0].toNat : Int)
          · have hb : (122 : Int) < (s[0].toNat : Int) := by omega
            have hb' : decide ((s[0].toNat : Int) ≤ 122) = false := by simpa using hb
            clear hL
            go_wp2
            go_ret
            exact ⟨ret_nm HX.out.symm, rfl⟩
          · clear hL
            go_wp2
            go_ret
            exact ⟨ret_nm HX.out.symm, rfl⟩
        · have hk0 : ((k : Int) == 0) = false := by simp; omega
          have hk1 : ¬ k = 0 := by omega
          by_cases ha : (97 : Int) ≤ (s[k].toNat : Int)
          · have hb : (122 : Int) < (s[k].toNat : Int) := by omega
            have hc : (57 : Int) < (s[k].toNat : Int) := by omega
            have hd : (48 : Int) ≤ (s[k].toNat : Int) := by omega
            have hb' : decide ((s[k].toNat : Int) ≤ 122) = false := by simpa using hb
            have HX := Lib.hid (name_no hlt (by omega) (.inr (.inr (by omega))))
            clear hL
            go_wp2
            go_ret
            exact ⟨ret_nm HX.out.symm, rfl⟩
          · clear hL
            by_cases hc : (48 : Int) ≤ (s[k].toNat : Int)
            · by_cases hd : (s[k].toNat : Int) ≤ 57
              · go_wp2
                go_round
                case rel => exact ⟨k + 1, by omega, by go_num, nmTo_succ HN.out hlt (.inr ⟨by omega, by omega, by omega⟩)⟩
                case measure => simp [intOf]; omega
              · have HX := Lib.hid (name_no hlt (by omega) (.inr (.inr (by omega))))
                go_wp2
                go_ret
                exact ⟨ret_nm HX.out.symm, rfl⟩
            · have HX := Lib.hid (name_no hlt (by omega) (.inr (.inl (by omega))))
              go_wp2
              go_ret
              exact ⟨ret_nm HX.out.symm, rfl⟩
    · have he : k = s.size := by omega
      subst he
      have HN := Lib.hid (name_all hno)
      clear hno
      by_cases h1 : (1 : Int) ≤ (s.size : Int)
      · by_cases h4 : (s.size : Int) ≤ 4
        · cases e1 : (s.toList == [105, 102]) <;> cases e2 : (s.toList == [102, 111, 114])
          all_goals
            have HX : Hid (nameB s = (!(s.toList == [105, 102]) && !(s.toList == [102, 111, 114]))) := by
              rw [HN.out]
              simp [show 1 ≤ s.size by omega, show s.size ≤ 4 by omega, Hid]
            rw [e1, e2] at HX
            go_wp2
            go_ret
            exact ⟨ret_nm HX.out.symm, rfl⟩
        · have HX : Hid (nameB s = false) := by
            rw [HN.out]
            simp [show ¬ s.size ≤ 4 by omega, Hid]
          go_wp2
          go_ret
          exact ⟨ret_nm HX.out.symm, rfl⟩
      · have HX : Hid (nameB s = false) := by
          rw [HN.out]
          simp [show ¬ 1 ≤ s.size by omega, Hid]
        go_wp2
        go_ret
        exact ⟨ret_nm HX.out.symm, rfl⟩
end Go.Proofs.Ytlikmgkjilmjpaa
