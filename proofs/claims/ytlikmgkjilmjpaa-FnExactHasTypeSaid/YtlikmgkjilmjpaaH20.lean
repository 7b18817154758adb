/-
  Merged by program: NameI.
-/
import Derived.Test.YtlikmgkjilmjpaaH6

/-
  The program's IsName, which ranges over the runes of the text; the law 'IsName answers as the model does', walked.
-/
namespace Go.Proofs.Ytlikmgkjilmjpaa
open Go.RowKit

theorem name_shut {s : ByteArray} (h : s.size = 0 ∨ 4 < s.size ∨ s.toList = [105, 102] ∨ s.toList = [102, 111, 114]) : nameB s = false := by
  have e : (decide (1 ≤ s.size) && (decide (s.size ≤ 4) && (!(s.toList == [105, 102]) && !(s.toList == [102, 111, 114])))) = false := by
    rcases h with h | h | h | h
    · simp [h]
    · simp [show ¬ s.size ≤ 4 by omega]
    · simp [h]
    · simp [h]
  unfold nameB
  rw [e, Bool.and_false]
theorem name_yes {s : ByteArray} (h : NmTo s s.size) (h1 : 1 ≤ s.size) (h4 : s.size ≤ 4) (e1 : (s.toList == [105, 102]) = false) (e2 : (s.toList == [102, 111, 114]) = false) : nameB s = true := by
  rw [name_all h, e1, e2]
  simp [h1, h4]
theorem size_list (s : ByteArray) : s.toList.length = s.size := by
  rw [ByteArray.toList_eq, Array.length_toList]; rfl

/-- what the next rune is: the byte itself, or nothing that a name may hold -/
def Rn (s : ByteArray) (pos r wd : Nat) (h : pos < s.size) : Prop := (r = (s[pos]'h).toNat ∧ wd = 1) ∨ (128 ≤ r ∧ 128 ≤ (s[pos]'h).toNat)
theorem next_rune (w : World) (s : ByteArray) (pos : Nat) (h : pos < s.size) : ∃ r wd : Nat, Rn s pos r wd h ∧ r ≤ 2147483647 ∧
    ∀ ty, (Instr.next (.pointer (some ⟨w.heap.size, 0, none⟩)) true ty).run Try.prog (w.iter s pos) = .ok (.tuple #[.bool true, .int .i64 pos, .int .i32 r]) (w.iter s (pos + wd)) := by
  by_cases ha : (s[pos]'h).toNat < 128
  · exact ⟨(s[pos]'h).toNat, 1, .inl ⟨rfl, rfl⟩, by omega, fun ty => run_next_ascii w s pos ty h ha⟩
  · exact ⟨(Utf8.decode s pos).1, (Utf8.decode s pos).2, .inr ⟨(decode_high s pos h (by omega)).1, by omega⟩, decode_le s pos, fun ty => run_next_any w s pos ty h⟩
theorem below_iter (w : World) (s : ByteArray) (pos : Nat) : Below w.heap.size w (w.iter s pos) := (Below.refl _ _).alloc (Nat.le_refl _) _

/-- an answer that is true or false; all that was there is as it was -/
def Finds (b : Bool) (w : World) (e : Ending) (w' : World) : Prop := e = .returned (.bool b) ∧ Below w.heap.size w w'

set_option maxHeartbeats 1600000 in
theorem implName_any (s : ByteArray) (w : World) (hs : s.size ≤ 1048576) : Calls Try.prog 97 #[.string s] w (Finds (nameB s) w) := by
  by_cases h0 : s.size = 0
  · have HX := Lib.hid (name_shut (.inl h0))
    obtain rfl : s = ⟨#[]⟩ := by
      apply ByteArray.ext
      exact Array.eq_empty_of_size_eq_zero h0
    clear h0
    go_enter Try.func97, Try.ntmps97
    go_wp2
    go_ret
    exact ⟨ret_nm HX.out.symm, Below.refl _ _⟩
  · have h00 : (s.toList == []) = false := by
      rw [Bool.eq_false_iff, Ne, beq_iff_eq]
      intro e
      have := congrArg List.length e
      rw [size_list] at this
      exact h0 this
    by_cases h4 : (4 : Int) < (s.size : Int)
    · have HX := Lib.hid (name_shut (s := s) (.inr (.inl (by omega))))
      clear h0
      go_enter Try.func97, Try.ntmps97
      go_wp2
      go_ret
      exact ⟨ret_nm HX.out.symm, Below.refl _ _⟩
    · cases e1 : (s.toList == [105, 102])
      · cases e2 : (s.toList == [102, 111, 114])
        · have H00 := Lib.hid h0
          clear h0
          go_enter Try.func97, Try.ntmps97
          go_wp2
          go_loopw [3] (fun _ wr => ∃ pos : Nat, wr = w.iter s pos ∧ pos ≤ s.size ∧ NmTo s pos) (fun _ wr => s.size - wr.iterPos w.heap.size)
          case atStart => exact ⟨0, rfl, Nat.zero_le _, nmTo_zero _⟩
          case round =>
            obtain ⟨pos, rfl, hpos, hno⟩ := hrel
            have HN := Lib.hid hno
            clear hno
            by_cases hlt : pos < s.size
            · obtain ⟨r, wd, hr, hr2, hnx⟩ := next_rune w s pos hlt
              have HR := Lib.hid hr
              clear hr
              by_cases hL : (97 : Int) ≤ (r : Int) ∧ (r : Int) ≤ 122
              · obtain ⟨ha, hb⟩ := hL
                have HG : Hid (wd = 1 ∧ NmTo s (pos + 1)) := by
                  rcases HR.out with ⟨h1, h2⟩ | ⟨h1, h2⟩
                  · exact ⟨h2, nmTo_succ HN.out hlt (.inl ⟨by omega, by omega⟩)⟩
                  · omega
                go_wp2
                go_roundw
                case rel => exact ⟨pos + 1, by rw [HG.out.1], hlt, HG.out.2⟩
                case measure => have := HG.out.1; simp; omega
              · rcases Nat.eq_zero_or_pos pos with hp0 | hkp
                · have HX : Hid (nameB s = false) := by
                    rcases HR.out with ⟨h1, h2⟩ | ⟨h1, h2⟩
                    · exact name_no hlt (by omega) (.inl hp0)
                    · exact name_no hlt (by omega) (.inl hp0)
                  subst hp0
                  by_cases ha : (97 : Int) ≤ (r : Int)
                  · have hb : (122 : Int) < (r : Int) := by omega
                    have hb' : decide ((r : Int) ≤ 122) = false := by simpa using hb
                    clear hL
                    go_wp2
                    go_ret
                    exact ⟨ret_nm HX.out.symm, below_iter _ _ _⟩
                  · clear hL
                    go_wp2
                    go_ret
                    exact ⟨ret_nm HX.out.symm, below_iter _ _ _⟩
                · have hk0 : ((pos : Int) == 0) = false := by simp; omega
                  by_cases hD : (48 : Int) ≤ (r : Int) ∧ (r : Int) ≤ 57
                  · obtain ⟨hc, hd⟩ := hD
                    have HG : Hid (wd = 1 ∧ NmTo s (pos + 1)) := by
                      rcases HR.out with ⟨h1, h2⟩ | ⟨h1, h2⟩
                      · exact ⟨h2, nmTo_succ HN.out hlt (.inr ⟨by omega, by omega, by omega⟩)⟩
                      · omega
                    have ha : ¬ (97 : Int) ≤ (r : Int) := by omega
                    clear hL
                    go_wp2
                    go_roundw
                    case rel => exact ⟨pos + 1, by rw [HG.out.1], hlt, HG.out.2⟩
                    case measure => have := HG.out.1; simp; omega
                  · have HX : Hid (nameB s = false) := by
                      rcases HR.out with ⟨h1, h2⟩ | ⟨h1, h2⟩
                      · exact name_no hlt (by omega) (.inr (by omega))
                      · exact name_no hlt (by omega) (.inr (.inr (by omega)))
                    by_cases ha : (97 : Int) ≤ (r : Int)
                    · have hb : (122 : Int) < (r : Int) := by omega
                      have hc : (48 : Int) ≤ (r : Int) := by omega
                      have hd : (57 : Int) < (r : Int) := by omega
                      have hb' : decide ((r : Int) ≤ 122) = false := by simpa using hb
                      have hd' : decide ((r : Int) ≤ 57) = false := by simpa using hd
                      clear hL hD
                      go_wp2
                      go_ret
                      exact ⟨ret_nm HX.out.symm, below_iter _ _ _⟩
                    · by_cases hc : (48 : Int) ≤ (r : Int)
                      · have hd : (57 : Int) < (r : Int) := by omega
                        have hd' : decide ((r : Int) ≤ 57) = false := by simpa using hd
                        clear hL hD
                        go_wp2
                        go_ret
                        exact ⟨ret_nm HX.out.symm, below_iter _ _ _⟩
                      · clear hL hD
                        go_wp2
                        go_ret
                        exact ⟨ret_nm HX.out.symm, below_iter _ _ _⟩
            · have hnx : ∀ ty, (Instr.next (.pointer (some ⟨w.heap.size, 0, none⟩)) true ty).run Try.prog (w.iter s pos) = _ := fun ty => run_next_end w s pos ty hlt
              have he : pos = s.size := by omega
              have HX : Hid (nameB s = true) := by
                have h := HN.out
                rw [he] at h
                exact name_yes h (by have := H00.out; omega) (by omega) e1 e2
              clear he
              go_wp2
              go_ret
              exact ⟨ret_nm HX.out.symm, below_iter _ _ _⟩
        · have HX := Lib.hid (name_shut (s := s) (.inr (.inr (.inr (by simpa using e2)))))
          clear h0
          go_enter Try.func97, Try.ntmps97
          go_wp2
          go_ret
          exact ⟨ret_nm HX.out.symm, Below.refl _ _⟩
      · have HX := Lib.hid (name_shut (s := s) (.inr (.inr (.inl (by simpa using e1)))))
        clear h0
        go_enter Try.func97, Try.ntmps97
        go_wp2
        go_ret
        exact ⟨ret_nm HX.out.symm, Below.refl _ _⟩

end Go.Proofs.Ytlikmgkjilmjpaa
