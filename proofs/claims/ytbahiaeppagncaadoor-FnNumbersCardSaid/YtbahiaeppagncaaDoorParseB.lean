/-
  The model's reading of a numeral ('l1Read'): it answers n and true where the text is n's representation with at most so many digits, and 0 and false where there is no such n.
-/
import Derived.Test.YtbahiaeppagncaaDoorParseA
import Derived.Lib.IndexBytes
import Derived.IntWalk
namespace Go.Proofs.YtbahiaeppagncaaDoor
open Go.RowKit

/-- what stands behind the sign, and whether there is one -/
def Sign (s : ByteArray) (bl : Bool) (tt : ByteArray) : Prop :=
  (bl = true ∧ s.data.toList = 45 :: tt.data.toList) ∨ (bl = false ∧ s = tt ∧ ∀ c, s.data.toList[0]? = some c → c.toNat ≠ 45)

def ReadPost (k : Nat) (s : ByteArray) (w : World) (e : Ending) (w' : World) : Prop :=
  ∃ (n : Int) (b : Bool), e = .returned (.tuple #[.int .i64 n, .bool b]) ∧ Below w.heap.size w w' ∧
    ((b = true ∧ Lib.itoa n = s.data.toList ∧ n.natAbs < 10 ^ k) ∨ (b = false ∧ n = 0 ∧ ∀ m : Int, m.natAbs < 10 ^ k → Lib.itoa m ≠ s.data.toList))

theorem sign_shape {s tt : ByteArray} {bl : Bool} (h : Sign s bl tt) {m : Int} (hm : Lib.itoa m = s.data.toList) : (bl = true ↔ m < 0) ∧ tt.data.toList = Lib.decDigits m.natAbs := by
  rw [itoa_signed] at hm
  by_cases hneg : m < 0
  · rw [if_pos hneg] at hm
    rcases h with ⟨h1, h2⟩ | ⟨h1, rfl, h2⟩
    · rw [h2] at hm
      exact ⟨by simp [h1, hneg], by injection hm with _ e; exact e.symm⟩
    · exact absurd rfl (h2 45 (by rw [← hm]; rfl))
  · rw [if_neg hneg] at hm
    rcases h with ⟨h1, h2⟩ | ⟨h1, rfl, h2⟩
    · rw [h2] at hm
      have hc := dec_digs m.natAbs 45 (by rw [hm]; simp)
      exact absurd hc (by unfold isDig; decide)
    · exact ⟨by simp [h1, hneg], hm.symm⟩
/-- the number that a sign and a row of digits spell -/
def sval (bl : Bool) (l : List UInt8) : Int := if bl then -(lval l : Int) else lval l
theorem no_of_len {s tt : ByteArray} {bl : Bool} (h : Sign s bl tt) (k : Nat) (hk : tt.size < 1 ∨ k + 1 < tt.size) : ∀ m : Int, m.natAbs < 10 ^ (k + 1) → Lib.itoa m ≠ s.data.toList := by
  intro m hm e
  have h1 := (sign_shape h e).2
  have h2 := dec_len k m.natAbs hm
  rw [← h1, size_data] at h2
  omega
theorem no_of_dig {s tt : ByteArray} {bl : Bool} (h : Sign s bl tt) (k : Nat) {c : UInt8} (hc : c ∈ tt.data.toList) (hd : ¬ isDig c) : ∀ m : Int, m.natAbs < 10 ^ (k + 1) → Lib.itoa m ≠ s.data.toList := by
  intro m hm e
  rw [(sign_shape h e).2] at hc
  exact hd (dec_digs _ c hc)
theorem no_of_text {s tt : ByteArray} {bl : Bool} (h : Sign s bl tt) (k : Nat) (hv : Lib.itoa (sval bl tt.data.toList) ≠ s.data.toList) : ∀ m : Int, m.natAbs < 10 ^ (k + 1) → Lib.itoa m ≠ s.data.toList := by
  intro m hm e
  obtain ⟨h1, h2⟩ := sign_shape h e
  apply hv
  rw [h2]
  unfold sval
  rw [lval_dec]
  have : (if bl = true then -((m.natAbs : Nat) : Int) else ((m.natAbs : Nat) : Int)) = m := by
    by_cases hneg : m < 0
    · rw [if_pos (h1.2 hneg)]; omega
    · rw [if_neg (fun hb => hneg (h1.1 hb))]; omega
  rw [this, e]
theorem sval_lt {tt : ByteArray} (bl : Bool) {k : Nat} (hk : tt.size ≤ k) (h : ∀ c ∈ tt.data.toList, isDig c) : (sval bl tt.data.toList).natAbs < 10 ^ k := by
  have h1 := lval_lt _ h
  rw [size_data] at h1
  have h2 : 10 ^ tt.size ≤ 10 ^ k := Nat.pow_le_pow_right (by omega) hk
  unfold sval
  split <;> omega
theorem extract_tail (s : ByteArray) (hpos : 0 < s.size) : s.data.toList = s[0] :: (s.extract 1 s.size).data.toList := by
  obtain ⟨⟨l⟩⟩ := s
  cases l with
  | nil => exact absurd hpos (by simp [ByteArray.size])
  | cons c r =>
    rw [Lib.extract_to_end]
    rfl
theorem dig_of (c : UInt8) (h1 : ¬ (c.toNat : Int) < 48) (h2 : ¬ 57 < (c.toNat : Int)) : isDig c := by unfold isDig; omega

/-- what the loop over the digits keeps -/
def LInv (tt : ByteArray) (n i : Value) : Prop := ∃ k : Nat, k ≤ tt.size ∧ i = .int .i64 k ∧ n = .int .i64 (lval (tt.data.toList.take k) : Nat) ∧ ∀ c ∈ tt.data.toList.take k, isDig c
theorem take_byte (tt : ByteArray) (k : Nat) (h : k < tt.size) : tt.data.toList.take (k + 1) = tt.data.toList.take k ++ [tt[k]] := by
  rw [List.take_succ_eq_append_getElem (by rw [size_data]; exact h)]; rfl
theorem linv_step {tt : ByteArray} {k : Nat} (h : k < tt.size) (hd : isDig tt[k]) (ha : ∀ c ∈ tt.data.toList.take k, isDig c) (x : Int) (hx : x = 10 * (lval (tt.data.toList.take k) : Int) + ((tt[k].toNat : Int) - 48)) :
    LInv tt (.int .i64 x) (.int .i64 ((k : Int) + 1)) := by
  refine ⟨k + 1, by omega, by simp, ?_, ?_⟩
  · rw [hx, take_byte tt k h, lval_snoc]
    unfold isDig at hd
    congr 1
    omega
  · rw [take_byte tt k h]
    intro c hc
    rcases List.mem_append.1 hc with hc | hc
    · exact ha c hc
    · simp only [List.mem_singleton] at hc
      rw [hc]
      exact hd
theorem lval_small {l : List UInt8} (k : Nat) (hl : l.length ≤ k) (hk : k ≤ 11) (h : ∀ c ∈ l, isDig c) : lval l ≤ 99999999999 := by
  have h1 := lval_lt l h
  have h2 : 10 ^ l.length ≤ 10 ^ 11 := Nat.pow_le_pow_right (by omega) (by omega)
  omega
theorem lval_mid {l : List UInt8} (hl : l.length ≤ 12) (h : ∀ c ∈ l, isDig c) : lval l ≤ 999999999999 := by
  have h1 := lval_lt l h
  have h2 : 10 ^ l.length ≤ 10 ^ 12 := Nat.pow_le_pow_right (by omega) hl
  omega

set_option maxRecDepth 100000 in
set_option maxHeartbeats 3200000 in
theorem l1Read_neg (s tt : ByteArray) (q : Int) (hs : s.size ≤ 9223372036854775807) (hq0 : 6 ≤ q) (hq1 : q ≤ 12) (w : World) (hpos : 0 < s.size) (h45 : s[0] = 45) (htt : tt = s.extract 1 s.size) (hg : Sign s true tt) :
    Calls Tryd.prog 33 #[.string s, .int .i64 q] w (ReadPost q.toNat s w) := by
  obtain ⟨k, hk⟩ : ∃ k : Nat, q.toNat = k + 1 := ⟨q.toNat - 1, by omega⟩
  have HK := Lib.hid hk
  have hsz : tt.size = s.size - 1 := by rw [htt]; simp
  have HS := Lib.hid hsz
  have HT := Lib.hid htt
  clear hk hsz htt
  by_cases hlen : tt.size < 1 ∨ q < (tt.size : Int)
  · have hno := no_of_len hg k (by have := HK.out; omega)
    have hlen1 : s.size - 1 < 1 ∨ q < ((s.size - 1 : Nat) : Int) := by have := HS.out; omega
    have HN : Hid (ReadPost q.toNat s w (.returned (.tuple #[.int .i64 0, .bool false])) w) := ⟨0, false, rfl, Below.refl _ _, .inr ⟨rfl, rfl, by rw [HK.out]; exact hno⟩⟩
    clear hno hlen
    by_cases hl1 : s.size - 1 < 1
    · go_enter Tryd.func33, Tryd.ntmps33
      go_wp2_with fail
      go_ret2
      exact HN.out
    · have hl2 : q < ((s.size - 1 : Nat) : Int) := by omega
      go_enter Tryd.func33, Tryd.ntmps33
      go_wp2_with fail
      go_ret2
      exact HN.out
  · have hl1 : 1 ≤ s.size - 1 := by have := HS.out; omega
    have hl2 : ((s.size - 1 : Nat) : Int) ≤ q := by have := HS.out; omega
    clear hlen
    go_enter Tryd.func33, Tryd.ntmps33
    go_wp2_with fail
    rw [← HT.out]
    have ht1 : 1 ≤ tt.size := by have := HS.out; omega
    have ht2 : (tt.size : Int) ≤ q := by have := HS.out; omega
    clear hl1 hl2
    go_loopw [8, 9] (fun n i wr => LInv tt n i ∧ wr = w) (fun _ i _ => tt.size - (intOf i).toNat)
    case atStart => exact ⟨⟨0, Nat.zero_le _, rfl, rfl, by simp⟩, rfl⟩
    case round =>
      obtain ⟨⟨j, hj, rfl, rfl, hd⟩, rfl⟩ := hrel
      have hb11 := lval_small (l := tt.data.toList.take j) j (by rw [List.length_take]; omega)
      have hb12 := lval_mid (l := tt.data.toList.take j) (by rw [List.length_take, size_data]; omega) hd
      by_cases hlt : j < tt.size
      · have hb := hb11 (by omega) hd
        have hv0 : (0 : Int) ≤ (lval (tt.data.toList.take j) : Int) := by omega
        have hv1 : (lval (tt.data.toList.take j) : Int) ≤ 99999999999 := by omega
        have hc : tt[j] ∈ tt.data.toList := by
          have : tt.data.toList[j]'(by rw [size_data]; exact hlt) = tt[j] := rfl
          rw [← this]
          exact List.getElem_mem _
        have HD := Lib.hid hd
        clear hd hb11 hb12 hb
        by_cases h1 : (tt[j].toNat : Int) < 48
        · have hno := no_of_dig hg k hc (by unfold isDig; omega)
          have HN : Hid (ReadPost q.toNat s wr (.returned (.tuple #[.int .i64 0, .bool false])) wr) := ⟨0, false, rfl, Below.refl _ _, .inr ⟨rfl, rfl, by rw [HK.out]; exact hno⟩⟩
          clear hno hc
          go_wp2_with fail
          go_ret2
          exact HN.out
        · by_cases h2 : 57 < (tt[j].toNat : Int)
          · have hno := no_of_dig hg k hc (by unfold isDig; omega)
            have HN : Hid (ReadPost q.toNat s wr (.returned (.tuple #[.int .i64 0, .bool false])) wr) := ⟨0, false, rfl, Below.refl _ _, .inr ⟨rfl, rfl, by rw [HK.out]; exact hno⟩⟩
            clear hno hc
            go_wp2_with fail
            go_ret2
            exact HN.out
          · have hdj := dig_of tt[j] h1 h2
            have HJ := Lib.hid hdj
            have h3 : (48 : Int) ≤ (tt[j].toNat : Int) := by omega
            have h4 : (tt[j].toNat : Int) ≤ 57 := by omega
            clear hdj hc
            go_wp2_with fail
            go_roundw
            case rel => exact ⟨linv_step hlt HJ.out HD.out _ (by omega), trivial⟩
            case measure => simp [intOf]; omega
      · have hje : j = tt.size := by omega
        have hfull : tt.data.toList.take j = tt.data.toList := by rw [hje]; exact List.take_of_length_le (by rw [size_data]; omega)
        rw [hfull] at hd hb12 ⊢
        have hv0 : (0 : Int) ≤ (lval tt.data.toList : Int) := by omega
        have hv1 : (lval tt.data.toList : Int) ≤ 999999999999 := by omega
        have HD := Lib.hid hd
        have HJ := Lib.hid hje
        clear hfull hd hb11 hb12 hje
        go_wp2_with fail
        refine (specFormat_any _ (by omega) (by omega) wr).mono ?_
        rintro e w1 ⟨rfl, hbw⟩
        go_wp2_with fail
        · have hc : (!Lib.itoa (-(lval tt.data.toList : Int)) == s.toList) = true := by assumption
          have hne : Lib.itoa (sval true tt.data.toList) ≠ s.data.toList := by
            rw [Lib.toList_data] at hc
            simpa [sval] using hc
          have HN : Hid (ReadPost q.toNat s wr (.returned (.tuple #[.int .i64 0, .bool false])) w1) := ⟨0, false, rfl, hbw, .inr ⟨rfl, rfl, by rw [HK.out]; exact no_of_text hg k hne⟩⟩
          clear hne
          go_ret2
          exact HN.out
        · have hc : (!Lib.itoa (-(lval tt.data.toList : Int)) == s.toList) = false := by assumption
          have heq : Lib.itoa (sval true tt.data.toList) = s.data.toList := by
            rw [Lib.toList_data] at hc
            simpa [sval] using hc
          have HN : Hid (ReadPost q.toNat s wr (.returned (.tuple #[.int .i64 (-(lval tt.data.toList : Int)), .bool true])) w1) := ⟨sval true tt.data.toList, true, by simp [sval], hbw, .inl ⟨rfl, heq, sval_lt true (by omega) HD.out⟩⟩
          clear heq
          go_ret2
          exact HN.out

set_option maxRecDepth 100000 in
set_option maxHeartbeats 3200000 in
theorem l1Read_pos (s : ByteArray) (q : Int) (hs : s.size ≤ 9223372036854775807) (hq0 : 6 ≤ q) (hq1 : q ≤ 12) (w : World) (hpos : 0 < s.size) (h45 : ((s[0].toNat : Int) == 45) = false) (hg : Sign s false s) :
    Calls Tryd.prog 33 #[.string s, .int .i64 q] w (ReadPost q.toNat s w) := by
  obtain ⟨k, hk⟩ : ∃ k : Nat, q.toNat = k + 1 := ⟨q.toNat - 1, by omega⟩
  have HK := Lib.hid hk
  clear hk
  by_cases hl2 : q < (s.size : Int)
  · have hno := no_of_len hg k (by have := HK.out; omega)
    have HN : Hid (ReadPost q.toNat s w (.returned (.tuple #[.int .i64 0, .bool false])) w) := ⟨0, false, rfl, Below.refl _ _, .inr ⟨rfl, rfl, by rw [HK.out]; exact hno⟩⟩
    clear hno
    go_enter Tryd.func33, Tryd.ntmps33
    go_wp2_with fail
    go_ret2
    exact HN.out
  · have ht1 : 1 ≤ s.size := by omega
    have ht2 : (s.size : Int) ≤ q := by omega
    go_enter Tryd.func33, Tryd.ntmps33
    go_wp2_with fail
    clear hl2
    go_loopw [8, 9] (fun n i wr => LInv s n i ∧ wr = w) (fun _ i _ => s.size - (intOf i).toNat)
    case atStart => exact ⟨⟨0, Nat.zero_le _, rfl, rfl, by simp⟩, rfl⟩
    case round =>
      obtain ⟨⟨j, hj, rfl, rfl, hd⟩, rfl⟩ := hrel
      have hb11 := lval_small (l := s.data.toList.take j) j (by rw [List.length_take]; omega)
      have hb12 := lval_mid (l := s.data.toList.take j) (by rw [List.length_take, size_data]; omega) hd
      by_cases hlt : j < s.size
      · have hb := hb11 (by omega) hd
        have hv0 : (0 : Int) ≤ (lval (s.data.toList.take j) : Int) := by omega
        have hv1 : (lval (s.data.toList.take j) : Int) ≤ 99999999999 := by omega
        have hc : s[j] ∈ s.data.toList := by
          have : s.data.toList[j]'(by rw [size_data]; exact hlt) = s[j] := rfl
          rw [← this]
          exact List.getElem_mem _
        have HD := Lib.hid hd
        clear hd hb11 hb12 hb
        by_cases h1 : (s[j].toNat : Int) < 48
        · have hno := no_of_dig hg k hc (by unfold isDig; omega)
          have HN : Hid (ReadPost q.toNat s wr (.returned (.tuple #[.int .i64 0, .bool false])) wr) := ⟨0, false, rfl, Below.refl _ _, .inr ⟨rfl, rfl, by rw [HK.out]; exact hno⟩⟩
          clear hno hc
          go_wp2_with fail
          go_ret2
          exact HN.out
        · by_cases h2 : 57 < (s[j].toNat : Int)
          · have hno := no_of_dig hg k hc (by unfold isDig; omega)
            have HN : Hid (ReadPost q.toNat s wr (.returned (.tuple #[.int .i64 0, .bool false])) wr) := ⟨0, false, rfl, Below.refl _ _, .inr ⟨rfl, rfl, by rw [HK.out]; exact hno⟩⟩
            clear hno hc
            go_wp2_with fail
            go_ret2
            exact HN.out
          · have hdj := dig_of s[j] h1 h2
            have HJ := Lib.hid hdj
            have h3 : (48 : Int) ≤ (s[j].toNat : Int) := by omega
            have h4 : (s[j].toNat : Int) ≤ 57 := by omega
            clear hdj hc
            go_wp2_with fail
            go_roundw
            case rel => exact ⟨linv_step hlt HJ.out HD.out _ (by omega), trivial⟩
            case measure => simp [intOf]; omega
      · have hje : j = s.size := by omega
        have hfull : s.data.toList.take j = s.data.toList := by rw [hje]; exact List.take_of_length_le (by rw [size_data]; omega)
        rw [hfull] at hd hb12 ⊢
        have hv0 : (0 : Int) ≤ (lval s.data.toList : Int) := by omega
        have hv1 : (lval s.data.toList : Int) ≤ 999999999999 := by omega
        have HD := Lib.hid hd
        have HJ := Lib.hid hje
        clear hfull hd hb11 hb12 hje
        go_wp2_with fail
        refine (specFormat_any _ (by omega) (by omega) wr).mono ?_
        rintro e w1 ⟨rfl, hbw⟩
        go_wp2_with fail
        · have hc : (!Lib.itoa ((lval s.data.toList : Int)) == s.toList) = true := by assumption
          have hne : Lib.itoa (sval false s.data.toList) ≠ s.data.toList := by
            rw [Lib.toList_data] at hc
            simpa [sval] using hc
          have HN : Hid (ReadPost q.toNat s wr (.returned (.tuple #[.int .i64 0, .bool false])) w1) := ⟨0, false, rfl, hbw, .inr ⟨rfl, rfl, by rw [HK.out]; exact no_of_text hg k hne⟩⟩
          clear hne
          go_ret2
          exact HN.out
        · have hc : (!Lib.itoa ((lval s.data.toList : Int)) == s.toList) = false := by assumption
          have heq : Lib.itoa (sval false s.data.toList) = s.data.toList := by
            rw [Lib.toList_data] at hc
            simpa [sval] using hc
          have HN : Hid (ReadPost q.toNat s wr (.returned (.tuple #[.int .i64 ((lval s.data.toList : Int)), .bool true])) w1) := ⟨sval false s.data.toList, true, by simp [sval], hbw, .inl ⟨rfl, heq, sval_lt false (by omega) HD.out⟩⟩
          clear heq
          go_ret2
          exact HN.out

theorem l1Read_none (s : ByteArray) (q : Int) (hq0 : 6 ≤ q) (w : World) (h0 : s.size = 0) : Calls Tryd.prog 33 #[.string s, .int .i64 q] w (ReadPost q.toNat s w) := by
  obtain rfl : s = ⟨#[]⟩ := by
    apply ByteArray.ext
    exact Array.eq_empty_of_size_eq_zero h0
  obtain ⟨k, hk⟩ : ∃ k : Nat, q.toNat = k + 1 := ⟨q.toNat - 1, by omega⟩
  have hg : Sign ⟨#[]⟩ false ⟨#[]⟩ := .inr ⟨rfl, rfl, by simp⟩
  have hno := no_of_len hg k (Or.inl (by decide))
  rw [← hk] at hno
  have HN : Hid (ReadPost q.toNat ⟨#[]⟩ w (.returned (.tuple #[.int .i64 0, .bool false])) w) := ⟨0, false, rfl, Below.refl _ _, .inr ⟨rfl, rfl, hno⟩⟩
  clear hno hk
  go_enter Tryd.func33, Tryd.ntmps33
  go_wp2_with fail
  go_ret2
  exact HN.out

theorem l1Read_any (s : ByteArray) (q : Int) (hs : s.size ≤ 9223372036854775807) (hq0 : 6 ≤ q) (hq1 : q ≤ 12) (w : World) :
    Calls Tryd.prog 33 #[.string s, .int .i64 q] w (ReadPost q.toNat s w) := by
  by_cases h0 : s.size = 0
  · exact l1Read_none s q hq0 w h0
  · have hpos : 0 < s.size := by omega
    have ht := extract_tail s hpos
    by_cases h45 : s[0] = 45
    · exact l1Read_neg s _ q hs hq0 hq1 w hpos h45 rfl (.inl ⟨rfl, by rw [ht, h45]⟩)
    · have hne : s[0].toNat ≠ 45 := fun e => h45 (by apply UInt8.toNat_inj.1; exact e)
      refine l1Read_pos s q hs hq0 hq1 w hpos (by simp; omega) (.inr ⟨rfl, rfl, fun c hc => ?_⟩)
      rw [ht] at hc
      simp at hc
      rw [← hc]
      exact hne
end Go.Proofs.YtbahiaeppagncaaDoor
