/-
  The model's ParseNumber and ParseInt answer as the program's do; the two laws, walked.
-/
import Derived.Test.YtbahiaeppagncaaDoorParseD
namespace Go.Proofs.YtbahiaeppagncaaDoor
open Go.RowKit

theorem parsed_same {s : ByteArray} {lo hi n m : Int} {b c : Bool} (hlo : -1000000000000000000 < lo) (hhi : hi < 1000000000000000000)
    (h : (b = true ∧ lo ≤ n ∧ n ≤ hi ∧ Lib.itoa n = s.data.toList) ∨ (b = false ∧ n = 0 ∧ ∀ v, lo ≤ v → v ≤ hi → Lib.itoa v ≠ s.data.toList))
    (k : (c = true ∧ lo ≤ m ∧ m ≤ hi ∧ Lib.itoa m = s.data.toList) ∨ (c = false ∧ m = 0 ∧ ∀ v, lo ≤ v → v ≤ hi → Lib.itoa v ≠ s.data.toList)) : n = m ∧ b = c := by
  rcases h with ⟨rfl, h1, h2, h3⟩ | ⟨rfl, rfl, h3⟩
  · rcases k with ⟨rfl, k1, k2, k3⟩ | ⟨rfl, rfl, k3⟩
    · have e1 := atoi_itoa n (by omega) (by omega)
      have e2 := atoi_itoa m (by omega) (by omega)
      rw [h3, ← k3, e2] at e1
      injection e1 with e1
      exact ⟨e1.symm, rfl⟩
    · exact absurd h3 (k3 n h1 h2)
  · rcases k with ⟨rfl, k1, k2, k3⟩ | ⟨rfl, rfl, k3⟩
    · exact absurd k3 (h3 m k1 k2)
    · exact ⟨rfl, rfl⟩

set_option maxHeartbeats 800000 in
theorem specNumber_any (s : ByteArray) (hs : s.size ≤ 9223372036854775807) (w : World) : Calls Tryd.prog 16 #[.string s] w (Parsed s 0 999999 w) := by
  go_enter Tryd.func16, Tryd.ntmps16
  go_wp2_with fail
  refine (l1Read_any s 6 hs (by omega) (by omega) w).mono ?_
  rintro e w1 ⟨n, b, rfl, hb, h⟩
  have e6 : (10 : Nat) ^ (6 : Int).toNat = 1000000 := rfl
  rw [e6] at h
  rcases h with ⟨rfl, h1, h2⟩ | ⟨rfl, rfl, h2⟩
  · by_cases hneg : n < 0
    · have HP : Hid (Parsed s 0 999999 w (.returned (.tuple #[.int .i64 0, .bool false])) w1) := ⟨0, false, rfl, hb, .inr ⟨rfl, rfl, fun v v1 v2 ev => by
        have e1 := atoi_itoa n (by omega) (by omega)
        have e2 := atoi_itoa v (by omega) (by omega)
        rw [h1, ← ev, e2] at e1
        injection e1 with e1
        omega⟩⟩
      clear h1 h2 e6
      go_wp2_with fail
      go_ret2
      exact HP.out
    · have HP : Hid (Parsed s 0 999999 w (.returned (.tuple #[.int .i64 n, .bool true])) w1) := ⟨n, true, rfl, hb, .inl ⟨rfl, by omega, by omega, h1⟩⟩
      clear h1 h2 e6
      go_wp2_with fail
      go_ret2
      exact HP.out
  · have HP : Hid (Parsed s 0 999999 w (.returned (.tuple #[.int .i64 0, .bool false])) w1) := ⟨0, false, rfl, hb, .inr ⟨rfl, rfl, fun v v1 v2 => h2 v (by omega)⟩⟩
    clear h2 e6
    go_wp2_with fail
    go_ret2
    exact HP.out

set_option maxHeartbeats 800000 in
theorem specInt_any (s : ByteArray) (hs : s.size ≤ 9223372036854775807) (w : World) : Calls Tryd.prog 21 #[.string s] w (Parsed s (-999999999999) 999999999999 w) := by
  go_enter Tryd.func21, Tryd.ntmps21
  go_wp2_with fail
  refine (l1Read_any s 12 hs (by omega) (by omega) w).mono ?_
  rintro e w1 ⟨n, b, rfl, hb, h⟩
  have e6 : (10 : Nat) ^ (12 : Int).toNat = 1000000000000 := rfl
  rw [e6] at h
  have HP : Hid (Parsed s (-999999999999) 999999999999 w (.returned (.tuple #[.int .i64 n, .bool b])) w1) := ⟨n, b, rfl, hb, by
    rcases h with ⟨h0, h1, h2⟩ | ⟨h0, h1, h2⟩
    · exact .inl ⟨h0, by omega, by omega, h1⟩
    · exact .inr ⟨h0, h1, fun v v1 v2 => h2 v (by omega)⟩⟩
  clear h e6
  go_wp2_with fail
  go_ret2
  exact HP.out

set_option maxHeartbeats 800000 in
theorem number_law (s : ByteArray) (hs : s.size ≤ 9223372036854775807) (w : World) (hv : Vars w) : Calls Tryd.prog 6 #[.string s] w (LawYes w) := by
  have HV := Lib.hid hv
  clear hv
  by_cases hbig : 1048576 < s.size
  · go_enter Tryd.func6, Tryd.ntmps6
    go_wp2_with fail
    go_ret
    exact ⟨rfl, Below.refl _ _⟩
  · go_enter Tryd.func6, Tryd.ntmps6
    go_wp2_with fail
    refine (specNumber_any s hs w).mono ?_
    rintro e w1 ⟨n, b, rfl, hb1, h1⟩
    have H1 := Lib.hid h1
    clear h1
    go_wp2_with fail
    refine (implN_any s (by omega) w1 (HV.out.below hb1)).mono ?_
    rintro e w2 ⟨m, c, rfl, hb2, h2⟩
    obtain ⟨rfl, rfl⟩ := parsed_same (by omega) (by omega) H1.out h2
    clear h2 H1
    go_wp2_with fail
    go_ret
    exact ⟨rfl, hb1.trans (hb2.mono hb1.size)⟩

set_option maxHeartbeats 800000 in
theorem int_law (s : ByteArray) (hs : s.size ≤ 9223372036854775807) (w : World) (hv : Vars w) : Calls Tryd.prog 7 #[.string s] w (LawYes w) := by
  have HV := Lib.hid hv
  clear hv
  by_cases hbig : 1048576 < s.size
  · go_enter Tryd.func7, Tryd.ntmps7
    go_wp2_with fail
    go_ret
    exact ⟨rfl, Below.refl _ _⟩
  · go_enter Tryd.func7, Tryd.ntmps7
    go_wp2_with fail
    refine (specInt_any s hs w).mono ?_
    rintro e w1 ⟨n, b, rfl, hb1, h1⟩
    have H1 := Lib.hid h1
    clear h1
    go_wp2_with fail
    refine (implI_any s (by omega) w1 (HV.out.below hb1)).mono ?_
    rintro e w2 ⟨m, c, rfl, hb2, h2⟩
    obtain ⟨rfl, rfl⟩ := parsed_same (by omega) (by omega) H1.out h2
    clear h2 H1
    go_wp2_with fail
    go_ret
    exact ⟨rfl, hb1.trans (hb2.mono hb1.size)⟩
end Go.Proofs.YtbahiaeppagncaaDoor
