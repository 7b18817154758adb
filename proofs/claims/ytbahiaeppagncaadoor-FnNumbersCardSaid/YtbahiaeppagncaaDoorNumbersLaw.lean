/-
  The law of numbers, walked: what is printed is read back, and what is read is what is printed.
-/
import Derived.Test.YtbahiaeppagncaaDoorDrawA
import Derived.Test.YtbahiaeppagncaaDoorParseE
namespace Go.Proofs.YtbahiaeppagncaaDoor
open Go.RowKit

theorem big_any (A : Option Addr) (n cap : Nat) (w : World) : Calls Tryd.prog 9 #[.slice A n cap] w (fun e w' => e = .returned (.bool (decide (1048576 < (n : Int)))) ∧ w = w') := by
  go_enter Tryd.func9, Tryd.ntmps9
  go_wp2_with fail
  go_ret
  exact ⟨rfl, rfl⟩

theorem itoa_inj {a b : Int} (h : Lib.itoa a = Lib.itoa b) : a = b := by
  rw [itoa_signed, itoa_signed] at h
  have no45 : ∀ u l, Lib.decDigits u ≠ 45 :: l := fun u l e => by
    have := dec_digs u 45 (by rw [e]; simp)
    unfold isDig at this
    exact absurd this (by decide)
  have nat : ∀ u v, Lib.decDigits u = Lib.decDigits v → u = v := fun u v e => by rw [← lval_dec u, e, lval_dec]
  by_cases ha : a < 0
  · by_cases hb : b < 0
    · rw [if_pos ha, if_pos hb] at h
      injection h with _ h
      have := nat _ _ h
      omega
    · rw [if_pos ha, if_neg hb] at h
      exact absurd h.symm (no45 _ _)
  · by_cases hb : b < 0
    · rw [if_neg ha, if_pos hb] at h
      exact absurd h (no45 _ _)
    · rw [if_neg ha, if_neg hb] at h
      have := nat _ _ h
      omega
theorem itoa_size (n : Int) : (Lib.itoa n).length = (if n < 0 then 1 else 0) + Lib.nDigits n.natAbs := by
  rw [itoa_signed]
  split
  · rw [List.length_cons, Lib.decDigits_length]; omega
  · rw [Lib.decDigits_length]; omega
theorem nd_small (u : Nat) (h : u ≤ 999999999999) : Lib.nDigits u ≤ 12 := nDigits_le 11 u (by omega)
theorem nd_big (u : Nat) (h : 999999999999 < u) : 13 ≤ Lib.nDigits u := by
  rcases Nat.lt_or_ge (Lib.nDigits u) 13 with h1 | h1
  · have h2 := Lib.lt_pow_nDigits u
    have h3 : 10 ^ Lib.nDigits u ≤ 10 ^ 12 := Nat.pow_le_pow_right (by omega) (by omega)
    omega
  · exact h1

/-- what ParseInt answers on a printed integer -/
theorem parsed_print {n x : Int} {b : Bool} (h : (b = true ∧ -999999999999 ≤ x ∧ x ≤ 999999999999 ∧ Lib.itoa x = Lib.itoa n) ∨ (b = false ∧ x = 0 ∧ ∀ v, -999999999999 ≤ v → v ≤ 999999999999 → Lib.itoa v ≠ Lib.itoa n)) :
    (b = true ∧ x = n ∧ n.natAbs ≤ 999999999999) ∨ (b = false ∧ 999999999999 < n.natAbs) := by
  rcases h with ⟨rfl, h1, h2, h3⟩ | ⟨rfl, _, h3⟩
  · have := itoa_inj h3
    subst this
    exact .inl ⟨rfl, rfl, by omega⟩
  · refine .inr ⟨rfl, ?_⟩
    rcases Nat.lt_or_ge 999999999999 n.natAbs with h4 | h4
    · exact h4
    · exact absurd rfl (h3 n (by omega) (by omega))

/-- the second half: from the drawn text on -/
def Half (w : World) (e : Ending) (w' : World) : Prop := e = .returned (.bool true) ∧ Below w.heap.size w w'

set_option maxRecDepth 100000 in
set_option maxHeartbeats 3200000 in
theorem numbers_law (A : Option Addr) (cap : Nat) (bs : List UInt8) (w : World) (hn : bs.length ≤ 9223372036854775807) (hsl : Sl w A (bcells bs)) (hv : Vars w) :
    Calls Tryd.prog 3 #[.slice A bs.length cap] w (LawYes w) := by
  have HV := Lib.hid hv
  have HS := Lib.hid hsl
  clear hv hsl
  go_enter Tryd.func3, Tryd.ntmps3
  go_wp2_with fail
  refine (big_any A bs.length cap w).mono ?_
  rintro e w0 ⟨rfl, rfl⟩
  by_cases hbig : 1048576 < bs.length
  · go_wp2_with fail
    go_ret
    exact ⟨rfl, Below.refl _ _⟩
  · have hcode : Code w A bs := ⟨HS.out, by omega⟩
    have HC := Lib.hid hcode
    clear hcode
    go_wp2_with fail
    refine (drawFormat_any A cap bs w HC.out).mono ?_
    rintro e w1 ⟨n, rfl, hn0, hn1, hb1⟩
    have HB1 := Lib.hid hb1
    have HV1 := Lib.hid (HV.out.below hb1)
    clear hb1
    go_wp2_with fail
    refine (implFormat_any n hn0 hn1 w1 HV1.out.pow).mono ?_
    rintro e w2 ⟨rfl, hb2⟩
    have HB2 := Lib.hid (HB1.out.trans (hb2.mono HB1.out.size))
    have HV2 := Lib.hid (HV1.out.below hb2)
    have hlen := itoa_len n hn0 hn1
    have hsz : (⟨(Lib.itoa n).toArray⟩ : ByteArray).size = (Lib.itoa n).length := by show (Lib.itoa n).toArray.size = _; simp
    have HZ := Lib.hid hsz
    clear hb2 hsz
    go_wp2_with fail
    refine (implI_any ⟨(Lib.itoa n).toArray⟩ (by rw [HZ.out]; omega) w2 HV2.out).mono ?_
    rintro e w3 ⟨x, b, rfl, hb3, hp⟩
    have hq := parsed_print (n := n) (x := x) (b := b) (by simpa using hp)
    have HB3 := Lib.hid (HB2.out.trans (hb3.mono HB2.out.size))
    have HV3 := Lib.hid (HV2.out.below hb3)
    clear hp hb3
    go_wp2_with fail
    refine (specFormat_any n hn0 hn1 w3).mono ?_
    rintro e w4 ⟨rfl, hb4⟩
    have HB4 := Lib.hid (HB3.out.trans (hb4.mono HB3.out.size))
    have HV4 := Lib.hid (HV3.out.below hb4)
    have HC4 := Lib.hid (HC.out.below HB4.out)
    have hL := itoa_size n
    have hs1 := nd_small n.natAbs
    have hs2 := nd_big n.natAbs
    have hcases : (b = true ∧ x = n ∧ ¬ n < 0 ∧ (Lib.itoa n).length ≤ 12) ∨ (b = true ∧ x = n ∧ n < 0 ∧ (Lib.itoa n).length ≤ 12) ∨ (b = true ∧ x = n ∧ n < 0 ∧ 12 < (Lib.itoa n).length ∧ (Lib.itoa n).length ≤ 13) ∨ (b = false ∧ ¬ n < 0 ∧ 12 < (Lib.itoa n).length) ∨ (b = false ∧ n < 0 ∧ 13 < (Lib.itoa n).length) := by
      rcases hq with ⟨h1, h2, h3⟩ | ⟨h1, h3⟩
      · have := hs1 h3
        by_cases hneg : n < 0
        · rw [if_pos hneg] at hL
          by_cases h12 : (Lib.itoa n).length ≤ 12
          · exact .inr (.inl ⟨h1, h2, hneg, h12⟩)
          · exact .inr (.inr (.inl ⟨h1, h2, hneg, by omega, by omega⟩))
        · rw [if_neg hneg] at hL
          exact .inl ⟨h1, h2, hneg, by omega⟩
      · have := hs2 h3
        by_cases hneg : n < 0
        · rw [if_pos hneg] at hL
          exact .inr (.inr (.inr (.inr ⟨h1, hneg, by omega⟩)))
        · rw [if_neg hneg] at hL
          exact .inr (.inr (.inr (.inl ⟨h1, hneg, by omega⟩)))
    clear hq hL hs1 hs2 hb4
    rcases hcases with ⟨rfl, rfl, h1, h2⟩ | ⟨rfl, rfl, h1, h2⟩ | ⟨rfl, rfl, h1, h2, h3⟩ | ⟨rfl, h1, h2⟩ | ⟨rfl, h1, h2⟩
    · go_wp2_with fail
      refine (drawParse_any A cap bs w4 HC4.out).mono ?_
      rintro e w5 ⟨t, rfl, ht, hb5⟩
      have HB5 := Lib.hid (HB4.out.trans (hb5.mono HB4.out.size))
      have HV5 := Lib.hid (HV4.out.below hb5)
      clear hb5 h1 h2
      go_wp2_with fail
      refine (implN_any t (by omega) w5 HV5.out).mono ?_
      rintro e w6 ⟨y, c, rfl, hb6, hp6⟩
      have HB6 := Lib.hid (HB5.out.trans (hb6.mono HB5.out.size))
      have HV6 := Lib.hid (HV5.out.below hb6)
      have HP := Lib.hid hp6
      clear hb6 hp6
      go_wp2_with fail
      refine (specNumber_any t (by omega) w6).mono ?_
      rintro e w7 ⟨z, d, rfl, hb7, hp7⟩
      obtain ⟨rfl, rfl⟩ := parsed_same (by omega) (by omega) HP.out hp7
      have HB7 := Lib.hid (HB6.out.trans (hb7.mono HB6.out.size))
      have HV7 := Lib.hid (HV6.out.below hb7)
      clear hb7 HP
      rcases hp7 with ⟨rfl, k1, k2, k3⟩ | ⟨rfl, rfl, k3⟩
      · have HT : Hid ((⟨(Lib.itoa y).toArray⟩ : ByteArray) = t) := by
          apply ByteArray.ext
          apply Array.toList_inj.1
          simpa using k3
        clear k3
        go_wp2_with fail
        refine (implFormat_any y (by omega) (by omega) w7 HV7.out.pow).mono ?_
        rintro e w8 ⟨rfl, hb8⟩
        rw [HT.out]
        have HB8 := Lib.hid (HB7.out.trans (hb8.mono HB7.out.size))
        clear hb8
        go_wp2_with fail
        go_ret
        exact ⟨rfl, HB8.out⟩
      · clear k3
        go_wp2_with fail
        go_ret
        exact ⟨rfl, HB7.out⟩
    · go_wp2_with fail
      refine (drawParse_any A cap bs w4 HC4.out).mono ?_
      rintro e w5 ⟨t, rfl, ht, hb5⟩
      have HB5 := Lib.hid (HB4.out.trans (hb5.mono HB4.out.size))
      have HV5 := Lib.hid (HV4.out.below hb5)
      clear hb5 h1 h2
      go_wp2_with fail
      refine (implN_any t (by omega) w5 HV5.out).mono ?_
      rintro e w6 ⟨y, c, rfl, hb6, hp6⟩
      have HB6 := Lib.hid (HB5.out.trans (hb6.mono HB5.out.size))
      have HV6 := Lib.hid (HV5.out.below hb6)
      have HP := Lib.hid hp6
      clear hb6 hp6
      go_wp2_with fail
      refine (specNumber_any t (by omega) w6).mono ?_
      rintro e w7 ⟨z, d, rfl, hb7, hp7⟩
      obtain ⟨rfl, rfl⟩ := parsed_same (by omega) (by omega) HP.out hp7
      have HB7 := Lib.hid (HB6.out.trans (hb7.mono HB6.out.size))
      have HV7 := Lib.hid (HV6.out.below hb7)
      clear hb7 HP
      rcases hp7 with ⟨rfl, k1, k2, k3⟩ | ⟨rfl, rfl, k3⟩
      · have HT : Hid ((⟨(Lib.itoa y).toArray⟩ : ByteArray) = t) := by
          apply ByteArray.ext
          apply Array.toList_inj.1
          simpa using k3
        clear k3
        go_wp2_with fail
        refine (implFormat_any y (by omega) (by omega) w7 HV7.out.pow).mono ?_
        rintro e w8 ⟨rfl, hb8⟩
        rw [HT.out]
        have HB8 := Lib.hid (HB7.out.trans (hb8.mono HB7.out.size))
        clear hb8
        go_wp2_with fail
        go_ret
        exact ⟨rfl, HB8.out⟩
      · clear k3
        go_wp2_with fail
        go_ret
        exact ⟨rfl, HB7.out⟩
    · have q3 : ((Lib.itoa x).length : Int) ≤ 13 := by omega
      have q4 : ¬ ((Lib.itoa x).length : Int) ≤ 12 := by omega
      have q5 : ¬ (Lib.itoa x).length ≤ 12 := by omega
      go_wp2_with fail
      refine (drawParse_any A cap bs w4 HC4.out).mono ?_
      rintro e w5 ⟨t, rfl, ht, hb5⟩
      have HB5 := Lib.hid (HB4.out.trans (hb5.mono HB4.out.size))
      have HV5 := Lib.hid (HV4.out.below hb5)
      clear hb5 h1 h2 h3
      go_wp2_with fail
      refine (implN_any t (by omega) w5 HV5.out).mono ?_
      rintro e w6 ⟨y, c, rfl, hb6, hp6⟩
      have HB6 := Lib.hid (HB5.out.trans (hb6.mono HB5.out.size))
      have HV6 := Lib.hid (HV5.out.below hb6)
      have HP := Lib.hid hp6
      clear hb6 hp6
      go_wp2_with fail
      refine (specNumber_any t (by omega) w6).mono ?_
      rintro e w7 ⟨z, d, rfl, hb7, hp7⟩
      obtain ⟨rfl, rfl⟩ := parsed_same (by omega) (by omega) HP.out hp7
      have HB7 := Lib.hid (HB6.out.trans (hb7.mono HB6.out.size))
      have HV7 := Lib.hid (HV6.out.below hb7)
      clear hb7 HP
      rcases hp7 with ⟨rfl, k1, k2, k3⟩ | ⟨rfl, rfl, k3⟩
      · have HT : Hid ((⟨(Lib.itoa y).toArray⟩ : ByteArray) = t) := by
          apply ByteArray.ext
          apply Array.toList_inj.1
          simpa using k3
        clear k3
        go_wp2_with fail
        refine (implFormat_any y (by omega) (by omega) w7 HV7.out.pow).mono ?_
        rintro e w8 ⟨rfl, hb8⟩
        rw [HT.out]
        have HB8 := Lib.hid (HB7.out.trans (hb8.mono HB7.out.size))
        clear hb8
        go_wp2_with fail
        go_ret
        exact ⟨rfl, HB8.out⟩
      · clear k3
        go_wp2_with fail
        go_ret
        exact ⟨rfl, HB7.out⟩
    · go_wp2_with fail
      refine (drawParse_any A cap bs w4 HC4.out).mono ?_
      rintro e w5 ⟨t, rfl, ht, hb5⟩
      have HB5 := Lib.hid (HB4.out.trans (hb5.mono HB4.out.size))
      have HV5 := Lib.hid (HV4.out.below hb5)
      clear hb5 h1 h2
      go_wp2_with fail
      refine (implN_any t (by omega) w5 HV5.out).mono ?_
      rintro e w6 ⟨y, c, rfl, hb6, hp6⟩
      have HB6 := Lib.hid (HB5.out.trans (hb6.mono HB5.out.size))
      have HV6 := Lib.hid (HV5.out.below hb6)
      have HP := Lib.hid hp6
      clear hb6 hp6
      go_wp2_with fail
      refine (specNumber_any t (by omega) w6).mono ?_
      rintro e w7 ⟨z, d, rfl, hb7, hp7⟩
      obtain ⟨rfl, rfl⟩ := parsed_same (by omega) (by omega) HP.out hp7
      have HB7 := Lib.hid (HB6.out.trans (hb7.mono HB6.out.size))
      have HV7 := Lib.hid (HV6.out.below hb7)
      clear hb7 HP
      rcases hp7 with ⟨rfl, k1, k2, k3⟩ | ⟨rfl, rfl, k3⟩
      · have HT : Hid ((⟨(Lib.itoa y).toArray⟩ : ByteArray) = t) := by
          apply ByteArray.ext
          apply Array.toList_inj.1
          simpa using k3
        clear k3
        go_wp2_with fail
        refine (implFormat_any y (by omega) (by omega) w7 HV7.out.pow).mono ?_
        rintro e w8 ⟨rfl, hb8⟩
        rw [HT.out]
        have HB8 := Lib.hid (HB7.out.trans (hb8.mono HB7.out.size))
        clear hb8
        go_wp2_with fail
        go_ret
        exact ⟨rfl, HB8.out⟩
      · clear k3
        go_wp2_with fail
        go_ret
        exact ⟨rfl, HB7.out⟩
    · go_wp2_with fail
      refine (drawParse_any A cap bs w4 HC4.out).mono ?_
      rintro e w5 ⟨t, rfl, ht, hb5⟩
      have HB5 := Lib.hid (HB4.out.trans (hb5.mono HB4.out.size))
      have HV5 := Lib.hid (HV4.out.below hb5)
      clear hb5 h1 h2
      go_wp2_with fail
      refine (implN_any t (by omega) w5 HV5.out).mono ?_
      rintro e w6 ⟨y, c, rfl, hb6, hp6⟩
      have HB6 := Lib.hid (HB5.out.trans (hb6.mono HB5.out.size))
      have HV6 := Lib.hid (HV5.out.below hb6)
      have HP := Lib.hid hp6
      clear hb6 hp6
      go_wp2_with fail
      refine (specNumber_any t (by omega) w6).mono ?_
      rintro e w7 ⟨z, d, rfl, hb7, hp7⟩
      obtain ⟨rfl, rfl⟩ := parsed_same (by omega) (by omega) HP.out hp7
      have HB7 := Lib.hid (HB6.out.trans (hb7.mono HB6.out.size))
      have HV7 := Lib.hid (HV6.out.below hb7)
      clear hb7 HP
      rcases hp7 with ⟨rfl, k1, k2, k3⟩ | ⟨rfl, rfl, k3⟩
      · have HT : Hid ((⟨(Lib.itoa y).toArray⟩ : ByteArray) = t) := by
          apply ByteArray.ext
          apply Array.toList_inj.1
          simpa using k3
        clear k3
        go_wp2_with fail
        refine (implFormat_any y (by omega) (by omega) w7 HV7.out.pow).mono ?_
        rintro e w8 ⟨rfl, hb8⟩
        rw [HT.out]
        have HB8 := Lib.hid (HB7.out.trans (hb8.mono HB7.out.size))
        clear hb8
        go_wp2_with fail
        go_ret
        exact ⟨rfl, HB8.out⟩
      · clear k3
        go_wp2_with fail
        go_ret
        exact ⟨rfl, HB7.out⟩
end Go.Proofs.YtbahiaeppagncaaDoor
