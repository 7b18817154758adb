/-
  Merged by program: TTxtS.
-/
import Derived.Test.YtkchjinfjggoeaaGreatDoorF16

/-
  The model's l8Text, FormatTerm. Written by mkttxts.py.
-/
namespace Go.Proofs.YtkchjinfjggoeaaGreatDoor
open Go.RowKit

def ttxB (t : Te) : List UInt8 := if validE t = true then t.ttx else []
theorem nodeE_cases {a : TeA} {n : Nat} (h : nodeE a n = true) : a.kind = 1 ∨ a.kind = 2 ∨ (a.kind = 3 ∧ (a.num = 0 ∨ a.num = 1)) ∨ a.kind = 12 ∨ (a.kind = 4 ∧ n = 1) ∨ (a.kind = 4 ∧ n = 2) ∨ a.kind = 5 ∨ (a.kind = 6 ∧ n = 1) ∨ (a.kind = 7 ∧ a.type.form = true) ∨ (a.kind = 8 ∧ n = 1) ∨
    ((a.kind = 9 ∨ a.kind = 10) ∧ n = 2) ∨ (a.kind = 11 ∨ a.kind = 14) ∨ (a.kind = 13 ∧ n = 1 ∧ a.type.form = true) ∨ ((a.kind = 15 ∨ a.kind = 16) ∧ n = 1) := by
  unfold nodeE fieldsB at h
  simp only [Bool.and_eq_true, decide_eq_true_eq] at h
  obtain ⟨⟨h1, h2, h3, h4⟩, h5⟩ := h
  have hv : a.kind = 7 ∨ a.kind = 13 → a.type.form = true := fun e => by
    have hy : tyB a.kind = true := by unfold tyB; exact decide_eq_true e
    rw [typeOk_yes hy] at h2
    unfold validB at h2
    simp only [Bool.and_eq_true] at h2
    exact h2.2.2
  have hb : a.kind = 3 → a.num = 0 ∨ a.num = 1 := fun e => by
    unfold numOk mostN at h4
    rw [e] at h4
    simp only [Bool.and_eq_true, decide_eq_true_eq] at h4
    have h6 : a.num ≤ 1 := by simpa using h4.2
    omega
  have ho : a.kind = 4 → n = 1 ∨ n = 2 := fun e => by
    rw [e, nameOk_op] at h1
    have h6 : ¬ arB a.name = 0 := by simpa using h1
    have h7 := arB_le a.name
    unfold arN at h5
    rw [e, if_neg (by omega), if_pos rfl] at h5
    omega
  unfold arN at h5
  rcases Decidable.em (a.kind = 1 ∨ a.kind = 2 ∨ a.kind = 3 ∨ a.kind = 7 ∨ a.kind = 12) with e | e
  · rcases e with e | e | e | e | e
    · exact .inl e
    · exact .inr (.inl e)
    · exact .inr (.inr (.inl ⟨e, hb e⟩))
    · have := hv (.inl e)
      simp [e, this]
    · simp [e]
  · rw [if_neg e] at h5
    rcases Decidable.em (a.kind = 4) with e4 | e4
    · rcases ho e4 with e5 | e5 <;> simp [e4, e5]
    · rw [if_neg e4] at h5
      rcases Decidable.em (a.kind = 5) with e5 | e5
      · simp [e5]
      · rw [if_neg e5] at h5
        rcases Decidable.em (a.kind = 6 ∨ a.kind = 8 ∨ a.kind = 13 ∨ a.kind = 15 ∨ a.kind = 16) with e6 | e6
        · rw [if_pos e6] at h5
          have hn : n = 1 := by omega
          rcases e6 with e6 | e6 | e6 | e6 | e6
          · simp [e6, hn]
          · simp [e6, hn]
          · have := hv (.inr e6)
            simp [e6, hn, this]
          · simp [e6, hn]
          · simp [e6, hn]
        · rw [if_neg e6] at h5
          rcases Decidable.em (a.kind = 9 ∨ a.kind = 10 ∨ a.kind = 14) with e7 | e7
          · rw [if_pos e7] at h5
            have hn : n = 2 := by omega
            rcases e7 with e7 | e7 | e7 <;> simp [e7, hn]
          · rw [if_neg e7] at h5
            rcases Decidable.em (a.kind = 11) with e8 | e8
            · simp [e8]
            · rw [if_neg e8] at h5
              omega
theorem nodeE_rec {a : TeA} {n : Nat} (h : nodeE a n = true) (h5 : a.kind = 5) : n = a.labels.length := by
  unfold nodeE at h
  simp only [Bool.and_eq_true, decide_eq_true_eq] at h
  have h2 := h.2
  unfold arN at h2
  rw [h5, if_neg (by omega), if_neg (by omega), if_pos rfl] at h2
  omega
theorem formE_kidsS {a : TeA} {ks : List Te} (h : Tr.formE (.node a ks) = true) : (∀ t ∈ ks, t.formE = true) ∧ nodeE a ks.length = true := by
  rw [formE_node, Bool.and_eq_true, List.all_eq_true] at h
  exact h
theorem two_of {ps : List (List UInt8)} (h : ps.length = 2) : ∃ u v, ps = [u, v] := by
  match ps, h with
  | [u, v], _ => exact ⟨u, v, rfl⟩
theorem one_of {ps : List (List UInt8)} (h : ps.length = 1) : ∃ u, ps = [u] := by
  match ps, h with
  | [u], _ => exact ⟨u, rfl⟩
/-- what the loop of l8Text keeps -/
def TxInvE (a : TeA) (ks : List Te) (W1 : World) (v i : Value) (wr : World) : Prop :=
  ∃ k : Nat, k ≤ ks.length ∧ i = .int .i64 k ∧ wr.ownsRow W1.heap.size 9 1 v k (strsV ((partsY a ks).take k)) ∧ Below W1.heap.size W1 wr
theorem txinvE_more {a : TeA} {ks : List Te} {W1 wr w2 w3 : World} {A' : Option Addr} {n c' : Nat} {v' i : Value} {x : ByteArray} (h1 : wr.ownsRow W1.heap.size 9 1 (.slice A' n c') n (strsV ((partsY a ks).take n))) (hlt : n < ks.length)
    (hx : x = bs (partY a n ks[n].ttx)) (hb2 : Below W1.heap.size W1 w2) (hown : w3.ownsRow W1.heap.size 9 1 v' (n + 1) (strsV ((partsY a ks).take n) ++ [.string x])) (hg : w2.grownBy w3 (Value.slice A' n c').ownBlock) (hi : i = .int .i64 ((n + 1 : Nat) : Int)) :
    TxInvE a ks W1 v' i w3 := by
  refine ⟨n + 1, hlt, hi, ?_, hb2.grown hg hb2.size (fun q hq => (h1.lt q hq).1)⟩
  rw [partsY_take a ks n hlt, strsV, List.map_append]
  subst hx
  exact hown
theorem labY_str (a : TeA) (k : Nat) (l : List UInt8) (h : k < a.labels.length) (h3 : a.kind = 5) : a.labels[k] ++ ⟨#[61]⟩ ++ bs l = bs (partY a k l) := by
  unfold partY
  rw [if_pos h3]
  apply ByteArray.ext
  apply Array.ext'
  simp [bs, List.getD, h]
theorem partY_str (a : TeA) (k : Nat) (l : List UInt8) (h3 : a.kind ≠ 5) : bs l = bs (partY a k l) := by
  unfold partY
  rw [if_neg h3]
set_option maxHeartbeats 1600000 in
set_option maxRecDepth 100000 in
theorem specTextE_any : ∀ (t : Te) (w : World) (cs : List Value), RTe w t cs → t.formE = true → wte t ≤ 1048576 → Calls Tryz.prog 27 #[.agg cs.toArray] w (Text t.ttx w) := by
  refine Tr.ind ?_
  intro a ks ih w cs h hf hw
  have hok := h.okE
  obtain ⟨TL, tc, TA, td, L, c, A, d, rfl, kT, k1, k2, k6, _, hp⟩ := h.out
  obtain ⟨_, hokk⟩ := (okE_node a ks).1 hok
  obtain ⟨hfk, hfa⟩ := formE_kidsS hf
  have hall := partsY_all a ks hokk
  obtain ⟨q, hq⟩ : ∃ q, a.kind = q := ⟨_, rfl⟩
  obtain ⟨z, hz⟩ : ∃ z, a.num = z := ⟨_, rfl⟩
  obtain ⟨sn, hsn⟩ : ∃ sn, a.name = sn := ⟨_, rfl⟩
  obtain ⟨tk, htk⟩ : ∃ tk, a.type.top.kind = tk := ⟨_, rfl⟩
  obtain ⟨tl, htl⟩ : ∃ tl, a.type.top.labels.length = tl := ⟨_, rfl⟩
  obtain ⟨ta, hta⟩ : ∃ ta, a.type.kids.length = ta := ⟨_, rfl⟩
  obtain ⟨i0, hi, hz0, hz1, hz2⟩ := info_parts infoStr
  rw [ttx_node, hq, hz, hsn, htk, htl, hta]
  obtain ⟨W1, hW1⟩ : ∃ W1, w.alloc (.cells #[.int .i64 q, .string sn, .int .i64 z, .int .i64 tk, .slice TL tl tc, .slice TA ta td, .slice L a.labels.length c, .slice A ks.length d] 30) = W1 := ⟨_, rfl⟩
  have hb0 : Below w.heap.size w W1 := by rw [← hW1]; exact (Below.refl _ _).alloc (Nat.le_refl _) _
  obtain ⟨H, hH⟩ : ∃ H, w.heap.size = H := ⟨_, rfl⟩
  have b0 : Box8 W1 H 30 (.int .i64 q) (.string sn) (.int .i64 z) (.int .i64 tk) (.slice TL tl tc) (.slice TA ta td) (.slice L a.labels.length c) (.slice A ks.length d) := by rw [← hW1, ← hH]; exact Box8.new w _ _ _ _ _ _ _ _ _
  have hkl : ks.length ≤ 1048576 := by rw [wte_node] at hw; unfold wteK at hw; omega
  obtain ⟨hwT, hwN, _, hwl⟩ := wte_parts hw
  rw [hsn] at hwN
  rw [htk, htl, hta] at kT
  have hlen := partsY_len a ks
  have hkw : ∀ t ∈ ks, wte t ≤ 1048576 := fun t ht => Nat.le_trans (kid_wte_le ht) hw
  have hst : TxInvE a ks W1 (.slice (some ⟨W1.heap.size, 0, none⟩) 0 0) (.int .i64 0) (W1.alloc (.cells #[] 9)) :=
    ⟨0, Nat.zero_le _, rfl, World.ownsRow_made W1 #[] 0 (Nat.le_refl _) (by unfold maxLen; omega) rfl, (Below.refl _ _).alloc (Nat.le_refl _) _⟩
  have HP := Lib.hid hp
  have HI := Lib.hid (fun t ht w cs h => ih t ht w cs h (hfk t ht) (hkw t ht))
  have HH := Lib.hid hH
  have HB0 := Lib.hid hb0
  have B0 := Lib.hid b0
  have HW1 := Lib.hid hW1
  have HST := Lib.hid hst
  have HL := Lib.hid k1
  have HQ := Lib.hid hq
  have HFA := Lib.hid hfa
  have HALL := Lib.hid hall
  have HWL := Lib.hid hwl
  have HRT := Lib.hid kT
  have HWT := Lib.hid hwT
  have HLEN := Lib.hid hlen
  have HTX := Lib.hid (fun t (ht : t ∈ ks) => Nat.le_trans (ttx_le t (hokk t ht)) (Nat.add_le_add_right (Nat.mul_le_mul_left 30 (hkw t ht)) 24))
  have HWN := Lib.hid hw
  have HZ := Lib.hid hz
  have HNO : Hid (-9223372036854775808 ≤ z ∧ z ≤ 9223372036854775807) := Lib.hid (by rw [← hz]; exact ⟨k2.2.2.2.1, k2.2.2.2.2.1⟩)
  clear hp ih hb0 b0 hW1 hst k1 k2 k6 kT hwT h hq hz hsn htk htl hta hfa hall hwl hlen hfk hf hkw hw hok hokk
  go_enter Tryz.func27, Tryz.ntmps27
  go_wp2_with fail
  rw [HW1.out]
  go_loopw [3, 4, 5] (fun v i x wr => TxInvE a ks W1 v i wr) (fun _ i _ _ => ks.length - (intOf i).toNat)
  case atStart =>
    have hn : H + 1 = W1.heap.size := by rw [← HW1.out]; simp [HH.out]
    rw [hn]
    exact HST.out
  case round =>
    obtain ⟨k, hk, rfl, hown, hb⟩ := hrel
    obtain ⟨V, lc, rfl⟩ := own_shape hown
    have hbw := HB0.out.trans (hb.mono HB0.out.size)
    have bk := B0.out.under hb B0.out.lt
    have hbx0 := bk.c0
    have hbx1 := bk.c1
    have hbx2 := bk.c2
    have hbx3 := bk.c3
    have hbx4 := bk.c4
    have hbx5 := bk.c5
    have hbx6 := bk.c6
    have hbx7 := bk.c7
    have HO := Lib.hid hown
    have HB := Lib.hid hb
    have BK := Lib.hid bk
    clear hown hb bk
    by_cases hlt : k < ks.length
    · obtain ⟨ad, p, c0, c1, c2, c3, c4, c5, c6, c7, rfl, hpe, hr, q0, q1, q2, q3, q4, q5, q6, q7⟩ := tid_at HP.out hbw hlt
      have HC := Lib.hid (HI.out ks[k] (List.getElem_mem hlt) wr [c0, c1, c2, c3, c4, c5, c6, c7] hr)
      have htx := HTX.out ks[k] (List.getElem_mem hlt)
      have HMR : Hid (∀ (x : ByteArray) (w2 w3 : World) (v' i : Value), x = bs (partY a k ks[k].ttx) → Below W1.heap.size W1 w2 → w3.ownsRow W1.heap.size 9 1 v' (k + 1) (strsV ((partsY a ks).take k) ++ [.string x]) → w2.grownBy w3 (Value.slice V k lc).ownBlock → i = .int .i64 ((k + 1 : Nat) : Int) → TxInvE a ks W1 v' i w3) :=
        fun x w2 w3 v' i hx hb2 ho hg hi => txinvE_more HO.out hlt hx hb2 ho hg hi
      obtain ⟨l, hl⟩ : ∃ l, ks[k].ttx = l := ⟨_, rfl⟩
      rw [hl] at HC htx HMR
      clear hl hr hbw
      go_wp2_with fail
      refine HC.out.mono ?_
      rintro e w2 ⟨rfl, hb2⟩
      have HB2 := Lib.hid (HB.out.trans (hb2.mono HB.out.size))
      have B2 := Lib.hid (BK.out.under hb2 BK.out.lt)
      have O2 := Lib.hid (own_below HO.out hb2)
      have HL2 := Lib.hid (HL.out.below (HB0.out.trans (HB2.out.mono HB0.out.size)))
      have y0 := B2.out.c0
      have y1 := B2.out.c1
      have y2 := B2.out.c2
      have y3 := B2.out.c3
      have y4 := B2.out.c4
      have y5 := B2.out.c5
      have y6 := B2.out.c6
      have y7 := B2.out.c7
      have hls : (⟨l.toArray⟩ : ByteArray).size = l.length := rfl
      clear hb2 hbx0 hbx1 hbx2 hbx3 hbx4 hbx5 hbx6 hbx7 HC
      by_cases h3 : q = 5
      · subst h3
        have hkl2 : k < a.labels.length := by
          have := nodeE_rec HFA.out HQ.out
          omega
        obtain ⟨ad2, rfl, hlab⟩ := HL2.out k (.string a.labels[k]) (by simp [hkl2])
        have hlz := HWL.out a.labels[k] (List.getElem_mem hkl2)
        have HX : Hid (a.labels[k] ++ ⟨#[61]⟩ ++ ⟨l.toArray⟩ = bs (partY a k l)) := labY_str a k l hkl2 HQ.out
        obtain ⟨lab, hlb⟩ : ∃ lab, a.labels[k] = lab := ⟨_, rfl⟩
        rw [hlb] at hlab hlz HX
        clear hlb
        have hsl := Lib.hid (sl_one w2 (.string (lab ++ ⟨#[61]⟩ ++ ⟨l.toArray⟩)) 9)
        have O3 := Lib.hid (O2.out.alloc (.cells #[.string (lab ++ ⟨#[61]⟩ ++ ⟨l.toArray⟩)] 9))
        have HB3 := Lib.hid (HB2.out.alloc HB2.out.size (.cells #[.string (lab ++ ⟨#[61]⟩ ++ ⟨l.toArray⟩)] 9))
        have HOC : Hid (∀ u ∈ [Value.string (lab ++ ⟨#[61]⟩ ++ ⟨l.toArray⟩)], u.oneCell' = true) := Lib.hid (one_str _)
        have hn1 : (lab ++ ⟨#[61]⟩ : ByteArray).size = lab.size + 1 := by rw [ByteArray.size_append]; rfl
        go_wp2_with (at_builtin; refine wpList_append_sl _ rfl (.tmp 31) (.tmp 33) 24 rfl W1.heap.size 9 i0 _ 16 Tryz.underlying24 hi hz0 hz1 hz2 rfl (.slice V k lc) k (strsV ((partsY a ks).take k)) rfl O3.out (some ⟨w2.heap.size, 0, none⟩) 1 1 [.string (lab ++ ⟨#[61]⟩ ++ ⟨l.toArray⟩)] rfl rfl hsl.out HOC.out (by unfold maxLen; omega) (by omega) HB3.out.size ?_; intro v5 w5 hown5 hg5 hor5; have HMM := Lib.hid (fun i hi => HMR.out _ _ _ v5 i HX.out HB3.out hown5 hg5 hi); clear hown5 hg5 hor5)
        go_roundw
        case rel => exact HMM.out _ (by go_num)
        case measure => simp [intOf]; omega
      · have HX : Hid ((⟨l.toArray⟩ : ByteArray) = bs (partY a k l)) := partY_str a k l (by rw [HQ.out]; exact h3)
        have hsl := Lib.hid (sl_one w2 (.string ⟨l.toArray⟩) 9)
        have O3 := Lib.hid (O2.out.alloc (.cells #[.string ⟨l.toArray⟩] 9))
        have HB3 := Lib.hid (HB2.out.alloc HB2.out.size (.cells #[.string ⟨l.toArray⟩] 9))
        have HOC : Hid (∀ u ∈ [Value.string ⟨l.toArray⟩], u.oneCell' = true) := Lib.hid (one_str _)
        have h3' : (q == 5) = false := by simp [h3]
        go_wp2_with (at_builtin; refine wpList_append_sl _ rfl (.tmp 31) (.tmp 33) 24 rfl W1.heap.size 9 i0 _ 16 Tryz.underlying24 hi hz0 hz1 hz2 rfl (.slice V k lc) k (strsV ((partsY a ks).take k)) rfl O3.out (some ⟨w2.heap.size, 0, none⟩) 1 1 [.string ⟨l.toArray⟩] rfl rfl hsl.out HOC.out (by unfold maxLen; omega) (by omega) HB3.out.size ?_; intro v5 w5 hown5 hg5 hor5; have HMM := Lib.hid (fun i hi => HMR.out _ _ _ v5 i HX.out HB3.out hown5 hg5 hi); clear hown5 hg5 hor5)
        go_roundw
        case rel => exact HMM.out _ (by go_num)
        case measure => simp [intOf]; omega
    · have he : k = ks.length := by omega
      subst he
      have hown := HO.out
      rw [List.take_of_length_le (by rw [HLEN.out]; exact Nat.le_refl _)] at hown
      obtain ⟨ps, hps⟩ : ∃ ps, partsY a ks = ps := ⟨_, rfl⟩
      have hlen := HLEN.out
      have hall := HALL.out
      have hwn := HWN.out
      rw [hps] at hown hlen hall
      have HSL := Lib.hid (Sl.of_own hown)
      have hsum : lenS ps + ps.length ≤ 1073741824 := by omega
      have HRW := Lib.hid (HRT.out.keep hbw)
      have HTX2 : Hid (∀ (x : ByteArray) (w2 : World), x.data.toList = nodeY q sn.data.toList z a.type.txt ps → Below wr.heap.size wr w2 → Text (nodeY q sn.data.toList z a.type.txt (partsY a ks)) w (.returned (.string x)) w2) := Lib.hid (by
        intro x w2 hx hb2
        rw [hps]
        exact text_ofE hx (hbw.trans (hb2.mono hbw.size)))
      have hcs := nodeE_cases HFA.out
      rw [HQ.out, HZ.out] at hcs
      have HLN := Lib.hid hlen
      have HSM := Lib.hid hsum
      clear hown hbw hps hlen hall hwn HO HB BK hsum
      rcases hcs with rfl | rfl | ⟨rfl, rfl | rfl⟩ | rfl | ⟨rfl, hk1⟩ | ⟨rfl, hk1⟩ | rfl | ⟨rfl, hk1⟩ | ⟨rfl, hf⟩ | ⟨rfl, hk1⟩ | ⟨rfl | rfl, hk1⟩ | (rfl | rfl) | ⟨rfl, hk1, hf⟩ | ⟨rfl | rfl, hk1⟩
      · have HF := Lib.hid (HTX2.out sn wr (by simp [nodeY]) (Below.refl _ _))
        go_wp2_with fail
        go_ret
        exact HF.out
      · have HC := Lib.hid (specFmtInt_any z HNO.out.1 HNO.out.2 wr)
        go_wp2_with fail
        refine HC.out.mono ?_
        rintro e w2 ⟨rfl, hb2⟩
        have HF := Lib.hid (HTX2.out ⟨(Lib.itoa z).toArray⟩ w2 (by simp [nodeY]) hb2)
        clear hb2 HC
        go_wp2_with fail
        go_ret
        exact HF.out
      · have HF := Lib.hid (HTX2.out ⟨#[35, 102]⟩ wr (by simp [nodeY]) (Below.refl _ _))
        go_wp2_with fail
        go_ret
        exact HF.out
      · have HF := Lib.hid (HTX2.out ⟨#[35, 116]⟩ wr (by simp [nodeY]) (Below.refl _ _))
        go_wp2_with fail
        go_ret
        exact HF.out
      · have z1 : ¬ 9223372036854775807 < 1 + sn.size := by omega
        have HF := Lib.hid (HTX2.out (⟨#[64]⟩ ++ sn) wr (by simp [nodeY]) (Below.refl _ _))
        go_wp2_with fail
        go_ret
        exact HF.out
      · obtain ⟨u, rfl⟩ := one_of (HLN.out.trans hk1)
        have hul : u.length ≤ 1073741824 := by have := HSM.out; simp [lenS] at this; omega
        obtain ⟨ad, rfl, r0⟩ := HSL.out 0 (.string ⟨u.toArray⟩) rfl
        have r0 : wr.cell? ad = some (.string ⟨u.toArray⟩) := r0
        have hus : (⟨u.toArray⟩ : ByteArray).size = u.length := rfl
        have hn1 : (⟨#[40, 33]⟩ ++ ⟨u.toArray⟩ : ByteArray).size = u.length + 2 := by rw [ByteArray.size_append, hus]; show 2 + _ = _; omega
        have HF := Lib.hid (HTX2.out (⟨#[40, 33]⟩ ++ ⟨u.toArray⟩ ++ ⟨#[41]⟩) wr (by simp [nodeY]) (Below.refl _ _))
        go_wp2_with fail
        go_ret
        exact HF.out
      · obtain ⟨u, v, rfl⟩ := two_of (HLN.out.trans hk1)
        have hul : u.length ≤ 1073741824 ∧ v.length ≤ 1073741824 := by have := HSM.out; simp [lenS] at this; omega
        obtain ⟨hul, hvl⟩ := hul
        obtain ⟨ad, rfl, r0⟩ := HSL.out 0 (.string ⟨u.toArray⟩) rfl
        have r0 : wr.cell? ad = some (.string ⟨u.toArray⟩) := r0
        obtain ⟨ad', e, r1⟩ := HSL.out 1 (.string ⟨v.toArray⟩) rfl
        obtain rfl : ad = ad' := by injection e
        have r1' : wr.cell? ⟨ad.block, ad.off + 1, none⟩ = some (.string ⟨v.toArray⟩) := r1
        have hus : (⟨u.toArray⟩ : ByteArray).size = u.length := rfl
        have hvs : (⟨v.toArray⟩ : ByteArray).size = v.length := rfl
        clear e
        have HF := Lib.hid (fun n => HTX2.out (⟨#[40]⟩ ++ ⟨u.toArray⟩ ++ sn ++ ⟨v.toArray⟩ ++ ⟨#[41]⟩) (wr.drewN n) (by simp [nodeY]) (below_drewN (Below.refl _ _) n))
        go_wp2_with fail
        go_quiet (fail)
        go_wp2_with fail
        go_ret
        exact HF.out _
      · have HJ : Hid (Calls Tryz.prog 70 #[.slice V ks.length lc, .string ⟨#[44]⟩] wr (Text (Lib.join ps [44]) wr)) := Lib.hid (by
          have hsl := HSL.out
          rw [strsV_map] at hsl
          have hz : (⟨#[44]⟩ : ByteArray).size = 1 := rfl
          have h1 := total_bs ps
          have h2 := HSM.out
          have := specJoin_any V lc (ps.map bs) ⟨#[44]⟩ wr hsl (by rw [List.length_map, HLN.out]; exact hkl) (by rw [hz]; decide) (by rw [List.length_map, h1, hz]; omega)
          rw [List.length_map, HLN.out, jn_bs] at this
          exact this)
        have hll : (Lib.join ps [44]).length ≤ 1073741824 := by have := join_le ps 44; have := HSM.out; omega
        obtain ⟨l, hl⟩ : ∃ l, Lib.join ps [44] = l := ⟨_, rfl⟩
        rw [hl] at HJ hll
        have HL5 := Lib.hid hl
        clear hl
        have hls : (⟨l.toArray⟩ : ByteArray).size = l.length := rfl
        go_wp2_with fail
        refine HJ.out.mono ?_
        rintro e w2 ⟨rfl, hb2⟩
        have HF := Lib.hid (fun (x : ByteArray) hx => HTX2.out x w2 hx hb2)
        have hn1 : (⟨#[123]⟩ ++ ⟨l.toArray⟩ : ByteArray).size = l.length + 1 := by rw [ByteArray.size_append, hls]; show 1 + _ = _; omega
        clear hb2 HJ
        go_wp2_with fail
        go_ret
        exact HF.out _ (by rw [← HL5.out]; simp [nodeY, HL5.out])
      · obtain ⟨u, rfl⟩ := one_of (HLN.out.trans hk1)
        have hul : u.length ≤ 1073741824 := by have := HSM.out; simp [lenS] at this; omega
        obtain ⟨ad, rfl, r0⟩ := HSL.out 0 (.string ⟨u.toArray⟩) rfl
        have r0 : wr.cell? ad = some (.string ⟨u.toArray⟩) := r0
        have hus : (⟨u.toArray⟩ : ByteArray).size = u.length := rfl
        have HF := Lib.hid (fun n => HTX2.out (⟨u.toArray⟩ ++ ⟨#[46]⟩ ++ sn) (wr.drewN n) (by simp [nodeY]) (below_drewN (Below.refl _ _) n))
        go_wp2_with fail
        go_quiet (fail)
        go_wp2_with fail
        go_ret
        exact HF.out _
      · have HC := Lib.hid (specText_any a.type wr _ HRW.out hf HWT.out)
        have hyl := Nat.le_trans (txt_le a.type) (Nat.add_le_add_right (Nat.mul_le_mul_left 4 HWT.out) 2)
        obtain ⟨y, hy⟩ : ∃ y, a.type.txt = y := ⟨_, rfl⟩
        rw [hy] at HC hyl
        have HTX3 : Hid (∀ (x : ByteArray) (w2 : World), x.data.toList = nodeY 7 sn.data.toList z y ps → Below wr.heap.size wr w2 → Text (nodeY 7 sn.data.toList z a.type.txt (partsY a ks)) w (.returned (.string x)) w2) := Lib.hid (fun x w2 hx hb => HTX2.out x w2 (by rw [hy]; exact hx) hb)
        have hys : (⟨y.toArray⟩ : ByteArray).size = y.length := rfl
        have hn1 : (⟨#[91, 58]⟩ ++ ⟨y.toArray⟩ : ByteArray).size = y.length + 2 := by rw [ByteArray.size_append, hys]; show 2 + _ = _; omega
        clear hf hy
        go_wp2_with fail
        refine HC.out.mono ?_
        rintro e w2 ⟨rfl, hb2⟩
        have HF := Lib.hid (HTX3.out (⟨#[91, 58]⟩ ++ ⟨y.toArray⟩ ++ ⟨#[93]⟩) w2 (by simp [nodeY]) hb2)
        clear hb2 HC
        go_wp2_with fail
        go_ret
        exact HF.out
      · obtain ⟨u, rfl⟩ := one_of (HLN.out.trans hk1)
        have hul : u.length ≤ 1073741824 := by have := HSM.out; simp [lenS] at this; omega
        obtain ⟨ad, rfl, r0⟩ := HSL.out 0 (.string ⟨u.toArray⟩) rfl
        have r0 : wr.cell? ad = some (.string ⟨u.toArray⟩) := r0
        have hus : (⟨u.toArray⟩ : ByteArray).size = u.length := rfl
        have hn1 : (⟨#[91]⟩ ++ ⟨u.toArray⟩ : ByteArray).size = u.length + 1 := by rw [ByteArray.size_append, hus]; show 1 + _ = _; omega
        have HF := Lib.hid (HTX2.out (⟨#[91]⟩ ++ ⟨u.toArray⟩ ++ ⟨#[93]⟩) wr (by simp [nodeY]) (Below.refl _ _))
        go_wp2_with fail
        go_ret
        exact HF.out
      · have HC : Hid (Calls Tryz.prog 72 #[.agg #[.int .i64 9, .string sn, .int .i64 z, .int .i64 tk, .slice TL tl tc, .slice TA ta td, .slice L a.labels.length c, .slice A ks.length d], .slice V ks.length lc] wr (Text (nodeY 9 sn.data.toList z a.type.txt ps) wr)) := Lib.hid (by
          obtain ⟨u, v, rfl⟩ := two_of (HLN.out.trans hk1)
          have hul : u.length ≤ 1073741824 ∧ v.length ≤ 1073741824 := by have := HSM.out; simp [lenS] at this; omega
          rw [hk1]
          exact l8Long_two _ _ _ _ _ _ _ _ _ _ _ _ _ _ _ _ _ _ _ u v wr HSL.out hwN hul.1 hul.2 (.inl rfl))
        obtain ⟨y, hy⟩ : ∃ y, nodeY 9 sn.data.toList z a.type.txt ps = y := ⟨_, rfl⟩
        rw [hy] at HC HTX2
        have HTX3 := Lib.hid (HTX2.out ⟨y.toArray⟩)
        clear HTX2 hy hk1
        go_wp2_with fail
        refine HC.out.mono ?_
        rintro e w2 ⟨rfl, hb2⟩
        have HF := Lib.hid (HTX3.out w2 (by first | trivial | rfl) hb2)
        clear hb2 HC HTX3
        go_wp2_with fail
        go_ret
        exact HF.out
      · have HC : Hid (Calls Tryz.prog 72 #[.agg #[.int .i64 10, .string sn, .int .i64 z, .int .i64 tk, .slice TL tl tc, .slice TA ta td, .slice L a.labels.length c, .slice A ks.length d], .slice V ks.length lc] wr (Text (nodeY 10 sn.data.toList z a.type.txt ps) wr)) := Lib.hid (by
          obtain ⟨u, v, rfl⟩ := two_of (HLN.out.trans hk1)
          have hul : u.length ≤ 1073741824 ∧ v.length ≤ 1073741824 := by have := HSM.out; simp [lenS] at this; omega
          rw [hk1]
          exact l8Long_two _ _ _ _ _ _ _ _ _ _ _ _ _ _ _ _ _ _ _ u v wr HSL.out hwN hul.1 hul.2 (.inr rfl))
        obtain ⟨y, hy⟩ : ∃ y, nodeY 10 sn.data.toList z a.type.txt ps = y := ⟨_, rfl⟩
        rw [hy] at HC HTX2
        have HTX3 := Lib.hid (HTX2.out ⟨y.toArray⟩)
        clear HTX2 hy hk1
        go_wp2_with fail
        refine HC.out.mono ?_
        rintro e w2 ⟨rfl, hb2⟩
        have HF := Lib.hid (HTX3.out w2 (by first | trivial | rfl) hb2)
        clear hb2 HC HTX3
        go_wp2_with fail
        go_ret
        exact HF.out
      · have HC : Hid (Calls Tryz.prog 72 #[.agg #[.int .i64 11, .string sn, .int .i64 z, .int .i64 tk, .slice TL tl tc, .slice TA ta td, .slice L a.labels.length c, .slice A ks.length d], .slice V ks.length lc] wr (Text (nodeY 11 sn.data.toList z a.type.txt ps) wr)) := Lib.hid (by
          rw [← HLN.out]
          exact l8Long_join _ _ _ _ _ _ _ _ _ _ _ _ _ _ _ _ _ _ _ ps wr HSL.out (by rw [HLN.out]; exact hkl) HSM.out (.inl rfl))
        obtain ⟨y, hy⟩ : ∃ y, nodeY 11 sn.data.toList z a.type.txt ps = y := ⟨_, rfl⟩
        rw [hy] at HC HTX2
        have HTX3 := Lib.hid (HTX2.out ⟨y.toArray⟩)
        clear HTX2 hy 
        go_wp2_with fail
        refine HC.out.mono ?_
        rintro e w2 ⟨rfl, hb2⟩
        have HF := Lib.hid (HTX3.out w2 (by first | trivial | rfl) hb2)
        clear hb2 HC HTX3
        go_wp2_with fail
        go_ret
        exact HF.out
      · have HC : Hid (Calls Tryz.prog 72 #[.agg #[.int .i64 14, .string sn, .int .i64 z, .int .i64 tk, .slice TL tl tc, .slice TA ta td, .slice L a.labels.length c, .slice A ks.length d], .slice V ks.length lc] wr (Text (nodeY 14 sn.data.toList z a.type.txt ps) wr)) := Lib.hid (by
          rw [← HLN.out]
          exact l8Long_join _ _ _ _ _ _ _ _ _ _ _ _ _ _ _ _ _ _ _ ps wr HSL.out (by rw [HLN.out]; exact hkl) HSM.out (.inr rfl))
        obtain ⟨y, hy⟩ : ∃ y, nodeY 14 sn.data.toList z a.type.txt ps = y := ⟨_, rfl⟩
        rw [hy] at HC HTX2
        have HTX3 := Lib.hid (HTX2.out ⟨y.toArray⟩)
        clear HTX2 hy 
        go_wp2_with fail
        refine HC.out.mono ?_
        rintro e w2 ⟨rfl, hb2⟩
        have HF := Lib.hid (HTX3.out w2 (by first | trivial | rfl) hb2)
        clear hb2 HC HTX3
        go_wp2_with fail
        go_ret
        exact HF.out
      · have HC : Hid (Calls Tryz.prog 72 #[.agg #[.int .i64 13, .string sn, .int .i64 z, .int .i64 tk, .slice TL tl tc, .slice TA ta td, .slice L a.labels.length c, .slice A ks.length d], .slice V ks.length lc] wr (Text (nodeY 13 sn.data.toList z a.type.txt ps) wr)) := Lib.hid (by
          obtain ⟨u, rfl⟩ := one_of (HLN.out.trans hk1)
          have hul : u.length ≤ 1073741824 := by have := HSM.out; simp [lenS] at this; omega
          rw [hk1]
          exact l8Long_lam _ _ _ a.type _ _ _ _ _ _ _ _ _ _ _ _ _ _ u wr HSL.out hul hwN HRW.out hf HWT.out)
        obtain ⟨y, hy⟩ : ∃ y, nodeY 13 sn.data.toList z a.type.txt ps = y := ⟨_, rfl⟩
        rw [hy] at HC HTX2
        have HTX3 := Lib.hid (HTX2.out ⟨y.toArray⟩)
        clear HTX2 hy hk1 hf
        go_wp2_with fail
        refine HC.out.mono ?_
        rintro e w2 ⟨rfl, hb2⟩
        have HF := Lib.hid (HTX3.out w2 (by first | trivial | rfl) hb2)
        clear hb2 HC HTX3
        go_wp2_with fail
        go_ret
        exact HF.out
      · have HC : Hid (Calls Tryz.prog 72 #[.agg #[.int .i64 15, .string sn, .int .i64 z, .int .i64 tk, .slice TL tl tc, .slice TA ta td, .slice L a.labels.length c, .slice A ks.length d], .slice V ks.length lc] wr (Text (nodeY 15 sn.data.toList z a.type.txt ps) wr)) := Lib.hid (by
          obtain ⟨u, rfl⟩ := one_of (HLN.out.trans hk1)
          have hul : u.length ≤ 1073741824 := by have := HSM.out; simp [lenS] at this; omega
          rw [hk1]
          exact l8Long_one _ _ _ _ _ _ _ _ _ _ _ _ _ _ _ _ _ _ _ u wr HSL.out hul (.inl rfl))
        obtain ⟨y, hy⟩ : ∃ y, nodeY 15 sn.data.toList z a.type.txt ps = y := ⟨_, rfl⟩
        rw [hy] at HC HTX2
        have HTX3 := Lib.hid (HTX2.out ⟨y.toArray⟩)
        clear HTX2 hy hk1
        go_wp2_with fail
        refine HC.out.mono ?_
        rintro e w2 ⟨rfl, hb2⟩
        have HF := Lib.hid (HTX3.out w2 (by first | trivial | rfl) hb2)
        clear hb2 HC HTX3
        go_wp2_with fail
        go_ret
        exact HF.out
      · have HC : Hid (Calls Tryz.prog 72 #[.agg #[.int .i64 16, .string sn, .int .i64 z, .int .i64 tk, .slice TL tl tc, .slice TA ta td, .slice L a.labels.length c, .slice A ks.length d], .slice V ks.length lc] wr (Text (nodeY 16 sn.data.toList z a.type.txt ps) wr)) := Lib.hid (by
          obtain ⟨u, rfl⟩ := one_of (HLN.out.trans hk1)
          have hul : u.length ≤ 1073741824 := by have := HSM.out; simp [lenS] at this; omega
          rw [hk1]
          exact l8Long_one _ _ _ _ _ _ _ _ _ _ _ _ _ _ _ _ _ _ _ u wr HSL.out hul (.inr rfl))
        obtain ⟨y, hy⟩ : ∃ y, nodeY 16 sn.data.toList z a.type.txt ps = y := ⟨_, rfl⟩
        rw [hy] at HC HTX2
        have HTX3 := Lib.hid (HTX2.out ⟨y.toArray⟩)
        clear HTX2 hy hk1
        go_wp2_with fail
        refine HC.out.mono ?_
        rintro e w2 ⟨rfl, hb2⟩
        have HF := Lib.hid (HTX3.out w2 (by first | trivial | rfl) hb2)
        clear hb2 HC HTX3
        go_wp2_with fail
        go_ret
        exact HF.out

set_option maxHeartbeats 800000 in
theorem specFormatE_any (t : Te) (w : World) (cs : List Value) (h : RTe w t cs) (hw : wte t ≤ 1048576) : Calls Tryz.prog 10 #[.agg cs.toArray] w (Text (ttxB t) w) := by
  obtain ⟨c0, c1, c2, c3, c4, c5, c6, c7, rfl⟩ := h.eight
  obtain ⟨W1, hW1⟩ : ∃ W1, w.alloc (.cells #[c0, c1, c2, c3, c4, c5, c6, c7] 30) = W1 := ⟨_, rfl⟩
  obtain ⟨H, hH⟩ : ∃ H, w.heap.size = H := ⟨_, rfl⟩
  have hbox : Box8 W1 H 30 c0 c1 c2 c3 c4 c5 c6 c7 := by rw [← hW1, ← hH]; exact Box8.new w _ _ _ _ _ _ _ _ _
  have hb0 : Below w.heap.size w W1 := by rw [← hW1]; exact (Below.refl _ _).alloc (Nat.le_refl _) _
  have HV := Lib.hid (specValidE_any t W1 _ (h.keep hb0) hw)
  have HT := Lib.hid (fun W (hB : Below w.heap.size w W) (hf : t.formE = true) => specTextE_any t W _ (h.keep hB) hf hw)
  have HW1 := Lib.hid hW1
  have B0 := Lib.hid hbox
  have HB0 := Lib.hid hb0
  have x0 := hbox.c0
  have x1 := hbox.c1
  have x2 := hbox.c2
  have x3 := hbox.c3
  have x4 := hbox.c4
  have x5 := hbox.c5
  have x6 := hbox.c6
  have x7 := hbox.c7
  clear h hw hW1 hbox hb0
  go_enter Tryz.func10, Tryz.ntmps10
  go_wp2_with fail
  rw [HW1.out]
  go_wp2_with fail
  refine HV.out.mono ?_
  rintro e w1 ⟨rfl, hb1⟩
  have HB1 := Lib.hid (HB0.out.trans (hb1.mono HB0.out.size))
  have b1 := B0.out.under hb1 B0.out.lt
  clear hb1 x0 x1 x2 x3 x4 x5 x6 x7
  have x0 := b1.c0
  have x1 := b1.c1
  have x2 := b1.c2
  have x3 := b1.c3
  have x4 := b1.c4
  have x5 := b1.c5
  have x6 := b1.c6
  have x7 := b1.c7
  clear b1
  cases hv : validE t
  · have HR : Hid (Text (ttxB t) w (.returned (.string ⟨#[]⟩)) w1) := Lib.hid ⟨by unfold ttxB; rw [hv]; rfl, HB1.out⟩
    clear hv
    go_wp2_with fail
    go_ret
    exact HR.out
  · have hf : t.formE = true := by
      unfold validE at hv
      simp only [Bool.and_eq_true] at hv
      exact hv.2.2
    have HC := Lib.hid (HT.out w1 HB1.out hf)
    have HE : Hid (ttxB t = t.ttx) := Lib.hid (by unfold ttxB; rw [hv]; rfl)
    clear hv hf
    go_wp2_with fail
    refine HC.out.mono ?_
    rintro e w2 ⟨rfl, hb2⟩
    have HR : Hid (Text (ttxB t) w (.returned (.string ⟨t.ttx.toArray⟩)) w2) := Lib.hid ⟨by rw [HE.out], HB1.out.trans (hb2.mono HB1.out.size)⟩
    clear hb2 HC
    go_wp2_with fail
    go_ret
    exact HR.out
end Go.Proofs.YtkchjinfjggoeaaGreatDoor
