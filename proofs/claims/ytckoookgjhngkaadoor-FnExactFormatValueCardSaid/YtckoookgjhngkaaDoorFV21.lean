/-
  Merged by program: VTxtS.
-/
import Derived.Test.YtckoookgjhngkaaDoorFV13
import Derived.Test.YtckoookgjhngkaaDoorFV19
import Derived.Test.YtckoookgjhngkaaDoorFV15
import Derived.Test.YtckoookgjhngkaaDoorFV16
import Derived.Test.YtckoookgjhngkaaDoorFV20

/-
  The model's l6Text, FormatValue.
-/
namespace Go.Proofs.YtckoookgjhngkaaDoor
open Go.RowKit

/-- what the loop of l6Text keeps -/
def TxInvV (a : VaA) (ks : List Va) (W1 : World) (v i : Value) (wr : World) : Prop :=
  ∃ k : Nat, k ≤ ks.length ∧ i = .int .i64 k ∧ wr.ownsRow W1.heap.size 9 1 v k (strsV ((partsX a ks).take k)) ∧ Below W1.heap.size W1 wr
theorem txinvV_more {a : VaA} {ks : List Va} {W1 wr w2 w3 : World} {A' : Option Addr} {n c' : Nat} {v' i : Value} {x : ByteArray} (h1 : wr.ownsRow W1.heap.size 9 1 (.slice A' n c') n (strsV ((partsX a ks).take n))) (hlt : n < ks.length)
    (hx : x = bs (partX a n ks[n].vtx)) (hb2 : Below W1.heap.size W1 w2) (hown : w3.ownsRow W1.heap.size 9 1 v' (n + 1) (strsV ((partsX a ks).take n) ++ [.string x])) (hg : w2.grownBy w3 (Value.slice A' n c').ownBlock) (hi : i = .int .i64 ((n + 1 : Nat) : Int)) :
    TxInvV a ks W1 v' i w3 := by
  refine ⟨n + 1, hlt, hi, ?_, hb2.grown hg hb2.size (fun q hq => (h1.lt q hq).1)⟩
  rw [partsX_take a ks n hlt, strsV, List.map_append]
  subst hx
  exact hown
theorem labX_str (a : VaA) (k : Nat) (l : List UInt8) (h : k < a.labels.length) (h3 : a.kind = 3) : a.labels[k] ++ ⟨#[61]⟩ ++ bs l = bs (partX a k l) := by
  unfold partX
  rw [if_pos h3]
  apply ByteArray.ext
  apply Array.ext'
  simp [bs, List.getD, h]
theorem partX_str (a : VaA) (k : Nat) (l : List UInt8) (h3 : a.kind ≠ 3) : bs l = bs (partX a k l) := by
  unfold partX
  rw [if_neg h3]
theorem text_ofS {l : List UInt8} {w w' : World} {x : ByteArray} (h : x.data.toList = l) (hb : Below w.heap.size w w') : Text l w (.returned (.string x)) w' := by
  refine ⟨?_, hb⟩
  subst h
  rfl

set_option maxHeartbeats 1600000 in
set_option maxRecDepth 100000 in
theorem specTextV_any : ∀ (t : Va) (w : World) (cs : List Value), RVa w t cs → t.formV = true → wv t ≤ 1048576 → Calls Tryd.prog 12 #[.agg cs.toArray] w (Text t.vtx w) := by
  refine Tr.ind ?_
  intro a ks ih w cs h hf hw
  have hok := h.okV
  obtain ⟨L, c, A, d, rfl, k1, k2, k6, hp⟩ := h.out
  obtain ⟨_, hokk⟩ := (okV_node a ks).1 hok
  obtain ⟨hfk, hfa⟩ := formV_kids hf
  have hall := partsX_all a ks hokk
  have hwl := wv_labels hw
  obtain ⟨q, hq⟩ : ∃ q, a.kind = q := ⟨_, rfl⟩
  obtain ⟨z, hz⟩ : ∃ z, a.num = z := ⟨_, rfl⟩
  obtain ⟨i0, hi, hz0, hz1, hz2⟩ := info_parts infoStr
  rw [vtx_node, hq, hz]
  obtain ⟨W1, hW1⟩ : ∃ W1, w.alloc (.cells #[.int .i64 q, .int .i64 z, .slice L a.labels.length c, .slice A ks.length d] 30) = W1 := ⟨_, rfl⟩
  have hb0 : Below w.heap.size w W1 := by rw [← hW1]; exact (Below.refl _ _).alloc (Nat.le_refl _) _
  obtain ⟨H, hH⟩ : ∃ H, w.heap.size = H := ⟨_, rfl⟩
  have b0 : Box4 W1 H 30 (.int .i64 q) (.int .i64 z) (.slice L a.labels.length c) (.slice A ks.length d) := by rw [← hW1, ← hH]; exact Box4.new w _ _ _ _ _
  have hkl : ks.length ≤ 1048576 := by rw [wv_node] at hw; unfold wvK at hw; omega
  have hlen := partsX_len a ks
  have hkw : ∀ t ∈ ks, wv t ≤ 1048576 := fun t ht => Nat.le_trans (kid_wv_le ht) hw
  have hst : TxInvV a ks W1 (.slice (some ⟨W1.heap.size, 0, none⟩) 0 0) (.int .i64 0) (W1.alloc (.cells #[] 9)) :=
    ⟨0, Nat.zero_le _, rfl, World.ownsRow_made W1 #[] 0 (Nat.le_refl _) (by unfold maxLen; omega) rfl, (Below.refl _ _).alloc (Nat.le_refl _) _⟩
  have HP := Lib.hid hp
  have HI := Lib.hid (fun t ht w cs h => ih t ht w cs h (hfk t ht) (hkw t ht))
  have HH := Lib.hid hH
  have HB0 := Lib.hid hb0
  have B0 := Lib.hid b0
  have HW1 := Lib.hid hW1
  have HST := Lib.hid hst
  have HL := Lib.hid k1
  have HQ := Lib.hid hq
  have HFA := Lib.hid hfa
  have HALL := Lib.hid hall
  have HWL := Lib.hid hwl.2
  have HLEN := Lib.hid hlen
  have HTX := Lib.hid (fun t (ht : t ∈ ks) => Nat.le_trans (vtx_le t (hokk t ht)) (Nat.add_le_add_right (Nat.mul_le_mul_left 26 (hkw t ht)) 24))
  have HWN := Lib.hid hw
  have HZ := Lib.hid hz
  have HNO : Hid (-9223372036854775808 ≤ z ∧ z ≤ 9223372036854775807) := Lib.hid (by rw [← hz]; exact ⟨k2.2.2.1, k2.2.2.2.1⟩)
  clear hp ih hb0 b0 hW1 hst k1 k2 h hq hz hfa hall hwl hlen hfk hf hkw hw hok hokk
  go_enter Tryd.func12, Tryd.ntmps12
  go_wp2_with fail
  rw [HW1.out]
  go_loopw [3, 4, 5] (fun v i x wr => TxInvV a ks W1 v i wr) (fun _ i _ _ => ks.length - (intOf i).toNat)
  case atStart =>
    have hn : H + 1 = W1.heap.size := by rw [← HW1.out]; simp [HH.out]
    rw [hn]
    exact HST.out
  case round =>
    obtain ⟨k, hk, rfl, hown, hb⟩ := hrel
    obtain ⟨V, lc, rfl⟩ := own_shape hown
    have hbw := HB0.out.trans (hb.mono HB0.out.size)
    have bk := B0.out.under hb B0.out.lt
    have hbx0 := bk.c0
    have hbx1 := bk.c1
    have hbx2 := bk.c2
    have hbx3 := bk.c3
    have HO := Lib.hid hown
    have HB := Lib.hid hb
    have BK := Lib.hid bk
    clear hown hb bk
    by_cases hlt : k < ks.length
    · obtain ⟨ad, p, c0, c1, c2, c3, rfl, hpe, hr, q0, q1, q2, q3⟩ := vid_at HP.out hbw hlt
      have HC := Lib.hid (HI.out ks[k] (List.getElem_mem hlt) wr [c0, c1, c2, c3] hr)
      have htx := HTX.out ks[k] (List.getElem_mem hlt)
      have HMR : Hid (∀ (x : ByteArray) (w2 w3 : World) (v' i : Value), x = bs (partX a k ks[k].vtx) → Below W1.heap.size W1 w2 → w3.ownsRow W1.heap.size 9 1 v' (k + 1) (strsV ((partsX a ks).take k) ++ [.string x]) → w2.grownBy w3 (Value.slice V k lc).ownBlock → i = .int .i64 ((k + 1 : Nat) : Int) → TxInvV a ks W1 v' i w3) :=
        fun x w2 w3 v' i hx hb2 ho hg hi => txinvV_more HO.out hlt hx hb2 ho hg hi
      obtain ⟨l, hl⟩ : ∃ l, ks[k].vtx = l := ⟨_, rfl⟩
      rw [hl] at HC htx HMR
      clear hl hr hbw
      go_wp2_with fail
      refine HC.out.mono ?_
      rintro e w2 ⟨rfl, hb2⟩
      have HB2 := Lib.hid (HB.out.trans (hb2.mono HB.out.size))
      have B2 := Lib.hid (BK.out.under hb2 BK.out.lt)
      have O2 := Lib.hid (own_below HO.out hb2)
      have HL2 := Lib.hid (HL.out.below (HB0.out.trans (HB2.out.mono HB0.out.size)))
      have y0 := B2.out.c0
      have y1 := B2.out.c1
      have y2 := B2.out.c2
      have y3 := B2.out.c3
      have hls : (⟨l.toArray⟩ : ByteArray).size = l.length := rfl
      clear hb2 hbx0 hbx1 hbx2 hbx3 HC
      by_cases h3 : q = 3
      · subst h3
        have hkl2 : k < a.labels.length := by
          have := HQ.out
          rcases nodeV_cases HFA.out with ⟨e, _⟩ | ⟨e, _⟩ | ⟨_, _, e, _⟩ | ⟨e, _⟩ <;> omega
        obtain ⟨ad2, rfl, hlab⟩ := HL2.out k (.string a.labels[k]) (by simp [hkl2])
        have hlz := HWL.out a.labels[k] (List.getElem_mem hkl2)
        have HX : Hid (a.labels[k] ++ ⟨#[61]⟩ ++ ⟨l.toArray⟩ = bs (partX a k l)) := labX_str a k l hkl2 HQ.out
        obtain ⟨lab, hlb⟩ : ∃ lab, a.labels[k] = lab := ⟨_, rfl⟩
        rw [hlb] at hlab hlz HX
        clear hlb
        have hsl := Lib.hid (sl_one w2 (.string (lab ++ ⟨#[61]⟩ ++ ⟨l.toArray⟩)) 9)
        have O3 := Lib.hid (O2.out.alloc (.cells #[.string (lab ++ ⟨#[61]⟩ ++ ⟨l.toArray⟩)] 9))
        have HB3 := Lib.hid (HB2.out.alloc HB2.out.size (.cells #[.string (lab ++ ⟨#[61]⟩ ++ ⟨l.toArray⟩)] 9))
        have HOC : Hid (∀ u ∈ [Value.string (lab ++ ⟨#[61]⟩ ++ ⟨l.toArray⟩)], u.oneCell' = true) := Lib.hid (one_str _)
        have hn1 : (lab ++ ⟨#[61]⟩ : ByteArray).size = lab.size + 1 := by rw [ByteArray.size_append]; rfl
        go_wp2_with (at_builtin; refine wpList_append_sl _ rfl (.tmp 31) (.tmp 33) 22 rfl W1.heap.size 9 i0 _ 16 Tryd.underlying22 hi hz0 hz1 hz2 rfl (.slice V k lc) k (strsV ((partsX a ks).take k)) rfl O3.out (some ⟨w2.heap.size, 0, none⟩) 1 1 [.string (lab ++ ⟨#[61]⟩ ++ ⟨l.toArray⟩)] rfl rfl hsl.out HOC.out (by unfold maxLen; omega) (by omega) HB3.out.size ?_; intro v5 w5 hown5 hg5 hor5; have HMM := Lib.hid (fun i hi => HMR.out _ _ _ v5 i HX.out HB3.out hown5 hg5 hi); clear hown5 hg5 hor5)
        go_roundw
        case rel => exact HMM.out _ (by go_num)
        case measure => simp [intOf]; omega
      · have HX : Hid ((⟨l.toArray⟩ : ByteArray) = bs (partX a k l)) := partX_str a k l (by rw [HQ.out]; exact h3)
        have hsl := Lib.hid (sl_one w2 (.string ⟨l.toArray⟩) 9)
        have O3 := Lib.hid (O2.out.alloc (.cells #[.string ⟨l.toArray⟩] 9))
        have HB3 := Lib.hid (HB2.out.alloc HB2.out.size (.cells #[.string ⟨l.toArray⟩] 9))
        have HOC : Hid (∀ u ∈ [Value.string ⟨l.toArray⟩], u.oneCell' = true) := Lib.hid (one_str _)
        have h3' : (q == 3) = false := by simp [h3]
        go_wp2_with (at_builtin; refine wpList_append_sl _ rfl (.tmp 31) (.tmp 33) 22 rfl W1.heap.size 9 i0 _ 16 Tryd.underlying22 hi hz0 hz1 hz2 rfl (.slice V k lc) k (strsV ((partsX a ks).take k)) rfl O3.out (some ⟨w2.heap.size, 0, none⟩) 1 1 [.string ⟨l.toArray⟩] rfl rfl hsl.out HOC.out (by unfold maxLen; omega) (by omega) HB3.out.size ?_; intro v5 w5 hown5 hg5 hor5; have HMM := Lib.hid (fun i hi => HMR.out _ _ _ v5 i HX.out HB3.out hown5 hg5 hi); clear hown5 hg5 hor5)
        go_roundw
        case rel => exact HMM.out _ (by go_num)
        case measure => simp [intOf]; omega
    · have he : k = ks.length := by omega
      subst he
      have HBW := Lib.hid hbw
      have hown := HO.out
      rw [List.take_of_length_le (by rw [HLEN.out]; exact Nat.le_refl _)] at hown
      have HO2 := Lib.hid hown
      obtain ⟨ps, hps⟩ : ∃ ps, partsX a ks = ps := ⟨_, rfl⟩
      have HPS := Lib.hid hps
      have hlen := HLEN.out
      have hall := HALL.out
      have hwn := HWN.out
      rw [hps] at HO2 hlen hall
      have HJ : Hid (Calls Tryd.prog 22 #[.slice V ks.length lc, .string ⟨#[44]⟩] wr (Text (Lib.join ps [44]) wr)) := Lib.hid (by
        have hsl := Sl.of_own HO2.out
        rw [strsV_map] at hsl
        have hz : (⟨#[44]⟩ : ByteArray).size = 1 := rfl
        have h1 := total_bs ps
        have := specJoin_any V lc (ps.map bs) ⟨#[44]⟩ wr hsl (by rw [List.length_map, hlen]; exact hkl) (by rw [hz]; decide) (by rw [List.length_map, h1, hz]; omega)
        rw [List.length_map, hlen, jn_bs] at this
        exact this)
      have HJL : Hid ((Lib.join ps [44]).length ≤ 33554432) := Lib.hid (by have := join_le ps 44; omega)
      have HFC := Lib.hid (nodeV_cases HFA.out)
      have HTX2 : Hid (∀ (x : ByteArray) (w2 : World), x.data.toList = nodeX q z ps → Below wr.heap.size wr w2 → Text (nodeX q z (partsX a ks)) w (.returned (.string x)) w2) := Lib.hid (by
        intro x w2 hx hb2
        rw [HPS.out]
        exact text_ofS hx (HBW.out.trans (hb2.mono HBW.out.size)))
      clear hown hbw hps hlen hall hwn HO HB BK HO2 HPS
      have hfc := HFC.out
      rw [HQ.out, HZ.out] at hfc
      clear HFC
      rcases hfc with ⟨rfl, -⟩ | ⟨rfl, -, -, rfl | rfl⟩ | ⟨rfl, -⟩ | ⟨rfl, -⟩
      · have HC := Lib.hid (specFmtInt_any z HNO.out.1 HNO.out.2 wr)
        go_wp2_with fail
        refine HC.out.mono ?_
        rintro e w2 ⟨rfl, hb2⟩
        have HF := Lib.hid (HTX2.out ⟨(Lib.itoa z).toArray⟩ w2 (by simp [nodeX]) hb2)
        clear hb2 HC
        go_wp2_with fail
        go_ret
        exact HF.out
      · have HF := Lib.hid (HTX2.out ⟨#[35, 102]⟩ wr (by simp [nodeX]) (Below.refl _ _))
        go_wp2_with fail
        go_ret
        exact HF.out
      · have HF := Lib.hid (HTX2.out ⟨#[35, 116]⟩ wr (by simp [nodeX]) (Below.refl _ _))
        go_wp2_with fail
        go_ret
        exact HF.out
      all_goals
        obtain ⟨l, hl⟩ : ∃ l, Lib.join ps [44] = l := ⟨_, rfl⟩
        have hll := HJL.out
        have HC := Lib.hid HJ.out
        rw [hl] at HC hll
        have HL5 := Lib.hid hl
        clear hl HJ HJL
        have hls : (⟨l.toArray⟩ : ByteArray).size = l.length := rfl
        go_wp2_with fail
        refine HC.out.mono ?_
        rintro e w2 ⟨rfl, hb2⟩
        have HF := Lib.hid (fun (x : ByteArray) hx => HTX2.out x w2 hx hb2)
        have hn1 : (⟨#[123]⟩ ++ ⟨l.toArray⟩ : ByteArray).size = l.length + 1 := by rw [ByteArray.size_append, hls]; show 1 + _ = _; omega
        have hn2 : (⟨#[91]⟩ ++ ⟨l.toArray⟩ : ByteArray).size = l.length + 1 := by rw [ByteArray.size_append, hls]; show 1 + _ = _; omega
        clear hb2 HC
        go_wp2_with fail
        go_ret
        exact HF.out _ (by rw [← HL5.out]; simp [nodeX, HL5.out])

set_option maxHeartbeats 800000 in
theorem specFormatV_any (t : Va) (w : World) (cs : List Value) (h : RVa w t cs) (hw : wv t ≤ 1048576) : Calls Tryd.prog 5 #[.agg cs.toArray] w (Text (vtxB t) w) := by
  obtain ⟨c0, c1, c2, c3, rfl⟩ := h.four
  obtain ⟨W1, hW1⟩ : ∃ W1, w.alloc (.cells #[c0, c1, c2, c3] 30) = W1 := ⟨_, rfl⟩
  obtain ⟨H, hH⟩ : ∃ H, w.heap.size = H := ⟨_, rfl⟩
  have hbox : Box4 W1 H 30 c0 c1 c2 c3 := by rw [← hW1, ← hH]; exact Box4.new w _ _ _ _ _
  have hb0 : Below w.heap.size w W1 := by rw [← hW1]; exact (Below.refl _ _).alloc (Nat.le_refl _) _
  have HV := Lib.hid (specIsV_any t W1 _ (h.keep hb0) hw)
  have HT := Lib.hid (fun W (hB : Below w.heap.size w W) (hf : t.formV = true) => specTextV_any t W _ (h.keep hB) hf hw)
  have HW1 := Lib.hid hW1
  have B0 := Lib.hid hbox
  have HB0 := Lib.hid hb0
  have x0 := hbox.c0
  have x1 := hbox.c1
  have x2 := hbox.c2
  have x3 := hbox.c3
  clear h hw hW1 hbox hb0
  go_enter Tryd.func5, Tryd.ntmps5
  go_wp2_with fail
  rw [HW1.out]
  go_wp2_with fail
  refine HV.out.mono ?_
  rintro e w1 ⟨rfl, hb1⟩
  have HB1 := Lib.hid (HB0.out.trans (hb1.mono HB0.out.size))
  have b1 := B0.out.under hb1 B0.out.lt
  clear hb1 x0 x1 x2 x3
  have x0 := b1.c0
  have x1 := b1.c1
  have x2 := b1.c2
  have x3 := b1.c3
  clear b1
  cases hv : isvB t
  · have HR : Hid (Text (vtxB t) w (.returned (.string ⟨#[]⟩)) w1) := Lib.hid ⟨by unfold vtxB; rw [hv]; rfl, HB1.out⟩
    clear hv
    go_wp2_with fail
    go_ret
    exact HR.out
  · have hf : t.formV = true := by
      unfold isvB at hv
      simp only [Bool.and_eq_true] at hv
      exact hv.2
    have HC := Lib.hid (HT.out w1 HB1.out hf)
    have HE : Hid (vtxB t = t.vtx) := Lib.hid (by unfold vtxB; rw [hv]; rfl)
    clear hv hf
    go_wp2_with fail
    refine HC.out.mono ?_
    rintro e w2 ⟨rfl, hb2⟩
    have HR : Hid (Text (vtxB t) w (.returned (.string ⟨t.vtx.toArray⟩)) w2) := Lib.hid ⟨by rw [HE.out], HB1.out.trans (hb2.mono HB1.out.size)⟩
    clear hb2 HC
    go_wp2_with fail
    go_ret
    exact HR.out
end Go.Proofs.YtckoookgjhngkaaDoor
