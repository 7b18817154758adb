/-
  Merged by program: TxtS.
-/
import Derived.Test.YtkchjinfjggoeaaGreatDoorF11
import Derived.Test.YtkchjinfjggoeaaGreatDoorF12
import Derived.Test.YtkchjinfjggoeaaGreatDoorF14

/-
  The model's l4Text, FormatType.
-/
namespace Go.Proofs.YtkchjinfjggoeaaGreatDoor
open Go.RowKit

/-- what the form of a node says -/
theorem form_cases {a : TyA} {ks : List Ty} (h : formA a ks = true) : (a.kind = 3 ∧ ks.length = a.labels.length ∧ labB a.labels = true ∧ Tr.has 5 (.node a ks) = false) ∨
    (a.labels.length = 0 ∧ ((a.kind = 1 ∧ ks.length = 0) ∨ (a.kind = 2 ∧ ks.length = 0) ∨ (a.kind = 4 ∧ ks.length = 1 ∧ ks.any (Tr.has 5) = false) ∨ (a.kind = 5 ∧ ks.length = 2))) := by
  unfold formA at h
  split at h
  · rename_i h3
    simp only [Bool.and_eq_true, decide_eq_true_eq, Bool.not_eq_true'] at h
    exact .inl ⟨h3, h.1, h.2.1, h.2.2⟩
  · simp only [Bool.and_eq_true, decide_eq_true_eq, Bool.not_eq_true'] at h
    obtain ⟨h1, h2, h3⟩ := h
    refine .inr ⟨h2, ?_⟩
    unfold want at h3
    unfold bagFun at h1
    split at h3
    · exact .inl ⟨by assumption, by omega⟩
    · split at h3
      · exact .inr (.inl ⟨by assumption, by omega⟩)
      · split at h3
        · rename_i h4
          have h5 : ks.length = 1 := by omega
          simp [h4, h5] at h1
          refine .inr (.inr (.inl ⟨h4, h5, ?_⟩))
          rw [List.any_eq_false]
          intro x hx
          simp [h1 x hx]
        · split at h3
          · exact .inr (.inr (.inr ⟨by assumption, by omega⟩))
          · omega

theorem one_str (x : ByteArray) : ∀ u ∈ [Value.string x], u.oneCell' = true := strs_oneCell [x]
def strsV (ps : List (List UInt8)) : List Value := ps.map fun l => Value.string (bs l)
theorem strsV_map (ps : List (List UInt8)) : strsV ps = (ps.map bs).map Value.string := by simp [strsV]
theorem jn_bs (ps : List (List UInt8)) (c : UInt8) : jn (ps.map bs) ⟨#[c]⟩ = Lib.join ps [c] := by
  unfold jn
  rw [List.map_map]
  congr 1
  exact List.map_id _
/-- what the loop of l4Text keeps -/
def TxInv (a : TyA) (ks : List Ty) (W1 : World) (v i : Value) (wr : World) : Prop :=
  ∃ k : Nat, k ≤ ks.length ∧ i = .int .i64 k ∧ wr.ownsRow W1.heap.size 9 1 v k (strsV ((partsT a ks).take k)) ∧ Below W1.heap.size W1 wr
theorem txinv_more {a : TyA} {ks : List Ty} {W1 wr w2 w3 : World} {A' : Option Addr} {n c' : Nat} {v' i : Value} {x : ByteArray} (h1 : wr.ownsRow W1.heap.size 9 1 (.slice A' n c') n (strsV ((partsT a ks).take n))) (hlt : n < ks.length)
    (hx : x = bs (partT a n ks[n].txt)) (hb2 : Below W1.heap.size W1 w2) (hown : w3.ownsRow W1.heap.size 9 1 v' (n + 1) (strsV ((partsT a ks).take n) ++ [.string x])) (hg : w2.grownBy w3 (Value.slice A' n c').ownBlock) (hi : i = .int .i64 ((n + 1 : Nat) : Int)) :
    TxInv a ks W1 v' i w3 := by
  refine ⟨n + 1, hlt, hi, ?_, hb2.grown hg hb2.size (fun q hq => (h1.lt q hq).1)⟩
  rw [partsT_take a ks n hlt, strsV, List.map_append]
  subst hx
  exact hown
theorem lab_str (a : TyA) (k : Nat) (l : List UInt8) (h : k < a.labels.length) (h3 : a.kind = 3) : a.labels[k] ++ ⟨#[58]⟩ ++ bs l = bs (partT a k l) := by
  unfold partT
  rw [if_pos h3]
  apply ByteArray.ext
  apply Array.ext'
  simp [bs, List.getD, h]
theorem part_str (a : TyA) (k : Nat) (l : List UInt8) (h3 : a.kind ≠ 3) : bs l = bs (partT a k l) := by
  unfold partT
  rw [if_neg h3]
theorem form_kids {a : TyA} {ks : List Ty} (h : Tr.form (.node a ks) = true) : (∀ t ∈ ks, t.form = true) ∧ formA a ks = true := by
  rw [form_node, Bool.and_eq_true, List.all_eq_true] at h
  exact h

set_option maxHeartbeats 1600000 in
set_option maxRecDepth 100000 in
theorem specText_any : ∀ (t : Ty) (w : World) (cs : List Value), RTy w t cs → t.form = true → wt t ≤ 1048576 → Calls Tryz.prog 71 #[.agg cs.toArray] w (Text t.txt w) := by
  refine Tr.ind ?_
  intro a ks ih w cs h hf hw
  obtain ⟨L, c, A, d, rfl, k1, k2, k3, k4, k5, k6, hp⟩ := h.out
  obtain ⟨hfk, hfa⟩ := form_kids hf
  have hall := parts_all a ks
  have hwl := wt_labels hw
  obtain ⟨q, hq⟩ : ∃ q, a.kind = q := ⟨_, rfl⟩
  obtain ⟨i0, hi, hz0, hz1, hz2⟩ := info_parts infoStr
  rw [txt_node, hq]
  obtain ⟨W1, hW1⟩ : ∃ W1, w.alloc (.cells #[.int .i64 q, .slice L a.labels.length c, .slice A ks.length d] 27) = W1 := ⟨_, rfl⟩
  have hb0 : Below w.heap.size w W1 := by rw [← hW1]; exact (Below.refl _ _).alloc (Nat.le_refl _) _
  obtain ⟨H, hH⟩ : ∃ H, w.heap.size = H := ⟨_, rfl⟩
  have b0 : Box3 W1 H 27 (.int .i64 q) (.slice L a.labels.length c) (.slice A ks.length d) := by rw [← hW1, ← hH]; exact Box3.new w _ _ _ _
  have hkl : ks.length ≤ 1048576 := by rw [wt_node] at hw; unfold wtK at hw; omega
  have hlen := partsT_len a ks
  have hkw : ∀ t ∈ ks, wt t ≤ 1048576 := fun t ht => Nat.le_trans (kid_wt_le ht) hw
  have hst : TxInv a ks W1 (.slice (some ⟨W1.heap.size, 0, none⟩) 0 0) (.int .i64 0) (W1.alloc (.cells #[] 9)) :=
    ⟨0, Nat.zero_le _, rfl, World.ownsRow_made W1 #[] 0 (Nat.le_refl _) (by unfold maxLen; omega) rfl, (Below.refl _ _).alloc (Nat.le_refl _) _⟩
  have HP := Lib.hid hp
  have HI := Lib.hid (fun t ht w cs h => ih t ht w cs h (hfk t ht) (hkw t ht))
  have HH := Lib.hid hH
  have HB0 := Lib.hid hb0
  have B0 := Lib.hid b0
  have HW1 := Lib.hid hW1
  have HST := Lib.hid hst
  have HL := Lib.hid k1
  have HQ := Lib.hid hq
  have HFA := Lib.hid hfa
  have HALL := Lib.hid hall
  have HWL := Lib.hid hwl.2
  have HLEN := Lib.hid hlen
  have HTX := Lib.hid (fun t (ht : t ∈ ks) => Nat.le_trans (txt_le t) (Nat.add_le_add_right (Nat.mul_le_mul_left 4 (hkw t ht)) 2))
  have HWN := Lib.hid hw
  clear hp ih hb0 b0 hW1 hst k1 k5 h hq hfa hall hwl hlen hfk hf hkw hw
  go_enter Tryz.func71, Tryz.ntmps71
  go_wp2_with fail
  rw [HW1.out]
  go_loopw [3, 4, 5] (fun v i x wr => TxInv a ks W1 v i wr) (fun _ i _ _ => ks.length - (intOf i).toNat)
  case atStart =>
    have hn : H + 1 = W1.heap.size := by rw [← HW1.out]; simp [HH.out]
    rw [hn]
    exact HST.out
  case round =>
    obtain ⟨k, hk, rfl, hown, hb⟩ := hrel
    obtain ⟨V, lc, rfl⟩ := own_shape hown
    have hbw := HB0.out.trans (hb.mono HB0.out.size)
    have bk := B0.out.under hb B0.out.lt
    have hbx0 := bk.c0
    have hbx1 := bk.c1
    have hbx2 := bk.c2
    have HO := Lib.hid hown
    have HB := Lib.hid hb
    have BK := Lib.hid bk
    clear hown hb bk
    by_cases hlt : k < ks.length
    · obtain ⟨ad, p, c0, c1, c2, rfl, hpe, hr, q0, q1, q2⟩ := kid_at HP.out hbw hlt
      have HC := Lib.hid (HI.out ks[k] (List.getElem_mem hlt) wr [c0, c1, c2] hr)
      have htx := HTX.out ks[k] (List.getElem_mem hlt)
      have HMR : Hid (∀ (x : ByteArray) (w2 w3 : World) (v' i : Value), x = bs (partT a k ks[k].txt) → Below W1.heap.size W1 w2 → w3.ownsRow W1.heap.size 9 1 v' (k + 1) (strsV ((partsT a ks).take k) ++ [.string x]) → w2.grownBy w3 (Value.slice V k lc).ownBlock → i = .int .i64 ((k + 1 : Nat) : Int) → TxInv a ks W1 v' i w3) :=
        fun x w2 w3 v' i hx hb2 ho hg hi => txinv_more HO.out hlt hx hb2 ho hg hi
      obtain ⟨l, hl⟩ : ∃ l, ks[k].txt = l := ⟨_, rfl⟩
      rw [hl] at HC htx HMR
      clear hl hr hbw
      go_wp2_with fail
      refine HC.out.mono ?_
      rintro e w2 ⟨rfl, hb2⟩
      have HB2 := Lib.hid (HB.out.trans (hb2.mono HB.out.size))
      have B2 := Lib.hid (BK.out.under hb2 BK.out.lt)
      have O2 := Lib.hid (own_below HO.out hb2)
      have HL2 := Lib.hid (HL.out.below (HB0.out.trans (HB2.out.mono HB0.out.size)))
      have y0 := B2.out.c0
      have y1 := B2.out.c1
      have y2 := B2.out.c2
      have hls : (⟨l.toArray⟩ : ByteArray).size = l.length := rfl
      clear hb2 hbx0 hbx1 hbx2 HC
      by_cases h3 : q = 3
      · subst h3
        have hkl2 : k < a.labels.length := by
          rcases form_cases HFA.out with ⟨_, h2, _⟩ | ⟨_, h2⟩
          · omega
          · have := HQ.out; omega
        obtain ⟨ad2, rfl, hlab⟩ := HL2.out k (.string a.labels[k]) (by simp [hkl2])
        have hlz := HWL.out a.labels[k] (List.getElem_mem hkl2)
        have HX : Hid (a.labels[k] ++ ⟨#[58]⟩ ++ ⟨l.toArray⟩ = bs (partT a k l)) := lab_str a k l hkl2 HQ.out
        obtain ⟨lab, hlb⟩ : ∃ lab, a.labels[k] = lab := ⟨_, rfl⟩
        rw [hlb] at hlab hlz HX
        clear hlb
        have hsl := Lib.hid (sl_one w2 (.string (lab ++ ⟨#[58]⟩ ++ ⟨l.toArray⟩)) 9)
        have O3 := Lib.hid (O2.out.alloc (.cells #[.string (lab ++ ⟨#[58]⟩ ++ ⟨l.toArray⟩)] 9))
        have HB3 := Lib.hid (HB2.out.alloc HB2.out.size (.cells #[.string (lab ++ ⟨#[58]⟩ ++ ⟨l.toArray⟩)] 9))
        have HOC : Hid (∀ u ∈ [Value.string (lab ++ ⟨#[58]⟩ ++ ⟨l.toArray⟩)], u.oneCell' = true) := Lib.hid (one_str _)
        have hn1 : (lab ++ ⟨#[58]⟩ : ByteArray).size = lab.size + 1 := by rw [ByteArray.size_append]; rfl
        go_wp2_with (at_builtin; refine wpList_append_sl _ rfl (.tmp 31) (.tmp 33) 24 rfl W1.heap.size 9 i0 _ 16 Tryz.underlying24 hi hz0 hz1 hz2 rfl (.slice V k lc) k (strsV ((partsT a ks).take k)) rfl O3.out (some ⟨w2.heap.size, 0, none⟩) 1 1 [.string (lab ++ ⟨#[58]⟩ ++ ⟨l.toArray⟩)] rfl rfl hsl.out HOC.out (by unfold maxLen; omega) (by omega) HB3.out.size ?_; intro v5 w5 hown5 hg5 hor5; have HMM := Lib.hid (fun i hi => HMR.out _ _ _ v5 i HX.out HB3.out hown5 hg5 hi); clear hown5 hg5 hor5)
        go_roundw
        case rel => exact HMM.out _ (by go_num)
        case measure => simp [intOf]; omega
      · have HX : Hid ((⟨l.toArray⟩ : ByteArray) = bs (partT a k l)) := part_str a k l (by rw [HQ.out]; exact h3)
        have hsl := Lib.hid (sl_one w2 (.string ⟨l.toArray⟩) 9)
        have O3 := Lib.hid (O2.out.alloc (.cells #[.string ⟨l.toArray⟩] 9))
        have HB3 := Lib.hid (HB2.out.alloc HB2.out.size (.cells #[.string ⟨l.toArray⟩] 9))
        have HOC : Hid (∀ u ∈ [Value.string ⟨l.toArray⟩], u.oneCell' = true) := Lib.hid (one_str _)
        have h3' : (q == 3) = false := by simp [h3]
        go_wp2_with (at_builtin; refine wpList_append_sl _ rfl (.tmp 31) (.tmp 33) 24 rfl W1.heap.size 9 i0 _ 16 Tryz.underlying24 hi hz0 hz1 hz2 rfl (.slice V k lc) k (strsV ((partsT a ks).take k)) rfl O3.out (some ⟨w2.heap.size, 0, none⟩) 1 1 [.string ⟨l.toArray⟩] rfl rfl hsl.out HOC.out (by unfold maxLen; omega) (by omega) HB3.out.size ?_; intro v5 w5 hown5 hg5 hor5; have HMM := Lib.hid (fun i hi => HMR.out _ _ _ v5 i HX.out HB3.out hown5 hg5 hi); clear hown5 hg5 hor5)
        go_roundw
        case rel => exact HMM.out _ (by go_num)
        case measure => simp [intOf]; omega
    · have he : k = ks.length := by omega
      subst he
      have HBW := Lib.hid hbw
      have hown := HO.out
      rw [List.take_of_length_le (by rw [HLEN.out]; exact Nat.le_refl _)] at hown
      have HO2 := Lib.hid hown
      obtain ⟨ps, hps⟩ : ∃ ps, partsT a ks = ps := ⟨_, rfl⟩
      have HPS := Lib.hid hps
      have hlen := HLEN.out
      have hall := HALL.out
      have hwn := HWN.out
      rw [hps] at HO2 hlen hall ⊢
      have HJ : Hid (∀ c : UInt8, Calls Tryz.prog 70 #[.slice V ks.length lc, .string ⟨#[c]⟩] wr (Text (Lib.join ps [c]) wr)) := Lib.hid (by
        intro c
        have hsl := Sl.of_own HO2.out
        rw [strsV_map] at hsl
        have hz : (⟨#[c]⟩ : ByteArray).size = 1 := rfl
        have h1 := total_bs ps
        have := specJoin_any V lc (ps.map bs) ⟨#[c]⟩ wr hsl (by rw [List.length_map, hlen]; exact hkl) (by rw [hz]; decide) (by rw [List.length_map, h1, hz]; omega)
        rw [List.length_map, hlen, jn_bs] at this
        exact this)
      have HJL : Hid (∀ c : UInt8, (Lib.join ps [c]).length ≤ 4194304) := Lib.hid (fun c => by have := join_le ps c; omega)
      have HP0 : Hid (∀ l, ps = [l] → l.length ≤ 4194304) := Lib.hid (fun l e => by subst e; simp [lenS] at hall; omega)
      have HLN := Lib.hid hlen
      have HFC := Lib.hid (form_cases HFA.out)
      clear hown hbw hps hlen hall hwn HO HB BK
      have hfc := HFC.out
      rw [HQ.out] at hfc
      rcases hfc with ⟨rfl, -⟩ | ⟨-, ⟨rfl, -⟩ | ⟨rfl, -⟩ | ⟨rfl, hk1, -⟩ | ⟨rfl, -⟩⟩
      · have HC := Lib.hid (HJ.out 44)
        have HRR : Hid (∀ l w2, Lib.join ps [44] = l → Below wr.heap.size wr w2 → Text (nodeT 3 ps) w (.returned (.string (⟨#[123]⟩ ++ ⟨l.toArray⟩ ++ ⟨#[125]⟩))) w2) := Lib.hid (by
          intro l w2 hl hb2
          refine ⟨?_, HBW.out.trans (hb2.mono HBW.out.size)⟩
          congr 2
          apply ByteArray.ext
          apply Array.ext'
          simp [nodeT, hl])
        obtain ⟨l, hl⟩ : ∃ l, Lib.join ps [44] = l := ⟨_, rfl⟩
        have hll := HJL.out 44
        rw [hl] at HC hll
        have HL5 := Lib.hid hl
        clear hl
        have hls : (⟨l.toArray⟩ : ByteArray).size = l.length := rfl
        go_wp2_with fail
        refine HC.out.mono ?_
        rintro e w2 ⟨rfl, hb2⟩
        have HF := Lib.hid (HRR.out l w2 HL5.out hb2)
        have hn1 : (⟨#[123]⟩ ++ ⟨l.toArray⟩ : ByteArray).size = l.length + 1 := by rw [ByteArray.size_append, hls]; show 1 + _ = _; omega
        clear hb2 HC
        go_wp2_with fail
        go_ret
        rw [HPS.out]
        exact HF.out
      · have HF : Hid (Text (nodeT 1 ps) w (.returned (.string ⟨#[73]⟩)) wr) := Lib.hid ⟨by simp [nodeT], HBW.out⟩
        go_wp2_with fail
        go_ret
        rw [HPS.out]
        exact HF.out
      · have HF : Hid (Text (nodeT 2 ps) w (.returned (.string ⟨#[66]⟩)) wr) := Lib.hid ⟨by simp [nodeT], HBW.out⟩
        go_wp2_with fail
        go_ret
        rw [HPS.out]
        exact HF.out
      · obtain ⟨l, rfl⟩ : ∃ l, ps = [l] := by
          have := HLN.out
          rw [hk1] at this
          exact List.length_eq_one_iff.1 this
        have hk0 : 0 < ks.length := by omega
        clear hk1
        obtain ⟨ad, rfl, hc0⟩ := Sl.of_own HO2.out 0 (.string ⟨l.toArray⟩) rfl
        have hc1 : wr.cell? ad = some (.string ⟨l.toArray⟩) := hc0
        have hll := HP0.out l rfl
        have hls : (⟨l.toArray⟩ : ByteArray).size = l.length := rfl
        have hn1 : (⟨#[91]⟩ ++ ⟨l.toArray⟩ : ByteArray).size = l.length + 1 := by rw [ByteArray.size_append, hls]; show 1 + _ = _; omega
        have HF : Hid (Text (nodeT 4 [l]) w (.returned (.string (⟨#[91]⟩ ++ ⟨l.toArray⟩ ++ ⟨#[93]⟩))) wr) := Lib.hid (by
          refine ⟨?_, HBW.out⟩
          congr 2)
        go_wp2_with fail
        go_ret
        rw [HPS.out]
        exact HF.out
      · have HC := Lib.hid (HJ.out 62)
        have HRR : Hid (∀ l w2, Lib.join ps [62] = l → Below wr.heap.size wr w2 → Text (nodeT 5 ps) w (.returned (.string (⟨#[40]⟩ ++ ⟨l.toArray⟩ ++ ⟨#[41]⟩))) w2) := Lib.hid (by
          intro l w2 hl hb2
          refine ⟨?_, HBW.out.trans (hb2.mono HBW.out.size)⟩
          congr 2
          apply ByteArray.ext
          apply Array.ext'
          simp [nodeT, hl])
        obtain ⟨l, hl⟩ : ∃ l, Lib.join ps [62] = l := ⟨_, rfl⟩
        have hll := HJL.out 62
        rw [hl] at HC hll
        have HL5 := Lib.hid hl
        clear hl
        have hls : (⟨l.toArray⟩ : ByteArray).size = l.length := rfl
        go_wp2_with fail
        refine HC.out.mono ?_
        rintro e w2 ⟨rfl, hb2⟩
        have HF := Lib.hid (HRR.out l w2 HL5.out hb2)
        have hn1 : (⟨#[40]⟩ ++ ⟨l.toArray⟩ : ByteArray).size = l.length + 1 := by rw [ByteArray.size_append, hls]; show 1 + _ = _; omega
        clear hb2 HC
        go_wp2_with fail
        go_ret
        rw [HPS.out]
        exact HF.out

end Go.Proofs.YtkchjinfjggoeaaGreatDoor
