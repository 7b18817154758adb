/-
  Merged by program: SchS, HasSp.
-/
import Derived.Test.YtlcpekpgkllbkaaGreatN18
import Derived.Test.YtlcpekpgkllbkaaGreatN15
import Derived.Test.YtlcpekpgkllbkaaGreatN16
import Derived.Test.YtlcpekpgkllbkaaGreatN2
import Derived.Test.YtlcpekpgkllbkaaGreatN25
import Derived.Test.YtlcpekpgkllbkaaGreatN23

/-
  The model's IsSchema.
-/
namespace Go.Proofs.YtlcpekpgkllbkaaGreat
open Go.RowKit

/-- what the loop keeps -/
def SchInv (xs : Sc) (w : World) (v i : Value) (wr : World) : Prop :=
  ∃ k : Nat, k ≤ xs.length ∧ i = .int .i64 (k : Int) ∧ wr.ownsRow w.heap.size 9 1 v k ((namesOf (xs.take k)).map Value.string) ∧ (xs.take k).all declB = true ∧ Below w.heap.size w wr
theorem dc_bounds {t : Sc} {k : Nat} (hk : k < t.length) (hw : wSc t ≤ 1048576) : t[k].1.size ≤ 1048576 ∧ wt t[k].2 ≤ 1048576 ∧ t.length ≤ 1048576 := by
  have h := wL_le (f := wDc) hk hw
  have h1 : wDc t[k] = t[k].1.size + wt t[k].2 := rfl
  omega

set_option maxRecDepth 100000 in
set_option maxHeartbeats 3200000 in
theorem specSch_any (t : Sc) (w : World) (cs : List Value) (h : RSc w t cs) (hw : wSc t ≤ 1048576) : Calls Tryz.prog 26 #[.agg cs.toArray] w (Truth (schB t) w) := by
  obtain ⟨A, d, rfl, hl, _, hp⟩ := h.open
  obtain ⟨i0, hi, hz0, hz1, hz2⟩ := info_parts infoStr
  have hlen : t.length ≤ 1048576 := Nat.le_trans (len_wSc t) hw
  obtain ⟨W1, hW1⟩ : ∃ W1, w.alloc (.cells #[.slice A t.length d] 26) = W1 := ⟨_, rfl⟩
  obtain ⟨W2, hW2⟩ : ∃ W2, W1.alloc (.cells #[] 9) = W2 := ⟨_, rfl⟩
  obtain ⟨H, hH⟩ : ∃ H, w.heap.size = H := ⟨_, rfl⟩
  have hbox : Box1 W1 H 26 (.slice A t.length d) := by rw [← hW1, ← hH]; exact Box1.new w _ _
  have hb1 : Below w.heap.size w W1 := by rw [← hW1]; exact (Below.refl _ _).alloc (Nat.le_refl _) _
  have hs1 : W1.heap.size = H + 1 := by rw [← hW1, ← hH]; simp
  have hb12 : Below W1.heap.size W1 W2 := by rw [← hW2]; exact (Below.refl _ _).alloc (Nat.le_refl _) _
  have ho2 : W2.ownsRow W1.heap.size 9 1 (.slice (some ⟨H + 1, 0, none⟩) 0 0) 0 [] := by
    rw [← hW2, ← hs1]
    exact World.ownsRow_made (base := W1.heap.size) (size := 1) (e := 9) W1 #[] 0 (Nat.le_refl _) (by unfold maxLen; omega) (by simp)
  have HBOX := Lib.hid (fun (W : World) (hB : Below W1.heap.size W1 W) => hbox.under hB hbox.lt)
  have HB1 := Lib.hid hb1
  have HP := Lib.hid (hp.keep hb1)
  have HW := Lib.hid hw
  have HW1 := Lib.hid hW1
  have HW2 := Lib.hid hW2
  have HS1 := Lib.hid hs1
  have HI0 : Hid (SchInv t W1 (.slice (some ⟨H + 1, 0, none⟩) 0 0) (.int .i64 0) W2) := Lib.hid ⟨0, Nat.zero_le _, rfl, by simpa [namesOf] using ho2, by simp, hb12⟩
  have x0 := (hbox.under hb12 hbox.lt).c0
  clear h hp hl hW1 hW2 hbox hb1 hs1 hb12 ho2 hw
  go_enter Tryz.func26, Tryz.ntmps26
  go_wp2_with fail
  rw [HW1.out, HW2.out]
  go_loopw [3, 4] (fun v i wr => SchInv t W1 v i wr) (fun _ i _ => t.length - (intOf i).toNat)
  case atStart => exact HI0.out
  case round =>
    obtain ⟨k, hk, rfl, hown, hall, hb⟩ := hrel
    obtain ⟨V, lc, rfl⟩ := own_shape hown
    have HO := Lib.hid hown
    have HB := Lib.hid hb
    have HALL := Lib.hid hall
    clear x0
    have x0 := (HBOX.out wr hb).c0
    by_cases hlt : k < t.length
    · obtain ⟨ad, p, c0, c1, c2, c3, rfl, hpe, hr, q0, q1, q2, q3⟩ := rl_at4 kDc_n HP.out hb hlt
      obtain ⟨tk, TL, TA, tl, tc, ta, td, hcs, hs, hy⟩ := kDc_open hr
      obtain ⟨hn1, hn2, _⟩ := dc_bounds hlt HW.out
      injection hcs with e0 hcs
      injection hcs with e1 hcs
      injection hcs with e2 hcs
      injection hcs with e3 hcs
      subst e0 e1 e2 e3
      have HN := Lib.hid (specName_any t[k].1 wr hn1)
      have HRW := Lib.hid (fun (W : World) (hB : Below wr.heap.size wr W) => specRow_any t[k].2 W _ (kTy.keep hy hB) hn2)
      have HNO : Hid (declB t[k] = false → schB t = false) := Lib.hid (fun h => sch_no hlt h)
      have HDB : Hid (declB t[k] = (nameB t[k].1 && rowB t[k].2)) := Lib.hid rfl
      have HBW : Hid (∀ W, Below wr.heap.size wr W → Below w.heap.size w W) := Lib.hid (fun W hB => (HB1.out.trans (hb.mono HB1.out.size)).trans (hB.mono (HB1.out.trans (hb.mono HB1.out.size)).size))
      have HMORE : Hid (declB t[k] = true → ∀ (W : World) (v' i : Value), Below wr.heap.size wr W → ∀ w5 : World, w5.ownsRow W1.heap.size 9 1 v' (k + 1) ((namesOf (t.take k)).map Value.string ++ [.string t[k].1]) → (W.alloc (.cells #[.string t[k].1] 9)).grownBy w5 (Value.slice V k lc).ownBlock → i = .int .i64 ((k + 1 : Nat) : Int) → SchInv t W1 v' i w5) := Lib.hid (by
        intro hd W v' i hB w5 ho hg hi
        refine ⟨k + 1, hlt, hi, by rw [namesOf_take t k hlt]; exact ho, all_take HALL.out hlt hd, ?_⟩
        have hb5 := (HB.out.trans (hB.mono HB.out.size)).alloc (HB.out.trans (hB.mono HB.out.size)).size (.cells #[.string t[k].1] 9)
        exact hb5.grown hg hb5.size (fun q hq => (HO.out.lt q hq).1))
      generalize t[k].2 = ty at HRW HDB
      generalize declB t[k] = dB at HNO HDB HMORE
      generalize t[k].1 = nm at HN HDB HMORE q0 hn1
      clear hr hcs hs hy hn2 hown hall hb hk
      cases hnb : nameB nm
      · have HF := Lib.hid (HNO.out (by rw [HDB.out, hnb]; rfl))
        rw [hnb] at HN
        have HR : Hid (Truth (schB t) w (.returned (.bool false)) wr) := Lib.hid ⟨by rw [HF.out], HBW.out wr (Below.refl _ _)⟩
        clear hnb HRW HMORE
        go_wp2_with (go_at_call 80; refine HN.out.mono ?_; rintro e W ⟨rfl, rfl⟩)
        go_ret
        exact HR.out
      · rw [hnb] at HN
        go_wp2_with (go_at_call 80; refine HN.out.mono ?_; rintro e W ⟨rfl, rfl⟩)
        refine (HRW.out wr (Below.refl _ _)).mono ?_
        rintro e w2 ⟨rfl, hb2⟩
        have HB2 := Lib.hid hb2
        have x2 := (HBOX.out w2 (HB.out.trans (hb2.mono HB.out.size))).c0
        have q02 := (hb2.cell (World.block_lt_of_cell? _ _ q0)).trans q0
        clear hb2 x0 q0 q1 q2 q3
        cases hrb : rowB ty
        · have HF := Lib.hid (HNO.out (by rw [HDB.out, hnb, hrb]; rfl))
          have HR : Hid (Truth (schB t) w (.returned (.bool false)) w2) := Lib.hid ⟨by rw [HF.out], HBW.out w2 HB2.out⟩
          clear hnb hrb HRW HMORE
          go_wp2_with fail
          go_ret
          exact HR.out
        · have HM := Lib.hid (HMORE.out (by rw [HDB.out, hnb, hrb]; rfl) w2)
          have hsl := Lib.hid (sl_one w2 (.string nm) 9)
          have O3 := Lib.hid ((own_below HO.out HB2.out).alloc (.cells #[.string nm] 9))
          have HS3 : Hid (W1.heap.size ≤ (w2.alloc (.cells #[.string nm] 9)).heap.size) := Lib.hid (by have h1 := HB.out.size; have h2 := HB2.out.size; simp; omega)
          have HOC : Hid (∀ u ∈ [Value.string nm], u.oneCell' = true) := Lib.hid (strs_oneCell [nm])
          clear hnb hrb HRW HMORE HNO HDB HN
          go_wp2_with (at_builtin; refine wpList_append_sl _ rfl (.tmp 31) (.tmp 38) 30 rfl W1.heap.size 9 i0 _ 16 Tryz.underlying30 hi hz0 hz1 hz2 rfl (.slice V k lc) k ((namesOf (t.take k)).map Value.string) rfl O3.out (some ⟨w2.heap.size, 0, none⟩) 1 1 [.string nm] rfl rfl hsl.out HOC.out (by unfold maxLen; omega) (by omega) HS3.out ?_; intro v5 w5 hown5 hg5 hor5; have HMM := Lib.hid (fun i hi => HM.out v5 i HB2.out w5 hown5 hg5 hi); clear hown5 hg5 hor5)
          go_roundw
          case rel => exact HMM.out _ (by go_num)
          case measure => simp [intOf]; omega
    · have he : k = t.length := by omega
      subst he
      have hlt : Hid (∀ W, Below wr.heap.size wr W → Below w.heap.size w W) := Lib.hid (fun W hB => (HB1.out.trans (hb.mono HB1.out.size)).trans (hB.mono (HB1.out.trans (hb.mono HB1.out.size)).size))
      have HE := Lib.hid (sch_all HALL.out)
      have hsl : Sl wr V ((namesOf t).map Value.string) := by
        have := Sl.of_own HO.out
        rwa [List.take_length] at this
      have hnl : (namesOf t).length = t.length := by simp [namesOf]
      have HAS := Lib.hid (hnl ▸ specAsc_any V lc (namesOf t) wr hsl (by rw [hnl]; omega))
      have HT : Hid (∀ b (n : Nat), b = (decide (t.length ≤ 4) && ascL (namesOf t)) → Truth (schB t) w (.returned (.bool b)) (wr.drewN n)) := Lib.hid (fun b n hb' => ⟨by rw [HE.out, hb'], hlt.out _ (below_drewN (Below.refl _ _) n)⟩)
      generalize ascL (namesOf t) = asc at HAS HT
      clear hown hall hb hsl hnl hk
      by_cases h4 : (t.length : Int) ≤ 4
      · have HR := Lib.hid (fun n => HT.out asc n (by rw [decide_eq_true (by omega)]; simp))
        go_wp2_with (go_at_call 82; refine HAS.out.mono ?_; rintro e W ⟨rfl, n, rfl⟩)
        go_ret
        exact HR.out n
      · have HR := Lib.hid (HT.out false 0 (by rw [decide_eq_false (by omega)]; rfl))
        go_wp2_with fail
        go_ret
        exact HR.out
end Go.Proofs.YtlcpekpgkllbkaaGreat

/-
  The model's HasType.
-/
namespace Go.Proofs.YtlcpekpgkllbkaaGreat
open Go.RowKit

set_option maxRecDepth 100000 in
set_option maxHeartbeats 1600000 in
theorem specHas_any (v : Va) (t : Ty) (w : World) (cs ds : List Value) (h : RVa w v cs) (h' : RTy w t ds) (hw : wt t ≤ 1048576) : Calls Tryz.prog 69 #[.agg cs.toArray, .agg ds.toArray] w (Truth (hasV v t) w) := by
  obtain ⟨c0, c1, c2, c3, rfl⟩ := h.four
  obtain ⟨d0, d1, d2, rfl, _⟩ := h'.three'
  obtain ⟨W1, hW1⟩ : ∃ W1, (w.alloc (.cells #[c0, c1, c2, c3] 33)).alloc (.cells #[d0, d1, d2] 48) = W1 := ⟨_, rfl⟩
  obtain ⟨H, hH⟩ : ∃ H, w.heap.size = H := ⟨_, rfl⟩
  have b0 : Box4 W1 H 33 c0 c1 c2 c3 := by rw [← hW1, ← hH]; exact (Box4.new w _ _ _ _ _).alloc _
  have b1 : Box3 W1 (H + 1) 48 d0 d1 d2 := by
    rw [← hW1, ← hH]
    have := Box3.new (w.alloc (.cells #[c0, c1, c2, c3] 33)) 48 d0 d1 d2
    simpa using this
  have hb1 : Below w.heap.size w W1 := by rw [← hW1]; exact ((Below.refl _ _).alloc (Nat.le_refl _) _).alloc (by simp) _
  have HC := Lib.hid (specData_any t W1 _ (h'.keep hb1) hw)
  have HL := Lib.hid (fun W (hB : Below w.heap.size w W) => l5Left_any v W _ 2000 (h.keep hB) (by decide) (by decide))
  have HH := Lib.hid (fun (hd : DatT t) W (hB : Below w.heap.size w W) => l5Has_any v t W _ _ hd (h.keep hB) (h'.keep hB))
  have HDT := Lib.hid (fun (hd : dataB t = true) => DatT.of hd)
  have hV : hasV v t = (dataB t && (decide (v.size ≤ 2000) && hasT t v)) := rfl
  obtain ⟨N, hN⟩ : ∃ N, hasV v t = N := ⟨_, rfl⟩
  rw [hN] at hV ⊢
  have HV := Lib.hid hV
  have HW1 := Lib.hid hW1
  have HB1 := Lib.hid hb1
  have B0 := Lib.hid b0
  have B1 := Lib.hid b1
  have x0 := b0.c0
  have x1 := b0.c1
  have x2 := b0.c2
  have x3 := b0.c3
  have y0 := b1.c0
  have y1 := b1.c1
  have y2 := b1.c2
  clear h h' hw b0 b1 hb1 hW1 hN hV
  go_enter Tryz.func69, Tryz.ntmps69
  go_wp2_with fail
  rw [HW1.out]
  go_wp2_with fail
  refine HC.out.mono ?_
  rintro e w1 ⟨rfl, hb⟩
  have HB2 := Lib.hid (HB1.out.trans (hb.mono HB1.out.size))
  have C0 := Lib.hid (B0.out.under hb B0.out.lt)
  have C1 := Lib.hid (B1.out.under hb B1.out.lt)
  clear x0 x1 x2 x3 y0 y1 y2 hb HC
  cases hd : dataB t
  · have HR : Hid (Truth N w (.returned (.bool false)) w1) := truth_iff (by rw [HV.out, hd]; rfl) HB2.out
    clear hd
    go_wp2_with fail
    go_ret
    exact HR.out
  · have HD := Lib.hid (HDT.out hd)
    have HV2 : Hid (N = (decide (v.size ≤ 2000) && hasT t v)) := by rw [hd] at HV; exact HV
    have HC := Lib.hid (HL.out w1 HB2.out)
    have x0 := C0.out.c0
    have x1 := C0.out.c1
    have x2 := C0.out.c2
    have x3 := C0.out.c3
    clear hd HV HL HDT
    go_wp2_with fail
    refine HC.out.mono ?_
    rintro e w2 ⟨r, rfl, r1, r2, r3, r4, hb⟩
    have HB3 := Lib.hid (HB2.out.trans (hb.mono HB2.out.size))
    have D0 := Lib.hid (C0.out.under hb C0.out.lt)
    have D1 := Lib.hid (C1.out.under hb C1.out.lt)
    clear x0 x1 x2 x3 hb HC
    by_cases hr : 0 ≤ r
    · have HV3 : Hid (N = hasT t v) := by
        show _ = _
        have := r3 hr
        rw [HV2.out, decide_eq_true (show v.size ≤ 2000 by omega), Bool.true_and]
      have HC := Lib.hid (HH.out HD.out w2 HB3.out)
      have x0 := D0.out.c0
      have x1 := D0.out.c1
      have x2 := D0.out.c2
      have x3 := D0.out.c3
      have y0 := D1.out.c0
      have y1 := D1.out.c1
      have y2 := D1.out.c2
      clear HV2 HH r3 r4
      go_wp2_with fail
      refine HC.out.mono ?_
      rintro e w3 ⟨rfl, hb⟩
      have HR : Hid (Truth N w (.returned (.bool (hasT t v))) w3) := truth_iff HV3.out (HB3.out.trans (hb.mono HB3.out.size))
      clear hb
      go_wp2_with fail
      go_ret
      exact HR.out
    · have HR : Hid (Truth N w (.returned (.bool false)) w2) := by
        have := r4 (by omega)
        exact truth_iff (by rw [HV2.out, decide_eq_false (show ¬ v.size ≤ 2000 by omega)]; rfl) HB3.out
      clear r3 r4
      go_wp2_with fail
      go_ret
      exact HR.out
end Go.Proofs.YtlcpekpgkllbkaaGreat
