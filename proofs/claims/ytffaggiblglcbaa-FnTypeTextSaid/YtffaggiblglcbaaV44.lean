/-
  Merged by program: TyBent.
-/
import Derived.Test.YtffaggiblglcbaaV43

/-
  The model's l3Bent: a drawn type, bent now and then.
-/
namespace Go.Proofs.Ytffaggiblglcbaa
open Go.RowKit

def BagsInv (b : Nat) (w : World) (H G N : Nat) (i : Value) (wr : World) : Prop := ∃ (k : Nat) (t : Ty) (fp : List Nat) (q : Int) (L A : Option Addr) (n c m d : Nat), k ≤ N ∧ i = .int .i64 k ∧ BS b (396 + k) w H G t fp q L A n c m d wr
def IntEq (w : World) (e : Ending) (w' : World) : Prop := e = .returned (.agg #[.int .i64 1, .slice none 0 0, .slice none 0 0]) ∧ Below w.heap.size w w'
theorem l3Int_eq (w : World) : Calls Try.prog 47 #[] w (IntEq w) := by
  have hR : ∀ U, (w.alloc (.cells #[.int .i64 1, .slice none 0 0, .slice none 0 0] 27)) = U → IntEq w (.returned (.agg #[.int .i64 1, .slice none 0 0, .slice none 0 0])) U := by
    rintro U rfl
    exact ⟨rfl, (Below.refl _ _).alloc (Nat.le_refl _) _⟩
  have HR := Lib.hid hR
  clear hR
  go_enter Try.func47, Try.ntmps47
  go_wp2_with fail
  have hb := Box3.new w 27 (.int .i64 1) (.slice none 0 0) (.slice none 0 0)
  have t0 := hb.c0
  have t1 := hb.c1
  have t2 := hb.c2
  clear hb
  exact bodyPost_ret (v := .agg #[.int .i64 1, .slice none 0 0, .slice none 0 0]) (by simp [results, Try.results47, go_sem, t0, t1, t2]) rfl (HR.out _ rfl)

set_option maxHeartbeats 4000000 in
set_option maxRecDepth 100000 in
theorem l3Bent_any (b : Nat) (w : World) (hcur : Cur w b) : Calls Try.prog 20 #[.pointer (some ⟨b, 0, none⟩)] w (DrawTy b 1000 w) := by
  obtain ⟨W1, hW1⟩ : ∃ W1, w.alloc (.cells #[.int .i64 0, .slice none 0 0, .slice none 0 0] 27) = W1 := ⟨_, rfl⟩
  obtain ⟨H, hH⟩ : ∃ H, w.heap.size = H := ⟨_, rfl⟩
  have b0 : Box3 W1 H 27 (.int .i64 0) (.slice none 0 0) (.slice none 0 0) := by rw [← hW1, ← hH]; exact Box3.new w _ _ _ _
  have hb1 : Below w.heap.size w W1 := by rw [← hW1]; exact (Below.refl _ _).alloc (Nat.le_refl _) _
  have hz : W1.heap.size = H + 1 := by rw [← hW1, ← hH]; simp
  have hD := l3Draw_any b 3 (by decide) W1 (hcur.below hb1)
  have HZ := Lib.hid hz
  have HB0 := Lib.hid b0
  have HB1 := Lib.hid hb1
  have HBL := Lib.hid hcur.lt
  have HD := Lib.hid hD
  have HW1 := Lib.hid hW1
  clear b0 hb1 hcur hW1 hz hD
  go_enter Try.func20, Try.ntmps20
  go_wp2_with fail
  rw [HW1.out]
  refine HD.out.mono ?_
  rintro e w2 ⟨t, L, A, c, d, fp, rfl, hot, hfp, hwt, hc2, hg2⟩
  generalize hq : t.top.kind = q at hot ⊢
  generalize hn : t.top.labels.length = n at hot ⊢
  generalize hm : t.kids.length = m at hot ⊢
  obtain ⟨W3, hW3⟩ : ∃ W3, w2.alloc (.cells #[.int .i64 q, .slice L n c, .slice A m d] 27) = W3 := ⟨_, rfl⟩
  obtain ⟨G, hG⟩ : ∃ G, w2.heap.size = G := ⟨_, rfl⟩
  have hb3 : Below w2.heap.size w2 W3 := by rw [← hW3]; exact (Below.refl _ _).alloc (Nat.le_refl _) _
  have hz3 : W3.heap.size = G + 1 := by rw [← hW3, ← hG]; simp
  have hbl := HBL.out
  have hzz := HZ.out
  have hs2 := hg2.size
  have hbs : BS b 396 w H G t fp q L A n c m d W3 := by
    refine ⟨by rw [← hW3, ← hG]; exact Box3.new w2 _ _ _ _, (HB0.out.grown hg2 (fun e => by injection e with e; omega)).under hb3 ?_, hot.under hb3, fun x hx => ?_, hwt, hc2.below hb3, grown_trans_row (grown_trans_row (grown_of_below HB1.out) hg2) (grown_of_below hb3), hbl, hH, by omega⟩
    · omega
    · have := hfp x hx
      omega
  have hy := l1Below_any b 10 W3 (hc2.below hb3) (by omega) (by omega)
  have HY := Lib.hid hy
  have HBS3 := Lib.hid hbs
  have HW3 := Lib.hid hW3
  have HNL := Lib.hid hn
  have HNM := Lib.hid hm
  have hnb : n ≤ 396 := by
    have h := hbs.wb
    obtain ⟨a, ks⟩ := t
    rw [wt_node] at h
    have e : a.labels.length = n := hn
    unfold wtA at h
    omega
  have hmb : m ≤ 396 := by
    have h := hbs.wb
    obtain ⟨a, ks⟩ := t
    rw [wt_node] at h
    have e : ks.length = m := hm
    unfold wtK at h
    omega
  clear hot hfp hwt hc2 hg2 hbs hy hb3 hz3 hW3 HD hq hn hm HB0 HB1
  go_wp2_with fail
  rw [HW3.out]
  refine HY.out.mono ?_
  rintro e w4 ⟨y, rfl, hy0, hy1, hc4, hg4⟩
  have HBS := Lib.hid (HBS3.out.keep hg4 (.inr rfl) hc4)
  have g0 := HBS.out.box.c0
  have g1 := HBS.out.box.c1
  have g2 := HBS.out.box.c2
  have f0 := HBS.out.box.free 0
  have f1 := HBS.out.box.free 1
  have f2 := HBS.out.box.free 2
  have r0 := HBS.out.res.c0
  have r1 := HBS.out.res.c1
  have r2 := HBS.out.res.c2
  have s0 := HBS.out.res.free 0
  have s1 := HBS.out.res.free 1
  have s2 := HBS.out.res.free 2
  have hHG : H ≠ G := by have := HBS.out.num; omega
  have hGH : G ≠ H := by omega
  clear hc4 hg4 HY HBS3
  go_wp2_with fail
  · refine (l1Below_any b 7 w4 HBS.out.cur (by omega) (by omega)).mono ?_
    rintro e w5 ⟨k, rfl, hk0, hk1, hc5, hg5⟩
    have HBS5 := Lib.hid (HBS.out.keep hg5 (.inr rfl) hc5)
    have HBK := Lib.hid (HBS5.out.kind (k := k) (by omega) (by omega))
    clear hc5 hg5 g0 g1 g2 f0 f1 f2 r0 r1 r2 s0 s1 s2
    have g0 := HBS5.out.box.c0
    have f0 := HBS5.out.box.free 0
    have r0 := HBS5.out.res.c0
    have s0 := HBS5.out.res.free 0
    have g1 := HBS5.out.box.c1
    have f1 := HBS5.out.box.free 1
    have r1 := HBS5.out.res.c1
    have s1 := HBS5.out.res.free 1
    have g2 := HBS5.out.box.c2
    have f2 := HBS5.out.box.free 2
    have r2 := HBS5.out.res.c2
    have s2 := HBS5.out.res.free 2
    have HDN := Lib.hid ((HBK.out.more (B' := 1000) (by decide)).done)
    obtain ⟨U, hU⟩ : ∃ U, (((w5.setCell ⟨G, 0, none⟩ (.int .i64 k)).setCell ⟨H, 0, none⟩ (.int .i64 k)).setCell ⟨H, 1, none⟩ (.slice L n c)).setCell ⟨H, 2, none⟩ (.slice A m d) = U := ⟨_, rfl⟩
    have hdn := HDN.out
    rw [hU] at hdn
    have t0 := hdn.1.c0
    have t1 := hdn.1.c1
    have t2 := hdn.1.c2
    have HRR := Lib.hid hdn.2
    have HU := Lib.hid hU
    clear hdn HDN hU
    go_wp2_with fail
    rw [HU.out]
    exact bodyPost_ret (v := .agg #[.int .i64 k, .slice L n c, .slice A m d]) (by simp [results, Try.results20, go_sem, t0, t1, t2]) rfl HRR.out
  · obtain ⟨i0, hi, hz0, hz1, hz2⟩ := info_parts infoStr
    have hv0 : Below w4.heap.size w4 w4.drew := (Below.refl _ _).drew
    have HV := Lib.hid (HBS.out.under hv0)
    have hxb : ∀ x ∈ ([⟨#[97]⟩, ⟨#[122]⟩, ⟨#[105, 102]⟩] : List ByteArray), x.size ≤ 4 := by decide
    have HXB := Lib.hid hxb
    have m1 := World.new_ne w4 _ g1
    have k0 := (HBS.out.under (w2 := w4.alloc (.cells #[.string ⟨#[97]⟩, .string ⟨#[122]⟩, .string ⟨#[105, 102]⟩] 9)) ((Below.refl _ _).alloc (Nat.le_refl _) _)).box.c1
    clear hv0 hxb
    go_region_law (first
      | (go_simp; refine (l1Pick_new b [⟨#[97]⟩, ⟨#[122]⟩, ⟨#[105, 102]⟩] w4.drew HV.out.cur (by decide) (by decide)).mono ?_; rintro e w5 ⟨x, hx, rfl, hc5, hg5⟩; have HBS5 := Lib.hid (HV.out.keep hg5 (.inr rfl) hc5); have hx4 := HXB.out x hx; have e1 := HBS5.out.box.c1; have k1 := World.new_ne w5 _ e1; have HBS6 := Lib.hid (HBS5.out.under (w2 := w5.alloc (.cells #[.string x] 9)) ((Below.refl _ _).alloc (Nat.le_refl _) _)); have HNW := Lib.hid (cell_one_new w5 (.string x) 9); have k2 := HBS6.out.box.c1; clear hc5 hg5 hx)
      | (refine step_append_at (by rfl) (.tmp 18) (.tmp 22) 24 (by rfl) 0 9 i0 _ 1 16 Try.underlying24 hi hz0 hz1 hz2 (by rfl) (by omega) (.slice L n c) n (t.top.labels.map Value.string) (by rfl) (by obtain ⟨_, _, _, h, _⟩ := HBS6.out.rows; exact h) ⟨w5.heap.size, 0, none⟩ 1 1 [.string x] (by rfl) (by rfl) HNW.out (strs_oneCell [x]) (by unfold maxLen; omega) (by omega) (Nat.zero_le _) ?_; intro L7 c7 w7 hown7 hgr7 hor7; obtain ⟨gp, hb7⟩ := HBS6.out.label hx4 (by omega) rfl hown7 hgr7 hor7; have HBS7 := Lib.hid hb7; have hbx := HBS6.out.boxes (.inl rfl) hgr7; have g0' := hbx.1.c0; have g1' := hbx.1.c1; have g2' := hbx.1.c2; have f0' := hbx.1.free 0; have f1' := hbx.1.free 1; have f2' := hbx.1.free 2; have r0' := hbx.2.c0; have r1' := hbx.2.c1; have r2' := hbx.2.c2; have s0' := hbx.2.free 0; have s1' := hbx.2.free 1; have s2' := hbx.2.free 2; clear hb7 hown7 hgr7 hor7 hbx))
    all_goals
      have HDN := Lib.hid ((HBS7.out.more (B' := 1000) (by decide)).done)
      obtain ⟨U, hU⟩ : ∃ U, (((w7.setCell ⟨G, 1, none⟩ (.slice L7 (n + 1) c7)).setCell ⟨H, 0, none⟩ (.int .i64 q)).setCell ⟨H, 1, none⟩ (.slice L7 (n + 1) c7)).setCell ⟨H, 2, none⟩ (.slice A m d) = U := ⟨_, rfl⟩
      have hdn := HDN.out
      rw [hU] at hdn
      have t0 := hdn.1.c0
      have t1 := hdn.1.c1
      have t2 := hdn.1.c2
      have HRR := Lib.hid hdn.2
      have HU := Lib.hid hU
      clear hdn HDN hU
      go_wp2_with fail
      rw [HU.out]
      exact bodyPost_ret (v := .agg #[.int .i64 q, .slice L7 (n + 1) c7, .slice A m d]) (by simp [results, Try.results20, go_sem, t0, t1, t2]) rfl HRR.out
  · obtain ⟨i1, hi1, hy0, hy1, hy2⟩ := info_parts infoTy
    have hv0 : Below w4.heap.size w4 w4.drew := (Below.refl _ _).drew
    have HV := Lib.hid (HBS.out.under hv0)
    have m2 := World.new_ne w4 _ g2
    clear hv0
    go_region_law (first
      | (go_simp; refine (l3Int_eq w4.drew).mono ?_; rintro e w5 ⟨rfl, hb5⟩; have HBS5 := Lib.hid (HV.out.under hb5); have e2 := HBS5.out.box.c2; have k2 := World.new_ne w5 _ e2; have HBS6 := Lib.hid (HBS5.out.under (w2 := w5.alloc (.cells #[.int .i64 1, .slice none 0 0, .slice none 0 0] 27)) ((Below.refl _ _).alloc (Nat.le_refl _) _)); have k3 := HBS6.out.box.c2; have HNW := Lib.hid (news3 w5 (.int .i64 1) (.slice none 0 0) (.slice none 0 0) 27); obtain ⟨ys, fs, hf, _, hrow, hkids, hyl⟩ := HBS6.out.rows; have HROW := Lib.hid hrow; have HKF : Hid (∃ fs, fp = blk L ++ blk A ++ (List.range t.kids.length).flatMap fs ∧ ∀ j s, t.kids[j]? = some s → OTy (w5.alloc (.cells #[.int .i64 1, .slice none 0 0, .slice none 0 0] 27)) s (part3 ys j) (fs j)) := ⟨fs, hf, hkids⟩; have HYL := Lib.hid hyl; clear hb5 hf hrow hkids hyl)
      | (refine step_append_at (by rfl) (.tmp 28) (.tmp 30) 25 (by rfl) 0 27 i1 _ 3 56 Try.underlying25 hi1 hy0 hy1 hy2 (by rfl) (by omega) (.slice A m d) m ys (by rfl) HROW.out ⟨w5.heap.size, 0, none⟩ 1 1 [.int .i64 1, .slice none 0 0, .slice none 0 0] (by rfl) (by rfl) HNW.out (one3 _ _ _ _ _ _ _) (by unfold maxLen; omega) (by omega) (Nat.zero_le _) ?_; intro A7 d7 w7 hown7 hgr7 hor7; obtain ⟨gp, hb7⟩ := HBS6.out.part (by omega) (p := 1) (by decide) (by decide) HKF.out HYL.out hown7 hgr7 hor7; have HBS7 := Lib.hid hb7; have hbx := HBS6.out.boxes (.inr rfl) hgr7; have g0' := hbx.1.c0; have g1' := hbx.1.c1; have g2' := hbx.1.c2; have f0' := hbx.1.free 0; have f1' := hbx.1.free 1; have f2' := hbx.1.free 2; have r0' := hbx.2.c0; have r1' := hbx.2.c1; have r2' := hbx.2.c2; have s0' := hbx.2.free 0; have s1' := hbx.2.free 1; have s2' := hbx.2.free 2; clear hb7 hown7 hgr7 hor7 hbx))
    all_goals
      have HDN := Lib.hid ((HBS7.out.more (B' := 1000) (by decide)).done)
      obtain ⟨U, hU⟩ : ∃ U, (((w7.setCell ⟨G, 2, none⟩ (.slice A7 (m + 1) d7)).setCell ⟨H, 0, none⟩ (.int .i64 q)).setCell ⟨H, 1, none⟩ (.slice L n c)).setCell ⟨H, 2, none⟩ (.slice A7 (m + 1) d7) = U := ⟨_, rfl⟩
      have hdn := HDN.out
      rw [hU] at hdn
      have t0 := hdn.1.c0
      have t1 := hdn.1.c1
      have t2 := hdn.1.c2
      have HRR := Lib.hid hdn.2
      have HU := Lib.hid hU
      clear hdn HDN hU
      go_wp2_with fail
      rw [HU.out]
      exact bodyPost_ret (v := .agg #[.int .i64 q, .slice L n c, .slice A7 (m + 1) d7]) (by simp [results, Try.results20, go_sem, t0, t1, t2]) rfl HRR.out
  · have hv0 : Below w4.heap.size w4 w4.drew := (Below.refl _ _).drew
    have HV := Lib.hid (HBS.out.under hv0)
    have HDR := Lib.hid (l3Draw_any b 1 (by decide) w4.drew HV.out.cur)
    clear hv0
    go_region_law (go_simp; (first
      | (refine HC.out.mono ?_; rintro e w6 hmade; obtain ⟨L6, A6, c6, d6, gp6, rfl, hbx, hrs, hb6⟩ := HBS5.out.newQ hmade (B' := 900) HWF.out (q' := 5) (n' := 0) (m' := 2) rfl rfl rfl; have HBS7 := Lib.hid hb6; have g0' := hbx.c0; have g1' := hbx.c1; have g2' := hbx.c2; have f0' := hbx.free 0; have f1' := hbx.free 1; have f2' := hbx.free 2; have r0' := hrs.c0; have r1' := hrs.c1; have r2' := hrs.c2; have s0' := hrs.free 0; have s1' := hrs.free 1; have s2' := hrs.free 2; clear hmade hbx hrs hb6 HC)
      | (refine HDR.out.mono ?_; rintro e w5 ⟨s, LS, AS, cS, dS, sp, rfl, hos, hfs, hws, hc5, hg5⟩; have HBS5 := Lib.hid (HV.out.keep hg5 (.inr rfl) hc5); have e0 := HBS5.out.box.c0; have e1 := HBS5.out.box.c1; have e2 := HBS5.out.box.c2; have hwtt := HBS5.out.wb; have HC := Lib.hid (l3Fun_any t s w5 _ _ HBS5.out.own.reads hos.reads (by omega) (Nat.le_trans hws (by decide))); have HWF : Hid (wt (.node ⟨5, []⟩ [t, s]) ≤ 900) := Lib.hid (by rw [wt_node]; have h1 : wt s ≤ 84 := hws; show 0 + total [] + (2 + ([t, s].map wt).sum) ≤ 900; simp [total]; omega); generalize s.top.kind = sq at HC ⊢; generalize s.top.labels.length = sn at HC ⊢; generalize s.kids.length = sm at HC ⊢; clear hos hfs hws hc5 hg5 hwtt)))
    all_goals
      have HDN := Lib.hid ((HBS7.out.more (B' := 1000) (by decide)).done)
      obtain ⟨U, hU⟩ : ∃ U, (((((w6.setCell ⟨G, 0, none⟩ (.int .i64 5)).setCell ⟨G, 1, none⟩ (.slice L6 0 c6)).setCell ⟨G, 2, none⟩ (.slice A6 2 d6)).setCell ⟨H, 0, none⟩ (.int .i64 5)).setCell ⟨H, 1, none⟩ (.slice L6 0 c6)).setCell ⟨H, 2, none⟩ (.slice A6 2 d6) = U := ⟨_, rfl⟩
      have hdn := HDN.out
      rw [hU] at hdn
      have t0 := hdn.1.c0
      have t1 := hdn.1.c1
      have t2 := hdn.1.c2
      have HRR := Lib.hid hdn.2
      have HU := Lib.hid hU
      clear hdn HDN hU
      go_wp2_with fail
      rw [HU.out]
      exact bodyPost_ret (v := .agg #[.int .i64 5, .slice L6 0 c6, .slice A6 2 d6]) (by simp [results, Try.results20, go_sem, t0, t1, t2]) rfl HRR.out
  · refine (l1Below_any b 5 w4 HBS.out.cur (by omega) (by omega)).mono ?_
    rintro e w5 ⟨x, rfl, hx0, hx1, hc5, hg5⟩
    obtain ⟨N, rfl⟩ : ∃ N : Nat, x = (N : Int) := ⟨x.toNat, by omega⟩
    have HBS5 := Lib.hid (HBS.out.keep hg5 (.inr rfl) hc5)
    clear hc5 hg5 g0 g1 g2 f0 f1 f2 r0 r1 r2 s0 s1 s2
    go_wp2_with fail
    go_loopw [5] (fun i wr => BagsInv b w H G (1 + N) i wr) (fun i _ => 1 + N - (intOf i).toNat)
    case atStart => exact ⟨0, _, _, _, _, _, _, _, _, _, Nat.zero_le _, rfl, HBS5.out⟩
    case round =>
      obtain ⟨k, t', fp', q', L', A', n', c', m', d', hk, rfl, hbs'⟩ := hrel
      have HBR := Lib.hid hbs'
      have hnum : k ≤ 5 := by omega
      have hwr : wt t' ≤ 401 := by have := hbs'.wb; omega
      have g0 := HBR.out.box.c0
      have f0 := HBR.out.box.free 0
      have r0 := HBR.out.res.c0
      have s0 := HBR.out.res.free 0
      have g1 := HBR.out.box.c1
      have f1 := HBR.out.box.free 1
      have r1 := HBR.out.res.c1
      have s1 := HBR.out.res.free 1
      have g2 := HBR.out.box.c2
      have f2 := HBR.out.box.free 2
      have r2 := HBR.out.res.c2
      have s2 := HBR.out.res.free 2
      by_cases hlt : k < 1 + N
      · have HC := Lib.hid (l3Bag_any t' wr _ HBR.out.own.reads (by omega))
        have HWB : Hid (wt (.node ⟨4, []⟩ [t']) ≤ 396 + (k + 1)) := Lib.hid (by
          rw [wt_node]
          have h1 := HBR.out.wb
          show 0 + total [] + (1 + ([t'].map wt).sum) ≤ 396 + (k + 1)
          simp [total]
          omega)
        clear hbs' hwr
        go_wp2_with fail
        refine HC.out.mono ?_
        rintro e w6 hmade
        obtain ⟨L6, A6, c6, d6, gp6, rfl, hbx, hrs, hb6⟩ := HBR.out.newQ hmade (B' := 396 + (k + 1)) HWB.out (q' := 4) (n' := 0) (m' := 1) rfl rfl rfl
        have HB6 := Lib.hid hb6
        clear hmade hb6 HC HWB g0 g1 g2 f0 f1 f2 r0 r1 r2 s0 s1 s2
        have g0 := hbx.c0
        have f0 := hbx.free 0
        have r0 := hrs.c0
        have s0 := hrs.free 0
        have g1 := hbx.c1
        have f1 := hbx.free 1
        have r1 := hrs.c1
        have s1 := hrs.free 1
        have g2 := hbx.c2
        have f2 := hbx.free 2
        have r2 := hrs.c2
        have s2 := hrs.free 2
        clear hbx hrs
        go_wp2_with fail
        go_roundw
        case rel => exact ⟨k + 1, _, _, _, _, _, _, _, _, _, hlt, by go_num, HB6.out⟩
        case measure => simp [intOf]; omega
      · have HBE : Hid (BS b 401 w H G t' fp' q' L' A' n' c' m' d' wr) := hbs'.more (by omega)
        clear hbs'
        have HDN := Lib.hid ((HBE.out.more (B' := 1000) (by decide)).done)
        obtain ⟨U, hU⟩ : ∃ U, (((wr).setCell ⟨H, 0, none⟩ (.int .i64 q')).setCell ⟨H, 1, none⟩ (.slice L' n' c')).setCell ⟨H, 2, none⟩ (.slice A' m' d') = U := ⟨_, rfl⟩
        have hdn := HDN.out
        rw [hU] at hdn
        have t0 := hdn.1.c0
        have t1 := hdn.1.c1
        have t2 := hdn.1.c2
        have HRR := Lib.hid hdn.2
        have HU := Lib.hid hU
        clear hdn HDN hU
        go_wp2_with fail
        rw [HU.out]
        exact bodyPost_ret (v := .agg #[.int .i64 q', .slice L' n' c', .slice A' m' d']) (by simp [results, Try.results20, go_sem, t0, t1, t2]) rfl HRR.out
  ·
    have HDN := Lib.hid ((HBS.out.more (B' := 1000) (by decide)).done)
    obtain ⟨U, hU⟩ : ∃ U, (((w4).setCell ⟨H, 0, none⟩ (.int .i64 q)).setCell ⟨H, 1, none⟩ (.slice L n c)).setCell ⟨H, 2, none⟩ (.slice A m d) = U := ⟨_, rfl⟩
    have hdn := HDN.out
    rw [hU] at hdn
    have t0 := hdn.1.c0
    have t1 := hdn.1.c1
    have t2 := hdn.1.c2
    have HRR := Lib.hid hdn.2
    have HU := Lib.hid hU
    clear hdn HDN hU
    rw [HU.out]
    exact bodyPost_ret (v := .agg #[.int .i64 q, .slice L n c, .slice A m d]) (by simp [results, Try.results20, go_sem, t0, t1, t2]) rfl HRR.out
end Go.Proofs.Ytffaggiblglcbaa
