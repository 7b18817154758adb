/-
  Merged by program: CopyI.
-/
import Derived.Test.YtfhebkdoheafeaaU8
import Derived.Test.YtfhebkdoheafeaaU32

/-
  The program's copyType.
-/
namespace Go.Proofs.Ytfhebkdoheafeaa
open Go.RowKit

theorem CInv.more {a : TyA} {ks : List Ty} {w : World} {g : Nat} {LL : Option Addr} {lc k : Nat} {A : Option Addr} {d : Nat} {xs : List Value} {fs : Nat → List Nat} {wr w' : World} (h : CInv a ks w g LL lc k A d xs fs wr) (hb : Below wr.heap.size wr w') : CInv a ks w g LL lc k A d xs fs w' := by
  obtain ⟨h1, h2, h3, h4, h5, h6, h7, h8⟩ := h
  exact ⟨h1.under hb h1.lt, own3_below h2 hb, own_below h3 hb, fun j t hj ht => (h4 j t hj ht).under hb, h5, fun b hm => ⟨(h6 b hm).1, Nat.lt_of_lt_of_le (h6 b hm).2.1 hb.size, (h6 b hm).2.2⟩, h7, h8.trans (hb.mono h8.size)⟩
def CopyIK (t : Ty) : Prop := ∀ (w : World) (cs : List Value), RTy w t cs → wt t ≤ 1048576 → Calls Try.prog 52 #[.agg cs.toArray] w (MadeT t w)

set_option maxHeartbeats 4000000 in
set_option maxRecDepth 100000 in
theorem copyType_any : ∀ t : Ty, CopyIK t := by
  obtain ⟨i0, hi, hz0, hz1, hz2⟩ := info_parts infoStr
  obtain ⟨i1, hi1, hy0, hy1, hy2⟩ := info_parts infoTy
  refine Tr.ind ?_
  intro a ks ih w cs h hw
  obtain ⟨L, c, A, d, rfl, k1, k2, k3, k4, k5, k6, hp⟩ := h.out
  have hwk : ∀ t ∈ ks, wt t ≤ 1048576 := fun t ht => by
    have h1 := kid_le_sum wt ht
    rw [wt_node] at hw
    unfold wtK at hw
    omega
  rw [wt_node] at hw
  have hl : a.labels.length ≤ 1048576 := by unfold wtA at hw; omega
  have hkl : ks.length ≤ 1048576 := by unfold wtK at hw; omega
  obtain ⟨W1, hW1⟩ : ∃ W1, (w.alloc (.cells #[.int .i64 a.kind, .slice L a.labels.length c, .slice A ks.length d] 27)).alloc (.cells #[.int .i64 0, .slice none 0 0, .slice none 0 0] 27) = W1 := ⟨_, rfl⟩
  obtain ⟨H, hH⟩ : ∃ H, w.heap.size = H := ⟨_, rfl⟩
  have b0 : Box3 W1 H 27 (.int .i64 a.kind) (.slice L a.labels.length c) (.slice A ks.length d) := by rw [← hW1, ← hH]; exact (Box3.new w _ _ _ _).alloc _
  have b1 : Box3 W1 (H + 1) 27 (.int .i64 0) (.slice none 0 0) (.slice none 0 0) := by
    rw [← hW1, ← hH]
    have := Box3.new (w.alloc (.cells #[.int .i64 a.kind, .slice L a.labels.length c, .slice A ks.length d] 27)) 27 (.int .i64 0) (.slice none 0 0) (.slice none 0 0)
    simpa using this
  have hb1 : Below w.heap.size w W1 := by rw [← hW1]; exact ((Below.refl _ _).alloc (Nat.le_refl _) _).alloc (by simp) _
  obtain ⟨N, hN⟩ : ∃ N, W1.heap.size = N := ⟨_, rfl⟩
  have hHN : H + 2 = N := by rw [← hN, ← hW1, ← hH]; simp
  have d1 : Below W1.heap.size W1 W1.drew := (Below.refl _ _).drew
  have d3 : Below W1.heap.size W1 (W1.alloc (.cells #[.int .i64 0, .slice none 0 0, .slice none 0 0] 27)).drew := ((Below.refl _ _).alloc (Nat.le_refl _) _).drew
  have z3 : Box3 (W1.alloc (.cells #[.int .i64 0, .slice none 0 0, .slice none 0 0] 27)).drew N 27 (.int .i64 0) (.slice none 0 0) (.slice none 0 0) := by
    have := Box3.new W1 27 (.int .i64 0) (.slice none 0 0) (.slice none 0 0)
    rw [hN] at this
    exact this
  have D1 := Lib.hid d1
  have D3 := Lib.hid d3
  have Z3 := Lib.hid z3
  have HW1 := Lib.hid hW1
  have HP := Lib.hid (hp.keep hb1)
  have HL := Lib.hid (k1.below hb1)
  have HB1 := Lib.hid hb1
  have HX := Lib.hid k5
  have HI := Lib.hid ih
  have B0 := Lib.hid b0
  have B1 := Lib.hid b1
  have HH := Lib.hid hH
  have HWK := Lib.hid hwk
  have HHN := Lib.hid hHN
  have HN := Lib.hid hN
  clear hp ih k1 k5 h hw hW1 hb1 hwk hHN d1 d3 z3
  have x0 := b0.c0
  have x1 := b0.c1
  have hHlt : H < W1.heap.size := b0.lt
  clear b0 b1
  have n0 := World.new_ne W1 _ x0
  have n1 := World.new_ne W1 _ x1
  have hHN0 : H ≠ N := by omega
  have hHN1 : H ≠ N + 1 := by omega
  go_enter Try.func52, Try.ntmps52
  go_upto_region 1 with (fail)
  rw [HW1.out]
  go_cut [3] from 6 to 12 (fun s3 wx => C0 a ks W1 s3 wx)
  case first =>
    go_region_held3 (fun w' => w'.cell? ⟨H, 0, none⟩ = some (.int .i64 a.kind) ∧ w'.cell? ⟨H, 1, none⟩ = some (.slice L a.labels.length c)) (first | go_keep | exact ⟨cell_three q0 hHN1, cell_three q1 hHN1⟩ | exact ⟨cell_three q0 hHN0, cell_three q1 hHN0⟩)
      (first
        | (refine step_append_new (by rfl) (.const (.slice none 0 0)) (.tmp 9) 24 (by rfl) N 9 i0 _ 16 Try.underlying24 hi hz0 hz1 hz2 (by rfl) (.slice none 0 0) (by rfl) (w := W1.drew) (World.ownsRow_nil _ _ _ _) L a.labels.length c (a.labels.map Value.string) (by rfl) (by simp) (HL.out.below D1.out) (strs_oneCell _) (by unfold maxLen; omega) (by omega) (by show N ≤ W1.heap.size; omega) ?_; intro LL lc w' hown hgr hor; have bq := (B0.out.under D1.out hHlt).grown hgr (by simp [Value.ownBlock]); have q0 := bq.c0; have q1 := bq.c1; have n0 := World.new_ne w' _ q0; have n1 := World.new_ne w' _ q1; have HOW := Lib.hid hown; have HGR := Lib.hid hgr; have HOR := Lib.hid hor; clear hown hgr hor bq)
        | (refine step_append_new (by rfl) (.const (.slice none 0 0)) (.tmp 9) 24 (by rfl) (N + 1) 9 i0 _ 16 Try.underlying24 hi hz0 hz1 hz2 (by rfl) (.slice none 0 0) (by rfl) (w := (W1.alloc (.cells #[.int .i64 0, .slice none 0 0, .slice none 0 0] 27)).drew) (World.ownsRow_nil _ _ _ _) L a.labels.length c (a.labels.map Value.string) (by rfl) (by simp) (HL.out.below D3.out) (strs_oneCell _) (by unfold maxLen; omega) (by omega) (by simp; omega) ?_; intro LL lc w' hown hgr hor; have bq := (B0.out.under D3.out hHlt).grown hgr (by simp [Value.ownBlock]); have q0 := bq.c0; have q1 := bq.c1; have n0 := World.new_ne w' _ q0; have n1 := World.new_ne w' _ q1; have bz := Z3.out.grown hgr (by simp [Value.ownBlock]); have t0 := bz.c0; have t1 := bz.c1; have t2 := bz.c2; have f0 := bz.free 0; have f1 := bz.free 1; have f2 := bz.free 2; have HOW := Lib.hid hown; have HGR := Lib.hid hgr; have HOR := Lib.hid hor; clear hown hgr hor bq bz))
    · go_wp2_with fail
      go_meet
      case rel =>
        have hb3 := D1.out.grown HGR.out D1.out.size (fun k hk => by simp [Value.ownBlock] at hk)
        exact c0_at (hb3.alloc hb3.size _) (Box3.new w' _ _ _ _) hb3.size (HOW.out.alloc _) (by omega) (fun b hm e => by have := (HOW.out.lt b ((blk_own LL _ lc b).2 hm)).2; omega)
    · go_wp2_with fail
      go_meet
      case rel =>
        have hb3 := D3.out.grown HGR.out D3.out.size (fun k hk => by simp [Value.ownBlock] at hk)
        exact c0_of hb3 (Z3.out.grown HGR.out (by simp [Value.ownBlock])) (by omega) HOW.out (by omega) (fun b hm e => by have := (HOW.out.lt b ((blk_own LL _ lc b).2 hm)).1; omega)
  case rest =>
    obtain ⟨g, LL, lc, rfl, hci⟩ := hcut
    have hHN1 := HHN.out
    have y2 := (B0.out.under hci.bel (by have := HN.out; omega)).c2
    clear x0 x1 n0 n1 hHlt
    go_wp2_with fail
    go_loopw [15] (fun i wr => CRel a ks W1 g LL lc i wr) (fun i _ => ks.length - (intOf i).toNat)
    case atStart => exact ⟨0, none, 0, [], fun _ => [], Nat.zero_le _, rfl, hci⟩
    case round =>
      obtain ⟨k, A', d', xs, fs, hk, rfl, hc⟩ := hrel
      have HC := Lib.hid hc
      have hbw := hc.bel
      have y2 := (B0.out.under hbw (by omega)).c2
      clear hc hci
      by_cases hlt : k < ks.length
      · obtain ⟨ad, p, c0, c1, c2, rfl, hpe, hr, q0, q1, q2⟩ := kid_at HP.out hbw hlt
        obtain ⟨u0, u1, u2, u3, u4, u5, u6, he⟩ := hr.shape
        injection he with e0 he
        injection he with e1 he
        injection he with e2 _
        subst e0 e1 e2
        obtain ⟨Wk, hWk⟩ : ∃ Wk, wr.alloc (.cells #[.int .i64 u0, .slice u1 u2 u3, .slice u4 u5 u6] 27) = Wk := ⟨_, rfl⟩
        have hbk : Below wr.heap.size wr Wk := by rw [← hWk]; exact (Below.refl _ _).alloc (Nat.le_refl _) _
        have hxk := Box3.new wr 27 (.int .i64 u0) (.slice u1 u2 u3) (.slice u4 u5 u6)
        rw [hWk] at hxk
        have HCK := Lib.hid (HC.out.more hbk)
        have HWK2 := Lib.hid hWk
        have HXK := Lib.hid hxk
        have y0 := hxk.c0
        have y1 := hxk.c1
        have y2' := hxk.c2
        have HR := Lib.hid (hr.keep hbk)
        clear hr hbw hbk hWk hxk
        go_wp2_with fail
        rw [HWK2.out]
        have g2 := HCK.out.box.c2
        try go_wp2_with fail
        have HD := Lib.hid HCK.out.drew
        have HCC := Lib.hid (HI.out ks[k] (List.getElem_mem hlt) Wk.drew _ (HR.out.keep (Below.refl _ _).drew) (HWK.out _ (List.getElem_mem hlt)))
        obtain ⟨x0, hx0⟩ : ∃ x0, ks[k].top.kind = x0 := ⟨_, rfl⟩
        obtain ⟨x1, hx1⟩ : ∃ x1, ks[k].top.labels.length = x1 := ⟨_, rfl⟩
        obtain ⟨x2, hx2⟩ : ∃ x2, ks[k].kids.length = x2 := ⟨_, rfl⟩
        have HNX : Hid (∀ (w2 : World) (fp : List Nat) (L2 A2 : Option Addr) (l2 d2 : Nat), OTy w2 ks[k] [.int .i64 x0, .slice L2 x1 l2, .slice A2 x2 d2] fp → (∀ b ∈ fp, Wk.drew.heap.size ≤ b ∧ b < w2.heap.size) → Below Wk.drew.heap.size Wk.drew w2 →
            ∀ (i : Value) (A4 : Option Addr) (d4 : Nat) (w4 : World), i = .int .i64 ((k + 1 : Nat) : Int) → w4.ownsRow 0 27 3 (.slice A4 (k + 1) d4) (k + 1) (xs ++ [.int .i64 x0, .slice L2 x1 l2, .slice A2 x2 d2]) →
            (w2.alloc (.cells #[.int .i64 x0, .slice L2 x1 l2, .slice A2 x2 d2] 27)).grownBy w4 (Value.slice A' k d').ownBlock → ((Value.slice A4 (k + 1) d4).ownBlock = (Value.slice A' k d').ownBlock ∨ (Value.slice A4 (k + 1) d4).ownBlock = some (w2.heap.size + 1)) →
            CRel a ks W1 g LL lc i (w4.setCell ⟨g, 2, none⟩ (.slice A4 (k + 1) d4))) := by
          intro w2 fp L2 A2 l2 d2 hot hfp hb2 i A4 d4 w4 hii h1 h2 h3
          obtain ⟨A5, d5, fs', e, hcv⟩ := cinv_more HD.out hlt hb2 hot hfp h1 h2 h3
          injection e with e1 _ e3
          subst e1
          subst e3
          exact ⟨k + 1, A4, d4, _, fs', hlt, hii, hcv⟩
        have HCD : Hid (∀ (e : Ending) (w2 : World), MadeT ks[k] Wk.drew e w2 → ∃ (L2 A2 : Option Addr) (l2 d2 : Nat), e = .returned (.agg #[.int .i64 x0, .slice L2 x1 l2, .slice A2 x2 d2]) ∧ w2.cell? ⟨g, 2, none⟩ = some (.slice A' k d') ∧
            (w2.alloc (.cells #[.int .i64 x0, .slice L2 x1 l2, .slice A2 x2 d2] 27)).ownsRow 0 27 3 (.slice A' k d') k xs ∧
            Box3 (w2.alloc (.cells #[.int .i64 x0, .slice L2 x1 l2, .slice A2 x2 d2] 27)) g 27 (.int .i64 a.kind) (.slice LL a.labels.length lc) (.slice A' k d') ∧
            ∀ (i : Value) (A4 : Option Addr) (d4 : Nat) (w4 : World), i = .int .i64 ((k + 1 : Nat) : Int) → w4.ownsRow 0 27 3 (.slice A4 (k + 1) d4) (k + 1) (xs ++ [.int .i64 x0, .slice L2 x1 l2, .slice A2 x2 d2]) →
            (w2.alloc (.cells #[.int .i64 x0, .slice L2 x1 l2, .slice A2 x2 d2] 27)).grownBy w4 (Value.slice A' k d').ownBlock → ((Value.slice A4 (k + 1) d4).ownBlock = (Value.slice A' k d').ownBlock ∨ (Value.slice A4 (k + 1) d4).ownBlock = some (w2.heap.size + 1)) →
            CRel a ks W1 g LL lc i (w4.setCell ⟨g, 2, none⟩ (.slice A4 (k + 1) d4))) := by
          rintro e w2 ⟨L2, A2, l2, d2, fp, rfl, hot, hfp, hb2⟩
          rw [hx0, hx1, hx2] at hot ⊢
          have hd2 : Below Wk.drew.heap.size Wk.drew (w2.alloc (.cells #[.int .i64 x0, .slice L2 x1 l2, .slice A2 x2 d2] 27)) := hb2.alloc hb2.size _
          exact ⟨L2, A2, l2, d2, rfl, (HD.out.box.under hb2 HD.out.box.lt).c2, own3_below HD.out.row hd2, HD.out.box.under hd2 HD.out.box.lt, HNX.out w2 fp L2 A2 l2 d2 hot hfp hb2⟩
        clear hx0 hx1 hx2 HNX
        go_region_law (first
          | (go_simp; refine HCC.out.mono ?_; rintro e w2 hmade; obtain ⟨L2, A2, l2, d2, rfl, e2, hrw, hbx, hnx⟩ := HCD.out _ _ hmade; clear hmade; have e3 := hbx.c2; have HRW := Lib.hid hrw; have HBX := Lib.hid hbx; have HNX := Lib.hid hnx; clear hrw hbx hnx; have HNW := Lib.hid (news3 w2 (.int .i64 x0) (.slice L2 x1 l2) (.slice A2 x2 d2) 27); have m2 := World.new_ne w2 _ e2)
          | (refine step_append_at (by rfl) (.tmp 20) (.tmp 23) 25 (by rfl) 0 27 i1 _ 3 56 Try.underlying25 hi1 hy0 hy1 hy2 (by rfl) (by omega) (.slice A' k d') k xs (by rfl) HRW.out ⟨w2.heap.size, 0, none⟩ 1 1 [.int .i64 x0, .slice L2 x1 l2, .slice A2 x2 d2] (by rfl) (by rfl) HNW.out (one3 _ _ _ _ _ _ _) (by unfold maxLen; omega) (by omega) (Nat.zero_le _) ?_; intro A4 d4 w4 hown4 hgr4 hor4; have bx4 := HBX.out.grown hgr4 HD.out.apart; have g4 := bx4.c2; have f4 := bx4.free 2; have HNW4 := Lib.hid (fun i hi => HNX.out i A4 d4 w4 hi hown4 hgr4 (by simpa using hor4)); clear hown4 hgr4 hor4 bx4))
        all_goals go_wp2_with fail
        all_goals go_roundw
        all_goals first
          | exact HNW4.out _ (by go_num)
          | (simp [intOf]; omega)
      · have he : k = ks.length := by omega
        subst he
        have bg := HC.out.box
        have g0 := bg.c0
        have g1 := bg.c1
        have g2 := bg.c2
        have br := B1.out.under hbw (by omega)
        have r0 := br.c0
        have r1 := br.c1
        have r2 := br.c2
        have s0 := br.free 0
        have s1 := br.free 1
        have s2 := br.free 2
        have BR := Lib.hid br
        clear bg br hbw
        go_wp2_with fail
        generalize hU : ((wr.setCell ⟨H + 1, 0, none⟩ (.int .i64 a.kind)).setCell ⟨H + 1, 1, none⟩ (.slice LL a.labels.length lc)).setCell ⟨H + 1, 2, none⟩ (.slice A' ks.length d') = U
        have hgU : wr.grownBy U (some (H + 1)) := by rw [← hU]; exact grown_set (grown_set (grown_set (World.grownBy.refl _ _) _) _) _
        have u1 : Box3 U (H + 1) 27 (.int .i64 a.kind) (.slice LL a.labels.length lc) (.slice A' ks.length d') := by
          rw [← hU]
          exact ((BR.out.set0 _).set1 _).set2 _
        have HRR := Lib.hid (copy_done (w := w) (W1 := W1) (G := H + 1) ⟨k2, k3, k4, HX.out⟩ k6 HC.out HB1.out (by omega) (by have := HH.out; omega) hgU)
        have t0 := u1.c0
        have t1 := u1.c1
        have t2 := u1.c2
        clear hU hgU u1 g0 g1 g2 r0 r1 r2 s0 s1 s2
        exact bodyPost_ret (v := .agg #[.int .i64 a.kind, .slice LL a.labels.length lc, .slice A' ks.length d']) (by simp [results, Try.results52, go_sem, t0, t1, t2]) rfl HRR.out
end Go.Proofs.Ytfhebkdoheafeaa
