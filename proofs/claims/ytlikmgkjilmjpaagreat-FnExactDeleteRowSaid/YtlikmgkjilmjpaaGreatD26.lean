/-
  Merged by program: L5Copy.
-/
import Derived.Test.YtlikmgkjilmjpaaGreatD11

/-
  The model's l5Copy: a value made anew. Written by mkl5copy.py.
-/
namespace Go.Proofs.YtlikmgkjilmjpaaGreat
open Go.RowKit

def CopK (t : Va) : Prop := ∀ (w : World) (cs : List Value), RVa w t cs → wv t ≤ 1048576 → Calls Tryz.prog 29 #[.agg cs.toArray] w (MadeV t w)

set_option maxHeartbeats 4000000 in
set_option maxRecDepth 100000 in
theorem l5Copy_any : ∀ t : Va, CopK t := by
  obtain ⟨i0, hi, hz0, hz1, hz2⟩ := info_parts infoStr
  obtain ⟨i1, hi1, hy0, hy1, hy2⟩ := info_parts infoVa
  refine Tr.ind ?_
  intro a ks ih w cs h hw
  obtain ⟨L, c, A, d, rfl, k1, hok, k6, hp⟩ := h.out
  obtain ⟨KS, hKS⟩ : ∃ KS : List Va, ks = KS := ⟨_, rfl⟩
  have hKL : KS.length = ks.length := by rw [← hKS]
  have hKk : ∀ k (h : k < ks.length) (h' : k < KS.length), KS[k] = ks[k] := fun k h h' => by subst hKS; rfl
  have hcan : (Tr.node a ks : Va) = .node a KS := by rw [hKS]
  have hwk : ∀ t ∈ ks, wv t ≤ 1048576 := fun t ht => by
    have h1 := kid_le_sum wv ht
    rw [wv_node] at hw
    unfold wvK at hw
    omega
  rw [wv_node] at hw
  have hl : a.labels.length ≤ 1048576 := by unfold wvA at hw; omega
  have hkl : ks.length ≤ 1048576 := by unfold wvK at hw; omega
  obtain ⟨W1, hW1⟩ : ∃ W1, (w.alloc (.cells #[.int .i64 a.kind, .int .i64 a.num, .slice L a.labels.length c, .slice A ks.length d] 47)).alloc (.cells #[.int .i64 0, .int .i64 0, .slice none 0 0, .slice none 0 0] 47) = W1 := ⟨_, rfl⟩
  obtain ⟨H, hH⟩ : ∃ H, w.heap.size = H := ⟨_, rfl⟩
  have b0 : Box4 W1 H 47 (.int .i64 a.kind) (.int .i64 a.num) (.slice L a.labels.length c) (.slice A ks.length d) := by rw [← hW1, ← hH]; exact (Box4.new w _ _ _ _ _).alloc _
  have b1 : Box4 W1 (H + 1) 47 (.int .i64 0) (.int .i64 0) (.slice none 0 0) (.slice none 0 0) := by
    rw [← hW1, ← hH]
    have := Box4.new (w.alloc (.cells #[.int .i64 a.kind, .int .i64 a.num, .slice L a.labels.length c, .slice A ks.length d] 47)) 47 (.int .i64 0) (.int .i64 0) (.slice none 0 0) (.slice none 0 0)
    simpa using this
  have hb1 : Below w.heap.size w W1 := by rw [← hW1]; exact ((Below.refl _ _).alloc (Nat.le_refl _) _).alloc (by simp) _
  obtain ⟨N, hN⟩ : ∃ N, W1.heap.size = N := ⟨_, rfl⟩
  have hHN : H + 2 = N := by rw [← hN, ← hW1, ← hH]; simp
  have o1 : (W1.alloc (.cells #[] 9)).drew.ownsRow N 9 1 (.slice (some ⟨N, 0, none⟩) 0 0) 0 [] := by
    have := World.ownsRow_made (base := N) (size := 1) (e := 9) W1 #[] 0 (by omega) (by unfold maxLen; omega) (by simp)
    rw [hN] at this
    exact this
  have o2 : ((W1.alloc (.cells #[] 9)).alloc (.cells #[.int .i64 0, .int .i64 0, .slice none 0 0, .slice none 0 0] 47)).drew.ownsRow N 9 1 (.slice (some ⟨N, 0, none⟩) 0 0) 0 [] := World.ownsRow.alloc (w := W1.alloc (.cells #[] 9)) o1 _
  have o3 : ((W1.alloc (.cells #[.int .i64 0, .int .i64 0, .slice none 0 0, .slice none 0 0] 47)).alloc (.cells #[] 9)).drew.ownsRow N 9 1 (.slice (some ⟨N + 1, 0, none⟩) 0 0) 0 [] := by
    have := World.ownsRow_made (base := N) (size := 1) (e := 9) (W1.alloc (.cells #[.int .i64 0, .int .i64 0, .slice none 0 0, .slice none 0 0] 47)) #[] 0 (by simp; omega) (by unfold maxLen; omega) (by simp)
    simp only [World.size_alloc, hN] at this
    exact this
  have d1 : Below W1.heap.size W1 (W1.alloc (.cells #[] 9)).drew := ((Below.refl _ _).alloc (Nat.le_refl _) _).drew
  have d2 : Below W1.heap.size W1 ((W1.alloc (.cells #[] 9)).alloc (.cells #[.int .i64 0, .int .i64 0, .slice none 0 0, .slice none 0 0] 47)).drew := (((Below.refl _ _).alloc (Nat.le_refl _) _).alloc (by simp) _).drew
  have d3 : Below W1.heap.size W1 ((W1.alloc (.cells #[.int .i64 0, .int .i64 0, .slice none 0 0, .slice none 0 0] 47)).alloc (.cells #[] 9)).drew := (((Below.refl _ _).alloc (Nat.le_refl _) _).alloc (by simp) _).drew
  have z2 : Box4 ((W1.alloc (.cells #[] 9)).alloc (.cells #[.int .i64 0, .int .i64 0, .slice none 0 0, .slice none 0 0] 47)).drew (N + 1) 47 (.int .i64 0) (.int .i64 0) (.slice none 0 0) (.slice none 0 0) := by
    have := Box4.new (W1.alloc (.cells #[] 9)) 47 (.int .i64 0) (.int .i64 0) (.slice none 0 0) (.slice none 0 0)
    simp only [World.size_alloc, hN] at this
    exact this
  have z3 : Box4 ((W1.alloc (.cells #[.int .i64 0, .int .i64 0, .slice none 0 0, .slice none 0 0] 47)).alloc (.cells #[] 9)).drew N 47 (.int .i64 0) (.int .i64 0) (.slice none 0 0) (.slice none 0 0) := by
    have := (Box4.new W1 47 (.int .i64 0) (.int .i64 0) (.slice none 0 0) (.slice none 0 0)).alloc (.cells #[] 9)
    rw [hN] at this
    exact this
  have O1 := Lib.hid o1
  have O2 := Lib.hid o2
  have O3 := Lib.hid o3
  have D1 := Lib.hid d1
  have D2 := Lib.hid d2
  have D3 := Lib.hid d3
  have Z2 := Lib.hid z2
  have Z3 := Lib.hid z3
  have HW1 := Lib.hid hW1
  have HP := Lib.hid (hp.keep hb1)
  have HL := Lib.hid (k1.below hb1)
  have HB1 := Lib.hid hb1
  have HX := Lib.hid hok
  have HKL := Lib.hid hKL
  have HKk := Lib.hid hKk
  have HCAN := Lib.hid hcan
  have HI := Lib.hid ih
  have B0 := Lib.hid b0
  have B1 := Lib.hid b1
  have HH := Lib.hid hH
  have HWK := Lib.hid hwk
  have HHN := Lib.hid hHN
  have HN := Lib.hid hN
  clear hKS hKL hKk hcan hp ih k1 hok h hw hW1 hb1 hwk hHN o1 o2 o3 d1 d2 d3 z2 z3
  have x0 := b0.c0
  have x1 := b0.c1
  have x2 := b0.c2
  have hHlt : H < W1.heap.size := b0.lt
  clear b0 b1
  have n0 := World.new_ne W1 _ x0
  have n1 := World.new_ne W1 _ x1
  have n2 := World.new_ne W1 _ x2
  have hHN0 : H ≠ N := by omega
  have hHN1 : H ≠ N + 1 := by omega
  go_enter Tryz.func29, Tryz.ntmps29
  go_upto_region 1 with (fail)
  rw [HW1.out]
  go_cut [3] from 5 to 13 (fun s3 wx => C0V a KS W1 s3 wx)
  case first =>
    go_region_held3 (fun w' => w'.cell? ⟨H, 0, none⟩ = some (.int .i64 a.kind) ∧ w'.cell? ⟨H, 1, none⟩ = some (.int .i64 a.num) ∧ w'.cell? ⟨H, 2, none⟩ = some (.slice L a.labels.length c)) (first | go_keep | exact ⟨cell_four q0 hHN1, cell_four q1 hHN1, cell_four q2 hHN1⟩ | exact ⟨cell_four q0 hHN0, cell_four q1 hHN0, cell_four q2 hHN0⟩)
      (first
        | (refine step_append_new (by rfl) (.tmp 9) (.tmp 11) 28 (by rfl) N 9 i0 _ 16 Tryz.underlying28 hi hz0 hz1 hz2 (by rfl) (.slice (some ⟨N, 0, none⟩) 0 0) (by rfl) O1.out L a.labels.length c (a.labels.map Value.string) (by rfl) (by simp) (HL.out.below D1.out) (strs_oneCell _) (by unfold maxLen; omega) (by omega) (by simp; omega) ?_; intro LL lc w' hown hgr hor; have bq := (B0.out.under D1.out hHlt).grown hgr (by show some H ≠ some N; intro e; injection e with e; omega); have q0 := bq.c0; have q1 := bq.c1; have q2 := bq.c2; have n0 := World.new_ne w' _ q0; have n1 := World.new_ne w' _ q1; have n2 := World.new_ne w' _ q2; have HOW := Lib.hid hown; have HGR := Lib.hid hgr; have HOR := Lib.hid hor; clear hown hgr hor bq)
        | (refine step_append_new (by rfl) (.tmp 9) (.tmp 11) 28 (by rfl) N 9 i0 _ 16 Tryz.underlying28 hi hz0 hz1 hz2 (by rfl) (.slice (some ⟨N, 0, none⟩) 0 0) (by rfl) O2.out L a.labels.length c (a.labels.map Value.string) (by rfl) (by simp) (HL.out.below D2.out) (strs_oneCell _) (by unfold maxLen; omega) (by omega) (by simp; omega) ?_; intro LL lc w' hown hgr hor; have bq := (B0.out.under D2.out hHlt).grown hgr (by show some H ≠ some N; intro e; injection e with e; omega); have q0 := bq.c0; have q1 := bq.c1; have q2 := bq.c2; have n0 := World.new_ne w' _ q0; have n1 := World.new_ne w' _ q1; have n2 := World.new_ne w' _ q2; have bz := Z2.out.grown hgr (by show some (N + 1) ≠ some N; intro e; injection e with e; omega); have t0 := bz.c0; have t1 := bz.c1; have t2 := bz.c2; have t3 := bz.c3; have f0 := bz.free 0; have f1 := bz.free 1; have f2 := bz.free 2; have f3 := bz.free 3; have HOW := Lib.hid hown; have HGR := Lib.hid hgr; have HOR := Lib.hid hor; clear hown hgr hor bq bz)
        | (refine step_append_new (by rfl) (.tmp 9) (.tmp 11) 28 (by rfl) N 9 i0 _ 16 Tryz.underlying28 hi hz0 hz1 hz2 (by rfl) (.slice (some ⟨N + 1, 0, none⟩) 0 0) (by rfl) O3.out L a.labels.length c (a.labels.map Value.string) (by rfl) (by simp) (HL.out.below D3.out) (strs_oneCell _) (by unfold maxLen; omega) (by omega) (by simp; omega) ?_; intro LL lc w' hown hgr hor; have bq := (B0.out.under D3.out hHlt).grown hgr (by show some H ≠ some (N + 1); intro e; injection e with e; omega); have q0 := bq.c0; have q1 := bq.c1; have q2 := bq.c2; have n0 := World.new_ne w' _ q0; have n1 := World.new_ne w' _ q1; have n2 := World.new_ne w' _ q2; have bz := Z3.out.grown hgr (by show some N ≠ some (N + 1); intro e; injection e with e; omega); have t0 := bz.c0; have t1 := bz.c1; have t2 := bz.c2; have t3 := bz.c3; have f0 := bz.free 0; have f1 := bz.free 1; have f2 := bz.free 2; have f3 := bz.free 3; have HOW := Lib.hid hown; have HGR := Lib.hid hgr; have HOR := Lib.hid hor; clear hown hgr hor bq bz))
    · go_wp2_with fail
      go_meet
      case rel =>
        have hb3 := D1.out.grown HGR.out D1.out.size (fun k hk => by have e : some N = some k := hk; injection e with e; omega)
        exact c0V_at (hb3.alloc hb3.size _) (Box4.new w' _ _ _ _ _) hb3.size (HOW.out.alloc _) (by omega) (fun b hm e => by have := (HOW.out.lt b ((blk_own LL _ lc b).2 hm)).2; omega)
    · go_wp2_with fail
      go_meet
      case rel =>
        have hb3 := D2.out.grown HGR.out D2.out.size (fun k hk => by have e : some N = some k := hk; injection e with e; omega)
        exact c0V_of hb3 (Z2.out.grown HGR.out (by show some (N + 1) ≠ some N; intro e; injection e with e; omega)) (by omega) HOW.out (by omega) (fun b hm e => by
          rcases HOR.out b hm with h | h
          · have e' : some N = some b := h
            injection e' with e'
            omega
          · simp only [World.size_drew, World.size_alloc] at h; omega)
    · go_wp2_with fail
      go_meet
      case rel =>
        have hb3 := D3.out.grown HGR.out D3.out.size (fun k hk => by have e : some (N + 1) = some k := hk; injection e with e; omega)
        exact c0V_of hb3 (Z3.out.grown HGR.out (by show some N ≠ some (N + 1); intro e; injection e with e; omega)) (by omega) HOW.out (by omega) (fun b hm e => by
          rcases HOR.out b hm with h | h
          · have e' : some (N + 1) = some b := h
            injection e' with e'
            omega
          · simp only [World.size_drew, World.size_alloc] at h; omega)
  case rest =>
    obtain ⟨g, LL, lc, rfl, hci⟩ := hcut
    have hHN1 := HHN.out
    clear x0 x1 x2 n0 n1 n2 hHlt
    go_wp2_with fail
    go_loopw [4] (fun i wr => CRelV a KS W1 g LL lc i wr) (fun i _ => ks.length - (intOf i).toNat)
    case atStart => exact ⟨0, none, 0, [], fun _ => [], Nat.zero_le _, rfl, hci⟩
    case round =>
      obtain ⟨k, A', d', xs, fs, hk, rfl, hc⟩ := hrel
      have HC := Lib.hid hc
      have hbw := hc.bel
      have y2 := (B0.out.under hbw (by omega)).c3
      have y0 := (B0.out.under hbw (by omega)).c0
      clear hc hci
      by_cases hlt : k < ks.length
      · have hlt' : k < KS.length := by rw [HKL.out]; exact hlt
        have hKc := HKk.out k hlt hlt'
        obtain ⟨ad, p, c0, c1, c2, c3, rfl, hpe, hr, q0, q1, q2, q3⟩ := vid_at HP.out hbw hlt
        have g2 := HC.out.box.c3
        have HR := Lib.hid hr
        clear hr hbw
        go_wp2_with fail
        have HD := Lib.hid HC.out.drew
        have HCC := Lib.hid (HI.out ks[k] (List.getElem_mem hlt) wr.drew [c0, c1, c2, c3] (HR.out.keep (Below.refl _ _).drew) (HWK.out _ (List.getElem_mem hlt)))
        obtain ⟨x0, hx0⟩ : ∃ x0, ks[k].top.kind = x0 := ⟨_, rfl⟩
        obtain ⟨x1, hx1⟩ : ∃ x1, ks[k].top.labels.length = x1 := ⟨_, rfl⟩
        obtain ⟨x2, hx2⟩ : ∃ x2, ks[k].kids.length = x2 := ⟨_, rfl⟩
        obtain ⟨x3, hx3⟩ : ∃ x3, ks[k].top.num = x3 := ⟨_, rfl⟩
        have HNX : Hid (∀ (w2 : World) (fp : List Nat) (L2 A2 : Option Addr) (l2 d2 : Nat), OVa w2 ks[k] [.int .i64 x0, .int .i64 x3, .slice L2 x1 l2, .slice A2 x2 d2] fp → (∀ b ∈ fp, wr.drew.heap.size ≤ b ∧ b < w2.heap.size) → Below wr.drew.heap.size wr.drew w2 →
            ∀ (i : Value) (A4 : Option Addr) (d4 : Nat) (w4 : World), i = .int .i64 ((k + 1 : Nat) : Int) → w4.ownsRow 0 47 4 (.slice A4 (k + 1) d4) (k + 1) (xs ++ [.int .i64 x0, .int .i64 x3, .slice L2 x1 l2, .slice A2 x2 d2]) →
            (w2.alloc (.cells #[.int .i64 x0, .int .i64 x3, .slice L2 x1 l2, .slice A2 x2 d2] 47)).grownBy w4 (Value.slice A' k d').ownBlock → ((Value.slice A4 (k + 1) d4).ownBlock = (Value.slice A' k d').ownBlock ∨ (Value.slice A4 (k + 1) d4).ownBlock = some (w2.heap.size + 1)) →
            CRelV a KS W1 g LL lc i (w4.setCell ⟨g, 3, none⟩ (.slice A4 (k + 1) d4))) := by
          intro w2 fp L2 A2 l2 d2 hot hfp hb2 i A4 d4 w4 hii h1 h2 h3
          obtain ⟨A5, d5, fs', e, hcv⟩ := cinvV_more HD.out hlt' hb2 (by rw [hKc]; exact hot) hfp h1 h2 h3
          injection e with e1 _ e3
          subst e1
          subst e3
          exact ⟨k + 1, A4, d4, _, fs', hlt', hii, hcv⟩
        have HCD : Hid (∀ (e : Ending) (w2 : World), MadeV ks[k] wr.drew e w2 → ∃ (L2 A2 : Option Addr) (l2 d2 : Nat), e = .returned (.agg #[.int .i64 x0, .int .i64 x3, .slice L2 x1 l2, .slice A2 x2 d2]) ∧ w2.cell? ⟨g, 3, none⟩ = some (.slice A' k d') ∧
            (w2.alloc (.cells #[.int .i64 x0, .int .i64 x3, .slice L2 x1 l2, .slice A2 x2 d2] 47)).ownsRow 0 47 4 (.slice A' k d') k xs ∧
            Box4 (w2.alloc (.cells #[.int .i64 x0, .int .i64 x3, .slice L2 x1 l2, .slice A2 x2 d2] 47)) g 47 (.int .i64 a.kind) (.int .i64 a.num) (.slice LL a.labels.length lc) (.slice A' k d') ∧
            ∀ (i : Value) (A4 : Option Addr) (d4 : Nat) (w4 : World), i = .int .i64 ((k + 1 : Nat) : Int) → w4.ownsRow 0 47 4 (.slice A4 (k + 1) d4) (k + 1) (xs ++ [.int .i64 x0, .int .i64 x3, .slice L2 x1 l2, .slice A2 x2 d2]) →
            (w2.alloc (.cells #[.int .i64 x0, .int .i64 x3, .slice L2 x1 l2, .slice A2 x2 d2] 47)).grownBy w4 (Value.slice A' k d').ownBlock → ((Value.slice A4 (k + 1) d4).ownBlock = (Value.slice A' k d').ownBlock ∨ (Value.slice A4 (k + 1) d4).ownBlock = some (w2.heap.size + 1)) →
            CRelV a KS W1 g LL lc i (w4.setCell ⟨g, 3, none⟩ (.slice A4 (k + 1) d4))) := by
          rintro e w2 ⟨L2, A2, l2, d2, fp, rfl, hot, hfp, hb2⟩
          rw [hx0, hx1, hx2, hx3] at hot ⊢
          have hd2 : Below wr.drew.heap.size wr.drew (w2.alloc (.cells #[.int .i64 x0, .int .i64 x3, .slice L2 x1 l2, .slice A2 x2 d2] 47)) := hb2.alloc hb2.size _
          exact ⟨L2, A2, l2, d2, rfl, (HD.out.box.under hb2 HD.out.box.lt).c3, own4_below HD.out.row hd2, HD.out.box.under hd2 HD.out.box.lt, HNX.out w2 fp L2 A2 l2 d2 hot hfp hb2⟩
        clear hx0 hx1 hx2 hx3 HNX hKc
        go_wp2_with fail
        go_region_law (first
          | (go_simp; refine HCC.out.mono ?_; rintro e w2 hmade; obtain ⟨L2, A2, l2, d2, rfl, e2, hrw, hbx, hnx⟩ := HCD.out _ _ hmade; clear hmade; have e3 := hbx.c3; have HRW := Lib.hid hrw; have HBX := Lib.hid hbx; have HNX := Lib.hid hnx; clear hrw hbx hnx; have HNW := Lib.hid (news4 w2 (.int .i64 x0) (.int .i64 x3) (.slice L2 x1 l2) (.slice A2 x2 d2) 47); have m2 := World.new_ne w2 _ e2)
          | (refine step_append_at (by rfl) (.tmp 22) (.tmp 29) 45 (by rfl) 0 47 i1 _ 4 64 Tryz.underlying45 hi1 hy0 hy1 hy2 (by rfl) (by omega) (.slice A' k d') k xs (by rfl) HRW.out ⟨w2.heap.size, 0, none⟩ 1 1 [.int .i64 x0, .int .i64 x3, .slice L2 x1 l2, .slice A2 x2 d2] (by rfl) (by rfl) HNW.out (one4 _ _ _ _ _ _ _ _) (by unfold maxLen; omega) (by omega) (Nat.zero_le _) ?_; intro A4 d4 w4 hown4 hgr4 hor4; have bx4 := HBX.out.grown hgr4 HD.out.apart; have g4 := bx4.c3; have f4 := bx4.free 3; have HNW4 := Lib.hid (fun i hi => HNX.out i A4 d4 w4 hi hown4 hgr4 (by simpa using hor4)); clear hown4 hgr4 hor4 bx4))
        all_goals go_wp2_with fail
        all_goals go_roundw
        all_goals first
          | exact HNW4.out _ (by go_num)
          | (simp [intOf]; omega)
      · have he : k = KS.length := by rw [HKL.out] at hk ⊢; omega
        subst he
        clear hbw
        have g0 : (wr).cell? ⟨g, 0, none⟩ = some (.int .i64 a.kind) := HC.out.box.c0
        have g1 : (wr).cell? ⟨g, 1, none⟩ = some (.int .i64 a.num) := HC.out.box.c1
        have g2 : (wr).cell? ⟨g, 2, none⟩ = some (.slice LL a.labels.length lc) := HC.out.box.c2
        have g3 : (wr).cell? ⟨g, 3, none⟩ = some (.slice A' KS.length d') := HC.out.box.c3
        have br : Box4 (wr) (H + 1) 47 (.int .i64 0) (.int .i64 0) (.slice none 0 0) (.slice none 0 0) := B1.out.under HC.out.bel (by omega)
        have r0 := br.c0
        have r1 := br.c1
        have r2 := br.c2
        have r3 := br.c3
        have s0 := br.free 0
        have s1 := br.free 1
        have s2 := br.free 2
        have s3 := br.free 3
        have BR := Lib.hid br
        clear br
        go_wp2_with fail
        generalize hU : ((((wr).setCell ⟨H + 1, 0, none⟩ (.int .i64 a.kind)).setCell ⟨H + 1, 1, none⟩ (.int .i64 a.num)).setCell ⟨H + 1, 2, none⟩ (.slice LL a.labels.length lc)).setCell ⟨H + 1, 3, none⟩ (.slice A' KS.length d') = U
        have hgU : (wr).grownBy U (some (H + 1)) := by rw [← hU]; exact grown_set (grown_set (grown_set (grown_set (World.grownBy.refl _ _) _) _) _) _
        have u1 : Box4 U (H + 1) 47 (.int .i64 a.kind) (.int .i64 a.num) (.slice LL a.labels.length lc) (.slice A' KS.length d') := by
          rw [← hU]
          exact (((BR.out.set0 _).set1 _).set2 _).set3 _
        have HRR : Hid (MadeV (.node a ks) w (.returned (.agg #[.int .i64 a.kind, .int .i64 a.num, .slice LL a.labels.length lc, .slice A' KS.length d'])) U) := by
          show MadeV _ _ _ _
          rw [HCAN.out]
          have hd := copyV_done (w := w) (W1 := W1) (G := H + 1) HX.out (ks := KS) (by have := HKL.out; omega) HC.out HB1.out (by omega) (by have := HH.out; omega) hgU
          exact hd
        have t0 := u1.c0
        have t1 := u1.c1
        have t2 := u1.c2
        have t3 := u1.c3
        clear hU hgU u1 g0 g1 g2 g3 r0 r1 r2 r3 s0 s1 s2 s3
        exact bodyPost_ret (v := .agg #[.int .i64 a.kind, .int .i64 a.num, .slice LL a.labels.length lc, .slice A' KS.length d']) (by simp [results, Tryz.results29, go_sem, t0, t1, t2, t3]) rfl HRR.out
end Go.Proofs.YtlikmgkjilmjpaaGreat
