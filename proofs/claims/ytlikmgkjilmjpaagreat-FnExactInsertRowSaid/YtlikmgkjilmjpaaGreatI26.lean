/-
  Merged by program: L5Copy, InsM.
-/
import Derived.Test.YtlikmgkjilmjpaaGreatI11
import Derived.Test.YtlikmgkjilmjpaaGreatI25
import Derived.Test.YtlikmgkjilmjpaaGreatI5

/-
  The model's l5Copy: a value made anew. Written by mkl5copy.py.
-/
namespace Go.Proofs.YtlikmgkjilmjpaaGreat
open Go.RowKit

def CopK (t : Va) : Prop := ∀ (w : World) (cs : List Value), RVa w t cs → wv t ≤ 1048576 → Calls Tryz.prog 29 #[.agg cs.toArray] w (MadeV t w)

set_option maxHeartbeats 4000000 in
set_option maxRecDepth 100000 in
theorem l5Copy_any : ∀ t : Va, CopK t := by
  obtain ⟨i0, hi, hz0, hz1, hz2⟩ := info_parts infoStr
  obtain ⟨i1, hi1, hy0, hy1, hy2⟩ := info_parts infoVa
  refine Tr.ind ?_
  intro a ks ih w cs h hw
  obtain ⟨L, c, A, d, rfl, k1, hok, k6, hp⟩ := h.out
  obtain ⟨KS, hKS⟩ : ∃ KS : List Va, ks = KS := ⟨_, rfl⟩
  have hKL : KS.length = ks.length := by rw [← hKS]
  have hKk : ∀ k (h : k < ks.length) (h' : k < KS.length), KS[k] = ks[k] := fun k h h' => by subst hKS; rfl
  have hcan : (Tr.node a ks : Va) = .node a KS := by rw [hKS]
  have hwk : ∀ t ∈ ks, wv t ≤ 1048576 := fun t ht => by
    have h1 := kid_le_sum wv ht
    rw [wv_node] at hw
    unfold wvK at hw
    omega
  rw [wv_node] at hw
  have hl : a.labels.length ≤ 1048576 := by unfold wvA at hw; omega
  have hkl : ks.length ≤ 1048576 := by unfold wvK at hw; omega
  obtain ⟨W1, hW1⟩ : ∃ W1, (w.alloc (.cells #[.int .i64 a.kind, .int .i64 a.num, .slice L a.labels.length c, .slice A ks.length d] 47)).alloc (.cells #[.int .i64 0, .int .i64 0, .slice none 0 0, .slice none 0 0] 47) = W1 := ⟨_, rfl⟩
  obtain ⟨H, hH⟩ : ∃ H, w.heap.size = H := ⟨_, rfl⟩
  have b0 : Box4 W1 H 47 (.int .i64 a.kind) (.int .i64 a.num) (.slice L a.labels.length c) (.slice A ks.length d) := by rw [← hW1, ← hH]; exact (Box4.new w _ _ _ _ _).alloc _
  have b1 : Box4 W1 (H + 1) 47 (.int .i64 0) (.int .i64 0) (.slice none 0 0) (.slice none 0 0) := by
    rw [← hW1, ← hH]
    have := Box4.new (w.alloc (.cells #[.int .i64 a.kind, .int .i64 a.num, .slice L a.labels.length c, .slice A ks.length d] 47)) 47 (.int .i64 0) (.int .i64 0) (.slice none 0 0) (.slice none 0 0)
    simpa using this
  have hb1 : Below w.heap.size w W1 := by rw [← hW1]; exact ((Below.refl _ _).alloc (Nat.le_refl _) _).alloc (by simp) _
  obtain ⟨N, hN⟩ : ∃ N, W1.heap.size = N := ⟨_, rfl⟩
  have hHN : H + 2 = N := by rw [← hN, ← hW1, ← hH]; simp
  have o1 : (W1.alloc (.cells #[] 9)).drew.ownsRow N 9 1 (.slice (some ⟨N, 0, none⟩) 0 0) 0 [] := by
    have := World.ownsRow_made (base := N) (size := 1) (e := 9) W1 #[] 0 (by omega) (by unfold maxLen; omega) (by simp)
    rw [hN] at this
    exact this
  have o2 : ((W1.alloc (.cells #[] 9)).alloc (.cells #[.int .i64 0, .int .i64 0, .slice none 0 0, .slice none 0 0] 47)).drew.ownsRow N 9 1 (.slice (some ⟨N, 0, none⟩) 0 0) 0 [] := World.ownsRow.alloc (w := W1.alloc (.cells #[] 9)) o1 _
  have o3 : ((W1.alloc (.cells #[.int .i64 0, .int .i64 0, .slice none 0 0, .slice none 0 0] 47)).alloc (.cells #[] 9)).drew.ownsRow N 9 1 (.slice (some ⟨N + 1, 0, none⟩) 0 0) 0 [] := by
    have := World.ownsRow_made (base := N) (size := 1) (e := 9) (W1.alloc (.cells #[.int .i64 0, .int .i64 0, .slice none 0 0, .slice none 0 0] 47)) #[] 0 (by simp; omega) (by unfold maxLen; omega) (by simp)
    simp only [World.size_alloc, hN] at this
    exact this
  have d1 : Below W1.heap.size W1 (W1.alloc (.cells #[] 9)).drew := ((Below.refl _ _).alloc (Nat.le_refl _) _).drew
  have d2 : Below W1.heap.size W1 ((W1.alloc (.cells #[] 9)).alloc (.cells #[.int .i64 0, .int .i64 0, .slice none 0 0, .slice none 0 0] 47)).drew := (((Below.refl _ _).alloc (Nat.le_refl _) _).alloc (by simp) _).drew
  have d3 : Below W1.heap.size W1 ((W1.alloc (.cells #[.int .i64 0, .int .i64 0, .slice none 0 0, .slice none 0 0] 47)).alloc (.cells #[] 9)).drew := (((Below.refl _ _).alloc (Nat.le_refl _) _).alloc (by simp) _).drew
  have z2 : Box4 ((W1.alloc (.cells #[] 9)).alloc (.cells #[.int .i64 0, .int .i64 0, .slice none 0 0, .slice none 0 0] 47)).drew (N + 1) 47 (.int .i64 0) (.int .i64 0) (.slice none 0 0) (.slice none 0 0) := by
    have := Box4.new (W1.alloc (.cells #[] 9)) 47 (.int .i64 0) (.int .i64 0) (.slice none 0 0) (.slice none 0 0)
    simp only [World.size_alloc, hN] at this
    exact this
  have z3 : Box4 ((W1.alloc (.cells #[.int .i64 0, .int .i64 0, .slice none 0 0, .slice none 0 0] 47)).alloc (.cells #[] 9)).drew N 47 (.int .i64 0) (.int .i64 0) (.slice none 0 0) (.slice none 0 0) := by
    have := (Box4.new W1 47 (.int .i64 0) (.int .i64 0) (.slice none 0 0) (.slice none 0 0)).alloc (.cells #[] 9)
    rw [hN] at this
    exact this
  have O1 := Lib.hid o1
  have O2 := Lib.hid o2
  have O3 := Lib.hid o3
  have D1 := Lib.hid d1
  have D2 := Lib.hid d2
  have D3 := Lib.hid d3
  have Z2 := Lib.hid z2
  have Z3 := Lib.hid z3
  have HW1 := Lib.hid hW1
  have HP := Lib.hid (hp.keep hb1)
  have HL := Lib.hid (k1.below hb1)
  have HB1 := Lib.hid hb1
  have HX := Lib.hid hok
  have HKL := Lib.hid hKL
  have HKk := Lib.hid hKk
  have HCAN := Lib.hid hcan
  have HI := Lib.hid ih
  have B0 := Lib.hid b0
  have B1 := Lib.hid b1
  have HH := Lib.hid hH
  have HWK := Lib.hid hwk
  have HHN := Lib.hid hHN
  have HN := Lib.hid hN
  clear hKS hKL hKk hcan hp ih k1 hok h hw hW1 hb1 hwk hHN o1 o2 o3 d1 d2 d3 z2 z3
  have x0 := b0.c0
  have x1 := b0.c1
  have x2 := b0.c2
  have hHlt : H < W1.heap.size := b0.lt
  clear b0 b1
  have n0 := World.new_ne W1 _ x0
  have n1 := World.new_ne W1 _ x1
  have n2 := World.new_ne W1 _ x2
  have hHN0 : H ≠ N := by omega
  have hHN1 : H ≠ N + 1 := by omega
  go_enter Tryz.func29, Tryz.ntmps29
  go_upto_region 1 with (fail)
  rw [HW1.out]
  go_cut [3] from 5 to 13 (fun s3 wx => C0V a KS W1 s3 wx)
  case first =>
    go_region_held3 (fun w' => w'.cell? ⟨H, 0, none⟩ = some (.int .i64 a.kind) ∧ w'.cell? ⟨H, 1, none⟩ = some (.int .i64 a.num) ∧ w'.cell? ⟨H, 2, none⟩ = some (.slice L a.labels.length c)) (first | go_keep | exact ⟨cell_four q0 hHN1, cell_four q1 hHN1, cell_four q2 hHN1⟩ | exact ⟨cell_four q0 hHN0, cell_four q1 hHN0, cell_four q2 hHN0⟩)
      (first
        | (refine step_append_new (by rfl) (.tmp 9) (.tmp 11) 28 (by rfl) N 9 i0 _ 16 Tryz.underlying28 hi hz0 hz1 hz2 (by rfl) (.slice (some ⟨N, 0, none⟩) 0 0) (by rfl) O1.out L a.labels.length c (a.labels.map Value.string) (by rfl) (by simp) (HL.out.below D1.out) (strs_oneCell _) (by unfold maxLen; omega) (by omega) (by simp; omega) ?_; intro LL lc w' hown hgr hor; have bq := (B0.out.under D1.out hHlt).grown hgr (by show some H ≠ some N; intro e; injection e with e; omega); have q0 := bq.c0; have q1 := bq.c1; have q2 := bq.c2; have n0 := World.new_ne w' _ q0; have n1 := World.new_ne w' _ q1; have n2 := World.new_ne w' _ q2; have HOW := Lib.hid hown; have HGR := Lib.hid hgr; have HOR := Lib.hid hor; clear hown hgr hor bq)
        | (refine step_append_new (by rfl) (.tmp 9) (.tmp 11) 28 (by rfl) N 9 i0 _ 16 Tryz.underlying28 hi hz0 hz1 hz2 (by rfl) (.slice (some ⟨N, 0, none⟩) 0 0) (by rfl) O2.out L a.labels.length c (a.labels.map Value.string) (by rfl) (by simp) (HL.out.below D2.out) (strs_oneCell _) (by unfold maxLen; omega) (by omega) (by simp; omega) ?_; intro LL lc w' hown hgr hor; have bq := (B0.out.under D2.out hHlt).grown hgr (by show some H ≠ some N; intro e; injection e with e; omega); have q0 := bq.c0; have q1 := bq.c1; have q2 := bq.c2; have n0 := World.new_ne w' _ q0; have n1 := World.new_ne w' _ q1; have n2 := World.new_ne w' _ q2; have bz := Z2.out.grown hgr (by show some (N + 1) ≠ some N; intro e; injection e with e; omega); have t0 := bz.c0; have t1 := bz.c1; have t2 := bz.c2; have t3 := bz.c3; have f0 := bz.free 0; have f1 := bz.free 1; have f2 := bz.free 2; have f3 := bz.free 3; have HOW := Lib.hid hown; have HGR := Lib.hid hgr; have HOR := Lib.hid hor; clear hown hgr hor bq bz)
        | (refine step_append_new (by rfl) (.tmp 9) (.tmp 11) 28 (by rfl) N 9 i0 _ 16 Tryz.underlying28 hi hz0 hz1 hz2 (by rfl) (.slice (some ⟨N + 1, 0, none⟩) 0 0) (by rfl) O3.out L a.labels.length c (a.labels.map Value.string) (by rfl) (by simp) (HL.out.below D3.out) (strs_oneCell _) (by unfold maxLen; omega) (by omega) (by simp; omega) ?_; intro LL lc w' hown hgr hor; have bq := (B0.out.under D3.out hHlt).grown hgr (by show some H ≠ some (N + 1); intro e; injection e with e; omega); have q0 := bq.c0; have q1 := bq.c1; have q2 := bq.c2; have n0 := World.new_ne w' _ q0; have n1 := World.new_ne w' _ q1; have n2 := World.new_ne w' _ q2; have bz := Z3.out.grown hgr (by show some N ≠ some (N + 1); intro e; injection e with e; omega); have t0 := bz.c0; have t1 := bz.c1; have t2 := bz.c2; have t3 := bz.c3; have f0 := bz.free 0; have f1 := bz.free 1; have f2 := bz.free 2; have f3 := bz.free 3; have HOW := Lib.hid hown; have HGR := Lib.hid hgr; have HOR := Lib.hid hor; clear hown hgr hor bq bz))
    · go_wp2_with fail
      go_meet
      case rel =>
        have hb3 := D1.out.grown HGR.out D1.out.size (fun k hk => by have e : some N = some k := hk; injection e with e; omega)
        exact c0V_at (hb3.alloc hb3.size _) (Box4.new w' _ _ _ _ _) hb3.size (HOW.out.alloc _) (by omega) (fun b hm e => by have := (HOW.out.lt b ((blk_own LL _ lc b).2 hm)).2; omega)
    · go_wp2_with fail
      go_meet
      case rel =>
        have hb3 := D2.out.grown HGR.out D2.out.size (fun k hk => by have e : some N = some k := hk; injection e with e; omega)
        exact c0V_of hb3 (Z2.out.grown HGR.out (by show some (N + 1) ≠ some N; intro e; injection e with e; omega)) (by omega) HOW.out (by omega) (fun b hm e => by
          rcases HOR.out b hm with h | h
          · have e' : some N = some b := h
            injection e' with e'
            omega
          · simp only [World.size_drew, World.size_alloc] at h; omega)
    · go_wp2_with fail
      go_meet
      case rel =>
        have hb3 := D3.out.grown HGR.out D3.out.size (fun k hk => by have e : some (N + 1) = some k := hk; injection e with e; omega)
        exact c0V_of hb3 (Z3.out.grown HGR.out (by show some N ≠ some (N + 1); intro e; injection e with e; omega)) (by omega) HOW.out (by omega) (fun b hm e => by
          rcases HOR.out b hm with h | h
          · have e' : some (N + 1) = some b := h
            injection e' with e'
            omega
          · simp only [World.size_drew, World.size_alloc] at h; omega)
  case rest =>
    obtain ⟨g, LL, lc, rfl, hci⟩ := hcut
    have hHN1 := HHN.out
    clear x0 x1 x2 n0 n1 n2 hHlt
    go_wp2_with fail
    go_loopw [4] (fun i wr => CRelV a KS W1 g LL lc i wr) (fun i _ => ks.length - (intOf i).toNat)
    case atStart => exact ⟨0, none, 0, [], fun _ => [], Nat.zero_le _, rfl, hci⟩
    case round =>
      obtain ⟨k, A', d', xs, fs, hk, rfl, hc⟩ := hrel
      have HC := Lib.hid hc
      have hbw := hc.bel
      have y2 := (B0.out.under hbw (by omega)).c3
      have y0 := (B0.out.under hbw (by omega)).c0
      clear hc hci
      by_cases hlt : k < ks.length
      · have hlt' : k < KS.length := by rw [HKL.out]; exact hlt
        have hKc := HKk.out k hlt hlt'
        obtain ⟨ad, p, c0, c1, c2, c3, rfl, hpe, hr, q0, q1, q2, q3⟩ := vid_at HP.out hbw hlt
        have g2 := HC.out.box.c3
        have HR := Lib.hid hr
        clear hr hbw
        go_wp2_with fail
        have HD := Lib.hid HC.out.drew
        have HCC := Lib.hid (HI.out ks[k] (List.getElem_mem hlt) wr.drew [c0, c1, c2, c3] (HR.out.keep (Below.refl _ _).drew) (HWK.out _ (List.getElem_mem hlt)))
        obtain ⟨x0, hx0⟩ : ∃ x0, ks[k].top.kind = x0 := ⟨_, rfl⟩
        obtain ⟨x1, hx1⟩ : ∃ x1, ks[k].top.labels.length = x1 := ⟨_, rfl⟩
        obtain ⟨x2, hx2⟩ : ∃ x2, ks[k].kids.length = x2 := ⟨_, rfl⟩
        obtain ⟨x3, hx3⟩ : ∃ x3, ks[k].top.num = x3 := ⟨_, rfl⟩
        have HNX : Hid (∀ (w2 : World) (fp : List Nat) (L2 A2 : Option Addr) (l2 d2 : Nat), OVa w2 ks[k] [.int .i64 x0, .int .i64 x3, .slice L2 x1 l2, .slice A2 x2 d2] fp → (∀ b ∈ fp, wr.drew.heap.size ≤ b ∧ b < w2.heap.size) → Below wr.drew.heap.size wr.drew w2 →
            ∀ (i : Value) (A4 : Option Addr) (d4 : Nat) (w4 : World), i = .int .i64 ((k + 1 : Nat) : Int) → w4.ownsRow 0 47 4 (.slice A4 (k + 1) d4) (k + 1) (xs ++ [.int .i64 x0, .int .i64 x3, .slice L2 x1 l2, .slice A2 x2 d2]) →
            (w2.alloc (.cells #[.int .i64 x0, .int .i64 x3, .slice L2 x1 l2, .slice A2 x2 d2] 47)).grownBy w4 (Value.slice A' k d').ownBlock → ((Value.slice A4 (k + 1) d4).ownBlock = (Value.slice A' k d').ownBlock ∨ (Value.slice A4 (k + 1) d4).ownBlock = some (w2.heap.size + 1)) →
            CRelV a KS W1 g LL lc i (w4.setCell ⟨g, 3, none⟩ (.slice A4 (k + 1) d4))) := by
          intro w2 fp L2 A2 l2 d2 hot hfp hb2 i A4 d4 w4 hii h1 h2 h3
          obtain ⟨A5, d5, fs', e, hcv⟩ := cinvV_more HD.out hlt' hb2 (by rw [hKc]; exact hot) hfp h1 h2 h3
          injection e with e1 _ e3
          subst e1
          subst e3
          exact ⟨k + 1, A4, d4, _, fs', hlt', hii, hcv⟩
        have HCD : Hid (∀ (e : Ending) (w2 : World), MadeV ks[k] wr.drew e w2 → ∃ (L2 A2 : Option Addr) (l2 d2 : Nat), e = .returned (.agg #[.int .i64 x0, .int .i64 x3, .slice L2 x1 l2, .slice A2 x2 d2]) ∧ w2.cell? ⟨g, 3, none⟩ = some (.slice A' k d') ∧
            (w2.alloc (.cells #[.int .i64 x0, .int .i64 x3, .slice L2 x1 l2, .slice A2 x2 d2] 47)).ownsRow 0 47 4 (.slice A' k d') k xs ∧
            Box4 (w2.alloc (.cells #[.int .i64 x0, .int .i64 x3, .slice L2 x1 l2, .slice A2 x2 d2] 47)) g 47 (.int .i64 a.kind) (.int .i64 a.num) (.slice LL a.labels.length lc) (.slice A' k d') ∧
            ∀ (i : Value) (A4 : Option Addr) (d4 : Nat) (w4 : World), i = .int .i64 ((k + 1 : Nat) : Int) → w4.ownsRow 0 47 4 (.slice A4 (k + 1) d4) (k + 1) (xs ++ [.int .i64 x0, .int .i64 x3, .slice L2 x1 l2, .slice A2 x2 d2]) →
            (w2.alloc (.cells #[.int .i64 x0, .int .i64 x3, .slice L2 x1 l2, .slice A2 x2 d2] 47)).grownBy w4 (Value.slice A' k d').ownBlock → ((Value.slice A4 (k + 1) d4).ownBlock = (Value.slice A' k d').ownBlock ∨ (Value.slice A4 (k + 1) d4).ownBlock = some (w2.heap.size + 1)) →
            CRelV a KS W1 g LL lc i (w4.setCell ⟨g, 3, none⟩ (.slice A4 (k + 1) d4))) := by
          rintro e w2 ⟨L2, A2, l2, d2, fp, rfl, hot, hfp, hb2⟩
          rw [hx0, hx1, hx2, hx3] at hot ⊢
          have hd2 : Below wr.drew.heap.size wr.drew (w2.alloc (.cells #[.int .i64 x0, .int .i64 x3, .slice L2 x1 l2, .slice A2 x2 d2] 47)) := hb2.alloc hb2.size _
          exact ⟨L2, A2, l2, d2, rfl, (HD.out.box.under hb2 HD.out.box.lt).c3, own4_below HD.out.row hd2, HD.out.box.under hd2 HD.out.box.lt, HNX.out w2 fp L2 A2 l2 d2 hot hfp hb2⟩
        clear hx0 hx1 hx2 hx3 HNX hKc
        go_wp2_with fail
        go_region_law (first
          | (go_simp; refine HCC.out.mono ?_; rintro e w2 hmade; obtain ⟨L2, A2, l2, d2, rfl, e2, hrw, hbx, hnx⟩ := HCD.out _ _ hmade; clear hmade; have e3 := hbx.c3; have HRW := Lib.hid hrw; have HBX := Lib.hid hbx; have HNX := Lib.hid hnx; clear hrw hbx hnx; have HNW := Lib.hid (news4 w2 (.int .i64 x0) (.int .i64 x3) (.slice L2 x1 l2) (.slice A2 x2 d2) 47); have m2 := World.new_ne w2 _ e2)
          | (refine step_append_at (by rfl) (.tmp 22) (.tmp 29) 45 (by rfl) 0 47 i1 _ 4 64 Tryz.underlying45 hi1 hy0 hy1 hy2 (by rfl) (by omega) (.slice A' k d') k xs (by rfl) HRW.out ⟨w2.heap.size, 0, none⟩ 1 1 [.int .i64 x0, .int .i64 x3, .slice L2 x1 l2, .slice A2 x2 d2] (by rfl) (by rfl) HNW.out (one4 _ _ _ _ _ _ _ _) (by unfold maxLen; omega) (by omega) (Nat.zero_le _) ?_; intro A4 d4 w4 hown4 hgr4 hor4; have bx4 := HBX.out.grown hgr4 HD.out.apart; have g4 := bx4.c3; have f4 := bx4.free 3; have HNW4 := Lib.hid (fun i hi => HNX.out i A4 d4 w4 hi hown4 hgr4 (by simpa using hor4)); clear hown4 hgr4 hor4 bx4))
        all_goals go_wp2_with fail
        all_goals go_roundw
        all_goals first
          | exact HNW4.out _ (by go_num)
          | (simp [intOf]; omega)
      · have he : k = KS.length := by rw [HKL.out] at hk ⊢; omega
        subst he
        clear hbw
        have g0 : (wr).cell? ⟨g, 0, none⟩ = some (.int .i64 a.kind) := HC.out.box.c0
        have g1 : (wr).cell? ⟨g, 1, none⟩ = some (.int .i64 a.num) := HC.out.box.c1
        have g2 : (wr).cell? ⟨g, 2, none⟩ = some (.slice LL a.labels.length lc) := HC.out.box.c2
        have g3 : (wr).cell? ⟨g, 3, none⟩ = some (.slice A' KS.length d') := HC.out.box.c3
        have br : Box4 (wr) (H + 1) 47 (.int .i64 0) (.int .i64 0) (.slice none 0 0) (.slice none 0 0) := B1.out.under HC.out.bel (by omega)
        have r0 := br.c0
        have r1 := br.c1
        have r2 := br.c2
        have r3 := br.c3
        have s0 := br.free 0
        have s1 := br.free 1
        have s2 := br.free 2
        have s3 := br.free 3
        have BR := Lib.hid br
        clear br
        go_wp2_with fail
        generalize hU : ((((wr).setCell ⟨H + 1, 0, none⟩ (.int .i64 a.kind)).setCell ⟨H + 1, 1, none⟩ (.int .i64 a.num)).setCell ⟨H + 1, 2, none⟩ (.slice LL a.labels.length lc)).setCell ⟨H + 1, 3, none⟩ (.slice A' KS.length d') = U
        have hgU : (wr).grownBy U (some (H + 1)) := by rw [← hU]; exact grown_set (grown_set (grown_set (grown_set (World.grownBy.refl _ _) _) _) _) _
        have u1 : Box4 U (H + 1) 47 (.int .i64 a.kind) (.int .i64 a.num) (.slice LL a.labels.length lc) (.slice A' KS.length d') := by
          rw [← hU]
          exact (((BR.out.set0 _).set1 _).set2 _).set3 _
        have HRR : Hid (MadeV (.node a ks) w (.returned (.agg #[.int .i64 a.kind, .int .i64 a.num, .slice LL a.labels.length lc, .slice A' KS.length d'])) U) := by
          show MadeV _ _ _ _
          rw [HCAN.out]
          have hd := copyV_done (w := w) (W1 := W1) (G := H + 1) HX.out (ks := KS) (by have := HKL.out; omega) HC.out HB1.out (by omega) (by have := HH.out; omega) hgU
          exact hd
        have t0 := u1.c0
        have t1 := u1.c1
        have t2 := u1.c2
        have t3 := u1.c3
        clear hU hgU u1 g0 g1 g2 g3 r0 r1 r2 r3 s0 s1 s2 s3
        exact bodyPost_ret (v := .agg #[.int .i64 a.kind, .int .i64 a.num, .slice LL a.labels.length lc, .slice A' KS.length d']) (by simp [results, Tryz.results29, go_sem, t0, t1, t2, t3]) rfl HRR.out
end Go.Proofs.YtlikmgkjilmjpaaGreat

/-
  A value appended to a table's rows in a database of the call's own: what lies in memory.
-/
namespace Go.Proofs.YtlikmgkjilmjpaaGreat
open Go.RowKit

theorem setCell_swap (w : World) {p q : Addr} (u v : Value) (h : p.block ≠ q.block) : (w.setCell p u).setCell q v = (w.setCell q v).setCell p u := by
  unfold World.setCell
  congr 1
  apply Array.ext_getElem?
  intro i
  simp only [Array.getElem?_modify]
  by_cases h1 : p.block = i
  · have h2 : ¬ q.block = i := fun e => h (h1.trans e.symm)
    simp [h1, h2]
  · simp [h1]
theorem ins_mem {w4 Z w8 : World} {s : Db} {nm : ByteArray} {g j d9 d5 d7 : Nat} {A5 A7 : Option Addr} {cells cells5 rs : List Value} {fs fs5 : Nat → List Nat} {fp fx : List Nat} {v : Va}
    (h : OLc kDd 66 w4 s (some ⟨g, 0, none⟩) d9 cells fs fp) (hj : j < s.length) (hnm : s[j].1 = nm) (hs : nm.size ≤ 9223372036854775807) (hc0 : cells[j * 2]? = some (.string nm))
    (hi : OLc kVa 47 w4 s[j].2 A5 d5 cells5 fs5 (fs j)) (hn : s[j].2.length + 1 ≤ 9223372036854775807) (hfl : ∀ b ∈ fp, b < w4.heap.size) (h4Z : Below w4.heap.size w4 Z)
    (hx : OVa Z v rs fx) (hfx : ∀ b ∈ fx, w4.heap.size ≤ b ∧ b < Z.heap.size)
    (hown : w8.ownsRow 0 47 4 (.slice A7 (s[j].2.length + 1) d7) (s[j].2.length + 1) (cells5 ++ rs)) (hgr : Z.grownBy w8 (Value.slice A5 s[j].2.length d5).ownBlock)
    (hor : (Value.slice A7 (s[j].2.length + 1) d7).ownBlock = (Value.slice A5 s[j].2.length d5).ownBlock ∨ (Value.slice A7 (s[j].2.length + 1) d7).ownBlock = some Z.heap.size) :
    ∃ fp', ODb (w8.setCell ⟨g, j * 2 + 1, none⟩ (.slice A7 (s[j].2.length + 1) d7)) (s.set j (nm, s[j].2 ++ [v])) [.slice (some ⟨g, 0, none⟩) s.length d9] fp' ∧ ∀ b ∈ fp', b ∈ fp ∨ (w4.heap.size ≤ b ∧ b < w8.heap.size) := by
  have hsz := h4Z.size
  obtain ⟨h1, hrow, hO, hfp, hnd⟩ := h
  obtain ⟨nA, nF, dAF⟩ := List.nodup_append.1 (hfp ▸ hnd)
  have hg : g ∈ blk (some ⟨g, 0, none⟩) := by simp [blk]
  have hfj : ∀ i, i < s.length → ∀ b ∈ fs i, b ∈ fp := fun i hi b hm => by rw [hfp]; exact List.mem_append.2 (.inr (List.mem_flatMap.2 ⟨i, List.mem_range.2 hi, hm⟩))
  have hA5 : ∀ b ∈ blk A5, b ∈ fs j := fun b hb => by rw [hi.2.2.2.1]; exact List.mem_append.2 (.inl hb)
  have hH := Held.of_grown hgr
  have notA5 : ∀ b, b ∉ blk A5 → some b ≠ (Value.slice A5 s[j].2.length d5).ownBlock := fun b hm e1 => hm ((blk_own A5 _ d5 b).1 e1.symm)
  obtain ⟨fs', fp1, h6, hf6⟩ := olc_append (a := kVa) (hi.under h4Z) hn hx (fun b hb hm => by have := hfl b (hfj j hj b hm); have := hfx b hb; omega) (fun b hb => (hfx b hb).2) (fun b hb => by have := hfl b (hfj j hj b hb); omega) hown hgr hor
  have hl6 : (s[j].2 ++ [v]).length = s[j].2.length + 1 := by rw [List.length_append]; rfl
  have hol := h6.ol
  rw [hl6] at hol
  have hgj : g ∉ fs j := fun hm => dAF g hg g (List.mem_flatMap.2 ⟨j, List.mem_range.2 hj, hm⟩) rfl
  have hrow8 : w8.ownsRow 0 66 2 (.slice (some ⟨g, 0, none⟩) s.length d9) s.length cells := own_heldK (own_keep hrow (row := none) (grown_none h4Z) (fun b _ => by simp)) hH fun b hb => notA5 b fun hm => by
    have hbg : b = g := by simpa [blk] using hb
    subst hbg
    exact hgj (hA5 _ hm)
  obtain ⟨fp', h7, hf7⟩ := own_rows (fp := fp) (fp1 := fp1) hrow8 h1 hfp hnd (fun i x hne hx => by
    have hil := (List.getElem?_eq_some_iff.1 hx).1
    exact kDd.held (kDd.under (hO i x hx) h4Z) hH fun b hb => notA5 b fun hm => flat_dis nF hil hj hne b hb (hA5 b hm)) hj hnm hs hc0 hol (fun b hb => by
    rcases (hf6 b hb).1 with h | h | h
    · exact .inl h
    · exact .inr fun hm => by have := hfl b hm; have := hfx b h; omega
    · exact .inr fun hm => by have := hfl b hm; omega)
  refine ⟨fp', h7, fun b hb => ?_⟩
  rcases hf7 b hb with h | h
  · exact .inl h
  · have h9 := (hf6 b h).2
    rcases (hf6 b h).1 with h | h | h
    · exact .inl (hfj j hj b h)
    · exact .inr ⟨(hfx b h).1, h9⟩
    · exact .inr ⟨by omega, h9⟩
/-- ahead of the store into the table: what is read there -/
theorem ins_here {w w4 Z w7 : World} {s : Db} {g j d9 d5 n K H : Nat} {A5 : Option Addr} {cells cells5 : List Value} {fs fs5 : Nat → List Nat} {fp : List Nat}
    (h : OLc kDd 66 w4 s (some ⟨g, 0, none⟩) d9 cells fs fp) (hj : j < s.length) (hnl : s[j].2.length = n) (hc1 : cells[j * 2 + 1]? = some (.slice A5 n d5))
    (hi : OLc kVa 47 w4 s[j].2 A5 d5 cells5 fs5 (fs j)) (hf : ∀ b ∈ fp, w.heap.size ≤ b ∧ b < K ∧ H + 3 < b) (bk : Box1 w4 K 37 (.slice (some ⟨g, 0, none⟩) s.length d9)) (h4Z : Below w4.heap.size w4 Z) (hgr : Z.grownBy w7 (Value.slice A5 n d5).ownBlock) :
    w7.cell? ⟨K, 0, none⟩ = some (.slice (some ⟨g, 0, none⟩) s.length d9) ∧ w7.cell? ⟨g, j * 2 + 1, none⟩ = some (.slice A5 n d5) ∧ w7.frozen? ⟨g, j * 2 + 1, none⟩ = false ∧ (∀ b, (Value.slice A5 n d5).ownBlock = some b → b ≠ g ∧ b < K ∧ H + 3 < b ∧ w.heap.size ≤ b) := by
  subst hnl
  have hfp := h.2.2.2.1
  have hA : ∀ b, (Value.slice A5 s[j].2.length d5).ownBlock = some b → b ∈ fs j := fun b e => by rw [hi.2.2.2.1]; exact List.mem_append.2 (.inl ((blk_own A5 _ d5 b).1 e))
  have hAp : ∀ b ∈ fs j, b ∈ fp := fun b hb => by rw [hfp]; exact List.mem_append.2 (.inr (List.mem_flatMap.2 ⟨j, List.mem_range.2 hj, hb⟩))
  have hne : ∀ b ∈ fs j, b ≠ g := fun b hb e => by
    have hnd := h.2.2.2.2
    rw [hfp] at hnd
    exact (List.nodup_append.1 hnd).2.2 g (by simp [blk]) b (List.mem_flatMap.2 ⟨j, List.mem_range.2 hj, hb⟩) e.symm
  have bk6 := bk.under h4Z bk.lt
  have bk7 := bk6.grown hgr (by intro e; have := hf _ (hAp _ (hA _ e.symm)); omega)
  have hrow7 := own_keep (own_keep h.row (row := none) (grown_none h4Z) (fun b _ => by simp)) hgr (fun b hb e => by
    have hbg : b = g := by simpa [blk] using hb
    exact hne b (hA b e.symm) hbg)
  have hcl : cells.length = s.length * 2 := h.row.1
  refine ⟨bk7.c0, (hrow7.cellAt (j * 2 + 1) (show j * 2 + 1 < s.length * kDd.n by rw [kDd_n]; omega)).trans hc1, hrow7.frozenAt _, fun b hb => ⟨hne b (hA b hb), (hf b (hAp b (hA b hb))).2.1, (hf b (hAp b (hA b hb))).2.2, (hf b (hAp b (hA b hb))).1⟩⟩
/-- the rows of a table in an own database, empty ones too -/
theorem olc_any {w : World} {s : Db} {g d9 j : Nat} {nm : ByteArray} {cells : List Value} {fs : Nat → List Nat} {fp : List Nat} (h : OLc kDd 66 w s (some ⟨g, 0, none⟩) d9 cells fs fp) (hj : j < s.length) (hnm : s[j].1 = nm) :
    ∃ A5 d5 cells5 fs5, cells[j * 2]? = some (.string nm) ∧ cells[j * 2 + 1]? = some (.slice A5 s[j].2.length d5) ∧ nm.size ≤ 9223372036854775807 ∧ OLc kVa 47 w s[j].2 A5 d5 cells5 fs5 (fs j) := by
  obtain ⟨TA, ta, td, hcs, hs, x, hx, ho⟩ := kDd_oopen (h.2.2.1 j _ (List.getElem?_eq_getElem hj))
  injection hx with hx _
  subst hx
  obtain ⟨rfl, cells5, fs5, h5⟩ := ho.parts
  have e : ∀ q, q < 2 → cells[j * 2 + q]? = [Value.string s[j].1, .slice TA s[j].2.length td][q]? := fun q hq => by
    rw [← hcs]
    exact (partK_get 2 cells j q hq).symm
  exact ⟨TA, td, cells5, fs5, by rw [← hnm]; exact e 0 (by omega), e 1 (by omega), by rw [← hnm]; exact hs, h5⟩
/-- what stands behind the insertion -/
def InsEnd (w : World) (K H : Nat) (vk vr vs vd : Value) (ss : Db) (cells : List Value) (W : World) : Prop :=
  Box1 W K 37 vk ∧ Box1 W (H + 3) 37 vr ∧ Box1 W H 42 vs ∧ Box1 W (H + 1) 37 vd ∧ Below w.heap.size w W ∧ ∃ fp', ODb W ss cells fp' ∧ ∀ b ∈ fp', w.heap.size ≤ b ∧ b < W.heap.size ∧ b ≠ H + 3
/-- behind it: the database, and the boxes -/
theorem ins_next {w w4 Z w8 : World} {s : Db} {nm : ByteArray} {g j d9 d5 d7 n K H : Nat} {A5 A7 : Option Addr} {cells cells5 rs : List Value} {fs fs5 : Nat → List Nat} {fp fx : List Nat} {v : Va} {a b c : Value}
    (h : OLc kDd 66 w4 s (some ⟨g, 0, none⟩) d9 cells fs fp) (hj : j < s.length) (hnl : s[j].2.length = n) (hnm : s[j].1 = nm) (hs : nm.size ≤ 9223372036854775807) (hc0 : cells[j * 2]? = some (.string nm)) (hc1 : cells[j * 2 + 1]? = some (.slice A5 n d5))
    (hi : OLc kVa 47 w4 s[j].2 A5 d5 cells5 fs5 (fs j)) (hn : n + 1 ≤ 9223372036854775807) (hf : ∀ b ∈ fp, w.heap.size ≤ b ∧ b < K ∧ H + 3 < b) (hH : w.heap.size = H)
    (bk : Box1 w4 K 37 (.slice (some ⟨g, 0, none⟩) s.length d9)) (br : Box1 w4 (H + 3) 37 a) (bs : Box1 w4 H 42 b) (bd : Box1 w4 (H + 1) 37 c) (hb : Below w.heap.size w w4) (h4Z : Below w4.heap.size w4 Z)
    (hx : OVa Z v rs fx) (hfx : ∀ b ∈ fx, w4.heap.size ≤ b ∧ b < Z.heap.size)
    (hown : w8.ownsRow 0 47 4 (.slice A7 (n + 1) d7) (n + 1) (cells5 ++ rs)) (hgr : Z.grownBy w8 (Value.slice A5 n d5).ownBlock)
    (hor : (Value.slice A7 (n + 1) d7).ownBlock = (Value.slice A5 n d5).ownBlock ∨ (Value.slice A7 (n + 1) d7).ownBlock = some Z.heap.size) :
    InsEnd w K H (.slice (some ⟨g, 0, none⟩) s.length d9) a b c (s.set j (nm, s[j].2 ++ [v])) [.slice (some ⟨g, 0, none⟩) s.length d9] (w8.setCell ⟨g, j * 2 + 1, none⟩ (.slice A7 (n + 1) d7)) := by
  have hall := ins_here h hj hnl hc1 hi hf bk h4Z hgr
  subst hnl
  have hA := hall.2.2.2
  have hgf : g ∈ fp := by rw [h.2.2.2.1]; simp [blk]
  have b1 := hf g hgf
  have h2 := h4Z.size
  have h3 := hgr.size
  have h0 := hb.size
  have hK4 := bk.lt
  obtain ⟨fp', ho, hf'⟩ := ins_mem h hj hnm hs hc0 hi hn (fun b hb => by have := hf b hb; omega) h4Z hx hfx hown hgr hor
  have go1 : ∀ {G : Nat} {t : TypeId} {u : Value}, Box1 w4 G t u → G ≠ g → (∀ b, (Value.slice A5 s[j].2.length d5).ownBlock = some b → b ≠ G) → Box1 (w8.setCell ⟨g, j * 2 + 1, none⟩ (.slice A7 (s[j].2.length + 1) d7)) G t u := fun bx h5 h6 =>
    ((bx.under h4Z bx.lt).grown hgr (fun e => h6 _ e.symm rfl)).far h5 _
  have hbU : Below w.heap.size w (w8.setCell ⟨g, j * 2 + 1, none⟩ (.slice A7 (s[j].2.length + 1) d7)) := ((hb.trans (h4Z.mono h0)).grown hgr (by omega) (fun q hq => (hA q hq).2.2.2)).setCell (p := ⟨g, j * 2 + 1, none⟩) b1.1 _
  have hsU : w8.heap.size ≤ (w8.setCell ⟨g, j * 2 + 1, none⟩ (.slice A7 (s[j].2.length + 1) d7)).heap.size := (grown_set (World.grownBy.refl w8 (some g)) (j := j * 2 + 1) (.slice A7 (s[j].2.length + 1) d7)).size
  refine ⟨go1 bk (by omega) (fun b e => by have := hA b e; omega), go1 br (by omega) (fun b e => by have := hA b e; omega), go1 bs (by omega) (fun b e => by have := hA b e; omega), go1 bd (by omega) (fun b e => by have := hA b e; omega), hbU, fp', ho, fun b hb => ?_⟩
  have := br.lt
  rcases hf' b hb with h | h
  · have := hf b h; exact ⟨by omega, by omega, by omega⟩
  · exact ⟨by omega, by omega, by omega⟩
/-- a zero element appended, the four cells of the value stored into it -/
theorem ins_cells {w7 : World} {n d7 : Nat} {g7 : Nat} {cells5 : List Value} {z0 z1 z2 z3 r0 r1 r2 r3 : Value} (hl : cells5.length = n * 4)
    (hown : w7.ownsRow 0 47 4 (.slice (some ⟨g7, 0, none⟩) (n + 1) d7) (n + 1) (cells5 ++ [z0, z1, z2, z3])) :
    ∃ w8, (((w7.setCell ⟨g7, n * 4, none⟩ r0).setCell ⟨g7, n * 4 + 1, none⟩ r1).setCell ⟨g7, n * 4 + 2, none⟩ r2).setCell ⟨g7, n * 4 + 3, none⟩ r3 = w8 ∧ w8.ownsRow 0 47 4 (.slice (some ⟨g7, 0, none⟩) (n + 1) d7) (n + 1) (cells5 ++ [r0, r1, r2, r3]) ∧ w7.grownBy w8 (some g7) := by
  refine ⟨_, rfl, ?_, grown_set (grown_set (grown_set (grown_set (World.grownBy.refl _ _) _) _) _) _⟩
  have h1 := ((((hown.stored (n * 4) r0).1.stored (n * 4 + 1) r1).1.stored (n * 4 + 2) r2).1.stored (n * 4 + 3) r3).1
  have e : ((((cells5 ++ [z0, z1, z2, z3]).set (n * 4) r0).set (n * 4 + 1) r1).set (n * 4 + 2) r2).set (n * 4 + 3) r3 = cells5 ++ [r0, r1, r2, r3] := by
    rw [← hl]
    rw [List.set_append_right (h := by omega), List.set_append_right (h := by omega), List.set_append_right (h := by omega), List.set_append_right (h := by omega)]
    simp
  rw [e] at h1
  exact h1
theorem ins_zero {Z w7 : World} {g j n d5 d7 g7 : Nat} {A5 : Option Addr} {cells5 : List Value} {z0 z1 z2 z3 r0 r1 r2 r3 S : Value} {P : World → Prop} (hl : cells5.length = n * 4) (hg : ∀ b, (Value.slice A5 n d5).ownBlock = some b → b ≠ g) (hgZ : g < Z.heap.size)
    (hown : w7.ownsRow 0 47 4 (.slice (some ⟨g7, 0, none⟩) (n + 1) d7) (n + 1) (cells5 ++ [z0, z1, z2, z3])) (hgr : Z.grownBy w7 (Value.slice A5 n d5).ownBlock)
    (hor : (Value.slice (some ⟨g7, 0, none⟩) (n + 1) d7).ownBlock = (Value.slice A5 n d5).ownBlock ∨ (Value.slice (some ⟨g7, 0, none⟩) (n + 1) d7).ownBlock = some Z.heap.size)
    (hnext : ∀ w8 : World, w8.ownsRow 0 47 4 (.slice (some ⟨g7, 0, none⟩) (n + 1) d7) (n + 1) (cells5 ++ [r0, r1, r2, r3]) → Z.grownBy w8 (Value.slice A5 n d5).ownBlock → P (w8.setCell ⟨g, j * 2 + 1, none⟩ S)) :
    ((w7.setCell ⟨g, j * 2 + 1, none⟩ S).cell? ⟨g7, n * 4, none⟩ = some z0 ∧ (w7.setCell ⟨g, j * 2 + 1, none⟩ S).cell? ⟨g7, n * 4 + 1, none⟩ = some z1 ∧ (w7.setCell ⟨g, j * 2 + 1, none⟩ S).cell? ⟨g7, n * 4 + 2, none⟩ = some z2 ∧ (w7.setCell ⟨g, j * 2 + 1, none⟩ S).cell? ⟨g7, n * 4 + 3, none⟩ = some z3) ∧
    (∀ i, (w7.setCell ⟨g, j * 2 + 1, none⟩ S).frozen? ⟨g7, i, none⟩ = false) ∧
    P (((((w7.setCell ⟨g, j * 2 + 1, none⟩ S).setCell ⟨g7, n * 4, none⟩ r0).setCell ⟨g7, n * 4 + 1, none⟩ r1).setCell ⟨g7, n * 4 + 2, none⟩ r2).setCell ⟨g7, n * 4 + 3, none⟩ r3) := by
  have e7 : (Value.slice (some ⟨g7, 0, none⟩) (n + 1) d7).ownBlock = some g7 := rfl
  rw [e7] at hor
  have hne : g ≠ g7 := fun e => by
    rcases hor with h | h
    · exact hg g7 h.symm e.symm
    · injection h with h; omega
  obtain ⟨w8, hw8, ho8, hg8⟩ := ins_cells (r0 := r0) (r1 := r1) (r2 := r2) (r3 := r3) hl hown
  have hs7 := hgr.size
  have hgr8 : Z.grownBy w8 (Value.slice A5 n d5).ownBlock := ⟨hg8.os.trans hgr.os, hg8.tape.trans hgr.tape, hg8.output.trans hgr.output, Nat.le_trans hgr.size hg8.size, fun i hi hd => (hg8.block i (by omega) (fun e => by
    injection e with e
    subst e
    rcases hor with h | h
    · exact hd h
    · injection h with h; omega)).trans (hgr.block i hi hd)⟩
  have hX := own_keep hown (grown_set (World.grownBy.refl w7 (some g)) (j := j * 2 + 1) S) (fun b hb e => by
    have hbg : b = g7 := by simpa [blk] using hb
    injection e with e
    exact hne (e.symm.trans hbg))
  have at4 : ∀ i, i < 4 → (cells5 ++ [z0, z1, z2, z3])[n * 4 + i]? = [z0, z1, z2, z3][i]? := fun i hi => by
    rw [List.getElem?_append_right (by omega)]
    congr 1
    omega
  refine ⟨⟨(hX.cellAt (n * 4) (by omega)).trans (at4 0 (by omega)), (hX.cellAt (n * 4 + 1) (by omega)).trans (at4 1 (by omega)), (hX.cellAt (n * 4 + 2) (by omega)).trans (at4 2 (by omega)), (hX.cellAt (n * 4 + 3) (by omega)).trans (at4 3 (by omega))⟩, fun i => hX.frozenAt i, ?_⟩
  have hP := hnext w8 ho8 hgr8
  rw [← hw8] at hP
  rw [setCell_swap (p := ⟨g, j * 2 + 1, none⟩) (q := ⟨g7, n * 4, none⟩) _ _ _ hne, setCell_swap (p := ⟨g, j * 2 + 1, none⟩) (q := ⟨g7, n * 4 + 1, none⟩) _ _ _ hne, setCell_swap (p := ⟨g, j * 2 + 1, none⟩) (q := ⟨g7, n * 4 + 2, none⟩) _ _ _ hne, setCell_swap (p := ⟨g, j * 2 + 1, none⟩) (q := ⟨g7, n * 4 + 3, none⟩) _ _ _ hne]
  exact hP
/-- what a region leaves, its act by the names made in it -/
def insPost (f : Int → Int → Option Addr → Nat → Nat → Option Addr → Nat → Nat → Nat → Option Addr → Nat → Act) (R : Int → Int → Option Addr → Nat → Nat → Option Addr → Nat → Nat → Nat → Option Addr → Nat → World → Prop) : Exit → Act → World → Prop
  | .normal, a, w => ∃ (q0 q1 : Int) (L : Option Addr) (q2 l : Nat) (A : Option Addr) (q3 d G : Nat) (A7 : Option Addr) (d7 : Nat), a = f q0 q1 L q2 l A q3 d G A7 d7 ∧ R q0 q1 L q2 l A q3 d G A7 d7 w
  | _, _, _ => False
theorem ins_normal {f : Int → Int → Option Addr → Nat → Nat → Option Addr → Nat → Nat → Nat → Option Addr → Nat → Act} {R : Int → Int → Option Addr → Nat → Nat → Option Addr → Nat → Nat → Nat → Option Addr → Nat → World → Prop} {w : World} (q0 q1 : Int) (L : Option Addr) (q2 l : Nat) (A : Option Addr) (q3 d G : Nat) (A7 : Option Addr) (d7 : Nat) (h : R q0 q1 L q2 l A q3 d G A7 d7 w) : insPost f R .normal (f q0 q1 L q2 l A q3 d G A7 d7) w := ⟨q0, q1, L, q2, l, A, q3, d, G, A7, d7, rfl, h⟩
/-- a region, cut off by what it leaves -/
theorem ins_cut {c : Code} {Q : Exit → Act → World → Prop} {a : Act} {w : World} (f : Int → Int → Option Addr → Nat → Nat → Option Addr → Nat → Nat → Nat → Option Addr → Nat → Act) (R : Int → Int → Option Addr → Nat → Nat → Option Addr → Nat → Nat → Nat → Option Addr → Nat → World → Prop)
    (hq : ∀ (q0 q1 : Int) (L : Option Addr) (q2 l : Nat) (A : Option Addr) (q3 d G : Nat) (A7 : Option Addr) (d7 : Nat) (w' : World), R q0 q1 L q2 l A q3 d G A7 d7 w' → Q .normal (f q0 q1 L q2 l A q3 d G A7 d7) w') (h : c.wp Tryz.prog (insPost f R) a w) : c.wp Tryz.prog Q a w :=
  Code.wp_mono (fun e a' w' h => by
    cases e with
    | normal =>
      obtain ⟨q0, q1, L, q2, l, A, q3, d, G, A7, d7, h2, h3⟩ := h
      subst h2
      exact hq q0 q1 L q2 l A q3 d G A7 d7 w' h3
    | _ => exact False.elim h) h
/-- what a region leaves, its act by the names made in it -/
def insPost6 (f : Int → Int → Option Addr → Nat → Nat → Option Addr → Nat → Nat → Nat → Nat → Nat → Act) (R : Int → Int → Option Addr → Nat → Nat → Option Addr → Nat → Nat → Nat → Nat → Nat → World → Prop) : Exit → Act → World → Prop
  | .normal, a, w => ∃ (q0 q1 : Int) (L : Option Addr) (q2 l : Nat) (A : Option Addr) (q3 d G A7 d7 : Nat), a = f q0 q1 L q2 l A q3 d G A7 d7 ∧ R q0 q1 L q2 l A q3 d G A7 d7 w
  | _, _, _ => False
theorem ins_normal6 {f : Int → Int → Option Addr → Nat → Nat → Option Addr → Nat → Nat → Nat → Nat → Nat → Act} {R : Int → Int → Option Addr → Nat → Nat → Option Addr → Nat → Nat → Nat → Nat → Nat → World → Prop} {w : World} (q0 q1 : Int) (L : Option Addr) (q2 l : Nat) (A : Option Addr) (q3 d G A7 d7 : Nat) (h : R q0 q1 L q2 l A q3 d G A7 d7 w) : insPost6 f R .normal (f q0 q1 L q2 l A q3 d G A7 d7) w := ⟨q0, q1, L, q2, l, A, q3, d, G, A7, d7, rfl, h⟩
/-- a region, cut off by what it leaves -/
theorem ins_cut6 {c : Code} {Q : Exit → Act → World → Prop} {a : Act} {w : World} (f : Int → Int → Option Addr → Nat → Nat → Option Addr → Nat → Nat → Nat → Nat → Nat → Act) (R : Int → Int → Option Addr → Nat → Nat → Option Addr → Nat → Nat → Nat → Nat → Nat → World → Prop)
    (hq : ∀ (q0 q1 : Int) (L : Option Addr) (q2 l : Nat) (A : Option Addr) (q3 d G A7 d7 : Nat) (w' : World), R q0 q1 L q2 l A q3 d G A7 d7 w' → Q .normal (f q0 q1 L q2 l A q3 d G A7 d7) w') (h : c.wp Tryz.prog (insPost6 f R) a w) : c.wp Tryz.prog Q a w :=
  Code.wp_mono (fun e a' w' h => by
    cases e with
    | normal =>
      obtain ⟨q0, q1, L, q2, l, A, q3, d, G, A7, d7, h2, h3⟩ := h
      subst h2
      exact hq q0 q1 L q2 l A q3 d G A7 d7 w' h3
    | _ => exact False.elim h) h
/-- a copy, its cells by their forms -/
def CopyPost (v : Va) (w : World) (e : Ending) (w' : World) : Prop := ∃ (q0 q1 : Int) (L : Option Addr) (q2 l : Nat) (A : Option Addr) (q3 d : Nat) (fx : List Nat), e = .returned (.agg #[.int .i64 q0, .int .i64 q1, .slice L q2 l, .slice A q3 d]) ∧
  OVa w' v [.int .i64 q0, .int .i64 q1, .slice L q2 l, .slice A q3 d] fx ∧ (∀ b ∈ fx, w.heap.size ≤ b ∧ b < w'.heap.size) ∧ Below w.heap.size w w'
theorem ins_copy {v : Va} {w : World} {args : Array Value} (h : Calls Tryz.prog 29 args w (MadeV v w)) : Calls Tryz.prog 29 args w (CopyPost v w) :=
  h.mono fun _ _ ⟨L, A, c, d, fp, he, ho, hf, hb⟩ => ⟨_, _, L, _, c, A, _, d, fp, he, ho, hf, hb⟩
end Go.Proofs.YtlikmgkjilmjpaaGreat
