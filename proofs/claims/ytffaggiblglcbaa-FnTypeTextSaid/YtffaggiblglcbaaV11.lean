/-
  Merged by program: TyMake.
-/
import Derived.Test.YtffaggiblglcbaaV6
import Derived.Test.YtffaggiblglcbaaV10

/-
  The makers of types among the draws: l3Int, l3Bag, l3Rec.
-/
namespace Go.Proofs.Ytffaggiblglcbaa
open Go.RowKit

set_option maxHeartbeats 4000000 in
set_option maxRecDepth 100000 in
theorem l3Rec_any (L A : Option Addr) (c d : Nat) (ls : List ByteArray) (ks : List Ty) (w : World) (k1 : Sl w L (ls.map Value.string)) (hl : ls.length ≤ 1048576) (k5 : ∀ x ∈ ls, x.size ≤ 9223372036854775807) (hp : RKids w A ks) (hkl : ks.length ≤ 1048576) (hwk : ∀ t ∈ ks, wt t ≤ 1048576) :
    Calls Try.prog 73 #[.slice L ls.length c, .slice A ks.length d] w (MadeT (.node ⟨3, ls⟩ ks) w) := by
  obtain ⟨i0, hi, hz0, hz1, hz2⟩ := info_parts infoStr
  obtain ⟨i1, hi1, hy0, hy1, hy2⟩ := info_parts infoTy
  obtain ⟨a, ha⟩ : ∃ a : TyA, (⟨3, ls⟩ : TyA) = a := ⟨_, rfl⟩
  have hak : a.kind = 3 := by rw [← ha]
  have hal : ls = a.labels := by rw [← ha]
  rw [ha]
  subst hal
  obtain ⟨W1, hW1⟩ : ∃ W1, w.alloc (.cells #[.int .i64 0, .slice none 0 0, .slice none 0 0] 27) = W1 := ⟨_, rfl⟩
  obtain ⟨H, hH⟩ : ∃ H, w.heap.size = H := ⟨_, rfl⟩
  have b1 : Box3 W1 H 27 (.int .i64 0) (.slice none 0 0) (.slice none 0 0) := by rw [← hW1, ← hH]; exact Box3.new w _ _ _ _
  have hb1 : Below w.heap.size w W1 := by rw [← hW1]; exact (Below.refl _ _).alloc (Nat.le_refl _) _
  obtain ⟨N, hN⟩ : ∃ N, W1.heap.size = N := ⟨_, rfl⟩
  have hHN : H + 1 = N := by rw [← hN, ← hW1, ← hH]; simp
  have o1 : (W1.alloc (.cells #[] 9)).ownsRow N 9 1 (.slice (some ⟨N, 0, none⟩) 0 0) 0 [] := by
    have := World.ownsRow_made (base := N) (size := 1) (e := 9) W1 #[] 0 (by omega) (by unfold maxLen; omega) (by simp)
    rw [hN] at this
    exact this
  have d1 : Below W1.heap.size W1 (W1.alloc (.cells #[] 9)) := (Below.refl _ _).alloc (Nat.le_refl _) _
  have O1 := Lib.hid o1
  have D1 := Lib.hid d1
  have HW1 := Lib.hid hW1
  have HP := Lib.hid (hp.keep hb1)
  have HL := Lib.hid (k1.below hb1)
  have HB1 := Lib.hid hb1
  have HX := Lib.hid k5
  have B1 := Lib.hid b1
  have HH := Lib.hid hH
  have HWK := Lib.hid hwk
  have HHN := Lib.hid hHN
  have HN := Lib.hid hN
  have HAK := Lib.hid hak
  clear hp k1 k5 hW1 hb1 hwk hHN o1 d1 b1 ha hak
  have hHN0 : H ≠ N := by have := HHN.out; omega
  go_enter Try.func73, Try.ntmps73
  go_upto_region 1 with (fail)
  rw [HW1.out]
  go_cut [5] from 7 to 10 (fun s3 wx => C0 a ks W1 s3 wx)
  case first =>
    go_wp2_with (at_builtin; refine wpList_append_sl _ rfl (.tmp 7) (.tmp 8) 24 rfl N 9 i0 _ 16 Try.underlying24 hi hz0 hz1 hz2 rfl (.slice (some ⟨N, 0, none⟩) 0 0) 0 [] rfl O1.out L a.labels.length c (a.labels.map Value.string) rfl (by simp) (HL.out.below D1.out) (strs_oneCell _) (by unfold maxLen; omega) (by omega) (by simp; omega) ?_; intro v' w' hown hgr hor; rw [Nat.zero_add, List.nil_append] at hown; obtain ⟨LL, lc, rfl⟩ := own_shape hown; have HOW := Lib.hid hown; have HGR := Lib.hid hgr; clear hown hgr hor)
    go_meet
    case rel =>
      have hb3 := D1.out.grown HGR.out D1.out.size (fun k hk => by have e : some N = some k := hk; injection e with e; omega)
      rw [← HAK.out]
      exact c0_at (hb3.alloc hb3.size _) (Box3.new w' _ _ _ _) hb3.size (HOW.out.alloc _) (by omega) (fun b hm e => by have := (HOW.out.lt b ((blk_own LL _ lc b).2 hm)).2; omega)
  case rest =>
    obtain ⟨g, LL, lc, rfl, hci⟩ := hcut
    have hHN1 := HHN.out
    go_wp2_with fail
    go_loopw [6] (fun i wr => CRel a ks W1 g LL lc i wr) (fun i _ => ks.length - (intOf i).toNat)
    case atStart => exact ⟨0, none, 0, [], fun _ => [], Nat.zero_le _, rfl, hci⟩
    case round =>
      obtain ⟨k, A', d', xs, fs, hk, rfl, hc⟩ := hrel
      have HC := Lib.hid hc
      have hbw := hc.bel
      clear hc hci
      by_cases hlt : k < ks.length
      · obtain ⟨ad, p, c0, c1, c2, rfl, hpe, hr, q0, q1, q2⟩ := kid_at HP.out hbw hlt
        have g2 := HC.out.box.c2
        have HR := Lib.hid hr
        clear hr hbw
        go_wp2_with fail
        have HD := Lib.hid HC.out.drew
        have HCC := Lib.hid (l3Copy_any ks[k] wr.drew [c0, c1, c2] (HR.out.keep (Below.refl _ _).drew) (HWK.out _ (List.getElem_mem hlt)))
        obtain ⟨x0, hx0⟩ : ∃ x0, ks[k].top.kind = x0 := ⟨_, rfl⟩
        obtain ⟨x1, hx1⟩ : ∃ x1, ks[k].top.labels.length = x1 := ⟨_, rfl⟩
        obtain ⟨x2, hx2⟩ : ∃ x2, ks[k].kids.length = x2 := ⟨_, rfl⟩
        have HNX : Hid (∀ (w2 : World) (fp : List Nat) (L2 A2 : Option Addr) (l2 d2 : Nat), OTy w2 ks[k] [.int .i64 x0, .slice L2 x1 l2, .slice A2 x2 d2] fp → (∀ b ∈ fp, wr.drew.heap.size ≤ b ∧ b < w2.heap.size) → Below wr.drew.heap.size wr.drew w2 →
            ∀ (i : Value) (A4 : Option Addr) (d4 : Nat) (w4 : World), i = .int .i64 ((k + 1 : Nat) : Int) → w4.ownsRow 0 27 3 (.slice A4 (k + 1) d4) (k + 1) (xs ++ [.int .i64 x0, .slice L2 x1 l2, .slice A2 x2 d2]) →
            (w2.alloc (.cells #[.int .i64 x0, .slice L2 x1 l2, .slice A2 x2 d2] 27)).grownBy w4 (Value.slice A' k d').ownBlock → ((Value.slice A4 (k + 1) d4).ownBlock = (Value.slice A' k d').ownBlock ∨ (Value.slice A4 (k + 1) d4).ownBlock = some (w2.heap.size + 1)) →
            CRel a ks W1 g LL lc i (w4.setCell ⟨g, 2, none⟩ (.slice A4 (k + 1) d4))) := by
          intro w2 fp L2 A2 l2 d2 hot hfp hb2 i A4 d4 w4 hii h1 h2 h3
          obtain ⟨A5, d5, fs', e, hcv⟩ := cinv_more HD.out hlt hb2 hot hfp h1 h2 h3
          injection e with e1 _ e3
          subst e1
          subst e3
          exact ⟨k + 1, A4, d4, _, fs', hlt, hii, hcv⟩
        have HCD : Hid (∀ (e : Ending) (w2 : World), MadeT ks[k] wr.drew e w2 → ∃ (L2 A2 : Option Addr) (l2 d2 : Nat), e = .returned (.agg #[.int .i64 x0, .slice L2 x1 l2, .slice A2 x2 d2]) ∧ w2.cell? ⟨g, 2, none⟩ = some (.slice A' k d') ∧
            (w2.alloc (.cells #[.int .i64 x0, .slice L2 x1 l2, .slice A2 x2 d2] 27)).ownsRow 0 27 3 (.slice A' k d') k xs ∧
            Box3 (w2.alloc (.cells #[.int .i64 x0, .slice L2 x1 l2, .slice A2 x2 d2] 27)) g 27 (.int .i64 a.kind) (.slice LL a.labels.length lc) (.slice A' k d') ∧
            ∀ (i : Value) (A4 : Option Addr) (d4 : Nat) (w4 : World), i = .int .i64 ((k + 1 : Nat) : Int) → w4.ownsRow 0 27 3 (.slice A4 (k + 1) d4) (k + 1) (xs ++ [.int .i64 x0, .slice L2 x1 l2, .slice A2 x2 d2]) →
            (w2.alloc (.cells #[.int .i64 x0, .slice L2 x1 l2, .slice A2 x2 d2] 27)).grownBy w4 (Value.slice A' k d').ownBlock → ((Value.slice A4 (k + 1) d4).ownBlock = (Value.slice A' k d').ownBlock ∨ (Value.slice A4 (k + 1) d4).ownBlock = some (w2.heap.size + 1)) →
            CRel a ks W1 g LL lc i (w4.setCell ⟨g, 2, none⟩ (.slice A4 (k + 1) d4))) := by
          rintro e w2 ⟨L2, A2, l2, d2, fp, rfl, hot, hfp, hb2⟩
          rw [hx0, hx1, hx2] at hot ⊢
          have hd2 : Below wr.drew.heap.size wr.drew (w2.alloc (.cells #[.int .i64 x0, .slice L2 x1 l2, .slice A2 x2 d2] 27)) := hb2.alloc hb2.size _
          exact ⟨L2, A2, l2, d2, rfl, (HD.out.box.under hb2 HD.out.box.lt).c2, own3_below HD.out.row hd2, HD.out.box.under hd2 HD.out.box.lt, HNX.out w2 fp L2 A2 l2 d2 hot hfp hb2⟩
        clear hx0 hx1 hx2 HNX
        go_wp2_with fail
        go_region_law (first
          | (go_simp; refine HCC.out.mono ?_; rintro e w2 hmade; obtain ⟨L2, A2, l2, d2, rfl, e2, hrw, hbx, hnx⟩ := HCD.out _ _ hmade; clear hmade; have e3 := hbx.c2; have HRW := Lib.hid hrw; have HBX := Lib.hid hbx; have HNX := Lib.hid hnx; clear hrw hbx hnx; have HNW := Lib.hid (news3 w2 (.int .i64 x0) (.slice L2 x1 l2) (.slice A2 x2 d2) 27); have m2 := World.new_ne w2 _ e2)
          | (refine step_append_at (by rfl) (.tmp 18) (.tmp 24) 25 (by rfl) 0 27 i1 _ 3 56 Try.underlying25 hi1 hy0 hy1 hy2 (by rfl) (by omega) (.slice A' k d') k xs (by rfl) HRW.out ⟨w2.heap.size, 0, none⟩ 1 1 [.int .i64 x0, .slice L2 x1 l2, .slice A2 x2 d2] (by rfl) (by rfl) HNW.out (one3 _ _ _ _ _ _ _) (by unfold maxLen; omega) (by omega) (Nat.zero_le _) ?_; intro A4 d4 w4 hown4 hgr4 hor4; have bx4 := HBX.out.grown hgr4 HD.out.apart; have g4 := bx4.c2; have f4 := bx4.free 2; have HNW4 := Lib.hid (fun i hi => HNX.out i A4 d4 w4 hi hown4 hgr4 (by simpa using hor4)); clear hown4 hgr4 hor4 bx4))
        all_goals go_wp2_with fail
        all_goals go_roundw
        all_goals first
          | exact HNW4.out _ (by go_num)
          | (simp [intOf]; omega)
      · have he : k = ks.length := by omega
        subst he
        have bg := HC.out.box
        have g0 := bg.c0
        have g1 := bg.c1
        have g2 := bg.c2
        have br := B1.out.under hbw (by omega)
        have r0 := br.c0
        have r1 := br.c1
        have r2 := br.c2
        have s0 := br.free 0
        have s1 := br.free 1
        have s2 := br.free 2
        have BR := Lib.hid br
        clear bg br hbw
        go_wp2_with fail
        generalize hU : ((wr.setCell ⟨H, 0, none⟩ (.int .i64 a.kind)).setCell ⟨H, 1, none⟩ (.slice LL a.labels.length lc)).setCell ⟨H, 2, none⟩ (.slice A' ks.length d') = U
        have hgU : wr.grownBy U (some (H)) := by rw [← hU]; exact grown_set (grown_set (grown_set (World.grownBy.refl _ _) _) _) _
        have u1 : Box3 U (H) 27 (.int .i64 a.kind) (.slice LL a.labels.length lc) (.slice A' ks.length d') := by
          rw [← hU]
          exact ((BR.out.set0 _).set1 _).set2 _
        have HRR := Lib.hid (copy_done (w := w) (W1 := W1) (G := H) ⟨by rw [HAK.out]; decide, by rw [HAK.out]; decide, by omega, HX.out⟩ (by omega) HC.out HB1.out (by omega) (by have := HH.out; omega) hgU)
        have t0 := u1.c0
        have t1 := u1.c1
        have t2 := u1.c2
        clear hU hgU u1 g0 g1 g2 r0 r1 r2 s0 s1 s2
        exact bodyPost_ret (v := .agg #[.int .i64 a.kind, .slice LL a.labels.length lc, .slice A' ks.length d']) (by simp [results, Try.results73, go_sem, t0, t1, t2]) rfl HRR.out

theorem own_full (w : World) (cur : Array Value) (n : Nat) (hs : cur.size = n * 3) (hm : n ≤ maxLen) : (w.alloc (.cells cur 27)).ownsRow 0 27 3 (.slice (some ⟨w.heap.size, 0, none⟩) n n) n cur.toList :=
  ⟨by simpa using hs, .inr ⟨w.heap.size, n, cur, rfl, Nat.zero_le _, heap_alloc_new w _, Nat.le_refl _, hm, hs, List.take_of_length_le (by simp [hs])⟩⟩

/-- a struct literal of parts that are the call's own, stored into the result -/
theorem build_done {q : Int} (hq1 : -9223372036854775808 ≤ q) (hq2 : q ≤ 9223372036854775807) {ks : List Ty} {xs : List Value} {fs : Nat → List Nat} {w W1 w2 U : World} {G : Nat} (hlen : xs.length = ks.length * 3) (hks : ks.length ≤ 1000)
    (hkid : ∀ j t, ks[j]? = some t → OTy w2 t (part3 xs j) (fs j)) (hnd : ((List.range ks.length).flatMap fs).Nodup) (hbd : ∀ b ∈ (List.range ks.length).flatMap fs, W1.heap.size ≤ b ∧ b < w2.heap.size)
    (hb1 : Below w.heap.size w W1) (hb2 : Below W1.heap.size W1 w2) (hG : G < W1.heap.size) (hwG : w.heap.size ≤ G) (hU : (w2.alloc (.cells xs.toArray 27)).grownBy U (some G)) :
    MadeT (.node ⟨q, []⟩ ks) w (.returned (.agg #[.int .i64 q, .slice none 0 0, .slice (some ⟨w2.heap.size, 0, none⟩) ks.length ks.length])) U := by
  have hs1 := hb1.size
  have hs2 := hb2.size
  obtain ⟨w3, hw3⟩ : ∃ w3, w2.alloc (.cells xs.toArray 27) = w3 := ⟨_, rfl⟩
  have hz3 : w3.heap.size = w2.heap.size + 1 := by rw [← hw3]; simp
  have hrow : w3.ownsRow 0 27 3 (.slice (some ⟨w2.heap.size, 0, none⟩) ks.length ks.length) ks.length xs := by
    rw [← hw3]
    have := own_full w2 xs.toArray ks.length (by simpa using hlen) (by unfold maxLen; omega)
    simpa using this
  have hb3 : Below w2.heap.size w2 w3 := by rw [← hw3]; exact (Below.refl _ _).alloc (Nat.le_refl _) _
  rw [hw3] at hU
  have hsU := hU.size
  refine ⟨none, some ⟨w2.heap.size, 0, none⟩, 0, ks.length, blk none ++ blk (some ⟨w2.heap.size, 0, none⟩) ++ (List.range ks.length).flatMap fs, rfl, ?_, fun b hb => ?_, ?_⟩
  · refine .node ⟨q, []⟩ ks none (some ⟨w2.heap.size, 0, none⟩) 0 ks.length xs fs ⟨hq1, hq2, by simp, by simp⟩ ⟨rfl, .inl ⟨rfl, rfl⟩⟩ (by omega) (own_keep hrow hU (fun b hb e => by injection e with e; simp [blk] at hb; omega)) (fun j t hj => ?_) ?_
    · refine ((hkid j t hj).under hb3).keep hU (fun b hb e => ?_)
      injection e with e
      have := hbd b (List.mem_flatMap.2 ⟨j, List.mem_range.2 (List.getElem?_eq_some_iff.1 hj).1, hb⟩)
      omega
    · refine nodup3.2 ⟨blk_nodup _, blk_nodup _, hnd, by simp [blk], by simp [blk], fun x hx hy => ?_⟩
      simp [blk] at hx
      have := hbd x hy
      omega
  · rcases List.mem_append.1 hb with hb | hb
    · simp [blk] at hb
      omega
    · have := hbd b hb
      omega
  · exact ((hb1.trans (hb2.mono hs1)).trans (hb3.mono (by omega))).grown hU (by omega) (fun k hk => by injection hk with hk; omega)

set_option maxHeartbeats 1600000 in
set_option maxRecDepth 100000 in
theorem l3Bag_any (t : Ty) (w : World) (cs : List Value) (h : RTy w t cs) (hw : wt t ≤ 1048576) : Calls Try.prog 49 #[.agg cs.toArray] w (MadeT (.node ⟨4, []⟩ [t]) w) := by
  obtain ⟨c0, c1, c2, rfl⟩ := h.three
  obtain ⟨W1, hW1⟩ : ∃ W1, (w.alloc (.cells #[c0, c1, c2] 27)).alloc (.cells #[.int .i64 0, .slice none 0 0, .slice none 0 0] 27) = W1 := ⟨_, rfl⟩
  obtain ⟨H, hH⟩ : ∃ H, w.heap.size = H := ⟨_, rfl⟩
  have hz1s : W1.heap.size = H + 2 := by rw [← hW1, ← hH]; simp
  have b0 : Box3 W1 H 27 c0 c1 c2 := by rw [← hW1, ← hH]; exact (Box3.new w _ _ _ _).alloc _
  have b1 : Box3 W1 (H + 1) 27 (.int .i64 0) (.slice none 0 0) (.slice none 0 0) := by
    rw [← hW1, ← hH]
    have := Box3.new (w.alloc (.cells #[c0, c1, c2] 27)) 27 (.int .i64 0) (.slice none 0 0) (.slice none 0 0)
    simpa using this
  have hb1 : Below w.heap.size w W1 := by rw [← hW1]; exact ((Below.refl _ _).alloc (Nat.le_refl _) _).alloc (by simp) _
  have HC := Lib.hid (l3Copy_any t W1 _ (h.keep hb1) hw)
  have HW1 := Lib.hid hW1
  have HB1 := Lib.hid hb1
  have B1 := Lib.hid b1
  have HH := Lib.hid hH
  have HZ := Lib.hid hz1s
  have x0 := b0.c0
  have x1 := b0.c1
  have x2 := b0.c2
  clear h hw hW1 hb1 b0 b1 hz1s
  go_enter Try.func49, Try.ntmps49
  go_wp2_with fail
  rw [HW1.out]
  go_wp2_with fail
  refine HC.out.mono ?_
  rintro e w2 ⟨L2, A2, l2, d2, fp, rfl, hot, hfp, hb2⟩
  generalize t.top.kind = y0 at hot ⊢
  generalize t.top.labels.length = y1 at hot ⊢
  generalize t.kids.length = y2 at hot ⊢
  have hzz := HZ.out
  have HBX := Lib.hid ((B1.out.under hb2 B1.out.lt).alloc (.cells #[.int .i64 y0, .slice L2 y1 l2, .slice A2 y2 d2] 27))
  have HM : Hid (∀ U, (w2.alloc (.cells #[.int .i64 y0, .slice L2 y1 l2, .slice A2 y2 d2] 27)).grownBy U (some (H + 1)) → MadeT (.node ⟨4, []⟩ [t]) w (.returned (.agg #[.int .i64 4, .slice none 0 0, .slice (some ⟨w2.heap.size, 0, none⟩) 1 1])) U) := fun U hU =>
    build_done (q := 4) (ks := [t]) (xs := [.int .i64 y0, .slice L2 y1 l2, .slice A2 y2 d2]) (fs := fun _ => fp) (by decide) (by decide) rfl (by simp) (fun j s hj => by
      match j, hj with
      | 0, hj =>
        simp at hj
        subst hj
        exact hot
      | j + 1, hj => simp at hj) (by simpa using hot.nodup) (by simpa using hfp) HB1.out hb2 (by omega) (by have := HH.out; omega) hU
  clear hot hfp hb2 x0 x1 x2
  have r0 := HBX.out.c0
  have r1 := HBX.out.c1
  have r2 := HBX.out.c2
  have s0 := HBX.out.free 0
  have s1 := HBX.out.free 1
  have s2 := HBX.out.free 2
  go_wp2_with fail
  generalize hU : (((w2.alloc (.cells #[.int .i64 y0, .slice L2 y1 l2, .slice A2 y2 d2] 27)).setCell ⟨H + 1, 0, none⟩ (.int .i64 4)).setCell ⟨H + 1, 1, none⟩ (.slice none 0 0)).setCell ⟨H + 1, 2, none⟩ (.slice (some ⟨w2.heap.size, 0, none⟩) 1 1) = U
  have hgU : (w2.alloc (.cells #[.int .i64 y0, .slice L2 y1 l2, .slice A2 y2 d2] 27)).grownBy U (some (H + 1)) := by rw [← hU]; exact grown_set (grown_set (grown_set (World.grownBy.refl _ _) _) _) _
  have u1 : Box3 U (H + 1) 27 (.int .i64 4) (.slice none 0 0) (.slice (some ⟨w2.heap.size, 0, none⟩) 1 1) := by
    rw [← hU]
    exact ((HBX.out.set0 _).set1 _).set2 _
  have HRR := Lib.hid (HM.out U hgU)
  have t0 := u1.c0
  have t1 := u1.c1
  have t2 := u1.c2
  clear hU hgU u1 r0 r1 r2 s0 s1 s2
  exact bodyPost_ret (v := .agg #[.int .i64 4, .slice none 0 0, .slice (some ⟨w2.heap.size, 0, none⟩) 1 1]) (by simp [results, Try.results49, go_sem, t0, t1, t2]) rfl HRR.out
end Go.Proofs.Ytffaggiblglcbaa
