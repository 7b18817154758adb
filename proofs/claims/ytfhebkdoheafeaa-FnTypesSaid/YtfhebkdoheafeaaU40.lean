/-
  Merged by program: FieldI.
-/
import Derived.Test.YtfhebkdoheafeaaU37
import Derived.Test.YtfhebkdoheafeaaU39
import Derived.Test.YtfhebkdoheafeaaU36

/-
  The program's FieldType.
-/
namespace Go.Proofs.Ytfhebkdoheafeaa
open Go.RowKit

theorem as_rec_no {q : Int} (h : q ≠ 3) (v : Value) (w : World) : (Instr.typeAssert (.iface (kindT q) v) 56 64 true).run Try.prog w = .ok (.tuple #[.agg #[.int .i64 0, .slice none 0 0, .slice none 0 0], .bool false]) w := by
  rcases kind_cases q with (rfl | rfl | rfl | rfl | rfl) | hk
  · exact as_rec_1 v w
  · exact as_rec_2 v w
  · exact absurd rfl h
  · exact as_rec_4 v w
  · exact as_rec_5 v w
  · rw [hk]; exact as_rec_6 v w
theorem own_first {w : World} {base : Nat} {e : TypeId} {A : Option Addr} {n c : Nat} {xs : List Value} (h : w.ownsRow base e 1 (.slice A n c) n xs) (hn : 0 < n) : ∃ g, A = some ⟨g, 0, none⟩ := by
  rcases h.2 with ⟨_, h0⟩ | ⟨g, cap, cur, hv, _⟩
  · omega
  · injection hv with h1 _ _
    exact ⟨g, h1⟩

set_option maxHeartbeats 2000000 in
set_option maxRecDepth 100000 in
theorem implField_any (t : Ty) (x : ByteArray) (w : World) (cs : List Value) (fp : List Nat) (ho : OTy w t cs fp) (hw : wt t ≤ 1048576) : Calls Try.prog 23 #[.agg cs.toArray, .string x] w (MadeP (fieldT t x) w) := by
  have h := ho.reads
  obtain ⟨a, ks⟩ := t
  cases ho with
  | node _ _ L A c d _ _ _ o1 _ _ _ _ =>
  obtain ⟨L', c', A', d', he, k1, k2, k3, k4, k5, k6, hp⟩ := h.out
  injection he with _ he
  injection he with e1 he
  injection he with e2 _
  injection e1 with e1 _ e1'
  injection e2 with e2 _ e2'
  subst e1 e1' e2 e2'
  have hfirst := own_first o1
  have hidx := idx_le a.labels x
  have hll := (wt_labels hw).1
  obtain ⟨W1, hW1⟩ : ∃ W1, (w.alloc (.cells #[.int .i64 a.kind, .slice L a.labels.length c, .slice A ks.length d] 27)).alloc (.cells #[.int .i64 0, .slice none 0 0, .slice none 0 0] 27) = W1 := ⟨_, rfl⟩
  obtain ⟨H, hH⟩ : ∃ H, w.heap.size = H := ⟨_, rfl⟩
  have hz1s : W1.heap.size = H + 2 := by rw [← hW1, ← hH]; simp
  have b0 : Box3 W1 H 27 (.int .i64 a.kind) (.slice L a.labels.length c) (.slice A ks.length d) := by rw [← hW1, ← hH]; exact (Box3.new w _ _ _ _).alloc _
  have b1 : Box3 W1 (H + 1) 27 (.int .i64 0) (.slice none 0 0) (.slice none 0 0) := by
    rw [← hW1, ← hH]
    have := Box3.new (w.alloc (.cells #[.int .i64 a.kind, .slice L a.labels.length c, .slice A ks.length d] 27)) 27 (.int .i64 0) (.slice none 0 0) (.slice none 0 0)
    simpa using this
  have hb1 : Below w.heap.size w W1 := by rw [← hW1]; exact ((Below.refl _ _).alloc (Nat.le_refl _) _).alloc (by simp) _
  have HV := Lib.hid (fun W (hB : Below w.heap.size w W) => implValid_any (.node a ks) W _ (h.keep hB) hw)
  have HWT := Lib.hid hw
  have HW1 := Lib.hid hW1
  have HP := Lib.hid (fun W (hB : Below w.heap.size w W) => hp.keep hB)
  have HLS := Lib.hid (fun W (hB : Below w.heap.size w W) => k1.below hB)
  have HB1 := Lib.hid hb1
  have B0 := Lib.hid b0
  have B1 := Lib.hid b1
  have HH := Lib.hid hH
  have HZ := Lib.hid hz1s
  have HFS := Lib.hid hfirst
  have x0 := b0.c0
  have x1 := b0.c1
  have x2 := b0.c2
  obtain ⟨n, hn⟩ : ∃ n, Lib.idxOfS a.labels x = n := ⟨_, rfl⟩
  rw [hn] at hidx
  have HNN := Lib.hid hn
  clear h hw hW1 hp hb1 b0 b1 k1 k5 hz1s hn o1 hfirst
  by_cases h3 : a.kind = 3
  · have HF0 : Hid (validB (.node a ks) = false → fieldT (.node a ks) x = (zeroTy, false)) := Lib.hid (by intro hv; unfold fieldT; rw [hv]; simp)
    have HF1 : Hid (n < 0 → fieldT (.node a ks) x = (zeroTy, false)) := Lib.hid (by intro hn0; unfold fieldT; rw [if_neg]; rintro ⟨_, _, h⟩; have h' : 0 ≤ Lib.idxOfS a.labels x := h; rw [HNN.out] at h'; omega)
    have HF2 : Hid (validB (.node a ks) = true → ∀ m : Nat, n = m → ∃ (hm : m < ks.length) (hl : m < a.labels.length), ks.length = a.labels.length ∧ fieldT (.node a ks) x = (ks[m], true)) := Lib.hid (by
      intro hv m hm
      have hvr := valid_rec hv h3
      have hnl : m < a.labels.length := idx_lt (by rw [← hm]; exact HNN.out)
      have hmk : m < ks.length := by omega
      refine ⟨hmk, hnl, hvr, ?_⟩
      unfold fieldT
      rw [if_pos ⟨hv, h3, by show 0 ≤ Lib.idxOfS a.labels x; rw [HNN.out]; omega⟩]
      show (ks.getD (Lib.idxOfS a.labels x).toNat zeroTy, true) = _
      rw [HNN.out, hm]
      simp [List.getD, hmk])
    have HLAB : Hid (validB (.node a ks) = true → 0 < a.labels.length) := Lib.hid (by
      intro e
      unfold validB at e
      rw [form_node] at e
      unfold formA labB at e
      rw [if_pos h3] at e
      simp at e
      omega)
    rw [h3] at HW1 B0 x0 ⊢
    have HK := Lib.hid (kind_of 3 (.slice L a.labels.length c) (.slice A ks.length d) W1)
    have hv3 := HV.out
    rw [h3] at hv3
    have HV3 := Lib.hid hv3
    unfold KindIs at HK
    rw [show kindT 3 = 64 from rfl] at HK
    have a1 := as_rec_3
    clear h3 HV hv3 k2 k3
    go_enter Try.func23, Try.ntmps23
    go_wp2_with fail
    rw [HW1.out]
    go_wp2_with fail
    refine HK.out.mono ?_
    rintro e w2 ⟨rfl, hb2⟩
    obtain ⟨W3, hW3⟩ : ∃ W3, w2.alloc (.cells #[.int .i64 3, .slice L a.labels.length c, .slice A ks.length d] 64) = W3 := ⟨_, rfl⟩
    obtain ⟨G, hG⟩ : ∃ G, w2.heap.size = G := ⟨_, rfl⟩
    have hx3 : Box3 W3 G 64 (.int .i64 3) (.slice L a.labels.length c) (.slice A ks.length d) := by rw [← hW3, ← hG]; exact Box3.new w2 _ _ _ _
    have hb23 : Below W1.heap.size W1 W3 := by rw [← hW3]; exact hb2.alloc hb2.size _
    have HB3 := Lib.hid (HB1.out.trans (hb23.mono HB1.out.size))
    have B03 := Lib.hid (B0.out.under hb23 B0.out.lt)
    have B13 := Lib.hid (B1.out.under hb23 B1.out.lt)
    have X3 := Lib.hid hx3
    have HC := Lib.hid (HV3.out W3 HB3.out)
    have hz3 : H + 2 ≤ W3.heap.size := by have := hb23.size; have := HZ.out; omega
    clear x0 x1 x2
    have x0 := B03.out.c0
    have x1 := B03.out.c1
    have x2 := B03.out.c2
    rw [← hW3] at x0 x1 x2
    have HW3 := Lib.hid hW3
    clear hb2 hb23 hx3 hW3 HV3 HK B0 B1
    go_wp2_with fail
    rw [HW3.out]
    refine HC.out.mono ?_
    rintro e W4 ⟨rfl, hb4⟩
    have hz4 : H + 2 ≤ W4.heap.size := by have := hb4.size; omega
    have HB4 := Lib.hid (HB3.out.trans (hb4.mono HB3.out.size))
    have B14 := Lib.hid (B13.out.under hb4 B13.out.lt)
    have X4 := Lib.hid (X3.out.under hb4 X3.out.lt)
    clear x0 x1 x2 hb4 HC
    have r0 := B14.out.c0
    have r1 := B14.out.c1
    have r2 := B14.out.c2
    have s0 := B14.out.free 0
    have s1 := B14.out.free 1
    have s2 := B14.out.free 2
    cases hv : validB (.node a ks)
    · have HF := Lib.hid (HF0.out hv)
      clear HF0 HF1 HF2
      go_wp2_with fail
      generalize hU : ((W4.setCell ⟨H + 1, 0, none⟩ (.int .i64 0)).setCell ⟨H + 1, 1, none⟩ (.slice none 0 0)).setCell ⟨H + 1, 2, none⟩ (.slice none 0 0) = U
      have hgU : (W4).grownBy U (some (H + 1)) := by rw [← hU]; exact grown_set (grown_set (grown_set (World.grownBy.refl _ _) _) _) _
      have u1 : Box3 U (H + 1) 27 (.int .i64 0) (.slice none 0 0) (.slice none 0 0) := by
        rw [← hU]
        exact ((B14.out.set0 _).set1 _).set2 _
      have HRR : Hid (MadeP (fieldT (.node a ks) x) w (.returned (.tuple #[.agg #[.int .i64 0, .slice none 0 0, .slice none 0 0], .bool false])) U) := Lib.hid (by
        rw [HF.out]
        exact made_zero (HB4.out.grown hgU HB4.out.size (fun k hk => by injection hk with hk; have := HH.out; omega)))
      have t0 := u1.c0
      have t1 := u1.c1
      have t2 := u1.c2
      clear hU hgU u1 r0 r1 r2 s0 s1 s2
      exact bodyPost_ret (v := .tuple #[.agg #[.int .i64 0, .slice none 0 0, .slice none 0 0], .bool false]) (by simp [results, Try.results23, go_sem, t0, t1, t2]) rfl HRR.out
    · by_cases hn0 : n < 0
      · have HF := Lib.hid (HF1.out hn0)
        have y1 := X4.out.c1
        have hlab := HLAB.out hv
        obtain ⟨g, rfl⟩ := HFS.out hlab
        have HI := Lib.hid (implIndex_any g c a.labels x W4 (HLS.out W4 HB4.out) k4)
        rw [HNN.out] at HI
        clear HF0 HF1 HF2 hv
        go_wp2_with fail
        refine HI.out.mono ?_
        rintro e w' ⟨rfl, rfl⟩
        clear y1
        go_wp2_with fail
        generalize hU : ((W4.setCell ⟨H + 1, 0, none⟩ (.int .i64 0)).setCell ⟨H + 1, 1, none⟩ (.slice none 0 0)).setCell ⟨H + 1, 2, none⟩ (.slice none 0 0) = U
        have hgU : (W4).grownBy U (some (H + 1)) := by rw [← hU]; exact grown_set (grown_set (grown_set (World.grownBy.refl _ _) _) _) _
        have u1 : Box3 U (H + 1) 27 (.int .i64 0) (.slice none 0 0) (.slice none 0 0) := by
          rw [← hU]
          exact ((B14.out.set0 _).set1 _).set2 _
        have HRR : Hid (MadeP (fieldT (.node a ks) x) w (.returned (.tuple #[.agg #[.int .i64 0, .slice none 0 0, .slice none 0 0], .bool false])) U) := Lib.hid (by
          rw [HF.out]
          exact made_zero (HB4.out.grown hgU HB4.out.size (fun k hk => by injection hk with hk; have := HH.out; omega)))
        have t0 := u1.c0
        have t1 := u1.c1
        have t2 := u1.c2
        clear hU hgU u1 r0 r1 r2 s0 s1 s2
        exact bodyPost_ret (v := .tuple #[.agg #[.int .i64 0, .slice none 0 0, .slice none 0 0], .bool false]) (by simp [results, Try.results23, go_sem, t0, t1, t2]) rfl HRR.out
      · obtain ⟨m, rfl⟩ : ∃ m : Nat, n = m := ⟨n.toNat, by omega⟩
        obtain ⟨hmk, hnl, hvr, hft⟩ := HF2.out hv m rfl
        obtain ⟨g, rfl⟩ := HFS.out (by omega)
        have HF := Lib.hid hft
        have HI := Lib.hid (implIndex_any g c a.labels x W4 (HLS.out W4 HB4.out) k4)
        rw [HNN.out] at HI
        obtain ⟨ad, p, c0, c1, c2, rfl, hpe, hr, q0, q1, q2⟩ := kid_at (HP.out W4 HB4.out) (Below.refl _ _) hmk
        have hwk : wt ks[m] ≤ 1048576 := Nat.le_trans (kid_wt_le (List.getElem_mem hmk)) HWT.out
        have HC := Lib.hid (copyType_any ks[m] W4 [c0, c1, c2] hr hwk)
        have y1 := X4.out.c1
        have y2 := X4.out.c2
        clear hr hwk hv hvr HF0 HF1 HF2 hft
        go_wp2_with fail
        refine HI.out.mono ?_
        rintro e w' ⟨rfl, rfl⟩
        clear HI
        go_wp2_with fail
        refine HC.out.mono ?_
        rintro e w3 hmade
        have hb3 : Below W4.heap.size W4 w3 := by
          obtain ⟨_, _, _, _, _, _, _, _, hb3⟩ := hmade
          exact hb3
        have HBX := Lib.hid (B14.out.under hb3 B14.out.lt)
        have HM := Lib.hid (fun (U : World) (hU : w3.grownBy U (some (H + 1))) => made_some (w := w) (U := U) hmade HB4.out (by omega) (by have := HH.out; omega) hU)
        obtain ⟨LL, AA, lc, dd, rfl, _⟩ := HM.out w3 (World.grownBy.refl _ _)
        have HM2 : Hid (∀ U : World, w3.grownBy U (some (H + 1)) → MadeP (fieldT (.node a ks) x) w (.returned (.tuple #[.agg #[.int .i64 ks[m].top.kind, .slice LL ks[m].top.labels.length lc, .slice AA ks[m].kids.length dd], .bool true])) U) := Lib.hid (by
          intro U hU
          obtain ⟨L9, A9, c9, d9, e9, h9⟩ := HM.out U hU
          rw [HF.out]
          injection e9 with e9
          rw [← e9] at h9
          exact h9)
        clear HM hmade hb3 r0 r1 r2 s0 s1 s2 q0 q1 q2 y1 y2
        generalize ks[m].top.kind = z0 at HM2 ⊢
        generalize ks[m].top.labels.length = z1 at HM2 ⊢
        generalize ks[m].kids.length = z2 at HM2 ⊢
        have r0 := HBX.out.c0
        have r1 := HBX.out.c1
        have r2 := HBX.out.c2
        have s0 := HBX.out.free 0
        have s1 := HBX.out.free 1
        have s2 := HBX.out.free 2
        go_wp2_with fail
        generalize hU : ((w3.setCell ⟨H + 1, 0, none⟩ (.int .i64 z0)).setCell ⟨H + 1, 1, none⟩ (.slice LL z1 lc)).setCell ⟨H + 1, 2, none⟩ (.slice AA z2 dd) = U
        have hgU : w3.grownBy U (some (H + 1)) := by rw [← hU]; exact grown_set (grown_set (grown_set (World.grownBy.refl _ _) _) _) _
        have u1 : Box3 U (H + 1) 27 (.int .i64 z0) (.slice LL z1 lc) (.slice AA z2 dd) := by
          rw [← hU]
          exact ((HBX.out.set0 _).set1 _).set2 _
        have HRR := Lib.hid (HM2.out U hgU)
        have t0 := u1.c0
        have t1 := u1.c1
        have t2 := u1.c2
        clear hU hgU u1 r0 r1 r2 s0 s1 s2
        exact bodyPost_ret (v := .tuple #[.agg #[.int .i64 z0, .slice LL z1 lc, .slice AA z2 dd], .bool true]) (by simp [results, Try.results23, go_sem, t0, t1, t2]) rfl HRR.out
  · have HF : Hid (fieldT (.node a ks) x = (zeroTy, false)) := Lib.hid (by unfold fieldT; rw [if_neg]; rintro ⟨_, h, _⟩; exact h3 h)
    have HK := Lib.hid (kind_of a.kind (.slice L a.labels.length c) (.slice A ks.length d) W1)
    have a1 := as_rec_no h3
    generalize a.kind = q at a1 HK HW1 x0 ⊢
    generalize a.labels.length = nn at HK HW1 x1 ⊢
    generalize ks.length = mm at HK HW1 x2 ⊢
    clear h3 HV k2 k3 B0
    go_enter Try.func23, Try.ntmps23
    go_wp2_with fail
    rw [HW1.out]
    go_wp2_with fail
    refine HK.out.mono ?_
    rintro e w2 ⟨rfl, hb2⟩
    have hb23 : Below W1.heap.size W1 (w2.alloc (.cells #[.int .i64 0, .slice none 0 0, .slice none 0 0] 64)) := hb2.alloc hb2.size _
    have HB3 := Lib.hid (HB1.out.trans (hb23.mono HB1.out.size))
    have B13 := Lib.hid (B1.out.under hb23 B1.out.lt)
    clear x0 x1 x2 hb2 hb23 HK
    have r0 := B13.out.c0
    have r1 := B13.out.c1
    have r2 := B13.out.c2
    have s0 := B13.out.free 0
    have s1 := B13.out.free 1
    have s2 := B13.out.free 2
    go_wp2_with fail
    generalize hU : (((w2.alloc (.cells #[.int .i64 0, .slice none 0 0, .slice none 0 0] 64)).setCell ⟨H + 1, 0, none⟩ (.int .i64 0)).setCell ⟨H + 1, 1, none⟩ (.slice none 0 0)).setCell ⟨H + 1, 2, none⟩ (.slice none 0 0) = U
    have hgU : ((w2.alloc (.cells #[.int .i64 0, .slice none 0 0, .slice none 0 0] 64))).grownBy U (some (H + 1)) := by rw [← hU]; exact grown_set (grown_set (grown_set (World.grownBy.refl _ _) _) _) _
    have u1 : Box3 U (H + 1) 27 (.int .i64 0) (.slice none 0 0) (.slice none 0 0) := by
      rw [← hU]
      exact ((B13.out.set0 _).set1 _).set2 _
    have HRR : Hid (MadeP (fieldT (.node a ks) x) w (.returned (.tuple #[.agg #[.int .i64 0, .slice none 0 0, .slice none 0 0], .bool false])) U) := Lib.hid (by
      rw [HF.out]
      exact made_zero (HB3.out.grown hgU HB3.out.size (fun k hk => by injection hk with hk; have := HH.out; omega)))
    have t0 := u1.c0
    have t1 := u1.c1
    have t2 := u1.c2
    clear hU hgU u1 r0 r1 r2 s0 s1 s2
    exact bodyPost_ret (v := .tuple #[.agg #[.int .i64 0, .slice none 0 0, .slice none 0 0], .bool false]) (by simp [results, Try.results23, go_sem, t0, t1, t2]) rfl HRR.out
end Go.Proofs.Ytfhebkdoheafeaa
