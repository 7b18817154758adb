/-
  Merged by program: TyFun.
-/
import Derived.Test.YtffaggiblglcbaaU13

/-
  The makers of types among the draws: l3Fun, l3Int.
-/
namespace Go.Proofs.Ytffaggiblglcbaa
open Go.RowKit

theorem l3Int_any (w : World) : Calls Try.prog 47 #[] w (MadeT (.node ⟨1, []⟩ []) w) := by
  have hR : ∀ U, (w.alloc (.cells #[.int .i64 1, .slice none 0 0, .slice none 0 0] 27)) = U → MadeT (.node ⟨1, []⟩ []) w (.returned (.agg #[.int .i64 1, .slice none 0 0, .slice none 0 0])) U := by
    rintro U rfl
    exact ⟨none, none, 0, 0, [], rfl, OTy.node ⟨1, []⟩ [] none none 0 0 [] (fun _ => []) ⟨by decide, by decide, by decide, by simp⟩ ⟨rfl, .inl ⟨rfl, rfl⟩⟩ (by decide) ⟨rfl, .inl ⟨rfl, rfl⟩⟩ (fun j t hj => by simp at hj) (by simp [blk]), by simp, (Below.refl _ _).alloc (Nat.le_refl _) _⟩
  have HR := Lib.hid hR
  clear hR
  go_enter Try.func47, Try.ntmps47
  go_wp2_with fail
  have hb := Box3.new w 27 (.int .i64 1) (.slice none 0 0) (.slice none 0 0)
  have t0 := hb.c0
  have t1 := hb.c1
  have t2 := hb.c2
  clear hb
  exact bodyPost_ret (v := .agg #[.int .i64 1, .slice none 0 0, .slice none 0 0]) (by simp [results, Try.results47, go_sem, t0, t1, t2]) rfl (HR.out _ rfl)

set_option maxHeartbeats 3200000 in
set_option maxRecDepth 100000 in
theorem l3Fun_any (s t : Ty) (w : World) (cs ds : List Value) (h : RTy w s cs) (h' : RTy w t ds) (hw : wt s ≤ 1048576) (hw' : wt t ≤ 1048576) : Calls Try.prog 48 #[.agg cs.toArray, .agg ds.toArray] w (MadeT (.node ⟨5, []⟩ [s, t]) w) := by
  obtain ⟨c0, c1, c2, rfl⟩ := h.three
  obtain ⟨d0, d1, d2, rfl⟩ := h'.three
  obtain ⟨W1, hW1⟩ : ∃ W1, ((w.alloc (.cells #[c0, c1, c2] 27)).alloc (.cells #[d0, d1, d2] 27)).alloc (.cells #[.int .i64 0, .slice none 0 0, .slice none 0 0] 27) = W1 := ⟨_, rfl⟩
  obtain ⟨H, hH⟩ : ∃ H, w.heap.size = H := ⟨_, rfl⟩
  have hz1s : W1.heap.size = H + 3 := by rw [← hW1, ← hH]; simp
  have b0 : Box3 W1.drew H 27 c0 c1 c2 := by rw [← hW1, ← hH]; exact ((Box3.new w _ _ _ _).alloc _).alloc _
  have b1 : Box3 W1.drew (H + 1) 27 d0 d1 d2 := by
    rw [← hW1, ← hH]
    have := (Box3.new (w.alloc (.cells #[c0, c1, c2] 27)) 27 d0 d1 d2).alloc (.cells #[.int .i64 0, .slice none 0 0, .slice none 0 0] 27)
    simp only [World.size_alloc] at this
    exact this
  have b2 : Box3 W1.drew (H + 1 + 1) 27 (.int .i64 0) (.slice none 0 0) (.slice none 0 0) := by
    rw [← hW1, ← hH]
    have := Box3.new ((w.alloc (.cells #[c0, c1, c2] 27)).alloc (.cells #[d0, d1, d2] 27)) 27 (.int .i64 0) (.slice none 0 0) (.slice none 0 0)
    simp only [World.size_alloc] at this
    exact this
  have hb1 : Below w.heap.size w W1.drew := by rw [← hW1]; exact ((((Below.refl _ _).alloc (Nat.le_refl _) _).alloc (by simp) _).alloc (by simp; omega) _).drew
  have hzd : W1.drew.heap.size = H + 3 := hz1s
  have HC1 := Lib.hid (l3Copy_any s W1.drew _ (h.keep hb1) hw)
  have HC2 := Lib.hid (fun W (hB : Below W1.drew.heap.size W1.drew W) => l3Copy_any t W _ ((h'.keep hb1).keep hB) hw')
  have HW1 := Lib.hid hW1
  have HB1 := Lib.hid hb1
  have B0 := Lib.hid b0
  have B1 := Lib.hid b1
  have B2 := Lib.hid b2
  have HH := Lib.hid hH
  have HZ := Lib.hid hzd
  have x0 := b0.c0
  have x1 := b0.c1
  have x2 := b0.c2
  have y0 := b1.c0
  have y1 := b1.c1
  have y2 := b1.c2
  have hne0 : H ≠ H + 1 + 1 := by omega
  have hne1 : H + 1 ≠ H + 1 + 1 := by omega
  clear h h' hw hw' hW1 hb1 b0 b1 b2 hz1s hzd
  go_enter Try.func48, Try.ntmps48
  go_wp2_with fail
  rw [HW1.out]
  go_region_held3 (fun W => W.cell? ⟨H, 0, none⟩ = some c0 ∧ W.cell? ⟨H, 1, none⟩ = some c1 ∧ W.cell? ⟨H, 2, none⟩ = some c2 ∧ W.cell? ⟨H + 1, 0, none⟩ = some d0 ∧ W.cell? ⟨H + 1, 1, none⟩ = some d1 ∧ W.cell? ⟨H + 1, 2, none⟩ = some d2)
    (first | (refine ⟨?_, ?_, ?_, ?_, ?_, ?_⟩ <;> assumption) | exact ⟨cell_three m0 hne0, cell_three m1 hne0, cell_three m2 hne0, cell_three n0 hne1, cell_three n1 hne1, cell_three n2 hne1⟩ | go_keep)
    (first
      | (go_at_call 75; refine (HC2.out w2 HB2.out).mono ?_; rintro e w3 ⟨L3, A3, l3, e3, gp, rfl, hot, hfp, hb3⟩; have HOT3 := Lib.hid hot; have HFP3 := Lib.hid hfp; have HB3 := Lib.hid hb3; have hb4 := HB2.out.trans (hb3.mono HB2.out.size); have p0 := B0.out.under hb4 B0.out.lt; have p1 := B1.out.under hb4 B1.out.lt; have p2 := (B2.out.under hb4 B2.out.lt).alloc (.cells #[.int .i64 s.top.kind, .slice L2 s.top.labels.length l2, .slice A2 s.kids.length e2, .int .i64 t.top.kind, .slice L3 t.top.labels.length l3, .slice A3 t.kids.length e3] 27); have r0 := p2.c0; have r1 := p2.c1; have r2 := p2.c2; have f0 := p2.free 0; have f1 := p2.free 1; have f2 := p2.free 2; have p3 := p0.alloc (.cells #[.int .i64 s.top.kind, .slice L2 s.top.labels.length l2, .slice A2 s.kids.length e2, .int .i64 t.top.kind, .slice L3 t.top.labels.length l3, .slice A3 t.kids.length e3] 27); have p4 := p1.alloc (.cells #[.int .i64 s.top.kind, .slice L2 s.top.labels.length l2, .slice A2 s.kids.length e2, .int .i64 t.top.kind, .slice L3 t.top.labels.length l3, .slice A3 t.kids.length e3] 27); have m0 := p3.c0; have m1 := p3.c1; have m2 := p3.c2; have n0 := p4.c0; have n1 := p4.c1; have n2 := p4.c2; have P2 := Lib.hid p2; have k0 := p0.c0; have k1 := p0.c1; have k2 := p0.c2; have l0 := p1.c0; have l1 := p1.c1; have l2' := p1.c2; clear hot hfp hb3 hb4 p0 p1 p2 p3 p4)
      | (go_at_call 75; refine HC1.out.mono ?_; rintro e w2 ⟨L2, A2, l2, e2, fp, rfl, hot, hfp, hb2⟩; have HOT := Lib.hid hot; have HFP := Lib.hid hfp; have HB2 := Lib.hid hb2; have p0 := B0.out.under hb2 B0.out.lt; have p1 := B1.out.under hb2 B1.out.lt; have u0 := p0.c0; have u1 := p0.c1; have u2 := p0.c2; have v0 := p1.c0; have v1 := p1.c1; have v2 := p1.c2; clear hot hfp hb2 p0 p1))
  go_wp2_with fail
  generalize hU : (((w3.alloc (.cells #[.int .i64 s.top.kind, .slice L2 s.top.labels.length l2, .slice A2 s.kids.length e2, .int .i64 t.top.kind, .slice L3 t.top.labels.length l3, .slice A3 t.kids.length e3] 27)).setCell ⟨H + 1 + 1, 0, none⟩ (.int .i64 5)).setCell ⟨H + 1 + 1, 1, none⟩ (.slice none 0 0)).setCell ⟨H + 1 + 1, 2, none⟩ (.slice (some ⟨w3.heap.size, 0, none⟩) 2 2) = U
  have hgU : (w3.alloc (.cells #[.int .i64 s.top.kind, .slice L2 s.top.labels.length l2, .slice A2 s.kids.length e2, .int .i64 t.top.kind, .slice L3 t.top.labels.length l3, .slice A3 t.kids.length e3] 27)).grownBy U (some (H + 1 + 1)) := by rw [← hU]; exact grown_set (grown_set (grown_set (World.grownBy.refl _ _) _) _) _
  have u1 : Box3 U (H + 1 + 1) 27 (.int .i64 5) (.slice none 0 0) (.slice (some ⟨w3.heap.size, 0, none⟩) 2 2) := by
    rw [← hU]
    exact ((P2.out.set0 _).set1 _).set2 _
  have HRR : Hid (MadeT (.node ⟨5, []⟩ [s, t]) w (.returned (.agg #[.int .i64 5, .slice none 0 0, .slice (some ⟨w3.heap.size, 0, none⟩) 2 2])) U) := Lib.hid (by
    have hzz := HZ.out
    have hs2 := HB2.out.size
    have hs3 := HB3.out.size
    refine build_done (q := 5) (ks := [s, t]) (xs := [.int .i64 s.top.kind, .slice L2 s.top.labels.length l2, .slice A2 s.kids.length e2, .int .i64 t.top.kind, .slice L3 t.top.labels.length l3, .slice A3 t.kids.length e3]) (fs := fun j => if j = 0 then fp else gp) (W1 := W1.drew) (w2 := w3) (G := H + 1 + 1) (by decide) (by decide) rfl (by simp) (fun j v hj => ?_) ?_ (fun b hb => ?_) HB1.out (HB2.out.trans (HB3.out.mono hs2)) (by omega) (by have := HH.out; omega) hgU
    · match j, hj with
      | 0, hj =>
        simp at hj
        subst hj
        exact HOT.out.under HB3.out
      | 1, hj =>
        simp at hj
        subst hj
        exact HOT3.out
      | j + 2, hj => simp at hj
    · have e : (List.range 2).flatMap (fun j => if j = 0 then fp else gp) = fp ++ gp := by simp [List.range_succ]
      show ((List.range 2).flatMap _).Nodup
      rw [e]
      refine List.nodup_append.2 ⟨HOT.out.nodup, HOT3.out.nodup, fun x hx y hy e => ?_⟩
      have := HFP.out x hx
      have := HFP3.out y hy
      omega
    · have e : (List.range 2).flatMap (fun j => if j = 0 then fp else gp) = fp ++ gp := by simp [List.range_succ]
      have hb' : b ∈ fp ++ gp := by rw [← e]; exact hb
      rcases List.mem_append.1 hb' with hb' | hb'
      · have := HFP.out b hb'; omega
      · have := HFP3.out b hb'; omega)
  have t0 := u1.c0
  have t1 := u1.c1
  have t2 := u1.c2
  clear hU hgU u1
  exact bodyPost_ret (v := .agg #[.int .i64 5, .slice none 0 0, .slice (some ⟨w3.heap.size, 0, none⟩) 2 2]) (by simp [results, Try.results48, go_sem, t0, t1, t2]) rfl HRR.out
end Go.Proofs.Ytffaggiblglcbaa
