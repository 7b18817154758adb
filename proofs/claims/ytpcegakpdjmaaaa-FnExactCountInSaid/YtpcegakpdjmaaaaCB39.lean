/-
  Merged by program: SamV.
-/
import Derived.Test.YtpcegakpdjmaaaaCB28
import Derived.Test.YtpcegakpdjmaaaaCB38
import Derived.Test.YtpcegakpdjmaaaaCB35
import Derived.Deep.RegionHeld3

/-
  SameBag, the program's and the model's.
-/
namespace Go.Proofs.Ytpcegakpdjmaaaa
open Go.RowKit

set_option maxRecDepth 100000 in
set_option maxHeartbeats 8000000 in
theorem implSame_any (a b : Va) (w : World) (cs ds : List Value) (h : RVa w a cs) (h' : RVa w b ds) (hw : wv a ≤ 1048576) (hw' : wv b ≤ 1048576) : Calls Try.prog 26 #[.agg cs.toArray, .agg ds.toArray] w (Truth (sameB a b) w) := by
  have hs := size_wv a
  obtain ⟨c0, c1, c2, c3, rfl⟩ := h.four
  obtain ⟨d0, d1, d2, d3, rfl⟩ := h'.four
  obtain ⟨W1, hW1⟩ : ∃ W1, (w.alloc (.cells #[c0, c1, c2, c3] 30)).alloc (.cells #[d0, d1, d2, d3] 30) = W1 := ⟨_, rfl⟩
  obtain ⟨H, hH⟩ : ∃ H, w.heap.size = H := ⟨_, rfl⟩
  have b0 : Box4 W1 H 30 c0 c1 c2 c3 := by rw [← hW1, ← hH]; exact (Box4.new w _ _ _ _ _).alloc _
  have b1 : Box4 W1 (H + 1) 30 d0 d1 d2 d3 := by
    rw [← hW1, ← hH]
    have := Box4.new (w.alloc (.cells #[c0, c1, c2, c3] 30)) 30 d0 d1 d2 d3
    simpa using this
  have hb1 : Below w.heap.size w W1 := by rw [← hW1]; exact (below_alloc w _).alloc (by simp) _
  have CA := Lib.hid (fun W (hB : Below w.heap.size w W) => implCanV_any a W _ (h.keep hB) hw)
  have CB := Lib.hid (fun W (hB : Below w.heap.size w W) => implCanV_any b W _ (h'.keep hB) hw')
  obtain ⟨Ta, hTa⟩ : ∃ T, canV a = T := ⟨_, rfl⟩
  obtain ⟨Tb, hTb⟩ : ∃ T, canV b = T := ⟨_, rfl⟩
  have hV : sameB a b = decide (cmpV Ta Tb = 0) := by rw [← hTa, ← hTb]; rfl
  have hz : Ta.size ≤ 1048577 := by rw [← hTa, canV_size]; omega
  rw [hTa] at CA
  rw [hTb] at CB
  have CM := Lib.hid (fun (W : World) (cs ds : List Value) (h1 : RVa W Ta cs) (h2 : RVa W Tb ds) => (show Calls Try.prog 20 #[.agg cs.toArray, .agg ds.toArray] W (Counts (cmpV Ta Tb) W) from (implCmp_any _ _ _ _ _ h1 h2 hz).mono fun _ _ hq => (⟨hq.1, hq.2.below⟩ : Counts _ _ _ _)))
  have HV := Lib.hid hV
  have HW1 := Lib.hid hW1
  have HB1 := Lib.hid hb1
  have HD := Lib.hid hb1.drew
  have A3 := Lib.hid (show Box4 W1.drew H 30 c0 c1 c2 c3 from b0)
  have B3 := Lib.hid (show Box4 W1.drew (H + 1) 30 d0 d1 d2 d3 from b1)
  have x0 := b0.c0
  have x1 := b0.c1
  have x2 := b0.c2
  have x3 := b0.c3
  have y0 := b1.c0
  have y1 := b1.c1
  have y2 := b1.c2
  have y3 := b1.c3
  clear h h' hw hw' hW1 b0 b1 hb1 hTa hTb hz hV hs
  go_enter Try.func26, Try.ntmps26
  go_wp2_with fail
  rw [HW1.out]
  go_wp2_with fail
  go_region_held3 (fun W => W.cell? ⟨H, 0, none⟩ = some c0 ∧ W.cell? ⟨H, 1, none⟩ = some c1 ∧ W.cell? ⟨H, 2, none⟩ = some c2 ∧ W.cell? ⟨H, 3, none⟩ = some c3 ∧ W.cell? ⟨H + 1, 0, none⟩ = some d0 ∧ W.cell? ⟨H + 1, 1, none⟩ = some d1 ∧ W.cell? ⟨H + 1, 2, none⟩ = some d2 ∧ W.cell? ⟨H + 1, 3, none⟩ = some d3)
    (first | (refine ⟨?_, ?_, ?_, ?_, ?_, ?_, ?_, ?_⟩ <;> assumption) | go_keep)
    (first
      | (go_at_call 22; refine (CB.out w3 HB4.out).mono ?_; rintro e w4 ⟨L4, M4, l4, m4, fp4, rfl, ho4, hf4, hb4⟩; have HB5 := Lib.hid (HB4.out.trans (hb4.mono HB4.out.size)); have A5 := Lib.hid (A4.out.under hb4 A4.out.lt); have B5 := Lib.hid (B4.out.under hb4 B4.out.lt); have HC := Lib.hid (CM.out w4 _ _ (R3.out.keep hb4) ho4.reads); have u0 := A5.out.c0; have u1 := A5.out.c1; have u2 := A5.out.c2; have u3 := A5.out.c3; have v0 := B5.out.c0; have v1 := B5.out.c1; have v2 := B5.out.c2; have v3 := B5.out.c3; clear ho4 hf4 hb4; generalize Tb.top.kind = j0 at HC ⊢; generalize Tb.top.num = j1 at HC ⊢; generalize Tb.top.labels.length = j2 at HC ⊢; generalize Tb.kids.length = j3 at HC ⊢)
      | (go_at_call 22; refine (CA.out W1.drew HD.out).mono ?_; rintro e w3 ⟨L3, M3, l3, m3, fp3, rfl, ho3, hf3, hb3⟩; have HB4 := Lib.hid (HD.out.trans (hb3.mono HD.out.size)); have A4 := Lib.hid (A3.out.under hb3 A3.out.lt); have B4 := Lib.hid (B3.out.under hb3 B3.out.lt); have R3 := Lib.hid ho3.reads; have q0 := A4.out.c0; have q1 := A4.out.c1; have q2 := A4.out.c2; have q3 := A4.out.c3; have p0 := B4.out.c0; have p1 := B4.out.c1; have p2 := B4.out.c2; have p3 := B4.out.c3; clear ho3 hf3 hb3; generalize Ta.top.kind = i0 at R3 ⊢; generalize Ta.top.num = i1 at R3 ⊢; generalize Ta.top.labels.length = i2 at R3 ⊢; generalize Ta.kids.length = i3 at R3 ⊢)
      | (go_at_call 20; refine HC.out.mono ?_; rintro e w5 ⟨rfl, hb5⟩; have HB6 := Lib.hid (HB5.out.trans (hb5.mono HB5.out.size)); have A6 := A5.out.under hb5 A5.out.lt; have B6 := B5.out.under hb5 B5.out.lt; have x0 := A6.c0; have x1 := A6.c1; have x2 := A6.c2; have x3 := A6.c3; have y0 := B6.c0; have y1 := B6.c1; have y2 := B6.c2; have y3 := B6.c3; clear hb5 HC A6 B6))
  have HR : Hid (∀ r, r = decide (cmpV Ta Tb = 0) → Truth (sameB a b) w (.returned (.bool r)) w5) := fun r hr => truth_iff (HV.out.trans hr.symm) HB6.out
  generalize cmpV Ta Tb = N at HR ⊢
  go_wp2_with fail
  go_ret
  exact HR.out _ (by first | rfl | (simp; done) | (by_cases e : N = 0 <;> simp [e]))

set_option maxRecDepth 100000 in
set_option maxHeartbeats 8000000 in
theorem specSame_any (a b : Va) (w : World) (cs ds : List Value) (h : RVa w a cs) (h' : RVa w b ds) (hw : wv a ≤ 1048576) (hw' : wv b ≤ 1048576) : Calls Try.prog 25 #[.agg cs.toArray, .agg ds.toArray] w (Truth (sameB a b) w) := by
  have hs := size_wv a
  obtain ⟨c0, c1, c2, c3, rfl⟩ := h.four
  obtain ⟨d0, d1, d2, d3, rfl⟩ := h'.four
  obtain ⟨W1, hW1⟩ : ∃ W1, (w.alloc (.cells #[c0, c1, c2, c3] 30)).alloc (.cells #[d0, d1, d2, d3] 30) = W1 := ⟨_, rfl⟩
  obtain ⟨H, hH⟩ : ∃ H, w.heap.size = H := ⟨_, rfl⟩
  have b0 : Box4 W1 H 30 c0 c1 c2 c3 := by rw [← hW1, ← hH]; exact (Box4.new w _ _ _ _ _).alloc _
  have b1 : Box4 W1 (H + 1) 30 d0 d1 d2 d3 := by
    rw [← hW1, ← hH]
    have := Box4.new (w.alloc (.cells #[c0, c1, c2, c3] 30)) 30 d0 d1 d2 d3
    simpa using this
  have hb1 : Below w.heap.size w W1 := by rw [← hW1]; exact (below_alloc w _).alloc (by simp) _
  have CA := Lib.hid (fun W (hB : Below w.heap.size w W) => specCanV_any a W _ (h.keep hB) hw)
  have CB := Lib.hid (fun W (hB : Below w.heap.size w W) => specCanV_any b W _ (h'.keep hB) hw')
  obtain ⟨Ta, hTa⟩ : ∃ T, canV a = T := ⟨_, rfl⟩
  obtain ⟨Tb, hTb⟩ : ∃ T, canV b = T := ⟨_, rfl⟩
  have hV : sameB a b = decide (cmpV Ta Tb = 0) := by rw [← hTa, ← hTb]; rfl
  have hz : Ta.size ≤ 1048577 := by rw [← hTa, canV_size]; omega
  rw [hTa] at CA
  rw [hTb] at CB
  have CM := Lib.hid (fun (W : World) (cs ds : List Value) (h1 : RVa W Ta cs) (h2 : RVa W Tb ds) => (show Calls Try.prog 19 #[.agg cs.toArray, .agg ds.toArray] W (Counts (cmpV Ta Tb) W) from specCmp_any _ _ _ _ _ h1 h2))
  have HV := Lib.hid hV
  have HW1 := Lib.hid hW1
  have HB1 := Lib.hid hb1
  have HD := Lib.hid hb1.drew
  have A3 := Lib.hid (show Box4 W1.drew H 30 c0 c1 c2 c3 from b0)
  have B3 := Lib.hid (show Box4 W1.drew (H + 1) 30 d0 d1 d2 d3 from b1)
  have x0 := b0.c0
  have x1 := b0.c1
  have x2 := b0.c2
  have x3 := b0.c3
  have y0 := b1.c0
  have y1 := b1.c1
  have y2 := b1.c2
  have y3 := b1.c3
  clear h h' hw hw' hW1 b0 b1 hb1 hTa hTb hz hV hs
  go_enter Try.func25, Try.ntmps25
  go_wp2_with fail
  rw [HW1.out]
  go_wp2_with fail
  go_region_held3 (fun W => W.cell? ⟨H, 0, none⟩ = some c0 ∧ W.cell? ⟨H, 1, none⟩ = some c1 ∧ W.cell? ⟨H, 2, none⟩ = some c2 ∧ W.cell? ⟨H, 3, none⟩ = some c3 ∧ W.cell? ⟨H + 1, 0, none⟩ = some d0 ∧ W.cell? ⟨H + 1, 1, none⟩ = some d1 ∧ W.cell? ⟨H + 1, 2, none⟩ = some d2 ∧ W.cell? ⟨H + 1, 3, none⟩ = some d3)
    (first | (refine ⟨?_, ?_, ?_, ?_, ?_, ?_, ?_, ?_⟩ <;> assumption) | go_keep)
    (first
      | (go_at_call 21; refine (CB.out w3 HB4.out).mono ?_; rintro e w4 ⟨L4, M4, l4, m4, fp4, rfl, ho4, hf4, hb4⟩; have HB5 := Lib.hid (HB4.out.trans (hb4.mono HB4.out.size)); have A5 := Lib.hid (A4.out.under hb4 A4.out.lt); have B5 := Lib.hid (B4.out.under hb4 B4.out.lt); have HC := Lib.hid (CM.out w4 _ _ (R3.out.keep hb4) ho4.reads); have u0 := A5.out.c0; have u1 := A5.out.c1; have u2 := A5.out.c2; have u3 := A5.out.c3; have v0 := B5.out.c0; have v1 := B5.out.c1; have v2 := B5.out.c2; have v3 := B5.out.c3; clear ho4 hf4 hb4; generalize Tb.top.kind = j0 at HC ⊢; generalize Tb.top.num = j1 at HC ⊢; generalize Tb.top.labels.length = j2 at HC ⊢; generalize Tb.kids.length = j3 at HC ⊢)
      | (go_at_call 21; refine (CA.out W1.drew HD.out).mono ?_; rintro e w3 ⟨L3, M3, l3, m3, fp3, rfl, ho3, hf3, hb3⟩; have HB4 := Lib.hid (HD.out.trans (hb3.mono HD.out.size)); have A4 := Lib.hid (A3.out.under hb3 A3.out.lt); have B4 := Lib.hid (B3.out.under hb3 B3.out.lt); have R3 := Lib.hid ho3.reads; have q0 := A4.out.c0; have q1 := A4.out.c1; have q2 := A4.out.c2; have q3 := A4.out.c3; have p0 := B4.out.c0; have p1 := B4.out.c1; have p2 := B4.out.c2; have p3 := B4.out.c3; clear ho3 hf3 hb3; generalize Ta.top.kind = i0 at R3 ⊢; generalize Ta.top.num = i1 at R3 ⊢; generalize Ta.top.labels.length = i2 at R3 ⊢; generalize Ta.kids.length = i3 at R3 ⊢)
      | (go_at_call 19; refine HC.out.mono ?_; rintro e w5 ⟨rfl, hb5⟩; have HB6 := Lib.hid (HB5.out.trans (hb5.mono HB5.out.size)); have A6 := A5.out.under hb5 A5.out.lt; have B6 := B5.out.under hb5 B5.out.lt; have x0 := A6.c0; have x1 := A6.c1; have x2 := A6.c2; have x3 := A6.c3; have y0 := B6.c0; have y1 := B6.c1; have y2 := B6.c2; have y3 := B6.c3; clear hb5 HC A6 B6))
  have HR : Hid (∀ r, r = decide (cmpV Ta Tb = 0) → Truth (sameB a b) w (.returned (.bool r)) w5) := fun r hr => truth_iff (HV.out.trans hr.symm) HB6.out
  generalize cmpV Ta Tb = N at HR ⊢
  go_wp2_with fail
  go_ret
  exact HR.out _ (by first | rfl | (simp; done) | (by_cases e : N = 0 <;> simp [e]))

end Go.Proofs.Ytpcegakpdjmaaaa
