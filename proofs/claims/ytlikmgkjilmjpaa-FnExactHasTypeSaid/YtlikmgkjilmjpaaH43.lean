/-
  Merged by program: HasLaw.
-/
import Derived.Test.YtlikmgkjilmjpaaH19
import Derived.Test.YtlikmgkjilmjpaaH41
import Derived.Test.YtlikmgkjilmjpaaH30
import Derived.Test.YtlikmgkjilmjpaaH31
import Derived.Test.YtlikmgkjilmjpaaH42
import Derived.Test.YtlikmgkjilmjpaaH5
import Derived.Test.YtlikmgkjilmjpaaH17
import Derived.Deep.RegionHeld3

/-
  The walk of laws.FnExactHasType.
-/
namespace Go.Proofs.Ytlikmgkjilmjpaa
open Go.RowKit

set_option maxRecDepth 100000 in
set_option maxHeartbeats 8000000 in
theorem hasL_law (t : Va) (cs : List Value) (s : Ty) (ds : List Value) (w : World) (h : RVa w t cs) (h' : RTy w s ds) : Calls Try.prog 4 #[.agg cs.toArray, .agg ds.toArray] w (LawYes w) := by
  obtain ⟨c0, c1, c2, c3, rfl⟩ := h.four
  obtain ⟨d0, d1, d2, rfl⟩ := h'.three
  obtain ⟨W1, hW1⟩ : ∃ W1, (w.alloc (.cells #[c0, c1, c2, c3] 25)).alloc (.cells #[d0, d1, d2] 36) = W1 := ⟨_, rfl⟩
  obtain ⟨H, hH⟩ : ∃ H, w.heap.size = H := ⟨_, rfl⟩
  have b0 : Box4 W1 H 25 c0 c1 c2 c3 := by rw [← hW1, ← hH]; exact (Box4.new w _ _ _ _ _).alloc _
  have b1 : Box3 W1 (H + 1) 36 d0 d1 d2 := by
    rw [← hW1, ← hH]
    have := Box3.new (w.alloc (.cells #[c0, c1, c2, c3] 25)) 36 d0 d1 d2
    simpa using this
  have hb0 : Below w.heap.size w W1 := by rw [← hW1]; exact ((Below.refl _ _).alloc (Nat.le_refl _) _).alloc (by simp) _
  have HSZ := Lib.hid (szValue_any t W1 _ 1048576 (h.keep hb0) (by decide) (by decide))
  have HT := Lib.hid (fun W (hB : Below w.heap.size w W) => h.keep hB)
  have HT' := Lib.hid (fun W (hB : Below w.heap.size w W) => h'.keep hB)
  have HW1 := Lib.hid hW1
  have HB1 := Lib.hid hb0
  have A1 := Lib.hid b0
  have B1 := Lib.hid b1
  have x0 := b0.c0
  have x1 := b0.c1
  have x2 := b0.c2
  have x3 := b0.c3
  clear h h' hW1 b0 b1 hb0
  go_enter Try.func4, Try.ntmps4
  go_wp2_with fail
  rw [HW1.out]
  go_wp2_with fail
  refine HSZ.out.mono ?_
  rintro e w1 ⟨r, rfl, r1, r2, r3, hb1⟩
  have HB2 := Lib.hid (HB1.out.trans (hb1.mono HB1.out.size))
  have A2 := Lib.hid (A1.out.under hb1 A1.out.lt)
  have B2 := Lib.hid (B1.out.under hb1 B1.out.lt)
  clear x0 x1 x2 x3 hb1 HSZ
  by_cases hr : r < 0
  · have HY : Hid (LawYes w (.returned (.bool true)) w1) := ⟨rfl, HB2.out⟩
    clear r3
    go_wp2_with fail
    go_ret
    exact HY.out
  have hw : wv t ≤ 1048576 := by have := r3 (by omega); omega
  have hs : t.size ≤ 1048577 := by have := size_wv t; omega
  have hrr : 0 ≤ r := by omega
  have hr1 : r ≤ 1048576 := r1
  have HSZ := Lib.hid (szType_any s w1 _ r (HT'.out w1 HB2.out) hrr hr1)
  have y0 := B2.out.c0
  have y1 := B2.out.c1
  have y2 := B2.out.c2
  have HWT := Lib.hid hw
  have HST := Lib.hid hs
  clear r3 hr r1 r2 hw hs
  go_wp2_with fail
  refine HSZ.out.mono ?_
  rintro e w2 ⟨r', rfl, r1, r2, r3, hb2⟩
  have HB3 := Lib.hid (HB2.out.trans (hb2.mono HB2.out.size))
  have A3 := Lib.hid (A2.out.under hb2 A2.out.lt)
  have B3 := Lib.hid (B2.out.under hb2 B2.out.lt)
  clear y0 y1 y2 hb2 HSZ
  by_cases hr : r' < 0
  · have HY : Hid (LawYes w (.returned (.bool true)) w2) := ⟨rfl, HB3.out⟩
    clear r3
    go_wp2_with fail
    go_ret
    exact HY.out
  have hw : wt s ≤ 1048576 := by have := r3 (by omega); omega
  have hs : s.size ≤ 1048577 := by have := size_wt s; omega
  have hrr' : 0 ≤ r' := by omega
  have TO := Lib.hid (fun W (hB : Below w.heap.size w W) => toValue_any t W _ (HT.out W hB) HWT.out)
  have TO' := Lib.hid (fun W (hB : Below w.heap.size w W) => toType_any s W _ (HT'.out W hB) hw)
  have SP := Lib.hid (fun (W : World) (cs ds : List Value) (h : RVa W t cs) (h' : RTy W s ds) => (show Calls _ _ _ _ (Truth (hasV t s) W) from specHas_any t s W cs ds h h' hw))
  have IM := Lib.hid (fun (W : World) (cs ds : List Value) (h : RVa W t cs) (h' : RTy W s ds) => (show Calls _ _ _ _ (Truth (hasV t s) W) from implHas_any t s W cs ds h h' HST.out hw))
  have x0 := A3.out.c0
  have x1 := A3.out.c1
  have x2 := A3.out.c2
  have x3 := A3.out.c3
  have y0 := B3.out.c0
  have y1 := B3.out.c1
  have y2 := B3.out.c2
  clear r3 hw hs hr r1 r2 HT HT'
  go_wp2_with fail
  have HD := Lib.hid HB3.out.drew
  have A3d := Lib.hid (show Box4 w2.drew H 25 c0 c1 c2 c3 from A3.out)
  have B3d := Lib.hid (show Box3 w2.drew (H + 1) 36 d0 d1 d2 from B3.out)
  clear HB3 A3 B3
  go_region_held3 (fun W => W.cell? ⟨H, 0, none⟩ = some c0 ∧ W.cell? ⟨H, 1, none⟩ = some c1 ∧ W.cell? ⟨H, 2, none⟩ = some c2 ∧ W.cell? ⟨H, 3, none⟩ = some c3 ∧ W.cell? ⟨H + 1, 0, none⟩ = some d0 ∧ W.cell? ⟨H + 1, 1, none⟩ = some d1 ∧ W.cell? ⟨H + 1, 2, none⟩ = some d2)
    (first | (refine ⟨?_, ?_, ?_, ?_, ?_, ?_, ?_⟩ <;> assumption) | go_keep)
    (first
      | (go_at_call 17; refine (TO'.out w3 HB4.out).mono ?_; rintro e w4 ⟨L4, M4, l4, m4, fp4, rfl, ho4, hf4, hb4⟩; have HB5 := Lib.hid (HB4.out.trans (hb4.mono HB4.out.size)); have A5 := Lib.hid (A4.out.under hb4 A4.out.lt); have B5 := Lib.hid (B4.out.under hb4 B4.out.lt); have HC := Lib.hid (SP.out w4 _ _ (R3.out.keep hb4) ho4.reads); have u0 := A5.out.c0; have u1 := A5.out.c1; have u2 := A5.out.c2; have u3 := A5.out.c3; have v0 := B5.out.c0; have v1 := B5.out.c1; have v2 := B5.out.c2; clear ho4 hf4 hb4; generalize s.top.kind = j0 at HC ⊢; generalize s.top.labels.length = j1 at HC ⊢; generalize s.kids.length = j2 at HC ⊢)
      | (go_at_call 12; refine (TO.out w2.drew HD.out).mono ?_; rintro e w3 ⟨L3, M3, l3, m3, fp3, rfl, ho3, hf3, hb3⟩; have HB4 := Lib.hid (HD.out.trans (hb3.mono HD.out.size)); have A4 := Lib.hid (A3d.out.under hb3 A3d.out.lt); have B4 := Lib.hid (B3d.out.under hb3 B3d.out.lt); have R3 := Lib.hid ho3.reads; have q0 := A4.out.c0; have q1 := A4.out.c1; have q2 := A4.out.c2; have q3 := A4.out.c3; have p0 := B4.out.c0; have p1 := B4.out.c1; have p2 := B4.out.c2; clear ho3 hf3 hb3; generalize t.top.kind = i0 at R3 ⊢; generalize t.top.num = i1 at R3 ⊢; generalize t.top.labels.length = i2 at R3 ⊢; generalize t.kids.length = i3 at R3 ⊢)
      | (go_at_call 16; refine HC.out.mono ?_; rintro e w5 ⟨rfl, hb5⟩; have HB6 := Lib.hid (HB5.out.trans (hb5.mono HB5.out.size)); have A6 := Lib.hid (A5.out.under hb5 A5.out.lt); have B6 := Lib.hid (B5.out.under hb5 B5.out.lt); have x0 := A6.out.c0; have x1 := A6.out.c1; have x2 := A6.out.c2; have x3 := A6.out.c3; have y0 := B6.out.c0; have y1 := B6.out.c1; have y2 := B6.out.c2; clear hb5 HC))
  clear q0 q1 q2 q3 p0 p1 p2 u0 u1 u2 u3 v0 v1 v2 A3d B3d HD HB4 HB5 A4 A5 B4 B5 R3
  go_wp2_with fail
  refine (TO.out w5 HB6.out).mono ?_
  rintro e w6 ⟨L6, M6, l6, m6, fp6, rfl, ho6, hf6, hb6⟩
  obtain ⟨W7, hW7⟩ : ∃ W7, w6.alloc (.cells #[.int .i64 t.top.kind, .int .i64 t.top.num, .slice L6 t.top.labels.length l6, .slice M6 t.kids.length m6] 30) = W7 := ⟨_, rfl⟩
  obtain ⟨G, hG⟩ : ∃ G, w6.heap.size = G := ⟨_, rfl⟩
  have hx7 : Box4 W7 G 30 (.int .i64 t.top.kind) (.int .i64 t.top.num) (.slice L6 t.top.labels.length l6) (.slice M6 t.kids.length m6) := by rw [← hW7, ← hG]; exact Box4.new w6 _ _ _ _ _
  have hb67 : Below w6.heap.size w6 W7 := by rw [← hW7]; exact (Below.refl _ _).alloc (Nat.le_refl _) _
  have HB7 := Lib.hid ((HB6.out.trans (hb6.mono HB6.out.size)).trans (hb67.mono (HB6.out.trans (hb6.mono HB6.out.size)).size))
  have A7 := Lib.hid ((A6.out.under hb6 A6.out.lt).under hb67 (A6.out.under hb6 A6.out.lt).lt)
  have B7 := Lib.hid ((B6.out.under hb6 B6.out.lt).under hb67 (B6.out.under hb6 B6.out.lt).lt)
  have R7 := Lib.hid (ho6.under hb67).reads
  have X7 := Lib.hid hx7
  have hy6 := B6.out.under hb6 B6.out.lt
  clear x0 x1 x2 x3 y0 y1 y2
  have y0 := hy6.c0
  have y1 := hy6.c1
  have y2 := hy6.c2
  have hy7 := B7.out
  rw [← hW7] at hy7
  have z0 := hy7.c0
  have z1 := hy7.c1
  have z2 := hy7.c2
  have HW7 := Lib.hid hW7
  clear ho6 hf6 hb6 hb67 hx7 hW7 hy6 hy7 A6 B6
  generalize t.top.kind = g0 at X7 R7 HW7 z0 z1 z2 ⊢
  generalize t.top.num = g1 at X7 R7 HW7 z0 z1 z2 ⊢
  generalize t.top.labels.length = g2 at X7 R7 HW7 z0 z1 z2 ⊢
  generalize t.kids.length = g3 at X7 R7 HW7 z0 z1 z2 ⊢
  go_wp2_with fail
  rw [HW7.out]
  clear y0 y1 y2 z0 z1 z2
  refine (TO'.out W7 HB7.out).mono ?_
  rintro e w8 ⟨L8, M8, l8, m8, fp8, rfl, ho8, hf8, hb8⟩
  obtain ⟨W9, hW9⟩ : ∃ W9, w8.alloc (.cells #[.int .i64 s.top.kind, .slice L8 s.top.labels.length l8, .slice M8 s.kids.length m8] 41) = W9 := ⟨_, rfl⟩
  obtain ⟨F, hF⟩ : ∃ F, w8.heap.size = F := ⟨_, rfl⟩
  have hx9 : Box3 W9 F 41 (.int .i64 s.top.kind) (.slice L8 s.top.labels.length l8) (.slice M8 s.kids.length m8) := by rw [← hW9, ← hF]; exact Box3.new w8 _ _ _ _
  have hb79 : Below W7.heap.size W7 W9 := by rw [← hW9]; exact hb8.alloc hb8.size _
  have HB9 := Lib.hid (HB7.out.trans (hb79.mono HB7.out.size))
  have A9 := Lib.hid (A7.out.under hb79 A7.out.lt)
  have B9 := Lib.hid (B7.out.under hb79 B7.out.lt)
  have X9 := Lib.hid (X7.out.under hb79 X7.out.lt)
  have R9 := Lib.hid (R7.out.keep hb79)
  have Y9 := Lib.hid hx9
  have hos : OTy W9 s [.int .i64 s.top.kind, .slice L8 s.top.labels.length l8, .slice M8 s.kids.length m8] fp8 := by rw [← hW9]; exact ho8.under ((Below.refl _ _).alloc (Nat.le_refl _) _)
  have S9 := Lib.hid hos.reads
  have HC := Lib.hid (IM.out W9 _ _ R9.out hos.reads)
  have hz := X9.out
  have hz' := Y9.out
  rw [← hW9] at hz hz'
  have z0 := hz.c0
  have z1 := hz.c1
  have z2 := hz.c2
  have z3 := hz.c3
  have z'0 := hz'.c0
  have z'1 := hz'.c1
  have z'2 := hz'.c2
  have HW9 := Lib.hid hW9
  clear ho8 hf8 hb8 hb79 hx9 hW9 hz hz' hos A7 B7 X7 R7
  generalize s.top.kind = k0 at Y9 S9 HC HW9 z0 z1 z2 z3 z'0 z'1 z'2 ⊢
  generalize s.top.labels.length = k1 at Y9 S9 HC HW9 z0 z1 z2 z3 z'0 z'1 z'2 ⊢
  generalize s.kids.length = k2 at Y9 S9 HC HW9 z0 z1 z2 z3 z'0 z'1 z'2 ⊢
  go_wp2_with fail
  rw [HW9.out]
  refine HC.out.mono ?_
  rintro e w10 ⟨rfl, hb10⟩
  clear z0 z1 z2 z3 z'0 z'1 z'2 HC
  have HB10 := Lib.hid (HB9.out.trans (hb10.mono HB9.out.size)).drew
  have A10 := Lib.hid (show Box4 w10.drew H 25 c0 c1 c2 c3 from A9.out.under hb10.drew A9.out.lt)
  have B10 := Lib.hid (show Box3 w10.drew (H + 1) 36 d0 d1 d2 from B9.out.under hb10.drew B9.out.lt)
  have X10 := Lib.hid (show Box4 w10.drew G 30 (.int .i64 g0) (.int .i64 g1) (.slice L6 g2 l6) (.slice M6 g3 m6) from X9.out.under hb10.drew X9.out.lt)
  have Y10 := Lib.hid (show Box3 w10.drew F 41 (.int .i64 k0) (.slice L8 k1 l8) (.slice M8 k2 m8) from Y9.out.under hb10.drew Y9.out.lt)
  have R10 := Lib.hid (R9.out.keep hb10.drew)
  have S10 := Lib.hid (S9.out.keep hb10.drew)
  have x0 : w10.cell? ⟨H, 0, none⟩ = some c0 := A10.out.c0
  have x1 : w10.cell? ⟨H, 1, none⟩ = some c1 := A10.out.c1
  have x2 : w10.cell? ⟨H, 2, none⟩ = some c2 := A10.out.c2
  have x3 : w10.cell? ⟨H, 3, none⟩ = some c3 := A10.out.c3
  have z0 : w10.cell? ⟨G, 0, none⟩ = some (.int .i64 g0) := X10.out.c0
  have z1 : w10.cell? ⟨G, 1, none⟩ = some (.int .i64 g1) := X10.out.c1
  have z2 : w10.cell? ⟨G, 2, none⟩ = some (.slice L6 g2 l6) := X10.out.c2
  have z3 : w10.cell? ⟨G, 3, none⟩ = some (.slice M6 g3 m6) := X10.out.c3
  clear hb10 A9 B9 X9 Y9 R9 S9
  generalize hasV t s = bb
  go_wp2_with fail
  go_region_held3 (fun W => W.cell? ⟨G, 0, none⟩ = some (.int .i64 g0) ∧ W.cell? ⟨G, 1, none⟩ = some (.int .i64 g1) ∧ W.cell? ⟨G, 2, none⟩ = some (.slice L6 g2 l6) ∧ W.cell? ⟨G, 3, none⟩ = some (.slice M6 g3 m6) ∧ W.cell? ⟨H, 0, none⟩ = some c0 ∧ W.cell? ⟨H, 1, none⟩ = some c1 ∧ W.cell? ⟨H, 2, none⟩ = some c2 ∧ W.cell? ⟨H, 3, none⟩ = some c3)
    (first | (refine ⟨?_, ?_, ?_, ?_, ?_, ?_, ?_, ?_⟩ <;> assumption) | go_keep)
    (first
      | (go_at_call 12; refine (TO.out w10.drew HB10.out).mono ?_; rintro e w11 ⟨L11, M11, l11, m11, fp11, rfl, ho11, hf11, hb11⟩; have HB11 := Lib.hid (HB10.out.trans (hb11.mono HB10.out.size)); have HC := Lib.hid (eqValue_same t w11 _ _ (R10.out.keep hb11) ho11.reads); have X11 := Lib.hid (X10.out.under hb11 X10.out.lt); have A11 := Lib.hid (A10.out.under hb11 A10.out.lt); have B11 := Lib.hid (B10.out.under hb11 B10.out.lt); have Y11 := Lib.hid (Y10.out.under hb11 Y10.out.lt); have S11 := Lib.hid (S10.out.keep hb11); have u0 := X11.out.c0; have u1 := X11.out.c1; have u2 := X11.out.c2; have u3 := X11.out.c3; have v0 := A11.out.c0; have v1 := A11.out.c1; have v2 := A11.out.c2; have v3 := A11.out.c3; clear ho11 hf11 hb11; generalize t.top.kind = h0 at HC ⊢; generalize t.top.num = h1 at HC ⊢; generalize t.top.labels.length = h2 at HC ⊢; generalize t.kids.length = h3 at HC ⊢)
      | (go_at_call 14; refine HC.out.mono ?_; rintro e w12 ⟨rfl, hb12⟩; have HB12 := Lib.hid (HB11.out.trans (hb12.mono HB11.out.size)); have X12 := X11.out.under hb12 X11.out.lt; have A12 := A11.out.under hb12 A11.out.lt; have B12 := Lib.hid (B11.out.under hb12 B11.out.lt); have Y12 := Lib.hid (Y11.out.under hb12 Y11.out.lt); have S12 := Lib.hid (S11.out.keep hb12); have a0 := X12.c0; have a1 := X12.c1; have a2 := X12.c2; have a3 := X12.c3; have b0 := A12.c0; have b1 := A12.c1; have b2 := A12.c2; have b3 := A12.c3; clear HC X12 A12 hb12))
  clear x0 x1 x2 x3 z0 z1 z2 z3 u0 u1 u2 u3 v0 v1 v2 v3 a0 a1 a2 a3 b0 b1 b2 b3 HB10 HB11 X10 X11 A10 A11 B10 B11 Y10 Y11 R10 S10 S11
  have HB13 := Lib.hid HB12.out.drew
  have B13 := Lib.hid (show Box3 w12.drew (H + 1) 36 d0 d1 d2 from B12.out)
  have Y13 := Lib.hid (show Box3 w12.drew F 41 (.int .i64 k0) (.slice L8 k1 l8) (.slice M8 k2 m8) from Y12.out)
  have S13 := Lib.hid (S12.out.keep (show Below w12.heap.size w12 w12.drew from (Below.refl _ _).drew))
  have x0 := B12.out.c0
  have x1 := B12.out.c1
  have x2 := B12.out.c2
  have z0 := Y12.out.c0
  have z1 := Y12.out.c1
  have z2 := Y12.out.c2
  clear HB12 B12 Y12 S12
  go_wp2_with fail
  go_region_held3 (fun W => W.cell? ⟨F, 0, none⟩ = some (.int .i64 k0) ∧ W.cell? ⟨F, 1, none⟩ = some (.slice L8 k1 l8) ∧ W.cell? ⟨F, 2, none⟩ = some (.slice M8 k2 m8) ∧ W.cell? ⟨H + 1, 0, none⟩ = some d0 ∧ W.cell? ⟨H + 1, 1, none⟩ = some d1 ∧ W.cell? ⟨H + 1, 2, none⟩ = some d2)
    (first | (refine ⟨?_, ?_, ?_, ?_, ?_, ?_⟩ <;> assumption) | go_keep)
    (first
      | (go_at_call 17; refine (TO'.out w12.drew HB13.out).mono ?_; rintro e w14 ⟨L14, M14, l14, m14, fp14, rfl, ho14, hf14, hb14⟩; have HB14 := Lib.hid (HB13.out.trans (hb14.mono HB13.out.size)); have HC := Lib.hid (eqType_same s w14 _ _ (S13.out.keep hb14) ho14.reads); have Y14 := Lib.hid (Y13.out.under hb14 Y13.out.lt); have B14 := Lib.hid (B13.out.under hb14 B13.out.lt); have u0 := Y14.out.c0; have u1 := Y14.out.c1; have u2 := Y14.out.c2; have v0 := B14.out.c0; have v1 := B14.out.c1; have v2 := B14.out.c2; clear ho14 hf14 hb14; generalize s.top.kind = f0 at HC ⊢; generalize s.top.labels.length = f1 at HC ⊢; generalize s.kids.length = f2 at HC ⊢)
      | (go_at_call 19; refine HC.out.mono ?_; rintro e w15 ⟨rfl, hb15⟩; have HY : Hid (LawYes w (.returned (.bool true)) w15) := ⟨rfl, HB14.out.trans (hb15.mono HB14.out.size)⟩; have Y15 := Y14.out.under hb15 Y14.out.lt; have B15 := B14.out.under hb15 B14.out.lt; have a0 := Y15.c0; have a1 := Y15.c1; have a2 := Y15.c2; have b0 := B15.c0; have b1 := B15.c1; have b2 := B15.c2; clear HC Y15 B15))
  go_wp2_with fail
  go_ret
  exact HY.out
end Go.Proofs.Ytlikmgkjilmjpaa
