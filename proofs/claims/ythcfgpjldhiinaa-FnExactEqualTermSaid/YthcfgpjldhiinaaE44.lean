/-
  Merged by program: EqELaw.
-/
import Derived.Test.YthcfgpjldhiinaaE12
import Derived.Test.YthcfgpjldhiinaaE31
import Derived.Test.YthcfgpjldhiinaaE28
import Derived.Test.YthcfgpjldhiinaaE41
import Derived.Test.YthcfgpjldhiinaaE43
import Derived.Deep.RegionHeld3

/-
  The walk of laws.FnExactEqualTerm.
-/
namespace Go.Proofs.Ythcfgpjldhiinaa
open Go.RowKit

set_option maxRecDepth 100000 in
set_option maxHeartbeats 8000000 in
theorem eqE_law (t : Te) (cs : List Value) (s : Te) (ds : List Value) (w : World) (h : RTe w t cs) (h' : RTe w s ds) : Calls Try.prog 6 #[.agg cs.toArray, .agg ds.toArray] w (LawYes w) := by
  obtain ⟨c0, c1, c2, c3, c4, c5, c6, c7, rfl⟩ := h.eight
  obtain ⟨d0, d1, d2, d3, d4, d5, d6, d7, rfl⟩ := h'.eight
  obtain ⟨W1, hW1⟩ : ∃ W1, (w.alloc (.cells #[c0, c1, c2, c3, c4, c5, c6, c7] 30)).alloc (.cells #[d0, d1, d2, d3, d4, d5, d6, d7] 30) = W1 := ⟨_, rfl⟩
  obtain ⟨H, hH⟩ : ∃ H, w.heap.size = H := ⟨_, rfl⟩
  have b0 : Box8 W1 H 30 c0 c1 c2 c3 c4 c5 c6 c7 := by rw [← hW1, ← hH]; exact (Box8.new w _ _ _ _ _ _ _ _ _).alloc _
  have b1 : Box8 W1 (H + 1) 30 d0 d1 d2 d3 d4 d5 d6 d7 := by
    rw [← hW1, ← hH]
    have := Box8.new (w.alloc (.cells #[c0, c1, c2, c3, c4, c5, c6, c7] 30)) 30 d0 d1 d2 d3 d4 d5 d6 d7
    simpa using this
  have hb0 : Below w.heap.size w W1 := by rw [← hW1]; exact ((Below.refl _ _).alloc (Nat.le_refl _) _).alloc (by simp) _
  have HSZ := Lib.hid (szTerm_any t W1 _ 1048576 (h.keep hb0) (by decide) (by decide))
  have HT := Lib.hid (fun W (hB : Below w.heap.size w W) => h.keep hB)
  have HT' := Lib.hid (fun W (hB : Below w.heap.size w W) => h'.keep hB)
  have HW1 := Lib.hid hW1
  have HB1 := Lib.hid hb0
  have A1 := Lib.hid b0
  have B1 := Lib.hid b1
  have x0 := b0.c0
  have x1 := b0.c1
  have x2 := b0.c2
  have x3 := b0.c3
  have x4 := b0.c4
  have x5 := b0.c5
  have x6 := b0.c6
  have x7 := b0.c7
  clear h h' hW1 b0 b1 hb0
  go_enter Try.func6, Try.ntmps6
  go_wp2_with fail
  rw [HW1.out]
  go_wp2_with fail
  refine HSZ.out.mono ?_
  rintro e w1 ⟨r, rfl, r1, r2, r3, hb1⟩
  have HB2 := Lib.hid (HB1.out.trans (hb1.mono HB1.out.size))
  have A2 := Lib.hid (A1.out.under hb1 A1.out.lt)
  have B2 := Lib.hid (B1.out.under hb1 B1.out.lt)
  clear x0 x1 x2 x3 x4 x5 x6 x7 hb1 HSZ
  by_cases hr : r < 0
  · have HY : Hid (LawYes w (.returned (.bool true)) w1) := ⟨rfl, HB2.out⟩
    clear r3
    go_wp2_with fail
    go_ret
    exact HY.out
  have hw : wte t ≤ 1048576 := by have := r3 (by omega); omega
  have hs : t.size ≤ 1048577 := by have := size_wte t; omega
  have hrr : 0 ≤ r := by omega
  have hr1 : r ≤ 1048576 := r1
  have HSZ := Lib.hid (szTerm_any s w1 _ r (HT'.out w1 HB2.out) hrr hr1)
  have y0 := B2.out.c0
  have y1 := B2.out.c1
  have y2 := B2.out.c2
  have y3 := B2.out.c3
  have y4 := B2.out.c4
  have y5 := B2.out.c5
  have y6 := B2.out.c6
  have y7 := B2.out.c7
  have HWT := Lib.hid hw
  have HST := Lib.hid hs
  clear r3 hr r1 r2 hw hs
  go_wp2_with fail
  refine HSZ.out.mono ?_
  rintro e w2 ⟨r', rfl, r1, r2, r3, hb2⟩
  have HB3 := Lib.hid (HB2.out.trans (hb2.mono HB2.out.size))
  have A3 := Lib.hid (A2.out.under hb2 A2.out.lt)
  have B3 := Lib.hid (B2.out.under hb2 B2.out.lt)
  clear y0 y1 y2 y3 y4 y5 y6 y7 hb2 HSZ
  by_cases hr : r' < 0
  · have HY : Hid (LawYes w (.returned (.bool true)) w2) := ⟨rfl, HB3.out⟩
    clear r3
    go_wp2_with fail
    go_ret
    exact HY.out
  have hw : wte s ≤ 1048576 := by have := r3 (by omega); omega
  have hs : s.size ≤ 1048577 := by have := size_wte s; omega
  have hrr' : 0 ≤ r' := by omega
  have TO := Lib.hid (fun W (hB : Below w.heap.size w W) => toTerm_any t W _ (HT.out W hB) HWT.out)
  have TO' := Lib.hid (fun W (hB : Below w.heap.size w W) => toTerm_any s W _ (HT'.out W hB) hw)
  have SP := Lib.hid (fun (W : World) (cs ds : List Value) (h : RTe W t cs) (h' : RTe W s ds) => (show Calls _ _ _ _ (Truth (same t s) W) from specEqE_any t s W _ _ h h'))
  have IM := Lib.hid (fun (W : World) (cs ds : List Value) (h : RTe W t cs) (h' : RTe W s ds) => (show Calls _ _ _ _ (Truth (same t s) W) from implEqualTerm_any t s W _ _ h h' HWT.out))
  have x0 := A3.out.c0
  have x1 := A3.out.c1
  have x2 := A3.out.c2
  have x3 := A3.out.c3
  have x4 := A3.out.c4
  have x5 := A3.out.c5
  have x6 := A3.out.c6
  have x7 := A3.out.c7
  have y0 := B3.out.c0
  have y1 := B3.out.c1
  have y2 := B3.out.c2
  have y3 := B3.out.c3
  have y4 := B3.out.c4
  have y5 := B3.out.c5
  have y6 := B3.out.c6
  have y7 := B3.out.c7
  clear r3 hw hs hr r1 r2 HT HT'
  go_wp2_with fail
  have HD := Lib.hid HB3.out.drew
  have A3d := Lib.hid (show Box8 w2.drew H 30 c0 c1 c2 c3 c4 c5 c6 c7 from A3.out)
  have B3d := Lib.hid (show Box8 w2.drew (H + 1) 30 d0 d1 d2 d3 d4 d5 d6 d7 from B3.out)
  clear HB3 A3 B3
  go_region_held3 (fun W => W.cell? ⟨H, 0, none⟩ = some c0 ∧ W.cell? ⟨H, 1, none⟩ = some c1 ∧ W.cell? ⟨H, 2, none⟩ = some c2 ∧ W.cell? ⟨H, 3, none⟩ = some c3 ∧ W.cell? ⟨H, 4, none⟩ = some c4 ∧ W.cell? ⟨H, 5, none⟩ = some c5 ∧ W.cell? ⟨H, 6, none⟩ = some c6 ∧ W.cell? ⟨H, 7, none⟩ = some c7 ∧ W.cell? ⟨H + 1, 0, none⟩ = some d0 ∧ W.cell? ⟨H + 1, 1, none⟩ = some d1 ∧ W.cell? ⟨H + 1, 2, none⟩ = some d2 ∧ W.cell? ⟨H + 1, 3, none⟩ = some d3 ∧ W.cell? ⟨H + 1, 4, none⟩ = some d4 ∧ W.cell? ⟨H + 1, 5, none⟩ = some d5 ∧ W.cell? ⟨H + 1, 6, none⟩ = some d6 ∧ W.cell? ⟨H + 1, 7, none⟩ = some d7)
    (first | (refine ⟨?_, ?_, ?_, ?_, ?_, ?_, ?_, ?_, ?_, ?_, ?_, ?_, ?_, ?_, ?_, ?_⟩ <;> assumption) | go_keep)
    (first
      | (go_at_call 12; refine (TO'.out w3 HB4.out).mono ?_; rintro e w4 ⟨TL4, Tl4, TM4, Tm4, L4, l4, M4, m4, fp4, rfl, ho4, hf4, hb4⟩; unfold teCells at ho4; have HB5 := Lib.hid (HB4.out.trans (hb4.mono HB4.out.size)); have A5 := Lib.hid (A4.out.under hb4 A4.out.lt); have B5 := Lib.hid (B4.out.under hb4 B4.out.lt); have HC := Lib.hid (SP.out w4 _ _ (R3.out.keep hb4) ho4.reads); have u0 := A5.out.c0; have u1 := A5.out.c1; have u2 := A5.out.c2; have u3 := A5.out.c3; have u4 := A5.out.c4; have u5 := A5.out.c5; have u6 := A5.out.c6; have u7 := A5.out.c7; have v0 := B5.out.c0; have v1 := B5.out.c1; have v2 := B5.out.c2; have v3 := B5.out.c3; have v4 := B5.out.c4; have v5 := B5.out.c5; have v6 := B5.out.c6; have v7 := B5.out.c7; clear ho4 hf4 hb4; generalize s.top.kind = j0 at HC ⊢; generalize s.top.name = j1 at HC ⊢; generalize s.top.num = j2 at HC ⊢; generalize s.top.type.top.kind = j3 at HC ⊢; generalize s.top.type.top.labels.length = j4 at HC ⊢; generalize s.top.type.kids.length = j5 at HC ⊢; generalize s.top.labels.length = j6 at HC ⊢; generalize s.kids.length = j7 at HC ⊢)
      | (go_at_call 12; refine (TO.out w2.drew HD.out).mono ?_; rintro e w3 ⟨TL3, Tl3, TM3, Tm3, L3, l3, M3, m3, fp3, rfl, ho3, hf3, hb3⟩; unfold teCells at ho3; have HB4 := Lib.hid (HD.out.trans (hb3.mono HD.out.size)); have A4 := Lib.hid (A3d.out.under hb3 A3d.out.lt); have B4 := Lib.hid (B3d.out.under hb3 B3d.out.lt); have R3 := Lib.hid ho3.reads; have q0 := A4.out.c0; have q1 := A4.out.c1; have q2 := A4.out.c2; have q3 := A4.out.c3; have q4 := A4.out.c4; have q5 := A4.out.c5; have q6 := A4.out.c6; have q7 := A4.out.c7; have p0 := B4.out.c0; have p1 := B4.out.c1; have p2 := B4.out.c2; have p3 := B4.out.c3; have p4 := B4.out.c4; have p5 := B4.out.c5; have p6 := B4.out.c6; have p7 := B4.out.c7; clear ho3 hf3 hb3; generalize t.top.kind = i0 at R3 ⊢; generalize t.top.name = i1 at R3 ⊢; generalize t.top.num = i2 at R3 ⊢; generalize t.top.type.top.kind = i3 at R3 ⊢; generalize t.top.type.top.labels.length = i4 at R3 ⊢; generalize t.top.type.kids.length = i5 at R3 ⊢; generalize t.top.labels.length = i6 at R3 ⊢; generalize t.kids.length = i7 at R3 ⊢)
      | (go_at_call 17; refine HC.out.mono ?_; rintro e w5 ⟨rfl, hb5⟩; have HB6 := Lib.hid (HB5.out.trans (hb5.mono HB5.out.size)); have A6 := Lib.hid (A5.out.under hb5 A5.out.lt); have B6 := Lib.hid (B5.out.under hb5 B5.out.lt); have x0 := A6.out.c0; have x1 := A6.out.c1; have x2 := A6.out.c2; have x3 := A6.out.c3; have x4 := A6.out.c4; have x5 := A6.out.c5; have x6 := A6.out.c6; have x7 := A6.out.c7; have y0 := B6.out.c0; have y1 := B6.out.c1; have y2 := B6.out.c2; have y3 := B6.out.c3; have y4 := B6.out.c4; have y5 := B6.out.c5; have y6 := B6.out.c6; have y7 := B6.out.c7; clear hb5 HC))
  clear q0 q1 q2 q3 q4 q5 q6 q7 p0 p1 p2 p3 p4 p5 p6 p7 u0 u1 u2 u3 u4 u5 u6 u7 v0 v1 v2 v3 v4 v5 v6 v7 A3d B3d HD HB4 HB5 A4 A5 B4 B5 R3
  go_wp2_with fail
  refine (TO.out w5 HB6.out).mono ?_
  rintro e w6 ⟨TL6, Tl6, TM6, Tm6, L6, l6, M6, m6, fp6, rfl, ho6, hf6, hb6⟩
  unfold teCells at ho6
  obtain ⟨W7, hW7⟩ : ∃ W7, w6.alloc (.cells #[.int .i64 t.top.kind, .string t.top.name, .int .i64 t.top.num, .int .i64 t.top.type.top.kind, .slice TL6 t.top.type.top.labels.length Tl6, .slice TM6 t.top.type.kids.length Tm6, .slice L6 t.top.labels.length l6, .slice M6 t.kids.length m6] 38) = W7 := ⟨_, rfl⟩
  obtain ⟨G, hG⟩ : ∃ G, w6.heap.size = G := ⟨_, rfl⟩
  have hx7 : Box8 W7 G 38 (.int .i64 t.top.kind) (.string t.top.name) (.int .i64 t.top.num) (.int .i64 t.top.type.top.kind) (.slice TL6 t.top.type.top.labels.length Tl6) (.slice TM6 t.top.type.kids.length Tm6) (.slice L6 t.top.labels.length l6) (.slice M6 t.kids.length m6) := by rw [← hW7, ← hG]; exact Box8.new w6 _ _ _ _ _ _ _ _ _
  have hb67 : Below w6.heap.size w6 W7 := by rw [← hW7]; exact (Below.refl _ _).alloc (Nat.le_refl _) _
  have HB7 := Lib.hid ((HB6.out.trans (hb6.mono HB6.out.size)).trans (hb67.mono (HB6.out.trans (hb6.mono HB6.out.size)).size))
  have A7 := Lib.hid ((A6.out.under hb6 A6.out.lt).under hb67 (A6.out.under hb6 A6.out.lt).lt)
  have B7 := Lib.hid ((B6.out.under hb6 B6.out.lt).under hb67 (B6.out.under hb6 B6.out.lt).lt)
  have R7 := Lib.hid (ho6.under hb67).reads
  have X7 := Lib.hid hx7
  have hy6 := B6.out.under hb6 B6.out.lt
  clear x0 x1 x2 x3 x4 x5 x6 x7 y0 y1 y2 y3 y4 y5 y6 y7
  have y0 := hy6.c0
  have y1 := hy6.c1
  have y2 := hy6.c2
  have y3 := hy6.c3
  have y4 := hy6.c4
  have y5 := hy6.c5
  have y6 := hy6.c6
  have y7 := hy6.c7
  have hy7 := B7.out
  rw [← hW7] at hy7
  have z0 := hy7.c0
  have z1 := hy7.c1
  have z2 := hy7.c2
  have z3 := hy7.c3
  have z4 := hy7.c4
  have z5 := hy7.c5
  have z6 := hy7.c6
  have z7 := hy7.c7
  have HW7 := Lib.hid hW7
  clear ho6 hf6 hb6 hb67 hx7 hW7 hy6 hy7 A6 B6
  generalize t.top.kind = g0 at X7 R7 HW7 z0 z1 z2 z3 z4 z5 z6 z7 ⊢
  generalize t.top.name = g1 at X7 R7 HW7 z0 z1 z2 z3 z4 z5 z6 z7 ⊢
  generalize t.top.num = g2 at X7 R7 HW7 z0 z1 z2 z3 z4 z5 z6 z7 ⊢
  generalize t.top.type.top.kind = g3 at X7 R7 HW7 z0 z1 z2 z3 z4 z5 z6 z7 ⊢
  generalize t.top.type.top.labels.length = g4 at X7 R7 HW7 z0 z1 z2 z3 z4 z5 z6 z7 ⊢
  generalize t.top.type.kids.length = g5 at X7 R7 HW7 z0 z1 z2 z3 z4 z5 z6 z7 ⊢
  generalize t.top.labels.length = g6 at X7 R7 HW7 z0 z1 z2 z3 z4 z5 z6 z7 ⊢
  generalize t.kids.length = g7 at X7 R7 HW7 z0 z1 z2 z3 z4 z5 z6 z7 ⊢
  go_wp2_with fail
  rw [HW7.out]
  clear y0 y1 y2 y3 y4 y5 y6 y7 z0 z1 z2 z3 z4 z5 z6 z7
  refine (TO'.out W7 HB7.out).mono ?_
  rintro e w8 ⟨TL8, Tl8, TM8, Tm8, L8, l8, M8, m8, fp8, rfl, ho8, hf8, hb8⟩
  unfold teCells at ho8
  obtain ⟨W9, hW9⟩ : ∃ W9, w8.alloc (.cells #[.int .i64 s.top.kind, .string s.top.name, .int .i64 s.top.num, .int .i64 s.top.type.top.kind, .slice TL8 s.top.type.top.labels.length Tl8, .slice TM8 s.top.type.kids.length Tm8, .slice L8 s.top.labels.length l8, .slice M8 s.kids.length m8] 38) = W9 := ⟨_, rfl⟩
  obtain ⟨F, hF⟩ : ∃ F, w8.heap.size = F := ⟨_, rfl⟩
  have hx9 : Box8 W9 F 38 (.int .i64 s.top.kind) (.string s.top.name) (.int .i64 s.top.num) (.int .i64 s.top.type.top.kind) (.slice TL8 s.top.type.top.labels.length Tl8) (.slice TM8 s.top.type.kids.length Tm8) (.slice L8 s.top.labels.length l8) (.slice M8 s.kids.length m8) := by rw [← hW9, ← hF]; exact Box8.new w8 _ _ _ _ _ _ _ _ _
  have hb79 : Below W7.heap.size W7 W9 := by rw [← hW9]; exact hb8.alloc hb8.size _
  have HB9 := Lib.hid (HB7.out.trans (hb79.mono HB7.out.size))
  have A9 := Lib.hid (A7.out.under hb79 A7.out.lt)
  have B9 := Lib.hid (B7.out.under hb79 B7.out.lt)
  have X9 := Lib.hid (X7.out.under hb79 X7.out.lt)
  have R9 := Lib.hid (R7.out.keep hb79)
  have Y9 := Lib.hid hx9
  have hos : OTe W9 s [.int .i64 s.top.kind, .string s.top.name, .int .i64 s.top.num, .int .i64 s.top.type.top.kind, .slice TL8 s.top.type.top.labels.length Tl8, .slice TM8 s.top.type.kids.length Tm8, .slice L8 s.top.labels.length l8, .slice M8 s.kids.length m8] fp8 := by rw [← hW9]; exact ho8.under ((Below.refl _ _).alloc (Nat.le_refl _) _)
  have S9 := Lib.hid hos.reads
  have HC := Lib.hid (IM.out W9 _ _ R9.out hos.reads)
  have hz := X9.out
  have hz' := Y9.out
  rw [← hW9] at hz hz'
  have z0 := hz.c0
  have z1 := hz.c1
  have z2 := hz.c2
  have z3 := hz.c3
  have z4 := hz.c4
  have z5 := hz.c5
  have z6 := hz.c6
  have z7 := hz.c7
  have z'0 := hz'.c0
  have z'1 := hz'.c1
  have z'2 := hz'.c2
  have z'3 := hz'.c3
  have z'4 := hz'.c4
  have z'5 := hz'.c5
  have z'6 := hz'.c6
  have z'7 := hz'.c7
  have HW9 := Lib.hid hW9
  clear ho8 hf8 hb8 hb79 hx9 hW9 hz hz' hos A7 B7 X7 R7
  generalize s.top.kind = k0 at Y9 S9 HC HW9 z0 z1 z2 z3 z4 z5 z6 z7 z'0 z'1 z'2 z'3 z'4 z'5 z'6 z'7 ⊢
  generalize s.top.name = k1 at Y9 S9 HC HW9 z0 z1 z2 z3 z4 z5 z6 z7 z'0 z'1 z'2 z'3 z'4 z'5 z'6 z'7 ⊢
  generalize s.top.num = k2 at Y9 S9 HC HW9 z0 z1 z2 z3 z4 z5 z6 z7 z'0 z'1 z'2 z'3 z'4 z'5 z'6 z'7 ⊢
  generalize s.top.type.top.kind = k3 at Y9 S9 HC HW9 z0 z1 z2 z3 z4 z5 z6 z7 z'0 z'1 z'2 z'3 z'4 z'5 z'6 z'7 ⊢
  generalize s.top.type.top.labels.length = k4 at Y9 S9 HC HW9 z0 z1 z2 z3 z4 z5 z6 z7 z'0 z'1 z'2 z'3 z'4 z'5 z'6 z'7 ⊢
  generalize s.top.type.kids.length = k5 at Y9 S9 HC HW9 z0 z1 z2 z3 z4 z5 z6 z7 z'0 z'1 z'2 z'3 z'4 z'5 z'6 z'7 ⊢
  generalize s.top.labels.length = k6 at Y9 S9 HC HW9 z0 z1 z2 z3 z4 z5 z6 z7 z'0 z'1 z'2 z'3 z'4 z'5 z'6 z'7 ⊢
  generalize s.kids.length = k7 at Y9 S9 HC HW9 z0 z1 z2 z3 z4 z5 z6 z7 z'0 z'1 z'2 z'3 z'4 z'5 z'6 z'7 ⊢
  go_wp2_with fail
  rw [HW9.out]
  refine HC.out.mono ?_
  rintro e w10 ⟨rfl, hb10⟩
  clear z0 z1 z2 z3 z4 z5 z6 z7 z'0 z'1 z'2 z'3 z'4 z'5 z'6 z'7 HC
  have HB10 := Lib.hid (HB9.out.trans (hb10.mono HB9.out.size)).drew
  have A10 := Lib.hid (show Box8 w10.drew H 30 c0 c1 c2 c3 c4 c5 c6 c7 from A9.out.under hb10.drew A9.out.lt)
  have B10 := Lib.hid (show Box8 w10.drew (H + 1) 30 d0 d1 d2 d3 d4 d5 d6 d7 from B9.out.under hb10.drew B9.out.lt)
  have X10 := Lib.hid (show Box8 w10.drew G 38 (.int .i64 g0) (.string g1) (.int .i64 g2) (.int .i64 g3) (.slice TL6 g4 Tl6) (.slice TM6 g5 Tm6) (.slice L6 g6 l6) (.slice M6 g7 m6) from X9.out.under hb10.drew X9.out.lt)
  have Y10 := Lib.hid (show Box8 w10.drew F 38 (.int .i64 k0) (.string k1) (.int .i64 k2) (.int .i64 k3) (.slice TL8 k4 Tl8) (.slice TM8 k5 Tm8) (.slice L8 k6 l8) (.slice M8 k7 m8) from Y9.out.under hb10.drew Y9.out.lt)
  have R10 := Lib.hid (R9.out.keep hb10.drew)
  have S10 := Lib.hid (S9.out.keep hb10.drew)
  have x0 : w10.cell? ⟨H, 0, none⟩ = some c0 := A10.out.c0
  have x1 : w10.cell? ⟨H, 1, none⟩ = some c1 := A10.out.c1
  have x2 : w10.cell? ⟨H, 2, none⟩ = some c2 := A10.out.c2
  have x3 : w10.cell? ⟨H, 3, none⟩ = some c3 := A10.out.c3
  have x4 : w10.cell? ⟨H, 4, none⟩ = some c4 := A10.out.c4
  have x5 : w10.cell? ⟨H, 5, none⟩ = some c5 := A10.out.c5
  have x6 : w10.cell? ⟨H, 6, none⟩ = some c6 := A10.out.c6
  have x7 : w10.cell? ⟨H, 7, none⟩ = some c7 := A10.out.c7
  have z0 : w10.cell? ⟨G, 0, none⟩ = some (.int .i64 g0) := X10.out.c0
  have z1 : w10.cell? ⟨G, 1, none⟩ = some (.string g1) := X10.out.c1
  have z2 : w10.cell? ⟨G, 2, none⟩ = some (.int .i64 g2) := X10.out.c2
  have z3 : w10.cell? ⟨G, 3, none⟩ = some (.int .i64 g3) := X10.out.c3
  have z4 : w10.cell? ⟨G, 4, none⟩ = some (.slice TL6 g4 Tl6) := X10.out.c4
  have z5 : w10.cell? ⟨G, 5, none⟩ = some (.slice TM6 g5 Tm6) := X10.out.c5
  have z6 : w10.cell? ⟨G, 6, none⟩ = some (.slice L6 g6 l6) := X10.out.c6
  have z7 : w10.cell? ⟨G, 7, none⟩ = some (.slice M6 g7 m6) := X10.out.c7
  clear hb10 A9 B9 X9 Y9 R9 S9
  generalize same t s = bb
  go_wp2_with fail
  go_region_held3 (fun W => W.cell? ⟨G, 0, none⟩ = some (.int .i64 g0) ∧ W.cell? ⟨G, 1, none⟩ = some (.string g1) ∧ W.cell? ⟨G, 2, none⟩ = some (.int .i64 g2) ∧ W.cell? ⟨G, 3, none⟩ = some (.int .i64 g3) ∧ W.cell? ⟨G, 4, none⟩ = some (.slice TL6 g4 Tl6) ∧ W.cell? ⟨G, 5, none⟩ = some (.slice TM6 g5 Tm6) ∧ W.cell? ⟨G, 6, none⟩ = some (.slice L6 g6 l6) ∧ W.cell? ⟨G, 7, none⟩ = some (.slice M6 g7 m6) ∧ W.cell? ⟨H, 0, none⟩ = some c0 ∧ W.cell? ⟨H, 1, none⟩ = some c1 ∧ W.cell? ⟨H, 2, none⟩ = some c2 ∧ W.cell? ⟨H, 3, none⟩ = some c3 ∧ W.cell? ⟨H, 4, none⟩ = some c4 ∧ W.cell? ⟨H, 5, none⟩ = some c5 ∧ W.cell? ⟨H, 6, none⟩ = some c6 ∧ W.cell? ⟨H, 7, none⟩ = some c7)
    (first | (refine ⟨?_, ?_, ?_, ?_, ?_, ?_, ?_, ?_, ?_, ?_, ?_, ?_, ?_, ?_, ?_, ?_⟩ <;> assumption) | go_keep)
    (first
      | (go_at_call 12; refine (TO.out w10.drew HB10.out).mono ?_; rintro e w11 ⟨TL11, Tl11, TM11, Tm11, L11, l11, M11, m11, fp11, rfl, ho11, hf11, hb11⟩; unfold teCells at ho11; have HB11 := Lib.hid (HB10.out.trans (hb11.mono HB10.out.size)); have HC := Lib.hid (eqTerm_same t w11 _ _ (R10.out.keep hb11) ho11.reads); have X11 := Lib.hid (X10.out.under hb11 X10.out.lt); have A11 := Lib.hid (A10.out.under hb11 A10.out.lt); have B11 := Lib.hid (B10.out.under hb11 B10.out.lt); have Y11 := Lib.hid (Y10.out.under hb11 Y10.out.lt); have S11 := Lib.hid (S10.out.keep hb11); have u0 := X11.out.c0; have u1 := X11.out.c1; have u2 := X11.out.c2; have u3 := X11.out.c3; have u4 := X11.out.c4; have u5 := X11.out.c5; have u6 := X11.out.c6; have u7 := X11.out.c7; have v0 := A11.out.c0; have v1 := A11.out.c1; have v2 := A11.out.c2; have v3 := A11.out.c3; have v4 := A11.out.c4; have v5 := A11.out.c5; have v6 := A11.out.c6; have v7 := A11.out.c7; clear ho11 hf11 hb11; generalize t.top.kind = h0 at HC ⊢; generalize t.top.name = h1 at HC ⊢; generalize t.top.num = h2 at HC ⊢; generalize t.top.type.top.kind = h3 at HC ⊢; generalize t.top.type.top.labels.length = h4 at HC ⊢; generalize t.top.type.kids.length = h5 at HC ⊢; generalize t.top.labels.length = h6 at HC ⊢; generalize t.kids.length = h7 at HC ⊢)
      | (go_at_call 14; refine HC.out.mono ?_; rintro e w12 ⟨rfl, hb12⟩; have HB12 := Lib.hid (HB11.out.trans (hb12.mono HB11.out.size)); have X12 := X11.out.under hb12 X11.out.lt; have A12 := A11.out.under hb12 A11.out.lt; have B12 := Lib.hid (B11.out.under hb12 B11.out.lt); have Y12 := Lib.hid (Y11.out.under hb12 Y11.out.lt); have S12 := Lib.hid (S11.out.keep hb12); have a0 := X12.c0; have a1 := X12.c1; have a2 := X12.c2; have a3 := X12.c3; have a4 := X12.c4; have a5 := X12.c5; have a6 := X12.c6; have a7 := X12.c7; have b0 := A12.c0; have b1 := A12.c1; have b2 := A12.c2; have b3 := A12.c3; have b4 := A12.c4; have b5 := A12.c5; have b6 := A12.c6; have b7 := A12.c7; clear HC X12 A12 hb12))
  clear x0 x1 x2 x3 x4 x5 x6 x7 z0 z1 z2 z3 z4 z5 z6 z7 u0 u1 u2 u3 u4 u5 u6 u7 v0 v1 v2 v3 v4 v5 v6 v7 a0 a1 a2 a3 a4 a5 a6 a7 b0 b1 b2 b3 b4 b5 b6 b7 HB10 HB11 X10 X11 A10 A11 B10 B11 Y10 Y11 R10 S10 S11
  have HB13 := Lib.hid HB12.out.drew
  have B13 := Lib.hid (show Box8 w12.drew (H + 1) 30 d0 d1 d2 d3 d4 d5 d6 d7 from B12.out)
  have Y13 := Lib.hid (show Box8 w12.drew F 38 (.int .i64 k0) (.string k1) (.int .i64 k2) (.int .i64 k3) (.slice TL8 k4 Tl8) (.slice TM8 k5 Tm8) (.slice L8 k6 l8) (.slice M8 k7 m8) from Y12.out)
  have S13 := Lib.hid (S12.out.keep (show Below w12.heap.size w12 w12.drew from (Below.refl _ _).drew))
  have x0 := B12.out.c0
  have x1 := B12.out.c1
  have x2 := B12.out.c2
  have x3 := B12.out.c3
  have x4 := B12.out.c4
  have x5 := B12.out.c5
  have x6 := B12.out.c6
  have x7 := B12.out.c7
  have z0 := Y12.out.c0
  have z1 := Y12.out.c1
  have z2 := Y12.out.c2
  have z3 := Y12.out.c3
  have z4 := Y12.out.c4
  have z5 := Y12.out.c5
  have z6 := Y12.out.c6
  have z7 := Y12.out.c7
  clear HB12 B12 Y12 S12
  go_wp2_with fail
  go_region_held3 (fun W => W.cell? ⟨F, 0, none⟩ = some (.int .i64 k0) ∧ W.cell? ⟨F, 1, none⟩ = some (.string k1) ∧ W.cell? ⟨F, 2, none⟩ = some (.int .i64 k2) ∧ W.cell? ⟨F, 3, none⟩ = some (.int .i64 k3) ∧ W.cell? ⟨F, 4, none⟩ = some (.slice TL8 k4 Tl8) ∧ W.cell? ⟨F, 5, none⟩ = some (.slice TM8 k5 Tm8) ∧ W.cell? ⟨F, 6, none⟩ = some (.slice L8 k6 l8) ∧ W.cell? ⟨F, 7, none⟩ = some (.slice M8 k7 m8) ∧ W.cell? ⟨H + 1, 0, none⟩ = some d0 ∧ W.cell? ⟨H + 1, 1, none⟩ = some d1 ∧ W.cell? ⟨H + 1, 2, none⟩ = some d2 ∧ W.cell? ⟨H + 1, 3, none⟩ = some d3 ∧ W.cell? ⟨H + 1, 4, none⟩ = some d4 ∧ W.cell? ⟨H + 1, 5, none⟩ = some d5 ∧ W.cell? ⟨H + 1, 6, none⟩ = some d6 ∧ W.cell? ⟨H + 1, 7, none⟩ = some d7)
    (first | (refine ⟨?_, ?_, ?_, ?_, ?_, ?_, ?_, ?_, ?_, ?_, ?_, ?_, ?_, ?_, ?_, ?_⟩ <;> assumption) | go_keep)
    (first
      | (go_at_call 12; refine (TO'.out w12.drew HB13.out).mono ?_; rintro e w14 ⟨TL14, Tl14, TM14, Tm14, L14, l14, M14, m14, fp14, rfl, ho14, hf14, hb14⟩; unfold teCells at ho14; have HB14 := Lib.hid (HB13.out.trans (hb14.mono HB13.out.size)); have HC := Lib.hid (eqTerm_same s w14 _ _ (S13.out.keep hb14) ho14.reads); have Y14 := Lib.hid (Y13.out.under hb14 Y13.out.lt); have B14 := Lib.hid (B13.out.under hb14 B13.out.lt); have u0 := Y14.out.c0; have u1 := Y14.out.c1; have u2 := Y14.out.c2; have u3 := Y14.out.c3; have u4 := Y14.out.c4; have u5 := Y14.out.c5; have u6 := Y14.out.c6; have u7 := Y14.out.c7; have v0 := B14.out.c0; have v1 := B14.out.c1; have v2 := B14.out.c2; have v3 := B14.out.c3; have v4 := B14.out.c4; have v5 := B14.out.c5; have v6 := B14.out.c6; have v7 := B14.out.c7; clear ho14 hf14 hb14; generalize s.top.kind = f0 at HC ⊢; generalize s.top.name = f1 at HC ⊢; generalize s.top.num = f2 at HC ⊢; generalize s.top.type.top.kind = f3 at HC ⊢; generalize s.top.type.top.labels.length = f4 at HC ⊢; generalize s.top.type.kids.length = f5 at HC ⊢; generalize s.top.labels.length = f6 at HC ⊢; generalize s.kids.length = f7 at HC ⊢)
      | (go_at_call 14; refine HC.out.mono ?_; rintro e w15 ⟨rfl, hb15⟩; have HY : Hid (LawYes w (.returned (.bool true)) w15) := ⟨rfl, HB14.out.trans (hb15.mono HB14.out.size)⟩; have Y15 := Y14.out.under hb15 Y14.out.lt; have B15 := B14.out.under hb15 B14.out.lt; have a0 := Y15.c0; have a1 := Y15.c1; have a2 := Y15.c2; have a3 := Y15.c3; have a4 := Y15.c4; have a5 := Y15.c5; have a6 := Y15.c6; have a7 := Y15.c7; have b0 := B15.c0; have b1 := B15.c1; have b2 := B15.c2; have b3 := B15.c3; have b4 := B15.c4; have b5 := B15.c5; have b6 := B15.c6; have b7 := B15.c7; clear HC Y15 B15))
  go_wp2_with fail
  go_ret
  exact HY.out
end Go.Proofs.Ythcfgpjldhiinaa
