/-
  Merged by program: IsdLaw.
-/
import Derived.Test.YtlcpekpgkllbkaaGreatN9
import Derived.Test.YtlcpekpgkllbkaaGreatN14
import Derived.Test.YtlcpekpgkllbkaaGreatN41
import Derived.Test.YtlcpekpgkllbkaaGreatN43
import Derived.Deep.RegionHeld3

/-
  The walk of laws.FnExactIsDB.
-/
namespace Go.Proofs.YtlcpekpgkllbkaaGreat
open Go.RowKit

set_option maxRecDepth 100000 in
set_option maxHeartbeats 8000000 in
theorem isd_law (t : Sc) (cs : List Value) (s : Db) (ds : List Value) (w : World) (h : RSc w t cs) (h' : RDb w s ds) : Calls Tryz.prog 4 #[.agg cs.toArray, .agg ds.toArray] w (LawYes w) := by
  obtain ⟨c0, rfl⟩ := h.one
  obtain ⟨d0, rfl⟩ := h'.one
  obtain ⟨W1, hW1⟩ : ∃ W1, (w.alloc (.cells #[c0] 59)).alloc (.cells #[d0] 62) = W1 := ⟨_, rfl⟩
  obtain ⟨H, hH⟩ : ∃ H, w.heap.size = H := ⟨_, rfl⟩
  have b0 : Box1 W1 H 59 c0 := by rw [← hW1, ← hH]; exact (Box1.new w _ _).alloc _
  have b1 : Box1 W1 (H + 1) 62 d0 := by
    rw [← hW1, ← hH]
    have := Box1.new (w.alloc (.cells #[c0] 59)) 62 d0
    simpa using this
  have hb0 : Below w.heap.size w W1 := by rw [← hW1]; exact ((Below.refl _ _).alloc (Nat.le_refl _) _).alloc (by simp) _
  have HSZ := Lib.hid (szSchema_any t W1 _ 1048576 (h.keep hb0) (by decide) (by decide))
  have HT := Lib.hid (fun W (hB : Below w.heap.size w W) => h.keep hB)
  have HT' := Lib.hid (fun W (hB : Below w.heap.size w W) => h'.keep hB)
  have HW1 := Lib.hid hW1
  have HB1 := Lib.hid hb0
  have A1 := Lib.hid b0
  have B1 := Lib.hid b1
  have x0 := b0.c0
  clear h h' hW1 b0 b1 hb0
  go_enter Tryz.func4, Tryz.ntmps4
  go_wp2_with fail
  rw [HW1.out]
  go_wp2_with fail
  refine HSZ.out.mono ?_
  rintro e w1 ⟨r, rfl, r1, r2, r3, hb1⟩
  have HB2 := Lib.hid (HB1.out.trans (hb1.mono HB1.out.size))
  have A2 := Lib.hid (A1.out.under hb1 A1.out.lt)
  have B2 := Lib.hid (B1.out.under hb1 B1.out.lt)
  clear x0 hb1 HSZ
  by_cases hr : r < 0
  · have HY : Hid (LawYes w (.returned (.bool true)) w1) := ⟨rfl, HB2.out⟩
    clear r3
    go_wp2_with fail
    go_ret
    exact HY.out
  have hw : wSc t ≤ 1048576 := by have := r3 (by omega); omega
  have hs : t.length ≤ 1048577 := by have := len_wSc t; omega
  have hrr : 0 ≤ r := by omega
  have hr1 : r ≤ 1048576 := r1
  have HSZ := Lib.hid (szDB_any s w1 _ r (HT'.out w1 HB2.out) hrr hr1)
  have y0 := B2.out.c0
  have HWT := Lib.hid hw
  have HST := Lib.hid hs
  clear r3 hr r1 r2 hw hs
  go_wp2_with fail
  refine HSZ.out.mono ?_
  rintro e w2 ⟨r', rfl, r1, r2, r3, hb2⟩
  have HB3 := Lib.hid (HB2.out.trans (hb2.mono HB2.out.size))
  have A3 := Lib.hid (A2.out.under hb2 A2.out.lt)
  have B3 := Lib.hid (B2.out.under hb2 B2.out.lt)
  clear y0 hb2 HSZ
  by_cases hr : r' < 0
  · have HY : Hid (LawYes w (.returned (.bool true)) w2) := ⟨rfl, HB3.out⟩
    clear r3
    go_wp2_with fail
    go_ret
    exact HY.out
  have hw : wDb s ≤ 1048576 := by have := r3 (by omega); omega
  have hs : s.length ≤ 1048577 := by have := len_wDb s; omega
  have hrr' : 0 ≤ r' := by omega
  have TO := Lib.hid (fun W (hB : Below w.heap.size w W) => toSchema_any t W _ (HT.out W hB) HWT.out)
  have TO' := Lib.hid (fun W (hB : Below w.heap.size w W) => toDB_any s W _ (HT'.out W hB) hw)
  have SP := Lib.hid (fun (W : World) (cs ds : List Value) (h : RSc W t cs) (h' : RDb W s ds) => (show Calls _ _ _ _ (Truth (dbB t s) W) from specIsDb_any t s W _ _ h h' HWT.out))
  have IM := Lib.hid (fun (W : World) (cs ds : List Value) (h : RSc W t cs) (h' : RDb W s ds) => (show Calls _ _ _ _ (Truth (dbB t s) W) from implIsDb_any t s W _ _ h h' HWT.out hw))
  have x0 := A3.out.c0
  have y0 := B3.out.c0
  clear r3 hw hs hr r1 r2 HT HT'
  go_wp2_with fail
  have HD := Lib.hid HB3.out.drew
  have A3d := Lib.hid (show Box1 w2.drew H 59 c0 from A3.out)
  have B3d := Lib.hid (show Box1 w2.drew (H + 1) 62 d0 from B3.out)
  clear HB3 A3 B3
  go_region_held3 (fun W => W.cell? ⟨H, 0, none⟩ = some c0 ∧ W.cell? ⟨H + 1, 0, none⟩ = some d0)
    (first | (refine ⟨?_, ?_⟩ <;> assumption) | go_keep)
    (first
      | (go_at_call 32; refine (TO'.out w3 HB4.out).mono ?_; rintro e w4 ⟨L4, l4, fp4, rfl, ho4, hf4, hb4⟩; have HB5 := Lib.hid (HB4.out.trans (hb4.mono HB4.out.size)); have A5 := Lib.hid (A4.out.under hb4 A4.out.lt); have B5 := Lib.hid (B4.out.under hb4 B4.out.lt); have HC := Lib.hid (SP.out w4 _ _ (R3.out.keep hb4) ho4.reads); have u0 := A5.out.c0; have v0 := B5.out.c0; clear ho4 hf4 hb4; generalize s.length = j0 at HC ⊢)
      | (go_at_call 31; refine (TO.out w2.drew HD.out).mono ?_; rintro e w3 ⟨L3, l3, fp3, rfl, ho3, hf3, hb3⟩; have HB4 := Lib.hid (HD.out.trans (hb3.mono HD.out.size)); have A4 := Lib.hid (A3d.out.under hb3 A3d.out.lt); have B4 := Lib.hid (B3d.out.under hb3 B3d.out.lt); have R3 := Lib.hid ho3.reads; have q0 := A4.out.c0; have p0 := B4.out.c0; clear ho3 hf3 hb3; generalize t.length = i0 at R3 ⊢)
      | (go_at_call 21; refine HC.out.mono ?_; rintro e w5 ⟨rfl, hb5⟩; have HB6 := Lib.hid (HB5.out.trans (hb5.mono HB5.out.size)); have A6 := Lib.hid (A5.out.under hb5 A5.out.lt); have B6 := Lib.hid (B5.out.under hb5 B5.out.lt); have x0 := A6.out.c0; have y0 := B6.out.c0; clear hb5 HC))
  clear q0 p0 u0 v0 A3d B3d HD HB4 HB5 A4 A5 B4 B5 R3
  go_wp2_with fail
  refine (TO.out w5 HB6.out).mono ?_
  rintro e w6 ⟨L6, l6, fp6, rfl, ho6, hf6, hb6⟩
  obtain ⟨W7, hW7⟩ : ∃ W7, w6.alloc (.cells #[.slice L6 t.length l6] 26) = W7 := ⟨_, rfl⟩
  obtain ⟨G, hG⟩ : ∃ G, w6.heap.size = G := ⟨_, rfl⟩
  have hx7 : Box1 W7 G 26 (.slice L6 t.length l6) := by rw [← hW7, ← hG]; exact Box1.new w6 _ _
  have hb67 : Below w6.heap.size w6 W7 := by rw [← hW7]; exact (Below.refl _ _).alloc (Nat.le_refl _) _
  have HB7 := Lib.hid ((HB6.out.trans (hb6.mono HB6.out.size)).trans (hb67.mono (HB6.out.trans (hb6.mono HB6.out.size)).size))
  have A7 := Lib.hid ((A6.out.under hb6 A6.out.lt).under hb67 (A6.out.under hb6 A6.out.lt).lt)
  have B7 := Lib.hid ((B6.out.under hb6 B6.out.lt).under hb67 (B6.out.under hb6 B6.out.lt).lt)
  have R7 := Lib.hid (ho6.under hb67).reads
  have X7 := Lib.hid hx7
  have hy6 := B6.out.under hb6 B6.out.lt
  clear x0 y0
  have y0 := hy6.c0
  have hy7 := B7.out
  rw [← hW7] at hy7
  have z0 := hy7.c0
  have HW7 := Lib.hid hW7
  clear ho6 hf6 hb6 hb67 hx7 hW7 hy6 hy7 A6 B6
  generalize t.length = g0 at X7 R7 HW7 z0 ⊢
  go_wp2_with fail
  rw [HW7.out]
  clear y0 z0
  refine (TO'.out W7 HB7.out).mono ?_
  rintro e w8 ⟨L8, l8, fp8, rfl, ho8, hf8, hb8⟩
  obtain ⟨W9, hW9⟩ : ∃ W9, w8.alloc (.cells #[.slice L8 s.length l8] 29) = W9 := ⟨_, rfl⟩
  obtain ⟨F, hF⟩ : ∃ F, w8.heap.size = F := ⟨_, rfl⟩
  have hx9 : Box1 W9 F 29 (.slice L8 s.length l8) := by rw [← hW9, ← hF]; exact Box1.new w8 _ _
  have hb79 : Below W7.heap.size W7 W9 := by rw [← hW9]; exact hb8.alloc hb8.size _
  have HB9 := Lib.hid (HB7.out.trans (hb79.mono HB7.out.size))
  have A9 := Lib.hid (A7.out.under hb79 A7.out.lt)
  have B9 := Lib.hid (B7.out.under hb79 B7.out.lt)
  have X9 := Lib.hid (X7.out.under hb79 X7.out.lt)
  have R9 := Lib.hid (R7.out.keep hb79)
  have Y9 := Lib.hid hx9
  have hos : ODb W9 s [.slice L8 s.length l8] fp8 := by rw [← hW9]; exact ho8.under ((Below.refl _ _).alloc (Nat.le_refl _) _)
  have S9 := Lib.hid hos.reads
  have HC := Lib.hid (IM.out W9 _ _ R9.out hos.reads)
  have hz := X9.out
  have hz' := Y9.out
  rw [← hW9] at hz hz'
  have z0 := hz.c0
  have z'0 := hz'.c0
  have HW9 := Lib.hid hW9
  clear ho8 hf8 hb8 hb79 hx9 hW9 hz hz' hos A7 B7 X7 R7
  generalize s.length = k0 at Y9 S9 HC HW9 z0 z'0 ⊢
  go_wp2_with fail
  rw [HW9.out]
  refine HC.out.mono ?_
  rintro e w10 ⟨rfl, hb10⟩
  clear z0 z'0 HC
  have HB10 := Lib.hid (HB9.out.trans (hb10.mono HB9.out.size)).drew
  have A10 := Lib.hid (show Box1 w10.drew H 59 c0 from A9.out.under hb10.drew A9.out.lt)
  have B10 := Lib.hid (show Box1 w10.drew (H + 1) 62 d0 from B9.out.under hb10.drew B9.out.lt)
  have X10 := Lib.hid (show Box1 w10.drew G 26 (.slice L6 g0 l6) from X9.out.under hb10.drew X9.out.lt)
  have Y10 := Lib.hid (show Box1 w10.drew F 29 (.slice L8 k0 l8) from Y9.out.under hb10.drew Y9.out.lt)
  have R10 := Lib.hid (R9.out.keep hb10.drew)
  have S10 := Lib.hid (S9.out.keep hb10.drew)
  have x0 : w10.cell? ⟨H, 0, none⟩ = some c0 := A10.out.c0
  have z0 : w10.cell? ⟨G, 0, none⟩ = some (.slice L6 g0 l6) := X10.out.c0
  clear hb10 A9 B9 X9 Y9 R9 S9
  generalize dbB t s = bb
  go_wp2_with fail
  go_region_held3 (fun W => W.cell? ⟨G, 0, none⟩ = some (.slice L6 g0 l6) ∧ W.cell? ⟨H, 0, none⟩ = some c0)
    (first | (refine ⟨?_, ?_⟩ <;> assumption) | go_keep)
    (first
      | (go_at_call 31; refine (TO.out w10.drew HB10.out).mono ?_; rintro e w11 ⟨L11, l11, fp11, rfl, ho11, hf11, hb11⟩; have HB11 := Lib.hid (HB10.out.trans (hb11.mono HB10.out.size)); have HC := Lib.hid (eqSchema_same t w11 _ _ (R10.out.keep hb11) ho11.reads); have X11 := Lib.hid (X10.out.under hb11 X10.out.lt); have A11 := Lib.hid (A10.out.under hb11 A10.out.lt); have B11 := Lib.hid (B10.out.under hb11 B10.out.lt); have Y11 := Lib.hid (Y10.out.under hb11 Y10.out.lt); have S11 := Lib.hid (S10.out.keep hb11); have u0 := X11.out.c0; have v0 := A11.out.c0; clear ho11 hf11 hb11; generalize t.length = h0 at HC ⊢)
      | (go_at_call 33; refine HC.out.mono ?_; rintro e w12 ⟨rfl, hb12⟩; have HB12 := Lib.hid (HB11.out.trans (hb12.mono HB11.out.size)); have X12 := X11.out.under hb12 X11.out.lt; have A12 := A11.out.under hb12 A11.out.lt; have B12 := Lib.hid (B11.out.under hb12 B11.out.lt); have Y12 := Lib.hid (Y11.out.under hb12 Y11.out.lt); have S12 := Lib.hid (S11.out.keep hb12); have a0 := X12.c0; have b0 := A12.c0; clear HC X12 A12 hb12))
  clear x0 z0 u0 v0 a0 b0 HB10 HB11 X10 X11 A10 A11 B10 B11 Y10 Y11 R10 S10 S11
  have HB13 := Lib.hid HB12.out.drew
  have B13 := Lib.hid (show Box1 w12.drew (H + 1) 62 d0 from B12.out)
  have Y13 := Lib.hid (show Box1 w12.drew F 29 (.slice L8 k0 l8) from Y12.out)
  have S13 := Lib.hid (S12.out.keep (show Below w12.heap.size w12 w12.drew from (Below.refl _ _).drew))
  have x0 := B12.out.c0
  have z0 := Y12.out.c0
  clear HB12 B12 Y12 S12
  go_wp2_with fail
  go_region_held3 (fun W => W.cell? ⟨F, 0, none⟩ = some (.slice L8 k0 l8) ∧ W.cell? ⟨H + 1, 0, none⟩ = some d0)
    (first | (refine ⟨?_, ?_⟩ <;> assumption) | go_keep)
    (first
      | (go_at_call 32; refine (TO'.out w12.drew HB13.out).mono ?_; rintro e w14 ⟨L14, l14, fp14, rfl, ho14, hf14, hb14⟩; have HB14 := Lib.hid (HB13.out.trans (hb14.mono HB13.out.size)); have HC := Lib.hid (eqDB_same s w14 _ _ (S13.out.keep hb14) ho14.reads); have Y14 := Lib.hid (Y13.out.under hb14 Y13.out.lt); have B14 := Lib.hid (B13.out.under hb14 B13.out.lt); have u0 := Y14.out.c0; have v0 := B14.out.c0; clear ho14 hf14 hb14; generalize s.length = f0 at HC ⊢)
      | (go_at_call 34; refine HC.out.mono ?_; rintro e w15 ⟨rfl, hb15⟩; have HY : Hid (LawYes w (.returned (.bool true)) w15) := ⟨rfl, HB14.out.trans (hb15.mono HB14.out.size)⟩; have Y15 := Y14.out.under hb15 Y14.out.lt; have B15 := B14.out.under hb15 B14.out.lt; have a0 := Y15.c0; have b0 := B15.c0; clear HC Y15 B15))
  go_wp2_with fail
  go_ret
  exact HY.out
end Go.Proofs.YtlcpekpgkllbkaaGreat
