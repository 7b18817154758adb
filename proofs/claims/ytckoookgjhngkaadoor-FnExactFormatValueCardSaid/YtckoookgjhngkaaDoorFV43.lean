/-
  Merged by program: FmvLaw.
-/
import Derived.Test.YtckoookgjhngkaaDoorFV41
import Derived.Test.YtckoookgjhngkaaDoorFV21
import Derived.Test.YtckoookgjhngkaaDoorFV7
import Derived.Test.YtckoookgjhngkaaDoorFV28
import Derived.Test.YtckoookgjhngkaaDoorFV42
import Derived.Deep.RegionHeld3

/-
  The walk of laws.FnExactFormatValue.
-/
namespace Go.Proofs.YtckoookgjhngkaaDoor
open Go.RowKit

set_option maxRecDepth 100000 in
set_option maxHeartbeats 2000000 in
theorem fmv_law (t : Va) (cs : List Value) (w : World) (h : RVa w t cs) (htab : TabOk w) : Calls Tryd.prog 3 #[.agg cs.toArray] w (LawYes w) := by
  obtain ⟨c0, c1, c2, c3, rfl⟩ := h.four
  obtain ⟨W1, hW1⟩ : ∃ W1, w.alloc (.cells #[c0, c1, c2, c3] 25) = W1 := ⟨_, rfl⟩
  obtain ⟨H, hH⟩ : ∃ H, w.heap.size = H := ⟨_, rfl⟩
  have hbox : Box4 W1 H 25 c0 c1 c2 c3 := by rw [← hW1, ← hH]; exact Box4.new w _ _ _ _ _
  have hb0 : Below w.heap.size w W1 := by rw [← hW1]; exact (Below.refl _ _).alloc (Nat.le_refl _) _
  have HSZ := Lib.hid (szValue_any t W1 _ 1048576 (h.keep hb0) (by decide) (by decide))
  have HW1 := Lib.hid hW1
  have B1 := Lib.hid hbox
  have HB1 := Lib.hid hb0
  have x0 := hbox.c0
  have x1 := hbox.c1
  have x2 := hbox.c2
  have x3 := hbox.c3
  have HT := Lib.hid (fun W (hB : Below w.heap.size w W) => h.keep hB)
  have HTAB := Lib.hid htab
  clear h hW1 hbox hb0 htab
  go_enter Tryd.func3, Tryd.ntmps3
  go_wp2_with fail
  rw [HW1.out]
  go_wp2_with fail
  refine HSZ.out.mono ?_
  rintro e w1 ⟨r, rfl, r1, r2, r3, hb1⟩
  have HB2 := Lib.hid (HB1.out.trans (hb1.mono HB1.out.size))
  have B2 := Lib.hid (B1.out.under hb1 B1.out.lt)
  clear x0 x1 x2 x3 hb1 HSZ
  by_cases hr : r < 0
  · have HY : Hid (LawYes w (.returned (.bool true)) w1) := ⟨rfl, HB2.out⟩
    clear r3
    go_wp2_with fail
    go_ret
    exact HY.out
  have hw : wv t ≤ 1048576 := by have := r3 (by omega); omega
  have hs : t.size ≤ 1048577 := by have := size_wv t; omega
  have hrr : 0 ≤ r := by omega
  have TO := Lib.hid (fun W (hB : Below w.heap.size w W) => toValue_any t W _ (HT.out W hB) hw)
  have SP := Lib.hid (fun (W : World) (cs : List Value) (h : RVa W t cs) => (show Calls _ _ _ _ (Text (vtxB t) W) from specFormatV_any t W _ h hw))
  have IM := Lib.hid (fun (W : World) (cs : List Value) (hB : Below w.heap.size w W) (h : RVa W t cs) => (show Calls _ _ _ _ (Text (vtxB t) W) from implFormatV_any t W _ h hw hs (HTAB.out.keep hB)))
  have x0 := B2.out.c0
  have x1 := B2.out.c1
  have x2 := B2.out.c2
  have x3 := B2.out.c3
  clear r3 hw hs hr r1 r2 HT
  go_wp2_with fail
  refine (TO.out w1 HB2.out).mono ?_
  rintro e w2 ⟨L2, A2, l2, d2, fp2, rfl, ho2, hf2, hb2⟩
  have HB3 := Lib.hid (HB2.out.trans (hb2.mono HB2.out.size))
  have B3 := Lib.hid (B2.out.under hb2 B2.out.lt)
  have HC := Lib.hid (SP.out w2 _ ho2.reads)
  clear x0 x1 x2 x3 ho2 hf2 hb2
  generalize t.top.kind = y0 at HC ⊢
  generalize t.top.num = y3 at HC ⊢
  generalize t.top.labels.length = y1 at HC ⊢
  generalize t.kids.length = y2 at HC ⊢
  go_wp2_with fail
  refine HC.out.mono ?_
  rintro e w3 ⟨rfl, hb3⟩
  have HB4 := Lib.hid (HB3.out.trans (hb3.mono HB3.out.size))
  have B4 := Lib.hid (B3.out.under hb3 B3.out.lt)
  have x0 := B4.out.c0
  have x1 := B4.out.c1
  have x2 := B4.out.c2
  have x3 := B4.out.c3
  clear hb3 HC
  go_wp2_with fail
  refine (TO.out w3 HB4.out).mono ?_
  rintro e w4 ⟨L4, A4, l4, d4, fp4, rfl, ho4, hf4, hb4⟩
  obtain ⟨W5, hW5⟩ : ∃ W5, w4.alloc (.cells #[.int .i64 t.top.kind, .int .i64 t.top.num, .slice L4 t.top.labels.length l4, .slice A4 t.kids.length d4] 30) = W5 := ⟨_, rfl⟩
  obtain ⟨G, hG⟩ : ∃ G, w4.heap.size = G := ⟨_, rfl⟩
  have hx5 : Box4 W5 G 30 (.int .i64 t.top.kind) (.int .i64 t.top.num) (.slice L4 t.top.labels.length l4) (.slice A4 t.kids.length d4) := by rw [← hW5, ← hG]; exact Box4.new w4 _ _ _ _ _
  have hb45 : Below w4.heap.size w4 W5 := by rw [← hW5]; exact (Below.refl _ _).alloc (Nat.le_refl _) _
  have HB5 := Lib.hid ((HB4.out.trans (hb4.mono HB4.out.size)).trans (hb45.mono (HB4.out.trans (hb4.mono HB4.out.size)).size))
  have B5 := Lib.hid ((B4.out.under hb4 B4.out.lt).under hb45 (B4.out.under hb4 B4.out.lt).lt)
  have R5 := Lib.hid (ho4.under hb45).reads
  have HC := Lib.hid (IM.out W5 _ HB5.out (ho4.under hb45).reads)
  have X5 := Lib.hid hx5
  have HW5 := Lib.hid hW5
  clear x0 x1 x2 x3 ho4 hf4 hb4 hb45 hx5 hW5
  generalize t.top.kind = y0 at HC X5 R5 HW5 ⊢
  generalize t.top.num = y3 at HC X5 R5 HW5 ⊢
  generalize t.top.labels.length = y1 at HC X5 R5 HW5 ⊢
  generalize t.kids.length = y2 at HC X5 R5 HW5 ⊢
  have x0 := X5.out.c0
  have x1 := X5.out.c1
  have x2 := X5.out.c2
  have x3 := X5.out.c3
  go_wp2_with fail
  rw [HW5.out]
  go_wp2_with fail
  refine HC.out.mono ?_
  rintro e w6 ⟨rfl, hb6⟩
  have HB6 := Lib.hid (HB5.out.trans (hb6.mono HB5.out.size))
  have B6 := Lib.hid (B5.out.under hb6 B5.out.lt)
  have X6 := Lib.hid (X5.out.under hb6 X5.out.lt)
  have R6 := Lib.hid (R5.out.keep hb6)
  clear x0 x1 x2 x3 hb6 HC
  have x0 := B6.out.c0
  have x1 := B6.out.c1
  have x2 := B6.out.c2
  have x3 := B6.out.c3
  have z0 := X6.out.c0
  have z1 := X6.out.c1
  have z2 := X6.out.c2
  have z3 := X6.out.c3
  have HD6 := Lib.hid HB6.out.drew
  have X6d := Lib.hid (show Box4 w6.drew G 30 (.int .i64 y0) (.int .i64 y3) (.slice L4 y1 l4) (.slice A4 y2 d4) from X6.out)
  have B6d := Lib.hid (show Box4 w6.drew H 25 c0 c1 c2 c3 from B6.out)
  have R6d := Lib.hid (R6.out.keep (show Below w6.heap.size w6 w6.drew from (Below.refl _ _).drew))
  clear HB6 X6 B6 R6
  go_wp2_with fail
  go_region_held3 (fun W => W.cell? ⟨G, 0, none⟩ = some (.int .i64 y0) ∧ W.cell? ⟨G, 1, none⟩ = some (.int .i64 y3) ∧ W.cell? ⟨G, 2, none⟩ = some (.slice L4 y1 l4) ∧ W.cell? ⟨G, 3, none⟩ = some (.slice A4 y2 d4) ∧ W.cell? ⟨H, 0, none⟩ = some c0 ∧ W.cell? ⟨H, 1, none⟩ = some c1 ∧ W.cell? ⟨H, 2, none⟩ = some c2 ∧ W.cell? ⟨H, 3, none⟩ = some c3)
    (first | (refine ⟨?_, ?_, ?_, ?_, ?_, ?_, ?_, ?_⟩ <;> assumption) | go_keep)
    (first
      | (go_at_call 6; refine (TO.out w6.drew HD6.out).mono ?_; rintro e w7 ⟨L7, A7, l7, d7, fp7, rfl, ho7, hf7, hb7⟩; have HB7 := Lib.hid (HD6.out.trans (hb7.mono HD6.out.size)); have HC := Lib.hid (eqValue_same t w7 _ _ (R6d.out.keep hb7) ho7.reads); have X7 := Lib.hid (X6d.out.under hb7 X6d.out.lt); have B7 := Lib.hid (B6d.out.under hb7 B6d.out.lt); have u0 := X7.out.c0; have u1 := X7.out.c1; have u2 := X7.out.c2; have u3 := X7.out.c3; have v0 := B7.out.c0; have v1 := B7.out.c1; have v2 := B7.out.c2; have v3 := B7.out.c3; clear ho7 hf7 hb7; generalize t.top.kind = q0 at HC ⊢; generalize t.top.num = q3 at HC ⊢; generalize t.top.labels.length = q1 at HC ⊢; generalize t.kids.length = q2 at HC ⊢)
      | (go_at_call 8; refine HC.out.mono ?_; rintro e w8 ⟨rfl, hb8⟩; have HY : Hid (LawYes w (.returned (.bool true)) w8) := ⟨rfl, HB7.out.trans (hb8.mono HB7.out.size)⟩; have X8 := X7.out.under hb8 X7.out.lt; have B8 := B7.out.under hb8 B7.out.lt; have t0 := X8.c0; have t1 := X8.c1; have t2 := X8.c2; have t3 := X8.c3; have s0 := B8.c0; have s1 := B8.c1; have s2 := B8.c2; have s3 := B8.c3; clear HC X8 B8))
  go_wp2_with fail
  go_ret
  exact HY.out
end Go.Proofs.YtckoookgjhngkaaDoor
