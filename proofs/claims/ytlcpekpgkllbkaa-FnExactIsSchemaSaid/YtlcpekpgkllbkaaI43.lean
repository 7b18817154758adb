/-
  Merged by program: SchI, IssLaw.
-/
import Derived.Test.YtlcpekpgkllbkaaI42
import Derived.Test.YtlcpekpgkllbkaaI31
import Derived.Test.YtlcpekpgkllbkaaI15
import Derived.Test.YtlcpekpgkllbkaaI27
import Derived.Deep.RegionHeld3

/-
  The program's IsSchema.
-/
namespace Go.Proofs.Ytlcpekpgkllbkaa
open Go.RowKit

set_option maxRecDepth 100000 in
set_option maxHeartbeats 3200000 in
theorem implSch_any (t : Sc) (w : World) (cs : List Value) (h : RSc w t cs) (hw : wSc t ≤ 1048576) : Calls Try.prog 12 #[.agg cs.toArray] w (Truth (schB t) w) := by
  obtain ⟨A, d, rfl, hl, hld, hp⟩ := h.open
  have hlen : t.length ≤ 1048576 := Nat.le_trans (len_wSc t) hw
  obtain ⟨W1, hW1⟩ : ∃ W1, w.alloc (.cells #[.slice A t.length d] 29) = W1 := ⟨_, rfl⟩
  obtain ⟨H, hH⟩ : ∃ H, w.heap.size = H := ⟨_, rfl⟩
  have hbox : Box1 W1 H 29 (.slice A t.length d) := by rw [← hW1, ← hH]; exact Box1.new w _ _
  have hb1 : Below w.heap.size w W1 := by rw [← hW1]; exact (Below.refl _ _).alloc (Nat.le_refl _) _
  have HN := Lib.hid (implDecl_any t W1 _ (h.keep hb1) hw)
  have HE := Lib.hid (fun (W : World) (hB : Below w.heap.size w W) => everyDecl_any t W A d (hp.keep hB) hl hw)
  have HT : Hid (∀ b W, b = (t.all declB && (decide (t.length ≤ 4) && ascL (namesOf t))) → Below w.heap.size w W → Truth (schB t) w (.returned (.bool b)) W) := Lib.hid (fun b W hb hB => ⟨by rw [hb]; rfl, hB⟩)
  have HB1 := Lib.hid hb1
  have HX := Lib.hid hbox
  have HW1 := Lib.hid hW1
  have HAS := Lib.hid (fun (V : Option Addr) (lc : Nat) (W : World) (h : Sl W V ((namesOf t).map Value.string)) => implAsc_any V lc (namesOf t) W h (by rw [namesOf_len]; omega))
  have x0 := hbox.c0
  clear h hp hld hW1 hbox hb1 hw
  by_cases h4 : (t.length : Int) ≤ 4
  rotate_left
  · have HF := Lib.hid (HT.out false W1 (by rw [decide_eq_false (by omega)]; simp) HB1.out)
    clear HT HE HN HAS
    go_enter Try.func12, Try.ntmps12
    go_wp2_with fail
    rw [HW1.out]
    go_wp2_with fail
    go_ret
    exact HF.out
  have HT4 := Lib.hid (fun b W (hb : b = (t.all declB && ascL (namesOf t))) hB => HT.out b W (by rw [hb, decide_eq_true (by omega)]; simp) hB)
  clear HT
  go_enter Try.func12, Try.ntmps12
  go_wp2_with fail
  rw [HW1.out]
  go_wp2_with fail
  refine HN.out.mono ?_
  rintro e w2 ⟨V, lc, rfl, hown, hb2⟩
  have hsl := Sl.of_own hown
  have HB2 := Lib.hid (HB1.out.trans (hb2.mono HB1.out.size))
  have HX2 := Lib.hid (HX.out.under hb2 HX.out.lt)
  have HC := Lib.hid (HAS.out V lc w2 hsl)
  generalize ascL (namesOf t) = asc at HC HT4
  generalize (namesOf t).length = nl at HC ⊢
  clear hown hsl hb2 x0 HAS HN
  cases asc
  · have HF := Lib.hid (fun W hB => HT4.out false W (by simp) hB)
    clear HT4 HE
    go_wp2_with fail
    refine HC.out.mono ?_
    rintro e w3 ⟨rfl, n, rfl⟩
    go_wp2_with fail
    go_ret
    exact HF.out _ (below_drewN HB2.out n)
  · have HF := Lib.hid (fun W hB => HT4.out (t.all declB) W (by simp) hB)
    clear HT4
    go_wp2_with fail
    refine HC.out.mono ?_
    rintro e w3 ⟨rfl, n, rfl⟩
    have hb3 : Below w.heap.size w (w2.drewN n) := below_drewN HB2.out n
    have x3 : (w2.drewN n).cell? ⟨H, 0, none⟩ = some (.slice A t.length d) := (HX2.out.under (below_drewN (Below.refl _ _) n) HX2.out.lt).c0
    have HC4 := Lib.hid (HE.out (w2.drewN n) hb3)
    have HB3 := Lib.hid hb3
    clear hb3 HC HE
    go_wp2_with fail
    refine HC4.out.mono ?_
    rintro e w4 ⟨rfl, hb4⟩
    have HB4 := Lib.hid (HB3.out.trans (hb4.mono HB3.out.size))
    clear hb4
    go_wp2_with fail
    go_ret
    exact HF.out _ HB4.out
end Go.Proofs.Ytlcpekpgkllbkaa

/-
  The walk of laws.FnExactIsSchema.
-/
namespace Go.Proofs.Ytlcpekpgkllbkaa
open Go.RowKit

set_option maxRecDepth 100000 in
set_option maxHeartbeats 2000000 in
theorem iss_law (t : Sc) (cs : List Value) (w : World) (h : RSc w t cs) : Calls Try.prog 3 #[.agg cs.toArray] w (LawYes w) := by
  obtain ⟨c0, rfl⟩ := h.one
  obtain ⟨W1, hW1⟩ : ∃ W1, w.alloc (.cells #[c0] 24) = W1 := ⟨_, rfl⟩
  obtain ⟨H, hH⟩ : ∃ H, w.heap.size = H := ⟨_, rfl⟩
  have hbox : Box1 W1 H 24 c0 := by rw [← hW1, ← hH]; exact Box1.new w _ _
  have hb0 : Below w.heap.size w W1 := by rw [← hW1]; exact (Below.refl _ _).alloc (Nat.le_refl _) _
  have HSZ := Lib.hid (szSchema_any t W1 _ 1048576 (h.keep hb0) (by decide) (by decide))
  have HW1 := Lib.hid hW1
  have B1 := Lib.hid hbox
  have HB1 := Lib.hid hb0
  have x0 := hbox.c0
  have HT := Lib.hid (fun W (hB : Below w.heap.size w W) => h.keep hB)
  clear h hW1 hbox hb0
  go_enter Try.func3, Try.ntmps3
  go_wp2_with fail
  rw [HW1.out]
  go_wp2_with fail
  refine HSZ.out.mono ?_
  rintro e w1 ⟨r, rfl, r1, r2, r3, hb1⟩
  have HB2 := Lib.hid (HB1.out.trans (hb1.mono HB1.out.size))
  have B2 := Lib.hid (B1.out.under hb1 B1.out.lt)
  clear x0 hb1 HSZ
  by_cases hr : r < 0
  · have HY : Hid (LawYes w (.returned (.bool true)) w1) := ⟨rfl, HB2.out⟩
    clear r3
    go_wp2_with fail
    go_ret
    exact HY.out
  have hw : wSc t ≤ 1048576 := by have := r3 (by omega); omega
  have hs : t.length ≤ 1048577 := by have := len_wSc t; omega
  have hrr : 0 ≤ r := by omega
  have TO := Lib.hid (fun W (hB : Below w.heap.size w W) => toSchema_any t W _ (HT.out W hB) hw)
  have SP := Lib.hid (fun (W : World) (cs : List Value) (h : RSc W t cs) => (show Calls _ _ _ _ (Truth (schB t) W) from specSch_any t W _ h hw))
  have IM := Lib.hid (fun (W : World) (cs : List Value) (h : RSc W t cs) => (show Calls _ _ _ _ (Truth (schB t) W) from implSch_any t W _ h hw))
  have x0 := B2.out.c0
  clear r3 hw hs hr r1 r2 HT
  go_wp2_with fail
  refine (TO.out w1 HB2.out).mono ?_
  rintro e w2 ⟨A2, d2, fp2, rfl, ho2, hf2, hb2⟩
  have HB3 := Lib.hid (HB2.out.trans (hb2.mono HB2.out.size))
  have B3 := Lib.hid (B2.out.under hb2 B2.out.lt)
  have HC := Lib.hid (SP.out w2 _ ho2.reads)
  clear x0 ho2 hf2 hb2
  generalize t.length = y0 at HC ⊢
  go_wp2_with fail
  refine HC.out.mono ?_
  rintro e w3 ⟨rfl, hb3⟩
  have HB4 := Lib.hid (HB3.out.trans (hb3.mono HB3.out.size))
  have B4 := Lib.hid (B3.out.under hb3 B3.out.lt)
  have x0 := B4.out.c0
  clear hb3 HC
  go_wp2_with fail
  refine (TO.out w3 HB4.out).mono ?_
  rintro e w4 ⟨A4, d4, fp4, rfl, ho4, hf4, hb4⟩
  obtain ⟨W5, hW5⟩ : ∃ W5, w4.alloc (.cells #[.slice A4 t.length d4] 29) = W5 := ⟨_, rfl⟩
  obtain ⟨G, hG⟩ : ∃ G, w4.heap.size = G := ⟨_, rfl⟩
  have hx5 : Box1 W5 G 29 (.slice A4 t.length d4) := by rw [← hW5, ← hG]; exact Box1.new w4 _ _
  have hb45 : Below w4.heap.size w4 W5 := by rw [← hW5]; exact (Below.refl _ _).alloc (Nat.le_refl _) _
  have HB5 := Lib.hid ((HB4.out.trans (hb4.mono HB4.out.size)).trans (hb45.mono (HB4.out.trans (hb4.mono HB4.out.size)).size))
  have B5 := Lib.hid ((B4.out.under hb4 B4.out.lt).under hb45 (B4.out.under hb4 B4.out.lt).lt)
  have R5 := Lib.hid (ho4.under hb45).reads
  have HC := Lib.hid (IM.out W5 _ (ho4.under hb45).reads)
  have X5 := Lib.hid hx5
  have HW5 := Lib.hid hW5
  clear x0 ho4 hf4 hb4 hb45 hx5 hW5
  generalize t.length = y0 at HC X5 R5 HW5 ⊢
  have x0 := X5.out.c0
  go_wp2_with fail
  rw [HW5.out]
  go_wp2_with fail
  refine HC.out.mono ?_
  rintro e w6 ⟨rfl, hb6⟩
  have HB6 := Lib.hid (HB5.out.trans (hb6.mono HB5.out.size))
  have B6 := Lib.hid (B5.out.under hb6 B5.out.lt)
  have X6 := Lib.hid (X5.out.under hb6 X5.out.lt)
  have R6 := Lib.hid (R5.out.keep hb6)
  clear x0 hb6 HC
  have x0 := B6.out.c0
  have z0 := X6.out.c0
  have HD6 := Lib.hid HB6.out.drew
  have X6d := Lib.hid (show Box1 w6.drew G 29 (.slice A4 y0 d4) from X6.out)
  have B6d := Lib.hid (show Box1 w6.drew H 24 c0 from B6.out)
  have R6d := Lib.hid (R6.out.keep (show Below w6.heap.size w6 w6.drew from (Below.refl _ _).drew))
  clear HB6 X6 B6 R6
  go_wp2_with fail
  go_region_held3 (fun W => W.cell? ⟨G, 0, none⟩ = some (.slice A4 y0 d4) ∧ W.cell? ⟨H, 0, none⟩ = some c0)
    (first | (refine ⟨?_, ?_⟩ <;> assumption) | go_keep)
    (first
      | (go_at_call 11; refine (TO.out w6.drew HD6.out).mono ?_; rintro e w7 ⟨A7, d7, fp7, rfl, ho7, hf7, hb7⟩; have HB7 := Lib.hid (HD6.out.trans (hb7.mono HD6.out.size)); have HC := Lib.hid (eqSchema_same t w7 _ _ (R6d.out.keep hb7) ho7.reads); have X7 := Lib.hid (X6d.out.under hb7 X6d.out.lt); have B7 := Lib.hid (B6d.out.under hb7 B6d.out.lt); have u0 := X7.out.c0; have v0 := B7.out.c0; clear ho7 hf7 hb7; generalize t.length = q0 at HC ⊢)
      | (go_at_call 13; refine HC.out.mono ?_; rintro e w8 ⟨rfl, hb8⟩; have HY : Hid (LawYes w (.returned (.bool true)) w8) := ⟨rfl, HB7.out.trans (hb8.mono HB7.out.size)⟩; have X8 := X7.out.under hb8 X7.out.lt; have B8 := B7.out.under hb8 B7.out.lt; have t0 := X8.c0; have s0 := B8.c0; clear HC X8 B8))
  go_wp2_with fail
  go_ret
  exact HY.out
end Go.Proofs.Ytlcpekpgkllbkaa
