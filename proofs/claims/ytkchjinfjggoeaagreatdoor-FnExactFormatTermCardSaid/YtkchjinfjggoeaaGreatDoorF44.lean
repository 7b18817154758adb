/-
  Merged by program: TyEq, TeEq, FmeLaw.
-/
import Derived.Test.YtkchjinfjggoeaaGreatDoorF1
import Derived.Test.YtkchjinfjggoeaaGreatDoorF2
import Derived.Test.YtkchjinfjggoeaaGreatDoorF13
import Derived.StillTailTactics
import Derived.Test.YtkchjinfjggoeaaGreatDoorF4
import Derived.Test.YtkchjinfjggoeaaGreatDoorF17
import Derived.Test.YtkchjinfjggoeaaGreatDoorF41
import Derived.Test.YtkchjinfjggoeaaGreatDoorF9
import Derived.Test.YtkchjinfjggoeaaGreatDoorF43
import Derived.Deep.RegionHeld3

/-
  The comparison of a type with itself, wherever the two lie: 'eqType', 'eqTypeS'.
-/
namespace Go.Proofs.YtkchjinfjggoeaaGreatDoor
open Go.RowKit

def EqK (t : Ty) : Prop := ∀ (w : World) (cs ds : List Value), RTy w t cs → RTy w t ds → Calls Tryz.prog 42 #[.agg cs.toArray, .agg ds.toArray] w (LawYes w)

set_option maxHeartbeats 800000 in
set_option maxRecDepth 100000 in
theorem eqTypeS_of (ks : List Ty) (ih : ∀ t ∈ ks, EqK t) (w : World) (A B : Option Addr) (c d : Nat) (hA : RKids w A ks) (hB : RKids w B ks) (hl : ks.length ≤ 9223372036854775807) :
    Calls Tryz.prog 84 #[.slice A ks.length c, .slice B ks.length d] w (LawYes w) := by
  have HA := Lib.hid hA
  have HB := Lib.hid hB
  have HI := Lib.hid ih
  clear hA hB ih
  go_enter Tryz.func84, Tryz.ntmps84
  go_wp2_with fail
  go_loopw [5] (fun i wr => ∃ k : Nat, k ≤ ks.length ∧ i = .int .i64 k ∧ Below w.heap.size w wr) (fun i _ => ks.length - (intOf i).toNat)
  case atStart => exact ⟨0, Nat.zero_le _, rfl, Below.refl _ _⟩
  case round =>
    obtain ⟨k, hk, rfl, hb⟩ := hrel
    by_cases hlt : k < ks.length
    · obtain ⟨ad, p, c0, c1, c2, rfl, hpe, hr, q0, q1, q2⟩ := kid_at HA.out hb hlt
      obtain ⟨bd, p', d0, d1, d2, rfl, hpe', hr', q0', q1', q2'⟩ := kid_at HB.out hb hlt
      have HR := Lib.hid hr
      have HR' := Lib.hid hr'
      have HBW := Lib.hid hb
      clear hr hr' hb
      go_wp2_with fail
      go_still_tail 8, (by kernel_rfl)
      change wpList _ _ _ _ _ wr.drew
      have hd : Below wr.heap.size wr wr.drew := (Below.refl _ _).drew
      have HC := Lib.hid (HI.out ks[k] (List.getElem_mem hlt) wr.drew [c0, c1, c2] [d0, d1, d2] (HR.out.keep hd) (HR'.out.keep hd))
      have HB2 := Lib.hid (HBW.out.trans (hd.mono HBW.out.size))
      clear hd
      go_wp2_with fail
      refine HC.out.mono ?_
      rintro e w2 ⟨rfl, hb2⟩
      have HB3 := Lib.hid (HB2.out.trans (hb2.mono HB2.out.size))
      clear hb2
      go_wp2_with fail
      go_roundw
      case rel => exact ⟨k + 1, hlt, by go_num, HB3.out⟩
      case measure => simp [intOf]; omega
    · go_wp2_with fail
      go_ret
      exact ⟨rfl, hb⟩

set_option maxHeartbeats 800000 in
set_option maxRecDepth 100000 in
theorem eqType_same : ∀ t : Ty, EqK t := by
  refine Tr.ind ?_
  intro a ks ih w cs ds h h'
  obtain ⟨L, c, A, d, rfl, k1, k2, k3, k4, k5, k6, hp⟩ := h.out
  obtain ⟨L', c', A', d', rfl, k1', _, _, _, _, _, hp'⟩ := h'.out
  obtain ⟨W1, hW1⟩ : ∃ W1, (w.alloc (.cells #[.int .i64 a.kind, .slice L a.labels.length c, .slice A ks.length d] 27)).alloc (.cells #[.int .i64 a.kind, .slice L' a.labels.length c', .slice A' ks.length d'] 27) = W1 := ⟨_, rfl⟩
  obtain ⟨H, hH⟩ : ∃ H, w.heap.size = H := ⟨_, rfl⟩
  have b0 : Box3 W1 H 27 (.int .i64 a.kind) (.slice L a.labels.length c) (.slice A ks.length d) := by rw [← hW1, ← hH]; exact (Box3.new w _ _ _ _).alloc _
  have b1 : Box3 W1 (H + 1) 27 (.int .i64 a.kind) (.slice L' a.labels.length c') (.slice A' ks.length d') := by
    rw [← hW1, ← hH]
    have := Box3.new (w.alloc (.cells #[.int .i64 a.kind, .slice L a.labels.length c, .slice A ks.length d] 27)) 27 (.int .i64 a.kind) (.slice L' a.labels.length c') (.slice A' ks.length d')
    simpa using this
  have hb1 : Below w.heap.size w W1 := by rw [← hW1]; exact ((Below.refl _ _).alloc (Nat.le_refl _) _).alloc (by simp) _
  have HW1 := Lib.hid hW1
  have HP := Lib.hid (hp.keep hb1)
  have HP' := Lib.hid (hp'.keep hb1)
  have HL := Lib.hid (k1.below hb1)
  have HL' := Lib.hid (k1'.below hb1)
  have HB1 := Lib.hid hb1
  have HI := Lib.hid ih
  have x0 := b0.c0
  have x1 := b0.c1
  have x2 := b0.c2
  have y0 := b1.c0
  have y1 := b1.c1
  have y2 := b1.c2
  have B0 := Lib.hid b0
  have B1 := Lib.hid b1
  clear hp hp' ih k1 k1' k5 h h' hW1 b0 b1 hb1
  go_enter Tryz.func42, Tryz.ntmps42
  go_wp2_with fail
  rw [HW1.out]
  refine (eqL_any _ _ _ _ a.labels W1 HL.out HL'.out k4).mono ?_
  rintro e w2 ⟨rfl, hb2⟩
  have hz : H + 1 < W1.heap.size := B1.out.lt
  have z2 := (B0.out.under hb2 (by omega)).c2
  have v2 := (B1.out.under hb2 (by omega)).c2
  have HP2 := Lib.hid (HP.out.keep hb2)
  have HP2' := Lib.hid (HP'.out.keep hb2)
  have HB2 := Lib.hid (HB1.out.trans (hb2.mono HB1.out.size))
  clear hb2 x0 x1 x2 y0 y1 y2
  go_wp2_with fail
  refine (eqTypeS_of ks HI.out w2 A A' d d' HP2.out HP2'.out k6).mono ?_
  rintro e w3 ⟨rfl, hb3⟩
  have HB3 := Lib.hid (HB2.out.trans (hb3.mono HB2.out.size))
  clear hb3 z2 v2
  go_wp2_with fail
  go_ret
  exact ⟨rfl, HB3.out⟩
end Go.Proofs.YtkchjinfjggoeaaGreatDoor

/-
  The comparison of a type with itself, wherever the two lie: 'eqTerm', 'eqTermS'.
-/
namespace Go.Proofs.YtkchjinfjggoeaaGreatDoor
open Go.RowKit

def EqTeK (t : Te) : Prop := ∀ (w : World) (cs ds : List Value), RTe w t cs → RTe w t ds → Calls Tryz.prog 17 #[.agg cs.toArray, .agg ds.toArray] w (LawYes w)

set_option maxHeartbeats 800000 in
set_option maxRecDepth 100000 in
theorem eqTermS_of (ks : List Te) (ih : ∀ t ∈ ks, EqTeK t) (w : World) (A B : Option Addr) (c d : Nat) (hA : RTes w A ks) (hB : RTes w B ks) (hl : ks.length ≤ 9223372036854775807) :
    Calls Tryz.prog 44 #[.slice A ks.length c, .slice B ks.length d] w (LawYes w) := by
  have HA := Lib.hid hA
  have HB := Lib.hid hB
  have HI := Lib.hid ih
  clear hA hB ih
  go_enter Tryz.func44, Tryz.ntmps44
  go_wp2_with fail
  go_loopw [5] (fun i wr => ∃ k : Nat, k ≤ ks.length ∧ i = .int .i64 k ∧ Below w.heap.size w wr) (fun i _ => ks.length - (intOf i).toNat)
  case atStart => exact ⟨0, Nat.zero_le _, rfl, Below.refl _ _⟩
  case round =>
    obtain ⟨k, hk, rfl, hb⟩ := hrel
    by_cases hlt : k < ks.length
    · obtain ⟨ad, p, c0, c1, c2, c3, c4, c5, c6, c7, rfl, hpe, hr, q0, q1, q2, q3, q4, q5, q6, q7⟩ := tid_at HA.out hb hlt
      obtain ⟨bd, p', d0, d1, d2, d3, d4, d5, d6, d7, rfl, hpe', hr', q0', q1', q2', q3', q4', q5', q6', q7'⟩ := tid_at HB.out hb hlt
      have HR := Lib.hid hr
      have HR' := Lib.hid hr'
      have HBW := Lib.hid hb
      clear hr hr' hb
      go_wp2_with fail
      go_still_tail 8, (by kernel_rfl)
      change wpList _ _ _ _ _ wr.drew
      have hd : Below wr.heap.size wr wr.drew := (Below.refl _ _).drew
      have HC := Lib.hid (HI.out ks[k] (List.getElem_mem hlt) wr.drew [c0, c1, c2, c3, c4, c5, c6, c7] [d0, d1, d2, d3, d4, d5, d6, d7] (HR.out.keep hd) (HR'.out.keep hd))
      have HB2 := Lib.hid (HBW.out.trans (hd.mono HBW.out.size))
      clear hd
      go_wp2_with fail
      refine HC.out.mono ?_
      rintro e w2 ⟨rfl, hb2⟩
      have HB3 := Lib.hid (HB2.out.trans (hb2.mono HB2.out.size))
      clear hb2
      go_wp2_with fail
      go_roundw
      case rel => exact ⟨k + 1, hlt, by go_num, HB3.out⟩
      case measure => simp [intOf]; omega
    · go_wp2_with fail
      go_ret
      exact ⟨rfl, hb⟩

set_option maxHeartbeats 1600000 in
set_option maxRecDepth 100000 in
theorem eqTerm_same : ∀ t : Te, EqTeK t := by
  refine Tr.ind ?_
  intro a ks ih w cs ds h h'
  obtain ⟨TL, tc, TA, td, L, c, A, d, rfl, hT, k1, ⟨_, _, _, _, _, k4, k5⟩, k6, _, hp⟩ := h.out
  obtain ⟨TL', tc', TA', td', L', c', A', d', rfl, hT', k1', _, _, _, hp'⟩ := h'.out
  obtain ⟨W1, hW1⟩ : ∃ W1, (w.alloc (.cells #[.int .i64 a.kind, .string a.name, .int .i64 a.num, .int .i64 a.type.top.kind, .slice TL a.type.top.labels.length tc, .slice TA a.type.kids.length td, .slice L a.labels.length c, .slice A ks.length d] 30)).alloc (.cells #[.int .i64 a.kind, .string a.name, .int .i64 a.num, .int .i64 a.type.top.kind, .slice TL' a.type.top.labels.length tc', .slice TA' a.type.kids.length td', .slice L' a.labels.length c', .slice A' ks.length d'] 30) = W1 := ⟨_, rfl⟩
  obtain ⟨H, hH⟩ : ∃ H, w.heap.size = H := ⟨_, rfl⟩
  have b0 : Box8 W1 H 30 (.int .i64 a.kind) (.string a.name) (.int .i64 a.num) (.int .i64 a.type.top.kind) (.slice TL a.type.top.labels.length tc) (.slice TA a.type.kids.length td) (.slice L a.labels.length c) (.slice A ks.length d) := by rw [← hW1, ← hH]; exact (Box8.new w _ _ _ _ _ _ _ _ _).alloc _
  have b1 : Box8 W1 (H + 1) 30 (.int .i64 a.kind) (.string a.name) (.int .i64 a.num) (.int .i64 a.type.top.kind) (.slice TL' a.type.top.labels.length tc') (.slice TA' a.type.kids.length td') (.slice L' a.labels.length c') (.slice A' ks.length d') := by
    rw [← hW1, ← hH]
    have := Box8.new (w.alloc (.cells #[.int .i64 a.kind, .string a.name, .int .i64 a.num, .int .i64 a.type.top.kind, .slice TL a.type.top.labels.length tc, .slice TA a.type.kids.length td, .slice L a.labels.length c, .slice A ks.length d] 30)) 30 (.int .i64 a.kind) (.string a.name) (.int .i64 a.num) (.int .i64 a.type.top.kind) (.slice TL' a.type.top.labels.length tc') (.slice TA' a.type.kids.length td') (.slice L' a.labels.length c') (.slice A' ks.length d')
    simpa using this
  have hb1 : Below w.heap.size w W1 := by rw [← hW1]; exact ((Below.refl _ _).alloc (Nat.le_refl _) _).alloc (by simp) _
  have HW1 := Lib.hid hW1
  have HP := Lib.hid hp
  have HP' := Lib.hid hp'
  have HL := Lib.hid k1
  have HL' := Lib.hid k1'
  have HB1 := Lib.hid hb1
  have HI := Lib.hid ih
  have HTE := Lib.hid (eqType_same a.type W1 _ _ (hT.keep hb1) (hT'.keep hb1))
  have x0 := b0.c0
  have x1 := b0.c1
  have x2 := b0.c2
  have x3 := b0.c3
  have x4 := b0.c4
  have x5 := b0.c5
  have y0 := b1.c0
  have y1 := b1.c1
  have y2 := b1.c2
  have y3 := b1.c3
  have y4 := b1.c4
  have y5 := b1.c5
  have B0 := Lib.hid b0
  have B1 := Lib.hid b1
  clear hp hp' ih k1 k1' k5 h h' hW1 b0 b1 hb1 hT hT'
  generalize a.type.top.kind = g0 at HTE B0 B1 HW1 x3 y3 ⊢
  generalize a.type.top.labels.length = g1 at HTE B0 B1 HW1 x4 y4 ⊢
  generalize a.type.kids.length = g2 at HTE B0 B1 HW1 x5 y5 ⊢
  go_enter Tryz.func17, Tryz.ntmps17
  go_wp2_with fail
  rw [HW1.out]
  go_wp2_with fail
  refine HTE.out.mono ?_
  rintro e w2 ⟨rfl, hb2⟩
  have hz : H + 1 < W1.heap.size := B1.out.lt
  have C0 := Lib.hid (B0.out.under hb2 (by omega))
  have C1 := Lib.hid (B1.out.under hb2 (by omega))
  have HB2 := Lib.hid (HB1.out.trans (hb2.mono HB1.out.size))
  have z6 := C0.out.c6
  have v6 := C1.out.c6
  clear hb2 x0 x1 x2 x3 x4 x5 y0 y1 y2 y3 y4 y5
  go_wp2_with fail
  refine (eqL_any _ _ _ _ a.labels w2 (HL.out.below HB2.out) (HL'.out.below HB2.out) k4).mono ?_
  rintro e w3 ⟨rfl, hb3⟩
  have HB3 := Lib.hid (HB2.out.trans (hb3.mono HB2.out.size))
  have z7 := (C0.out.under hb3 C0.out.lt).c7
  have v7 := (C1.out.under hb3 C1.out.lt).c7
  clear hb3 z6 v6
  go_wp2_with fail
  refine (eqTermS_of ks HI.out w3 A A' d d' (HP.out.keep HB3.out) (HP'.out.keep HB3.out) k6).mono ?_
  rintro e w4 ⟨rfl, hb4⟩
  have HB4 := Lib.hid (HB3.out.trans (hb4.mono HB3.out.size))
  clear hb4 z7 v7
  go_wp2_with fail
  go_ret
  exact ⟨rfl, HB4.out⟩
end Go.Proofs.YtkchjinfjggoeaaGreatDoor

/-
  The walk of laws.FnExactFormatTerm.
-/
namespace Go.Proofs.YtkchjinfjggoeaaGreatDoor
open Go.RowKit

set_option maxRecDepth 100000 in
set_option maxHeartbeats 2000000 in
theorem fme_law (t : Te) (cs : List Value) (w : World) (h : RTe w t cs) (htab : TabOk w) (har : ArOk w) : Calls Tryz.prog 4 #[.agg cs.toArray] w (LawYes w) := by
  obtain ⟨c0, c1, c2, c3, c4, c5, c6, c7, rfl⟩ := h.eight
  obtain ⟨W1, hW1⟩ : ∃ W1, w.alloc (.cells #[c0, c1, c2, c3, c4, c5, c6, c7] 43) = W1 := ⟨_, rfl⟩
  obtain ⟨H, hH⟩ : ∃ H, w.heap.size = H := ⟨_, rfl⟩
  have hbox : Box8 W1 H 43 c0 c1 c2 c3 c4 c5 c6 c7 := by rw [← hW1, ← hH]; exact Box8.new w _ _ _ _ _ _ _ _ _
  have hb0 : Below w.heap.size w W1 := by rw [← hW1]; exact (Below.refl _ _).alloc (Nat.le_refl _) _
  have HSZ := Lib.hid (szTerm_any t W1 _ 1048576 (h.keep hb0) (by decide) (by decide))
  have HW1 := Lib.hid hW1
  have B1 := Lib.hid hbox
  have HB1 := Lib.hid hb0
  have x0 := hbox.c0
  have x1 := hbox.c1
  have x2 := hbox.c2
  have x3 := hbox.c3
  have x4 := hbox.c4
  have x5 := hbox.c5
  have x6 := hbox.c6
  have x7 := hbox.c7
  have x4 := hbox.c4
  have x5 := hbox.c5
  have x6 := hbox.c6
  have x7 := hbox.c7
  have HT := Lib.hid (fun W (hB : Below w.heap.size w W) => h.keep hB)
  have HTAB := Lib.hid htab
  have HAR := Lib.hid har
  clear h hW1 hbox hb0 htab har
  go_enter Tryz.func4, Tryz.ntmps4
  go_wp2_with fail
  rw [HW1.out]
  go_wp2_with fail
  refine HSZ.out.mono ?_
  rintro e w1 ⟨r, rfl, r1, r2, r3, hb1⟩
  have HB2 := Lib.hid (HB1.out.trans (hb1.mono HB1.out.size))
  have B2 := Lib.hid (B1.out.under hb1 B1.out.lt)
  clear x0 x1 x2 x3 x4 x5 x6 x7 hb1 HSZ
  by_cases hr : r < 0
  · have HY : Hid (LawYes w (.returned (.bool true)) w1) := ⟨rfl, HB2.out⟩
    clear r3
    go_wp2_with fail
    go_ret
    exact HY.out
  have hw : wte t ≤ 1048576 := by have := r3 (by omega); omega
  have hs : t.size ≤ 1048577 := by have := size_wte t; omega
  have hrr : 0 ≤ r := by omega
  have TO := Lib.hid (fun W (hB : Below w.heap.size w W) => toTerm_any t W _ (HT.out W hB) hw)
  have SP := Lib.hid (fun (W : World) (cs : List Value) (h : RTe W t cs) => (show Calls _ _ _ _ (Text (ttxB t) W) from specFormatE_any t W _ h hw))
  have IM := Lib.hid (fun (W : World) (cs : List Value) (hB : Below w.heap.size w W) (h : RTe W t cs) => (show Calls _ _ _ _ (Text (ttxB t) W) from implFormatE_any t W _ h hw (HTAB.out.keep hB) (HAR.out.keep hB)))
  have x0 := B2.out.c0
  have x1 := B2.out.c1
  have x2 := B2.out.c2
  have x3 := B2.out.c3
  have x4 := B2.out.c4
  have x5 := B2.out.c5
  have x6 := B2.out.c6
  have x7 := B2.out.c7
  clear r3 hw hs hr r1 r2 HT
  go_wp2_with fail
  refine (TO.out w1 HB2.out).mono ?_
  rintro e w2 ⟨TL2, tc2, TA2, td2, L2, l2, A2, d2, fp2, rfl, ho2, hf2, hb2⟩
  unfold teCells at ho2
  have HB3 := Lib.hid (HB2.out.trans (hb2.mono HB2.out.size))
  have B3 := Lib.hid (B2.out.under hb2 B2.out.lt)
  have HC := Lib.hid (SP.out w2 _ ho2.reads)
  clear x0 x1 x2 x3 x4 x5 x6 x7 ho2 hf2 hb2
  generalize t.top.kind = y0 at HC ⊢
  generalize t.top.name = y1 at HC ⊢
  generalize t.top.num = y2 at HC ⊢
  generalize t.top.type.top.kind = y3 at HC ⊢
  generalize t.top.type.top.labels.length = y4 at HC ⊢
  generalize t.top.type.kids.length = y5 at HC ⊢
  generalize t.top.labels.length = y6 at HC ⊢
  generalize t.kids.length = y7 at HC ⊢
  go_wp2_with fail
  refine HC.out.mono ?_
  rintro e w3 ⟨rfl, hb3⟩
  have HB4 := Lib.hid (HB3.out.trans (hb3.mono HB3.out.size))
  have B4 := Lib.hid (B3.out.under hb3 B3.out.lt)
  have x0 := B4.out.c0
  have x1 := B4.out.c1
  have x2 := B4.out.c2
  have x3 := B4.out.c3
  have x4 := B4.out.c4
  have x5 := B4.out.c5
  have x6 := B4.out.c6
  have x7 := B4.out.c7
  clear hb3 HC
  go_wp2_with fail
  refine (TO.out w3 HB4.out).mono ?_
  rintro e w4 ⟨TL4, tc4, TA4, td4, L4, l4, A4, d4, fp4, rfl, ho4, hf4, hb4⟩
  unfold teCells at ho4
  obtain ⟨W5, hW5⟩ : ∃ W5, w4.alloc (.cells #[.int .i64 t.top.kind, .string t.top.name, .int .i64 t.top.num, .int .i64 t.top.type.top.kind, .slice TL4 t.top.type.top.labels.length tc4, .slice TA4 t.top.type.kids.length td4, .slice L4 t.top.labels.length l4, .slice A4 t.kids.length d4] 30) = W5 := ⟨_, rfl⟩
  obtain ⟨G, hG⟩ : ∃ G, w4.heap.size = G := ⟨_, rfl⟩
  have hx5 : Box8 W5 G 30 (.int .i64 t.top.kind) (.string t.top.name) (.int .i64 t.top.num) (.int .i64 t.top.type.top.kind) (.slice TL4 t.top.type.top.labels.length tc4) (.slice TA4 t.top.type.kids.length td4) (.slice L4 t.top.labels.length l4) (.slice A4 t.kids.length d4) := by rw [← hW5, ← hG]; exact Box8.new w4 _ _ _ _ _ _ _ _ _
  have hb45 : Below w4.heap.size w4 W5 := by rw [← hW5]; exact (Below.refl _ _).alloc (Nat.le_refl _) _
  have HB5 := Lib.hid ((HB4.out.trans (hb4.mono HB4.out.size)).trans (hb45.mono (HB4.out.trans (hb4.mono HB4.out.size)).size))
  have B5 := Lib.hid ((B4.out.under hb4 B4.out.lt).under hb45 (B4.out.under hb4 B4.out.lt).lt)
  have R5 := Lib.hid (ho4.under hb45).reads
  have HC := Lib.hid (IM.out W5 _ HB5.out (ho4.under hb45).reads)
  have X5 := Lib.hid hx5
  have HW5 := Lib.hid hW5
  clear x0 x1 x2 x3 x4 x5 x6 x7 ho4 hf4 hb4 hb45 hx5 hW5
  generalize t.top.kind = y0 at HC X5 R5 HW5 ⊢
  generalize t.top.name = y1 at HC X5 R5 HW5 ⊢
  generalize t.top.num = y2 at HC X5 R5 HW5 ⊢
  generalize t.top.type.top.kind = y3 at HC X5 R5 HW5 ⊢
  generalize t.top.type.top.labels.length = y4 at HC X5 R5 HW5 ⊢
  generalize t.top.type.kids.length = y5 at HC X5 R5 HW5 ⊢
  generalize t.top.labels.length = y6 at HC X5 R5 HW5 ⊢
  generalize t.kids.length = y7 at HC X5 R5 HW5 ⊢
  have x0 := X5.out.c0
  have x1 := X5.out.c1
  have x2 := X5.out.c2
  have x3 := X5.out.c3
  have x4 := X5.out.c4
  have x5 := X5.out.c5
  have x6 := X5.out.c6
  have x7 := X5.out.c7
  go_wp2_with fail
  rw [HW5.out]
  go_wp2_with fail
  refine HC.out.mono ?_
  rintro e w6 ⟨rfl, hb6⟩
  have HB6 := Lib.hid (HB5.out.trans (hb6.mono HB5.out.size))
  have B6 := Lib.hid (B5.out.under hb6 B5.out.lt)
  have X6 := Lib.hid (X5.out.under hb6 X5.out.lt)
  have R6 := Lib.hid (R5.out.keep hb6)
  clear x0 x1 x2 x3 x4 x5 x6 x7 hb6 HC
  have x0 := B6.out.c0
  have x1 := B6.out.c1
  have x2 := B6.out.c2
  have x3 := B6.out.c3
  have x4 := B6.out.c4
  have x5 := B6.out.c5
  have x6 := B6.out.c6
  have x7 := B6.out.c7
  have z0 := X6.out.c0
  have z1 := X6.out.c1
  have z2 := X6.out.c2
  have z3 := X6.out.c3
  have z4 := X6.out.c4
  have z5 := X6.out.c5
  have z6 := X6.out.c6
  have z7 := X6.out.c7
  have HD6 := Lib.hid HB6.out.drew
  have X6d := Lib.hid (show Box8 w6.drew G 30 (.int .i64 y0) (.string y1) (.int .i64 y2) (.int .i64 y3) (.slice TL4 y4 tc4) (.slice TA4 y5 td4) (.slice L4 y6 l4) (.slice A4 y7 d4) from X6.out)
  have B6d := Lib.hid (show Box8 w6.drew H 43 c0 c1 c2 c3 c4 c5 c6 c7 from B6.out)
  have R6d := Lib.hid (R6.out.keep (show Below w6.heap.size w6 w6.drew from (Below.refl _ _).drew))
  clear HB6 X6 B6 R6
  go_wp2_with fail
  go_region_held3 (fun W => W.cell? ⟨G, 0, none⟩ = some (.int .i64 y0) ∧ W.cell? ⟨G, 1, none⟩ = some (.string y1) ∧ W.cell? ⟨G, 2, none⟩ = some (.int .i64 y2) ∧ W.cell? ⟨G, 3, none⟩ = some (.int .i64 y3) ∧ W.cell? ⟨G, 4, none⟩ = some (.slice TL4 y4 tc4) ∧ W.cell? ⟨G, 5, none⟩ = some (.slice TA4 y5 td4) ∧ W.cell? ⟨G, 6, none⟩ = some (.slice L4 y6 l4) ∧ W.cell? ⟨G, 7, none⟩ = some (.slice A4 y7 d4) ∧ W.cell? ⟨H, 0, none⟩ = some c0 ∧ W.cell? ⟨H, 1, none⟩ = some c1 ∧ W.cell? ⟨H, 2, none⟩ = some c2 ∧ W.cell? ⟨H, 3, none⟩ = some c3 ∧ W.cell? ⟨H, 4, none⟩ = some c4 ∧ W.cell? ⟨H, 5, none⟩ = some c5 ∧ W.cell? ⟨H, 6, none⟩ = some c6 ∧ W.cell? ⟨H, 7, none⟩ = some c7)
    (first | (refine ⟨?_, ?_, ?_, ?_, ?_, ?_, ?_, ?_, ?_, ?_, ?_, ?_, ?_, ?_, ?_, ?_⟩ <;> assumption) | go_keep)
    (first
      | (go_at_call 16; refine (TO.out w6.drew HD6.out).mono ?_; rintro e w7 ⟨TL7, tc7, TA7, td7, L7, l7, A7, d7, fp7, rfl, ho7, hf7, hb7⟩; unfold teCells at ho7; have HB7 := Lib.hid (HD6.out.trans (hb7.mono HD6.out.size)); have HC := Lib.hid (eqTerm_same t w7 _ _ (R6d.out.keep hb7) ho7.reads); have X7 := Lib.hid (X6d.out.under hb7 X6d.out.lt); have B7 := Lib.hid (B6d.out.under hb7 B6d.out.lt); have u0 := X7.out.c0; have u1 := X7.out.c1; have u2 := X7.out.c2; have u3 := X7.out.c3; have u4 := X7.out.c4; have u5 := X7.out.c5; have u6 := X7.out.c6; have u7 := X7.out.c7; have v0 := B7.out.c0; have v1 := B7.out.c1; have v2 := B7.out.c2; have v3 := B7.out.c3; have v4 := B7.out.c4; have v5 := B7.out.c5; have v6 := B7.out.c6; have v7 := B7.out.c7; clear ho7 hf7 hb7; generalize t.top.kind = q0 at HC ⊢; generalize t.top.name = q1 at HC ⊢; generalize t.top.num = q2 at HC ⊢; generalize t.top.type.top.kind = q3 at HC ⊢; generalize t.top.type.top.labels.length = q4 at HC ⊢; generalize t.top.type.kids.length = q5 at HC ⊢; generalize t.top.labels.length = q6 at HC ⊢; generalize t.kids.length = q7 at HC ⊢)
      | (go_at_call 17; refine HC.out.mono ?_; rintro e w8 ⟨rfl, hb8⟩; have HY : Hid (LawYes w (.returned (.bool true)) w8) := ⟨rfl, HB7.out.trans (hb8.mono HB7.out.size)⟩; have X8 := X7.out.under hb8 X7.out.lt; have B8 := B7.out.under hb8 B7.out.lt; have t0 := X8.c0; have t1 := X8.c1; have t2 := X8.c2; have t3 := X8.c3; have t4 := X8.c4; have t5 := X8.c5; have t6 := X8.c6; have t7 := X8.c7; have s0 := B8.c0; have s1 := B8.c1; have s2 := B8.c2; have s3 := B8.c3; have s4 := B8.c4; have s5 := B8.c5; have s6 := B8.c6; have s7 := B8.c7; clear HC X8 B8))
  go_wp2_with fail
  go_ret
  exact HY.out
end Go.Proofs.YtkchjinfjggoeaaGreatDoor
