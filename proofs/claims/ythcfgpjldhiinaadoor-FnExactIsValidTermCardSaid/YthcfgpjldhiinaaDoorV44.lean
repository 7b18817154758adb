/-
  Merged by program: TyEq, TeEq.
-/
import Derived.Test.YthcfgpjldhiinaaDoorV1
import Derived.Test.YthcfgpjldhiinaaDoorV3
import Derived.Test.YthcfgpjldhiinaaDoorV41
import Derived.StillTailTactics
import Derived.Test.YthcfgpjldhiinaaDoorV2
import Derived.Test.YthcfgpjldhiinaaDoorV6

/-
  The comparison of a type with itself, wherever the two lie: 'eqType', 'eqTypeS'.
-/
namespace Go.Proofs.YthcfgpjldhiinaaDoor
open Go.RowKit

def EqK (t : Ty) : Prop := ∀ (w : World) (cs ds : List Value), RTy w t cs → RTy w t ds → Calls Tryd.prog 21 #[.agg cs.toArray, .agg ds.toArray] w (LawYes w)

set_option maxHeartbeats 800000 in
set_option maxRecDepth 100000 in
theorem eqTypeS_of (ks : List Ty) (ih : ∀ t ∈ ks, EqK t) (w : World) (A B : Option Addr) (c d : Nat) (hA : RKids w A ks) (hB : RKids w B ks) (hl : ks.length ≤ 9223372036854775807) :
    Calls Tryd.prog 32 #[.slice A ks.length c, .slice B ks.length d] w (LawYes w) := by
  have HA := Lib.hid hA
  have HB := Lib.hid hB
  have HI := Lib.hid ih
  clear hA hB ih
  go_enter Tryd.func32, Tryd.ntmps32
  go_wp2_with fail
  go_loopw [5] (fun i wr => ∃ k : Nat, k ≤ ks.length ∧ i = .int .i64 k ∧ Below w.heap.size w wr) (fun i _ => ks.length - (intOf i).toNat)
  case atStart => exact ⟨0, Nat.zero_le _, rfl, Below.refl _ _⟩
  case round =>
    obtain ⟨k, hk, rfl, hb⟩ := hrel
    by_cases hlt : k < ks.length
    · obtain ⟨ad, p, c0, c1, c2, rfl, hpe, hr, q0, q1, q2⟩ := kid_at HA.out hb hlt
      obtain ⟨bd, p', d0, d1, d2, rfl, hpe', hr', q0', q1', q2'⟩ := kid_at HB.out hb hlt
      have HR := Lib.hid hr
      have HR' := Lib.hid hr'
      have HBW := Lib.hid hb
      clear hr hr' hb
      go_wp2_with fail
      go_still_tail 8, (by kernel_rfl)
      change wpList _ _ _ _ _ wr.drew
      have hd : Below wr.heap.size wr wr.drew := (Below.refl _ _).drew
      have HC := Lib.hid (HI.out ks[k] (List.getElem_mem hlt) wr.drew [c0, c1, c2] [d0, d1, d2] (HR.out.keep hd) (HR'.out.keep hd))
      have HB2 := Lib.hid (HBW.out.trans (hd.mono HBW.out.size))
      clear hd
      go_wp2_with fail
      refine HC.out.mono ?_
      rintro e w2 ⟨rfl, hb2⟩
      have HB3 := Lib.hid (HB2.out.trans (hb2.mono HB2.out.size))
      clear hb2
      go_wp2_with fail
      go_roundw
      case rel => exact ⟨k + 1, hlt, by go_num, HB3.out⟩
      case measure => simp [intOf]; omega
    · go_wp2_with fail
      go_ret
      exact ⟨rfl, hb⟩

set_option maxHeartbeats 800000 in
set_option maxRecDepth 100000 in
theorem eqType_same : ∀ t : Ty, EqK t := by
  refine Tr.ind ?_
  intro a ks ih w cs ds h h'
  obtain ⟨L, c, A, d, rfl, k1, k2, k3, k4, k5, k6, hp⟩ := h.out
  obtain ⟨L', c', A', d', rfl, k1', _, _, _, _, _, hp'⟩ := h'.out
  obtain ⟨W1, hW1⟩ : ∃ W1, (w.alloc (.cells #[.int .i64 a.kind, .slice L a.labels.length c, .slice A ks.length d] 33)).alloc (.cells #[.int .i64 a.kind, .slice L' a.labels.length c', .slice A' ks.length d'] 33) = W1 := ⟨_, rfl⟩
  obtain ⟨H, hH⟩ : ∃ H, w.heap.size = H := ⟨_, rfl⟩
  have b0 : Box3 W1 H 33 (.int .i64 a.kind) (.slice L a.labels.length c) (.slice A ks.length d) := by rw [← hW1, ← hH]; exact (Box3.new w _ _ _ _).alloc _
  have b1 : Box3 W1 (H + 1) 33 (.int .i64 a.kind) (.slice L' a.labels.length c') (.slice A' ks.length d') := by
    rw [← hW1, ← hH]
    have := Box3.new (w.alloc (.cells #[.int .i64 a.kind, .slice L a.labels.length c, .slice A ks.length d] 33)) 33 (.int .i64 a.kind) (.slice L' a.labels.length c') (.slice A' ks.length d')
    simpa using this
  have hb1 : Below w.heap.size w W1 := by rw [← hW1]; exact ((Below.refl _ _).alloc (Nat.le_refl _) _).alloc (by simp) _
  have HW1 := Lib.hid hW1
  have HP := Lib.hid (hp.keep hb1)
  have HP' := Lib.hid (hp'.keep hb1)
  have HL := Lib.hid (k1.below hb1)
  have HL' := Lib.hid (k1'.below hb1)
  have HB1 := Lib.hid hb1
  have HI := Lib.hid ih
  have x0 := b0.c0
  have x1 := b0.c1
  have x2 := b0.c2
  have y0 := b1.c0
  have y1 := b1.c1
  have y2 := b1.c2
  have B0 := Lib.hid b0
  have B1 := Lib.hid b1
  clear hp hp' ih k1 k1' k5 h h' hW1 b0 b1 hb1
  go_enter Tryd.func21, Tryd.ntmps21
  go_wp2_with fail
  rw [HW1.out]
  refine (eqL_any _ _ _ _ a.labels W1 HL.out HL'.out k4).mono ?_
  rintro e w2 ⟨rfl, hb2⟩
  have hz : H + 1 < W1.heap.size := B1.out.lt
  have z2 := (B0.out.under hb2 (by omega)).c2
  have v2 := (B1.out.under hb2 (by omega)).c2
  have HP2 := Lib.hid (HP.out.keep hb2)
  have HP2' := Lib.hid (HP'.out.keep hb2)
  have HB2 := Lib.hid (HB1.out.trans (hb2.mono HB1.out.size))
  clear hb2 x0 x1 x2 y0 y1 y2
  go_wp2_with fail
  refine (eqTypeS_of ks HI.out w2 A A' d d' HP2.out HP2'.out k6).mono ?_
  rintro e w3 ⟨rfl, hb3⟩
  have HB3 := Lib.hid (HB2.out.trans (hb3.mono HB2.out.size))
  clear hb3 z2 v2
  go_wp2_with fail
  go_ret
  exact ⟨rfl, HB3.out⟩
end Go.Proofs.YthcfgpjldhiinaaDoor

/-
  The comparison of a type with itself, wherever the two lie: 'eqTerm', 'eqTermS'.
-/
namespace Go.Proofs.YthcfgpjldhiinaaDoor
open Go.RowKit

def EqTeK (t : Te) : Prop := ∀ (w : World) (cs ds : List Value), RTe w t cs → RTe w t ds → Calls Tryd.prog 8 #[.agg cs.toArray, .agg ds.toArray] w (LawYes w)

set_option maxHeartbeats 800000 in
set_option maxRecDepth 100000 in
theorem eqTermS_of (ks : List Te) (ih : ∀ t ∈ ks, EqTeK t) (w : World) (A B : Option Addr) (c d : Nat) (hA : RTes w A ks) (hB : RTes w B ks) (hl : ks.length ≤ 9223372036854775807) :
    Calls Tryd.prog 23 #[.slice A ks.length c, .slice B ks.length d] w (LawYes w) := by
  have HA := Lib.hid hA
  have HB := Lib.hid hB
  have HI := Lib.hid ih
  clear hA hB ih
  go_enter Tryd.func23, Tryd.ntmps23
  go_wp2_with fail
  go_loopw [5] (fun i wr => ∃ k : Nat, k ≤ ks.length ∧ i = .int .i64 k ∧ Below w.heap.size w wr) (fun i _ => ks.length - (intOf i).toNat)
  case atStart => exact ⟨0, Nat.zero_le _, rfl, Below.refl _ _⟩
  case round =>
    obtain ⟨k, hk, rfl, hb⟩ := hrel
    by_cases hlt : k < ks.length
    · obtain ⟨ad, p, c0, c1, c2, c3, c4, c5, c6, c7, rfl, hpe, hr, q0, q1, q2, q3, q4, q5, q6, q7⟩ := tid_at HA.out hb hlt
      obtain ⟨bd, p', d0, d1, d2, d3, d4, d5, d6, d7, rfl, hpe', hr', q0', q1', q2', q3', q4', q5', q6', q7'⟩ := tid_at HB.out hb hlt
      have HR := Lib.hid hr
      have HR' := Lib.hid hr'
      have HBW := Lib.hid hb
      clear hr hr' hb
      go_wp2_with fail
      go_still_tail 8, (by kernel_rfl)
      change wpList _ _ _ _ _ wr.drew
      have hd : Below wr.heap.size wr wr.drew := (Below.refl _ _).drew
      have HC := Lib.hid (HI.out ks[k] (List.getElem_mem hlt) wr.drew [c0, c1, c2, c3, c4, c5, c6, c7] [d0, d1, d2, d3, d4, d5, d6, d7] (HR.out.keep hd) (HR'.out.keep hd))
      have HB2 := Lib.hid (HBW.out.trans (hd.mono HBW.out.size))
      clear hd
      go_wp2_with fail
      refine HC.out.mono ?_
      rintro e w2 ⟨rfl, hb2⟩
      have HB3 := Lib.hid (HB2.out.trans (hb2.mono HB2.out.size))
      clear hb2
      go_wp2_with fail
      go_roundw
      case rel => exact ⟨k + 1, hlt, by go_num, HB3.out⟩
      case measure => simp [intOf]; omega
    · go_wp2_with fail
      go_ret
      exact ⟨rfl, hb⟩

set_option maxHeartbeats 1600000 in
set_option maxRecDepth 100000 in
theorem eqTerm_same : ∀ t : Te, EqTeK t := by
  refine Tr.ind ?_
  intro a ks ih w cs ds h h'
  obtain ⟨TL, tc, TA, td, L, c, A, d, rfl, hT, k1, ⟨_, _, _, _, _, k4, k5⟩, k6, _, hp⟩ := h.out
  obtain ⟨TL', tc', TA', td', L', c', A', d', rfl, hT', k1', _, _, _, hp'⟩ := h'.out
  obtain ⟨W1, hW1⟩ : ∃ W1, (w.alloc (.cells #[.int .i64 a.kind, .string a.name, .int .i64 a.num, .int .i64 a.type.top.kind, .slice TL a.type.top.labels.length tc, .slice TA a.type.kids.length td, .slice L a.labels.length c, .slice A ks.length d] 36)).alloc (.cells #[.int .i64 a.kind, .string a.name, .int .i64 a.num, .int .i64 a.type.top.kind, .slice TL' a.type.top.labels.length tc', .slice TA' a.type.kids.length td', .slice L' a.labels.length c', .slice A' ks.length d'] 36) = W1 := ⟨_, rfl⟩
  obtain ⟨H, hH⟩ : ∃ H, w.heap.size = H := ⟨_, rfl⟩
  have b0 : Box8 W1 H 36 (.int .i64 a.kind) (.string a.name) (.int .i64 a.num) (.int .i64 a.type.top.kind) (.slice TL a.type.top.labels.length tc) (.slice TA a.type.kids.length td) (.slice L a.labels.length c) (.slice A ks.length d) := by rw [← hW1, ← hH]; exact (Box8.new w _ _ _ _ _ _ _ _ _).alloc _
  have b1 : Box8 W1 (H + 1) 36 (.int .i64 a.kind) (.string a.name) (.int .i64 a.num) (.int .i64 a.type.top.kind) (.slice TL' a.type.top.labels.length tc') (.slice TA' a.type.kids.length td') (.slice L' a.labels.length c') (.slice A' ks.length d') := by
    rw [← hW1, ← hH]
    have := Box8.new (w.alloc (.cells #[.int .i64 a.kind, .string a.name, .int .i64 a.num, .int .i64 a.type.top.kind, .slice TL a.type.top.labels.length tc, .slice TA a.type.kids.length td, .slice L a.labels.length c, .slice A ks.length d] 36)) 36 (.int .i64 a.kind) (.string a.name) (.int .i64 a.num) (.int .i64 a.type.top.kind) (.slice TL' a.type.top.labels.length tc') (.slice TA' a.type.kids.length td') (.slice L' a.labels.length c') (.slice A' ks.length d')
    simpa using this
  have hb1 : Below w.heap.size w W1 := by rw [← hW1]; exact ((Below.refl _ _).alloc (Nat.le_refl _) _).alloc (by simp) _
  have HW1 := Lib.hid hW1
  have HP := Lib.hid hp
  have HP' := Lib.hid hp'
  have HL := Lib.hid k1
  have HL' := Lib.hid k1'
  have HB1 := Lib.hid hb1
  have HI := Lib.hid ih
  have HTE := Lib.hid (eqType_same a.type W1 _ _ (hT.keep hb1) (hT'.keep hb1))
  have x0 := b0.c0
  have x1 := b0.c1
  have x2 := b0.c2
  have x3 := b0.c3
  have x4 := b0.c4
  have x5 := b0.c5
  have y0 := b1.c0
  have y1 := b1.c1
  have y2 := b1.c2
  have y3 := b1.c3
  have y4 := b1.c4
  have y5 := b1.c5
  have B0 := Lib.hid b0
  have B1 := Lib.hid b1
  clear hp hp' ih k1 k1' k5 h h' hW1 b0 b1 hb1 hT hT'
  generalize a.type.top.kind = g0 at HTE B0 B1 HW1 x3 y3 ⊢
  generalize a.type.top.labels.length = g1 at HTE B0 B1 HW1 x4 y4 ⊢
  generalize a.type.kids.length = g2 at HTE B0 B1 HW1 x5 y5 ⊢
  go_enter Tryd.func8, Tryd.ntmps8
  go_wp2_with fail
  rw [HW1.out]
  go_wp2_with fail
  refine HTE.out.mono ?_
  rintro e w2 ⟨rfl, hb2⟩
  have hz : H + 1 < W1.heap.size := B1.out.lt
  have C0 := Lib.hid (B0.out.under hb2 (by omega))
  have C1 := Lib.hid (B1.out.under hb2 (by omega))
  have HB2 := Lib.hid (HB1.out.trans (hb2.mono HB1.out.size))
  have z6 := C0.out.c6
  have v6 := C1.out.c6
  clear hb2 x0 x1 x2 x3 x4 x5 y0 y1 y2 y3 y4 y5
  go_wp2_with fail
  refine (eqL_any _ _ _ _ a.labels w2 (HL.out.below HB2.out) (HL'.out.below HB2.out) k4).mono ?_
  rintro e w3 ⟨rfl, hb3⟩
  have HB3 := Lib.hid (HB2.out.trans (hb3.mono HB2.out.size))
  have z7 := (C0.out.under hb3 C0.out.lt).c7
  have v7 := (C1.out.under hb3 C1.out.lt).c7
  clear hb3 z6 v6
  go_wp2_with fail
  refine (eqTermS_of ks HI.out w3 A A' d d' (HP.out.keep HB3.out) (HP'.out.keep HB3.out) k6).mono ?_
  rintro e w4 ⟨rfl, hb4⟩
  have HB4 := Lib.hid (HB3.out.trans (hb4.mono HB3.out.size))
  clear hb4 z7 v7
  go_wp2_with fail
  go_ret
  exact ⟨rfl, HB4.out⟩
end Go.Proofs.YthcfgpjldhiinaaDoor
