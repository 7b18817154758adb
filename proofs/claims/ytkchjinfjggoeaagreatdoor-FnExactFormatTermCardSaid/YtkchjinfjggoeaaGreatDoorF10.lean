/-
  Merged by program: TeForm.
-/
import Derived.Test.YtkchjinfjggoeaaGreatDoorF7
import Derived.Test.YtkchjinfjggoeaaGreatDoorF8
import Derived.Test.YtkchjinfjggoeaaGreatDoorF9
import Derived.Deep.RegionHeld3

/-
  Whether every node of a term has its form; the model's l7Form and IsValidTerm.
-/
namespace Go.Proofs.YtkchjinfjggoeaaGreatDoor
open Go.RowKit

theorem tells_truth {b : Bool} {w : World} {e : Ending} {w' : World} (h : Tells b w e w') : Truth b w e w' := by
  obtain ⟨h1, n, rfl⟩ := h
  exact ⟨h1, below_drewN (Below.refl _ _) n⟩
set_option maxRecDepth 100000 in
set_option maxHeartbeats 800000 in
theorem l7Fields_any (a : TeA) (m : Nat) (TL TA L A : Option Addr) (tc td c d : Nat) (w : World) (hT : RTy w a.type [.int .i64 a.type.top.kind, .slice TL a.type.top.labels.length tc, .slice TA a.type.kids.length td]) (hwt : wt a.type ≤ 1048576)
    (hl : Sl w L (a.labels.map Value.string)) (hln : a.labels.length ≤ 1048576) (hls : ∀ x ∈ a.labels, x.size ≤ 1048576) (hns : a.name.size ≤ 1048576) :
    Calls Tryz.prog 74 #[.agg #[.int .i64 a.kind, .string a.name, .int .i64 a.num, .int .i64 a.type.top.kind, .slice TL a.type.top.labels.length tc, .slice TA a.type.kids.length td, .slice L a.labels.length c, .slice A m d]] w (Truth (fieldsB a) w) := by
  obtain ⟨W1, hW1⟩ : ∃ W1, w.alloc (.cells #[.int .i64 a.kind, .string a.name, .int .i64 a.num, .int .i64 a.type.top.kind, .slice TL a.type.top.labels.length tc, .slice TA a.type.kids.length td, .slice L a.labels.length c, .slice A m d] 30) = W1 := ⟨_, rfl⟩
  obtain ⟨H, hH⟩ : ∃ H, w.heap.size = H := ⟨_, rfl⟩
  have hb1 : Below w.heap.size w W1 := by rw [← hW1]; exact (Below.refl _ _).alloc (Nat.le_refl _) _
  have hbx : Box8 W1 H 30 (.int .i64 a.kind) (.string a.name) (.int .i64 a.num) (.int .i64 a.type.top.kind) (.slice TL a.type.top.labels.length tc) (.slice TA a.type.kids.length td) (.slice L a.labels.length c) (.slice A m d) := by rw [← hW1, ← hH]; exact Box8.new w _ _ _ _ _ _ _ _ _
  have hc : FieldCalls W1 a.kind a.num a.type.top.kind a.name TL TA L A a.type.top.labels.length tc a.type.kids.length td a.labels.length c m d H (arB a.name) (nameB a.name) (validB a.type) (labB a.labels) :=
    ⟨fun W hB => hbx.under hB hbx.lt, fun W => (specArity_any a.name W).mono fun _ _ ⟨h1, h2⟩ => ⟨h1, h2.symm⟩, fun W => quiet_says (l7Named_any a.kind W), fun W => quiet_says (specName_any a.name W hns),
      fun W hB => specValid_any a.type W _ ((hT.keep hb1).keep hB) hwt, fun W hB => (l3Labels_any L c a.labels W ((hl.below hb1).below hB) hln hls).mono fun _ _ h => tells_truth h, fun hi W => quiet_says (l1In_any a.num 0 hi W)⟩
  have hV : fieldsB a = (nameOk a.kind (arB a.name) (nameB a.name) (a.name.toList == []) && (typeOk a.kind (validB a.type) a.type.top.kind a.type.top.labels.length a.type.kids.length && (labOk a.kind (labB a.labels) a.labels.length && numOk a.kind a.num))) := rfl
  clear hT hwt hl hln hls hns hbx
  generalize fieldsB a = N at hV ⊢
  generalize a.kind = p at hc hV hW1 ⊢
  by_cases p4 : p = 4
  · subst p4; exact fields_op hc hW1 hb1 hV hH
  by_cases p13 : p = 13
  · subst p13; exact fields_lam hc hW1 hb1 hV hH
  by_cases p7 : p = 7
  · subst p7; exact fields_emp hc hW1 hb1 hV hH
  by_cases p5 : p = 5
  · subst p5; exact fields_rec hc hW1 hb1 hV hH
  by_cases p2 : p = 2
  · subst p2; exact fields_int hc hW1 hb1 hV hH
  by_cases p3 : p = 3
  · subst p3; exact fields_boo hc hW1 hb1 hV hH
  cases hn : nmB p with
  | true => exact fields_nam hc hW1 hb1 hV hn p4 p7 p13 p5 p2 p3 hH
  | false => exact fields_non hc hW1 hb1 hV hn p4 p7 p13 p5 p2 p3 hH

def nodeE (a : TeA) (n : Nat) : Bool := fieldsB a && decide ((n : Int) = arN a.kind a.name a.labels.length)
def Tr.formE : Te → Bool
  | .node a ks => (ks.attach.all fun ⟨t, _⟩ => t.formE) && nodeE a ks.length
theorem formE_node (a : TeA) (ks : List Te) : Tr.formE (.node a ks) = (ks.all Tr.formE && nodeE a ks.length) := by
  rw [Tr.formE]
  congr 1
  rw [Bool.eq_iff_iff, List.all_eq_true, List.all_eq_true]
  constructor
  · intro h t ht; exact h ⟨t, ht⟩ (List.mem_attach _ _)
  · rintro h ⟨t, ht⟩ _; exact h t ht
/-- what IsValidTerm says -/
def validE (t : Te) : Bool := decide (t.size ≤ 60) && (decide (t.deep ≤ 16) && t.formE)
theorem kid_wte_le {a : TeA} {ks : List Te} {t : Te} (h : t ∈ ks) : wte t ≤ wte (.node a ks) := by
  rw [wte_node]
  have := kid_sum_le wte h
  unfold wteK
  omega
theorem wte_parts {a : TeA} {ks : List Te} {B : Nat} (h : wte (.node a ks) ≤ B) : wt a.type ≤ B ∧ a.name.size ≤ B ∧ a.labels.length ≤ B ∧ ∀ x ∈ a.labels, x.size ≤ B := by
  rw [wte_node] at h
  unfold wteA at h
  exact ⟨by omega, by omega, by omega, fun x hx => by have := total_mem hx; omega⟩

set_option maxHeartbeats 1600000 in
set_option maxRecDepth 100000 in
theorem l7Form_any : ∀ (t : Te) (w : World) (cs : List Value), RTe w t cs → wte t ≤ 1048576 → Calls Tryz.prog 30 #[.agg cs.toArray] w (Truth t.formE w) := by
  refine Tr.ind ?_
  intro a ks ih w cs h hwt
  obtain ⟨TL, tc, TA, td, L, c, A, d, rfl, hT, k1, k2, k6, _, hp⟩ := h.out
  obtain ⟨lT, lN, l1, l2⟩ := wte_parts hwt
  have hkl : ks.length ≤ 1048576 := by rw [wte_node] at hwt; unfold wteK at hwt; omega
  have hFA := fun (W : World) (hB : Below w.heap.size w W) => l7Fields_any a ks.length TL TA L A tc td c d W (hT.keep hB) lT (k1.below hB) l1 l2 lN
  rw [formE_node]
  obtain ⟨N, hN⟩ : ∃ N, (ks.all Tr.formE && nodeE a ks.length) = N := ⟨_, rfl⟩
  rw [hN]
  have HN0 := Lib.hid hN
  clear hN
  obtain ⟨W1, hW1⟩ : ∃ W1, w.alloc (.cells #[.int .i64 a.kind, .string a.name, .int .i64 a.num, .int .i64 a.type.top.kind, .slice TL a.type.top.labels.length tc, .slice TA a.type.kids.length td, .slice L a.labels.length c, .slice A ks.length d] 30) = W1 := ⟨_, rfl⟩
  have hb0 : Below w.heap.size w W1 := by rw [← hW1]; exact (Below.refl _ _).alloc (Nat.le_refl _) _
  obtain ⟨H, hH⟩ : ∃ H, w.heap.size = H := ⟨_, rfl⟩
  have b0 : Box8 W1 H 30 (.int .i64 a.kind) (.string a.name) (.int .i64 a.num) (.int .i64 a.type.top.kind) (.slice TL a.type.top.labels.length tc) (.slice TA a.type.kids.length td) (.slice L a.labels.length c) (.slice A ks.length d) := by rw [← hW1, ← hH]; exact Box8.new w _ _ _ _ _ _ _ _ _
  have HP := Lib.hid hp
  have HFA := Lib.hid hFA
  have HI := Lib.hid ih
  have HB0 := Lib.hid hb0
  have B0 := Lib.hid b0
  have HW1 := Lib.hid hW1
  have HWT := Lib.hid hwt
  clear hp ih hb0 b0 hW1 k1 h l2 hwt hT hFA lT lN l1
  go_enter Tryz.func30, Tryz.ntmps30
  go_wp2_with fail
  rw [HW1.out]
  go_loopw [3] (fun i wr => ∃ k : Nat, k ≤ ks.length ∧ i = .int .i64 k ∧ AllTo Tr.formE ks k ∧ Below W1.heap.size W1 wr) (fun i _ => ks.length - (intOf i).toNat)
  case atStart => exact ⟨0, Nat.zero_le _, rfl, allTo_zero _ _, Below.refl _ _⟩
  case round =>
    obtain ⟨k, hk, rfl, hno, hb⟩ := hrel
    have hbw := HB0.out.trans (hb.mono HB0.out.size)
    have bk := B0.out.under hb B0.out.lt
    have hbx := bk.c7
    by_cases hlt : k < ks.length
    · obtain ⟨ad, p, c0, c1, c2, c3, c4, c5, c6, c7, rfl, hpe, hr, q0, q1, q2, q3, q4, q5, q6, q7⟩ := tid_at HP.out hbw hlt
      have hc := HI.out ks[k] (List.getElem_mem hlt) wr [c0, c1, c2, c3, c4, c5, c6, c7] hr (Nat.le_trans (kid_wte_le (List.getElem_mem hlt)) HWT.out)
      have HC := Lib.hid hc
      have HN := Lib.hid hno
      have HBW := Lib.hid hbw
      clear hc hr hno bk
      go_wp2_with fail
      refine HC.out.mono ?_
      rintro e w2 ⟨rfl, hb2⟩
      have hb3 := hb.trans (hb2.mono hb.size)
      have HB4 := Lib.hid (HBW.out.trans (hb2.mono HBW.out.size))
      by_cases hf : Tr.formE ks[k] = true
      · have HN2 := Lib.hid (allTo_succ HN.out hlt hf)
        rw [hf]
        clear hf
        go_wp2_with fail
        go_roundw
        case rel => exact ⟨k + 1, hlt, by go_num, HN2.out, hb3⟩
        case measure => simp [intOf]; omega
      · have hf' : Tr.formE ks[k] = false := by simpa using hf
        have HR := Lib.hid (truth_iff (a := N) (b := false) (by rw [← HN0.out, all_not hlt hf']; rfl) HB4.out)
        rw [hf']
        clear hf hf'
        go_wp2_with fail
        go_ret
        exact HR.out
    · have he : k = ks.length := by omega
      have hall := allTo_all (he ▸ hno)
      have hdr : Below wr.heap.size wr wr.drew := (Below.refl _ _).drew
      have HC := Lib.hid (HFA.out wr.drew (hbw.trans (hdr.mono hbw.size)))
      have HE : Hid (N = nodeE a ks.length) := Lib.hid (by rw [← HN0.out, hall, Bool.true_and])
      have HBW := Lib.hid hbw
      have BK := Lib.hid bk
      have hbx0 := bk.c0
      have hbx1 := bk.c1
      have hbx2 := bk.c2
      have hbx3 := bk.c3
      have hbx4 := bk.c4
      have hbx5 := bk.c5
      have hbx6 := bk.c6
      subst he
      clear hall hno bk hb hbw hdr HP HI HWT HFA HN0
      have HBD : Hid (Below w.heap.size w wr.drew) := Lib.hid HBW.out.drew
      have BD : Hid (Box8 wr.drew H 30 (.int .i64 a.kind) (.string a.name) (.int .i64 a.num) (.int .i64 a.type.top.kind) (.slice TL a.type.top.labels.length tc) (.slice TA a.type.kids.length td) (.slice L a.labels.length c) (.slice A ks.length d)) := Lib.hid BK.out
      cases hf : fieldsB a with
      | false =>
        rw [hf] at HC
        have HF : Hid (∀ w2, Below wr.drew.heap.size wr.drew w2 → Truth N w (.returned (.bool false)) w2) := Lib.hid (fun w2 hb2 => truth_iff (by rw [HE.out]; unfold nodeE; rw [hf]; rfl) (HBD.out.trans (hb2.mono HBD.out.size)))
        clear hf
        go_wp2_with fail
        have d0 := BD.out.c0
        have d1 := BD.out.c1
        have d2 := BD.out.c2
        have d3 := BD.out.c3
        have d4 := BD.out.c4
        have d5 := BD.out.c5
        have d6 := BD.out.c6
        have d7 := BD.out.c7
        refine wp_region_noPanic ?_
        refine wp_region_held_drew (S := (fun W => W.cell? ⟨H, 0, none⟩ = some (.int .i64 a.kind) ∧ W.cell? ⟨H, 1, none⟩ = some (.string a.name) ∧ W.cell? ⟨H, 2, none⟩ = some (.int .i64 a.num) ∧ W.cell? ⟨H, 3, none⟩ = some (.int .i64 a.type.top.kind) ∧ W.cell? ⟨H, 4, none⟩ = some (.slice TL a.type.top.labels.length tc) ∧ W.cell? ⟨H, 5, none⟩ = some (.slice TA a.type.kids.length td) ∧ W.cell? ⟨H, 6, none⟩ = some (.slice L a.labels.length c) ∧ W.cell? ⟨H, 7, none⟩ = some (.slice A ks.length d))) (by kernel_rfl) ?_ (fun hHeld => ?_)
        · (try dsimp only); (refine ⟨?_, ?_, ?_, ?_, ?_, ?_, ?_, ?_⟩ <;> assumption)
        refine wpAnyH_take (i := 0) (oi := { dst := some 18, op := Op.load 30 (Operand.tmp 1), type := 30, pos := "l07_term.go:86", after := #[], guard := none }) (v := ?v0) rfl (by kernel_rfl) (by kernel_rfl) (by kernel_rfl) (fun _ _ _ h => h) (Or.inl ⟨by rfl, ?y0⟩) (by assumption) ?r0
        case y0 => (intro w' hSw; (try dsimp only at hSw); go_simp; all_goals with_reducible rfl)
        try simp only [Act.put, List.setIfInBounds_toArray, List.set_cons_zero, List.set_cons_succ]
        refine wpAnyH_ready (rs := [1]) (by kernel_rfl) (by simp) ?_
        refine AllReadyH.cons (o := { dst := some 19, op := Op.call { callee := Callee.value (Operand.func 74), args := #[Operand.tmp 18], argTypes := #[30] }, type := 4, pos := "l07_term.go:86", after := #[{ on := 0, ground := Ground.data }], guard := none }) rfl (fun K hK => ?_) AllReadyH.nil
        clear hHeld
        go_simp
        go_at_call 74
        refine HC.out.mono ?_
        rintro e w2 ⟨rfl, hb2⟩
        have HG := Lib.hid (HF.out w2 hb2)
        have B2 := BD.out.under hb2 BD.out.lt
        have y0 := B2.c0
        have y1 := B2.c1
        have y2 := B2.c2
        have y3 := B2.c3
        have y4 := B2.c4
        have y5 := B2.c5
        have y6 := B2.c6
        have y7 := B2.c7
        clear hb2 B2
        go_wp2_with fail
        refine hK.out _ _ ?_ (fun hHeld => ?_)
        · (try dsimp only); (refine ⟨?_, ?_, ?_, ?_, ?_, ?_, ?_, ?_⟩ <;> assumption)
        clear hK K
        try simp only [Act.put, List.setIfInBounds_toArray, List.set_cons_zero, List.set_cons_succ]
        refine wpAnyH_take (i := 2) (oi := { dst := some 20, op := Op.move (Operand.tmp 19), type := 4, pos := "l07_term.go:86", after := #[{ on := 1, ground := Ground.data }, { on := 1, ground := Ground.chain }], guard := none }) (v := ?v2) rfl (by kernel_rfl) (by kernel_rfl) (by kernel_rfl) (fun _ _ _ h => h) (Or.inl ⟨by rfl, ?y2⟩) (by assumption) ?r2
        case y2 => (intro w' hSw; (try dsimp only at hSw); go_simp; all_goals with_reducible rfl)
        try simp only [Act.put, List.setIfInBounds_toArray, List.set_cons_zero, List.set_cons_succ]
        refine wpAnyH_take (i := 3) (oi := { dst := some 21, op := Op.fieldAddr 30 (Operand.tmp 1) 5, type := 0, pos := "l07_term.go:86", after := #[{ on := 2, ground := Ground.guard }], guard := some (2, true) }) (v := undef) rfl (by kernel_rfl) (by kernel_rfl) (by kernel_rfl) (fun _ _ _ h => h) (Or.inr ⟨by rfl, rfl⟩) (by assumption) ?_
        try simp only [Act.put, List.setIfInBounds_toArray, List.set_cons_zero, List.set_cons_succ]
        refine wpAnyH_take (i := 4) (oi := { dst := some 22, op := Op.load 28 (Operand.tmp 21), type := 28, pos := "l07_term.go:86", after := #[{ on := 3, ground := Ground.data }, { on := 2, ground := Ground.guard }], guard := some (2, true) }) (v := undef) rfl (by kernel_rfl) (by kernel_rfl) (by kernel_rfl) (fun _ _ _ h => h) (Or.inr ⟨by rfl, rfl⟩) (by assumption) ?_
        try simp only [Act.put, List.setIfInBounds_toArray, List.set_cons_zero, List.set_cons_succ]
        refine wpAnyH_take (i := 5) (oi := { dst := some 23, op := Op.call { callee := Callee.builtin Builtin.len, args := #[Operand.tmp 22], argTypes := #[28] }, type := 3, pos := "l07_term.go:86", after := #[{ on := 4, ground := Ground.data }, { on := 2, ground := Ground.guard }], guard := some (2, true) }) (v := undef) rfl (by kernel_rfl) (by kernel_rfl) (by kernel_rfl) (fun _ _ _ h => h) (Or.inr ⟨by rfl, rfl⟩) (by assumption) ?_
        try simp only [Act.put, List.setIfInBounds_toArray, List.set_cons_zero, List.set_cons_succ]
        refine wpAnyH_take (i := 6) (oi := { dst := some 24, op := Op.load 30 (Operand.tmp 1), type := 30, pos := "l07_term.go:86", after := #[{ on := 2, ground := Ground.guard }], guard := some (2, true) }) (v := undef) rfl (by kernel_rfl) (by kernel_rfl) (by kernel_rfl) (fun _ _ _ h => h) (Or.inr ⟨by rfl, rfl⟩) (by assumption) ?_
        try simp only [Act.put, List.setIfInBounds_toArray, List.set_cons_zero, List.set_cons_succ]
        refine wpAnyH_take (i := 7) (oi := { dst := some 25, op := Op.call { callee := Callee.value (Operand.func 75), args := #[Operand.tmp 24], argTypes := #[30] }, type := 3, pos := "l07_term.go:86", after := #[{ on := 6, ground := Ground.data }, { on := 2, ground := Ground.chain }, { on := 2, ground := Ground.guard }], guard := some (2, true) }) (v := undef) rfl (by kernel_rfl) (by kernel_rfl) (by kernel_rfl) (fun _ _ _ h => h) (Or.inr ⟨by rfl, rfl⟩) (by assumption) ?_
        try simp only [Act.put, List.setIfInBounds_toArray, List.set_cons_zero, List.set_cons_succ]
        refine wpAnyH_take (i := 8) (oi := { dst := some 26, op := Op.binOp BinOp.eql 3 (Operand.tmp 23) (Operand.tmp 25) 3, type := 4, pos := "l07_term.go:86", after := #[{ on := 5, ground := Ground.data }, { on := 7, ground := Ground.data }, { on := 2, ground := Ground.guard }], guard := some (2, true) }) (v := undef) rfl (by kernel_rfl) (by kernel_rfl) (by kernel_rfl) (fun _ _ _ h => h) (Or.inr ⟨by rfl, rfl⟩) (by assumption) ?_
        try simp only [Act.put, List.setIfInBounds_toArray, List.set_cons_zero, List.set_cons_succ]
        refine wpAnyH_take (i := 9) (oi := { dst := some 27, op := Op.pick (Operand.tmp 20) (Operand.tmp 26) (Operand.const (Value.bool false)), type := 4, pos := "l07_term.go:86", after := #[{ on := 2, ground := Ground.data }, { on := 8, ground := Ground.data }], guard := none }) (v := ?v9) rfl (by kernel_rfl) (by kernel_rfl) (by kernel_rfl) (fun _ _ _ h => h) (Or.inl ⟨by rfl, ?y9⟩) (by assumption) ?r9
        case y9 => (intro w' hSw; (try dsimp only at hSw); go_simp; all_goals with_reducible rfl)
        try simp only [Act.put, List.setIfInBounds_toArray, List.set_cons_zero, List.set_cons_succ]
        refine wpAnyH_take (i := 10) (oi := { dst := some 2, op := Op.assign (Operand.tmp 27), type := 4, pos := "l07_term.go:86", after := #[{ on := 9, ground := Ground.data }, { on := 7, ground := Ground.chain }, { on := 0, ground := Ground.phase }, { on := 1, ground := Ground.phase }, { on := 2, ground := Ground.phase }, { on := 3, ground := Ground.phase }, { on := 4, ground := Ground.phase }, { on := 5, ground := Ground.phase }, { on := 6, ground := Ground.phase }, { on := 7, ground := Ground.phase }, { on := 8, ground := Ground.phase }, { on := 9, ground := Ground.phase }], guard := none }) (v := ?v10) rfl (by kernel_rfl) (by kernel_rfl) (by kernel_rfl) (fun _ _ _ h => h) (Or.inl ⟨by rfl, ?y10⟩) (by assumption) ?r10
        case y10 => (intro w' hSw; (try dsimp only at hSw); go_simp; all_goals with_reducible rfl)
        try simp only [Act.put, List.setIfInBounds_toArray, List.set_cons_zero, List.set_cons_succ]
        refine wpAnyH_done (by kernel_rfl) ?_ _
        refine NoPanic.normal ?_
        go_wp2_with fail
        go_ret
        exact HG.out
      | true =>
        rw [hf] at HC
        have HAR : Hid (∀ W, Calls Tryz.prog 75 #[.agg #[.int .i64 a.kind, .string a.name, .int .i64 a.num, .int .i64 a.type.top.kind, .slice TL a.type.top.labels.length tc, .slice TA a.type.kids.length td, .slice L a.labels.length c, .slice A ks.length d]] W (ArityN a.kind a.name a.labels.length W)) := Lib.hid (fun W => l7Arity_any a.kind a.num a.type.top.kind a.name TL TA L A a.type.top.labels.length tc a.type.kids.length td a.labels.length c ks.length d W)
        have HF : Hid (∀ w3, Below w.heap.size w w3 → Truth N w (.returned (.bool ((ks.length : Int) == arN a.kind a.name a.labels.length))) w3) := Lib.hid (fun w3 hB => by
          have e : ((ks.length : Int) == arN a.kind a.name a.labels.length) = decide ((ks.length : Int) = arN a.kind a.name a.labels.length) := by
            by_cases h : (ks.length : Int) = arN a.kind a.name a.labels.length
            · rw [decide_eq_true h, ← h]; simp
            · rw [decide_eq_false h]; simp [h]
          rw [e]
          exact truth_iff (by rw [HE.out]; unfold nodeE; rw [hf]; rfl) hB)
        obtain ⟨ar, har⟩ : ∃ ar, arN a.kind a.name a.labels.length = ar := ⟨_, rfl⟩
        have HAR2 : Hid (∀ W, Calls Tryz.prog 75 #[.agg #[.int .i64 a.kind, .string a.name, .int .i64 a.num, .int .i64 a.type.top.kind, .slice TL a.type.top.labels.length tc, .slice TA a.type.kids.length td, .slice L a.labels.length c, .slice A ks.length d]] W (fun e w' => e = .returned (.int .i64 ar) ∧ Below W.heap.size W w')) := Lib.hid (fun W => (HAR.out W).mono fun e w' ⟨h1, h2⟩ => ⟨by rw [h1, har], h2⟩)
        rw [har] at HF
        clear hf har HAR
        go_wp2_with fail
        go_region_held3 (fun W => W.cell? ⟨H, 0, none⟩ = some (.int .i64 a.kind) ∧ W.cell? ⟨H, 1, none⟩ = some (.string a.name) ∧ W.cell? ⟨H, 2, none⟩ = some (.int .i64 a.num) ∧ W.cell? ⟨H, 3, none⟩ = some (.int .i64 a.type.top.kind) ∧ W.cell? ⟨H, 4, none⟩ = some (.slice TL a.type.top.labels.length tc) ∧ W.cell? ⟨H, 5, none⟩ = some (.slice TA a.type.kids.length td) ∧ W.cell? ⟨H, 6, none⟩ = some (.slice L a.labels.length c) ∧ W.cell? ⟨H, 7, none⟩ = some (.slice A ks.length d))
          (first | (refine ⟨?_, ?_, ?_, ?_, ?_, ?_, ?_, ?_⟩ <;> assumption) | go_keep)
          (first
            | (go_at_call 75; refine (HAR2.out w2).mono ?_; rintro e w3 ⟨rfl, hb3⟩; have b3 := B2.out.under hb3 B2.out.lt; have v0 := b3.c0; have v1 := b3.c1; have v2 := b3.c2; have v3 := b3.c3; have v4 := b3.c4; have v5 := b3.c5; have v6 := b3.c6; have v7 := b3.c7; have HG := Lib.hid (HF.out w3 (HB2.out.trans (hb3.mono HB2.out.size))); clear hb3 b3)
            | (go_at_call 74; refine HC.out.mono ?_; rintro e w2 ⟨rfl, hb2⟩; have HB2 := Lib.hid (HBD.out.trans (hb2.mono HBD.out.size)); have B2 := Lib.hid (BD.out.under hb2 BD.out.lt); have y0 := B2.out.c0; have y1 := B2.out.c1; have y2 := B2.out.c2; have y3 := B2.out.c3; have y4 := B2.out.c4; have y5 := B2.out.c5; have y6 := B2.out.c6; have y7 := B2.out.c7; clear hb2))
        go_wp2_with fail
        go_ret
        exact HG.out

set_option maxRecDepth 100000 in
set_option maxHeartbeats 1600000 in
theorem specValidE_any (t : Te) (w : World) (cs : List Value) (h : RTe w t cs) (hw : wte t ≤ 1048576) : Calls Tryz.prog 11 #[.agg cs.toArray] w (Truth (validE t) w) := by
  have hs : t.size ≤ 1048577 := by have := size_wte t; omega
  obtain ⟨c0, c1, c2, c3, c4, c5, c6, c7, rfl⟩ := h.eight
  obtain ⟨W1, hW1⟩ : ∃ W1, w.alloc (.cells #[c0, c1, c2, c3, c4, c5, c6, c7] 30) = W1 := ⟨_, rfl⟩
  obtain ⟨H, hH⟩ : ∃ H, w.heap.size = H := ⟨_, rfl⟩
  have b0 : Box8 W1 H 30 c0 c1 c2 c3 c4 c5 c6 c7 := by rw [← hW1, ← hH]; exact Box8.new w _ _ _ _ _ _ _ _ _
  have hb1 : Below w.heap.size w W1 := by rw [← hW1]; exact (Below.refl _ _).alloc (Nat.le_refl _) _
  have HC := Lib.hid (l7Left_any t W1 _ 60 (h.keep hb1) (by decide) (by decide))
  have HD := Lib.hid (fun W (hB : Below w.heap.size w W) => specDepthE_any t W _ (h.keep hB) hs)
  have HH := Lib.hid (fun W (hB : Below w.heap.size w W) => l7Form_any t W _ (h.keep hB) hw)
  have hV : validE t = (decide (t.size ≤ 60) && (decide (t.deep ≤ 16) && t.formE)) := rfl
  obtain ⟨N, hN⟩ : ∃ N, validE t = N := ⟨_, rfl⟩
  rw [hN] at hV ⊢
  have HV := Lib.hid hV
  have HW1 := Lib.hid hW1
  have HB1 := Lib.hid hb1
  have B0 := Lib.hid b0
  have x0 := b0.c0
  have x1 := b0.c1
  have x2 := b0.c2
  have x3 := b0.c3
  have x4 := b0.c4
  have x5 := b0.c5
  have x6 := b0.c6
  have x7 := b0.c7
  clear h hw b0 hb1 hW1 hN hV hs
  go_enter Tryz.func11, Tryz.ntmps11
  go_wp2_with fail
  rw [HW1.out]
  go_wp2_with fail
  refine HC.out.mono ?_
  rintro e w2 ⟨r, rfl, r1, r2, r3, r4, hb⟩
  have HB3 := Lib.hid (HB1.out.trans (hb.mono HB1.out.size))
  have D0 := Lib.hid (B0.out.under hb B0.out.lt)
  clear x0 x1 x2 x3 x4 x5 x6 x7 hb HC
  by_cases hr : 0 ≤ r
  · have HV3 : Hid (N = (decide (t.deep ≤ 16) && t.formE)) := by
      show _ = _
      have := r3 hr
      rw [HV.out, decide_eq_true (show t.size ≤ 60 by omega), Bool.true_and]
    have HC := Lib.hid (HD.out w2 HB3.out)
    have x0 := D0.out.c0
    have x1 := D0.out.c1
    have x2 := D0.out.c2
    have x3 := D0.out.c3
    have x4 := D0.out.c4
    have x5 := D0.out.c5
    have x6 := D0.out.c6
    have x7 := D0.out.c7
    clear HV HD r3 r4
    obtain ⟨dp, hdp⟩ : ∃ dp, t.deep = dp := ⟨_, rfl⟩
    rw [hdp] at HC HV3
    clear hdp
    go_wp2_with fail
    refine HC.out.mono ?_
    rintro e w3 ⟨rfl, hb⟩
    have HB4 := Lib.hid (HB3.out.trans (hb.mono HB3.out.size))
    have E0 := Lib.hid (D0.out.under hb D0.out.lt)
    clear x0 x1 x2 x3 x4 x5 x6 x7 hb HC
    by_cases hd : dp ≤ 16
    · have HV4 : Hid (N = t.formE) := by show _ = _; rw [HV3.out, decide_eq_true hd, Bool.true_and]
      have hd' : (dp : Int) ≤ 16 := by omega
      have HC := Lib.hid (HH.out w3 HB4.out)
      have x0 := E0.out.c0
      have x1 := E0.out.c1
      have x2 := E0.out.c2
      have x3 := E0.out.c3
      have x4 := E0.out.c4
      have x5 := E0.out.c5
      have x6 := E0.out.c6
      have x7 := E0.out.c7
      clear HV3 HH
      go_wp2_with fail
      refine HC.out.mono ?_
      rintro e w4 ⟨rfl, hb⟩
      have HR : Hid (Truth N w (.returned (.bool t.formE)) w4) := truth_iff HV4.out (HB4.out.trans (hb.mono HB4.out.size))
      clear hb
      go_wp2_with fail
      go_ret
      exact HR.out
    · have HR : Hid (Truth N w (.returned (.bool false)) w3) := truth_iff (by rw [HV3.out, decide_eq_false hd]; rfl) HB4.out
      have hd' : ¬ (dp : Int) ≤ 16 := by omega
      clear HV3
      go_wp2_with fail
      go_ret
      exact HR.out
  · have HR : Hid (Truth N w (.returned (.bool false)) w2) := by
      have := r4 (by omega)
      exact truth_iff (by rw [HV.out, decide_eq_false (show ¬ t.size ≤ 60 by omega)]; rfl) HB3.out
    clear r3 r4
    go_wp2_with fail
    go_ret
    exact HR.out
end Go.Proofs.YtkchjinfjggoeaaGreatDoor
