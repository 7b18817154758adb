/-
  Merged by program: VaForm.
-/
import Derived.Test.YtckoookgjhngkaaDoorFV6
import Derived.Test.YtckoookgjhngkaaDoorFV7
import Derived.Test.YtckoookgjhngkaaDoorFV10
import Derived.Test.YtckoookgjhngkaaDoorFV4

/-
  Whether every node of a value has its form; the model's l6Form and IsValue.
-/
namespace Go.Proofs.YtckoookgjhngkaaDoor
open Go.RowKit

/-- the form of a node: its kind, its number, how many labels and parts, whether the labels can be a record's -/
def nodeVB (p q : Int) (l n : Nat) (lb : Bool) : Bool :=
  if p = 1 then decide (l = 0) && decide (n = 0)
  else if p = 2 then decide (l = 0) && (decide (n = 0) && decide (q = 0 ∨ q = 1))
  else if p = 3 then decide (q = 0) && (decide (l = n) && lb)
  else if p = 4 then decide (q = 0) && decide (l = 0)
  else false
def nodeV (a : VaA) (n : Nat) : Bool := nodeVB a.kind a.num a.labels.length n (labB a.labels)
def Tr.formV : Va → Bool
  | .node a ks => (ks.attach.all fun ⟨t, _⟩ => t.formV) && nodeV a ks.length
theorem formV_node (a : VaA) (ks : List Va) : Tr.formV (.node a ks) = (ks.all Tr.formV && nodeV a ks.length) := by
  rw [Tr.formV]
  congr 1
  rw [Bool.eq_iff_iff, List.all_eq_true, List.all_eq_true]
  constructor
  · intro h t ht; exact h ⟨t, ht⟩ (List.mem_attach _ _)
  · rintro h ⟨t, ht⟩ _; exact h t ht
/-- what IsValue says -/
def isvB (t : Va) : Bool := decide (t.size ≤ 2000) && t.formV
theorem kid_wv_le {a : VaA} {ks : List Va} {t : Va} (h : t ∈ ks) : wv t ≤ wv (.node a ks) := by
  rw [wv_node]
  have := kid_sum_le wv h
  unfold wvK
  omega
theorem wv_labels {a : VaA} {ks : List Va} {B : Nat} (h : wv (.node a ks) ≤ B) : a.labels.length ≤ B ∧ ∀ x ∈ a.labels, x.size ≤ B := by
  rw [wv_node] at h
  unfold wvA at h
  exact ⟨by omega, fun x hx => by have := total_mem hx; omega⟩

set_option maxHeartbeats 1600000 in
set_option maxRecDepth 100000 in
theorem l6Form_any : ∀ (t : Va) (w : World) (cs : List Value), RVa w t cs → wv t ≤ 1048576 → Calls Tryd.prog 20 #[.agg cs.toArray] w (Truth t.formV w) := by
  refine Tr.ind ?_
  intro a ks ih w cs h hwt
  obtain ⟨L, c, A, d, rfl, k1, k2, k6, hp⟩ := h.out
  obtain ⟨l1, l2⟩ := wv_labels hwt
  have hkl : ks.length ≤ 1048576 := by rw [wv_node] at hwt; unfold wvK at hwt; omega
  rw [formV_node]
  obtain ⟨N, hN⟩ : ∃ N, (ks.all Tr.formV && nodeV a ks.length) = N := ⟨_, rfl⟩
  rw [hN]
  have HN0 := Lib.hid hN
  clear hN
  obtain ⟨W1, hW1⟩ : ∃ W1, w.alloc (.cells #[.int .i64 a.kind, .int .i64 a.num, .slice L a.labels.length c, .slice A ks.length d] 30) = W1 := ⟨_, rfl⟩
  have hb0 : Below w.heap.size w W1 := by rw [← hW1]; exact (Below.refl _ _).alloc (Nat.le_refl _) _
  obtain ⟨H, hH⟩ : ∃ H, w.heap.size = H := ⟨_, rfl⟩
  have b0 : Box4 W1 H 30 (.int .i64 a.kind) (.int .i64 a.num) (.slice L a.labels.length c) (.slice A ks.length d) := by rw [← hW1, ← hH]; exact Box4.new w _ _ _ _ _
  have HP := Lib.hid hp
  have HLB := Lib.hid k1
  have HI := Lib.hid ih
  have HB0 := Lib.hid hb0
  have B0 := Lib.hid b0
  have HW1 := Lib.hid hW1
  have HL2 := Lib.hid l2
  have HWT := Lib.hid hwt
  clear hp ih hb0 b0 hW1 k1 h l2 hwt
  go_enter Tryd.func20, Tryd.ntmps20
  go_wp2_with fail
  rw [HW1.out]
  go_loopw [3] (fun i wr => ∃ k : Nat, k ≤ ks.length ∧ i = .int .i64 k ∧ AllTo Tr.formV ks k ∧ Below W1.heap.size W1 wr) (fun i _ => ks.length - (intOf i).toNat)
  case atStart => exact ⟨0, Nat.zero_le _, rfl, allTo_zero _ _, Below.refl _ _⟩
  case round =>
    obtain ⟨k, hk, rfl, hno, hb⟩ := hrel
    have hbw := HB0.out.trans (hb.mono HB0.out.size)
    have bk := B0.out.under hb B0.out.lt
    have hbx := bk.c3
    by_cases hlt : k < ks.length
    · obtain ⟨ad, p, c0, c1, c2, c3, rfl, hpe, hr, q0, q1, q2, q3⟩ := vid_at HP.out hbw hlt
      have hc := HI.out ks[k] (List.getElem_mem hlt) wr [c0, c1, c2, c3] hr (Nat.le_trans (kid_wv_le (List.getElem_mem hlt)) HWT.out)
      have HC := Lib.hid hc
      have HN := Lib.hid hno
      have HBW := Lib.hid hbw
      clear hc hr hno bk
      go_wp2_with fail
      refine HC.out.mono ?_
      rintro e w2 ⟨rfl, hb2⟩
      have hb3 := hb.trans (hb2.mono hb.size)
      have HB4 := Lib.hid (HBW.out.trans (hb2.mono HBW.out.size))
      by_cases hf : Tr.formV ks[k] = true
      · have HN2 := Lib.hid (allTo_succ HN.out hlt hf)
        rw [hf]
        clear hf
        go_wp2_with fail
        go_roundw
        case rel => exact ⟨k + 1, hlt, by go_num, HN2.out, hb3⟩
        case measure => simp [intOf]; omega
      · have hf' : Tr.formV ks[k] = false := by simpa using hf
        have HR := Lib.hid (truth_iff (a := N) (b := false) (by rw [← HN0.out, all_not hlt hf']; rfl) HB4.out)
        rw [hf']
        clear hf hf'
        go_wp2_with fail
        go_ret
        exact HR.out
    · have he : k = ks.length := by omega
      have hall := allTo_all (he ▸ hno)
      obtain ⟨lb, hlb⟩ : ∃ lb, labB a.labels = lb := ⟨_, rfl⟩
      have HLA := Lib.hid (l3Labels_any L c a.labels wr (HLB.out.below hbw) l1 HL2.out)
      have hV : N = nodeVB a.kind a.num a.labels.length ks.length lb := by rw [← HN0.out, hall, Bool.true_and, ← hlb]; rfl
      rw [hlb] at HLA
      have hbx0 := bk.c0
      have hbx1 := bk.c1
      have hbx2 := bk.c2
      subst he
      have HBW := Lib.hid hbw
      clear hlb hall hno bk hb hbw HN0 HP HI HLB HL2 HWT B0 HW1
      generalize a.kind = p at hV hbx0 ⊢
      generalize a.num = q at hV hbx1 ⊢
      generalize a.labels.length = l at hV hbx2 HLA l1 ⊢
      generalize ks.length = n at hV hbx hkl ⊢
      have HR : Hid (∀ (b : Bool) (W : World), b = nodeVB p q l n lb → Below w.heap.size w W → Truth N w (.returned (.bool b)) W) := Lib.hid (fun b W hb hB => by rw [hV, ← hb]; exact ⟨rfl, hB⟩)
      clear hV
      by_cases p1 : p = 1
      · subst p1
        by_cases e1 : l = 0
        · subst e1
          by_cases e2 : n = 0
          · subst e2
            go_wp2_with fail
            go_ret
            exact HR.out _ _ (by simp [nodeVB]) HBW.out
          · have f2 : ((n : Int) == 0) = false := by simp [e2]
            have HE : Hid (false = nodeVB 1 q 0 n lb) := Lib.hid (by simp [nodeVB, e2])
            clear e2
            go_wp2_with fail
            go_ret
            exact HR.out _ _ HE.out HBW.out
        · have f1 : ((l : Int) == 0) = false := by simp [e1]
          have HE : Hid (false = nodeVB 1 q l n lb) := Lib.hid (by simp [nodeVB, e1])
          clear e1
          go_wp2_with fail
          go_ret
          exact HR.out _ _ HE.out HBW.out
      by_cases p2 : p = 2
      · subst p2
        clear p1
        by_cases e1 : l = 0
        · subst e1
          by_cases e2 : n = 0
          · subst e2
            have HC := Lib.hid (l1In_any q 0 1 wr)
            have HE : Hid ((decide (0 ≤ q) && decide (q ≤ 1)) = nodeVB 2 q 0 0 lb) := Lib.hid (by
              have : (decide (0 ≤ q) && decide (q ≤ 1)) = decide (q = 0 ∨ q = 1) := by
                rw [Bool.eq_iff_iff]
                simp only [Bool.and_eq_true, decide_eq_true_eq]
                omega
              rw [this]
              simp [nodeVB])
            generalize (decide (0 ≤ q) && decide (q ≤ 1)) = b at HC HE
            go_wp2_with fail
            refine HC.out.mono ?_
            rintro e w2 ⟨rfl, rfl⟩
            go_wp2_with fail
            go_ret
            exact HR.out _ _ HE.out HBW.out
          · have f2 : ((n : Int) == 0) = false := by simp [e2]
            have HE : Hid (false = nodeVB 2 q 0 n lb) := Lib.hid (by simp [nodeVB, e2])
            clear e2
            go_wp2_with fail
            go_ret
            exact HR.out _ _ HE.out HBW.out
        · have f1 : ((l : Int) == 0) = false := by simp [e1]
          have HE : Hid (false = nodeVB 2 q l n lb) := Lib.hid (by simp [nodeVB, e1])
          clear e1
          go_wp2_with fail
          go_ret
          exact HR.out _ _ HE.out HBW.out
      by_cases p3 : p = 3
      · subst p3
        clear p1 p2
        by_cases e1 : q = 0
        · subst e1
          by_cases e2 : l = n
          · subst e2
            have HE : Hid (lb = nodeVB 3 0 l l lb) := Lib.hid (by simp [nodeVB])
            go_wp2_with fail
            refine HLA.out.mono ?_
            rintro e W2 ⟨rfl, i, rfl⟩
            have HB2 := Lib.hid (below_drewN HBW.out i)
            go_wp2_with fail
            go_ret
            exact HR.out _ _ HE.out HB2.out
          · have f2 : ((l : Int) == (n : Int)) = false := by
              have : (l : Int) ≠ (n : Int) := by omega
              simp [this]
            have HE : Hid (false = nodeVB 3 0 l n lb) := Lib.hid (by simp [nodeVB, e2])
            clear e2
            go_wp2_with fail
            go_ret
            exact HR.out _ _ HE.out HBW.out
        · have f1 : (q == 0) = false := by simp [e1]
          have HE : Hid (false = nodeVB 3 q l n lb) := Lib.hid (by simp [nodeVB, e1])
          clear e1
          go_wp2_with fail
          go_ret
          exact HR.out _ _ HE.out HBW.out
      by_cases p4 : p = 4
      · subst p4
        clear p1 p2 p3
        by_cases e1 : q = 0
        · subst e1
          have HE : Hid (((l : Int) == 0) = nodeVB 4 0 l n lb) := Lib.hid (by
            by_cases h : l = 0
            · subst h; simp [nodeVB]
            · have h' : (l : Int) ≠ 0 := by omega
              simp [nodeVB, h])
          go_wp2_with fail
          go_ret
          exact HR.out _ _ HE.out HBW.out
        · have f1 : (q == 0) = false := by simp [e1]
          have HE : Hid (false = nodeVB 4 q l n lb) := Lib.hid (by simp [nodeVB, e1])
          clear e1
          go_wp2_with fail
          go_ret
          exact HR.out _ _ HE.out HBW.out
      have HE : Hid (false = nodeVB p q l n lb) := Lib.hid (by simp [nodeVB, p1, p2, p3, p4])
      have f1 : (p == 1) = false := by simp [p1]
      have f2 : (p == 2) = false := by simp [p2]
      have f3 : (p == 3) = false := by simp [p3]
      have f4 : (p == 4) = false := by simp [p4]
      clear p1 p2 p3 p4
      go_wp2_with fail
      go_ret
      exact HR.out _ _ HE.out HBW.out

set_option maxRecDepth 100000 in
set_option maxHeartbeats 1600000 in
theorem specIsV_any (v : Va) (w : World) (cs : List Value) (h : RVa w v cs) (hw : wv v ≤ 1048576) : Calls Tryd.prog 11 #[.agg cs.toArray] w (Truth (isvB v) w) := by
  obtain ⟨c0, c1, c2, c3, rfl⟩ := h.four
  obtain ⟨W1, hW1⟩ : ∃ W1, w.alloc (.cells #[c0, c1, c2, c3] 30) = W1 := ⟨_, rfl⟩
  obtain ⟨H, hH⟩ : ∃ H, w.heap.size = H := ⟨_, rfl⟩
  have b0 : Box4 W1 H 30 c0 c1 c2 c3 := by rw [← hW1, ← hH]; exact Box4.new w _ _ _ _ _
  have hb1 : Below w.heap.size w W1 := by rw [← hW1]; exact (Below.refl _ _).alloc (Nat.le_refl _) _
  have HC := Lib.hid (l5Left_any v W1 _ 2000 (h.keep hb1) (by decide) (by decide))
  have HH := Lib.hid (fun W (hB : Below w.heap.size w W) => l6Form_any v W _ (h.keep hB) hw)
  have hV : isvB v = (decide (v.size ≤ 2000) && v.formV) := rfl
  obtain ⟨N, hN⟩ : ∃ N, isvB v = N := ⟨_, rfl⟩
  rw [hN] at hV ⊢
  have HV := Lib.hid hV
  have HW1 := Lib.hid hW1
  have HB1 := Lib.hid hb1
  have B0 := Lib.hid b0
  have x0 := b0.c0
  have x1 := b0.c1
  have x2 := b0.c2
  have x3 := b0.c3
  clear h hw b0 hb1 hW1 hN hV
  go_enter Tryd.func11, Tryd.ntmps11
  go_wp2_with fail
  rw [HW1.out]
  go_wp2_with fail
  refine HC.out.mono ?_
  rintro e w2 ⟨r, rfl, r1, r2, r3, r4, hb⟩
  have HB3 := Lib.hid (HB1.out.trans (hb.mono HB1.out.size))
  have D0 := Lib.hid (B0.out.under hb B0.out.lt)
  clear x0 x1 x2 x3 hb HC
  by_cases hr : 0 ≤ r
  · have HV3 : Hid (N = v.formV) := by
      show _ = _
      have := r3 hr
      rw [HV.out, decide_eq_true (show v.size ≤ 2000 by omega), Bool.true_and]
    have HC := Lib.hid (HH.out w2 HB3.out)
    have x0 := D0.out.c0
    have x1 := D0.out.c1
    have x2 := D0.out.c2
    have x3 := D0.out.c3
    clear HV HH r3 r4
    go_wp2_with fail
    refine HC.out.mono ?_
    rintro e w3 ⟨rfl, hb⟩
    have HR : Hid (Truth N w (.returned (.bool v.formV)) w3) := truth_iff HV3.out (HB3.out.trans (hb.mono HB3.out.size))
    clear hb
    go_wp2_with fail
    go_ret
    exact HR.out
  · have HR : Hid (Truth N w (.returned (.bool false)) w2) := by
      have := r4 (by omega)
      exact truth_iff (by rw [HV.out, decide_eq_false (show ¬ v.size ≤ 2000 by omega)]; rfl) HB3.out
    clear r3 r4
    go_wp2_with fail
    go_ret
    exact HR.out
end Go.Proofs.YtckoookgjhngkaaDoor
