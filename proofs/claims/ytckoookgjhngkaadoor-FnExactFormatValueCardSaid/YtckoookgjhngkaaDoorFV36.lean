/-
  Merged by program: IsvN.
-/
import Derived.Test.YtckoookgjhngkaaDoorFV11
import Derived.Test.YtckoookgjhngkaaDoorFV34
import Derived.Test.YtckoookgjhngkaaDoorFV35

/-
  The program's isValueNode; its every over values.
-/
namespace Go.Proofs.YtckoookgjhngkaaDoor
open Go.RowKit

set_option maxRecDepth 100000 in
set_option maxHeartbeats 1600000 in
theorem isNode_any (a : VaA) (n : Nat) (L A : Option Addr) (c d : Nat) (w : World) (h : Sl w L (a.labels.map Value.string)) (hn : a.labels.length ≤ 1048576) (hx : ∀ x ∈ a.labels, x.size ≤ 1048576) :
    Calls Tryd.prog 26 #[.agg #[.int .i64 a.kind, .int .i64 a.num, .slice L a.labels.length c, .slice A n d]] w (Truth (nodeV a n) w) := by
  obtain ⟨W1, hW1⟩ : ∃ W1, w.alloc (.cells #[.int .i64 a.kind, .int .i64 a.num, .slice L a.labels.length c, .slice A n d] 30) = W1 := ⟨_, rfl⟩
  obtain ⟨H, hH⟩ : ∃ H, w.heap.size = H := ⟨_, rfl⟩
  have hb1 : Below w.heap.size w W1 := by rw [← hW1]; exact below_box _ _ _
  have hbx : Box4 W1 H 30 (.int .i64 a.kind) (.int .i64 a.num) (.slice L a.labels.length c) (.slice A n d) := by rw [← hW1, ← hH]; exact Box4.new w _ _ _ _ _
  have HLA := Lib.hid (recLabels_any L a.labels c W1 (h.below hb1) hn hx)
  obtain ⟨lb, hlb⟩ : ∃ lb, labB a.labels = lb := ⟨_, rfl⟩
  obtain ⟨N, hN⟩ : ∃ N, nodeV a n = N := ⟨_, rfl⟩
  have hV : N = nodeVB a.kind a.num a.labels.length n lb := by rw [← hN, ← hlb]; rfl
  rw [hN]
  rw [hlb] at HLA
  clear hN hlb h hx
  generalize a.kind = p at hV hbx hW1 ⊢
  generalize a.num = q at hV hbx hW1 ⊢
  generalize a.labels.length = l at hV hbx HLA hW1 hn ⊢
  have H1 := Lib.hid (isIntV_any p q L A l c n d W1)
  have H2 := Lib.hid (isBoolV_any p q L A l c n d W1)
  have H4 := Lib.hid (isBagN_any p q L A l c n d W1)
  have HB1 := Lib.hid hb1
  have HR : Hid (∀ (b : Bool) (W : World), b = nodeVB p q l n lb → Below W1.heap.size W1 W → Truth N w (.returned (.bool b)) W) := Lib.hid (fun b W hb hB => by rw [hV, ← hb]; exact ⟨rfl, HB1.out.trans (hB.mono HB1.out.size)⟩)
  have HW1 := Lib.hid hW1
  have BX := Lib.hid hbx
  have x0 := hbx.c0
  have x1 := hbx.c1
  have x2 := hbx.c2
  have x3 := hbx.c3
  clear hW1 hb1 hbx hV
  by_cases p1 : p = 1
  · subst p1
    have HE : Hid (intB 1 l n = nodeVB 1 q l n lb) := Lib.hid (by simp [nodeVB, intB, plainB])
    go_enter Tryd.func26, Tryd.ntmps26
    go_wp2_with fail
    rw [HW1.out]
    go_wp2_with fail
    refine H1.out.mono ?_
    rintro e w2 ⟨rfl, hb⟩
    have HF := Lib.hid (HR.out _ _ HE.out hb)
    clear hb
    go_wp2_with fail
    go_ret
    exact HF.out
  by_cases p2 : p = 2
  · subst p2
    have HE : Hid (boolB 2 q l n = nodeVB 2 q l n lb) := Lib.hid (by
      simp only [nodeVB, boolB, plainB]
      generalize decide (l = 0) = x
      generalize decide (n = 0) = y
      generalize decide (q = 0 ∨ q = 1) = z
      cases x <;> cases y <;> cases z <;> rfl)
    clear p1
    go_enter Tryd.func26, Tryd.ntmps26
    go_wp2_with fail
    rw [HW1.out]
    go_wp2_with fail
    refine H2.out.mono ?_
    rintro e w2 ⟨rfl, hb⟩
    have HF := Lib.hid (HR.out _ _ HE.out hb)
    clear hb
    go_wp2_with fail
    go_ret
    exact HF.out
  by_cases p4 : p = 4
  · subst p4
    have HE : Hid (bagB 4 q l = nodeVB 4 q l n lb) := Lib.hid (by simp [nodeVB, bagB])
    clear p1 p2
    go_enter Tryd.func26, Tryd.ntmps26
    go_wp2_with fail
    rw [HW1.out]
    go_wp2_with fail
    refine H4.out.mono ?_
    rintro e w2 ⟨rfl, hb⟩
    have HF := Lib.hid (HR.out _ _ HE.out hb)
    clear hb
    go_wp2_with fail
    go_ret
    exact HF.out
  by_cases p3 : p = 3
  · subst p3
    clear p1 p2 p4 H1 H2 H4
    by_cases e1 : q = 0
    · subst e1
      go_enter Tryd.func26, Tryd.ntmps26
      go_wp2_with fail
      rw [HW1.out]
      go_wp2_with fail
      refine HLA.out.mono ?_
      rintro e w2 ⟨rfl, hb⟩
      have HB2 := Lib.hid hb
      have b2 := BX.out.under hb BX.out.lt
      have z2 := b2.c2
      have z3 := b2.c3
      clear hb b2 x0 x1 x2 x3
      cases lb with
      | false =>
        have HF := Lib.hid (HR.out false w2 (by simp [nodeVB]) HB2.out)
        go_wp2_with fail
        go_ret
        exact HF.out
      | true =>
        have HE : Hid (((l : Int) == (n : Int)) = nodeVB 3 0 l n true) := Lib.hid (by
          by_cases h : l = n
          · subst h; simp [nodeVB]
          · have h' : (l : Int) ≠ (n : Int) := by omega
            simp [nodeVB, h, h'])
        have HF := Lib.hid (HR.out _ w2 HE.out HB2.out)
        clear HE
        go_wp2_with fail
        go_ret
        exact HF.out
    · have f1 : (q == 0) = false := by simp [e1]
      have HF := Lib.hid (HR.out false W1 (by simp [nodeVB, e1]) (Below.refl _ _))
      clear e1 HLA
      go_enter Tryd.func26, Tryd.ntmps26
      go_wp2_with fail
      rw [HW1.out]
      go_wp2_with fail
      go_ret
      exact HF.out
  have HF := Lib.hid (HR.out false W1 (by simp [nodeVB, p1, p2, p3, p4]) (Below.refl _ _))
  have f1 : (p == 1) = false := by simp [p1]
  have f2 : (p == 2) = false := by simp [p2]
  have f3 : (p == 3) = false := by simp [p3]
  have f4 : (p == 4) = false := by simp [p4]
  clear p1 p2 p3 p4
  go_enter Tryd.func26, Tryd.ntmps26
  go_wp2_with fail
  rw [HW1.out]
  go_wp2_with fail
  go_ret
  exact HF.out

/-- the form of a value's own node -/
def nodeT' (t : Va) : Bool := nodeV t.top t.kids.length

set_option maxHeartbeats 800000 in
set_option maxRecDepth 100000 in
theorem everyNode_any (ks : List Va) (w : World) (A : Option Addr) (c : Nat) (h : RVas w A ks) (hw : ∀ t ∈ ks, wv t ≤ 1048576) (hl : ks.length ≤ 9223372036854775807) :
    Calls Tryd.prog 25 #[.slice A ks.length c, .func (.func 26) #[] #[]] w (Truth (ks.all nodeT') w) := by
  obtain ⟨N, hN⟩ : ∃ N, (ks.all nodeT') = N := ⟨_, rfl⟩
  have HP := Lib.hid h
  have HW := Lib.hid hw
  have HREST : Hid (N = ks.all nodeT') := hN.symm
  rw [hN]
  clear h hw hN
  go_enter Tryd.func25, Tryd.ntmps25
  go_wp2_with fail
  go_loopw [9] (fun i wr => ∃ k : Nat, k ≤ ks.length ∧ i = .int .i64 k ∧ N = (ks.drop k).all nodeT' ∧ Below w.heap.size w wr) (fun i _ => ks.length - (intOf i).toNat)
  case atStart => exact ⟨0, Nat.zero_le _, rfl, HREST.out, Below.refl _ _⟩
  case round =>
    obtain ⟨k, hk, rfl, hno, hb⟩ := hrel
    by_cases hlt : k < ks.length
    · obtain ⟨ad, p, c0, c1, c2, c3, rfl, hpe, hr, q0, q1, q2, q3⟩ := vid_at HP.out hb hlt
      obtain ⟨L, lc, A', d', hcs, hsl, _, _, _⟩ := hr.open
      have hwk := HW.out ks[k] (List.getElem_mem hlt)
      have hlab := wv_labels (a := ks[k].top) (ks := ks[k].kids) (B := 1048576) (by cases hx : ks[k] with | node a' ks' => rw [hx] at hwk; exact hwk)
      simp only [List.cons.injEq, and_true] at hcs
      obtain ⟨rfl, rfl, rfl, rfl⟩ := hcs
      obtain ⟨W5, hW5⟩ : ∃ W5, wr.alloc (.cells #[.int .i64 ks[k].top.kind, .int .i64 ks[k].top.num, .slice L ks[k].top.labels.length lc, .slice A' ks[k].kids.length d'] 30) = W5 := ⟨_, rfl⟩
      have hb5 : Below wr.heap.size wr W5 := by rw [← hW5]; exact below_box _ _ _
      have hbb := hb.trans (hb5.mono hb.size)
      have hx5 := Box4.new wr 30 (.int .i64 ks[k].top.kind) (.int .i64 ks[k].top.num) (.slice L ks[k].top.labels.length lc) (.slice A' ks[k].kids.length d')
      rw [hW5] at hx5
      have HC := Lib.hid (isNode_any ks[k].top ks[k].kids.length L A' lc d' W5 (hsl.below hb5) hlab.1 hlab.2)
      have HW5 := Lib.hid hW5
      have HB5 := Lib.hid hbb
      have HNO : Hid (N = (nodeT' ks[k] && (ks.drop (k + 1)).all nodeT')) := by
        show _ = _
        rw [hno, List.drop_eq_getElem_cons hlt, List.all_cons]
      obtain ⟨v, hv⟩ : ∃ v, nodeT' ks[k] = v := ⟨_, rfl⟩
      have hv' : nodeV ks[k].top ks[k].kids.length = v := hv
      rw [hv] at HNO
      rw [hv'] at HC
      have y0 := hx5.c0
      have y1 := hx5.c1
      have y2 := hx5.c2
      have y3 := hx5.c3
      clear hr hb5 hbb hW5 hv hv' hno hb hx5 hsl hwk hlab
      generalize ks[k].top.kind = g0 at HC HW5 q0 y0 ⊢
      generalize ks[k].top.num = g1 at HC HW5 q1 y1 ⊢
      generalize ks[k].top.labels.length = g2 at HC HW5 q2 y2 ⊢
      generalize ks[k].kids.length = g3 at HC HW5 q3 y3 ⊢
      go_wp2_with fail
      rw [HW5.out]
      go_wp2_with fail
      refine HC.out.mono ?_
      rintro e w6 ⟨rfl, hb6⟩
      have HB6 := Lib.hid (HB5.out.trans (hb6.mono HB5.out.size))
      clear hb6 HC y0 y1 y2 y3
      cases v with
      | false =>
        have HF : Hid (Truth N w (.returned (.bool false)) w6) := truth_iff (by rw [HNO.out]; rfl) HB6.out
        go_wp2_with fail
        go_ret
        exact HF.out
      | true =>
        have HT : Hid (N = (ks.drop (k + 1)).all nodeT') := by show _ = _; rw [HNO.out]; rfl
        clear HNO
        go_wp2_with fail
        go_roundw
        case rel => exact ⟨k + 1, hlt, by go_num, HT.out, HB6.out⟩
        case measure => simp [intOf]; omega
    · have he : k = ks.length := by omega
      have HF : Hid (Truth N w (.returned (.bool true)) wr) := truth_iff (by rw [hno, List.drop_eq_nil_of_le (by omega)]; rfl) hb
      clear he hno hb
      go_wp2_with fail
      go_ret
      exact HF.out
end Go.Proofs.YtckoookgjhngkaaDoor
