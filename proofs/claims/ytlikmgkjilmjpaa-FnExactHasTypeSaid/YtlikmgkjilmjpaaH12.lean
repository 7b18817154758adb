/-
  Merged by program: HasS.
-/
import Derived.Test.YtlikmgkjilmjpaaH10
import Derived.Test.YtlikmgkjilmjpaaH11
import Derived.StillTailTactics

/-
  The model's l5Has and HasType.
-/
namespace Go.Proofs.Ytlikmgkjilmjpaa
open Go.RowKit

theorem hasT_1 {b : TyA} {js : List Ty} {a : VaA} {ks : List Va} (h : b.kind = 1) : hasT (.node b js) (.node a ks) = (decide (a.kind = 1) && (decide (a.labels.length = 0) && decide (ks.length = 0))) := by
  rw [hasT, if_pos h]; rfl
theorem hasT_2 {b : TyA} {js : List Ty} {a : VaA} {ks : List Va} (h : b.kind = 2) : hasT (.node b js) (.node a ks) = (decide (a.kind = 2) && (decide (a.num = 0 ∨ a.num = 1) && (decide (a.labels.length = 0) && decide (ks.length = 0)))) := by
  rw [hasT, if_neg (by omega), if_pos h]; rfl
theorem hasT_3 {b : TyA} {js : List Ty} {a : VaA} {ks : List Va} (h : b.kind = 3) : hasT (.node b js) (.node a ks) = (decide (a.kind = 3) && (decide (a.num = 0) && (decide (a.labels = b.labels) && hasTs js ks))) := by
  rw [hasT, if_neg (by omega), if_neg (by omega), if_pos h]; rfl
theorem hasT_4 {b : TyA} {js : List Ty} {a : VaA} {ks : List Va} (h : b.kind = 4) : hasT (.node b js) (.node a ks) = (decide (a.kind = 4) && (decide (a.num = 0) && (decide (a.labels.length = 0) && ks.all fun x => hasTh js x))) := by
  rw [hasT, if_neg (by omega), if_neg (by omega), if_neg (by omega)]; rfl
theorem same_dec (xs ys : List ByteArray) : same xs ys = decide (xs = ys) := by
  by_cases h : xs = ys
  · rw [same_yes h, decide_eq_true h]
  · rw [same_no h, decide_eq_false h]
theorem all_step {f : Va → Bool} {vs : List Va} {k : Nat} (h : k < vs.length) : (vs.drop k).all f = (f vs[k] && (vs.drop (k + 1)).all f) := by
  rw [List.drop_eq_getElem_cons h, List.all_cons]

set_option maxHeartbeats 8000000 in
set_option maxRecDepth 100000 in
theorem l5Has_any : ∀ (v : Va) (t : Ty) (w : World) (cs ds : List Value), DatT t → RVa w v cs → RTy w t ds → Calls Try.prog 45 #[.agg cs.toArray, .agg ds.toArray] w (Truth (hasT t v) w) := by
  refine Tr.ind ?_
  intro a ks ih t w cs ds hd h h'
  obtain ⟨b, js⟩ := t
  obtain ⟨L, c, A, d, rfl, k1, k2, k3, hp⟩ := h.out
  obtain ⟨L', c', A', d', rfl, k1', k2', k3', k4', k5', k6', hp'⟩ := h'.out
  have hcase := hd.cases
  have HKID := Lib.hid (fun t (ht : t ∈ js) => hd.kid ht)
  have hT1 := hasT_1 (js := js) (ks := ks) (b := b) (a := a)
  have hT2 := hasT_2 (js := js) (ks := ks) (b := b) (a := a)
  have hT3 := hasT_3 (js := js) (ks := ks) (b := b) (a := a)
  have hT4 := hasT_4 (js := js) (ks := ks) (b := b) (a := a)
  obtain ⟨N, hN⟩ : ∃ N, hasT (.node b js) (.node a ks) = N := ⟨_, rfl⟩
  rw [hN] at hT1 hT2 hT3 hT4 ⊢
  obtain ⟨m, hm⟩ : ∃ m, ks.length = m := ⟨_, rfl⟩
  obtain ⟨n, hn⟩ : ∃ n, js.length = n := ⟨_, rfl⟩
  obtain ⟨l, hl⟩ : ∃ l, a.labels.length = l := ⟨_, rfl⟩
  obtain ⟨l', hl'⟩ : ∃ l, b.labels.length = l := ⟨_, rfl⟩
  obtain ⟨p, hpk⟩ : ∃ p, a.kind = p := ⟨_, rfl⟩
  obtain ⟨q, hq⟩ : ∃ p, a.num = p := ⟨_, rfl⟩
  obtain ⟨p', hpk'⟩ : ∃ p, b.kind = p := ⟨_, rfl⟩
  obtain ⟨W1, hW1⟩ : ∃ W1, (w.alloc (.cells #[.int .i64 p, .int .i64 q, .slice L l c, .slice A m d] 30)).alloc (.cells #[.int .i64 p', .slice L' l' c', .slice A' n d'] 41) = W1 := ⟨_, rfl⟩
  obtain ⟨H, hH⟩ : ∃ H, w.heap.size = H := ⟨_, rfl⟩
  have b0 : Box4 W1 H 30 (.int .i64 p) (.int .i64 q) (.slice L l c) (.slice A m d) := by rw [← hW1, ← hH]; exact (Box4.new w _ _ _ _ _).alloc _
  have b1 : Box3 W1 (H + 1) 41 (.int .i64 p') (.slice L' l' c') (.slice A' n d') := by
    rw [← hW1, ← hH]
    have := Box3.new (w.alloc (.cells #[.int .i64 p, .int .i64 q, .slice L l c, .slice A m d] 30)) 41 (.int .i64 p') (.slice L' l' c') (.slice A' n d')
    simpa using this
  have hb1 : Below w.heap.size w W1 := by rw [← hW1]; exact ((Below.refl _ _).alloc (Nat.le_refl _) _).alloc (by simp) _
  have HP := Lib.hid (hp.keep hb1)
  have HP' := Lib.hid (hp'.keep hb1)
  have htx := fun W (hB : Below W1.heap.size W1 W) => l3Texts_any L L' c c' a.labels b.labels W ((k1.below hb1).below hB) ((k1'.below hb1).below hB) k2.2.2.2.2.1
  rw [hl, hl', same_dec] at htx
  have HTX := Lib.hid htx
  have HIN := Lib.hid (fun W => l1In_any q 0 1 W)
  have HB1 := Lib.hid hb1
  have HI := Lib.hid ih
  have HM := Lib.hid hm
  have HNJ := Lib.hid hn
  have HLA := Lib.hid hl
  have HLB := Lib.hid hl'
  have B0 := Lib.hid b0
  have B1 := Lib.hid b1
  have x0 := b0.c0
  have x1 := b0.c1
  have x2 := b0.c2
  have x3 := b0.c3
  have y0 := b1.c0
  have y1 := b1.c1
  have y2 := b1.c2
  simp only [hm, hl, hpk, hq, hpk', hn, hl'] at hT1 hT2 hT3 hT4 hcase k3 k6' k2' k3' ⊢
  have HW1 := Lib.hid hW1
  have HFIN : Hid (∀ r W', N = r → Below W1.heap.size W1 W' → Truth N w (.returned (.bool r)) W') := fun r W' hr hb => truth_iff hr (HB1.out.trans (hb.mono HB1.out.size))
  have HT3 := Lib.hid hT3
  have HT4 := Lib.hid hT4
  have HT1 := Lib.hid hT1
  have HT2 := Lib.hid hT2
  clear hp hp' ih k1 k1' k2 k4' k5' h h' hb1 b0 b1 hN hn hm hl hl' hpk hpk' hq hW1 hd htx hT1 hT2 hT3 hT4
  rcases hcase with ⟨hk | hk, hc1, hc2⟩ | ⟨hk, hc1⟩ | ⟨hk, hc1, hc2⟩
  · subst hk hc1 hc2
    by_cases e0 : p = 1
    · by_cases e1 : l = 0
      · by_cases e2 : m = 0
        · subst e0 e1 e2
          have HR : Hid (∀ r W', r = true → Below W1.heap.size W1 W' → Truth N w (.returned (.bool r)) W') := fun r W' hr hb => HFIN.out _ W' (hr ▸ (show N = true by rw [HT1.out rfl]; rfl)) hb
          clear HT1 HT2 HT3 HT4
          go_enter Try.func45, Try.ntmps45
          go_wp2_with fail
          rw [HW1.out]
          go_wp2_with fail
          go_ret
          exact HR.out _ _ (by first | rfl | (simp; omega)) (Below.refl _ _)
        · subst e0 e1
          have HR : Hid (∀ r W', r = false → Below W1.heap.size W1 W' → Truth N w (.returned (.bool r)) W') := fun r W' hr hb => HFIN.out _ W' (hr ▸ (show N = false by rw [HT1.out rfl]; simp [e2])) hb
          clear HT1 HT2 HT3 HT4
          go_enter Try.func45, Try.ntmps45
          go_wp2_with fail
          rw [HW1.out]
          go_wp2_with fail
          go_ret
          exact HR.out _ _ (by first | rfl | (simp; omega)) (Below.refl _ _)
      · subst e0
        have HR : Hid (∀ r W', r = false → Below W1.heap.size W1 W' → Truth N w (.returned (.bool r)) W') := fun r W' hr hb => HFIN.out _ W' (hr ▸ (show N = false by rw [HT1.out rfl]; simp [e1])) hb
        clear HT1 HT2 HT3 HT4
        go_enter Try.func45, Try.ntmps45
        go_wp2_with fail
        rw [HW1.out]
        go_wp2_with fail
        go_ret
        exact HR.out _ _ (by first | rfl | (simp; omega)) (Below.refl _ _)
    · skip
      have HR : Hid (∀ r W', r = false → Below W1.heap.size W1 W' → Truth N w (.returned (.bool r)) W') := fun r W' hr hb => HFIN.out _ W' (hr ▸ (show N = false by rw [HT1.out rfl]; simp [e0])) hb
      clear HT1 HT2 HT3 HT4
      go_enter Try.func45, Try.ntmps45
      go_wp2_with fail
      rw [HW1.out]
      go_wp2_with fail
      go_ret
      exact HR.out _ _ (by first | rfl | (simp; omega)) (Below.refl _ _)
  · subst hk hc1 hc2
    by_cases e0 : p = 2
    · by_cases e3 : q = 0 ∨ q = 1
      · have hin : (decide (0 ≤ q) && decide (q ≤ 1)) = true := by simp; omega
        by_cases e1 : l = 0
        · by_cases e2 : m = 0
          · subst e0 e1 e2
            have HR : Hid (∀ r W', r = true → Below W1.heap.size W1 W' → Truth N w (.returned (.bool r)) W') := fun r W' hr hb => HFIN.out _ W' (hr ▸ (show N = true by rw [HT2.out rfl]; simp [e3])) hb
            clear HT1 HT2 HT3 HT4
            go_enter Try.func45, Try.ntmps45
            go_wp2_with fail
            rw [HW1.out]
            go_wp2_with fail
            refine (HIN.out _).mono ?_
            rintro e W2 ⟨rfl, rfl⟩
            rw [hin]
            go_wp2_with fail
            go_ret
            exact HR.out _ _ (by first | rfl | (simp; omega)) (Below.refl _ _)
          · subst e0 e1
            have HR : Hid (∀ r W', r = false → Below W1.heap.size W1 W' → Truth N w (.returned (.bool r)) W') := fun r W' hr hb => HFIN.out _ W' (hr ▸ (show N = false by rw [HT2.out rfl]; simp [e2])) hb
            clear HT1 HT2 HT3 HT4
            go_enter Try.func45, Try.ntmps45
            go_wp2_with fail
            rw [HW1.out]
            go_wp2_with fail
            refine (HIN.out _).mono ?_
            rintro e W2 ⟨rfl, rfl⟩
            rw [hin]
            go_wp2_with fail
            go_ret
            exact HR.out _ _ (by first | rfl | (simp; omega)) (Below.refl _ _)
        · subst e0
          have HR : Hid (∀ r W', r = false → Below W1.heap.size W1 W' → Truth N w (.returned (.bool r)) W') := fun r W' hr hb => HFIN.out _ W' (hr ▸ (show N = false by rw [HT2.out rfl]; simp [e1])) hb
          clear HT1 HT2 HT3 HT4
          go_enter Try.func45, Try.ntmps45
          go_wp2_with fail
          rw [HW1.out]
          go_wp2_with fail
          refine (HIN.out _).mono ?_
          rintro e W2 ⟨rfl, rfl⟩
          rw [hin]
          go_wp2_with fail
          go_ret
          exact HR.out _ _ (by first | rfl | (simp; omega)) (Below.refl _ _)
      · have hin : (decide (0 ≤ q) && decide (q ≤ 1)) = false := by simp; omega
        subst e0
        have HR : Hid (∀ r W', r = false → Below W1.heap.size W1 W' → Truth N w (.returned (.bool r)) W') := fun r W' hr hb => HFIN.out _ W' (hr ▸ (show N = false by rw [HT2.out rfl]; simp [e3])) hb
        clear HT1 HT2 HT3 HT4
        go_enter Try.func45, Try.ntmps45
        go_wp2_with fail
        rw [HW1.out]
        go_wp2_with fail
        refine (HIN.out _).mono ?_
        rintro e W2 ⟨rfl, rfl⟩
        rw [hin]
        go_wp2_with fail
        go_ret
        exact HR.out _ _ (by first | rfl | (simp; omega)) (Below.refl _ _)
    · skip
      have HR : Hid (∀ r W', r = false → Below W1.heap.size W1 W' → Truth N w (.returned (.bool r)) W') := fun r W' hr hb => HFIN.out _ W' (hr ▸ (show N = false by rw [HT2.out rfl]; simp [e0])) hb
      clear HT1 HT2 HT3 HT4
      go_enter Try.func45, Try.ntmps45
      go_wp2_with fail
      rw [HW1.out]
      go_wp2_with fail
      go_ret
      exact HR.out _ _ (by first | rfl | (simp; omega)) (Below.refl _ _)
  · clear hc1
    subst hk
    by_cases e3 : q = 0
    · subst e3
      by_cases e4 : a.labels = b.labels
      · rw [decide_eq_true e4] at HTX
        by_cases e0 : p = 3
        · subst e0
          by_cases e2 : m = n
          · subst e2
            have HREST : Hid (N = hasTs js ks) := by show _ = _; rw [HT3.out rfl]; simp [e4]
            clear HT1 HT2 HT3 HT4
            go_enter Try.func45, Try.ntmps45
            go_wp2_with fail
            rw [HW1.out]
            go_wp2_with fail
            refine (HTX.out W1 (Below.refl _ _)).mono ?_
            rintro e W2 ⟨rfl, nd, hW2⟩
            have hb2 : Below W1.heap.size W1 W2 := by rw [hW2]; exact below_drewN (Below.refl _ _) nd
            clear hW2
            have c0' := B0.out.under hb2 B0.out.lt
            have c1' := B1.out.under hb2 B1.out.lt
            clear x0 x1 x2 x3 y0 y1 y2
            have x0 := c0'.c0
            have x1 := c0'.c1
            have x2 := c0'.c2
            have x3 := c0'.c3
            have y0 := c1'.c0
            have y1 := c1'.c1
            have y2 := c1'.c2
            have B20 := Lib.hid c0'
            have B21 := Lib.hid c1'
            have HB2 := Lib.hid (HB1.out.trans (hb2.mono HB1.out.size))
            have HP2 := Lib.hid (HP.out.keep hb2)
            have HP2' := Lib.hid (HP'.out.keep hb2)
            have HBB2 := Lib.hid hb2
            clear hb2 c0' c1'
            go_wp2_with fail
            clear x0 x1 x2 x3 y0 y1 y2
            go_loopw [5] (fun i wr => ∃ k : Nat, k ≤ m ∧ i = .int .i64 k ∧ N = hasTs (js.drop k) (ks.drop k) ∧ Below W2.heap.size W2 wr) (fun i _ => m - (intOf i).toNat)
            case atStart => exact ⟨0, Nat.zero_le _, rfl, HREST.out, Below.refl _ _⟩
            case round =>
              obtain ⟨k, hk, rfl, hno, hb⟩ := hrel
              have z2 := (B20.out.under hb B20.out.lt).c3
              have v1 := (B21.out.under hb B21.out.lt).c0
              have v2 := (B21.out.under hb B21.out.lt).c2
              have HBW := Lib.hid (HB2.out.trans (hb.mono HB2.out.size))
              have HBR := Lib.hid hb
              by_cases hlt : k < m
              · have hlk : k < ks.length := by rw [HM.out]; exact hlt
                have hlj : k < js.length := by rw [HNJ.out]; exact hlt
                obtain ⟨ad, p1, c0, c1, c2, c3, rfl, hpe, hr, q0, q1, q2, q3⟩ := vid_at HP2.out hb hlk
                obtain ⟨bd, p2, d0, d1, d2, rfl, hpe', hr', q0', q1', q2'⟩ := kid_at HP2'.out hb hlj
                have HR := Lib.hid hr
                have HR' := Lib.hid hr'
                have HNO : Hid (N = (hasT js[k] ks[k] && hasTs (js.drop (k + 1)) (ks.drop (k + 1)))) := by rw [hasTs_step hlj hlk] at hno; exact hno
                clear hr hr' hb hno
                go_wp2_with fail
                go_still_tail 10, (by kernel_rfl)
                change wpList _ _ _ _ _ wr.drew
                have hd : Below wr.heap.size wr wr.drew := (Below.refl _ _).drew
                have HC := Lib.hid (HI.out ks[k] (List.getElem_mem hlk) js[k] wr.drew [c0, c1, c2, c3] [d0, d1, d2] (HKID.out _ (List.getElem_mem hlj)) (HR.out.keep hd) (RTy.keep HR'.out hd))
                have HBW2 := Lib.hid (HBW.out.trans (hd.mono HBW.out.size))
                have HBR2 := Lib.hid (HBR.out.trans (hd.mono HBR.out.size))
                clear hd
                go_wp2_with fail
                refine HC.out.mono ?_
                rintro e w3 ⟨rfl, hb3⟩
                have HBW3 := Lib.hid (HBW2.out.trans (hb3.mono HBW2.out.size))
                have HBR3 := Lib.hid (HBR2.out.trans (hb3.mono HBR2.out.size))
                clear hb3
                cases hf : hasT js[k] ks[k]
                · have HR : Hid (Truth N w (.returned (.bool false)) w3) := truth_iff (by rw [HNO.out, hf]; rfl) HBW3.out
                  clear hf
                  go_wp2_with fail
                  go_ret
                  exact HR.out
                · have HN2 : Hid (N = hasTs (js.drop (k + 1)) (ks.drop (k + 1))) := by show _ = _; rw [HNO.out, hf]; rfl
                  clear hf
                  go_wp2_with fail
                  go_roundw
                  case rel => exact ⟨k + 1, hlt, by go_num, HN2.out, HBR3.out⟩
                  case measure => simp [intOf]; omega
              · have he : k = m := by omega
                have HR : Hid (Truth N w (.returned (.bool true)) wr) := truth_iff (by rw [hno, hasTs_end (by rw [HNJ.out]; omega) (by rw [HM.out]; omega)]) HBW.out
                clear he hno hb
                go_wp2_with fail
                go_ret
                exact HR.out
          · have HR : Hid (∀ W', Below W1.heap.size W1 W' → Truth N w (.returned (.bool false)) W') := fun W' hb => HFIN.out _ W' (by rw [HT3.out rfl]; have hts : hasTs js ks = false := Bool.eq_false_iff.2 (fun h => absurd (hasTs_len h) (by rw [HM.out, HNJ.out]; omega)); simp [hts]) hb
            clear HT1 HT2 HT3 HT4
            go_enter Try.func45, Try.ntmps45
            go_wp2_with fail
            rw [HW1.out]
            go_wp2_with fail
            refine (HTX.out W1 (Below.refl _ _)).mono ?_
            rintro e W2 ⟨rfl, nd, hW2⟩
            have hb2 : Below W1.heap.size W1 W2 := by rw [hW2]; exact below_drewN (Below.refl _ _) nd
            clear hW2
            have c0' := B0.out.under hb2 B0.out.lt
            have c1' := B1.out.under hb2 B1.out.lt
            clear x0 x1 x2 x3 y0 y1 y2
            have x0 := c0'.c0
            have x1 := c0'.c1
            have x2 := c0'.c2
            have x3 := c0'.c3
            have y0 := c1'.c0
            have y1 := c1'.c1
            have y2 := c1'.c2
            go_wp2_with fail
            go_ret
            exact HR.out _ hb2
        · skip
          have HR : Hid (∀ W', Below W1.heap.size W1 W' → Truth N w (.returned (.bool false)) W') := fun W' hb => HFIN.out _ W' (by rw [HT3.out rfl]; simp [e0]) hb
          clear HT1 HT2 HT3 HT4
          go_enter Try.func45, Try.ntmps45
          go_wp2_with fail
          rw [HW1.out]
          go_wp2_with fail
          refine (HTX.out W1 (Below.refl _ _)).mono ?_
          rintro e W2 ⟨rfl, nd, hW2⟩
          have hb2 : Below W1.heap.size W1 W2 := by rw [hW2]; exact below_drewN (Below.refl _ _) nd
          clear hW2
          have c0' := B0.out.under hb2 B0.out.lt
          have c1' := B1.out.under hb2 B1.out.lt
          clear x0 x1 x2 x3 y0 y1 y2
          have x0 := c0'.c0
          have x1 := c0'.c1
          have x2 := c0'.c2
          have x3 := c0'.c3
          have y0 := c1'.c0
          have y1 := c1'.c1
          have y2 := c1'.c2
          go_wp2_with fail
          go_ret
          exact HR.out _ hb2
      · rw [decide_eq_false e4] at HTX
        have HR : Hid (∀ W', Below W1.heap.size W1 W' → Truth N w (.returned (.bool false)) W') := fun W' hb => HFIN.out _ W' (by rw [HT3.out rfl]; simp [e4]) hb
        clear HT1 HT2 HT3 HT4
        go_enter Try.func45, Try.ntmps45
        go_wp2_with fail
        rw [HW1.out]
        go_wp2_with fail
        refine (HTX.out W1 (Below.refl _ _)).mono ?_
        rintro e W2 ⟨rfl, nd, hW2⟩
        have hb2 : Below W1.heap.size W1 W2 := by rw [hW2]; exact below_drewN (Below.refl _ _) nd
        clear hW2
        go_wp2_with fail
        go_ret
        exact HR.out _ hb2
    · skip
      have HR : Hid (∀ r W', r = false → Below W1.heap.size W1 W' → Truth N w (.returned (.bool r)) W') := fun r W' hr hb => HFIN.out _ W' (hr ▸ (show N = false by rw [HT3.out rfl]; simp [e3])) hb
      clear HT1 HT2 HT3 HT4
      go_enter Try.func45, Try.ntmps45
      go_wp2_with fail
      rw [HW1.out]
      go_wp2_with fail
      go_ret
      exact HR.out _ _ (by first | rfl | (simp; omega)) (Below.refl _ _)
  · subst hk hc1 hc2
    by_cases e3 : q = 0
    · subst e3
      by_cases e4 : a.labels = b.labels
      · rw [decide_eq_true e4] at HTX
        by_cases e0 : p = 4
        · subst e0
          have HREST : Hid (N = ks.all fun x => hasTh js x) := by
            have e5 : l = 0 := by rw [← HLA.out, e4, HLB.out]
            show _ = _; rw [HT4.out rfl]; simp [e5]
          clear HT1 HT2 HT3 HT4
          go_enter Try.func45, Try.ntmps45
          go_wp2_with fail
          rw [HW1.out]
          go_wp2_with fail
          refine (HTX.out W1 (Below.refl _ _)).mono ?_
          rintro e W2 ⟨rfl, nd, hW2⟩
          have hb2 : Below W1.heap.size W1 W2 := by rw [hW2]; exact below_drewN (Below.refl _ _) nd
          clear hW2
          have c0' := B0.out.under hb2 B0.out.lt
          have c1' := B1.out.under hb2 B1.out.lt
          clear x0 x1 x2 x3 y0 y1 y2
          have x0 := c0'.c0
          have x1 := c0'.c1
          have x2 := c0'.c2
          have x3 := c0'.c3
          have y0 := c1'.c0
          have y1 := c1'.c1
          have y2 := c1'.c2
          have B20 := Lib.hid c0'
          have B21 := Lib.hid c1'
          have HB2 := Lib.hid (HB1.out.trans (hb2.mono HB1.out.size))
          have HP2 := Lib.hid (HP.out.keep hb2)
          have HP2' := Lib.hid (HP'.out.keep hb2)
          have HBB2 := Lib.hid hb2
          clear hb2 c0' c1'
          go_wp2_with fail
          clear x0 x1 x2 x3 y0 y1 y2
          go_loopw [5] (fun i wr => ∃ k : Nat, k ≤ m ∧ i = .int .i64 k ∧ N = (ks.drop k).all (fun x => hasTh js x) ∧ Below W2.heap.size W2 wr) (fun i _ => m - (intOf i).toNat)
          case atStart => exact ⟨0, Nat.zero_le _, rfl, HREST.out, Below.refl _ _⟩
          case round =>
            obtain ⟨k, hk, rfl, hno, hb⟩ := hrel
            have z2 := (B20.out.under hb B20.out.lt).c3
            have v1 := (B21.out.under hb B21.out.lt).c0
            have v2 := (B21.out.under hb B21.out.lt).c2
            have HBW := Lib.hid (HB2.out.trans (hb.mono HB2.out.size))
            have HBR := Lib.hid hb
            by_cases hlt : k < m
            · have hlk : k < ks.length := by rw [HM.out]; exact hlt
              have hlj : 0 < js.length := by rw [HNJ.out]; omega
              obtain ⟨ad, p1, c0, c1, c2, c3, rfl, hpe, hr, q0, q1, q2, q3⟩ := vid_at HP2.out hb hlk
              obtain ⟨bd, p2, d0, d1, d2, rfl, hpe', hr', q0', q1', q2'⟩ := kid_at HP2'.out hb hlj
              rw [Nat.zero_mul] at hpe'
              have hpe2 : bd = p2 := by rw [← hpe']; rfl
              subst hpe2
              have HR := Lib.hid hr
              have HR' := Lib.hid hr'
              have HNO : Hid (N = (hasT js[0] ks[k] && (ks.drop (k + 1)).all (fun x => hasTh js x))) := by
                rw [all_step hlk] at hno
                rw [hno]
                match js, hlj with
                | j :: js', _ => rfl
              clear hr hr' hb hno
              go_wp2_with fail
              go_still_tail 10, (by kernel_rfl)
              change wpList _ _ _ _ _ wr.drew
              have hd : Below wr.heap.size wr wr.drew := (Below.refl _ _).drew
              have HC := Lib.hid (HI.out ks[k] (List.getElem_mem hlk) js[0] wr.drew [c0, c1, c2, c3] [d0, d1, d2] (HKID.out _ (List.getElem_mem hlj)) (HR.out.keep hd) (RTy.keep HR'.out hd))
              have HBW2 := Lib.hid (HBW.out.trans (hd.mono HBW.out.size))
              have HBR2 := Lib.hid (HBR.out.trans (hd.mono HBR.out.size))
              clear hd
              go_wp2_with fail
              refine HC.out.mono ?_
              rintro e w3 ⟨rfl, hb3⟩
              have HBW3 := Lib.hid (HBW2.out.trans (hb3.mono HBW2.out.size))
              have HBR3 := Lib.hid (HBR2.out.trans (hb3.mono HBR2.out.size))
              clear hb3
              cases hf : hasT js[0] ks[k]
              · have HR : Hid (Truth N w (.returned (.bool false)) w3) := truth_iff (by rw [HNO.out, hf]; rfl) HBW3.out
                clear hf
                go_wp2_with fail
                go_ret
                exact HR.out
              · have HN2 : Hid (N = (ks.drop (k + 1)).all (fun x => hasTh js x)) := by show _ = _; rw [HNO.out, hf]; rfl
                clear hf
                go_wp2_with fail
                go_roundw
                case rel => exact ⟨k + 1, hlt, by go_num, HN2.out, HBR3.out⟩
                case measure => simp [intOf]; omega
            · have he : k = m := by omega
              have HR : Hid (Truth N w (.returned (.bool true)) wr) := truth_iff (by rw [hno, List.drop_eq_nil_of_le (by rw [HM.out]; omega)]; rfl) HBW.out
              clear he hno hb
              go_wp2_with fail
              go_ret
              exact HR.out
        · skip
          have HR : Hid (∀ W', Below W1.heap.size W1 W' → Truth N w (.returned (.bool false)) W') := fun W' hb => HFIN.out _ W' (by rw [HT4.out rfl]; simp [e0]) hb
          clear HT1 HT2 HT3 HT4
          go_enter Try.func45, Try.ntmps45
          go_wp2_with fail
          rw [HW1.out]
          go_wp2_with fail
          refine (HTX.out W1 (Below.refl _ _)).mono ?_
          rintro e W2 ⟨rfl, nd, hW2⟩
          have hb2 : Below W1.heap.size W1 W2 := by rw [hW2]; exact below_drewN (Below.refl _ _) nd
          clear hW2
          have c0' := B0.out.under hb2 B0.out.lt
          have c1' := B1.out.under hb2 B1.out.lt
          clear x0 x1 x2 x3 y0 y1 y2
          have x0 := c0'.c0
          have x1 := c0'.c1
          have x2 := c0'.c2
          have x3 := c0'.c3
          have y0 := c1'.c0
          have y1 := c1'.c1
          have y2 := c1'.c2
          go_wp2_with fail
          go_ret
          exact HR.out _ hb2
      · rw [decide_eq_false e4] at HTX
        have HR : Hid (∀ W', Below W1.heap.size W1 W' → Truth N w (.returned (.bool false)) W') := fun W' hb => HFIN.out _ W' (by rw [HT4.out rfl]; have e5 : l ≠ 0 := fun e => e4 (by rw [List.eq_nil_of_length_eq_zero (HLA.out.trans e), List.eq_nil_of_length_eq_zero HLB.out]); simp [e5]) hb
        clear HT1 HT2 HT3 HT4
        go_enter Try.func45, Try.ntmps45
        go_wp2_with fail
        rw [HW1.out]
        go_wp2_with fail
        refine (HTX.out W1 (Below.refl _ _)).mono ?_
        rintro e W2 ⟨rfl, nd, hW2⟩
        have hb2 : Below W1.heap.size W1 W2 := by rw [hW2]; exact below_drewN (Below.refl _ _) nd
        clear hW2
        go_wp2_with fail
        go_ret
        exact HR.out _ hb2
    · skip
      have HR : Hid (∀ r W', r = false → Below W1.heap.size W1 W' → Truth N w (.returned (.bool r)) W') := fun r W' hr hb => HFIN.out _ W' (hr ▸ (show N = false by rw [HT4.out rfl]; simp [e3])) hb
      clear HT1 HT2 HT3 HT4
      go_enter Try.func45, Try.ntmps45
      go_wp2_with fail
      rw [HW1.out]
      go_wp2_with fail
      go_ret
      exact HR.out _ _ (by first | rfl | (simp; omega)) (Below.refl _ _)
end Go.Proofs.Ytlikmgkjilmjpaa
