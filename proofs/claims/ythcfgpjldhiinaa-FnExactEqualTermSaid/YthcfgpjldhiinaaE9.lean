/-
  Merged by program: TySameS.
-/
import Derived.Test.YthcfgpjldhiinaaE8

/-
  The model's EqualType.
-/
namespace Go.Proofs.Ythcfgpjldhiinaa
open Go.RowKit
set_option maxHeartbeats 1600000 in
set_option maxRecDepth 100000 in
theorem specEq_any : ∀ (t s : Ty) (w : World) (cs ds : List Value), RTy w t cs → RTy w s ds → Calls Try.prog 37 #[.agg cs.toArray, .agg ds.toArray] w (Truth (same t s) w) := by
  refine Tr.ind ?_
  intro a ks ih s w cs ds h h'
  obtain ⟨b, js⟩ := s
  obtain ⟨L, c, A, d, rfl, k1, k2, k3, k4, k5, k6, hp⟩ := h.out
  obtain ⟨L', c', A', d', rfl, k1', k2', k3', k4', k5', k6', hp'⟩ := h'.out
  obtain ⟨p, hp0⟩ : ∃ p, a.kind = p := ⟨_, rfl⟩
  obtain ⟨q, hq0⟩ : ∃ q, b.kind = q := ⟨_, rfl⟩
  obtain ⟨n, hn0⟩ : ∃ n, ks.length = n := ⟨_, rfl⟩
  obtain ⟨m, hm0⟩ : ∃ m, js.length = m := ⟨_, rfl⟩
  rw [hp0, hn0]
  rw [hq0, hm0]
  rw [hp0] at k2 k3
  rw [hq0] at k2' k3'
  rw [hn0] at k6
  rw [hm0] at k6'
  obtain ⟨W1, hW1⟩ : ∃ W1, (w.alloc (.cells #[.int .i64 p, .slice L a.labels.length c, .slice A n d] 35)).alloc (.cells #[.int .i64 q, .slice L' b.labels.length c', .slice A' m d'] 35) = W1 := ⟨_, rfl⟩
  obtain ⟨H, hH⟩ : ∃ H, w.heap.size = H := ⟨_, rfl⟩
  have b0 : Box3 W1 H 35 (.int .i64 p) (.slice L a.labels.length c) (.slice A n d) := by rw [← hW1, ← hH]; exact (Box3.new w _ _ _ _).alloc _
  have b1 : Box3 W1 (H + 1) 35 (.int .i64 q) (.slice L' b.labels.length c') (.slice A' m d') := by
    rw [← hW1, ← hH]
    have := Box3.new (w.alloc (.cells #[.int .i64 p, .slice L a.labels.length c, .slice A n d] 35)) 35 (.int .i64 q) (.slice L' b.labels.length c') (.slice A' m d')
    simpa using this
  have hb1 : Below w.heap.size w W1 := by rw [← hW1]; exact ((Below.refl _ _).alloc (Nat.le_refl _) _).alloc (by simp) _
  have HW1 := Lib.hid hW1
  have HP := Lib.hid (hp.keep hb1)
  have HP' := Lib.hid (hp'.keep hb1)
  have HT := Lib.hid (l3Texts_any L L' c c' a.labels b.labels W1 (k1.below hb1) (k1'.below hb1) k4)
  have HB1 := Lib.hid hb1
  have HI := Lib.hid ih
  have HK := Lib.hid hp0
  have HK' := Lib.hid hq0
  have HN := Lib.hid hn0
  have HN' := Lib.hid hm0
  have B0 := Lib.hid b0
  have B1 := Lib.hid b1
  clear hp hp' ih k1 k1' k5 k5' h h' hb1 hp0 hq0 hn0 hm0
  by_cases hpq : p = q
  · subst hpq
    have x1 := b0.c1
    have y1 := b1.c1
    clear b0 b1 hW1
    go_enter Try.func37, Try.ntmps37
    go_wp2_with fail
    rw [HW1.out]
    refine HT.out.mono ?_
    rintro e W2 ⟨rfl, nd, hW2⟩
    have hb2 : Below W1.heap.size W1 W2 := by rw [hW2]; exact below_drewN (Below.refl _ _) nd
    have hz : H + 1 < W1.heap.size := B1.out.lt
    have B20 := Lib.hid (B0.out.under hb2 B0.out.lt)
    have B21 := Lib.hid (B1.out.under hb2 hz)
    have HB2 := Lib.hid (HB1.out.trans (hb2.mono HB1.out.size))
    have HP2 := Lib.hid (HP.out.keep hb2)
    have HP2' := Lib.hid (HP'.out.keep hb2)
    clear hb2 hW2 x1 y1 hz
    cases hlb : same a.labels b.labels
    · have HR := Lib.hid (truth_iff (a := same (Tr.node a ks) (Tr.node b js)) (b := false) (ty_ne (Or.inr (Or.inl (same_iff_no.1 hlb)))) HB2.out)
      clear hlb
      go_wp2_with fail
      go_ret
      exact HR.out
    · have HLB := Lib.hid (same_iff.1 hlb)
      have x2 := B20.out.c2
      have y2 := B21.out.c2
      clear hlb
      by_cases hnm : n = m
      · subst hnm
        clear x2 y2
        have x2 := B20.out.c2
        have y2 := B21.out.c2
        go_wp2_with fail
        go_loopw [5] (fun i wr => ∃ k : Nat, k ≤ n ∧ i = .int .i64 k ∧ EqTo ks js k ∧ Below W2.heap.size W2 wr) (fun i _ => n - (intOf i).toNat)
        case atStart => exact ⟨0, Nat.zero_le _, rfl, eqTo_zero _ _, Below.refl _ _⟩
        case round =>
          obtain ⟨k, hk, rfl, hno, hb⟩ := hrel
          have z2 := (B20.out.under hb B20.out.lt).c2
          have v2 := (B21.out.under hb B21.out.lt).c2
          have HBW := Lib.hid (HB2.out.trans (hb.mono HB2.out.size))
          have HBR := Lib.hid hb
          by_cases hlt : k < n
          · have hlk : k < ks.length := by rw [HN.out]; exact hlt
            have hlj : k < js.length := by rw [HN'.out]; exact hlt
            obtain ⟨ad, p1, c0, c1, c2, rfl, hpe, hr, q0, q1, q2⟩ := kid_at HP2.out hb hlk
            obtain ⟨bd, p2, d0, d1, d2, rfl, hpe', hr', q0', q1', q2'⟩ := kid_at HP2'.out hb hlj
            have HR := Lib.hid hr
            have HR' := Lib.hid hr'
            have HNO := Lib.hid hno
            clear hr hr' hb hno
            go_wp2_with fail
            go_still_tail 10, (by kernel_rfl)
            change wpList _ _ _ _ _ wr.drew
            have hd : Below wr.heap.size wr wr.drew := (Below.refl _ _).drew
            have HC := Lib.hid (HI.out ks[k] (List.getElem_mem hlk) js[k] wr.drew [c0, c1, c2] [d0, d1, d2] (HR.out.keep hd) (HR'.out.keep hd))
            have HBW2 := Lib.hid (HBW.out.trans (hd.mono HBW.out.size))
            have HBR2 := Lib.hid (HBR.out.trans (hd.mono HBR.out.size))
            clear hd
            go_wp2_with fail
            refine HC.out.mono ?_
            rintro e w3 ⟨rfl, hb3⟩
            have HBW3 := Lib.hid (HBW2.out.trans (hb3.mono HBW2.out.size))
            have HBR3 := Lib.hid (HBR2.out.trans (hb3.mono HBR2.out.size))
            clear hb3
            cases hf : same ks[k] js[k]
            · have HR := Lib.hid (truth_iff (a := same (Tr.node a ks) (Tr.node b js)) (b := false) (ty_ne (Or.inr (Or.inr (ne_at hlk hlj (same_iff_no.1 hf))))) HBW3.out)
              clear hf
              go_wp2_with fail
              go_ret
              exact HR.out
            · have HN2 := Lib.hid (eqTo_succ HNO.out hlk hlj (same_iff.1 hf))
              clear hf
              go_wp2_with fail
              go_roundw
              case rel => exact ⟨k + 1, hlt, by go_num, HN2.out, HBR3.out⟩
              case measure => simp [intOf]; omega
          · have he : k = n := by omega
            have hks : ks = js := eqTo_all (by rw [HN.out, ← he]; exact hno) (by rw [HN.out, HN'.out])
            have HR := Lib.hid (truth_iff (a := same (Tr.node a ks) (Tr.node b js)) (b := true) (ty_eq (by rw [HK.out, HK'.out]) HLB.out hks) HBW.out)
            clear he hno hks hb
            go_wp2_with fail
            go_ret
            exact HR.out
      · have HR := Lib.hid (truth_iff (a := same (Tr.node a ks) (Tr.node b js)) (b := false) (ty_ne (Or.inr (Or.inr (fun e => hnm (by rw [← HN.out, ← HN'.out, e]))))) HB2.out)
        go_wp2_with fail
        go_ret
        exact HR.out
  · have HR := Lib.hid (fun cs ds => truth_iff (w := w) (w' := (w.alloc (.cells cs 35)).alloc (.cells ds 35)) (a := same (Tr.node a ks) (Tr.node b js)) (b := false) (ty_ne (Or.inl (by rw [HK.out, HK'.out]; exact hpq))) (((Below.refl _ _).alloc (Nat.le_refl _) _).alloc (by simp) _))
    clear b0 b1 hW1
    go_enter Try.func37, Try.ntmps37
    go_wp2_with fail
    go_ret
    exact HR.out _ _
end Go.Proofs.Ythcfgpjldhiinaa
