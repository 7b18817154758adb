/-
  Merged by program: TeSame.
-/
import Derived.Test.YthcfgpjldhiinaaE9
import Derived.Test.YthcfgpjldhiinaaE10
import Derived.Test.YthcfgpjldhiinaaE11

/-
  The model's EqualTerm.
-/
namespace Go.Proofs.Ythcfgpjldhiinaa
open Go.RowKit

theorem te_ne {a b : TeA} {ks js : List Te} (h : a.kind ≠ b.kind ∨ a.name ≠ b.name ∨ a.num ≠ b.num ∨ a.type ≠ b.type ∨ a.labels ≠ b.labels ∨ ks ≠ js) : same (Tr.node a ks) (Tr.node b js) = false := by
  apply same_no
  intro e
  injection e with e1 e2
  subst e1
  subst e2
  rcases h with h | h | h | h | h | h <;> exact h rfl
theorem te_eq {a b : TeA} {ks js : List Te} (h1 : a.kind = b.kind) (h2 : a.name = b.name) (h3 : a.num = b.num) (h4 : a.type = b.type) (h5 : a.labels = b.labels) (h6 : ks = js) : same (Tr.node a ks) (Tr.node b js) = true := by
  apply same_yes
  obtain ⟨k, s, n, t, l⟩ := a
  obtain ⟨k', s', n', t', l'⟩ := b
  simp only at h1 h2 h3 h4 h5
  rw [h1, h2, h3, h4, h5, h6]
theorem str_ne {s t : ByteArray} (h : s ≠ t) : (s.toList == t.toList) = false := by
  rw [Bool.eq_false_iff, Ne, beq_iff_eq]
  intro e
  rw [ByteArray.toList_eq, ByteArray.toList_eq] at e
  exact h (ByteArray.ext (Array.ext' e))

set_option maxHeartbeats 3200000 in
set_option maxRecDepth 100000 in
theorem specEqE_any : ∀ (t s : Te) (w : World) (cs ds : List Value), RTe w t cs → RTe w s ds → Calls Try.prog 17 #[.agg cs.toArray, .agg ds.toArray] w (Truth (same t s) w) := by
  refine Tr.ind ?_
  intro a ks ih s w cs ds h h'
  obtain ⟨b, js⟩ := s
  obtain ⟨TL, tc, TA, td, L, c, A, d, rfl, hT, k1, ⟨_, _, _, _, _, k4, _⟩, _, _, hp⟩ := h.out
  obtain ⟨TL', tc', TA', td', L', c', A', d', rfl, hT', k1', ⟨_, _, _, _, _, k4', _⟩, _, _, hp'⟩ := h'.out
  obtain ⟨p, hp0⟩ : ∃ p, a.kind = p := ⟨_, rfl⟩
  obtain ⟨q, hq0⟩ : ∃ q, b.kind = q := ⟨_, rfl⟩
  obtain ⟨s0, hs0⟩ : ∃ s, a.name = s := ⟨_, rfl⟩
  obtain ⟨s1, hs1⟩ : ∃ s, b.name = s := ⟨_, rfl⟩
  obtain ⟨u, hu0⟩ : ∃ u, a.num = u := ⟨_, rfl⟩
  obtain ⟨v, hv0⟩ : ∃ v, b.num = v := ⟨_, rfl⟩
  obtain ⟨n, hn0⟩ : ∃ n, ks.length = n := ⟨_, rfl⟩
  obtain ⟨m, hm0⟩ : ∃ m, js.length = m := ⟨_, rfl⟩
  rw [hp0, hn0, hs0, hu0]
  rw [hq0, hm0, hs1, hv0]
  obtain ⟨W1, hW1⟩ : ∃ W1, (w.alloc (.cells #[.int .i64 p, .string s0, .int .i64 u, .int .i64 a.type.top.kind, .slice TL a.type.top.labels.length tc, .slice TA a.type.kids.length td, .slice L a.labels.length c, .slice A n d] 38)).alloc (.cells #[.int .i64 q, .string s1, .int .i64 v, .int .i64 b.type.top.kind, .slice TL' b.type.top.labels.length tc', .slice TA' b.type.kids.length td', .slice L' b.labels.length c', .slice A' m d'] 38) = W1 := ⟨_, rfl⟩
  obtain ⟨H, hH⟩ : ∃ H, w.heap.size = H := ⟨_, rfl⟩
  have b0 : Box8 W1 H 38 (.int .i64 p) (.string s0) (.int .i64 u) (.int .i64 a.type.top.kind) (.slice TL a.type.top.labels.length tc) (.slice TA a.type.kids.length td) (.slice L a.labels.length c) (.slice A n d) := by rw [← hW1, ← hH]; exact (Box8.new w _ _ _ _ _ _ _ _ _).alloc _
  have b1 : Box8 W1 (H + 1) 38 (.int .i64 q) (.string s1) (.int .i64 v) (.int .i64 b.type.top.kind) (.slice TL' b.type.top.labels.length tc') (.slice TA' b.type.kids.length td') (.slice L' b.labels.length c') (.slice A' m d') := by
    rw [← hW1, ← hH]
    have := Box8.new (w.alloc (.cells #[.int .i64 p, .string s0, .int .i64 u, .int .i64 a.type.top.kind, .slice TL a.type.top.labels.length tc, .slice TA a.type.kids.length td, .slice L a.labels.length c, .slice A n d] 38)) 38 (.int .i64 q) (.string s1) (.int .i64 v) (.int .i64 b.type.top.kind) (.slice TL' b.type.top.labels.length tc') (.slice TA' b.type.kids.length td') (.slice L' b.labels.length c') (.slice A' m d')
    simpa using this
  have hb1 : Below w.heap.size w W1 := by rw [← hW1]; exact ((Below.refl _ _).alloc (Nat.le_refl _) _).alloc (by simp) _
  have HW1 := Lib.hid hW1
  have HP := Lib.hid hp
  have HP' := Lib.hid hp'
  have HTY := Lib.hid (specEq_any a.type b.type W1 _ _ (hT.keep hb1) (hT'.keep hb1))
  have HT := Lib.hid (fun W (hB : Below w.heap.size w W) => l3Texts_any L L' c c' a.labels b.labels W (k1.below hB) (k1'.below hB) k4)
  have HB1 := Lib.hid hb1
  have HI := Lib.hid ih
  have HK := Lib.hid hp0
  have HK' := Lib.hid hq0
  have HS0 := Lib.hid hs0
  have HS1 := Lib.hid hs1
  have HU := Lib.hid hu0
  have HU' := Lib.hid hv0
  have HN := Lib.hid hn0
  have HN' := Lib.hid hm0
  have B0 := Lib.hid b0
  have B1 := Lib.hid b1
  have x0 := b0.c0
  have x1 := b0.c1
  have x2 := b0.c2
  have x3 := b0.c3
  have x4 := b0.c4
  have x5 := b0.c5
  have y0 := b1.c0
  have y1 := b1.c1
  have y2 := b1.c2
  have y3 := b1.c3
  have y4 := b1.c4
  have y5 := b1.c5
  clear hp hp' ih k1 k1' h h' hb1 hp0 hq0 hn0 hm0 hs0 hs1 hu0 hv0 hT hT' b0 b1 hW1
  by_cases hpq : p = q
  rotate_left
  · have HR := Lib.hid (truth_iff (a := same (Tr.node a ks) (Tr.node b js)) (b := false) (te_ne (Or.inl (by rw [HK.out, HK'.out]; exact hpq))) HB1.out)


    go_enter Try.func17, Try.ntmps17
    go_wp2_with fail
    rw [HW1.out]
    go_wp2_with fail
    go_ret
    exact HR.out
  subst hpq
  by_cases hss : s0 = s1
  rotate_left
  · have HR := Lib.hid (truth_iff (a := same (Tr.node a ks) (Tr.node b js)) (b := false) (te_ne (Or.inr (Or.inl (by rw [HS0.out, HS1.out]; exact hss)))) HB1.out)
    have f1 := str_ne hss
    clear hss
    go_enter Try.func17, Try.ntmps17
    go_wp2_with fail
    rw [HW1.out]
    go_wp2_with fail
    go_ret
    exact HR.out
  subst hss
  by_cases huv : u = v
  rotate_left
  · have HR := Lib.hid (truth_iff (a := same (Tr.node a ks) (Tr.node b js)) (b := false) (te_ne (Or.inr (Or.inr (Or.inl (by rw [HU.out, HU'.out]; exact huv))))) HB1.out)


    go_enter Try.func17, Try.ntmps17
    go_wp2_with fail
    rw [HW1.out]
    go_wp2_with fail
    go_ret
    exact HR.out
  subst huv
  go_enter Try.func17, Try.ntmps17
  go_wp2_with fail
  rw [HW1.out]
  go_wp2_with fail
  refine HTY.out.mono ?_
  rintro e W2 ⟨rfl, hb2⟩
  have hz : H + 1 < W1.heap.size := B1.out.lt
  have B20 := Lib.hid (B0.out.under hb2 B0.out.lt)
  have B21 := Lib.hid (B1.out.under hb2 hz)
  have HB2 := Lib.hid (HB1.out.trans (hb2.mono HB1.out.size))
  clear hb2 x0 x1 x2 x3 x4 x5 y0 y1 y2 y3 y4 y5 hz HTY
  cases hty : same a.type b.type with
  | false =>
    have HR := Lib.hid (truth_iff (a := same (Tr.node a ks) (Tr.node b js)) (b := false) (te_ne (Or.inr (Or.inr (Or.inr (Or.inl (same_iff_no.1 hty)))))) HB2.out)
    clear hty
    go_wp2_with fail
    go_ret
    exact HR.out
  | true =>
    have HTE := Lib.hid (same_iff.1 hty)
    have HC := Lib.hid (HT.out W2 HB2.out)
    have x6 := B20.out.c6
    have y6 := B21.out.c6
    clear hty HT
    go_wp2_with fail
    refine HC.out.mono ?_
    rintro e W3 ⟨rfl, nd, hW3⟩
    have hb3 : Below W2.heap.size W2 W3 := by rw [hW3]; exact below_drewN (Below.refl _ _) nd
    have B30 := Lib.hid (B20.out.under hb3 B20.out.lt)
    have B31 := Lib.hid (B21.out.under hb3 B21.out.lt)
    have HB3 := Lib.hid (HB2.out.trans (hb3.mono HB2.out.size))
    clear hb3 hW3 x6 y6 HC
    cases hlb : same a.labels b.labels with
    | false =>
      have HR := Lib.hid (truth_iff (a := same (Tr.node a ks) (Tr.node b js)) (b := false) (te_ne (Or.inr (Or.inr (Or.inr (Or.inr (Or.inl (same_iff_no.1 hlb))))))) HB3.out)
      clear hlb
      go_wp2_with fail
      go_ret
      exact HR.out
    | true =>
      have HLB := Lib.hid (same_iff.1 hlb)
      have x7 := B30.out.c7
      have y7 := B31.out.c7
      clear hlb
      by_cases hnm : n = m
      rotate_left
      · have HR := Lib.hid (truth_iff (a := same (Tr.node a ks) (Tr.node b js)) (b := false) (te_ne (Or.inr (Or.inr (Or.inr (Or.inr (Or.inr (fun e => hnm (by rw [← HN.out, ← HN'.out, e])))))))) HB3.out)
        go_wp2_with fail
        go_ret
        exact HR.out
      subst hnm
      clear x7 y7
      have x7 := B30.out.c7
      have y7 := B31.out.c7
      go_wp2_with fail
      go_loopw [5] (fun i wr => ∃ k : Nat, k ≤ n ∧ i = .int .i64 k ∧ EqTo ks js k ∧ Below W3.heap.size W3 wr) (fun i _ => n - (intOf i).toNat)
      case atStart => exact ⟨0, Nat.zero_le _, rfl, eqTo_zero _ _, Below.refl _ _⟩
      case round =>
        obtain ⟨k, hk, rfl, hno, hb⟩ := hrel
        have z2 := (B30.out.under hb B30.out.lt).c7
        have v2 := (B31.out.under hb B31.out.lt).c7
        have HBW := Lib.hid (HB3.out.trans (hb.mono HB3.out.size))
        have HBR := Lib.hid hb
        by_cases hlt : k < n
        · have hlk : k < ks.length := by rw [HN.out]; exact hlt
          have hlj : k < js.length := by rw [HN'.out]; exact hlt
          obtain ⟨ad, p1, c0, c1, c2, c3, c4, c5, c6, c7, rfl, hpe, hr, q0, q1, q2, q3, q4, q5, q6, q7⟩ := tid_at HP.out HBW.out hlk
          obtain ⟨bd, p2, d0, d1, d2, d3, d4, d5, d6, d7, rfl, hpe', hr', q0', q1', q2', q3', q4', q5', q6', q7'⟩ := tid_at HP'.out HBW.out hlj
          have HR := Lib.hid hr
          have HR' := Lib.hid hr'
          have HNO := Lib.hid hno
          clear hr hr' hb hno
          go_wp2_with fail
          go_still_tail 10, (by kernel_rfl)
          change wpList _ _ _ _ _ wr.drew
          have hd : Below wr.heap.size wr wr.drew := (Below.refl _ _).drew
          have HC := Lib.hid (HI.out ks[k] (List.getElem_mem hlk) js[k] wr.drew [c0, c1, c2, c3, c4, c5, c6, c7] [d0, d1, d2, d3, d4, d5, d6, d7] (HR.out.keep hd) (HR'.out.keep hd))
          have HBW2 := Lib.hid (HBW.out.trans (hd.mono HBW.out.size))
          have HBR2 := Lib.hid (HBR.out.trans (hd.mono HBR.out.size))
          clear hd
          go_wp2_with fail
          refine HC.out.mono ?_
          rintro e w3 ⟨rfl, hb3⟩
          have HBW3 := Lib.hid (HBW2.out.trans (hb3.mono HBW2.out.size))
          have HBR3 := Lib.hid (HBR2.out.trans (hb3.mono HBR2.out.size))
          clear hb3
          cases hf : same ks[k] js[k]
          · have HR := Lib.hid (truth_iff (a := same (Tr.node a ks) (Tr.node b js)) (b := false) (te_ne (Or.inr (Or.inr (Or.inr (Or.inr (Or.inr (ne_at hlk hlj (same_iff_no.1 hf)))))))) HBW3.out)
            clear hf
            go_wp2_with fail
            go_ret
            exact HR.out
          · have HN2 := Lib.hid (eqTo_succ HNO.out hlk hlj (same_iff.1 hf))
            clear hf
            go_wp2_with fail
            go_roundw
            case rel => exact ⟨k + 1, hlt, by go_num, HN2.out, HBR3.out⟩
            case measure => simp [intOf]; omega
        · have he : k = n := by omega
          have hks : ks = js := eqTo_all (by rw [HN.out, ← he]; exact hno) (by rw [HN.out, HN'.out])
          have HR := Lib.hid (truth_iff (a := same (Tr.node a ks) (Tr.node b js)) (b := true) (te_eq (by rw [HK.out, HK'.out]) (by rw [HS0.out, HS1.out]) (by rw [HU.out, HU'.out]) HTE.out HLB.out hks) HBW.out)
          clear he hno hks hb
          go_wp2_with fail
          go_ret
          exact HR.out
end Go.Proofs.Ythcfgpjldhiinaa
