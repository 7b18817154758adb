/-
  Merged by program: EqfDc.
-/
import Derived.Test.YtlcpekpgkllbkaaQ31
import Derived.Test.YtlcpekpgkllbkaaQ32
import Derived.Test.YtlcpekpgkllbkaaQ41

/-
  The library's slices.EqualFunc over declarations, with the program's isEqualDecl; the program's EqualSchema.
-/
namespace Go.Proofs.Ytlcpekpgkllbkaa
open Go.RowKit

set_option maxRecDepth 100000 in
set_option maxHeartbeats 3200000 in
theorem eqDecl_any (x y : Dc) (w : World) (cs ds : List Value) (h : kDc.R w x cs) (h' : kDc.R w y ds) (hw : wt x.2 ≤ 1048576) : Calls Try.prog 70 #[.agg cs.toArray, .agg ds.toArray] w (Truth (sameDc x y) w) := by
  obtain ⟨tk, TL, TA, tl, tc, ta, td, rfl, hs, hy⟩ := kDc_open h
  obtain ⟨tk', TL', TA', tl', tc', ta', td', rfl, hs', hy'⟩ := kDc_open h'
  obtain ⟨W1, hW1⟩ : ∃ W1, (w.alloc (.cells #[.string x.1, .int .i64 tk, .slice TL tl tc, .slice TA ta td] 64)).alloc (.cells #[.string y.1, .int .i64 tk', .slice TL' tl' tc', .slice TA' ta' td'] 64) = W1 := ⟨_, rfl⟩
  obtain ⟨H, hH⟩ : ∃ H, w.heap.size = H := ⟨_, rfl⟩
  have hb1 : Below w.heap.size w W1 := by rw [← hW1]; exact ((Below.refl _ _).alloc (Nat.le_refl _) _).alloc (by simp) _
  have b0 : Box4 W1 H 64 (.string x.1) (.int .i64 tk) (.slice TL tl tc) (.slice TA ta td) := by rw [← hW1, ← hH]; exact (Box4.new w _ _ _ _ _).alloc _
  have b1 : Box4 W1 (H + 1) 64 (.string y.1) (.int .i64 tk') (.slice TL' tl' tc') (.slice TA' ta' td') := by
    rw [← hW1, ← hH]
    have := Box4.new (w.alloc (.cells #[.string x.1, .int .i64 tk, .slice TL tl tc, .slice TA ta td] 64)) 64 (.string y.1) (.int .i64 tk') (.slice TL' tl' tc') (.slice TA' ta' td')
    simpa using this
  have hsz : x.2.size ≤ 1048577 := by have := size_wt x.2; omega
  have HC := Lib.hid (implEqualType_any x.2 y.2 W1 _ _ (kTy.keep hy hb1) (kTy.keep hy' hb1) hsz)
  have HB1 := Lib.hid hb1
  have HW1 := Lib.hid hW1
  have HT : Hid (∀ b W, b = (decide (x.1 = y.1) && same x.2 y.2) → Below w.heap.size w W → Truth (sameDc x y) w (.returned (.bool b)) W) := Lib.hid (fun b W hb hB => ⟨by rw [hb]; rfl, hB⟩)
  have x0 := b0.c0
  have x1 := b0.c1
  have x2 := b0.c2
  have x3 := b0.c3
  have y0 := b1.c0
  have y1 := b1.c1
  have y2 := b1.c2
  have y3 := b1.c3
  generalize x.1 = nm at *
  generalize y.1 = nm' at *
  generalize same x.2 y.2 = sm at *
  clear h h' hs hs' hy hy' b0 b1 hW1 hb1 hsz hw
  by_cases hn : nm = nm'
  · subst hn
    have HF := Lib.hid (fun W hB => HT.out sm W (by simp) hB)
    clear HT
    go_enter Try.func70, Try.ntmps70
    go_wp2_with fail
    rw [HW1.out]
    go_wp2_with fail
    refine HC.out.mono ?_
    rintro e w2 ⟨rfl, hb2⟩
    have HB2 := Lib.hid (HB1.out.trans (hb2.mono HB1.out.size))
    clear hb2 x0 x1 x2 x3 y0 y1 y2 y3
    go_wp2_with fail
    go_ret
    exact HF.out _ HB2.out
  · have HF := Lib.hid (HT.out false W1 (by rw [decide_eq_false hn]; rfl) HB1.out)
    have f1 := str_neS hn
    clear hn HT HC
    go_enter Try.func70, Try.ntmps70
    go_wp2_with fail
    rw [HW1.out]
    go_wp2_with fail
    go_ret
    exact HF.out

set_option maxRecDepth 100000 in
set_option maxHeartbeats 3200000 in
theorem eqFuncDc_any (ks js : Sc) (w : World) (A B : Option Addr) (c d : Nat) (h : RL kDc w A ks) (h' : RL kDc w B js) (hl : ks.length ≤ 9223372036854775807) (hw : wSc ks ≤ 1048576) :
    Calls Try.prog 69 #[.slice A ks.length c, .slice B js.length d, .func (.func 70) #[] #[]] w (Truth (eqScB ks js) w) := by
  by_cases hlen : ks.length = js.length
  · have HP := Lib.hid h
    have HQ := Lib.hid h'
    have HL := Lib.hid hlen
    have HWT := Lib.hid hw
    have HE : Hid (eqScB ks js = allPairs sameDc ks js) := Lib.hid (by unfold eqScB; rw [decide_eq_true hlen]; rfl)
    rw [← hlen]
    clear h h' hlen hw
    go_enter Try.func69, Try.ntmps69
    go_wp2_with fail
    go_loopw [17] (fun i wr => ∃ k : Nat, k ≤ ks.length ∧ i = .int .i64 k ∧ PairsTo sameDc ks js k ∧ Below w.heap.size w wr) (fun i _ => ks.length - (intOf i).toNat)
    case atStart => exact ⟨0, Nat.zero_le _, rfl, pairsTo_zero _ _ _, Below.refl _ _⟩
    case round =>
      obtain ⟨k, hk, rfl, hto, hb⟩ := hrel
      have HTO := Lib.hid hto
      have HB := Lib.hid hb
      clear hto
      by_cases hlt : k < ks.length
      · have hlt2 : k < js.length := by have := HL.out; omega
        obtain ⟨ad, p, c0, c1, c2, c3, rfl, hpe, hr, q0, q1, q2, q3⟩ := rl_at4 kDc_n HP.out hb hlt
        obtain ⟨bd, p', d0, d1, d2, d3, rfl, hpe', hr', q0', q1', q2', q3'⟩ := rl_at4 kDc_n HQ.out hb hlt2
        obtain ⟨tk, TL, TA, tl, tc, ta, td, hcs, hs, hy⟩ := kDc_open hr
        obtain ⟨tk', TL', TA', tl', tc', ta', td', hds, hs', hy'⟩ := kDc_open hr'
        simp only [List.cons.injEq, and_true] at hcs hds
        obtain ⟨rfl, rfl, rfl, rfl⟩ := hcs
        obtain ⟨rfl, rfl, rfl, rfl⟩ := hds
        obtain ⟨_, hwt, _⟩ := dnm_bounds hlt HWT.out
        obtain ⟨W5, hW5⟩ : ∃ W5, (wr.alloc (.cells #[.string ks[k].1, .int .i64 tk, .slice TL tl tc, .slice TA ta td] 64)).alloc (.cells #[.string js[k].1, .int .i64 tk', .slice TL' tl' tc', .slice TA' ta' td'] 64) = W5 := ⟨_, rfl⟩
        have hb5 : Below wr.heap.size wr W5 := by rw [← hW5]; exact ((Below.refl _ _).alloc (Nat.le_refl _) _).alloc (by simp) _
        have HC := Lib.hid (eqDecl_any ks[k] js[k] W5 _ _ (kDc.keep hr hb5) (kDc.keep hr' hb5) hwt)
        have HW5 := Lib.hid hW5
        have HB5 := Lib.hid (HB.out.trans (hb5.mono HB.out.size))
        have HS := Lib.hid (fun hf => pairsTo_more HTO.out hlt hlt2 hf)
        have HN : Hid (sameDc ks[k] js[k] = false → eqScB ks js = false) := Lib.hid (fun hf => by rw [HE.out]; exact pairs_no hlt hlt2 hf)
        obtain ⟨v, hv⟩ : ∃ v, sameDc ks[k] js[k] = v := ⟨_, rfl⟩
        rw [hv] at HS HN HC
        have hbA : Below wr.heap.size wr (wr.alloc (.cells #[.string ks[k].1, .int .i64 tk, .slice TL tl tc, .slice TA ta td] 64)) := (Below.refl _ _).alloc (Nat.le_refl _) _
        have s0 := (hbA.cell (World.block_lt_of_cell? wr _ q0')).trans q0'
        have s1 := (hbA.cell (World.block_lt_of_cell? wr _ q1')).trans q1'
        have s2 := (hbA.cell (World.block_lt_of_cell? wr _ q2')).trans q2'
        have s3 := (hbA.cell (World.block_lt_of_cell? wr _ q3')).trans q3'
        generalize ks[k].1 = nm at *
        generalize js[k].1 = nm' at *
        clear hr hr' hs hs' hy hy' hb hb5 hW5 hv hlt2 hbA q0' q1' q2' q3' hwt
        go_wp2_with fail
        rw [HW5.out]
        refine HC.out.mono ?_
        rintro e w6 ⟨rfl, hb6⟩
        have HB6 := Lib.hid (HB5.out.trans (hb6.mono HB5.out.size))
        clear hb6 HC
        cases v with
        | false =>
          have HF : Hid (Truth (eqScB ks js) w (.returned (.bool false)) w6) := by rw [HN.out rfl]; exact ⟨rfl, HB6.out⟩
          go_wp2_with fail
          go_ret
          exact HF.out
        | true =>
          have HT := Lib.hid (HS.out rfl)
          clear HS HN
          go_wp2_with fail
          go_roundw
          case rel => exact ⟨k + 1, hlt, by go_num, HT.out, HB6.out⟩
          case measure => simp [intOf]; omega
      · have he : k = ks.length := by omega
        have HF : Hid (Truth (eqScB ks js) w (.returned (.bool true)) wr) := by
          rw [HE.out, pairsTo_all (by rw [← he]; exact HTO.out)]
          exact ⟨rfl, HB.out⟩
        clear he hb
        go_wp2_with fail
        go_ret
        exact HF.out
  · have HF : Hid (Truth (eqScB ks js) w (.returned (.bool false)) w) := Lib.hid ⟨by unfold eqScB; rw [decide_eq_false hlen]; rfl, Below.refl _ _⟩
    have hne : ((ks.length : Int) == (js.length : Int)) = false := by
      have : (ks.length : Int) ≠ (js.length : Int) := by omega
      exact beq_eq_false_iff_ne.2 this
    generalize eqScB ks js = eb at HF ⊢
    generalize ks.length = n1 at *
    generalize js.length = n2 at *
    clear hlen h h' hw
    go_enter Try.func69, Try.ntmps69
    go_wp2_with fail
    go_ret
    exact HF.out

set_option maxRecDepth 100000 in
set_option maxHeartbeats 1600000 in
theorem implEqSc_any (t s : Sc) (w : World) (cs ds : List Value) (h : RSc w t cs) (h' : RSc w s ds) (hw : wSc t ≤ 1048576) : Calls Try.prog 33 #[.agg cs.toArray, .agg ds.toArray] w (Truth (eqScB t s) w) := by
  obtain ⟨A, c, rfl, hl, _, hp⟩ := h.open
  obtain ⟨B, d, rfl, _, _, hp'⟩ := h'.open
  obtain ⟨W1, hW1⟩ : ∃ W1, (w.alloc (.cells #[.slice A t.length c] 29)).alloc (.cells #[.slice B s.length d] 29) = W1 := ⟨_, rfl⟩
  obtain ⟨H, hH⟩ : ∃ H, w.heap.size = H := ⟨_, rfl⟩
  have b0 : Box1 W1 H 29 (.slice A t.length c) := by rw [← hW1, ← hH]; exact (Box1.new w _ _).alloc _
  have b1 : Box1 W1 (H + 1) 29 (.slice B s.length d) := by
    rw [← hW1, ← hH]
    have := Box1.new (w.alloc (.cells #[.slice A t.length c] 29)) 29 (.slice B s.length d)
    simpa using this
  have hb1 : Below w.heap.size w W1 := by rw [← hW1]; exact ((Below.refl _ _).alloc (Nat.le_refl _) _).alloc (by simp) _
  have HC := Lib.hid (eqFuncDc_any t s W1 A B c d (hp.keep hb1) (hp'.keep hb1) hl hw)
  have HW1 := Lib.hid hW1
  have HB1 := Lib.hid hb1
  have x0 := b0.c0
  have y0 := b1.c0
  generalize eqScB t s = eb at HC ⊢
  generalize t.length = n at *
  generalize s.length = m at *
  clear h h' hp hp' hl hW1 b0 b1 hb1 hw
  go_enter Try.func33, Try.ntmps33
  go_wp2_with fail
  rw [HW1.out]
  go_wp2_with fail
  refine HC.out.mono ?_
  rintro e w2 ⟨rfl, hb2⟩
  have HR : Hid (Truth eb w (.returned (.bool eb)) w2) := ⟨rfl, HB1.out.trans (hb2.mono HB1.out.size)⟩
  clear hb2
  go_wp2_with fail
  go_ret
  exact HR.out
end Go.Proofs.Ytlcpekpgkllbkaa
