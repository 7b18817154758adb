/-
  Merged by program: EqfDd.
-/
import Derived.Test.YtlcpekpgkllbkaaR24
import Derived.Test.YtlcpekpgkllbkaaR15
import Derived.Test.YtlcpekpgkllbkaaR13
import Derived.Test.YtlcpekpgkllbkaaR8
import Derived.Test.YtlcpekpgkllbkaaR7
import Derived.Test.YtlcpekpgkllbkaaR41

/-
  The library's slices.EqualFunc over values and over tables' data; the program's EqualDB. Written by wip/tools/mkeqf.py.
-/
namespace Go.Proofs.Ytlcpekpgkllbkaa
open Go.RowKit

theorem dd_bounds {t : Db} {k : Nat} (hk : k < t.length) (hw : wDb t ≤ 1048576) : t[k].1.size ≤ 1048576 ∧ wL wv t[k].2 ≤ 1048576 ∧ t.length ≤ 1048576 := by
  have h := wL_le (f := wDd) hk hw
  have h1 : wDd t[k] = t[k].1.size + (wL wv) t[k].2 := rfl
  omega
theorem va_bounds {ts : List Va} {k : Nat} (hk : k < ts.length) (hw : wL wv ts ≤ 1048576) : ts[k].size ≤ 1048577 ∧ wv ts[k] ≤ 1048576 ∧ ts.length ≤ 1048576 := by
  have h := wL_le (f := wv) hk hw
  have h1 := size_wv ts[k]
  omega

set_option maxRecDepth 100000 in
set_option maxHeartbeats 1600000 in
theorem eqVa_any (a b : Va) (w : World) (cs ds : List Value) (h : RVa w a cs) (h' : RVa w b ds) (hs : a.size ≤ 1048577) : Calls Try.prog 97 #[.agg cs.toArray, .agg ds.toArray] w (Truth (sameVa a b) w) := by
  obtain ⟨c0, c1, c2, c3, rfl⟩ := h.four
  obtain ⟨d0, d1, d2, d3, rfl⟩ := h'.four
  obtain ⟨W1, hW1⟩ : ∃ W1, (w.alloc (.cells #[c0, c1, c2, c3] 92)).alloc (.cells #[d0, d1, d2, d3] 92) = W1 := ⟨_, rfl⟩
  obtain ⟨H, hH⟩ : ∃ H, w.heap.size = H := ⟨_, rfl⟩
  have hb1 : Below w.heap.size w W1 := by rw [← hW1]; exact ((Below.refl _ _).alloc (Nat.le_refl _) _).alloc (by simp) _
  have b0 : Box4 W1 H 92 c0 c1 c2 c3 := by rw [← hW1, ← hH]; exact (Box4.new w _ _ _ _ _).alloc _
  have b1 : Box4 W1 (H + 1) 92 d0 d1 d2 d3 := by
    rw [← hW1, ← hH]
    have := Box4.new (w.alloc (.cells #[c0, c1, c2, c3] 92)) 92 d0 d1 d2 d3
    simpa using this
  have HC := Lib.hid (implCmpP_any a b W1 _ _ (h.keep hb1) (h'.keep hb1) hs)
  have HW1 := Lib.hid hW1
  have HB1 := Lib.hid hb1
  obtain ⟨n, hn⟩ : ∃ n, cmpV a b = n := ⟨_, rfl⟩
  have HT : Hid (∀ r W, r = decide (n = 0) → Below w.heap.size w W → Truth (sameVa a b) w (.returned (.bool r)) W) := Lib.hid (fun r W hr hB => ⟨by rw [hr, ← hn]; rfl, hB⟩)
  rw [hn] at HC
  have x0 := b0.c0
  have y0 := b1.c0
  have x1 := b0.c1
  have y1 := b1.c1
  have x2 := b0.c2
  have y2 := b1.c2
  have x3 := b0.c3
  have y3 := b1.c3
  clear h h' hW1 hb1 b0 b1 hs hn
  by_cases hz : n = 0
  · have HF := Lib.hid (fun W hB => HT.out true W (by rw [decide_eq_true hz]) hB)
    subst hz
    clear HT
    go_enter Try.func97, Try.ntmps97
    go_wp2_with fail
    rw [HW1.out]
    go_wp2_with fail
    refine HC.out.mono ?_
    rintro e w2 ⟨rfl, hb2⟩
    have HB2 := Lib.hid (HB1.out.trans (hb2.mono HB1.out.size))
    clear hb2
    go_wp2_with fail
    go_ret
    exact HF.out _ HB2.out
  · have HF := Lib.hid (fun W hB => HT.out false W (by rw [decide_eq_false hz]) hB)
    have hzf : (n == 0) = false := by simp [hz]
    clear HT
    go_enter Try.func97, Try.ntmps97
    go_wp2_with fail
    rw [HW1.out]
    go_wp2_with fail
    refine HC.out.mono ?_
    rintro e w2 ⟨rfl, hb2⟩
    have HB2 := Lib.hid (HB1.out.trans (hb2.mono HB1.out.size))
    clear hb2
    go_wp2_with fail
    go_ret
    exact HF.out _ HB2.out

def eqVasB (ks js : List Va) : Bool := decide (ks.length = js.length) && allPairs sameVa ks js

set_option maxRecDepth 100000 in
set_option maxHeartbeats 3200000 in
theorem eqFuncVa_any (ks : List Va) (js : List Va) (w : World) (A B : Option Addr) (c d : Nat) (h : RVas w A ks) (h' : RVas w B js) (hl : ks.length ≤ 9223372036854775807) (hw : wL wv ks ≤ 1048576) :
    Calls Try.prog 96 #[.slice A ks.length c, .slice B js.length d, .func (.func 97) #[] #[]] w (Truth (eqVasB ks js) w) := by
  by_cases hlen : ks.length = js.length
  · have HP := Lib.hid h
    have HQ := Lib.hid h'
    have HL := Lib.hid hlen
    have HHW := Lib.hid hw
    have HE : Hid ((eqVasB ks js) = allPairs sameVa ks js) := Lib.hid (by unfold eqVasB; rw [decide_eq_true hlen]; rfl)
    rw [← hlen]
    clear h h' hlen hw
    go_enter Try.func96, Try.ntmps96
    go_wp2_with fail
    go_loopw [17] (fun i wr => ∃ k : Nat, k ≤ ks.length ∧ i = .int .i64 k ∧ PairsTo sameVa ks js k ∧ Below w.heap.size w wr) (fun i _ => ks.length - (intOf i).toNat)
    case atStart => exact ⟨0, Nat.zero_le _, rfl, pairsTo_zero _ _ _, Below.refl _ _⟩
    case round =>
      obtain ⟨k, hk, rfl, hto, hb⟩ := hrel
      have HTO := Lib.hid hto
      have HB := Lib.hid hb
      clear hto
      by_cases hlt : k < ks.length
      · have hlt2 : k < js.length := by have := HL.out; omega
        obtain ⟨ad, p, c0, c1, c2, c3, rfl, hpe, hr, q0, q1, q2, q3⟩ := vid_at HP.out hb hlt
        obtain ⟨bd, p', d0, d1, d2, d3, rfl, hpe', hr', q0', q1', q2', q3'⟩ := vid_at HQ.out hb hlt2
        obtain ⟨e0, e1, e2, e3, e4, e5, e6, e7, rfl, rfl, rfl, rfl⟩ := hr.shape
        obtain ⟨f0, f1, f2, f3, f4, f5, f6, f7, rfl, rfl, rfl, rfl⟩ := hr'.shape
        obtain ⟨hsz, _, _⟩ := va_bounds hlt HHW.out
        obtain ⟨W5, hW5⟩ : ∃ W5, (wr.alloc (.cells #[.int .i64 e0, .int .i64 e1, .slice e2 e3 e4, .slice e5 e6 e7] 92)).alloc (.cells #[.int .i64 f0, .int .i64 f1, .slice f2 f3 f4, .slice f5 f6 f7] 92) = W5 := ⟨_, rfl⟩
        have hb5 : Below wr.heap.size wr W5 := by rw [← hW5]; exact ((Below.refl _ _).alloc (Nat.le_refl _) _).alloc (by simp) _
        have HC := Lib.hid (eqVa_any ks[k] js[k] W5 _ _ (hr.keep hb5) (hr'.keep hb5) hsz)
        have HW5 := Lib.hid hW5
        have HB5 := Lib.hid (HB.out.trans (hb5.mono HB.out.size))
        have HS := Lib.hid (fun hf => pairsTo_more HTO.out hlt hlt2 hf)
        have HN : Hid (sameVa ks[k] js[k] = false → (eqVasB ks js) = false) := Lib.hid (fun hf => by rw [HE.out]; exact pairs_no hlt hlt2 hf)
        obtain ⟨v, hv⟩ : ∃ v, sameVa ks[k] js[k] = v := ⟨_, rfl⟩
        rw [hv] at HS HN HC
        have hbA : Below wr.heap.size wr (wr.alloc (.cells #[.int .i64 e0, .int .i64 e1, .slice e2 e3 e4, .slice e5 e6 e7] 92)) := (Below.refl _ _).alloc (Nat.le_refl _) _
        have s0 := (hbA.cell (World.block_lt_of_cell? wr _ q0')).trans q0'
        have s1 := (hbA.cell (World.block_lt_of_cell? wr _ q1')).trans q1'
        have s2 := (hbA.cell (World.block_lt_of_cell? wr _ q2')).trans q2'
        have s3 := (hbA.cell (World.block_lt_of_cell? wr _ q3')).trans q3'

        clear hr hr' hb hb5 hW5 hv hlt2 hbA q0' q1' q2' q3' hsz
        go_wp2_with fail
        rw [HW5.out]
        refine HC.out.mono ?_
        rintro e w6 ⟨rfl, hb6⟩
        have HB6 := Lib.hid (HB5.out.trans (hb6.mono HB5.out.size))
        clear hb6 HC
        cases v with
        | false =>
          have HF : Hid (Truth (eqVasB ks js) w (.returned (.bool false)) w6) := by rw [HN.out rfl]; exact ⟨rfl, HB6.out⟩
          go_wp2_with fail
          go_ret
          exact HF.out
        | true =>
          have HT := Lib.hid (HS.out rfl)
          clear HS HN
          go_wp2_with fail
          go_roundw
          case rel => exact ⟨k + 1, hlt, by go_num, HT.out, HB6.out⟩
          case measure => simp [intOf]; omega
      · have he : k = ks.length := by omega
        have HF : Hid (Truth (eqVasB ks js) w (.returned (.bool true)) wr) := by
          rw [HE.out, pairsTo_all (by rw [← he]; exact HTO.out)]
          exact ⟨rfl, HB.out⟩
        clear he hb
        go_wp2_with fail
        go_ret
        exact HF.out
  · have HF : Hid (Truth (eqVasB ks js) w (.returned (.bool false)) w) := Lib.hid ⟨by unfold eqVasB; rw [decide_eq_false hlen]; rfl, Below.refl _ _⟩
    have hne : ((ks.length : Int) == (js.length : Int)) = false := by
      have : (ks.length : Int) ≠ (js.length : Int) := by omega
      exact beq_eq_false_iff_ne.2 this
    obtain ⟨eb, heb⟩ : ∃ eb, (eqVasB ks js) = eb := ⟨_, rfl⟩
    rw [heb] at HF ⊢
    generalize ks.length = n1 at hne hl ⊢
    generalize js.length = n2 at hne ⊢
    clear hlen h h' heb hw
    go_enter Try.func96, Try.ntmps96
    go_wp2_with fail
    go_ret
    exact HF.out

set_option maxRecDepth 100000 in
set_option maxHeartbeats 3200000 in
theorem eqData_any (x y : Dd) (w : World) (cs ds : List Value) (h : kDd.R w x cs) (h' : kDd.R w y ds) (hw : wL wv x.2 ≤ 1048576) : Calls Try.prog 73 #[.agg cs.toArray, .agg ds.toArray] w (Truth (sameDd x y) w) := by
  obtain ⟨TA, ta, td, rfl, hs, hy⟩ := kDd_open h
  obtain ⟨TA', ta', td', rfl, hs', hy'⟩ := kDd_open h'
  obtain ⟨rfl, hl, _, hp⟩ := kVas_slice hy
  obtain ⟨rfl, hl', _, hp'⟩ := kVas_slice hy'
  obtain ⟨W1, hW1⟩ : ∃ W1, (w.alloc (.cells #[.string x.1, .slice TA x.2.length td] 86)).alloc (.cells #[.string y.1, .slice TA' y.2.length td'] 86) = W1 := ⟨_, rfl⟩
  obtain ⟨H, hH⟩ : ∃ H, w.heap.size = H := ⟨_, rfl⟩
  have hb1 : Below w.heap.size w W1 := by rw [← hW1]; exact ((Below.refl _ _).alloc (Nat.le_refl _) _).alloc (by simp) _
  have b0 : Box2 W1 H 86 (.string x.1) (.slice TA x.2.length td) := by rw [← hW1, ← hH]; exact (Box2.new w _ _ _).alloc _
  have b1 : Box2 W1 (H + 1) 86 (.string y.1) (.slice TA' y.2.length td') := by
    rw [← hW1, ← hH]
    have := Box2.new (w.alloc (.cells #[.string x.1, .slice TA x.2.length td] 86)) 86 (.string y.1) (.slice TA' y.2.length td')
    simpa using this
  have HC := Lib.hid (eqFuncVa_any x.2 y.2 W1 TA TA' td td' (hp.keep hb1) (hp'.keep hb1) hl hw)
  have HB1 := Lib.hid hb1
  have HW1 := Lib.hid hW1
  have HT : Hid (∀ b W, b = (decide (x.1 = y.1) && eqVasB x.2 y.2) → Below w.heap.size w W → Truth (sameDd x y) w (.returned (.bool b)) W) := Lib.hid (fun b W hb hB => ⟨by rw [hb]; rfl, hB⟩)
  have x0 := b0.c0
  have x1 := b0.c1
  have y0 := b1.c0
  have y1 := b1.c1
  generalize x.1 = nm at *
  generalize y.1 = nm' at *
  generalize eqVasB x.2 y.2 = sm at *
  generalize x.2.length = n1 at *
  generalize y.2.length = n2 at *
  clear h h' hs hs' hy hy' hp hp' b0 b1 hW1 hb1 hw
  by_cases hn : nm = nm'
  · subst hn
    have HF := Lib.hid (fun W hB => HT.out sm W (by simp) hB)
    clear HT
    go_enter Try.func73, Try.ntmps73
    go_wp2_with fail
    rw [HW1.out]
    go_wp2_with fail
    refine HC.out.mono ?_
    rintro e w2 ⟨rfl, hb2⟩
    have HB2 := Lib.hid (HB1.out.trans (hb2.mono HB1.out.size))
    clear hb2 x0 x1 y0 y1
    go_wp2_with fail
    go_ret
    exact HF.out _ HB2.out
  · have HF := Lib.hid (HT.out false W1 (by rw [decide_eq_false hn]; rfl) HB1.out)
    have f1 := str_neS hn
    clear hn HT HC
    go_enter Try.func73, Try.ntmps73
    go_wp2_with fail
    rw [HW1.out]
    go_wp2_with fail
    go_ret
    exact HF.out

set_option maxRecDepth 100000 in
set_option maxHeartbeats 3200000 in
theorem eqFuncDd_any (ks : Db) (js : Db) (w : World) (A B : Option Addr) (c d : Nat) (h : RL kDd w A ks) (h' : RL kDd w B js) (hl : ks.length ≤ 9223372036854775807) (hw : wDb ks ≤ 1048576) :
    Calls Try.prog 72 #[.slice A ks.length c, .slice B js.length d, .func (.func 73) #[] #[]] w (Truth (eqDbB ks js) w) := by
  by_cases hlen : ks.length = js.length
  · have HP := Lib.hid h
    have HQ := Lib.hid h'
    have HL := Lib.hid hlen
    have HHW := Lib.hid hw
    have HE : Hid ((eqDbB ks js) = allPairs sameDd ks js) := Lib.hid (by unfold eqDbB; rw [decide_eq_true hlen]; rfl)
    rw [← hlen]
    clear h h' hlen hw
    go_enter Try.func72, Try.ntmps72
    go_wp2_with fail
    go_loopw [17] (fun i wr => ∃ k : Nat, k ≤ ks.length ∧ i = .int .i64 k ∧ PairsTo sameDd ks js k ∧ Below w.heap.size w wr) (fun i _ => ks.length - (intOf i).toNat)
    case atStart => exact ⟨0, Nat.zero_le _, rfl, pairsTo_zero _ _ _, Below.refl _ _⟩
    case round =>
      obtain ⟨k, hk, rfl, hto, hb⟩ := hrel
      have HTO := Lib.hid hto
      have HB := Lib.hid hb
      clear hto
      by_cases hlt : k < ks.length
      · have hlt2 : k < js.length := by have := HL.out; omega
        obtain ⟨ad, p, c0, c1, rfl, hpe, hr, q0, q1⟩ := rl_at2 kDd_n HP.out hb hlt
        obtain ⟨bd, p', d0, d1, rfl, hpe', hr', q0', q1'⟩ := rl_at2 kDd_n HQ.out hb hlt2
        obtain ⟨TA, ta, td, hcs, hs, hy⟩ := kDd_open hr
        simp only [List.cons.injEq, and_true] at hcs
        obtain ⟨rfl, rfl⟩ := hcs
        obtain ⟨TA', ta', td', hcs', hs', hy'⟩ := kDd_open hr'
        simp only [List.cons.injEq, and_true] at hcs'
        obtain ⟨rfl, rfl⟩ := hcs'
        obtain ⟨_, hwt, _⟩ := dd_bounds hlt HHW.out
        obtain ⟨W5, hW5⟩ : ∃ W5, (wr.alloc (.cells #[.string ks[k].1, .slice TA ta td] 86)).alloc (.cells #[.string js[k].1, .slice TA' ta' td'] 86) = W5 := ⟨_, rfl⟩
        have hb5 : Below wr.heap.size wr W5 := by rw [← hW5]; exact ((Below.refl _ _).alloc (Nat.le_refl _) _).alloc (by simp) _
        have HC := Lib.hid (eqData_any ks[k] js[k] W5 _ _ (kDd.keep hr hb5) (kDd.keep hr' hb5) hwt)
        have HW5 := Lib.hid hW5
        have HB5 := Lib.hid (HB.out.trans (hb5.mono HB.out.size))
        have HS := Lib.hid (fun hf => pairsTo_more HTO.out hlt hlt2 hf)
        have HN : Hid (sameDd ks[k] js[k] = false → (eqDbB ks js) = false) := Lib.hid (fun hf => by rw [HE.out]; exact pairs_no hlt hlt2 hf)
        obtain ⟨v, hv⟩ : ∃ v, sameDd ks[k] js[k] = v := ⟨_, rfl⟩
        rw [hv] at HS HN HC
        have hbA : Below wr.heap.size wr (wr.alloc (.cells #[.string ks[k].1, .slice TA ta td] 86)) := (Below.refl _ _).alloc (Nat.le_refl _) _
        have s0 := (hbA.cell (World.block_lt_of_cell? wr _ q0')).trans q0'
        have s1 := (hbA.cell (World.block_lt_of_cell? wr _ q1')).trans q1'
        generalize ks[k].1 = nm at *
        generalize js[k].1 = nm' at *
        clear hr hr' hb hb5 hW5 hv hlt2 hbA q0' q1' hs hs' hy hy' hwt
        go_wp2_with fail
        rw [HW5.out]
        refine HC.out.mono ?_
        rintro e w6 ⟨rfl, hb6⟩
        have HB6 := Lib.hid (HB5.out.trans (hb6.mono HB5.out.size))
        clear hb6 HC
        cases v with
        | false =>
          have HF : Hid (Truth (eqDbB ks js) w (.returned (.bool false)) w6) := by rw [HN.out rfl]; exact ⟨rfl, HB6.out⟩
          go_wp2_with fail
          go_ret
          exact HF.out
        | true =>
          have HT := Lib.hid (HS.out rfl)
          clear HS HN
          go_wp2_with fail
          go_roundw
          case rel => exact ⟨k + 1, hlt, by go_num, HT.out, HB6.out⟩
          case measure => simp [intOf]; omega
      · have he : k = ks.length := by omega
        have HF : Hid (Truth (eqDbB ks js) w (.returned (.bool true)) wr) := by
          rw [HE.out, pairsTo_all (by rw [← he]; exact HTO.out)]
          exact ⟨rfl, HB.out⟩
        clear he hb
        go_wp2_with fail
        go_ret
        exact HF.out
  · have HF : Hid (Truth (eqDbB ks js) w (.returned (.bool false)) w) := Lib.hid ⟨by unfold eqDbB; rw [decide_eq_false hlen]; rfl, Below.refl _ _⟩
    have hne : ((ks.length : Int) == (js.length : Int)) = false := by
      have : (ks.length : Int) ≠ (js.length : Int) := by omega
      exact beq_eq_false_iff_ne.2 this
    obtain ⟨eb, heb⟩ : ∃ eb, (eqDbB ks js) = eb := ⟨_, rfl⟩
    rw [heb] at HF ⊢
    generalize ks.length = n1 at hne hl ⊢
    generalize js.length = n2 at hne ⊢
    clear hlen h h' heb hw
    go_enter Try.func72, Try.ntmps72
    go_wp2_with fail
    go_ret
    exact HF.out

set_option maxRecDepth 100000 in
set_option maxHeartbeats 1600000 in
theorem implEqDb_any (t s : Db) (w : World) (cs ds : List Value) (h : RDb w t cs) (h' : RDb w s ds) (hw : wDb t ≤ 1048576) : Calls Try.prog 35 #[.agg cs.toArray, .agg ds.toArray] w (Truth (eqDbB t s) w) := by
  obtain ⟨A, c, rfl, hl, _, hp⟩ := h.open
  obtain ⟨B, d, rfl, _, _, hp'⟩ := h'.open
  obtain ⟨W1, hW1⟩ : ∃ W1, (w.alloc (.cells #[.slice A t.length c] 51)).alloc (.cells #[.slice B s.length d] 51) = W1 := ⟨_, rfl⟩
  obtain ⟨H, hH⟩ : ∃ H, w.heap.size = H := ⟨_, rfl⟩
  have b0 : Box1 W1 H 51 (.slice A t.length c) := by rw [← hW1, ← hH]; exact (Box1.new w _ _).alloc _
  have b1 : Box1 W1 (H + 1) 51 (.slice B s.length d) := by
    rw [← hW1, ← hH]
    have := Box1.new (w.alloc (.cells #[.slice A t.length c] 51)) 51 (.slice B s.length d)
    simpa using this
  have hb1 : Below w.heap.size w W1 := by rw [← hW1]; exact ((Below.refl _ _).alloc (Nat.le_refl _) _).alloc (by simp) _
  have HC := Lib.hid (eqFuncDd_any t s W1 A B c d (hp.keep hb1) (hp'.keep hb1) hl hw)
  have HW1 := Lib.hid hW1
  have HB1 := Lib.hid hb1
  have x0 := b0.c0
  have y0 := b1.c0
  generalize eqDbB t s = eb at HC ⊢
  generalize t.length = n at *
  generalize s.length = m at *
  clear h h' hp hp' hl hW1 b0 b1 hb1 hw
  go_enter Try.func35, Try.ntmps35
  go_wp2_with fail
  rw [HW1.out]
  go_wp2_with fail
  refine HC.out.mono ?_
  rintro e w2 ⟨rfl, hb2⟩
  have HR : Hid (Truth eb w (.returned (.bool eb)) w2) := ⟨rfl, HB1.out.trans (hb2.mono HB1.out.size)⟩
  clear hb2
  go_wp2_with fail
  go_ret
  exact HR.out
end Go.Proofs.Ytlcpekpgkllbkaa
