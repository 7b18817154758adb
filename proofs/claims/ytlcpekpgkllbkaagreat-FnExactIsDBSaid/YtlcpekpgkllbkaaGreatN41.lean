/-
  Merged by program: IsdI.
-/
import Derived.Test.YtlcpekpgkllbkaaGreatN20
import Derived.Test.YtlcpekpgkllbkaaGreatN13
import Derived.Test.YtlcpekpgkllbkaaGreatN10
import Derived.Test.YtlcpekpgkllbkaaGreatN8
import Derived.Test.YtlcpekpgkllbkaaGreatN7
import Derived.Test.YtlcpekpgkllbkaaGreatN37
import Derived.Test.YtlcpekpgkllbkaaGreatN40

/-
  The program's IsDB. Written by wip/tools/mkisd.py.
-/
namespace Go.Proofs.YtlcpekpgkllbkaaGreat
open Go.RowKit

theorem isd_dd {t : Db} {k : Nat} (hk : k < t.length) (hw : wDb t ≤ 1048576) : t[k].1.size ≤ 1048576 ∧ wL wv t[k].2 ≤ 1048576 ∧ t.length ≤ 1048576 := by
  have h := wL_le (f := wDd) hk hw
  have h1 : wDd t[k] = t[k].1.size + (wL wv) t[k].2 := rfl
  omega
theorem isd_va {ts : List Va} (hw : wL wv ts ≤ 1048576) : ts.length ≤ 1048576 ∧ ∀ x ∈ ts, x.size ≤ 1048577 := by
  refine ⟨by unfold wL at hw; omega, fun x hx => ?_⟩
  obtain ⟨j, hj, rfl⟩ := List.getElem_of_mem hx
  have h := wL_le (f := wv) hj hw
  have h1 := size_wv ts[j]
  omega

set_option maxRecDepth 100000 in
set_option maxHeartbeats 1600000 in
/-- the closure, over a variable at block P that holds the declaration -/
theorem dataOf1_any (x : Va) (ty : Ty) (w : World) (P : Nat) (nm : ByteArray) (d0 d1 d2 : Value) (cs : List Value) (h : RVa w x cs) (h' : kTy.R w ty [d0, d1, d2]) (hbx : Box4 w P 103 (.string nm) d0 d1 d2) (hs : x.size ≤ 1048577) (hw : wt ty ≤ 1048576) :
    Calls Tryz.prog 115 #[.agg cs.toArray, .pointer (some ⟨P, 0, none⟩)] w (Truth (hasV x ty) w) := by
  obtain ⟨c0, c1, c2, c3, rfl⟩ := h.four
  obtain ⟨tk, TL, TA, tl, tc, ta, td, he⟩ := kTy_shape h'
  simp only [List.cons.injEq, and_true] at he
  obtain ⟨rfl, rfl, rfl⟩ := he
  obtain ⟨W1, hW1⟩ : ∃ W1, w.alloc (.cells #[c0, c1, c2, c3] 33) = W1 := ⟨_, rfl⟩
  obtain ⟨H, hH⟩ : ∃ H, w.heap.size = H := ⟨_, rfl⟩
  have hb1 : Below w.heap.size w W1 := by rw [← hW1]; exact (Below.refl _ _).alloc (Nat.le_refl _) _
  have b0 : Box4 W1 H 33 c0 c1 c2 c3 := by rw [← hW1, ← hH]; exact Box4.new w _ _ _ _ _
  have bp := hbx.alloc (.cells #[c0, c1, c2, c3] 33)
  have HC := Lib.hid (implHas_any x ty W1 _ _ (h.keep hb1) (kTy.keep h' hb1) hs hw)
  have HB1 := Lib.hid hb1
  have HW1 := Lib.hid hW1
  have x0 := b0.c0
  have x1 := b0.c1
  have x2 := b0.c2
  have x3 := b0.c3
  have y1 := bp.c1
  have y2 := bp.c2
  have y3 := bp.c3
  generalize hasV x ty = r at HC ⊢
  clear h h' hb1 b0 bp hbx hW1 hs hw
  go_enter Tryz.func115, Tryz.ntmps115
  go_wp2_with fail
  rw [HW1.out]
  go_wp2_with fail
  refine HC.out.mono ?_
  rintro e w2 ⟨rfl, hb2⟩
  have HR : Hid (Truth r w (.returned (.bool r)) w2) := Lib.hid ⟨rfl, HB1.out.trans (hb2.mono HB1.out.size)⟩
  clear hb2
  go_wp2_with fail
  go_ret
  exact HR.out

set_option maxRecDepth 100000 in
set_option maxHeartbeats 1600000 in
theorem everyRow_any (ks : List Va) (ty : Ty) (w : World) (P : Nat) (nm : ByteArray) (d0 d1 d2 : Value) (A : Option Addr) (c : Nat) (h : RVas w A ks) (h' : kTy.R w ty [d0, d1, d2]) (hbx : Box4 w P 103 (.string nm) d0 d1 d2) (hl : ks.length ≤ 9223372036854775807) (hs : ∀ x ∈ ks, x.size ≤ 1048577) (hw : wt ty ≤ 1048576) :
    Calls Tryz.prog 117 #[.slice A ks.length c, .func (.func 115) #[] #[.pointer (some ⟨P, 0, none⟩)]] w (Truth (ks.all fun x => hasV x ty) w) := by
  obtain ⟨N, hN⟩ : ∃ N, (ks.all fun x => hasV x ty) = N := ⟨_, rfl⟩
  have HP := Lib.hid h
  have HQ := Lib.hid h'
  have HX := Lib.hid hbx
  have HS := Lib.hid hs
  have HWT := Lib.hid hw
  have HREST : Hid (N = ks.all fun x => hasV x ty) := hN.symm
  rw [hN]
  clear h h' hN hbx hs hw
  go_enter Tryz.func117, Tryz.ntmps117
  go_wp2_with fail
  go_loopw [9] (fun i wr => ∃ k : Nat, k ≤ ks.length ∧ i = .int .i64 k ∧ N = (ks.drop k).all (fun x => hasV x ty) ∧ Below w.heap.size w wr) (fun i _ => ks.length - (intOf i).toNat)
  case atStart => exact ⟨0, Nat.zero_le _, rfl, HREST.out, Below.refl _ _⟩
  case round =>
    obtain ⟨k, hk, rfl, hno, hb⟩ := hrel
    by_cases hlt : k < ks.length
    · obtain ⟨ad, p, c0, c1, c2, c3, rfl, hpe, hr, q0, q1, q2, q3⟩ := vid_at HP.out hb hlt
      obtain ⟨e0, e1, e2, e3, e4, e5, e6, e7, rfl, rfl, rfl, rfl⟩ := hr.shape
      obtain ⟨W5, hW5⟩ : ∃ W5, wr.alloc (.cells #[.int .i64 e0, .int .i64 e1, .slice e2 e3 e4, .slice e5 e6 e7] 33) = W5 := ⟨_, rfl⟩
      have hb5 : Below wr.heap.size wr W5 := by rw [← hW5]; exact (Below.refl _ _).alloc (Nat.le_refl _) _
      have hbb := hb.trans (hb5.mono hb.size)
      have hx5 := Box4.new wr 33 (.int .i64 e0) (.int .i64 e1) (.slice e2 e3 e4) (.slice e5 e6 e7)
      rw [hW5] at hx5
      have HC := Lib.hid (dataOf1_any ks[k] ty W5 P nm d0 d1 d2 _ (hr.keep hb5) (kTy.keep HQ.out hbb) (HX.out.under hbb HX.out.lt) (HS.out _ (List.getElem_mem hlt)) HWT.out)
      have HW5 := Lib.hid hW5
      have HB5 := Lib.hid hbb
      have HNO : Hid (N = (hasV ks[k] ty && (ks.drop (k + 1)).all (fun x => hasV x ty))) := by
        show _ = _
        rw [hno, List.drop_eq_getElem_cons hlt, List.all_cons]
      obtain ⟨v, hv⟩ : ∃ v, hasV ks[k] ty = v := ⟨_, rfl⟩
      rw [hv] at HNO HC
      have y0 := hx5.c0
      have y1 := hx5.c1
      have y2 := hx5.c2
      have y3 := hx5.c3
      clear hr hb5 hbb hW5 hv hno hb hx5
      go_wp2_with fail
      rw [HW5.out]
      go_wp2_with fail
      refine HC.out.mono ?_
      rintro e w6 ⟨rfl, hb6⟩
      have HB6 := Lib.hid (HB5.out.trans (hb6.mono HB5.out.size))
      clear hb6 HC y0 y1 y2 y3
      cases v with
      | false =>
        have HF : Hid (Truth N w (.returned (.bool false)) w6) := Lib.hid ⟨by rw [HNO.out]; rfl, HB6.out⟩
        go_wp2_with fail
        go_ret
        exact HF.out
      | true =>
        have HT : Hid (N = (ks.drop (k + 1)).all (fun x => hasV x ty)) := by show _ = _; rw [HNO.out]; rfl
        clear HNO
        go_wp2_with fail
        go_roundw
        case rel => exact ⟨k + 1, hlt, by go_num, HT.out, HB6.out⟩
        case measure => simp [intOf]; omega
    · have he : k = ks.length := by omega
      have HF : Hid (Truth N w (.returned (.bool true)) wr) := Lib.hid ⟨by rw [hno, List.drop_eq_nil_of_le (by omega)]; rfl, hb⟩
      clear he hno hb
      go_wp2_with fail
      go_ret
      exact HF.out

set_option maxRecDepth 100000 in
set_option maxHeartbeats 3200000 in
theorem isData_any (x : Dc) (y : Dd) (w : World) (cs ds : List Value) (h : kDc.R w x cs) (h' : kDd.R w y ds) (hw : wt x.2 ≤ 1048576) (hvs : ∀ v ∈ y.2, v.size ≤ 1048577) : Calls Tryz.prog 61 #[.agg cs.toArray, .agg ds.toArray] w (Truth (tdataB x y) w) := by
  obtain ⟨tk, TL, TA, tl, tc, ta, td, rfl, hs, hy⟩ := kDc_open h
  obtain ⟨TA', ta', td', rfl, hs', hy'⟩ := kDd_open h'
  obtain ⟨rfl, hl', _, hp'⟩ := kVas_slice hy'
  obtain ⟨W1, hW1⟩ : ∃ W1, (w.alloc (.cells #[.string x.1, .int .i64 tk, .slice TL tl tc, .slice TA ta td] 103)).alloc (.cells #[.string y.1, .slice TA' y.2.length td'] 92) = W1 := ⟨_, rfl⟩
  obtain ⟨H, hH⟩ : ∃ H, w.heap.size = H := ⟨_, rfl⟩
  have hb1 : Below w.heap.size w W1 := by rw [← hW1]; exact ((Below.refl _ _).alloc (Nat.le_refl _) _).alloc (by simp) _
  have b0 : Box4 W1 H 103 (.string x.1) (.int .i64 tk) (.slice TL tl tc) (.slice TA ta td) := by rw [← hW1, ← hH]; exact (Box4.new w _ _ _ _ _).alloc _
  have b1 : Box2 W1 (H + 1) 92 (.string y.1) (.slice TA' y.2.length td') := by
    rw [← hW1, ← hH]
    have := Box2.new (w.alloc (.cells #[.string x.1, .int .i64 tk, .slice TL tl tc, .slice TA ta td] 103)) 92 (.string y.1) (.slice TA' y.2.length td')
    simpa using this
  have HC := Lib.hid (everyRow_any y.2 x.2 W1 H x.1 _ _ _ TA' td' (hp'.keep hb1) (kTy.keep hy hb1) b0 hl' hvs hw)
  have HB1 := Lib.hid hb1
  have HW1 := Lib.hid hW1
  have HT : Hid (∀ b W, b = (decide (y.1 = x.1) && (decide (y.2.length ≤ 8) && y.2.all fun v => hasV v x.2)) → Below w.heap.size w W → Truth (tdataB x y) w (.returned (.bool b)) W) := Lib.hid (fun b W hb hB => ⟨by rw [hb]; rfl, hB⟩)
  have x0 := b0.c0
  have y0 := b1.c0
  have y1 := b1.c1
  generalize (y.2.all fun v => hasV v x.2) = al at *
  generalize x.1 = nm at *
  generalize y.1 = nm' at *
  generalize y.2.length = n at *
  clear h h' hs hs' hy hy' hp' b0 b1 hW1 hb1 hw hvs hl'
  by_cases hn : nm' = nm
  rotate_left
  · have HF := Lib.hid (HT.out false W1 (by rw [decide_eq_false hn]; rfl) HB1.out)
    have f1 := str_neS hn
    clear hn HT HC
    go_enter Tryz.func61, Tryz.ntmps61
    go_wp2_with fail
    rw [HW1.out]
    go_wp2_with fail
    go_ret
    exact HF.out
  subst hn
  by_cases h8 : (n : Int) ≤ 8
  rotate_left
  · have HF := Lib.hid (HT.out false W1 (by have h9 : ¬ n ≤ 8 := (by omega); simp [h9]) HB1.out)
    clear HT HC
    go_enter Tryz.func61, Tryz.ntmps61
    go_wp2_with fail
    rw [HW1.out]
    go_wp2_with fail
    go_ret
    exact HF.out
  have HF := Lib.hid (fun W hB => HT.out al W (by have h9 : n ≤ 8 := (by omega); simp [h9]) hB)
  clear HT
  go_enter Tryz.func61, Tryz.ntmps61
  go_wp2_with fail
  rw [HW1.out]
  go_wp2_with fail
  refine HC.out.mono ?_
  rintro e w2 ⟨rfl, hb2⟩
  have HB2 := Lib.hid (HB1.out.trans (hb2.mono HB1.out.size))
  clear hb2
  go_wp2_with fail
  go_ret
  exact HF.out _ HB2.out

noncomputable def eqCdB (ks : Sc) (js : Db) : Bool := decide (ks.length = js.length) && allPairs tdataB ks js

set_option maxRecDepth 100000 in
set_option maxHeartbeats 3200000 in
theorem eqFuncCd_any (ks : Sc) (js : Db) (w : World) (A B : Option Addr) (c d : Nat) (h : RL kDc w A ks) (h' : RL kDd w B js) (hl : ks.length ≤ 9223372036854775807) (hw : wSc ks ≤ 1048576) (hv : ∀ d ∈ js, ∀ v ∈ d.2, v.size ≤ 1048577) :
    Calls Tryz.prog 60 #[.slice A ks.length c, .slice B js.length d, .func (.func 61) #[] #[]] w (Truth (eqCdB ks js) w) := by
  by_cases hlen : ks.length = js.length
  · have HP := Lib.hid h
    have HQ := Lib.hid h'
    have HL := Lib.hid hlen
    have HHW := Lib.hid hw
    have HHV := Lib.hid hv
    have HE : Hid ((eqCdB ks js) = allPairs tdataB ks js) := Lib.hid (by unfold eqCdB; rw [decide_eq_true hlen]; rfl)
    rw [← hlen]
    clear h h' hlen hw hv
    go_enter Tryz.func60, Tryz.ntmps60
    go_wp2_with fail
    go_loopw [17] (fun i wr => ∃ k : Nat, k ≤ ks.length ∧ i = .int .i64 k ∧ PairsTo tdataB ks js k ∧ Below w.heap.size w wr) (fun i _ => ks.length - (intOf i).toNat)
    case atStart => exact ⟨0, Nat.zero_le _, rfl, pairsTo_zero _ _ _, Below.refl _ _⟩
    case round =>
      obtain ⟨k, hk, rfl, hto, hb⟩ := hrel
      have HTO := Lib.hid hto
      have HB := Lib.hid hb
      clear hto
      by_cases hlt : k < ks.length
      · have hlt2 : k < js.length := by have := HL.out; omega
        obtain ⟨ad, p, c0, c1, c2, c3, rfl, hpe, hr, q0, q1, q2, q3⟩ := rl_at4 kDc_n HP.out hb hlt
        obtain ⟨bd, p', d0, d1, rfl, hpe', hr', q0', q1'⟩ := rl_at2 kDd_n HQ.out hb hlt2
        obtain ⟨tk, TL, TA0, tl, tc, ta0, td0, hcs0, hs0, hy0⟩ := kDc_open hr
        simp only [List.cons.injEq, and_true] at hcs0
        obtain ⟨rfl, rfl, rfl, rfl⟩ := hcs0
        obtain ⟨TA', ta', td', hcs', hs', hy'⟩ := kDd_open hr'
        simp only [List.cons.injEq, and_true] at hcs'
        obtain ⟨rfl, rfl⟩ := hcs'
        obtain ⟨_, hwt, _⟩ := dnm_bounds hlt HHW.out
        have hwv := HHV.out _ (List.getElem_mem hlt2)
        obtain ⟨W5, hW5⟩ : ∃ W5, (wr.alloc (.cells #[.string ks[k].1, .int .i64 tk, .slice TL tl tc, .slice TA0 ta0 td0] 103)).alloc (.cells #[.string js[k].1, .slice TA' ta' td'] 92) = W5 := ⟨_, rfl⟩
        have hb5 : Below wr.heap.size wr W5 := by rw [← hW5]; exact ((Below.refl _ _).alloc (Nat.le_refl _) _).alloc (by simp) _
        have HC := Lib.hid (isData_any ks[k] js[k] W5 _ _ (kDc.keep hr hb5) (kDd.keep hr' hb5) hwt hwv)
        have HW5 := Lib.hid hW5
        have HB5 := Lib.hid (HB.out.trans (hb5.mono HB.out.size))
        have HS := Lib.hid (fun hf => pairsTo_more HTO.out hlt hlt2 hf)
        have HN : Hid (tdataB ks[k] js[k] = false → (eqCdB ks js) = false) := Lib.hid (fun hf => by rw [HE.out]; exact pairs_no hlt hlt2 hf)
        obtain ⟨v, hv⟩ : ∃ v, tdataB ks[k] js[k] = v := ⟨_, rfl⟩
        rw [hv] at HS HN HC
        have hbA : Below wr.heap.size wr (wr.alloc (.cells #[.string ks[k].1, .int .i64 tk, .slice TL tl tc, .slice TA0 ta0 td0] 103)) := (Below.refl _ _).alloc (Nat.le_refl _) _
        have s0 := (hbA.cell (World.block_lt_of_cell? wr _ q0')).trans q0'
        have s1 := (hbA.cell (World.block_lt_of_cell? wr _ q1')).trans q1'
        generalize ks[k].1 = nm at *
        generalize js[k].1 = nm' at *
        clear hr hr' hb hb5 hW5 hv hlt2 hbA q0' q1' hs0 hs' hy0 hy' hwt hwv
        go_wp2_with fail
        rw [HW5.out]
        refine HC.out.mono ?_
        rintro e w6 ⟨rfl, hb6⟩
        have HB6 := Lib.hid (HB5.out.trans (hb6.mono HB5.out.size))
        clear hb6 HC
        cases v with
        | false =>
          have HF : Hid (Truth (eqCdB ks js) w (.returned (.bool false)) w6) := by rw [HN.out rfl]; exact ⟨rfl, HB6.out⟩
          go_wp2_with fail
          go_ret
          exact HF.out
        | true =>
          have HT := Lib.hid (HS.out rfl)
          clear HS HN
          go_wp2_with fail
          go_roundw
          case rel => exact ⟨k + 1, hlt, by go_num, HT.out, HB6.out⟩
          case measure => simp [intOf]; omega
      · have he : k = ks.length := by omega
        have HF : Hid (Truth (eqCdB ks js) w (.returned (.bool true)) wr) := by
          rw [HE.out, pairsTo_all (by rw [← he]; exact HTO.out)]
          exact ⟨rfl, HB.out⟩
        clear he hb
        go_wp2_with fail
        go_ret
        exact HF.out
  · have HF : Hid (Truth (eqCdB ks js) w (.returned (.bool false)) w) := Lib.hid ⟨by unfold eqCdB; rw [decide_eq_false hlen]; rfl, Below.refl _ _⟩
    have hne : ((ks.length : Int) == (js.length : Int)) = false := by
      have : (ks.length : Int) ≠ (js.length : Int) := by omega
      exact beq_eq_false_iff_ne.2 this
    obtain ⟨eb, heb⟩ : ∃ eb, (eqCdB ks js) = eb := ⟨_, rfl⟩
    rw [heb] at HF ⊢
    generalize ks.length = n1 at hne hl ⊢
    generalize js.length = n2 at hne ⊢
    clear hlen h h' heb hw hv
    go_enter Tryz.func60, Tryz.ntmps60
    go_wp2_with fail
    go_ret
    exact HF.out

set_option maxRecDepth 100000 in
set_option maxHeartbeats 3200000 in
theorem implIsDbG_any (t : Sc) (s : Db) (w : World) (cs ds : List Value) (h : RSc w t cs) (h' : RDb w s ds) (hw : wSc t ≤ 1048576) (hv : ∀ d ∈ s, ∀ v ∈ d.2, v.size ≤ 1048577) : Calls Tryz.prog 14 #[.agg cs.toArray, .agg ds.toArray] w (Truth (dbB t s) w) := by
  obtain ⟨A, c, rfl, hl, _, hp⟩ := h.open
  obtain ⟨B, d, rfl, _, _, hp'⟩ := h'.open
  obtain ⟨W1, hW1⟩ : ∃ W1, (w.alloc (.cells #[.slice A t.length c] 26)).alloc (.cells #[.slice B s.length d] 29) = W1 := ⟨_, rfl⟩
  obtain ⟨H, hH⟩ : ∃ H, w.heap.size = H := ⟨_, rfl⟩
  have b0 : Box1 W1 H 26 (.slice A t.length c) := by rw [← hW1, ← hH]; exact (Box1.new w _ _).alloc _
  have b1 : Box1 W1 (H + 1) 29 (.slice B s.length d) := by
    rw [← hW1, ← hH]
    have := Box1.new (w.alloc (.cells #[.slice A t.length c] 26)) 29 (.slice B s.length d)
    simpa using this
  have hb1 : Below w.heap.size w W1 := by rw [← hW1]; exact ((Below.refl _ _).alloc (Nat.le_refl _) _).alloc (by simp) _
  have HS := Lib.hid (implSch_any t W1 _ (h.keep hb1) hw)
  have HC := Lib.hid (fun (W : World) (hB : Below w.heap.size w W) => eqFuncCd_any t s W A B c d (hp.keep hB) (hp'.keep hB) hl hw hv)
  have HT : Hid (∀ b W, b = (schB t && eqCdB t s) → Below w.heap.size w W → Truth (dbB t s) w (.returned (.bool b)) W) := Lib.hid (fun b W hb hB => ⟨by rw [hb]; rfl, hB⟩)
  have HW1 := Lib.hid hW1
  have HB1 := Lib.hid hb1
  have HX := Lib.hid b0
  have HY := Lib.hid b1
  have x0 := b0.c0
  have y0 := b1.c0
  generalize eqCdB t s = eb at HC HT
  generalize schB t = sb at HS HT
  clear h h' hp hp' hl hW1 b0 b1 hb1 hw hv
  cases sb
  · have HF := Lib.hid (fun W hB => HT.out false W (by simp) hB)
    clear HT HC
    go_enter Tryz.func14, Tryz.ntmps14
    go_wp2_with fail
    rw [HW1.out]
    go_wp2_with fail
    refine HS.out.mono ?_
    rintro e w2 ⟨rfl, hb2⟩
    have HB2 := Lib.hid (HB1.out.trans (hb2.mono HB1.out.size))
    clear hb2 x0 y0
    go_wp2_with fail
    go_ret
    exact HF.out _ HB2.out
  · have HF := Lib.hid (fun W hB => HT.out eb W (by simp) hB)
    clear HT
    go_enter Tryz.func14, Tryz.ntmps14
    go_wp2_with fail
    rw [HW1.out]
    go_wp2_with fail
    refine HS.out.mono ?_
    rintro e w2 ⟨rfl, hb2⟩
    have HB2 := Lib.hid (HB1.out.trans (hb2.mono HB1.out.size))
    have z0 := (HX.out.under hb2 HX.out.lt).c0
    have z1 := (HY.out.under hb2 HY.out.lt).c0
    have HC2 := Lib.hid (HC.out w2 HB2.out)
    clear hb2 x0 y0 HC
    go_wp2_with fail
    refine HC2.out.mono ?_
    rintro e w3 ⟨rfl, hb3⟩
    have HB3 := Lib.hid (HB2.out.trans (hb3.mono HB2.out.size))
    clear hb3
    go_wp2_with fail
    go_ret
    exact HF.out _ HB3.out
theorem isd_rows {s : Db} (hv : wDb s ≤ 1048576) : ∀ d ∈ s, ∀ v ∈ d.2, v.size ≤ 1048577 := by
  intro d hd
  obtain ⟨j, hj, rfl⟩ := List.getElem_of_mem hd
  exact (isd_va (isd_dd hj hv).2.1).2
theorem implIsDb_any (t : Sc) (s : Db) (w : World) (cs ds : List Value) (h : RSc w t cs) (h' : RDb w s ds) (hw : wSc t ≤ 1048576) (hv : wDb s ≤ 1048576) : Calls Tryz.prog 14 #[.agg cs.toArray, .agg ds.toArray] w (Truth (dbB t s) w) := implIsDbG_any t s w cs ds h h' hw (isd_rows hv)
end Go.Proofs.YtlcpekpgkllbkaaGreat
