/-
  Merged by program: IsdI, CdbI, CdbV.
-/
import Derived.Test.YtlikmgkjilmjpaaGreatI19
import Derived.Test.YtlikmgkjilmjpaaGreatI11
import Derived.Test.YtlikmgkjilmjpaaGreatI9
import Derived.Test.YtlikmgkjilmjpaaGreatI6
import Derived.Test.YtlikmgkjilmjpaaGreatI5
import Derived.Test.YtlikmgkjilmjpaaGreatI40
import Derived.Test.YtlikmgkjilmjpaaGreatI41
import Derived.Test.YtlikmgkjilmjpaaGreatI27
import Derived.Test.YtlikmgkjilmjpaaGreatI16
import Derived.Test.YtlikmgkjilmjpaaGreatI33
import Derived.Test.YtlikmgkjilmjpaaGreatI32
import Derived.Deep.RegionLaw

/-
  The program's IsDB. Written by wip/tools/mkisd.py.
-/
namespace Go.Proofs.YtlikmgkjilmjpaaGreat
open Go.RowKit

theorem isd_dd {t : Db} {k : Nat} (hk : k < t.length) (hw : wDb t ≤ 1048576) : t[k].1.size ≤ 1048576 ∧ wL wv t[k].2 ≤ 1048576 ∧ t.length ≤ 1048576 := by
  have h := wL_le (f := wDd) hk hw
  have h1 : wDd t[k] = t[k].1.size + (wL wv) t[k].2 := rfl
  omega
theorem isd_va {ts : List Va} (hw : wL wv ts ≤ 1048576) : ts.length ≤ 1048576 ∧ ∀ x ∈ ts, x.size ≤ 1048577 := by
  refine ⟨by unfold wL at hw; omega, fun x hx => ?_⟩
  obtain ⟨j, hj, rfl⟩ := List.getElem_of_mem hx
  have h := wL_le (f := wv) hj hw
  have h1 := size_wv ts[j]
  omega

set_option maxRecDepth 100000 in
set_option maxHeartbeats 1600000 in
/-- the closure, over a variable at block P that holds the declaration -/
theorem dataOf1_any (x : Va) (ty : Ty) (w : World) (P : Nat) (nm : ByteArray) (d0 d1 d2 : Value) (cs : List Value) (h : RVa w x cs) (h' : kTy.R w ty [d0, d1, d2]) (hbx : Box4 w P 98 (.string nm) d0 d1 d2) (hs : x.size ≤ 1048577) (hw : wt ty ≤ 1048576) :
    Calls Tryz.prog 92 #[.agg cs.toArray, .pointer (some ⟨P, 0, none⟩)] w (Truth (hasV x ty) w) := by
  obtain ⟨c0, c1, c2, c3, rfl⟩ := h.four
  obtain ⟨tk, TL, TA, tl, tc, ta, td, he⟩ := kTy_shape h'
  simp only [List.cons.injEq, and_true] at he
  obtain ⟨rfl, rfl, rfl⟩ := he
  obtain ⟨W1, hW1⟩ : ∃ W1, w.alloc (.cells #[c0, c1, c2, c3] 47) = W1 := ⟨_, rfl⟩
  obtain ⟨H, hH⟩ : ∃ H, w.heap.size = H := ⟨_, rfl⟩
  have hb1 : Below w.heap.size w W1 := by rw [← hW1]; exact (Below.refl _ _).alloc (Nat.le_refl _) _
  have b0 : Box4 W1 H 47 c0 c1 c2 c3 := by rw [← hW1, ← hH]; exact Box4.new w _ _ _ _ _
  have bp := hbx.alloc (.cells #[c0, c1, c2, c3] 47)
  have HC := Lib.hid (implHas_any x ty W1 _ _ (h.keep hb1) (kTy.keep h' hb1) hs hw)
  have HB1 := Lib.hid hb1
  have HW1 := Lib.hid hW1
  have x0 := b0.c0
  have x1 := b0.c1
  have x2 := b0.c2
  have x3 := b0.c3
  have y1 := bp.c1
  have y2 := bp.c2
  have y3 := bp.c3
  generalize hasV x ty = r at HC ⊢
  clear h h' hb1 b0 bp hbx hW1 hs hw
  go_enter Tryz.func92, Tryz.ntmps92
  go_wp2_with fail
  rw [HW1.out]
  go_wp2_with fail
  refine HC.out.mono ?_
  rintro e w2 ⟨rfl, hb2⟩
  have HR : Hid (Truth r w (.returned (.bool r)) w2) := Lib.hid ⟨rfl, HB1.out.trans (hb2.mono HB1.out.size)⟩
  clear hb2
  go_wp2_with fail
  go_ret
  exact HR.out

set_option maxRecDepth 100000 in
set_option maxHeartbeats 1600000 in
theorem everyRow_any (ks : List Va) (ty : Ty) (w : World) (P : Nat) (nm : ByteArray) (d0 d1 d2 : Value) (A : Option Addr) (c : Nat) (h : RVas w A ks) (h' : kTy.R w ty [d0, d1, d2]) (hbx : Box4 w P 98 (.string nm) d0 d1 d2) (hl : ks.length ≤ 9223372036854775807) (hs : ∀ x ∈ ks, x.size ≤ 1048577) (hw : wt ty ≤ 1048576) :
    Calls Tryz.prog 94 #[.slice A ks.length c, .func (.func 92) #[] #[.pointer (some ⟨P, 0, none⟩)]] w (Truth (ks.all fun x => hasV x ty) w) := by
  obtain ⟨N, hN⟩ : ∃ N, (ks.all fun x => hasV x ty) = N := ⟨_, rfl⟩
  have HP := Lib.hid h
  have HQ := Lib.hid h'
  have HX := Lib.hid hbx
  have HS := Lib.hid hs
  have HWT := Lib.hid hw
  have HREST : Hid (N = ks.all fun x => hasV x ty) := hN.symm
  rw [hN]
  clear h h' hN hbx hs hw
  go_enter Tryz.func94, Tryz.ntmps94
  go_wp2_with fail
  go_loopw [9] (fun i wr => ∃ k : Nat, k ≤ ks.length ∧ i = .int .i64 k ∧ N = (ks.drop k).all (fun x => hasV x ty) ∧ Below w.heap.size w wr) (fun i _ => ks.length - (intOf i).toNat)
  case atStart => exact ⟨0, Nat.zero_le _, rfl, HREST.out, Below.refl _ _⟩
  case round =>
    obtain ⟨k, hk, rfl, hno, hb⟩ := hrel
    by_cases hlt : k < ks.length
    · obtain ⟨ad, p, c0, c1, c2, c3, rfl, hpe, hr, q0, q1, q2, q3⟩ := vid_at HP.out hb hlt
      obtain ⟨e0, e1, e2, e3, e4, e5, e6, e7, rfl, rfl, rfl, rfl⟩ := hr.shape
      obtain ⟨W5, hW5⟩ : ∃ W5, wr.alloc (.cells #[.int .i64 e0, .int .i64 e1, .slice e2 e3 e4, .slice e5 e6 e7] 47) = W5 := ⟨_, rfl⟩
      have hb5 : Below wr.heap.size wr W5 := by rw [← hW5]; exact (Below.refl _ _).alloc (Nat.le_refl _) _
      have hbb := hb.trans (hb5.mono hb.size)
      have hx5 := Box4.new wr 47 (.int .i64 e0) (.int .i64 e1) (.slice e2 e3 e4) (.slice e5 e6 e7)
      rw [hW5] at hx5
      have HC := Lib.hid (dataOf1_any ks[k] ty W5 P nm d0 d1 d2 _ (hr.keep hb5) (kTy.keep HQ.out hbb) (HX.out.under hbb HX.out.lt) (HS.out _ (List.getElem_mem hlt)) HWT.out)
      have HW5 := Lib.hid hW5
      have HB5 := Lib.hid hbb
      have HNO : Hid (N = (hasV ks[k] ty && (ks.drop (k + 1)).all (fun x => hasV x ty))) := by
        show _ = _
        rw [hno, List.drop_eq_getElem_cons hlt, List.all_cons]
      obtain ⟨v, hv⟩ : ∃ v, hasV ks[k] ty = v := ⟨_, rfl⟩
      rw [hv] at HNO HC
      have y0 := hx5.c0
      have y1 := hx5.c1
      have y2 := hx5.c2
      have y3 := hx5.c3
      clear hr hb5 hbb hW5 hv hno hb hx5
      go_wp2_with fail
      rw [HW5.out]
      go_wp2_with fail
      refine HC.out.mono ?_
      rintro e w6 ⟨rfl, hb6⟩
      have HB6 := Lib.hid (HB5.out.trans (hb6.mono HB5.out.size))
      clear hb6 HC y0 y1 y2 y3
      cases v with
      | false =>
        have HF : Hid (Truth N w (.returned (.bool false)) w6) := Lib.hid ⟨by rw [HNO.out]; rfl, HB6.out⟩
        go_wp2_with fail
        go_ret
        exact HF.out
      | true =>
        have HT : Hid (N = (ks.drop (k + 1)).all (fun x => hasV x ty)) := by show _ = _; rw [HNO.out]; rfl
        clear HNO
        go_wp2_with fail
        go_roundw
        case rel => exact ⟨k + 1, hlt, by go_num, HT.out, HB6.out⟩
        case measure => simp [intOf]; omega
    · have he : k = ks.length := by omega
      have HF : Hid (Truth N w (.returned (.bool true)) wr) := Lib.hid ⟨by rw [hno, List.drop_eq_nil_of_le (by omega)]; rfl, hb⟩
      clear he hno hb
      go_wp2_with fail
      go_ret
      exact HF.out

set_option maxRecDepth 100000 in
set_option maxHeartbeats 3200000 in
theorem isData_any (x : Dc) (y : Dd) (w : World) (cs ds : List Value) (h : kDc.R w x cs) (h' : kDd.R w y ds) (hw : wt x.2 ≤ 1048576) (hvs : ∀ v ∈ y.2, v.size ≤ 1048577) : Calls Tryz.prog 77 #[.agg cs.toArray, .agg ds.toArray] w (Truth (tdataB x y) w) := by
  obtain ⟨tk, TL, TA, tl, tc, ta, td, rfl, hs, hy⟩ := kDc_open h
  obtain ⟨TA', ta', td', rfl, hs', hy'⟩ := kDd_open h'
  obtain ⟨rfl, hl', _, hp'⟩ := kVas_slice hy'
  obtain ⟨W1, hW1⟩ : ∃ W1, (w.alloc (.cells #[.string x.1, .int .i64 tk, .slice TL tl tc, .slice TA ta td] 98)).alloc (.cells #[.string y.1, .slice TA' y.2.length td'] 66) = W1 := ⟨_, rfl⟩
  obtain ⟨H, hH⟩ : ∃ H, w.heap.size = H := ⟨_, rfl⟩
  have hb1 : Below w.heap.size w W1 := by rw [← hW1]; exact ((Below.refl _ _).alloc (Nat.le_refl _) _).alloc (by simp) _
  have b0 : Box4 W1 H 98 (.string x.1) (.int .i64 tk) (.slice TL tl tc) (.slice TA ta td) := by rw [← hW1, ← hH]; exact (Box4.new w _ _ _ _ _).alloc _
  have b1 : Box2 W1 (H + 1) 66 (.string y.1) (.slice TA' y.2.length td') := by
    rw [← hW1, ← hH]
    have := Box2.new (w.alloc (.cells #[.string x.1, .int .i64 tk, .slice TL tl tc, .slice TA ta td] 98)) 66 (.string y.1) (.slice TA' y.2.length td')
    simpa using this
  have HC := Lib.hid (everyRow_any y.2 x.2 W1 H x.1 _ _ _ TA' td' (hp'.keep hb1) (kTy.keep hy hb1) b0 hl' hvs hw)
  have HB1 := Lib.hid hb1
  have HW1 := Lib.hid hW1
  have HT : Hid (∀ b W, b = (decide (y.1 = x.1) && (decide (y.2.length ≤ 8) && y.2.all fun v => hasV v x.2)) → Below w.heap.size w W → Truth (tdataB x y) w (.returned (.bool b)) W) := Lib.hid (fun b W hb hB => ⟨by rw [hb]; rfl, hB⟩)
  have x0 := b0.c0
  have y0 := b1.c0
  have y1 := b1.c1
  generalize (y.2.all fun v => hasV v x.2) = al at *
  generalize x.1 = nm at *
  generalize y.1 = nm' at *
  generalize y.2.length = n at *
  clear h h' hs hs' hy hy' hp' b0 b1 hW1 hb1 hw hvs hl'
  by_cases hn : nm' = nm
  rotate_left
  · have HF := Lib.hid (HT.out false W1 (by rw [decide_eq_false hn]; rfl) HB1.out)
    have f1 := str_neS hn
    clear hn HT HC
    go_enter Tryz.func77, Tryz.ntmps77
    go_wp2_with fail
    rw [HW1.out]
    go_wp2_with fail
    go_ret
    exact HF.out
  subst hn
  by_cases h8 : (n : Int) ≤ 8
  rotate_left
  · have HF := Lib.hid (HT.out false W1 (by have h9 : ¬ n ≤ 8 := (by omega); simp [h9]) HB1.out)
    clear HT HC
    go_enter Tryz.func77, Tryz.ntmps77
    go_wp2_with fail
    rw [HW1.out]
    go_wp2_with fail
    go_ret
    exact HF.out
  have HF := Lib.hid (fun W hB => HT.out al W (by have h9 : n ≤ 8 := (by omega); simp [h9]) hB)
  clear HT
  go_enter Tryz.func77, Tryz.ntmps77
  go_wp2_with fail
  rw [HW1.out]
  go_wp2_with fail
  refine HC.out.mono ?_
  rintro e w2 ⟨rfl, hb2⟩
  have HB2 := Lib.hid (HB1.out.trans (hb2.mono HB1.out.size))
  clear hb2
  go_wp2_with fail
  go_ret
  exact HF.out _ HB2.out

noncomputable def eqCdB (ks : Sc) (js : Db) : Bool := decide (ks.length = js.length) && allPairs tdataB ks js

set_option maxRecDepth 100000 in
set_option maxHeartbeats 3200000 in
theorem eqFuncCd_any (ks : Sc) (js : Db) (w : World) (A B : Option Addr) (c d : Nat) (h : RL kDc w A ks) (h' : RL kDd w B js) (hl : ks.length ≤ 9223372036854775807) (hw : wSc ks ≤ 1048576) (hv : ∀ d ∈ js, ∀ v ∈ d.2, v.size ≤ 1048577) :
    Calls Tryz.prog 76 #[.slice A ks.length c, .slice B js.length d, .func (.func 77) #[] #[]] w (Truth (eqCdB ks js) w) := by
  by_cases hlen : ks.length = js.length
  · have HP := Lib.hid h
    have HQ := Lib.hid h'
    have HL := Lib.hid hlen
    have HHW := Lib.hid hw
    have HHV := Lib.hid hv
    have HE : Hid ((eqCdB ks js) = allPairs tdataB ks js) := Lib.hid (by unfold eqCdB; rw [decide_eq_true hlen]; rfl)
    rw [← hlen]
    clear h h' hlen hw hv
    go_enter Tryz.func76, Tryz.ntmps76
    go_wp2_with fail
    go_loopw [17] (fun i wr => ∃ k : Nat, k ≤ ks.length ∧ i = .int .i64 k ∧ PairsTo tdataB ks js k ∧ Below w.heap.size w wr) (fun i _ => ks.length - (intOf i).toNat)
    case atStart => exact ⟨0, Nat.zero_le _, rfl, pairsTo_zero _ _ _, Below.refl _ _⟩
    case round =>
      obtain ⟨k, hk, rfl, hto, hb⟩ := hrel
      have HTO := Lib.hid hto
      have HB := Lib.hid hb
      clear hto
      by_cases hlt : k < ks.length
      · have hlt2 : k < js.length := by have := HL.out; omega
        obtain ⟨ad, p, c0, c1, c2, c3, rfl, hpe, hr, q0, q1, q2, q3⟩ := rl_at4 kDc_n HP.out hb hlt
        obtain ⟨bd, p', d0, d1, rfl, hpe', hr', q0', q1'⟩ := rl_at2 kDd_n HQ.out hb hlt2
        obtain ⟨tk, TL, TA0, tl, tc, ta0, td0, hcs0, hs0, hy0⟩ := kDc_open hr
        simp only [List.cons.injEq, and_true] at hcs0
        obtain ⟨rfl, rfl, rfl, rfl⟩ := hcs0
        obtain ⟨TA', ta', td', hcs', hs', hy'⟩ := kDd_open hr'
        simp only [List.cons.injEq, and_true] at hcs'
        obtain ⟨rfl, rfl⟩ := hcs'
        obtain ⟨_, hwt, _⟩ := dnm_bounds hlt HHW.out
        have hwv := HHV.out _ (List.getElem_mem hlt2)
        obtain ⟨W5, hW5⟩ : ∃ W5, (wr.alloc (.cells #[.string ks[k].1, .int .i64 tk, .slice TL tl tc, .slice TA0 ta0 td0] 98)).alloc (.cells #[.string js[k].1, .slice TA' ta' td'] 66) = W5 := ⟨_, rfl⟩
        have hb5 : Below wr.heap.size wr W5 := by rw [← hW5]; exact ((Below.refl _ _).alloc (Nat.le_refl _) _).alloc (by simp) _
        have HC := Lib.hid (isData_any ks[k] js[k] W5 _ _ (kDc.keep hr hb5) (kDd.keep hr' hb5) hwt hwv)
        have HW5 := Lib.hid hW5
        have HB5 := Lib.hid (HB.out.trans (hb5.mono HB.out.size))
        have HS := Lib.hid (fun hf => pairsTo_more HTO.out hlt hlt2 hf)
        have HN : Hid (tdataB ks[k] js[k] = false → (eqCdB ks js) = false) := Lib.hid (fun hf => by rw [HE.out]; exact pairs_no hlt hlt2 hf)
        obtain ⟨v, hv⟩ : ∃ v, tdataB ks[k] js[k] = v := ⟨_, rfl⟩
        rw [hv] at HS HN HC
        have hbA : Below wr.heap.size wr (wr.alloc (.cells #[.string ks[k].1, .int .i64 tk, .slice TL tl tc, .slice TA0 ta0 td0] 98)) := (Below.refl _ _).alloc (Nat.le_refl _) _
        have s0 := (hbA.cell (World.block_lt_of_cell? wr _ q0')).trans q0'
        have s1 := (hbA.cell (World.block_lt_of_cell? wr _ q1')).trans q1'
        generalize ks[k].1 = nm at *
        generalize js[k].1 = nm' at *
        clear hr hr' hb hb5 hW5 hv hlt2 hbA q0' q1' hs0 hs' hy0 hy' hwt hwv
        go_wp2_with fail
        rw [HW5.out]
        refine HC.out.mono ?_
        rintro e w6 ⟨rfl, hb6⟩
        have HB6 := Lib.hid (HB5.out.trans (hb6.mono HB5.out.size))
        clear hb6 HC
        cases v with
        | false =>
          have HF : Hid (Truth (eqCdB ks js) w (.returned (.bool false)) w6) := by rw [HN.out rfl]; exact ⟨rfl, HB6.out⟩
          go_wp2_with fail
          go_ret
          exact HF.out
        | true =>
          have HT := Lib.hid (HS.out rfl)
          clear HS HN
          go_wp2_with fail
          go_roundw
          case rel => exact ⟨k + 1, hlt, by go_num, HT.out, HB6.out⟩
          case measure => simp [intOf]; omega
      · have he : k = ks.length := by omega
        have HF : Hid (Truth (eqCdB ks js) w (.returned (.bool true)) wr) := by
          rw [HE.out, pairsTo_all (by rw [← he]; exact HTO.out)]
          exact ⟨rfl, HB.out⟩
        clear he hb
        go_wp2_with fail
        go_ret
        exact HF.out
  · have HF : Hid (Truth (eqCdB ks js) w (.returned (.bool false)) w) := Lib.hid ⟨by unfold eqCdB; rw [decide_eq_false hlen]; rfl, Below.refl _ _⟩
    have hne : ((ks.length : Int) == (js.length : Int)) = false := by
      have : (ks.length : Int) ≠ (js.length : Int) := by omega
      exact beq_eq_false_iff_ne.2 this
    obtain ⟨eb, heb⟩ : ∃ eb, (eqCdB ks js) = eb := ⟨_, rfl⟩
    rw [heb] at HF ⊢
    generalize ks.length = n1 at hne hl ⊢
    generalize js.length = n2 at hne ⊢
    clear hlen h h' heb hw hv
    go_enter Tryz.func76, Tryz.ntmps76
    go_wp2_with fail
    go_ret
    exact HF.out

set_option maxRecDepth 100000 in
set_option maxHeartbeats 3200000 in
theorem implIsDbG_any (t : Sc) (s : Db) (w : World) (cs ds : List Value) (h : RSc w t cs) (h' : RDb w s ds) (hw : wSc t ≤ 1048576) (hv : ∀ d ∈ s, ∀ v ∈ d.2, v.size ≤ 1048577) : Calls Tryz.prog 57 #[.agg cs.toArray, .agg ds.toArray] w (Truth (dbB t s) w) := by
  obtain ⟨A, c, rfl, hl, _, hp⟩ := h.open
  obtain ⟨B, d, rfl, _, _, hp'⟩ := h'.open
  obtain ⟨W1, hW1⟩ : ∃ W1, (w.alloc (.cells #[.slice A t.length c] 42)).alloc (.cells #[.slice B s.length d] 37) = W1 := ⟨_, rfl⟩
  obtain ⟨H, hH⟩ : ∃ H, w.heap.size = H := ⟨_, rfl⟩
  have b0 : Box1 W1 H 42 (.slice A t.length c) := by rw [← hW1, ← hH]; exact (Box1.new w _ _).alloc _
  have b1 : Box1 W1 (H + 1) 37 (.slice B s.length d) := by
    rw [← hW1, ← hH]
    have := Box1.new (w.alloc (.cells #[.slice A t.length c] 42)) 37 (.slice B s.length d)
    simpa using this
  have hb1 : Below w.heap.size w W1 := by rw [← hW1]; exact ((Below.refl _ _).alloc (Nat.le_refl _) _).alloc (by simp) _
  have HS := Lib.hid (implSch_any t W1 _ (h.keep hb1) hw)
  have HC := Lib.hid (fun (W : World) (hB : Below w.heap.size w W) => eqFuncCd_any t s W A B c d (hp.keep hB) (hp'.keep hB) hl hw hv)
  have HT : Hid (∀ b W, b = (schB t && eqCdB t s) → Below w.heap.size w W → Truth (dbB t s) w (.returned (.bool b)) W) := Lib.hid (fun b W hb hB => ⟨by rw [hb]; rfl, hB⟩)
  have HW1 := Lib.hid hW1
  have HB1 := Lib.hid hb1
  have HX := Lib.hid b0
  have HY := Lib.hid b1
  have x0 := b0.c0
  have y0 := b1.c0
  generalize eqCdB t s = eb at HC HT
  generalize schB t = sb at HS HT
  clear h h' hp hp' hl hW1 b0 b1 hb1 hw hv
  cases sb
  · have HF := Lib.hid (fun W hB => HT.out false W (by simp) hB)
    clear HT HC
    go_enter Tryz.func57, Tryz.ntmps57
    go_wp2_with fail
    rw [HW1.out]
    go_wp2_with fail
    refine HS.out.mono ?_
    rintro e w2 ⟨rfl, hb2⟩
    have HB2 := Lib.hid (HB1.out.trans (hb2.mono HB1.out.size))
    clear hb2 x0 y0
    go_wp2_with fail
    go_ret
    exact HF.out _ HB2.out
  · have HF := Lib.hid (fun W hB => HT.out eb W (by simp) hB)
    clear HT
    go_enter Tryz.func57, Tryz.ntmps57
    go_wp2_with fail
    rw [HW1.out]
    go_wp2_with fail
    refine HS.out.mono ?_
    rintro e w2 ⟨rfl, hb2⟩
    have HB2 := Lib.hid (HB1.out.trans (hb2.mono HB1.out.size))
    have z0 := (HX.out.under hb2 HX.out.lt).c0
    have z1 := (HY.out.under hb2 HY.out.lt).c0
    have HC2 := Lib.hid (HC.out w2 HB2.out)
    clear hb2 x0 y0 HC
    go_wp2_with fail
    refine HC2.out.mono ?_
    rintro e w3 ⟨rfl, hb3⟩
    have HB3 := Lib.hid (HB2.out.trans (hb3.mono HB2.out.size))
    clear hb3
    go_wp2_with fail
    go_ret
    exact HF.out _ HB3.out
theorem isd_rows {s : Db} (hv : wDb s ≤ 1048576) : ∀ d ∈ s, ∀ v ∈ d.2, v.size ≤ 1048577 := by
  intro d hd
  obtain ⟨j, hj, rfl⟩ := List.getElem_of_mem hd
  exact (isd_va (isd_dd hj hv).2.1).2
theorem implIsDb_any (t : Sc) (s : Db) (w : World) (cs ds : List Value) (h : RSc w t cs) (h' : RDb w s ds) (hw : wSc t ≤ 1048576) (hv : wDb s ≤ 1048576) : Calls Tryz.prog 57 #[.agg cs.toArray, .agg ds.toArray] w (Truth (dbB t s) w) := implIsDbG_any t s w cs ds h h' hw (isd_rows hv)
end Go.Proofs.YtlikmgkjilmjpaaGreat

/-
  The program's copyDB.
-/
namespace Go.Proofs.YtlikmgkjilmjpaaGreat
open Go.RowKit

/-- what a copy of a database asks for -/
def CdbOk (t : Db) : Prop := t.length ≤ 1048576 ∧ ∀ d ∈ t, (∀ v ∈ d.2, wv v ≤ 1048576) ∧ d.2.length ≤ 1048576 ∧ sizesV d.2 ≤ 2097151
theorem cdbOk_w {t : Db} (h : wDb t ≤ 1048576) : CdbOk t := by
  refine ⟨Nat.le_trans (len_wDb t) h, fun d hd => ?_⟩
  obtain ⟨j, hj, rfl⟩ := List.getElem_of_mem hd
  have h1 := (wL_le (f := wDd) hj h).1
  have h2 : wDd t[j] = t[j].1.size + (wL wv) t[j].2 := rfl
  exact copyVs_hyp (by omega)
theorem cdb_news (w : World) (a b : Value) (t : TypeId) : ∀ (j : Nat) (u : Value), [a, b][j]? = some u → (w.alloc (.cells #[a, b] t)).cell? ((⟨w.heap.size, 0, none⟩ : Addr).add j) = some u := by
  intro j u hj
  rw [Addr.add_lit, Nat.zero_add, cell_of_row _ _ j #[a, b] t (0, 0) (heap_alloc_new w _)]
  match j, hj with
  | 0, hj => simpa using hj
  | 1, hj => simpa using hj
theorem cdb_one (s : ByteArray) (A : Option Addr) (n d : Nat) : ∀ u ∈ [Value.string s, .slice A n d], u.oneCell' = true := by
  intro u hu
  simp at hu
  rcases hu with rfl | rfl <;> rfl

set_option maxRecDepth 100000 in
set_option maxHeartbeats 4000000 in
theorem implCopyDb_any (t : Db) (w : World) (cs : List Value) (h : RDb w t cs) (hw : CdbOk t) : Calls Tryz.prog 58 #[.agg cs.toArray] w (MadeDb t w) := by
  obtain ⟨i1, hi1, hy0, hy1, hy2⟩ := info_parts infoDd
  obtain ⟨A, c, rfl, hl, _, hp⟩ := h.open
  have hlen := hw.1
  obtain ⟨W0, hW0⟩ : ∃ W0, (w.alloc (.cells #[.slice A t.length c] 37)).alloc (.cells #[.slice none 0 0] 37) = W0 := ⟨_, rfl⟩
  obtain ⟨W1, hW1⟩ : ∃ W1, W0.alloc (.cells #[.slice none 0 0] 37) = W1 := ⟨_, rfl⟩
  obtain ⟨H, hH⟩ : ∃ H, w.heap.size = H := ⟨_, rfl⟩
  have b0 : Box1 W0 H 37 (.slice A t.length c) := by rw [← hW0, ← hH]; exact (Box1.new w _ _).alloc _
  have b1 : Box1 W0 (H + 1) 37 (.slice none 0 0) := by
    rw [← hW0, ← hH]
    have := Box1.new (w.alloc (.cells #[.slice A t.length c] 37)) 37 (.slice none 0 0)
    simpa using this
  have hs0 : W0.heap.size = H + 1 + 1 := by rw [← hW0, ← hH]; simp
  have b2 : Box1 W1 (H + 1 + 1) 37 (.slice none 0 0) := by rw [← hW1, ← hs0]; exact Box1.new W0 _ _
  have hb0 : Below w.heap.size w W0 := by rw [← hW0]; exact ((Below.refl _ _).alloc (Nat.le_refl _) _).alloc (by simp) _
  have hb01 : Below W0.heap.size W0 W1 := by rw [← hW1]; exact (Below.refl _ _).alloc (Nat.le_refl _) _
  have HR1 := Lib.hid (fun (W : World) (hB : Below W0.heap.size W0 W) => b1.under hB b1.lt)
  have HB0 := Lib.hid hb0
  have HS0 := Lib.hid hs0
  have HH := Lib.hid hH
  have HWT := Lib.hid hw
  have HP := Lib.hid (hp.keep hb0)
  have HW0 := Lib.hid hW0
  have HW1 := Lib.hid hW1
  have x0 := (b0.under hb01 b0.lt).c0
  have HI0 : Hid (ApFInv kDd 66 37 t W0 (H + 1 + 1) (.int .i64 0) W1) := Lib.hid ⟨0, none, 0, [], fun _ => [], [], Nat.zero_le _, rfl, apF_zero kDd _ _ _ b2 (by omega) hb01⟩
  clear h hp hW0 hW1 b0 b1 b2 hb0 hb01 hs0 hw
  go_enter Tryz.func58, Tryz.ntmps58
  go_wp2_with fail
  rw [HW0.out, HW1.out]
  go_wp2_with fail
  go_loopw [9] (fun i wr => ApFInv kDd 66 37 t W0 (H + 1 + 1) i wr) (fun i _ => t.length - (intOf i).toNat)
  case atStart => exact HI0.out
  case round =>
    obtain ⟨k, A', d', cells, fs, fp, hk, rfl, hap⟩ := hrel
    have hb := hap.2.2.2.2
    clear x0
    have HAP := Lib.hid hap
    by_cases hlt : k < t.length
    · obtain ⟨ad, p, c0, c1, rfl, hpe, hr, q0, q1⟩ := rl_at2 kDd_n HP.out hb hlt
      obtain ⟨TA, ta, td, hcs, hs, hy⟩ := kDd_open hr
      simp only [List.cons.injEq, and_true] at hcs
      obtain ⟨rfl, rfl⟩ := hcs
      obtain ⟨rfl, _, _, hrv⟩ := kVas_slice hy
      obtain ⟨k1, k2, k3⟩ := HWT.out.2 _ (List.getElem_mem hlt)
      obtain ⟨G, hG⟩ : ∃ G, wr.heap.size = G := ⟨_, rfl⟩
      obtain ⟨W5, hW5⟩ : ∃ W5, wr.alloc (.cells #[.string t[k].1, .slice TA t[k].2.length td] 66) = W5 := ⟨_, rfl⟩
      have hb5 : Below wr.heap.size wr W5 := by rw [← hW5]; exact (Below.refl _ _).alloc (Nat.le_refl _) _
      have hb5d : Below wr.heap.size wr W5.drew := hb5.drew
      have bx5 : Box2 W5 G 66 (.string t[k].1) (.slice TA t[k].2.length td) := by rw [← hW5, ← hG]; exact Box2.new wr _ _ _
      have bg5 : Box1 W5 (H + 1 + 1) 37 (.slice A' k d') := hap.1.under hb5 hap.1.lt
      have HCP := Lib.hid (implCopyVs_any t[k].2 W5.drew TA td (hrv.keep hb5d) k1 k2 k3)
      have HAFT : Hid (∀ w6 : World, Below W5.drew.heap.size W5.drew w6 → Box2 w6 G 66 (.string t[k].1) (.slice TA t[k].2.length td) ∧ Box1 w6 (H + 1 + 1) 37 (.slice A' k d')) := Lib.hid (fun w6 h6 => ⟨(show Box2 W5.drew G _ _ _ from bx5).under h6 bx5.lt, (show Box1 W5.drew (H + 1 + 1) _ _ from bg5).under h6 bg5.lt⟩)
      have HNX : Hid (∀ (w6 : World) (A5 : Option Addr) (d5 : Nat) (f5 : List Nat), OL kVa 47 w6 t[k].2 (.slice A5 t[k].2.length d5) f5 → (∀ b ∈ f5, W5.drew.heap.size ≤ b ∧ b < w6.heap.size) → Below W5.drew.heap.size W5.drew w6 →
          (w6.alloc (.cells #[.string t[k].1, .slice A5 t[k].2.length d5] 66)).ownsRow 0 66 2 (.slice A' k d') k cells ∧ Box1 (w6.alloc (.cells #[.string t[k].1, .slice A5 t[k].2.length d5] 66)) (H + 1 + 1) 37 (.slice A' k d') ∧
          ∀ (i : Value) (A4 : Option Addr) (d4 : Nat) (w4 : World), i = .int .i64 ((k + 1 : Nat) : Int) → w4.ownsRow 0 66 2 (.slice A4 (k + 1) d4) (k + 1) (cells ++ [.string t[k].1, .slice A5 t[k].2.length d5]) →
            (w6.alloc (.cells #[.string t[k].1, .slice A5 t[k].2.length d5] 66)).grownBy w4 (Value.slice A' k d').ownBlock → ((Value.slice A4 (k + 1) d4).ownBlock = (Value.slice A' k d').ownBlock ∨ (Value.slice A4 (k + 1) d4).ownBlock = some (w6.alloc (.cells #[.string t[k].1, .slice A5 t[k].2.length d5] 66)).heap.size) →
            ApFInv kDd 66 37 t W0 (H + 1 + 1) i (w4.setCell ⟨H + 1 + 1, 0, none⟩ (.slice A4 (k + 1) d4))) := Lib.hid (fun w6 A5 d5 f5 ho5 hf5 hb6 => by
        have hb56 : Below wr.heap.size wr w6 := hb5d.trans (hb6.mono hb5d.size)
        have hg6 : wr.grownBy (w6.alloc (.cells #[.string t[k].1, .slice A5 t[k].2.length d5] 66)) none := grown_none (hb56.alloc hb56.size _)
        refine ⟨own_keep (hap.row (Nat.le_of_lt hlt)) (row := none) hg6 (fun b _ => by simp), (hap.1.under hb56 hap.1.lt).alloc _, fun i A4 d4 w4 hii h1 h2 h3 => ?_⟩
        exact apF_more (a := kDd) (w2 := w6) (fx := f5) hlt (by omega) hii hap hb56 (kDd_omake hs ⟨_, rfl, ho5⟩) (fun b hm => by have := hf5 b hm; have := hb5d.size; omega) _ h1 h2 h3)
      have HAPT := Lib.hid hap.apart
      have HW5 := Lib.hid hW5
      have g5 := bg5.c0
      have y0 := bx5.c0
      have y1 := bx5.c1
      generalize t[k].1 = nm at *
      generalize t[k].2 = vs at *
      clear hr hs hy hrv hk hap hb hb5 hb5d bx5 bg5 k1 hW5
      go_wp2_with fail
      rw [HW5.out]
      go_region_law (first
        | (go_simp; refine HCP.out.mono ?_; rintro e w6 hm; obtain ⟨A5, d5, f5, rfl, ho5, hf5, hb6⟩ := madeVs_L hm (Below.refl _ _); have hn5 := HNX.out w6 A5 d5 f5 ho5 hf5 hb6; have HROW := Lib.hid hn5.1; have HBOX := Lib.hid hn5.2.1; have HNXT := Lib.hid hn5.2.2; have HNW := Lib.hid (cdb_news w6 (.string nm) (.slice A5 vs.length d5) 66); have u0 := (HAFT.out w6 hb6).1.c0; have u1 := (HAFT.out w6 hb6).2.c0; have u2 := hn5.2.1.c0; clear hm ho5 hf5 hn5 hb6)
        | (refine step_append_at (by rfl) (.tmp 14) (.tmp 21) 35 (by rfl) 0 66 i1 _ 2 40 Tryz.underlying35 hi1 hy0 hy1 hy2 (by rfl) (by omega) (.slice A' k d') k cells (by rfl) HROW.out ⟨w6.heap.size, 0, none⟩ 1 1 [.string nm, .slice A5 vs.length d5] (by rfl) (by rfl) HNW.out (cdb_one _ _ _ _) (by unfold maxLen; omega) (by omega) (Nat.zero_le _) ?_; intro A4 d4 w4 hown4 hgr4 hor4; have bx4 := HBOX.out.grown hgr4 HAPT.out; have g4 := bx4.c0; have f4 := bx4.free 0; have HNW4 := Lib.hid (fun i hi => HNXT.out i A4 d4 w4 hi hown4 hgr4 (by simpa using hor4)); clear hown4 hgr4 hor4 bx4))
      all_goals go_wp2_with fail
      all_goals go_roundw
      all_goals first
        | exact HNW4.out _ (by go_num)
        | (simp [intOf]; omega)
    · have he : k = t.length := by omega
      subst he
      have bg := hap.1
      have g0 := bg.c0
      have br := HR1.out wr hb
      have r0 := br.c0
      have s0 := br.free 0
      have BR := Lib.hid br
      clear hb hk hap bg br
      go_wp2_with fail
      generalize hU : wr.setCell ⟨H + 1, 0, none⟩ (.slice A' t.length d') = U
      have hgU : wr.grownBy U (some (H + 1)) := by rw [← hU]; exact grown_set (World.grownBy.refl _ _) _
      have u1 : Box1 U (H + 1) 37 (.slice A' t.length d') := by
        rw [← hU]
        exact BR.out.set0 _
      have HRR : Hid (MadeDb t w (.returned (.agg #[.slice A' t.length d'])) U) := Lib.hid (by
        obtain ⟨fp', h1, h2, h3⟩ := apF_done (w := w) HAP.out HB0.out (by have := HS0.out; omega) (by have := HH.out; omega) hgU
        exact ⟨A', d', fp', rfl, ODb.ol.2 h1, h2, h3⟩)
      have t0 := u1.c0
      clear hU hgU u1 r0 s0 g0
      exact bodyPost_ret (v := .agg #[.slice A' t.length d']) (by simp [results, Tryz.results58, go_sem, t0]) rfl HRR.out
end Go.Proofs.YtlikmgkjilmjpaaGreat

/-
  A database that is valid may be copied.
-/
namespace Go.Proofs.YtlikmgkjilmjpaaGreat
open Go.RowKit

theorem sizesV_lim (vs : List Va) (h : ∀ v ∈ vs, v.size ≤ 2000) : sizesV vs ≤ vs.length * 2000 := by
  unfold sizesV
  induction vs with
  | nil => simp
  | cons v vs ih =>
    have h1 := h v (by simp)
    have h2 := ih fun x hx => h x (by simp [hx])
    simp only [List.map_cons, List.sum_cons, List.length_cons]
    omega
theorem cdbOk_valid {t : Sc} {s : Db} (h : dbB t s = true) (hl : s.length ≤ 1048576) (hw : ∀ d ∈ s, ∀ v ∈ d.2, wv v ≤ 1048576) : CdbOk s := by
  unfold dbB at h
  rw [Bool.and_eq_true, Bool.and_eq_true, decide_eq_true_iff] at h
  obtain ⟨_, hlen, hall⟩ := h
  refine ⟨hl, fun d hd => ?_⟩
  obtain ⟨i, hi, rfl⟩ := List.getElem_of_mem hd
  unfold allPairs at hall
  rw [List.all_eq_true] at hall
  have hz : i < (t.zip s).length := by rw [List.length_zip]; omega
  have h1 := hall _ (List.getElem_mem hz)
  rw [List.getElem_zip] at h1
  unfold tdataB at h1
  rw [Bool.and_eq_true, Bool.and_eq_true, decide_eq_true_iff, decide_eq_true_iff, List.all_eq_true] at h1
  obtain ⟨_, h8, hv⟩ := h1
  simp only at h8 hv
  have hsz := sizesV_lim s[i].2 fun v hm => by
    have := hv v hm
    unfold hasV at this
    rw [Bool.and_eq_true, Bool.and_eq_true, decide_eq_true_iff] at this
    exact this.2.1
  exact ⟨hw _ hd, by omega, by omega⟩
end Go.Proofs.YtlikmgkjilmjpaaGreat
