/-
  Merged by program: EqDc, ScF, SzDd.
-/
import Derived.Test.YtlikmgkjilmjpaaGreatI6
import Derived.StillTailTactics
import Derived.Test.YtlikmgkjilmjpaaGreatI14
import Derived.Test.YtlikmgkjilmjpaaGreatI11
import Derived.Test.YtlikmgkjilmjpaaGreatI5

/-
  The comparison of a TableDecl with itself, wherever the two lie. Written by genpair.py.
-/
namespace Go.Proofs.YtlikmgkjilmjpaaGreat
open Go.RowKit

set_option maxHeartbeats 800000 in
set_option maxRecDepth 100000 in
theorem eqDc_same (x : Dc) (w : World) (cs ds : List Value) (h : kDc.R w x cs) (h' : kDc.R w x ds) : Calls Tryz.prog 62 #[.agg cs.toArray, .agg ds.toArray] w (LawYes w) := by
  obtain ⟨tk, TL, TA, tl, tc, ta, td, rfl, hs, hy⟩ := kDc_open h
  obtain ⟨tk', TL', TA', tl', tc', ta', td', rfl, _, hy'⟩ := kDc_open h'
  obtain ⟨W1, hW1⟩ : ∃ W1, (w.alloc (.cells #[.string x.1, .int .i64 tk, .slice TL tl tc, .slice TA ta td] 98)).alloc (.cells #[.string x.1, .int .i64 tk', .slice TL' tl' tc', .slice TA' ta' td'] 98) = W1 := ⟨_, rfl⟩
  obtain ⟨H, hH⟩ : ∃ H, w.heap.size = H := ⟨_, rfl⟩
  have b0 : Box4 W1 H 98 (.string x.1) (.int .i64 tk) (.slice TL tl tc) (.slice TA ta td) := by rw [← hW1, ← hH]; exact (Box4.new w _ _ _ _ _).alloc _
  have b1 : Box4 W1 (H + 1) 98 (.string x.1) (.int .i64 tk') (.slice TL' tl' tc') (.slice TA' ta' td') := by
    rw [← hW1, ← hH]
    have := Box4.new (w.alloc (.cells #[.string x.1, .int .i64 tk, .slice TL tl tc, .slice TA ta td] 98)) 98 (.string x.1) (.int .i64 tk') (.slice TL' tl' tc') (.slice TA' ta' td')
    simpa using this
  have hb1 : Below w.heap.size w W1 := by rw [← hW1]; exact ((Below.refl _ _).alloc (Nat.le_refl _) _).alloc (by simp) _
  have HC := Lib.hid (eqTy_K x.2 W1 _ _ (kTy.keep hy hb1) (kTy.keep hy' hb1))
  have HW1 := Lib.hid hW1
  have HB1 := Lib.hid hb1
  have x0 := b0.c0
  have x1 := b0.c1
  have x2 := b0.c2
  have x3 := b0.c3
  have y0 := b1.c0
  have y1 := b1.c1
  have y2 := b1.c2
  have y3 := b1.c3
  generalize x.1 = nm at HW1 x0 y0 hs ⊢
  clear h h' hy hy' hW1 b0 b1 hb1
  go_enter Tryz.func62, Tryz.ntmps62
  go_wp2_with fail
  rw [HW1.out]
  go_wp2_with fail
  refine HC.out.mono ?_
  rintro e w2 ⟨rfl, hb2⟩
  have HB2 := Lib.hid (HB1.out.trans (hb2.mono HB1.out.size))
  clear hb2
  go_wp2_with fail
  go_ret
  exact ⟨rfl, HB2.out⟩

set_option maxHeartbeats 800000 in
set_option maxRecDepth 100000 in
theorem eqDcS_same (xs : List Dc) (w : World) (A B : Option Addr) (c d : Nat) (hA : RL kDc w A xs) (hB : RL kDc w B xs) (hl : xs.length ≤ 9223372036854775807) :
    Calls Tryz.prog 38 #[.slice A xs.length c, .slice B xs.length d] w (LawYes w) := by
  have HA := Lib.hid hA
  have HB := Lib.hid hB
  clear hA hB
  go_enter Tryz.func38, Tryz.ntmps38
  go_wp2_with fail
  go_loopw [5] (fun i wr => ∃ k : Nat, k ≤ xs.length ∧ i = .int .i64 k ∧ Below w.heap.size w wr) (fun i _ => xs.length - (intOf i).toNat)
  case atStart => exact ⟨0, Nat.zero_le _, rfl, Below.refl _ _⟩
  case round =>
    obtain ⟨k, hk, rfl, hb⟩ := hrel
    by_cases hlt : k < xs.length
    · obtain ⟨ad, p, c0, c1, c2, c3, rfl, hpe, hr, q0, q1, q2, q3⟩ := rl_at4 kDc_n HA.out hb hlt
      obtain ⟨bd, p', d0, d1, d2, d3, rfl, hpe', hr', q0', q1', q2', q3'⟩ := rl_at4 kDc_n HB.out hb hlt
      have HR := Lib.hid hr
      have HR' := Lib.hid hr'
      have HBW := Lib.hid hb
      clear hr hr' hb
      go_wp2_with fail
      go_still_tail 8, (by kernel_rfl)
      change wpList _ _ _ _ _ wr.drew
      have hd : Below wr.heap.size wr wr.drew := (Below.refl _ _).drew
      have HC := Lib.hid (eqDc_same xs[k] wr.drew [c0, c1, c2, c3] [d0, d1, d2, d3] (kDc.keep HR.out hd) (kDc.keep HR'.out hd))
      have HB2 := Lib.hid (HBW.out.trans (hd.mono HBW.out.size))
      clear hd
      go_wp2_with fail
      refine HC.out.mono ?_
      rintro e w2 ⟨rfl, hb2⟩
      have HB3 := Lib.hid (HB2.out.trans (hb2.mono HB2.out.size))
      clear hb2
      go_wp2_with fail
      go_roundw
      case rel => exact ⟨k + 1, hlt, by go_num, HB3.out⟩
      case measure => simp [intOf]; omega
    · go_wp2_with fail
      go_ret
      exact ⟨rfl, hb⟩
end Go.Proofs.YtlikmgkjilmjpaaGreat

/-
  The laws' functions on a Schema. Written by genwrap.py.
-/
namespace Go.Proofs.YtlikmgkjilmjpaaGreat
open Go.RowKit

set_option maxHeartbeats 800000 in
theorem szSchema_any (t : Sc) (w : World) (cs : List Value) (left : Int) (h : RSc w t cs) (h0 : 0 ≤ left) (h1 : left ≤ 1048576) : Calls Tryz.prog 5 #[.agg cs.toArray, .int .i64 left] w (SzV (wSc t) left w) := by
  obtain ⟨A, d, rfl, hl, _, hp⟩ := h.open
  obtain ⟨W1, hW1⟩ : ∃ W1, w.alloc (.cells #[.slice A t.length d] 24) = W1 := ⟨_, rfl⟩
  obtain ⟨H, hH⟩ : ∃ H, w.heap.size = H := ⟨_, rfl⟩
  have hbox : Box1 W1 H 24 (.slice A t.length d) := by rw [← hW1, ← hH]; exact Box1.new w _ _
  have hb0 : Below w.heap.size w W1 := by rw [← hW1]; exact (Below.refl _ _).alloc (Nat.le_refl _) _
  have HC := Lib.hid (szDcS_any t W1 A d left (hp.keep hb0) hl h0 h1)
  have HW1 := Lib.hid hW1
  have HB0 := Lib.hid hb0
  have x0 := hbox.c0
  have HWX : Hid (wSc t = wL wDc t) := Lib.hid rfl
  generalize wSc t = wx at HWX ⊢
  generalize wL wDc t = wy at HWX HC
  generalize t.length = n at HC HW1 x0 ⊢
  clear h hp hl hW1 hbox hb0
  go_enter Tryz.func5, Tryz.ntmps5
  go_wp2_with fail
  rw [HW1.out]
  go_wp2_with fail
  refine HC.out.mono ?_
  rintro e w2 ⟨r, rfl, hs1, hs2, hs3, hb2⟩
  have HS3 := Lib.hid hs3
  have HB2 := Lib.hid (HB0.out.trans (hb2.mono HB0.out.size))
  clear hs3 hb2
  by_cases hz : r < 0
  · go_wp2_with fail
    go_ret
    exact ⟨-1, rfl, by omega, by omega, by omega, HB2.out⟩
  · go_wp2_with fail
    go_ret
    exact ⟨r, rfl, by omega, by omega, fun _ => by rw [HWX.out]; exact HS3.out (by omega), HB2.out⟩

set_option maxHeartbeats 1600000 in
set_option maxRecDepth 100000 in
theorem toSchema_any (t : Sc) (w : World) (cs : List Value) (h : RSc w t cs) (hw : wSc t ≤ 1048576) : Calls Tryz.prog 9 #[.agg cs.toArray] w (MadeSc t w) := by
  obtain ⟨A, d, rfl, hl, _, hp⟩ := h.open
  obtain ⟨W1, hW1⟩ : ∃ W1, ((w.alloc (.cells #[.slice A t.length d] 24)).alloc (.cells #[.slice none 0 0] 42)).alloc (.cells #[.slice none 0 0] 42) = W1 := ⟨_, rfl⟩
  obtain ⟨H, hH⟩ : ∃ H, w.heap.size = H := ⟨_, rfl⟩
  have b0 : Box1 W1 H 24 (.slice A t.length d) := by rw [← hW1, ← hH]; exact ((Box1.new w _ _).alloc _).alloc _
  have b1 : Box1 W1 (H + 1) 42 (.slice none 0 0) := by
    rw [← hW1, ← hH]
    have := (Box1.new (w.alloc (.cells #[.slice A t.length d] 24)) 42 (.slice none 0 0)).alloc (.cells #[.slice none 0 0] 42)
    simpa using this
  have b2 : Box1 W1 (H + 1 + 1) 42 (.slice none 0 0) := by
    rw [← hW1, ← hH]
    have := Box1.new ((w.alloc (.cells #[.slice A t.length d] 24)).alloc (.cells #[.slice none 0 0] 42)) 42 (.slice none 0 0)
    simpa using this
  have hb1 : Below w.heap.size w W1 := by rw [← hW1]; exact (((Below.refl _ _).alloc (Nat.le_refl _) _).alloc (by simp) _).alloc (by simp; omega) _
  have hs1 : W1.heap.size = H + 1 + 1 + 1 := by rw [← hW1, ← hH]; simp
  have HC := Lib.hid (toDcS_any t W1 A d (hp.keep hb1) hw)
  have HMK : Hid (∀ (U : World) (A5 : Option Addr) (d5 : Nat) (fp : List Nat), OL kDc 98 U t (.slice A5 t.length d5) fp → (∀ b ∈ fp, w.heap.size ≤ b ∧ b < U.heap.size) → Below w.heap.size w U → MadeSc t w (.returned (.agg #[.slice A5 t.length d5])) U) := Lib.hid (fun U A5 d5 fp h1 h2 h3 => ⟨A5, d5, fp, rfl, OSc.ol.2 h1, h2, h3⟩)
  have HW1 := Lib.hid hW1
  have HB1 := Lib.hid hb1
  have HS1 := Lib.hid hs1
  have HH := Lib.hid hH
  have B1 := Lib.hid b1
  have B2 := Lib.hid b2
  have x0 := b0.c0
  clear h hp hl hW1 b0 b1 b2 hb1 hs1 hw
  go_enter Tryz.func9, Tryz.ntmps9
  go_wp2_with fail
  rw [HW1.out]
  go_wp2_with fail
  refine HC.out.mono ?_
  rintro e w2 ⟨A5, d5, fp, rfl, ho, hfp, hb2⟩
  have hz2 := hb2.size
  have hz1 := HS1.out
  have t1 := B1.out.under hb2 (by omega)
  have t2 := B2.out.under hb2 (by omega)
  have g0 := t2.c0
  have gf0 := t2.free 0
  have k0 := t1.c0
  have kf0 := t1.free 0
  have HO := Lib.hid ho
  have HFP := Lib.hid hfp
  have HB2 := Lib.hid hb2
  have T1 := Lib.hid t1
  have HZ2 := Lib.hid hz2
  clear ho hfp hb2 t1 t2 hz2 hz1 x0
  obtain ⟨n, hn⟩ : ∃ n, t.length = n := ⟨_, rfl⟩
  rw [hn] at HMK HO ⊢
  clear hn
  go_wp2_with fail
  generalize hV : w2.setCell ⟨H + 1 + 1, 0, none⟩ (.slice A5 n d5) = V
  generalize hU : V.setCell ⟨H + 1, 0, none⟩ (.slice A5 n d5) = U
  have hg5 : w2.grownBy V (some (H + 1 + 1)) := by rw [← hV]; exact grown_set (World.grownBy.refl _ _) _
  have hg6 : V.grownBy U (some (H + 1)) := by rw [← hU]; exact grown_set (World.grownBy.refl _ _) _
  have u1 : Box1 U (H + 1) 42 (.slice A5 n d5) := by
    rw [← hU, ← hV]
    exact (T1.out.far (by show H + 1 ≠ H + 1 + 1; omega) _).set0 _
  have hww := HH.out
  have hz1 := HS1.out
  have hz2 := HZ2.out
  have hs5 := hg5.size
  have hs6 := hg6.size
  have hne : ∀ b ∈ fp, H + 1 + 1 < b := fun b hb => by have := (HFP.out b hb).1; omega
  have hO := OL.held (OL.held HO.out (K := fun i => some i ≠ some (H + 1 + 1)) ⟨hg5.os, hg5.tape, hg5.output, hg5.size, fun i hi hd => hg5.block i hi hd⟩ (fun b hb e => by injection e with e; have := hne b hb; omega)) (K := fun i => some i ≠ some (H + 1)) ⟨hg6.os, hg6.tape, hg6.output, hg6.size, fun i hi hd => hg6.block i hi hd⟩ (fun b hb e => by injection e with e; have := hne b hb; omega)
  have hbU : Below w.heap.size w U := ((HB1.out.trans (HB2.out.mono HB1.out.size)).grown hg5 (HB1.out.trans (HB2.out.mono HB1.out.size)).size (fun q hq => by injection hq with hq; omega)).grown hg6 (by have := (HB1.out.trans (HB2.out.mono HB1.out.size)).size; omega) (fun q hq => by injection hq with hq; omega)
  have q0 := u1.c0
  have HR := Lib.hid (HMK.out U A5 d5 fp hO (fun b hb => by have := HFP.out b hb; omega) hbU)
  clear hO hbU hne hg5 hg6 hV hU u1
  exact bodyPost_ret (v := .agg #[.slice A5 n d5]) (by simp [results, Tryz.results9, go_sem, q0]) rfl HR.out

set_option maxHeartbeats 800000 in
set_option maxRecDepth 100000 in
theorem eqSchema_same (t : Sc) (w : World) (cs ds : List Value) (h : RSc w t cs) (h' : RSc w t ds) : Calls Tryz.prog 14 #[.agg cs.toArray, .agg ds.toArray] w (LawYes w) := by
  obtain ⟨A, c, rfl, hl, _, hp⟩ := h.open
  obtain ⟨B, d, rfl, _, _, hp'⟩ := h'.open
  obtain ⟨W1, hW1⟩ : ∃ W1, (w.alloc (.cells #[.slice A t.length c] 42)).alloc (.cells #[.slice B t.length d] 42) = W1 := ⟨_, rfl⟩
  obtain ⟨H, hH⟩ : ∃ H, w.heap.size = H := ⟨_, rfl⟩
  have b0 : Box1 W1 H 42 (.slice A t.length c) := by rw [← hW1, ← hH]; exact (Box1.new w _ _).alloc _
  have b1 : Box1 W1 (H + 1) 42 (.slice B t.length d) := by
    rw [← hW1, ← hH]
    have := Box1.new (w.alloc (.cells #[.slice A t.length c] 42)) 42 (.slice B t.length d)
    simpa using this
  have hb1 : Below w.heap.size w W1 := by rw [← hW1]; exact ((Below.refl _ _).alloc (Nat.le_refl _) _).alloc (by simp) _
  have HC := Lib.hid (eqDcS_same t W1 A B c d (hp.keep hb1) (hp'.keep hb1) hl)
  have HW1 := Lib.hid hW1
  have HB1 := Lib.hid hb1
  have x0 := b0.c0
  have y0 := b1.c0
  generalize t.length = n at HC HW1 x0 y0 ⊢
  clear h h' hp hp' hl hW1 b0 b1 hb1
  go_enter Tryz.func14, Tryz.ntmps14
  go_wp2_with fail
  rw [HW1.out]
  go_wp2_with fail
  refine HC.out.mono ?_
  rintro e w2 ⟨rfl, hb2⟩
  have HB2 := Lib.hid (HB1.out.trans (hb2.mono HB1.out.size))
  clear hb2
  go_wp2_with fail
  go_ret
  exact ⟨rfl, HB2.out⟩
end Go.Proofs.YtlikmgkjilmjpaaGreat

/-
  How great a TableData is, as the laws reckon it. Written by genpair.py.
-/
namespace Go.Proofs.YtlikmgkjilmjpaaGreat
open Go.RowKit

set_option maxHeartbeats 800000 in
theorem szDd_any (x : Dd) (w : World) (cs : List Value) (left : Int) (h : kDd.R w x cs) (h0 : 0 ≤ left) (h1 : left ≤ 1048576) : Calls Tryz.prog 49 #[.agg cs.toArray, .int .i64 left] w (SzV (wDd x) left w) := by
  obtain ⟨TA, ta, td, rfl, hs, hy⟩ := kDd_open h
  obtain ⟨W1, hW1⟩ : ∃ W1, w.alloc (.cells #[.string x.1, .slice TA ta td] 91) = W1 := ⟨_, rfl⟩
  obtain ⟨H, hH⟩ : ∃ H, w.heap.size = H := ⟨_, rfl⟩
  have hbox : Box2 W1 H 91 (.string x.1) (.slice TA ta td) := by rw [← hW1, ← hH]; exact Box2.new w _ _ _
  have hb0 : Below w.heap.size w W1 := by rw [← hW1]; exact (Below.refl _ _).alloc (Nat.le_refl _) _
  have HC := Lib.hid (fun (l : Int) (g0 : 0 ≤ l) (g1 : l ≤ 1048576) => szVas_K x.2 W1 l ((kVa.list 47).keep hy hb0) g0 g1)
  have HW1 := Lib.hid hW1
  have HB0 := Lib.hid hb0
  have x0 := hbox.c0
  have x1 := hbox.c1
  have HWX : Hid (wDd x = x.1.size + (wL wv) x.2) := Lib.hid rfl
  generalize wDd x = wx at HWX ⊢
  generalize (wL wv) x.2 = wy at HWX HC
  generalize x.1 = nm at HWX HW1 hs x0 ⊢
  clear h hy hW1 hbox hb0
  by_cases hneg : left - nm.size < 0
  · go_enter Tryz.func49, Tryz.ntmps49
    go_wp2_with fail
    rw [HW1.out]
    go_wp2_with fail
    go_ret
    exact ⟨-1, rfl, by omega, by omega, by omega, HB0.out⟩
  · have HC1 := Lib.hid (HC.out (left - nm.size) (by omega) (by omega))
    go_enter Tryz.func49, Tryz.ntmps49
    go_wp2_with fail
    rw [HW1.out]
    go_wp2_with fail
    refine HC1.out.mono ?_
    rintro e w2 ⟨r, rfl, hs1, hs2, hs3, hb2⟩
    have HS3 := Lib.hid hs3
    have HB2 := Lib.hid (HB0.out.trans (hb2.mono HB0.out.size))
    clear hs3 hb2
    by_cases hz : r < 0
    · go_wp2_with fail
      go_ret
      exact ⟨-1, rfl, by omega, by omega, by omega, HB2.out⟩
    · go_wp2_with fail
      go_ret
      refine ⟨r, rfl, by omega, by omega, fun _ => ?_, HB2.out⟩
      have e2 := HS3.out (by omega)
      have e3 := HWX.out
      omega

set_option maxHeartbeats 800000 in
theorem szDdS_any (xs : List Dd) (w : World) (A : Option Addr) (d : Nat) (left : Int) (hp : RL kDd w A xs) (hl : xs.length ≤ 9223372036854775807) (h0 : 0 ≤ left) (h1 : left ≤ 1048576) :
    Calls Tryz.prog 23 #[.slice A xs.length d, .int .i64 left] w (SzV (wL wDd xs) left w) := by
  have HP := Lib.hid hp
  clear hp
  by_cases hneg : left - xs.length < 0
  · go_enter Tryz.func23, Tryz.ntmps23
    go_wp2_with fail
    go_ret
    exact ⟨-1, rfl, by omega, by omega, by omega, Below.refl _ _⟩
  · go_enter Tryz.func23, Tryz.ntmps23
    go_wp2_with fail
    go_loopw [1, 5] (fun l i wr => ∃ k : Nat, k ≤ xs.length ∧ i = .int .i64 k ∧ ∃ r : Int, l = .int .i64 r ∧ 0 ≤ r ∧ r + xs.length + ((xs.take k).map wDd).sum = left ∧ Below w.heap.size w wr) (fun _ i _ => xs.length - (intOf i).toNat)
    case atStart => exact ⟨0, Nat.zero_le _, rfl, _, rfl, by omega, by simp, Below.refl _ _⟩
    case round =>
      obtain ⟨k, hk, rfl, r, rfl, hr0, hr, hb⟩ := hrel
      have hr1 : r ≤ 1048576 := by omega
      have HR := Lib.hid hr
      clear hr
      by_cases hlt : k < xs.length
      · obtain ⟨ad, p, c0, c1, rfl, hpe, hrt, q0, q1⟩ := rl_at2 kDd_n HP.out hb hlt
        have hst := sum_take_succ wDd xs k hlt
        have hc := szDd_any xs[k] wr [c0, c1] r hrt hr0 hr1
        obtain ⟨m, hm⟩ : ∃ m, wDd xs[k] = m := ⟨_, rfl⟩
        rw [hm] at hst hc
        have HC := Lib.hid hc
        have HST := Lib.hid hst
        clear hc hrt hst hm
        go_wp2_with fail
        refine HC.out.mono ?_
        rintro e w2 ⟨r', rfl, hr2, hr3, hr4, hb2⟩
        have HB3 := Lib.hid (hb.trans (hb2.mono hb.size))
        have HR4 := Lib.hid hr4
        clear hr4 hb2
        by_cases hz : r' < 0
        · go_wp2_with fail
          go_ret
          exact ⟨-1, rfl, by omega, by omega, by omega, HB3.out⟩
        · go_wp2_with fail
          go_roundw
          case rel => exact ⟨k + 1, hlt, by go_num, r', rfl, by omega, by have h1 := HR4.out (by omega); have h2 := HR.out; have h3 := HST.out; omega, HB3.out⟩
          case measure => simp [intOf]; omega
      · have he : k = xs.length := by omega
        have HS : Hid (r + wL wDd xs = left) := by
          have h := HR.out
          rw [he, List.take_length] at h
          show _ = _
          unfold wL
          omega
        clear he
        go_wp2_with fail
        go_ret
        exact ⟨r, rfl, by have := HR.out; omega, by omega, fun _ => HS.out, hb⟩
end Go.Proofs.YtlikmgkjilmjpaaGreat
