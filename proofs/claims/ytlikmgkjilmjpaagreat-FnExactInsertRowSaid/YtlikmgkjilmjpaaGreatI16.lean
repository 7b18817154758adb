/-
  Merged by program: ToDd, EqDd, DbF, TyHeld, TyHas, Name.
-/
import Derived.Test.YtlikmgkjilmjpaaGreatI11
import Derived.StillTailTactics
import Derived.Test.YtlikmgkjilmjpaaGreatI15
import Derived.Test.YtlikmgkjilmjpaaGreatI8
import Derived.Test.YtlikmgkjilmjpaaGreatI7
import Derived.Test.YtlikmgkjilmjpaaGreatI3
import Derived.Test.YtlikmgkjilmjpaaGreatI1
import Derived.Test.YtlikmgkjilmjpaaGreatProg
import Derived.Laws.RangeString
import Derived.Laws.RangeAny
import Derived.Lib.SlicesS

/-
  A copy of a TableData in new memory. Written by genpair.py.
-/
namespace Go.Proofs.YtlikmgkjilmjpaaGreat
open Go.RowKit

theorem infoDd : (Tryz.prog.info? 66).map (fun i => (i.zero, i.size, i.bytes)) = some (some (.agg #[.string ⟨#[]⟩, .slice none 0 0]), 2, 40) := by kernel_rfl

set_option maxHeartbeats 1600000 in
set_option maxRecDepth 100000 in
theorem toDd_any (x : Dd) (w : World) (cs : List Value) (h : kDd.R w x cs) (hw : wDd x ≤ 1048576) : Calls Tryz.prog 54 #[.agg cs.toArray] w (MadeK kDd x (fun cs => .agg cs.toArray) w) := by
  obtain ⟨TA, ta, td, rfl, hs, hy⟩ := kDd_open h
  obtain ⟨W1, hW1⟩ : ∃ W1, ((w.alloc (.cells #[.string x.1, .slice TA ta td] 91)).alloc (.cells #[.string ⟨#[]⟩, .slice none 0 0] 66)).alloc (.cells #[.string x.1, .slice none 0 0] 66) = W1 := ⟨_, rfl⟩
  obtain ⟨H, hH⟩ : ∃ H, w.heap.size = H := ⟨_, rfl⟩
  have b0 : Box2 W1 H 91 (.string x.1) (.slice TA ta td) := by rw [← hW1, ← hH]; exact ((Box2.new w _ _ _).alloc _).alloc _
  have b1 : Box2 W1 (H + 1) 66 (.string ⟨#[]⟩) (.slice none 0 0) := by
    rw [← hW1, ← hH]
    have := (Box2.new (w.alloc (.cells #[.string x.1, .slice TA ta td] 91)) 66 (.string ⟨#[]⟩) (.slice none 0 0)).alloc (.cells #[.string x.1, .slice none 0 0] 66)
    simpa using this
  have b2 : Box2 W1 (H + 1 + 1) 66 (.string x.1) (.slice none 0 0) := by
    rw [← hW1, ← hH]
    have := Box2.new ((w.alloc (.cells #[.string x.1, .slice TA ta td] 91)).alloc (.cells #[.string ⟨#[]⟩, .slice none 0 0] 66)) 66 (.string x.1) (.slice none 0 0)
    simpa using this
  have hb1 : Below w.heap.size w W1 := by rw [← hW1]; exact (((Below.refl _ _).alloc (Nat.le_refl _) _).alloc (by simp) _).alloc (by simp; omega) _
  have hs1 : W1.heap.size = H + 1 + 1 + 1 := by rw [← hW1, ← hH]; simp
  have hwy : (wL wv) x.2 ≤ 1048576 := by unfold wDd at hw; omega
  have HC := Lib.hid (toVas_K x.2 W1 ((kVa.list 47).keep hy hb1) hwy)
  have HMK : Hid (∀ (U : World) (rs : List Value) (fp : List Nat), (kVa.list 47).O U x.2 rs fp → (∀ b ∈ fp, w.heap.size ≤ b ∧ b < U.heap.size) → Below w.heap.size w U → MadeK kDd x (fun cs => .agg cs.toArray) w (.returned (.agg (.string x.1 :: rs).toArray)) U) := Lib.hid (fun U rs fp h1 h2 h3 => ⟨_, fp, rfl, kDd_omake hs h1, h2, h3⟩)
  have HW1 := Lib.hid hW1
  have HB1 := Lib.hid hb1
  have HS1 := Lib.hid hs1
  have HH := Lib.hid hH
  have B1 := Lib.hid b1
  have B2 := Lib.hid b2
  have x0 := b0.c0
  have x1 := b0.c1
  clear h hy hW1 b0 b1 b2 hb1 hs1 hw hwy
  generalize x.1 = nm at HW1 HMK B2 hs x0 ⊢
  go_enter Tryz.func54, Tryz.ntmps54
  go_wp2_with fail
  rw [HW1.out]
  go_wp2_with fail
  refine HC.out.mono ?_
  rintro e w2 ⟨rs, fp, he, ho, hfp, hb2⟩
  obtain ⟨RA, ra, rd, rfl⟩ := kVas_shape ((kVa.list 47).reads ho)
  subst he
  have hz2 := hb2.size
  have hz1 := HS1.out
  have t1 := B1.out.under hb2 (by omega)
  have t2 := B2.out.under hb2 (by omega)
  have g0 := t2.c0
  have g1 := t2.c1
  have gf1 := t2.free 1
  have k0 := t1.c0
  have k1 := t1.c1
  have kf0 := t1.free 0
  have kf1 := t1.free 1
  have HO := Lib.hid ho
  have HFP := Lib.hid hfp
  have HB2 := Lib.hid hb2
  have T1 := Lib.hid t1
  have HZ2 := Lib.hid hz2
  clear ho hfp hb2 t1 t2 hz2 hz1 x0 x1
  go_wp2_with fail
  generalize hV : (w2.setCell ⟨H + 1 + 1, 1, none⟩ (.slice RA ra rd)) = V
  generalize hU : ((V.setCell ⟨H + 1, 0, none⟩ (.string nm)).setCell ⟨H + 1, 1, none⟩ (.slice RA ra rd)) = U
  have hg5 : w2.grownBy V (some (H + 1 + 1)) := by rw [← hV]; exact grown_set (World.grownBy.refl _ _) _
  have hg6 : V.grownBy U (some (H + 1)) := by rw [← hU]; exact grown_set (grown_set (World.grownBy.refl _ _) _) _
  have u1 : Box2 U (H + 1) 66 (.string nm) (.slice RA ra rd) := by
    rw [← hU, ← hV]
    exact (((T1.out.far (by show H + 1 ≠ H + 1 + 1; omega) _).set0 _).set1 _)
  have hww := HH.out
  have hz1 := HS1.out
  have hz2 := HZ2.out
  have hs5 := hg5.size
  have hs6 := hg6.size
  have hne : ∀ b ∈ fp, H + 1 + 1 < b := fun b hb => by have := (HFP.out b hb).1; omega
  have hO := (kVa.list 47).okeep ((kVa.list 47).okeep HO.out hg5 (fun b hb e => by injection e with e; have := hne b hb; omega)) hg6 (fun b hb e => by injection e with e; have := hne b hb; omega)
  have hbU : Below w.heap.size w U := ((HB1.out.trans (HB2.out.mono HB1.out.size)).grown hg5 (HB1.out.trans (HB2.out.mono HB1.out.size)).size (fun q hq => by injection hq with hq; omega)).grown hg6 (by have := (HB1.out.trans (HB2.out.mono HB1.out.size)).size; omega) (fun q hq => by injection hq with hq; omega)
  have q0 := u1.c0
  have q1 := u1.c1
  have HR := Lib.hid (HMK.out U _ fp hO (fun b hb => by have := HFP.out b hb; omega) hbU)
  clear hO hbU hne hg5 hg6 hV hU u1
  exact bodyPost_ret (v := .agg #[.string nm, .slice RA ra rd]) (by simp [results, Tryz.results54, go_sem, q0, q1]) rfl HR.out

set_option maxHeartbeats 1600000 in
set_option maxRecDepth 100000 in
theorem toDdS_any (xs : List Dd) (w : World) (A : Option Addr) (d : Nat) (hp : RL kDd w A xs) (hw : wL wDd xs ≤ 1048576) : Calls Tryz.prog 31 #[.slice A xs.length d] w (MadeL' kDd 66 xs w) := by
  obtain ⟨i0, hi, hz0, hz1, hz2⟩ := info_parts infoDd
  have hl : xs.length ≤ 1048576 := by unfold wL at hw; omega
  have HP := Lib.hid hp
  have HWT := Lib.hid hw
  clear hp hw
  go_enter Tryz.func31, Tryz.ntmps31
  go_wp2_with (at_make; refine wpList_make_full _ rfl _ _ 35 rfl w.heap.size 66 i0 (.agg #[.string ⟨#[]⟩, .slice none 0 0]) 2 Tryz.underlying35 hi hz0 hz1 _ _ _ _ xs.length rfl rfl rfl rfl (by rw [hz2]; omega) (by unfold maxLen; omega) (Nat.le_refl _) ?_; intro w0 hown0 hgrow0)
  have hb0 : Below w.heap.size w w0 := (Below.refl _ _).grown hgrow0 (Nat.le_refl _) (fun k hk => by cases hk)
  go_loopw [4] (fun i wr => ToLInv kDd 66 xs w i wr) (fun i _ => xs.length - (intOf i).toNat)
  case atStart => exact tolinv_zero kDd 66 xs hown0 hb0
  case round =>
    obtain ⟨k, cells, fs, hk, rfl, hown, hkid, hnd, hbd, hb⟩ := hrel
    have HO := Lib.hid hown
    have HK := Lib.hid hkid
    have HN := Lib.hid hnd
    have HBD := Lib.hid hbd
    have HB := Lib.hid hb
    clear hown hkid hnd hbd
    by_cases hlt : k < xs.length
    · obtain ⟨ad, p, c0, c1, rfl, hpe, hrt, q0, q1⟩ := rl_at2 kDd_n HP.out hb hlt
      have HC := Lib.hid (toDd_any xs[k] wr [c0, c1] hrt (wL_le hlt HWT.out).1)
      clear hrt
      go_wp2_with fail
      refine HC.out.mono ?_
      rintro e w2 ⟨rs, fp, he, hot, hfp, hb2⟩
      obtain ⟨RA, ra, rd, hrs, _, _⟩ := kDd_oopen hot
      subst hrs
      subst he
      generalize xs[k].1 = nm at hot ⊢
      have ho2 : w2.ownsRow w.heap.size 66 2 (.slice (some ⟨w.heap.size, 0, none⟩) xs.length xs.length) xs.length cells := HO.out.kept (row := none) ⟨hb2.os, hb2.tape, hb2.output, hb2.size, fun i hi _ => hb2.block i hi⟩ (.inr (by simp [Value.ownBlock]))
      have hxl : cells.length = xs.length * 2 := ho2.1
      have m0 : w2.cell? ⟨w.heap.size, k * 2, none⟩ = some (cells[k * 2]'(by omega)) := by rw [ho2.cellAt _ (by omega)]; exact List.getElem?_eq_getElem _
      have m1 : w2.cell? ⟨w.heap.size, k * 2 + 1, none⟩ = some (cells[k * 2 + 1]'(by omega)) := by rw [ho2.cellAt _ (by omega)]; exact List.getElem?_eq_getElem _
      have f0 := ho2.frozenAt (k * 2)
      have f1 := ho2.frozenAt (k * 2 + 1)
      have HR : Hid (∀ i, i = Value.int .i64 ((k + 1 : Nat) : Int) → ToLInv kDd 66 xs w i (store2 w2 w.heap.size k (.string nm) (.slice RA ra rd))) := fun i hi => tolinv_store2 kDd_n hlt hi HO.out HK.out HN.out HBD.out HB.out hb2 hot hfp
      clear hot hfp hb2 ho2 hb
      go_wp2_with fail
      go_roundw
      case rel => exact HR.out _ (by go_num)
      case measure => simp [intOf]; omega
    · have he : k = xs.length := by omega
      subst he
      have HR := Lib.hid (tolinv_done (a := kDd) (e := 66) (xs := xs) (w := w) (wr := wr) (by omega) ⟨_, cells, fs, Nat.le_refl _, rfl, HO.out, HK.out, HN.out, HBD.out, HB.out⟩)
      clear HO HK HN HBD hb
      go_wp2_with fail
      go_ret
      exact HR.out
end Go.Proofs.YtlikmgkjilmjpaaGreat

/-
  The comparison of a TableData with itself, wherever the two lie. Written by genpair.py.
-/
namespace Go.Proofs.YtlikmgkjilmjpaaGreat
open Go.RowKit

set_option maxHeartbeats 800000 in
set_option maxRecDepth 100000 in
theorem eqDd_same (x : Dd) (w : World) (cs ds : List Value) (h : kDd.R w x cs) (h' : kDd.R w x ds) : Calls Tryz.prog 61 #[.agg cs.toArray, .agg ds.toArray] w (LawYes w) := by
  obtain ⟨TA, ta, td, rfl, hs, hy⟩ := kDd_open h
  obtain ⟨TA', ta', td', rfl, _, hy'⟩ := kDd_open h'
  obtain ⟨W1, hW1⟩ : ∃ W1, (w.alloc (.cells #[.string x.1, .slice TA ta td] 66)).alloc (.cells #[.string x.1, .slice TA' ta' td'] 66) = W1 := ⟨_, rfl⟩
  obtain ⟨H, hH⟩ : ∃ H, w.heap.size = H := ⟨_, rfl⟩
  have b0 : Box2 W1 H 66 (.string x.1) (.slice TA ta td) := by rw [← hW1, ← hH]; exact (Box2.new w _ _ _).alloc _
  have b1 : Box2 W1 (H + 1) 66 (.string x.1) (.slice TA' ta' td') := by
    rw [← hW1, ← hH]
    have := Box2.new (w.alloc (.cells #[.string x.1, .slice TA ta td] 66)) 66 (.string x.1) (.slice TA' ta' td')
    simpa using this
  have hb1 : Below w.heap.size w W1 := by rw [← hW1]; exact ((Below.refl _ _).alloc (Nat.le_refl _) _).alloc (by simp) _
  have HC := Lib.hid (eqVas_K x.2 W1 ((kVa.list 47).keep hy hb1) ((kVa.list 47).keep hy' hb1))
  have HW1 := Lib.hid hW1
  have HB1 := Lib.hid hb1
  have x0 := b0.c0
  have x1 := b0.c1
  have y0 := b1.c0
  have y1 := b1.c1
  generalize x.1 = nm at HW1 x0 y0 hs ⊢
  clear h h' hy hy' hW1 b0 b1 hb1
  go_enter Tryz.func61, Tryz.ntmps61
  go_wp2_with fail
  rw [HW1.out]
  go_wp2_with fail
  refine HC.out.mono ?_
  rintro e w2 ⟨rfl, hb2⟩
  have HB2 := Lib.hid (HB1.out.trans (hb2.mono HB1.out.size))
  clear hb2
  go_wp2_with fail
  go_ret
  exact ⟨rfl, HB2.out⟩

set_option maxHeartbeats 800000 in
set_option maxRecDepth 100000 in
theorem eqDdS_same (xs : List Dd) (w : World) (A B : Option Addr) (c d : Nat) (hA : RL kDd w A xs) (hB : RL kDd w B xs) (hl : xs.length ≤ 9223372036854775807) :
    Calls Tryz.prog 37 #[.slice A xs.length c, .slice B xs.length d] w (LawYes w) := by
  have HA := Lib.hid hA
  have HB := Lib.hid hB
  clear hA hB
  go_enter Tryz.func37, Tryz.ntmps37
  go_wp2_with fail
  go_loopw [5] (fun i wr => ∃ k : Nat, k ≤ xs.length ∧ i = .int .i64 k ∧ Below w.heap.size w wr) (fun i _ => xs.length - (intOf i).toNat)
  case atStart => exact ⟨0, Nat.zero_le _, rfl, Below.refl _ _⟩
  case round =>
    obtain ⟨k, hk, rfl, hb⟩ := hrel
    by_cases hlt : k < xs.length
    · obtain ⟨ad, p, c0, c1, rfl, hpe, hr, q0, q1⟩ := rl_at2 kDd_n HA.out hb hlt
      obtain ⟨bd, p', d0, d1, rfl, hpe', hr', q0', q1'⟩ := rl_at2 kDd_n HB.out hb hlt
      have HR := Lib.hid hr
      have HR' := Lib.hid hr'
      have HBW := Lib.hid hb
      clear hr hr' hb
      go_wp2_with fail
      go_still_tail 8, (by kernel_rfl)
      change wpList _ _ _ _ _ wr.drew
      have hd : Below wr.heap.size wr wr.drew := (Below.refl _ _).drew
      have HC := Lib.hid (eqDd_same xs[k] wr.drew [c0, c1] [d0, d1] (kDd.keep HR.out hd) (kDd.keep HR'.out hd))
      have HB2 := Lib.hid (HBW.out.trans (hd.mono HBW.out.size))
      clear hd
      go_wp2_with fail
      refine HC.out.mono ?_
      rintro e w2 ⟨rfl, hb2⟩
      have HB3 := Lib.hid (HB2.out.trans (hb2.mono HB2.out.size))
      clear hb2
      go_wp2_with fail
      go_roundw
      case rel => exact ⟨k + 1, hlt, by go_num, HB3.out⟩
      case measure => simp [intOf]; omega
    · go_wp2_with fail
      go_ret
      exact ⟨rfl, hb⟩
end Go.Proofs.YtlikmgkjilmjpaaGreat

/-
  The laws' functions on a DB. Written by genwrap.py.
-/
namespace Go.Proofs.YtlikmgkjilmjpaaGreat
open Go.RowKit

set_option maxHeartbeats 800000 in
theorem szDB_any (t : Db) (w : World) (cs : List Value) (left : Int) (h : RDb w t cs) (h0 : 0 ≤ left) (h1 : left ≤ 1048576) : Calls Tryz.prog 6 #[.agg cs.toArray, .int .i64 left] w (SzV (wDb t) left w) := by
  obtain ⟨A, d, rfl, hl, _, hp⟩ := h.open
  obtain ⟨W1, hW1⟩ : ∃ W1, w.alloc (.cells #[.slice A t.length d] 27) = W1 := ⟨_, rfl⟩
  obtain ⟨H, hH⟩ : ∃ H, w.heap.size = H := ⟨_, rfl⟩
  have hbox : Box1 W1 H 27 (.slice A t.length d) := by rw [← hW1, ← hH]; exact Box1.new w _ _
  have hb0 : Below w.heap.size w W1 := by rw [← hW1]; exact (Below.refl _ _).alloc (Nat.le_refl _) _
  have HC := Lib.hid (szDdS_any t W1 A d left (hp.keep hb0) hl h0 h1)
  have HW1 := Lib.hid hW1
  have HB0 := Lib.hid hb0
  have x0 := hbox.c0
  have HWX : Hid (wDb t = wL wDd t) := Lib.hid rfl
  generalize wDb t = wx at HWX ⊢
  generalize wL wDd t = wy at HWX HC
  generalize t.length = n at HC HW1 x0 ⊢
  clear h hp hl hW1 hbox hb0
  go_enter Tryz.func6, Tryz.ntmps6
  go_wp2_with fail
  rw [HW1.out]
  go_wp2_with fail
  refine HC.out.mono ?_
  rintro e w2 ⟨r, rfl, hs1, hs2, hs3, hb2⟩
  have HS3 := Lib.hid hs3
  have HB2 := Lib.hid (HB0.out.trans (hb2.mono HB0.out.size))
  clear hs3 hb2
  by_cases hz : r < 0
  · go_wp2_with fail
    go_ret
    exact ⟨-1, rfl, by omega, by omega, by omega, HB2.out⟩
  · go_wp2_with fail
    go_ret
    exact ⟨r, rfl, by omega, by omega, fun _ => by rw [HWX.out]; exact HS3.out (by omega), HB2.out⟩

set_option maxHeartbeats 1600000 in
set_option maxRecDepth 100000 in
theorem toDB_any (t : Db) (w : World) (cs : List Value) (h : RDb w t cs) (hw : wDb t ≤ 1048576) : Calls Tryz.prog 10 #[.agg cs.toArray] w (MadeDb t w) := by
  obtain ⟨A, d, rfl, hl, _, hp⟩ := h.open
  obtain ⟨W1, hW1⟩ : ∃ W1, ((w.alloc (.cells #[.slice A t.length d] 27)).alloc (.cells #[.slice none 0 0] 37)).alloc (.cells #[.slice none 0 0] 37) = W1 := ⟨_, rfl⟩
  obtain ⟨H, hH⟩ : ∃ H, w.heap.size = H := ⟨_, rfl⟩
  have b0 : Box1 W1 H 27 (.slice A t.length d) := by rw [← hW1, ← hH]; exact ((Box1.new w _ _).alloc _).alloc _
  have b1 : Box1 W1 (H + 1) 37 (.slice none 0 0) := by
    rw [← hW1, ← hH]
    have := (Box1.new (w.alloc (.cells #[.slice A t.length d] 27)) 37 (.slice none 0 0)).alloc (.cells #[.slice none 0 0] 37)
    simpa using this
  have b2 : Box1 W1 (H + 1 + 1) 37 (.slice none 0 0) := by
    rw [← hW1, ← hH]
    have := Box1.new ((w.alloc (.cells #[.slice A t.length d] 27)).alloc (.cells #[.slice none 0 0] 37)) 37 (.slice none 0 0)
    simpa using this
  have hb1 : Below w.heap.size w W1 := by rw [← hW1]; exact (((Below.refl _ _).alloc (Nat.le_refl _) _).alloc (by simp) _).alloc (by simp; omega) _
  have hs1 : W1.heap.size = H + 1 + 1 + 1 := by rw [← hW1, ← hH]; simp
  have HC := Lib.hid (toDdS_any t W1 A d (hp.keep hb1) hw)
  have HMK : Hid (∀ (U : World) (A5 : Option Addr) (d5 : Nat) (fp : List Nat), OL kDd 66 U t (.slice A5 t.length d5) fp → (∀ b ∈ fp, w.heap.size ≤ b ∧ b < U.heap.size) → Below w.heap.size w U → MadeDb t w (.returned (.agg #[.slice A5 t.length d5])) U) := Lib.hid (fun U A5 d5 fp h1 h2 h3 => ⟨A5, d5, fp, rfl, ODb.ol.2 h1, h2, h3⟩)
  have HW1 := Lib.hid hW1
  have HB1 := Lib.hid hb1
  have HS1 := Lib.hid hs1
  have HH := Lib.hid hH
  have B1 := Lib.hid b1
  have B2 := Lib.hid b2
  have x0 := b0.c0
  clear h hp hl hW1 b0 b1 b2 hb1 hs1 hw
  go_enter Tryz.func10, Tryz.ntmps10
  go_wp2_with fail
  rw [HW1.out]
  go_wp2_with fail
  refine HC.out.mono ?_
  rintro e w2 ⟨A5, d5, fp, rfl, ho, hfp, hb2⟩
  have hz2 := hb2.size
  have hz1 := HS1.out
  have t1 := B1.out.under hb2 (by omega)
  have t2 := B2.out.under hb2 (by omega)
  have g0 := t2.c0
  have gf0 := t2.free 0
  have k0 := t1.c0
  have kf0 := t1.free 0
  have HO := Lib.hid ho
  have HFP := Lib.hid hfp
  have HB2 := Lib.hid hb2
  have T1 := Lib.hid t1
  have HZ2 := Lib.hid hz2
  clear ho hfp hb2 t1 t2 hz2 hz1 x0
  obtain ⟨n, hn⟩ : ∃ n, t.length = n := ⟨_, rfl⟩
  rw [hn] at HMK HO ⊢
  clear hn
  go_wp2_with fail
  generalize hV : w2.setCell ⟨H + 1 + 1, 0, none⟩ (.slice A5 n d5) = V
  generalize hU : V.setCell ⟨H + 1, 0, none⟩ (.slice A5 n d5) = U
  have hg5 : w2.grownBy V (some (H + 1 + 1)) := by rw [← hV]; exact grown_set (World.grownBy.refl _ _) _
  have hg6 : V.grownBy U (some (H + 1)) := by rw [← hU]; exact grown_set (World.grownBy.refl _ _) _
  have u1 : Box1 U (H + 1) 37 (.slice A5 n d5) := by
    rw [← hU, ← hV]
    exact (T1.out.far (by show H + 1 ≠ H + 1 + 1; omega) _).set0 _
  have hww := HH.out
  have hz1 := HS1.out
  have hz2 := HZ2.out
  have hs5 := hg5.size
  have hs6 := hg6.size
  have hne : ∀ b ∈ fp, H + 1 + 1 < b := fun b hb => by have := (HFP.out b hb).1; omega
  have hO := OL.held (OL.held HO.out (K := fun i => some i ≠ some (H + 1 + 1)) ⟨hg5.os, hg5.tape, hg5.output, hg5.size, fun i hi hd => hg5.block i hi hd⟩ (fun b hb e => by injection e with e; have := hne b hb; omega)) (K := fun i => some i ≠ some (H + 1)) ⟨hg6.os, hg6.tape, hg6.output, hg6.size, fun i hi hd => hg6.block i hi hd⟩ (fun b hb e => by injection e with e; have := hne b hb; omega)
  have hbU : Below w.heap.size w U := ((HB1.out.trans (HB2.out.mono HB1.out.size)).grown hg5 (HB1.out.trans (HB2.out.mono HB1.out.size)).size (fun q hq => by injection hq with hq; omega)).grown hg6 (by have := (HB1.out.trans (HB2.out.mono HB1.out.size)).size; omega) (fun q hq => by injection hq with hq; omega)
  have q0 := u1.c0
  have HR := Lib.hid (HMK.out U A5 d5 fp hO (fun b hb => by have := HFP.out b hb; omega) hbU)
  clear hO hbU hne hg5 hg6 hV hU u1
  exact bodyPost_ret (v := .agg #[.slice A5 n d5]) (by simp [results, Tryz.results10, go_sem, q0]) rfl HR.out

set_option maxHeartbeats 800000 in
set_option maxRecDepth 100000 in
theorem eqDB_same (t : Db) (w : World) (cs ds : List Value) (h : RDb w t cs) (h' : RDb w t ds) : Calls Tryz.prog 13 #[.agg cs.toArray, .agg ds.toArray] w (LawYes w) := by
  obtain ⟨A, c, rfl, hl, _, hp⟩ := h.open
  obtain ⟨B, d, rfl, _, _, hp'⟩ := h'.open
  obtain ⟨W1, hW1⟩ : ∃ W1, (w.alloc (.cells #[.slice A t.length c] 37)).alloc (.cells #[.slice B t.length d] 37) = W1 := ⟨_, rfl⟩
  obtain ⟨H, hH⟩ : ∃ H, w.heap.size = H := ⟨_, rfl⟩
  have b0 : Box1 W1 H 37 (.slice A t.length c) := by rw [← hW1, ← hH]; exact (Box1.new w _ _).alloc _
  have b1 : Box1 W1 (H + 1) 37 (.slice B t.length d) := by
    rw [← hW1, ← hH]
    have := Box1.new (w.alloc (.cells #[.slice A t.length c] 37)) 37 (.slice B t.length d)
    simpa using this
  have hb1 : Below w.heap.size w W1 := by rw [← hW1]; exact ((Below.refl _ _).alloc (Nat.le_refl _) _).alloc (by simp) _
  have HC := Lib.hid (eqDdS_same t W1 A B c d (hp.keep hb1) (hp'.keep hb1) hl)
  have HW1 := Lib.hid hW1
  have HB1 := Lib.hid hb1
  have x0 := b0.c0
  have y0 := b1.c0
  generalize t.length = n at HC HW1 x0 y0 ⊢
  clear h h' hp hp' hl hW1 b0 b1 hb1
  go_enter Tryz.func13, Tryz.ntmps13
  go_wp2_with fail
  rw [HW1.out]
  go_wp2_with fail
  refine HC.out.mono ?_
  rintro e w2 ⟨rfl, hb2⟩
  have HB2 := Lib.hid (HB1.out.trans (hb2.mono HB1.out.size))
  clear hb2
  go_wp2_with fail
  go_ret
  exact ⟨rfl, HB2.out⟩
end Go.Proofs.YtlikmgkjilmjpaaGreat

/-
  The walks of the laws' heldTypeS, heldType.
-/
namespace Go.Proofs.YtlikmgkjilmjpaaGreat
open Go.RowKit

theorem HeldK.le {k k' : Int} {ks : List Ty} (h : HeldK k ks k') : k ≤ k' := by
  induction h with
  | nil => exact Int.le_refl _
  | cons => omega
theorem HeldK.split {k k' : Int} {t : Ty} {ks : List Ty} (h : HeldK k (t :: ks) k') : ∃ (n : Nat) (cs : List Ty) (k1 : Int), t = .node ⟨k, marksB (k + 1) n⟩ cs ∧ HeldK (k + 1 + n) cs k1 ∧ HeldK k1 ks k' := by
  cases h with
  | cons _ k1 _ n cs _ h1 h2 => exact ⟨n, cs, k1, rfl, h1, h2⟩
theorem HeldK.done {k k' : Int} (h : HeldK k [] k') : k = k' := by cases h; rfl
def CountsI (v : Int) (w : World) (e : Ending) (w' : World) : Prop := e = .returned (.int .i64 v) ∧ Below w.heap.size w w'
end Go.Proofs.YtlikmgkjilmjpaaGreat

/-
  The model's search for a kind in a type (l3Has), and its count down by nodes (l3Left).
-/
namespace Go.Proofs.YtlikmgkjilmjpaaGreat
open Go.RowKit

/-- an answer that is true or false; all that was there is as it was -/
def Truth (b : Bool) (w : World) (e : Ending) (w' : World) : Prop := e = .returned (.bool b) ∧ Below w.heap.size w w'

/-- does a kind occur? -/
def Tr.has (q : Int) : Ty → Bool
  | .node a ks => (ks.attach.any fun ⟨t, _⟩ => t.has q) || decide (a.kind = q)
theorem has_node (q : Int) (a : TyA) (ks : List Ty) : Tr.has q (.node a ks) = (ks.any (Tr.has q) || decide (a.kind = q)) := by
  rw [Tr.has]
  congr 1
  rw [Bool.eq_iff_iff, List.any_eq_true, List.any_eq_true]
  constructor
  · rintro ⟨⟨t, ht⟩, _, h⟩; exact ⟨t, ht, h⟩
  · rintro ⟨t, ht, h⟩; exact ⟨⟨t, ht⟩, List.mem_attach _ _, h⟩
/-- none of the first k answers yes -/
def NoTo {β : Type} (f : β → Bool) (ks : List β) (k : Nat) : Prop := ∀ j (h : j < ks.length), j < k → f ks[j] = false
theorem noTo_zero {β : Type} (f : β → Bool) (ks : List β) : NoTo f ks 0 := fun j _ h => by omega
theorem noTo_succ {β : Type} {f : β → Bool} {ks : List β} {k : Nat} (h : NoTo f ks k) (hk : k < ks.length) (hf : f ks[k] = false) : NoTo f ks (k + 1) := by
  intro j hj hlt
  by_cases e : j = k
  · subst e; exact hf
  · exact h j hj (by omega)
theorem noTo_all {β : Type} {f : β → Bool} {ks : List β} (h : NoTo f ks ks.length) : ks.any f = false := by
  rw [Bool.eq_false_iff, Ne, List.any_eq_true]
  rintro ⟨t, ht, hf⟩
  obtain ⟨j, hj, rfl⟩ := List.getElem_of_mem ht
  rw [h j hj hj] at hf
  cases hf
theorem any_at {β : Type} {f : β → Bool} {ks : List β} {k : Nat} (hk : k < ks.length) (hf : f ks[k] = true) : ks.any f = true := List.any_eq_true.2 ⟨_, List.getElem_mem hk, hf⟩

set_option maxHeartbeats 800000 in
theorem l3Has_any (q : Int) : ∀ (t : Ty) (w : World) (cs : List Value), RTy w t cs → Calls Tryz.prog 84 #[.agg cs.toArray, .int .i64 q] w (Truth (t.has q) w) := by
  refine Tr.ind ?_
  intro a ks ih w cs h
  obtain ⟨L, c, A, d, rfl, k1, k2, k3, k4, k5, k6, hp⟩ := h.out
  rw [has_node]
  obtain ⟨W1, hW1⟩ : ∃ W1, w.alloc (.cells #[.int .i64 a.kind, .slice L a.labels.length c, .slice A ks.length d] 96) = W1 := ⟨_, rfl⟩
  have hb0 : Below w.heap.size w W1 := by rw [← hW1]; exact (Below.refl _ _).alloc (Nat.le_refl _) _
  obtain ⟨H, hH⟩ : ∃ H, w.heap.size = H := ⟨_, rfl⟩
  have b0 : Box3 W1 H 96 (.int .i64 a.kind) (.slice L a.labels.length c) (.slice A ks.length d) := by rw [← hW1, ← hH]; exact Box3.new w _ _ _ _
  have HP := Lib.hid hp
  have HI := Lib.hid ih
  have HB0 := Lib.hid hb0
  have B0 := Lib.hid b0
  have HW1 := Lib.hid hW1
  clear hp ih hb0 b0 hW1 k1 k4 k5 h
  go_enter Tryz.func84, Tryz.ntmps84
  go_wp2_with fail
  rw [HW1.out]
  go_loopw [5] (fun i wr => ∃ k : Nat, k ≤ ks.length ∧ i = .int .i64 k ∧ NoTo (Tr.has q) ks k ∧ Below W1.heap.size W1 wr) (fun i _ => ks.length - (intOf i).toNat)
  case atStart => exact ⟨0, Nat.zero_le _, rfl, noTo_zero _ _, Below.refl _ _⟩
  case round =>
    obtain ⟨k, hk, rfl, hno, hb⟩ := hrel
    have hbw := HB0.out.trans (hb.mono HB0.out.size)
    have bk := B0.out.under hb B0.out.lt
    have hbx := bk.c2
    by_cases hlt : k < ks.length
    · obtain ⟨ad, p, c0, c1, c2, rfl, hpe, hr, q0, q1, q2⟩ := kid_at HP.out hbw hlt
      have hc := HI.out ks[k] (List.getElem_mem hlt) wr [c0, c1, c2] hr
      have HC := Lib.hid hc
      have HN := Lib.hid hno
      have HBW := Lib.hid hbw
      clear hc hr hno bk
      go_wp2_with fail
      refine HC.out.mono ?_
      rintro e w2 ⟨rfl, hb2⟩
      have hb3 := hb.trans (hb2.mono hb.size)
      have HB4 := Lib.hid (HBW.out.trans (hb2.mono HBW.out.size))
      by_cases hf : Tr.has q ks[k] = true
      · have hR : Truth (ks.any (Tr.has q) || decide (a.kind = q)) w (.returned (.bool true)) w2 := ⟨by rw [any_at hlt hf]; rfl, HB4.out⟩
        have HR := Lib.hid hR
        rw [hf]
        clear hR hf
        go_wp2_with fail
        go_ret
        exact HR.out
      · have hf' : Tr.has q ks[k] = false := by simpa using hf
        have HN2 := Lib.hid (noTo_succ HN.out hlt hf')
        rw [hf']
        clear hf hf'
        go_wp2_with fail
        go_roundw
        case rel => exact ⟨k + 1, hlt, by go_num, HN2.out, hb3⟩
        case measure => simp [intOf]; omega
    · have he : k = ks.length := by omega
      have HR : Hid (Truth (ks.any (Tr.has q) || decide (a.kind = q)) w (.returned (.bool (decide (a.kind = q)))) wr) := by
        rw [noTo_all (he ▸ hno), Bool.false_or]
        exact ⟨rfl, hbw⟩
      have hbx0 := bk.c0
      clear he hno bk
      go_wp2_with fail
      go_ret
      exact HR.out

/-- what is left of a number of nodes, -1: there were more -/
def Left (n : Nat) (left : Int) (w : World) (e : Ending) (w' : World) : Prop := ∃ r : Int, e = .returned (.int .i64 r) ∧ -1 ≤ r ∧ r ≤ left ∧ (0 ≤ r → r + n = left) ∧ (r < 0 → left < n) ∧ Below w.heap.size w w'

set_option maxHeartbeats 800000 in
theorem l3Left_any : ∀ (t : Ty) (w : World) (cs : List Value) (left : Int), RTy w t cs → 0 ≤ left → left ≤ 1048577 → Calls Tryz.prog 97 #[.agg cs.toArray, .int .i64 left] w (Left t.size left w) := by
  refine Tr.ind ?_
  intro a ks ih w cs left h hl0 hl1
  obtain ⟨L, c, A, d, rfl, k1, k2, k3, k4, k5, k6, hp⟩ := h.out
  rw [size_node]
  obtain ⟨W1, hW1⟩ : ∃ W1, w.alloc (.cells #[.int .i64 a.kind, .slice L a.labels.length c, .slice A ks.length d] 96) = W1 := ⟨_, rfl⟩
  have hb0 : Below w.heap.size w W1 := by rw [← hW1]; exact (Below.refl _ _).alloc (Nat.le_refl _) _
  obtain ⟨H, hH⟩ : ∃ H, w.heap.size = H := ⟨_, rfl⟩
  have b0 : Box3 W1 H 96 (.int .i64 a.kind) (.slice L a.labels.length c) (.slice A ks.length d) := by rw [← hW1, ← hH]; exact Box3.new w _ _ _ _
  have HP := Lib.hid hp
  have HI := Lib.hid ih
  have HB0 := Lib.hid hb0
  have B0 := Lib.hid b0
  have HW1 := Lib.hid hW1
  clear hp ih hb0 b0 hW1 k1 k4 k5 h
  go_enter Tryz.func97, Tryz.ntmps97
  go_wp2_with fail
  rw [HW1.out]
  go_loopw [1, 5] (fun l i wr => ∃ (k : Nat) (r : Int), k ≤ ks.length ∧ i = .int .i64 k ∧ l = .int .i64 r ∧ -1 ≤ r ∧ r < left ∧ (0 ≤ r → r + 1 + ((ks.take k).map Tr.size).sum = left) ∧ (r < 0 → left < 1 + (((ks.take k).map Tr.size).sum : Nat)) ∧ Below W1.heap.size W1 wr) (fun _ i _ => ks.length - (intOf i).toNat)
  case atStart => exact ⟨0, _, Nat.zero_le _, rfl, rfl, by omega, by omega, by intro _; simp, by intro _; simp; omega, Below.refl _ _⟩
  case round =>
    obtain ⟨k, r, hk, rfl, rfl, hr1, hr2, hr3, hr4, hb⟩ := hrel
    have hbw := HB0.out.trans (hb.mono HB0.out.size)
    have bk := B0.out.under hb B0.out.lt
    have hbx := bk.c2
    by_cases hlt : k < ks.length
    · by_cases hr0 : 0 ≤ r
      · obtain ⟨ad, p, c0, c1, c2, rfl, hpe, hr, q0, q1, q2⟩ := kid_at HP.out hbw hlt
        have hc := HI.out ks[k] (List.getElem_mem hlt) wr [c0, c1, c2] r hr hr0 (by omega)
        have hst := sum_take_succ Tr.size ks k hlt
        have HC := Lib.hid hc
        have HST := Lib.hid hst
        have HR3 := Lib.hid (hr3 hr0)
        clear hc hr hst bk hr3 hr4
        go_wp2_with fail
        refine HC.out.mono ?_
        rintro e w2 ⟨r2, rfl, hq1, hq2, hq3, hq4, hb2⟩
        have hb3 := hb.trans (hb2.mono hb.size)
        have h3 := HR3.out
        have h4 := HST.out
        have HQ3 : Hid (0 ≤ r2 → r2 + 1 + ((ks.take (k + 1)).map Tr.size).sum = left) := fun h => by have := hq3 h; omega
        have HQ4 : Hid (r2 < 0 → left < 1 + (((ks.take (k + 1)).map Tr.size).sum : Nat)) := fun h => by have := hq4 h; omega
        clear hq3 hq4 h3 h4
        go_wp2_with fail
        go_roundw
        case rel => exact ⟨k + 1, r2, hlt, by go_num, rfl, hq1, by omega, HQ3.out, HQ4.out, hb3⟩
        case measure => simp [intOf]; omega
      · have hle := sum_take_le Tr.size ks k
        have HR : Hid (Left (1 + (ks.map Tr.size).sum) left w (.returned (.int .i64 r)) wr) := ⟨r, rfl, hr1, by omega, fun h => absurd h hr0, fun h => by have := hr4 h; omega, hbw⟩
        clear bk hr3 hr4 hle
        go_wp2_with fail
        go_ret
        exact HR.out
    · have he : k = ks.length := by omega
      have HR : Hid (Left (1 + (ks.map Tr.size).sum) left w (.returned (.int .i64 r)) wr) := by
        rw [he, List.take_length] at hr3 hr4
        exact ⟨r, rfl, hr1, by omega, fun h => by have := hr3 h; omega, fun h => by have := hr4 h; omega, hbw⟩
      clear he bk hr3 hr4
      go_wp2_with fail
      go_ret
      exact HR.out
end Go.Proofs.YtlikmgkjilmjpaaGreat

/-
  Whether a text is a name: the model reads its bytes, the program its runes; they give one answer for every text, valid UTF-8 or not.
-/
namespace Go.Proofs.YtlikmgkjilmjpaaGreat
open Go.RowKit

def letN (u : Nat) : Bool := decide (97 ≤ u) && decide (u ≤ 122)
def digN (u : Nat) : Bool := decide (48 ≤ u) && decide (u ≤ 57)
/-- may the byte u stand at place k of a name? -/
def okN (k u : Nat) : Bool := letN u || (decide (k ≠ 0) && digN u)
def nameB (s : ByteArray) : Bool := ((List.range s.size).all fun k => okN k (s.get! k).toNat) && (decide (1 ≤ s.size) && (decide (s.size ≤ 4) && (!(s.toList == [105, 102]) && !(s.toList == [102, 111, 114]))))
def NmTo (s : ByteArray) (k : Nat) : Prop := ∀ j, j < k → okN j (s.get! j).toNat = true
theorem get_bang (s : ByteArray) (k : Nat) (h : k < s.size) : s.get! k = s[k]'h := by
  have := get_at s k h
  simpa using this
theorem nmTo_zero (s : ByteArray) : NmTo s 0 := fun j h => by omega
theorem okN_of {k u : Nat} (h : (97 ≤ u ∧ u ≤ 122) ∨ (k ≠ 0 ∧ 48 ≤ u ∧ u ≤ 57)) : okN k u = true := by
  unfold okN letN digN
  rcases h with ⟨h1, h2⟩ | ⟨h1, h2, h3⟩
  · simp [h1, h2]
  · simp [h1, h2, h3]
theorem okN_not {k u : Nat} (h1 : ¬ (97 ≤ u ∧ u ≤ 122)) (h2 : k = 0 ∨ u < 48 ∨ 57 < u) : okN k u = false := by
  unfold okN letN digN
  have e1 : (decide (97 ≤ u) && decide (u ≤ 122)) = false := by simpa using h1
  rw [e1, Bool.false_or]
  simp
  omega
theorem nmTo_succ {s : ByteArray} {k : Nat} (h : NmTo s k) (hk : k < s.size) (hg : (97 ≤ (s[k]'hk).toNat ∧ (s[k]'hk).toNat ≤ 122) ∨ (k ≠ 0 ∧ 48 ≤ (s[k]'hk).toNat ∧ (s[k]'hk).toNat ≤ 57)) : NmTo s (k + 1) := by
  intro j hj
  by_cases e : j = k
  · subst e
    rw [get_bang s j hk]
    exact okN_of hg
  · exact h j (by omega)
theorem name_no {s : ByteArray} {k : Nat} (hk : k < s.size) (h1 : ¬ (97 ≤ (s[k]'hk).toNat ∧ (s[k]'hk).toNat ≤ 122)) (h2 : k = 0 ∨ (s[k]'hk).toNat < 48 ∨ 57 < (s[k]'hk).toNat) : nameB s = false := by
  have h := okN_not h1 h2
  rw [← get_bang s k hk] at h
  unfold nameB
  have e : ((List.range s.size).all fun k => okN k (s.get! k).toNat) = false := by
    rw [Bool.eq_false_iff, Ne, List.all_eq_true]
    intro hall
    have := hall k (by simpa using hk)
    rw [h] at this
    cases this
  rw [e, Bool.false_and]
theorem name_all {s : ByteArray} (h : NmTo s s.size) : nameB s = (decide (1 ≤ s.size) && (decide (s.size ≤ 4) && (!(s.toList == [105, 102]) && !(s.toList == [102, 111, 114])))) := by
  unfold nameB
  have e : ((List.range s.size).all fun k => okN k (s.get! k).toNat) = true := by
    rw [List.all_eq_true]
    intro j hj
    exact h j (by simpa using hj)
  rw [e, Bool.true_and]
theorem ret_nm {a b : Bool} (h : a = b) : Ending.returned (.bool a) = .returned (.bool b) := by rw [h]

/-- an answer that is true or false, the world as it was -/
def Says (b : Bool) (w : World) (e : Ending) (w' : World) : Prop := e = .returned (.bool b) ∧ w = w'

set_option maxHeartbeats 1600000 in
theorem specName_any (s : ByteArray) (w : World) (hs : s.size ≤ 1048576) : Calls Tryz.prog 67 #[.string s] w (Says (nameB s) w) := by
  go_enter Tryz.func67, Tryz.ntmps67
  go_wp2
  go_loop [3] (fun i => ∃ k : Nat, k ≤ s.size ∧ i = .int .i64 k ∧ NmTo s k) (fun i => s.size - (intOf i).toNat)
  case atStart => exact ⟨0, Nat.zero_le _, rfl, nmTo_zero _⟩
  case round =>
    obtain ⟨k, hk, rfl, hno⟩ := hrel
    by_cases hlt : k < s.size
    · have HN := Lib.hid hno
      clear hno
      by_cases hL : (97 : Int) ≤ (s[k].toNat : Int) ∧ (s[k].toNat : Int) ≤ 122
      · obtain ⟨ha, hb⟩ := hL
        go_wp2
        go_round
        case rel => exact ⟨k + 1, by omega, by go_num, nmTo_succ HN.out hlt (.inl ⟨by omega, by omega⟩)⟩
        case measure => simp [intOf]; omega
      · rcases Nat.eq_zero_or_pos k with rfl | hkp
        · have HX := Lib.hid (name_no hlt (by omega) (.inl rfl))
          by_cases ha : (97 : Int) ≤ (s[0].toNat : Int)
          · have hb : (122 : Int) < (s[0].toNat : Int) := by omega
            have hb' : decide ((s[0].toNat : Int) ≤ 122) = false := by simpa using hb
            clear hL
            go_wp2
            go_ret
            exact ⟨ret_nm HX.out.symm, rfl⟩
          · clear hL
            go_wp2
            go_ret
            exact ⟨ret_nm HX.out.symm, rfl⟩
        · have hk0 : ((k : Int) == 0) = false := by simp; omega
          have hk1 : ¬ k = 0 := by omega
          by_cases ha : (97 : Int) ≤ (s[k].toNat : Int)
          · have hb : (122 : Int) < (s[k].toNat : Int) := by omega
            have hc : (57 : Int) < (s[k].toNat : Int) := by omega
            have hd : (48 : Int) ≤ (s[k].toNat : Int) := by omega
            have hb' : decide ((s[k].toNat : Int) ≤ 122) = false := by simpa using hb
            have HX := Lib.hid (name_no hlt (by omega) (.inr (.inr (by omega))))
            clear hL
            go_wp2
            go_ret
            exact ⟨ret_nm HX.out.symm, rfl⟩
          · clear hL
            by_cases hc : (48 : Int) ≤ (s[k].toNat : Int)
            · by_cases hd : (s[k].toNat : Int) ≤ 57
              · go_wp2
                go_round
                case rel => exact ⟨k + 1, by omega, by go_num, nmTo_succ HN.out hlt (.inr ⟨by omega, by omega, by omega⟩)⟩
                case measure => simp [intOf]; omega
              · have HX := Lib.hid (name_no hlt (by omega) (.inr (.inr (by omega))))
                go_wp2
                go_ret
                exact ⟨ret_nm HX.out.symm, rfl⟩
            · have HX := Lib.hid (name_no hlt (by omega) (.inr (.inl (by omega))))
              go_wp2
              go_ret
              exact ⟨ret_nm HX.out.symm, rfl⟩
    · have he : k = s.size := by omega
      subst he
      have HN := Lib.hid (name_all hno)
      clear hno
      by_cases h1 : (1 : Int) ≤ (s.size : Int)
      · by_cases h4 : (s.size : Int) ≤ 4
        · cases e1 : (s.toList == [105, 102]) <;> cases e2 : (s.toList == [102, 111, 114])
          all_goals
            have HX : Hid (nameB s = (!(s.toList == [105, 102]) && !(s.toList == [102, 111, 114]))) := by
              rw [HN.out]
              simp [show 1 ≤ s.size by omega, show s.size ≤ 4 by omega, Hid]
            rw [e1, e2] at HX
            go_wp2
            go_ret
            exact ⟨ret_nm HX.out.symm, rfl⟩
        · have HX : Hid (nameB s = false) := by
            rw [HN.out]
            simp [show ¬ s.size ≤ 4 by omega, Hid]
          go_wp2
          go_ret
          exact ⟨ret_nm HX.out.symm, rfl⟩
      · have HX : Hid (nameB s = false) := by
          rw [HN.out]
          simp [show ¬ 1 ≤ s.size by omega, Hid]
        go_wp2
        go_ret
        exact ⟨ret_nm HX.out.symm, rfl⟩
end Go.Proofs.YtlikmgkjilmjpaaGreat
