/-
  Merged by program: ToTg.
-/
import Derived.Test.YtlikmgkjilmjpaaC14

/-
  A copy of a Typing in new memory. Written by genpair.py.
-/
namespace Go.Proofs.Ytlikmgkjilmjpaa
open Go.RowKit

theorem infoTg : (Try.prog.info? 89).map (fun i => (i.zero, i.size, i.bytes)) = some (some (.agg #[.string ⟨#[]⟩, .int .i64 0, .slice none 0 0, .slice none 0 0]), 4, 72) := by kernel_rfl

set_option maxHeartbeats 1600000 in
set_option maxRecDepth 100000 in
theorem toTg_any (x : Tg) (w : World) (cs : List Value) (h : kTg.R w x cs) (hw : wTg x ≤ 1048576) : Calls Try.prog 68 #[.agg cs.toArray] w (MadeK kTg x (fun cs => .agg cs.toArray) w) := by
  obtain ⟨tk, TL, TA, tl, tc, ta, td, rfl, hs, hy⟩ := kTg_open h
  obtain ⟨W1, hW1⟩ : ∃ W1, ((w.alloc (.cells #[.string x.1, .int .i64 tk, .slice TL tl tc, .slice TA ta td] 86)).alloc (.cells #[.string ⟨#[]⟩, .int .i64 0, .slice none 0 0, .slice none 0 0] 89)).alloc (.cells #[.string x.1, .int .i64 0, .slice none 0 0, .slice none 0 0] 89) = W1 := ⟨_, rfl⟩
  obtain ⟨H, hH⟩ : ∃ H, w.heap.size = H := ⟨_, rfl⟩
  have b0 : Box4 W1 H 86 (.string x.1) (.int .i64 tk) (.slice TL tl tc) (.slice TA ta td) := by rw [← hW1, ← hH]; exact ((Box4.new w _ _ _ _ _).alloc _).alloc _
  have b1 : Box4 W1 (H + 1) 89 (.string ⟨#[]⟩) (.int .i64 0) (.slice none 0 0) (.slice none 0 0) := by
    rw [← hW1, ← hH]
    have := (Box4.new (w.alloc (.cells #[.string x.1, .int .i64 tk, .slice TL tl tc, .slice TA ta td] 86)) 89 (.string ⟨#[]⟩) (.int .i64 0) (.slice none 0 0) (.slice none 0 0)).alloc (.cells #[.string x.1, .int .i64 0, .slice none 0 0, .slice none 0 0] 89)
    simpa using this
  have b2 : Box4 W1 (H + 1 + 1) 89 (.string x.1) (.int .i64 0) (.slice none 0 0) (.slice none 0 0) := by
    rw [← hW1, ← hH]
    have := Box4.new ((w.alloc (.cells #[.string x.1, .int .i64 tk, .slice TL tl tc, .slice TA ta td] 86)).alloc (.cells #[.string ⟨#[]⟩, .int .i64 0, .slice none 0 0, .slice none 0 0] 89)) 89 (.string x.1) (.int .i64 0) (.slice none 0 0) (.slice none 0 0)
    simpa using this
  have hb1 : Below w.heap.size w W1 := by rw [← hW1]; exact (((Below.refl _ _).alloc (Nat.le_refl _) _).alloc (by simp) _).alloc (by simp; omega) _
  have hs1 : W1.heap.size = H + 1 + 1 + 1 := by rw [← hW1, ← hH]; simp
  have hwy : wt x.2 ≤ 1048576 := by unfold wTg at hw; omega
  have HC := Lib.hid (toTy_K x.2 W1 _ (kTy.keep hy hb1) hwy)
  have HMK : Hid (∀ (U : World) (rs : List Value) (fp : List Nat), kTy.O U x.2 rs fp → (∀ b ∈ fp, w.heap.size ≤ b ∧ b < U.heap.size) → Below w.heap.size w U → MadeK kTg x (fun cs => .agg cs.toArray) w (.returned (.agg (.string x.1 :: rs).toArray)) U) := Lib.hid (fun U rs fp h1 h2 h3 => ⟨_, fp, rfl, kTg_omake hs h1, h2, h3⟩)
  have HW1 := Lib.hid hW1
  have HB1 := Lib.hid hb1
  have HS1 := Lib.hid hs1
  have HH := Lib.hid hH
  have B1 := Lib.hid b1
  have B2 := Lib.hid b2
  have x0 := b0.c0
  have x1 := b0.c1
  have x2 := b0.c2
  have x3 := b0.c3
  clear h hy hW1 b0 b1 b2 hb1 hs1 hw hwy
  generalize x.1 = nm at HW1 HMK B2 hs x0 ⊢
  go_enter Try.func68, Try.ntmps68
  go_wp2_with fail
  rw [HW1.out]
  go_wp2_with fail
  refine HC.out.mono ?_
  rintro e w2 ⟨rs, fp, he, ho, hfp, hb2⟩
  obtain ⟨rk, RL, RA, rl, rc, ra, rd, rfl⟩ := kTy_shape (kTy.reads ho)
  subst he
  have hz2 := hb2.size
  have hz1 := HS1.out
  have t1 := B1.out.under hb2 (by omega)
  have t2 := B2.out.under hb2 (by omega)
  have g0 := t2.c0
  have g1 := t2.c1
  have g2 := t2.c2
  have g3 := t2.c3
  have gf1 := t2.free 1
  have gf2 := t2.free 2
  have gf3 := t2.free 3
  have k0 := t1.c0
  have k1 := t1.c1
  have k2 := t1.c2
  have k3 := t1.c3
  have kf0 := t1.free 0
  have kf1 := t1.free 1
  have kf2 := t1.free 2
  have kf3 := t1.free 3
  have HO := Lib.hid ho
  have HFP := Lib.hid hfp
  have HB2 := Lib.hid hb2
  have T1 := Lib.hid t1
  have HZ2 := Lib.hid hz2
  clear ho hfp hb2 t1 t2 hz2 hz1 x0 x1 x2 x3
  go_wp2_with fail
  generalize hV : (((w2.setCell ⟨H + 1 + 1, 1, none⟩ (.int .i64 rk)).setCell ⟨H + 1 + 1, 2, none⟩ (.slice RL rl rc)).setCell ⟨H + 1 + 1, 3, none⟩ (.slice RA ra rd)) = V
  generalize hU : ((((V.setCell ⟨H + 1, 0, none⟩ (.string nm)).setCell ⟨H + 1, 1, none⟩ (.int .i64 rk)).setCell ⟨H + 1, 2, none⟩ (.slice RL rl rc)).setCell ⟨H + 1, 3, none⟩ (.slice RA ra rd)) = U
  have hg5 : w2.grownBy V (some (H + 1 + 1)) := by rw [← hV]; exact grown_set (grown_set (grown_set (World.grownBy.refl _ _) _) _) _
  have hg6 : V.grownBy U (some (H + 1)) := by rw [← hU]; exact grown_set (grown_set (grown_set (grown_set (World.grownBy.refl _ _) _) _) _) _
  have u1 : Box4 U (H + 1) 89 (.string nm) (.int .i64 rk) (.slice RL rl rc) (.slice RA ra rd) := by
    rw [← hU, ← hV]
    exact (((((((T1.out.far (by show H + 1 ≠ H + 1 + 1; omega) _).far (by show H + 1 ≠ H + 1 + 1; omega) _).far (by show H + 1 ≠ H + 1 + 1; omega) _).set0 _).set1 _).set2 _).set3 _)
  have hww := HH.out
  have hz1 := HS1.out
  have hz2 := HZ2.out
  have hs5 := hg5.size
  have hs6 := hg6.size
  have hne : ∀ b ∈ fp, H + 1 + 1 < b := fun b hb => by have := (HFP.out b hb).1; omega
  have hO := kTy.okeep (kTy.okeep HO.out hg5 (fun b hb e => by injection e with e; have := hne b hb; omega)) hg6 (fun b hb e => by injection e with e; have := hne b hb; omega)
  have hbU : Below w.heap.size w U := ((HB1.out.trans (HB2.out.mono HB1.out.size)).grown hg5 (HB1.out.trans (HB2.out.mono HB1.out.size)).size (fun q hq => by injection hq with hq; omega)).grown hg6 (by have := (HB1.out.trans (HB2.out.mono HB1.out.size)).size; omega) (fun q hq => by injection hq with hq; omega)
  have q0 := u1.c0
  have q1 := u1.c1
  have q2 := u1.c2
  have q3 := u1.c3
  have HR := Lib.hid (HMK.out U _ fp hO (fun b hb => by have := HFP.out b hb; omega) hbU)
  clear hO hbU hne hg5 hg6 hV hU u1
  exact bodyPost_ret (v := .agg #[.string nm, .int .i64 rk, .slice RL rl rc, .slice RA ra rd]) (by simp [results, Try.results68, go_sem, q0, q1, q2, q3]) rfl HR.out

set_option maxHeartbeats 1600000 in
set_option maxRecDepth 100000 in
theorem toTgS_any (xs : List Tg) (w : World) (A : Option Addr) (d : Nat) (hp : RL kTg w A xs) (hw : wL wTg xs ≤ 1048576) : Calls Try.prog 32 #[.slice A xs.length d] w (MadeL' kTg 89 xs w) := by
  obtain ⟨i0, hi, hz0, hz1, hz2⟩ := info_parts infoTg
  have hl : xs.length ≤ 1048576 := by unfold wL at hw; omega
  have HP := Lib.hid hp
  have HWT := Lib.hid hw
  clear hp hw
  go_enter Try.func32, Try.ntmps32
  go_wp2_with (at_make; refine wpList_make_full _ rfl _ _ 52 rfl w.heap.size 89 i0 (.agg #[.string ⟨#[]⟩, .int .i64 0, .slice none 0 0, .slice none 0 0]) 4 Try.underlying52 hi hz0 hz1 _ _ _ _ xs.length rfl rfl rfl rfl (by rw [hz2]; omega) (by unfold maxLen; omega) (Nat.le_refl _) ?_; intro w0 hown0 hgrow0)
  have hb0 : Below w.heap.size w w0 := (Below.refl _ _).grown hgrow0 (Nat.le_refl _) (fun k hk => by cases hk)
  go_loopw [4] (fun i wr => ToLInv kTg 89 xs w i wr) (fun i _ => xs.length - (intOf i).toNat)
  case atStart => exact tolinv_zero kTg 89 xs hown0 hb0
  case round =>
    obtain ⟨k, cells, fs, hk, rfl, hown, hkid, hnd, hbd, hb⟩ := hrel
    have HO := Lib.hid hown
    have HK := Lib.hid hkid
    have HN := Lib.hid hnd
    have HBD := Lib.hid hbd
    have HB := Lib.hid hb
    clear hown hkid hnd hbd
    by_cases hlt : k < xs.length
    · obtain ⟨ad, p, c0, c1, c2, c3, rfl, hpe, hrt, q0, q1, q2, q3⟩ := rl_at4 kTg_n HP.out hb hlt
      have HC := Lib.hid (toTg_any xs[k] wr [c0, c1, c2, c3] hrt (wL_le hlt HWT.out).1)
      clear hrt
      go_wp2_with fail
      refine HC.out.mono ?_
      rintro e w2 ⟨rs, fp, he, hot, hfp, hb2⟩
      obtain ⟨rk, RL, RA, rl, rc, ra, rd, hrs, _, _⟩ := kTg_oopen hot
      subst hrs
      subst he
      generalize xs[k].1 = nm at hot ⊢
      have ho2 : w2.ownsRow w.heap.size 89 4 (.slice (some ⟨w.heap.size, 0, none⟩) xs.length xs.length) xs.length cells := HO.out.kept (row := none) ⟨hb2.os, hb2.tape, hb2.output, hb2.size, fun i hi _ => hb2.block i hi⟩ (.inr (by simp [Value.ownBlock]))
      have hxl : cells.length = xs.length * 4 := ho2.1
      have m0 : w2.cell? ⟨w.heap.size, k * 4, none⟩ = some (cells[k * 4]'(by omega)) := by rw [ho2.cellAt _ (by omega)]; exact List.getElem?_eq_getElem _
      have m1 : w2.cell? ⟨w.heap.size, k * 4 + 1, none⟩ = some (cells[k * 4 + 1]'(by omega)) := by rw [ho2.cellAt _ (by omega)]; exact List.getElem?_eq_getElem _
      have m2 : w2.cell? ⟨w.heap.size, k * 4 + 2, none⟩ = some (cells[k * 4 + 2]'(by omega)) := by rw [ho2.cellAt _ (by omega)]; exact List.getElem?_eq_getElem _
      have m3 : w2.cell? ⟨w.heap.size, k * 4 + 3, none⟩ = some (cells[k * 4 + 3]'(by omega)) := by rw [ho2.cellAt _ (by omega)]; exact List.getElem?_eq_getElem _
      have f0 := ho2.frozenAt (k * 4)
      have f1 := ho2.frozenAt (k * 4 + 1)
      have f2 := ho2.frozenAt (k * 4 + 2)
      have f3 := ho2.frozenAt (k * 4 + 3)
      have HR : Hid (∀ i, i = Value.int .i64 ((k + 1 : Nat) : Int) → ToLInv kTg 89 xs w i (store4 w2 w.heap.size k (.string nm) (.int .i64 rk) (.slice RL rl rc) (.slice RA ra rd))) := fun i hi => tolinv_store4 kTg_n hlt hi HO.out HK.out HN.out HBD.out HB.out hb2 hot hfp
      clear hot hfp hb2 ho2 hb
      go_wp2_with fail
      go_roundw
      case rel => exact HR.out _ (by go_num)
      case measure => simp [intOf]; omega
    · have he : k = xs.length := by omega
      subst he
      have HR := Lib.hid (tolinv_done (a := kTg) (e := 89) (xs := xs) (w := w) (wr := wr) (by omega) ⟨_, cells, fs, Nat.le_refl _, rfl, HO.out, HK.out, HN.out, HBD.out, HB.out⟩)
      clear HO HK HN HBD hb
      go_wp2_with fail
      go_ret
      exact HR.out
end Go.Proofs.Ytlikmgkjilmjpaa
