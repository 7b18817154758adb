/-
  Merged by program: Unite, DnmI, RotI, SzDc.
-/
import Derived.Test.YtlcpekpgkllbkaaT29
import Derived.Test.YtlcpekpgkllbkaaT2
import Derived.Test.YtlcpekpgkllbkaaT26
import Derived.Test.YtlcpekpgkllbkaaT32
import Derived.Test.YtlcpekpgkllbkaaT40
import Derived.Test.YtlcpekpgkllbkaaT8
import Derived.Test.YtlcpekpgkllbkaaT7

/-
  The different texts of two lists, each at its first place: the model's UniteNames, which looks through what it has collected.
-/
namespace Go.Proofs.Ytlcpekpgkllbkaa
open Go.RowKit

/-- a list of texts in memory of the call's own -/
def OwnL (xs : List ByteArray) (w : World) (e : Ending) (w' : World) : Prop :=
  ∃ A c, e = .returned (.slice A xs.length c) ∧ w'.ownsRow w.heap.size 9 1 (.slice A xs.length c) xs.length (xs.map Value.string) ∧ Below w.heap.size w w'

/-- what a loop that collects keeps -/
def UInv (o0 xs : List ByteArray) (w : World) (v i : Value) (wr : World) : Prop :=
  ∃ (k : Nat) (o : List ByteArray) (A : Option Addr) (c : Nat), k ≤ xs.length ∧ i = .int .i64 k ∧ v = .slice A o.length c ∧ Hid (o = uq o0 (xs.take k)) ∧ wr.ownsRow w.heap.size 9 1 (.slice A o.length c) o.length (o.map Value.string) ∧ Below w.heap.size w wr
theorem uinv_same {o0 xs o : List ByteArray} {k : Nat} {w wr : World} {x : ByteArray} {A : Option Addr} {c : Nat} {i : Value} (hk : k < xs.length) (hx : xs[k] = x) (ho : o = uq o0 (xs.take k)) (hin : x ∈ o) (hi : i = .int .i64 ((k + 1 : Nat) : Int))
    (h : wr.ownsRow w.heap.size 9 1 (.slice A o.length c) o.length (o.map Value.string)) (hb : Below w.heap.size w wr) : UInv o0 xs w (.slice A o.length c) i wr :=
  ⟨k + 1, o, A, c, hk, hi, rfl, by show o = _; rw [uq_succ o0 xs k hk, ← ho, hx, addU_in hin], h, hb⟩
theorem uinv_more {o0 xs o : List ByteArray} {k : Nat} {w wr : World} {x : ByteArray} {v i : Value} (hk : k < xs.length) (hx : xs[k] = x) (ho : o = uq o0 (xs.take k)) (hin : ¬ x ∈ o) (hi : i = .int .i64 ((k + 1 : Nat) : Int))
    (h : wr.ownsRow w.heap.size 9 1 v (o.length + 1) (o.map Value.string ++ [.string x])) (hb : Below w.heap.size w wr) : UInv o0 xs w v i wr := by
  obtain ⟨A, c, rfl⟩ := own_shape h
  refine ⟨k + 1, o ++ [x], A, c, hk, hi, by simp, by show o ++ [x] = _; rw [uq_succ o0 xs k hk, ← ho, hx, addU_new hin], by simpa using h, hb⟩
theorem uq_bd {o0 xs o : List ByteArray} {k : Nat} (ho : o = uq o0 (xs.take k)) : o.length ≤ o0.length + xs.length := by
  have h := uq_len (xs.take k) o0
  rw [List.length_take, ← ho] at h
  omega

end Go.Proofs.Ytlcpekpgkllbkaa

/-
  The program's declaredNames.
-/
namespace Go.Proofs.Ytlcpekpgkllbkaa
open Go.RowKit

theorem dnm_bounds {t : Sc} {k : Nat} (hk : k < t.length) (hw : wSc t ≤ 1048576) : t[k].1.size ≤ 1048576 ∧ wt t[k].2 ≤ 1048576 ∧ t.length ≤ 1048576 := by
  have h := wL_le (f := wDc) hk hw
  have h1 : wDc t[k] = t[k].1.size + wt t[k].2 := rfl
  omega
theorem namesOf_len (t : Sc) : (namesOf t).length = t.length := by simp [namesOf]
/-- what the loop keeps -/
def DnmInv (xs : Sc) (w : World) (v i : Value) (wr : World) : Prop :=
  ∃ k : Nat, k ≤ xs.length ∧ i = .int .i64 (k : Int) ∧ wr.ownsRow w.heap.size 9 1 v k ((namesOf (xs.take k)).map Value.string) ∧ Below w.heap.size w wr

set_option maxRecDepth 100000 in
set_option maxHeartbeats 3200000 in
theorem implDecl_any (t : Sc) (w : World) (cs : List Value) (h : RSc w t cs) (hw : wSc t ≤ 1048576) : Calls Try.prog 42 #[.agg cs.toArray] w (OwnL (namesOf t) w) := by
  obtain ⟨A, d, rfl, hl, _, hp⟩ := h.open
  obtain ⟨i0, hi, hz0, hz1, hz2⟩ := info_parts infoStr
  have hlen : t.length ≤ 1048576 := Nat.le_trans (len_wSc t) hw
  obtain ⟨W1, hW1⟩ : ∃ W1, w.alloc (.cells #[.slice A t.length d] 29) = W1 := ⟨_, rfl⟩
  obtain ⟨H, hH⟩ : ∃ H, w.heap.size = H := ⟨_, rfl⟩
  have hbox : Box1 W1 H 29 (.slice A t.length d) := by rw [← hW1, ← hH]; exact Box1.new w _ _
  have hb1 : Below w.heap.size w W1 := by rw [← hW1]; exact (Below.refl _ _).alloc (Nat.le_refl _) _
  have HB1 := Lib.hid hb1
  have HP := Lib.hid (hp.keep hb1)
  have HW1 := Lib.hid hW1
  have HI0 : Hid (DnmInv t W1 (.slice none 0 0) (.int .i64 0) W1) := Lib.hid ⟨0, Nat.zero_le _, rfl, by simpa [namesOf] using World.ownsRow_nil _ _ _ _, Below.refl _ _⟩
  have x0 := hbox.c0
  clear h hp hl hW1 hbox hb1 hw
  go_enter Try.func42, Try.ntmps42
  go_wp2_with fail
  rw [HW1.out]
  go_wp2_with fail
  go_loopw [3, 9] (fun v i wr => DnmInv t W1 v i wr) (fun _ i _ => t.length - (intOf i).toNat)
  case atStart => exact HI0.out
  case round =>
    obtain ⟨k, hk, rfl, hown, hb⟩ := hrel
    obtain ⟨V, lc, rfl⟩ := own_shape hown
    have HO := Lib.hid hown
    have HB := Lib.hid hb
    clear x0
    by_cases hlt : k < t.length
    · obtain ⟨ad, p, c0, c1, c2, c3, rfl, hpe, hr, q0, q1, q2, q3⟩ := rl_at4 kDc_n HP.out hb hlt
      obtain ⟨tk, TL, TA, tl, tc, ta, td, hcs, hs, hy⟩ := kDc_open hr
      injection hcs with e0 hcs
      injection hcs with e1 hcs
      injection hcs with e2 hcs
      injection hcs with e3 hcs
      subst e0 e1 e2 e3
      obtain ⟨G, hG⟩ : ∃ G, wr.heap.size = G := ⟨_, rfl⟩
      obtain ⟨W5, hW5⟩ : ∃ W5, wr.alloc (.cells #[.string t[k].1, .int .i64 tk, .slice TL tl tc, .slice TA ta td] 64) = W5 := ⟨_, rfl⟩
      have hb5 : Below wr.heap.size wr W5 := by rw [← hW5]; exact (Below.refl _ _).alloc (Nat.le_refl _) _
      have hx5 := Box4.new wr 64 (.string t[k].1) (.int .i64 tk) (.slice TL tl tc) (.slice TA ta td)
      rw [hW5, hG] at hx5
      have y0 := hx5.c0
      have HMORE : Hid (∀ (v' i : Value) (w5 : World), w5.ownsRow W1.heap.size 9 1 v' (k + 1) ((namesOf (t.take k)).map Value.string ++ [.string t[k].1]) → (W5.alloc (.cells #[.string t[k].1] 9)).grownBy w5 (Value.slice V k lc).ownBlock → i = .int .i64 ((k + 1 : Nat) : Int) → DnmInv t W1 v' i w5) := Lib.hid (by
        intro v' i w5 ho hg hi
        refine ⟨k + 1, hlt, hi, by rw [namesOf_take t k hlt]; exact ho, ?_⟩
        have hb6 := (HB.out.trans (hb5.mono HB.out.size)).alloc (HB.out.trans (hb5.mono HB.out.size)).size (.cells #[.string t[k].1] 9)
        exact hb6.grown hg hb6.size (fun q hq => (HO.out.lt q hq).1))
      have hz5 : W5.heap.size = G + 1 := by rw [← hW5, ← hG]; simp
      have hsl := Lib.hid (hz5 ▸ sl_one W5 (.string t[k].1) 9)
      have O3 := Lib.hid ((own_below HO.out hb5).alloc (.cells #[.string t[k].1] 9))
      have HS3 : Hid (W1.heap.size ≤ (W5.alloc (.cells #[.string t[k].1] 9)).heap.size) := Lib.hid (by have h1 := HB.out.size; have h2 := hb5.size; simp; omega)
      have HOC : Hid (∀ u ∈ [Value.string t[k].1], u.oneCell' = true) := Lib.hid (strs_oneCell [t[k].1])
      have HW5 := Lib.hid hW5
      have HG := Lib.hid hG
      generalize t[k].1 = nm at *
      clear hr hcs hs hy hown hb hk hb5 hx5 hW5 hz5
      go_wp2_with (at_builtin; rw [HW5.out]; refine wpList_append_sl _ rfl (.tmp 13) (.tmp 16) 33 rfl W1.heap.size 9 i0 _ 16 Try.underlying33 hi hz0 hz1 hz2 rfl (.slice V k lc) k ((namesOf (t.take k)).map Value.string) rfl O3.out (some ⟨G + 1, 0, none⟩) 1 1 [.string nm] rfl rfl hsl.out HOC.out (by unfold maxLen; omega) (by omega) HS3.out ?_; intro v5 w5 hown5 hg5 hor5; have HMM := Lib.hid (fun i hi => HMORE.out v5 i w5 hown5 hg5 hi); clear hown5 hg5 hor5)
      go_roundw
      case rel => exact HMM.out _ (by go_num)
      case measure => simp [intOf]; omega
    · have he : k = t.length := by omega
      subst he
      have HR : Hid (OwnL (namesOf t) w (.returned (.slice V t.length lc)) wr) := by
        have h1 := HO.out
        rw [List.take_length] at h1
        refine ⟨V, lc, by rw [namesOf_len], ?_, HB1.out.trans (HB.out.mono HB1.out.size)⟩
        rw [namesOf_len]
        exact own_mono h1 HB1.out.size
      clear hown hb hk
      go_wp2_with fail
      go_ret
      exact HR.out
end Go.Proofs.Ytlcpekpgkllbkaa

/-
  The program's RowType.
-/
namespace Go.Proofs.Ytlcpekpgkllbkaa
open Go.RowKit Go.Maps

set_option maxRecDepth 100000 in
set_option maxHeartbeats 3200000 in
theorem implRowT_any (t : Sc) (nm : ByteArray) (w : World) (cs : List Value) (h : RSc w t cs) (hw : wSc t ≤ 1048576) (hx : nm.size ≤ maxLen) : Calls Try.prog 15 #[.agg cs.toArray, .string nm] w (MadeP (rowTypeD t nm) w) := by
  obtain ⟨A, c, rfl, hl, hld, hp⟩ := h.open
  have hlen : t.length ≤ 1048576 := Nat.le_trans (len_wSc t) hw
  obtain ⟨W1, hW1⟩ : ∃ W1, (w.alloc (.cells #[.slice A t.length c] 29)).alloc (.cells #[.int .i64 0, .slice none 0 0, .slice none 0 0] 36) = W1 := ⟨_, rfl⟩
  obtain ⟨H, hH⟩ : ∃ H, w.heap.size = H := ⟨_, rfl⟩
  have hbox : Box1 W1 H 29 (.slice A t.length c) := by rw [← hW1, ← hH]; exact (Box1.new w _ _).alloc _
  have b1 : Box3 W1 (H + 1) 36 (.int .i64 0) (.slice none 0 0) (.slice none 0 0) := by
    rw [← hW1, ← hH]
    have := Box3.new (w.alloc (.cells #[.slice A t.length c] 29)) 36 (.int .i64 0) (.slice none 0 0) (.slice none 0 0)
    simpa using this
  have hb1 : Below w.heap.size w W1 := by rw [← hW1]; exact ((Below.refl _ _).alloc (Nat.le_refl _) _).alloc (by simp) _
  have hs1 : W1.heap.size = H + 2 := by rw [← hW1, ← hH]; simp
  have HC := Lib.hid (placesDc_any t W1 A c (hp.keep hb1) hlen (fun d hd => by
    obtain ⟨j, hj, rfl⟩ := List.getElem_of_mem hd
    exact (dnm_bounds hj hw).1))
  have HW1 := Lib.hid hW1
  have HB1 := Lib.hid hb1
  have HS1 := Lib.hid hs1
  have HH := Lib.hid hH
  have HX := Lib.hid hbox
  have HB := Lib.hid b1
  have HP := Lib.hid (hp.keep hb1)
  have HWT := Lib.hid hw
  have HFI := Lib.hid (idxN_find t nm)
  have HXL := Lib.hid hx
  have x0 := hbox.c0
  clear h hp hl hld hW1 hbox b1 hb1 hs1 hw hx
  go_enter Try.func15, Try.ntmps15
  go_wp2_with fail
  rw [HW1.out]
  go_wp2_with fail
  refine HC.out.mono ?_
  rintro e w2 ⟨b, n, rfl, hpl, hb2⟩
  obtain ⟨ci, hlook, hci⟩ := hpl.look HXL.out
  rw [plc_zero] at hlook hci
  have HB2 := Lib.hid (HB1.out.trans (hb2.mono HB1.out.size))
  have BR := Lib.hid (HB.out.under hb2 HB.out.lt)
  have y0 := (HX.out.under hb2 HX.out.lt).c0
  have hz2 := hb2.size
  cases hpn : idxN (t.map fun d => d.1) nm with
  | none =>
    rw [hpn] at hlook
    have HF := Lib.hid (rowTypeD_none (HFI.out.2 hpn))
    simp only [Option.isSome_none] at hlook
    have r0 := BR.out.c0
    have r1 := BR.out.c1
    have r2 := BR.out.c2
    have s0 := BR.out.free 0
    have s1 := BR.out.free 1
    have s2 := BR.out.free 2
    clear hpl hci hpn hb2 x0 HC
    go_wp2_with fail
    generalize hU : ((w2.setCell ⟨H + 1, 0, none⟩ (.int .i64 0)).setCell ⟨H + 1, 1, none⟩ (.slice none 0 0)).setCell ⟨H + 1, 2, none⟩ (.slice none 0 0) = U
    have hgU : w2.grownBy U (some (H + 1)) := by rw [← hU]; exact grown_set (grown_set (grown_set (World.grownBy.refl _ _) _) _) _
    have u1 : Box3 U (H + 1) 36 (.int .i64 0) (.slice none 0 0) (.slice none 0 0) := by
      rw [← hU]
      exact ((BR.out.set0 _).set1 _).set2 _
    have HRR : Hid (MadeP (rowTypeD t nm) w (.returned (.tuple #[.agg #[.int .i64 0, .slice none 0 0, .slice none 0 0], .bool false])) U) := Lib.hid (by
      rw [HF.out]
      exact made_zero (HB2.out.grown hgU HB2.out.size (fun k hk => by injection hk with hk; have := HH.out; omega)))
    have t0 := u1.c0
    have t1 := u1.c1
    have t2 := u1.c2
    clear hU hgU u1 r0 r1 r2 s0 s1 s2
    exact bodyPost_ret (v := .tuple #[.agg #[.int .i64 0, .slice none 0 0, .slice none 0 0], .bool false]) (by simp [results, Try.results15, go_sem, t0, t1, t2]) rfl HRR.out
  | some j =>
    rw [hpn] at hlook
    obtain ⟨hj, hnm, hf⟩ := HFI.out.1 j hpn
    obtain rfl := hci j hpn
    obtain ⟨_, hwty, _⟩ := dnm_bounds hj HWT.out
    obtain ⟨ad, p, c0, c1, c2, c3, rfl, hpe, hr, q0, q1, q2, q3⟩ := rl_at4 kDc_n HP.out hb2 hj
    obtain ⟨tk, TL, TA, tl, tc, ta, td, hcs, hs, hy⟩ := kDc_open hr
    simp only [List.cons.injEq, and_true] at hcs
    obtain ⟨rfl, rfl, rfl, rfl⟩ := hcs
    have HCP := Lib.hid (implCopyT_any t[j].2 w2 _ hy hwty)
    have HF := Lib.hid (rowTypeD_some hf)
    simp only [Option.isSome_some] at hlook
    have hjI : (j : Int) < (t.length : Int) := by omega
    have hj0 : (0 : Int) ≤ (j : Int) := by omega
    have hjn : ((j : Int)).toNat = j := by omega
    generalize t[j].1 = nm1 at *
    generalize t[j].2 = ty at *
    clear hpl hci hf hpn hb2 x0 HC hr hs hy hwty hnm
    go_wp2_with fail
    refine HCP.out.mono ?_
    rintro e w3 hmade
    have hb3 : Below w2.heap.size w2 w3 := by
      obtain ⟨_, _, _, _, _, _, _, _, hb3⟩ := hmade
      exact hb3
    have HBX := Lib.hid (BR.out.under hb3 BR.out.lt)
    have HM := Lib.hid (fun (U : World) (hU : w3.grownBy U (some (H + 1))) => made_some (w := w) (U := U) hmade HB2.out (by have := HS1.out; omega) (by have := HH.out; omega) hU)
    obtain ⟨LL, AA, lc, dd, rfl, _⟩ := HM.out w3 (World.grownBy.refl _ _)
    have HM2 : Hid (∀ U : World, w3.grownBy U (some (H + 1)) → MadeP (rowTypeD t nm) w (.returned (.tuple #[.agg #[.int .i64 ty.top.kind, .slice LL ty.top.labels.length lc, .slice AA ty.kids.length dd], .bool true])) U) := Lib.hid (by
      intro U hU
      obtain ⟨L9, A9, c9, d9, e9, h9⟩ := HM.out U hU
      rw [HF.out]
      injection e9 with e9
      rw [← e9] at h9
      exact h9)
    have r0 := HBX.out.c0
    have r1 := HBX.out.c1
    have r2 := HBX.out.c2
    have s0 := HBX.out.free 0
    have s1 := HBX.out.free 1
    have s2 := HBX.out.free 2
    generalize ty.top.kind = z0 at HM2 ⊢
    generalize ty.top.labels.length = z1 at HM2 ⊢
    generalize ty.kids.length = z2 at HM2 ⊢
    clear hmade hb3 HM y0 q0 q1 q2 q3 hlook HCP
    go_wp2_with fail
    generalize hU : ((w3.setCell ⟨H + 1, 0, none⟩ (.int .i64 z0)).setCell ⟨H + 1, 1, none⟩ (.slice LL z1 lc)).setCell ⟨H + 1, 2, none⟩ (.slice AA z2 dd) = U
    have hgU : w3.grownBy U (some (H + 1)) := by rw [← hU]; exact grown_set (grown_set (grown_set (World.grownBy.refl _ _) _) _) _
    have u1 : Box3 U (H + 1) 36 (.int .i64 z0) (.slice LL z1 lc) (.slice AA z2 dd) := by
      rw [← hU]
      exact ((HBX.out.set0 _).set1 _).set2 _
    have HRR := Lib.hid (HM2.out U hgU)
    have t0 := u1.c0
    have t1 := u1.c1
    have t2 := u1.c2
    clear hU hgU u1 r0 r1 r2 s0 s1 s2
    exact bodyPost_ret (v := .tuple #[.agg #[.int .i64 z0, .slice LL z1 lc, .slice AA z2 dd], .bool true]) (by simp [results, Try.results15, go_sem, t0, t1, t2]) rfl HRR.out
end Go.Proofs.Ytlcpekpgkllbkaa

/-
  How great a TableDecl is, as the laws reckon it. Written by genpair.py.
-/
namespace Go.Proofs.Ytlcpekpgkllbkaa
open Go.RowKit

set_option maxHeartbeats 800000 in
theorem szDc_any (x : Dc) (w : World) (cs : List Value) (left : Int) (h : kDc.R w x cs) (h0 : 0 ≤ left) (h1 : left ≤ 1048576) : Calls Try.prog 74 #[.agg cs.toArray, .int .i64 left] w (SzV (wDc x) left w) := by
  obtain ⟨tk, TL, TA, tl, tc, ta, td, rfl, hs, hy⟩ := kDc_open h
  obtain ⟨W1, hW1⟩ : ∃ W1, w.alloc (.cells #[.string x.1, .int .i64 tk, .slice TL tl tc, .slice TA ta td] 105) = W1 := ⟨_, rfl⟩
  obtain ⟨H, hH⟩ : ∃ H, w.heap.size = H := ⟨_, rfl⟩
  have hbox : Box4 W1 H 105 (.string x.1) (.int .i64 tk) (.slice TL tl tc) (.slice TA ta td) := by rw [← hW1, ← hH]; exact Box4.new w _ _ _ _ _
  have hb0 : Below w.heap.size w W1 := by rw [← hW1]; exact (Below.refl _ _).alloc (Nat.le_refl _) _
  have HC := Lib.hid (fun (l : Int) (g0 : 0 ≤ l) (g1 : l ≤ 1048576) => szTy_K x.2 W1 _ l (kTy.keep hy hb0) g0 g1)
  have HW1 := Lib.hid hW1
  have HB0 := Lib.hid hb0
  have x0 := hbox.c0
  have x1 := hbox.c1
  have x2 := hbox.c2
  have x3 := hbox.c3
  have HWX : Hid (wDc x = x.1.size + wt x.2) := Lib.hid rfl
  generalize wDc x = wx at HWX ⊢
  generalize wt x.2 = wy at HWX HC
  generalize x.1 = nm at HWX HW1 hs x0 ⊢
  clear h hy hW1 hbox hb0
  by_cases hneg : left - nm.size < 0
  · go_enter Try.func74, Try.ntmps74
    go_wp2_with fail
    rw [HW1.out]
    go_wp2_with fail
    go_ret
    exact ⟨-1, rfl, by omega, by omega, by omega, HB0.out⟩
  · have HC1 := Lib.hid (HC.out (left - nm.size) (by omega) (by omega))
    go_enter Try.func74, Try.ntmps74
    go_wp2_with fail
    rw [HW1.out]
    go_wp2_with fail
    refine HC1.out.mono ?_
    rintro e w2 ⟨r, rfl, hs1, hs2, hs3, hb2⟩
    have HS3 := Lib.hid hs3
    have HB2 := Lib.hid (HB0.out.trans (hb2.mono HB0.out.size))
    clear hs3 hb2
    by_cases hz : r < 0
    · go_wp2_with fail
      go_ret
      exact ⟨-1, rfl, by omega, by omega, by omega, HB2.out⟩
    · go_wp2_with fail
      go_ret
      refine ⟨r, rfl, by omega, by omega, fun _ => ?_, HB2.out⟩
      have e2 := HS3.out (by omega)
      have e3 := HWX.out
      omega

set_option maxHeartbeats 800000 in
theorem szDcS_any (xs : List Dc) (w : World) (A : Option Addr) (d : Nat) (left : Int) (hp : RL kDc w A xs) (hl : xs.length ≤ 9223372036854775807) (h0 : 0 ≤ left) (h1 : left ≤ 1048576) :
    Calls Try.prog 36 #[.slice A xs.length d, .int .i64 left] w (SzV (wL wDc xs) left w) := by
  have HP := Lib.hid hp
  clear hp
  by_cases hneg : left - xs.length < 0
  · go_enter Try.func36, Try.ntmps36
    go_wp2_with fail
    go_ret
    exact ⟨-1, rfl, by omega, by omega, by omega, Below.refl _ _⟩
  · go_enter Try.func36, Try.ntmps36
    go_wp2_with fail
    go_loopw [1, 5] (fun l i wr => ∃ k : Nat, k ≤ xs.length ∧ i = .int .i64 k ∧ ∃ r : Int, l = .int .i64 r ∧ 0 ≤ r ∧ r + xs.length + ((xs.take k).map wDc).sum = left ∧ Below w.heap.size w wr) (fun _ i _ => xs.length - (intOf i).toNat)
    case atStart => exact ⟨0, Nat.zero_le _, rfl, _, rfl, by omega, by simp, Below.refl _ _⟩
    case round =>
      obtain ⟨k, hk, rfl, r, rfl, hr0, hr, hb⟩ := hrel
      have hr1 : r ≤ 1048576 := by omega
      have HR := Lib.hid hr
      clear hr
      by_cases hlt : k < xs.length
      · obtain ⟨ad, p, c0, c1, c2, c3, rfl, hpe, hrt, q0, q1, q2, q3⟩ := rl_at4 kDc_n HP.out hb hlt
        have hst := sum_take_succ wDc xs k hlt
        have hc := szDc_any xs[k] wr [c0, c1, c2, c3] r hrt hr0 hr1
        obtain ⟨m, hm⟩ : ∃ m, wDc xs[k] = m := ⟨_, rfl⟩
        rw [hm] at hst hc
        have HC := Lib.hid hc
        have HST := Lib.hid hst
        clear hc hrt hst hm
        go_wp2_with fail
        refine HC.out.mono ?_
        rintro e w2 ⟨r', rfl, hr2, hr3, hr4, hb2⟩
        have HB3 := Lib.hid (hb.trans (hb2.mono hb.size))
        have HR4 := Lib.hid hr4
        clear hr4 hb2
        by_cases hz : r' < 0
        · go_wp2_with fail
          go_ret
          exact ⟨-1, rfl, by omega, by omega, by omega, HB3.out⟩
        · go_wp2_with fail
          go_roundw
          case rel => exact ⟨k + 1, hlt, by go_num, r', rfl, by omega, by have h1 := HR4.out (by omega); have h2 := HR.out; have h3 := HST.out; omega, HB3.out⟩
          case measure => simp [intOf]; omega
      · have he : k = xs.length := by omega
        have HS : Hid (r + wL wDc xs = left) := by
          have h := HR.out
          rw [he, List.take_length] at h
          show _ = _
          unfold wL
          omega
        clear he
        go_wp2_with fail
        go_ret
        exact ⟨r, rfl, by have := HR.out; omega, by omega, fun _ => HS.out, hb⟩
end Go.Proofs.Ytlcpekpgkllbkaa
