/-
  Merged by program: RooI, SzDd, ToDd.
-/
import Derived.Test.YtlcpekpgkllbkaaR26
import Derived.Test.YtlcpekpgkllbkaaR28
import Derived.Test.YtlcpekpgkllbkaaR36
import Derived.Test.YtlcpekpgkllbkaaR42
import Derived.Test.YtlcpekpgkllbkaaR15
import Derived.Test.YtlcpekpgkllbkaaR7

/-
  The program's RowsOf.
-/
namespace Go.Proofs.Ytlcpekpgkllbkaa
open Go.RowKit Go.Maps

theorem ovs_ol {w : World} {ts : List Va} {A : Option Addr} {d : Nat} {fp : List Nat} (h : OVs w ts (.slice A ts.length d) fp) : ∃ fq, OL kVa 92 w ts (.slice A ts.length d) fq ∧ ∀ b, b ∈ fq ↔ b ∈ fp := by
  obtain ⟨A', d', xs, fs, e, h1, h2, h3, h4, h5⟩ := h
  injection e with e1 _ e2
  subst e1 e2
  exact ⟨_, ⟨A, d, xs, fs, rfl, h1, h2, h3, rfl, h4.nodup_iff.2 h5⟩, fun b => h4.mem_iff⟩
theorem madeVs_L {ts : List Va} {w W : World} {e : Ending} {w' : World} (h : MadeVs ts W e w') (hb : Below w.heap.size w W) : MadeL' kVa 92 ts w e w' := by
  obtain ⟨A, d, fp, rfl, ho, hf, hb2⟩ := h
  obtain ⟨fq, h1, h2⟩ := ovs_ol ho
  have := hb.size
  exact ⟨A, d, fq, rfl, h1, fun b hm => by have := hf b ((h2 b).1 hm); omega, hb.trans (hb2.mono hb.size)⟩
theorem copyVs_hyp {ts : List Va} (h : wL wv ts ≤ 1048576) : (∀ t ∈ ts, wv t ≤ 1048576) ∧ ts.length ≤ 1048576 ∧ sizesV ts ≤ 2097151 := by
  have h1 : sizesV ts ≤ (ts.map wv).sum + ts.length := by
    unfold sizesV
    clear h
    induction ts with
    | nil => simp
    | cons t ts ih => have := size_wv t; simp only [List.map_cons, List.sum_cons, List.length_cons]; omega
  refine ⟨fun t ht => ?_, ?_, ?_⟩
  · obtain ⟨j, hj, rfl⟩ := List.getElem_of_mem ht
    exact (wL_le (f := wv) hj h).1
  · unfold wL at h; omega
  · unfold wL at h; omega

set_option maxRecDepth 100000 in
set_option maxHeartbeats 3200000 in
theorem implRows_any (t : Db) (nm : ByteArray) (w : World) (cs : List Value) (h : RDb w t cs) (hw : wDb t ≤ 1048576) (hx : nm.size ≤ maxLen) : Calls Try.prog 23 #[.agg cs.toArray, .string nm] w (MadeL' kVa 92 (rowsD t nm) w) := by
  obtain ⟨A, c, rfl, hl, hld, hp⟩ := h.open
  have hlen : t.length ≤ 1048576 := Nat.le_trans (len_wDb t) hw
  obtain ⟨W1, hW1⟩ : ∃ W1, w.alloc (.cells #[.slice A t.length c] 51) = W1 := ⟨_, rfl⟩
  obtain ⟨H, hH⟩ : ∃ H, w.heap.size = H := ⟨_, rfl⟩
  have hbox : Box1 W1 H 51 (.slice A t.length c) := by rw [← hW1, ← hH]; exact Box1.new w _ _
  have hb1 : Below w.heap.size w W1 := by rw [← hW1]; exact (Below.refl _ _).alloc (Nat.le_refl _) _
  have HC := Lib.hid (placesDd_any t W1 A c (hp.keep hb1) hlen (fun d hd => by
    obtain ⟨j, hj, rfl⟩ := List.getElem_of_mem hd
    exact (dd_bounds hj hw).1))
  have HW1 := Lib.hid hW1
  have HB1 := Lib.hid hb1
  have HX := Lib.hid hbox
  have HP := Lib.hid (hp.keep hb1)
  have HWT := Lib.hid hw
  have HFI := Lib.hid (idxN_find t nm)
  have HXL := Lib.hid hx
  have x0 := hbox.c0
  clear h hp hl hld hW1 hbox hb1 hw hx
  go_enter Try.func23, Try.ntmps23
  go_wp2_with fail
  rw [HW1.out]
  go_wp2_with fail
  refine HC.out.mono ?_
  rintro e w2 ⟨b, n, rfl, hpl, hb2⟩
  obtain ⟨ci, hlook, hci⟩ := hpl.look HXL.out
  rw [plc_zero] at hlook hci
  have HB2 := Lib.hid (HB1.out.trans (hb2.mono HB1.out.size))
  have y0 := (HX.out.under hb2 HX.out.lt).c0
  cases hpn : idxN (t.map fun d => d.1) nm with
  | none =>
    rw [hpn] at hlook
    have hf := HFI.out.2 hpn
    have HR : Hid (MadeL' kVa 92 (rowsD t nm) w (.returned (.slice none 0 0)) w2) := Lib.hid (by
      rw [rowsD_none hf]
      exact ⟨none, 0, [], rfl, (ol_nil kVa 92 w2).ol, by simp, HB2.out⟩)
    simp only [Option.isSome_none] at hlook
    clear hpl hci hf hpn hb2 x0 HC
    go_wp2_with fail
    go_ret
    exact HR.out
  | some j =>
    rw [hpn] at hlook
    obtain ⟨hj, hnm, hf⟩ := HFI.out.1 j hpn
    obtain rfl := hci j hpn
    obtain ⟨_, hwr, _⟩ := dd_bounds hj HWT.out
    obtain ⟨ad, p, c0, c1, rfl, hpe, hr, q0, q1⟩ := rl_at2 kDd_n HP.out hb2 hj
    obtain ⟨TA, ta, td, hcs, hs, hy⟩ := kDd_open hr
    simp only [List.cons.injEq, and_true] at hcs
    obtain ⟨rfl, rfl⟩ := hcs
    obtain ⟨rfl, _, _, hrv⟩ := kVas_slice hy
    obtain ⟨k1, k2, k3⟩ := copyVs_hyp hwr
    have HCP := Lib.hid (implCopyVs_any t[j].2 w2 TA td hrv k1 k2 k3)
    have HRD := Lib.hid (rowsD_some hf)
    simp only [Option.isSome_some] at hlook
    have hjI : (j : Int) < (t.length : Int) := by omega
    have hj0 : (0 : Int) ≤ (j : Int) := by omega
    have hjn : ((j : Int)).toNat = j := by omega
    generalize t[j].1 = nm1 at *
    generalize t[j].2 = vs at *
    clear hpl hci hf hpn hb2 x0 HC hr hs hy hrv k1 k2 k3 hwr hnm
    go_wp2_with fail
    refine HCP.out.mono ?_
    rintro e w3 hm
    obtain ⟨A5, d5, fp, rfl, ho, hfp, hb3⟩ := madeVs_L hm HB2.out
    have HR : Hid (MadeL' kVa 92 (rowsD t nm) w (.returned (.slice A5 vs.length d5)) w3) := Lib.hid (by rw [HRD.out]; exact ⟨A5, d5, fp, rfl, ho, hfp, hb3⟩)
    clear hm ho hfp hb3 HRD HCP q0 q1 y0 hlook
    go_wp2_with fail
    go_ret
    exact HR.out
end Go.Proofs.Ytlcpekpgkllbkaa

/-
  How great a TableData is, as the laws reckon it. Written by genpair.py.
-/
namespace Go.Proofs.Ytlcpekpgkllbkaa
open Go.RowKit

set_option maxHeartbeats 800000 in
theorem szDd_any (x : Dd) (w : World) (cs : List Value) (left : Int) (h : kDd.R w x cs) (h0 : 0 ≤ left) (h1 : left ≤ 1048576) : Calls Try.prog 86 #[.agg cs.toArray, .int .i64 left] w (SzV (wDd x) left w) := by
  obtain ⟨TA, ta, td, rfl, hs, hy⟩ := kDd_open h
  obtain ⟨W1, hW1⟩ : ∃ W1, w.alloc (.cells #[.string x.1, .slice TA ta td] 119) = W1 := ⟨_, rfl⟩
  obtain ⟨H, hH⟩ : ∃ H, w.heap.size = H := ⟨_, rfl⟩
  have hbox : Box2 W1 H 119 (.string x.1) (.slice TA ta td) := by rw [← hW1, ← hH]; exact Box2.new w _ _ _
  have hb0 : Below w.heap.size w W1 := by rw [← hW1]; exact (Below.refl _ _).alloc (Nat.le_refl _) _
  have HC := Lib.hid (fun (l : Int) (g0 : 0 ≤ l) (g1 : l ≤ 1048576) => szVas_K x.2 W1 l ((kVa.list 92).keep hy hb0) g0 g1)
  have HW1 := Lib.hid hW1
  have HB0 := Lib.hid hb0
  have x0 := hbox.c0
  have x1 := hbox.c1
  have HWX : Hid (wDd x = x.1.size + (wL wv) x.2) := Lib.hid rfl
  generalize wDd x = wx at HWX ⊢
  generalize (wL wv) x.2 = wy at HWX HC
  generalize x.1 = nm at HWX HW1 hs x0 ⊢
  clear h hy hW1 hbox hb0
  by_cases hneg : left - nm.size < 0
  · go_enter Try.func86, Try.ntmps86
    go_wp2_with fail
    rw [HW1.out]
    go_wp2_with fail
    go_ret
    exact ⟨-1, rfl, by omega, by omega, by omega, HB0.out⟩
  · have HC1 := Lib.hid (HC.out (left - nm.size) (by omega) (by omega))
    go_enter Try.func86, Try.ntmps86
    go_wp2_with fail
    rw [HW1.out]
    go_wp2_with fail
    refine HC1.out.mono ?_
    rintro e w2 ⟨r, rfl, hs1, hs2, hs3, hb2⟩
    have HS3 := Lib.hid hs3
    have HB2 := Lib.hid (HB0.out.trans (hb2.mono HB0.out.size))
    clear hs3 hb2
    by_cases hz : r < 0
    · go_wp2_with fail
      go_ret
      exact ⟨-1, rfl, by omega, by omega, by omega, HB2.out⟩
    · go_wp2_with fail
      go_ret
      refine ⟨r, rfl, by omega, by omega, fun _ => ?_, HB2.out⟩
      have e2 := HS3.out (by omega)
      have e3 := HWX.out
      omega

set_option maxHeartbeats 800000 in
theorem szDdS_any (xs : List Dd) (w : World) (A : Option Addr) (d : Nat) (left : Int) (hp : RL kDd w A xs) (hl : xs.length ≤ 9223372036854775807) (h0 : 0 ≤ left) (h1 : left ≤ 1048576) :
    Calls Try.prog 57 #[.slice A xs.length d, .int .i64 left] w (SzV (wL wDd xs) left w) := by
  have HP := Lib.hid hp
  clear hp
  by_cases hneg : left - xs.length < 0
  · go_enter Try.func57, Try.ntmps57
    go_wp2_with fail
    go_ret
    exact ⟨-1, rfl, by omega, by omega, by omega, Below.refl _ _⟩
  · go_enter Try.func57, Try.ntmps57
    go_wp2_with fail
    go_loopw [1, 5] (fun l i wr => ∃ k : Nat, k ≤ xs.length ∧ i = .int .i64 k ∧ ∃ r : Int, l = .int .i64 r ∧ 0 ≤ r ∧ r + xs.length + ((xs.take k).map wDd).sum = left ∧ Below w.heap.size w wr) (fun _ i _ => xs.length - (intOf i).toNat)
    case atStart => exact ⟨0, Nat.zero_le _, rfl, _, rfl, by omega, by simp, Below.refl _ _⟩
    case round =>
      obtain ⟨k, hk, rfl, r, rfl, hr0, hr, hb⟩ := hrel
      have hr1 : r ≤ 1048576 := by omega
      have HR := Lib.hid hr
      clear hr
      by_cases hlt : k < xs.length
      · obtain ⟨ad, p, c0, c1, rfl, hpe, hrt, q0, q1⟩ := rl_at2 kDd_n HP.out hb hlt
        have hst := sum_take_succ wDd xs k hlt
        have hc := szDd_any xs[k] wr [c0, c1] r hrt hr0 hr1
        obtain ⟨m, hm⟩ : ∃ m, wDd xs[k] = m := ⟨_, rfl⟩
        rw [hm] at hst hc
        have HC := Lib.hid hc
        have HST := Lib.hid hst
        clear hc hrt hst hm
        go_wp2_with fail
        refine HC.out.mono ?_
        rintro e w2 ⟨r', rfl, hr2, hr3, hr4, hb2⟩
        have HB3 := Lib.hid (hb.trans (hb2.mono hb.size))
        have HR4 := Lib.hid hr4
        clear hr4 hb2
        by_cases hz : r' < 0
        · go_wp2_with fail
          go_ret
          exact ⟨-1, rfl, by omega, by omega, by omega, HB3.out⟩
        · go_wp2_with fail
          go_roundw
          case rel => exact ⟨k + 1, hlt, by go_num, r', rfl, by omega, by have h1 := HR4.out (by omega); have h2 := HR.out; have h3 := HST.out; omega, HB3.out⟩
          case measure => simp [intOf]; omega
      · have he : k = xs.length := by omega
        have HS : Hid (r + wL wDd xs = left) := by
          have h := HR.out
          rw [he, List.take_length] at h
          show _ = _
          unfold wL
          omega
        clear he
        go_wp2_with fail
        go_ret
        exact ⟨r, rfl, by have := HR.out; omega, by omega, fun _ => HS.out, hb⟩
end Go.Proofs.Ytlcpekpgkllbkaa

/-
  A copy of a TableData in new memory. Written by genpair.py.
-/
namespace Go.Proofs.Ytlcpekpgkllbkaa
open Go.RowKit

theorem infoDd : (Try.prog.info? 86).map (fun i => (i.zero, i.size, i.bytes)) = some (some (.agg #[.string ⟨#[]⟩, .slice none 0 0]), 2, 40) := by kernel_rfl

set_option maxHeartbeats 1600000 in
set_option maxRecDepth 100000 in
theorem toDd_any (x : Dd) (w : World) (cs : List Value) (h : kDd.R w x cs) (hw : wDd x ≤ 1048576) : Calls Try.prog 88 #[.agg cs.toArray] w (MadeK kDd x (fun cs => .agg cs.toArray) w) := by
  obtain ⟨TA, ta, td, rfl, hs, hy⟩ := kDd_open h
  obtain ⟨W1, hW1⟩ : ∃ W1, ((w.alloc (.cells #[.string x.1, .slice TA ta td] 119)).alloc (.cells #[.string ⟨#[]⟩, .slice none 0 0] 86)).alloc (.cells #[.string x.1, .slice none 0 0] 86) = W1 := ⟨_, rfl⟩
  obtain ⟨H, hH⟩ : ∃ H, w.heap.size = H := ⟨_, rfl⟩
  have b0 : Box2 W1 H 119 (.string x.1) (.slice TA ta td) := by rw [← hW1, ← hH]; exact ((Box2.new w _ _ _).alloc _).alloc _
  have b1 : Box2 W1 (H + 1) 86 (.string ⟨#[]⟩) (.slice none 0 0) := by
    rw [← hW1, ← hH]
    have := (Box2.new (w.alloc (.cells #[.string x.1, .slice TA ta td] 119)) 86 (.string ⟨#[]⟩) (.slice none 0 0)).alloc (.cells #[.string x.1, .slice none 0 0] 86)
    simpa using this
  have b2 : Box2 W1 (H + 1 + 1) 86 (.string x.1) (.slice none 0 0) := by
    rw [← hW1, ← hH]
    have := Box2.new ((w.alloc (.cells #[.string x.1, .slice TA ta td] 119)).alloc (.cells #[.string ⟨#[]⟩, .slice none 0 0] 86)) 86 (.string x.1) (.slice none 0 0)
    simpa using this
  have hb1 : Below w.heap.size w W1 := by rw [← hW1]; exact (((Below.refl _ _).alloc (Nat.le_refl _) _).alloc (by simp) _).alloc (by simp; omega) _
  have hs1 : W1.heap.size = H + 1 + 1 + 1 := by rw [← hW1, ← hH]; simp
  have hwy : (wL wv) x.2 ≤ 1048576 := by unfold wDd at hw; omega
  have HC := Lib.hid (toVas_K x.2 W1 ((kVa.list 92).keep hy hb1) hwy)
  have HMK : Hid (∀ (U : World) (rs : List Value) (fp : List Nat), (kVa.list 92).O U x.2 rs fp → (∀ b ∈ fp, w.heap.size ≤ b ∧ b < U.heap.size) → Below w.heap.size w U → MadeK kDd x (fun cs => .agg cs.toArray) w (.returned (.agg (.string x.1 :: rs).toArray)) U) := Lib.hid (fun U rs fp h1 h2 h3 => ⟨_, fp, rfl, kDd_omake hs h1, h2, h3⟩)
  have HW1 := Lib.hid hW1
  have HB1 := Lib.hid hb1
  have HS1 := Lib.hid hs1
  have HH := Lib.hid hH
  have B1 := Lib.hid b1
  have B2 := Lib.hid b2
  have x0 := b0.c0
  have x1 := b0.c1
  clear h hy hW1 b0 b1 b2 hb1 hs1 hw hwy
  generalize x.1 = nm at HW1 HMK B2 hs x0 ⊢
  go_enter Try.func88, Try.ntmps88
  go_wp2_with fail
  rw [HW1.out]
  go_wp2_with fail
  refine HC.out.mono ?_
  rintro e w2 ⟨rs, fp, he, ho, hfp, hb2⟩
  obtain ⟨RA, ra, rd, rfl⟩ := kVas_shape ((kVa.list 92).reads ho)
  subst he
  have hz2 := hb2.size
  have hz1 := HS1.out
  have t1 := B1.out.under hb2 (by omega)
  have t2 := B2.out.under hb2 (by omega)
  have g0 := t2.c0
  have g1 := t2.c1
  have gf1 := t2.free 1
  have k0 := t1.c0
  have k1 := t1.c1
  have kf0 := t1.free 0
  have kf1 := t1.free 1
  have HO := Lib.hid ho
  have HFP := Lib.hid hfp
  have HB2 := Lib.hid hb2
  have T1 := Lib.hid t1
  have HZ2 := Lib.hid hz2
  clear ho hfp hb2 t1 t2 hz2 hz1 x0 x1
  go_wp2_with fail
  generalize hV : (w2.setCell ⟨H + 1 + 1, 1, none⟩ (.slice RA ra rd)) = V
  generalize hU : ((V.setCell ⟨H + 1, 0, none⟩ (.string nm)).setCell ⟨H + 1, 1, none⟩ (.slice RA ra rd)) = U
  have hg5 : w2.grownBy V (some (H + 1 + 1)) := by rw [← hV]; exact grown_set (World.grownBy.refl _ _) _
  have hg6 : V.grownBy U (some (H + 1)) := by rw [← hU]; exact grown_set (grown_set (World.grownBy.refl _ _) _) _
  have u1 : Box2 U (H + 1) 86 (.string nm) (.slice RA ra rd) := by
    rw [← hU, ← hV]
    exact (((T1.out.far (by show H + 1 ≠ H + 1 + 1; omega) _).set0 _).set1 _)
  have hww := HH.out
  have hz1 := HS1.out
  have hz2 := HZ2.out
  have hs5 := hg5.size
  have hs6 := hg6.size
  have hne : ∀ b ∈ fp, H + 1 + 1 < b := fun b hb => by have := (HFP.out b hb).1; omega
  have hO := (kVa.list 92).okeep ((kVa.list 92).okeep HO.out hg5 (fun b hb e => by injection e with e; have := hne b hb; omega)) hg6 (fun b hb e => by injection e with e; have := hne b hb; omega)
  have hbU : Below w.heap.size w U := ((HB1.out.trans (HB2.out.mono HB1.out.size)).grown hg5 (HB1.out.trans (HB2.out.mono HB1.out.size)).size (fun q hq => by injection hq with hq; omega)).grown hg6 (by have := (HB1.out.trans (HB2.out.mono HB1.out.size)).size; omega) (fun q hq => by injection hq with hq; omega)
  have q0 := u1.c0
  have q1 := u1.c1
  have HR := Lib.hid (HMK.out U _ fp hO (fun b hb => by have := HFP.out b hb; omega) hbU)
  clear hO hbU hne hg5 hg6 hV hU u1
  exact bodyPost_ret (v := .agg #[.string nm, .slice RA ra rd]) (by simp [results, Try.results88, go_sem, q0, q1]) rfl HR.out

set_option maxHeartbeats 1600000 in
set_option maxRecDepth 100000 in
theorem toDdS_any (xs : List Dd) (w : World) (A : Option Addr) (d : Nat) (hp : RL kDd w A xs) (hw : wL wDd xs ≤ 1048576) : Calls Try.prog 60 #[.slice A xs.length d] w (MadeL' kDd 86 xs w) := by
  obtain ⟨i0, hi, hz0, hz1, hz2⟩ := info_parts infoDd
  have hl : xs.length ≤ 1048576 := by unfold wL at hw; omega
  have HP := Lib.hid hp
  have HWT := Lib.hid hw
  clear hp hw
  go_enter Try.func60, Try.ntmps60
  go_wp2_with (at_make; refine wpList_make_full _ rfl _ _ 49 rfl w.heap.size 86 i0 (.agg #[.string ⟨#[]⟩, .slice none 0 0]) 2 Try.underlying49 hi hz0 hz1 _ _ _ _ xs.length rfl rfl rfl rfl (by rw [hz2]; omega) (by unfold maxLen; omega) (Nat.le_refl _) ?_; intro w0 hown0 hgrow0)
  have hb0 : Below w.heap.size w w0 := (Below.refl _ _).grown hgrow0 (Nat.le_refl _) (fun k hk => by cases hk)
  go_loopw [4] (fun i wr => ToLInv kDd 86 xs w i wr) (fun i _ => xs.length - (intOf i).toNat)
  case atStart => exact tolinv_zero kDd 86 xs hown0 hb0
  case round =>
    obtain ⟨k, cells, fs, hk, rfl, hown, hkid, hnd, hbd, hb⟩ := hrel
    have HO := Lib.hid hown
    have HK := Lib.hid hkid
    have HN := Lib.hid hnd
    have HBD := Lib.hid hbd
    have HB := Lib.hid hb
    clear hown hkid hnd hbd
    by_cases hlt : k < xs.length
    · obtain ⟨ad, p, c0, c1, rfl, hpe, hrt, q0, q1⟩ := rl_at2 kDd_n HP.out hb hlt
      have HC := Lib.hid (toDd_any xs[k] wr [c0, c1] hrt (wL_le hlt HWT.out).1)
      clear hrt
      go_wp2_with fail
      refine HC.out.mono ?_
      rintro e w2 ⟨rs, fp, he, hot, hfp, hb2⟩
      obtain ⟨RA, ra, rd, hrs, _, _⟩ := kDd_oopen hot
      subst hrs
      subst he
      generalize xs[k].1 = nm at hot ⊢
      have ho2 : w2.ownsRow w.heap.size 86 2 (.slice (some ⟨w.heap.size, 0, none⟩) xs.length xs.length) xs.length cells := HO.out.kept (row := none) ⟨hb2.os, hb2.tape, hb2.output, hb2.size, fun i hi _ => hb2.block i hi⟩ (.inr (by simp [Value.ownBlock]))
      have hxl : cells.length = xs.length * 2 := ho2.1
      have m0 : w2.cell? ⟨w.heap.size, k * 2, none⟩ = some (cells[k * 2]'(by omega)) := by rw [ho2.cellAt _ (by omega)]; exact List.getElem?_eq_getElem _
      have m1 : w2.cell? ⟨w.heap.size, k * 2 + 1, none⟩ = some (cells[k * 2 + 1]'(by omega)) := by rw [ho2.cellAt _ (by omega)]; exact List.getElem?_eq_getElem _
      have f0 := ho2.frozenAt (k * 2)
      have f1 := ho2.frozenAt (k * 2 + 1)
      have HR : Hid (∀ i, i = Value.int .i64 ((k + 1 : Nat) : Int) → ToLInv kDd 86 xs w i (store2 w2 w.heap.size k (.string nm) (.slice RA ra rd))) := fun i hi => tolinv_store2 kDd_n hlt hi HO.out HK.out HN.out HBD.out HB.out hb2 hot hfp
      clear hot hfp hb2 ho2 hb
      go_wp2_with fail
      go_roundw
      case rel => exact HR.out _ (by go_num)
      case measure => simp [intOf]; omega
    · have he : k = xs.length := by omega
      subst he
      have HR := Lib.hid (tolinv_done (a := kDd) (e := 86) (xs := xs) (w := w) (wr := wr) (by omega) ⟨_, cells, fs, Nat.le_refl _, rfl, HO.out, HK.out, HN.out, HBD.out, HB.out⟩)
      clear HO HK HN HBD hb
      go_wp2_with fail
      go_ret
      exact HR.out
end Go.Proofs.Ytlcpekpgkllbkaa
