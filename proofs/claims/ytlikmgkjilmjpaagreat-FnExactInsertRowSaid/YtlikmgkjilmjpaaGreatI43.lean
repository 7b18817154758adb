/-
  Merged by program: ChgIns, InsI, DelB.
-/
import Derived.Test.YtlikmgkjilmjpaaGreatI33
import Derived.Test.YtlikmgkjilmjpaaGreatI34
import Derived.Test.YtlikmgkjilmjpaaGreatI42
import Derived.Test.YtlikmgkjilmjpaaGreatI24
import Derived.Test.YtlikmgkjilmjpaaGreatI14
import Derived.Test.YtlikmgkjilmjpaaGreatI28

/-
  The program's changeRows with the closure of InsertRow. Written by wip/tools/mkchg.py.
-/
namespace Go.Proofs.YtlikmgkjilmjpaaGreat
open Go.RowKit Go.Maps

set_option maxRecDepth 100000 in
set_option maxHeartbeats 6400000 in
theorem chgIns_any (t : Sc) (s : Db) (nm : ByteArray) (v : Va) (c0 c1 c2 c3 : Value) (P : Nat) (w : World) (cs ds : List Value) (h : RSc w t cs) (h' : RDb w s ds) (hw : wSc t ≤ 1048576) (hv : wDb s ≤ 1048576) (hx : nm.size ≤ maxLen) (hv0 : RVa w v [c0, c1, c2, c3]) (hbx : Box4 w P 47 c0 c1 c2 c3) (hwv : wv v ≤ 1048576) :
    Calls Tryz.prog 34 #[.agg cs.toArray, .agg ds.toArray, .string nm, .func (.func 35) #[] #[.pointer (some ⟨P, 0, none⟩)]] w (MadeChg (chgD t s nm (insF v)) w) := by
  obtain ⟨A0, c0', rfl, hl0, hld0, hp0⟩ := h.open
  obtain ⟨A, c, rfl, hl, hld, hp⟩ := h'.open
  have hlen : s.length ≤ 1048576 := Nat.le_trans (len_wDb s) hv
  obtain ⟨W1, hW1⟩ : ∃ W1, ((w.alloc (.cells #[.slice A0 t.length c0'] 42)).alloc (.cells #[.slice A s.length c] 37)).alloc (.cells #[.slice none 0 0] 37) = W1 := ⟨_, rfl⟩
  obtain ⟨H, hH⟩ : ∃ H, w.heap.size = H := ⟨_, rfl⟩
  have bs : Box1 W1 H 42 (.slice A0 t.length c0') := by rw [← hW1, ← hH]; exact ((Box1.new w _ _).alloc _).alloc _
  have bd : Box1 W1 (H + 1) 37 (.slice A s.length c) := by
    rw [← hW1, ← hH]
    have := (Box1.new (w.alloc (.cells #[.slice A0 t.length c0'] 42)) 37 (.slice A s.length c)).alloc (.cells #[.slice none 0 0] 37)
    simpa using this
  have br : Box1 W1 (H + 2) 37 (.slice none 0 0) := by
    rw [← hW1, ← hH]
    have := Box1.new ((w.alloc (.cells #[.slice A0 t.length c0'] 42)).alloc (.cells #[.slice A s.length c] 37)) 37 (.slice none 0 0)
    simpa using this
  have hb1 : Below w.heap.size w W1 := by rw [← hW1]; exact (((Below.refl _ _).alloc (Nat.le_refl _) _).alloc (by simp) _).alloc (by simp; omega) _
  have hs1 : W1.heap.size = H + 3 := by rw [← hW1, ← hH]; simp
  have HPL := Lib.hid (placesDd_any s W1 A c (hp.keep hb1) hlen (fun d hd => by
    obtain ⟨j, hj, rfl⟩ := List.getElem_of_mem hd
    exact (isd_dd hj hv).1))
  have HCOPY := Lib.hid (fun (W : World) (hB : Below w.heap.size w W) => implCopyDb_any s W _ (h'.keep hB) (cdbOk_w hv))
  have HISD := Lib.hid (fun (W : World) (hB : Below w.heap.size w W) => implIsDb_any t s W _ _ (h.keep hB) (h'.keep hB) hw hv)
  have HISG := Lib.hid (fun (W : World) (hB : Below w.heap.size w W) (s' : Db) (ds' : List Value) (hr : RDb W s' ds') (hz : ∀ d ∈ s', ∀ v ∈ d.2, v.size ≤ 1048577) => implIsDbG_any t s' W _ _ (h.keep hB) hr hw hz)
  have HCHG := Lib.hid (fun (rows : List Va) (W : World) (A : Option Addr) (d : Nat) (hB : Below w.heap.size w W) (hr : RVas w A rows) (hl : rows.length ≤ 1048576) (hd : rows.length ≤ d) => (ins1_any rows v w W P A d c0 c1 c2 c3 hB hr hv0 (hbx.under hB hbx.lt) hl))
  have HWV : Hid (∀ (rows : List Va) (h1 : ∀ x ∈ rows, wv x ≤ 1048576) (rs : List Va), (insF v) rows = some rs → ∀ x ∈ rs, wv x ≤ 1048576) := Lib.hid (fun rows h1 rs hrs => wv_insF hwv h1 hrs)
  have HP := Lib.hid hp
  have HV := Lib.hid hv
  have HFI := Lib.hid (idxN_find s nm)
  have HXL := Lib.hid hx
  have HW1 := Lib.hid hW1
  have HB1 := Lib.hid hb1
  have HS1 := Lib.hid hs1
  have HH := Lib.hid hH
  have BS := Lib.hid bs
  have BD := Lib.hid bd
  have BR := Lib.hid br
  have x0 := bd.c0
  clear h h' hw hv hx hp0 hp hl0 hld0 hl hld hW1 bs bd br hb1 hs1 hbx hv0 hwv
  go_enter Tryz.func34, Tryz.ntmps34
  go_wp2_with fail
  rw [HW1.out]
  go_wp2_with fail
  refine HPL.out.mono ?_
  rintro e w2 ⟨bm, nb, rfl, hpl, hb2⟩
  obtain ⟨ci, hlook, hci⟩ := hpl.look HXL.out
  rw [plc_zero] at hlook hci
  have HB2 := Lib.hid (HB1.out.trans (hb2.mono HB1.out.size))
  have BS2 := Lib.hid (BS.out.under hb2 BS.out.lt)
  have BD2 := Lib.hid (BD.out.under hb2 BD.out.lt)
  have BR2 := Lib.hid (BR.out.under hb2 BR.out.lt)
  have y0 := BD2.out.c0
  have z0 := BS2.out.c0
  clear x0 HPL hpl hb2
  cases hpn : idxN (s.map fun d => d.1) nm with
  | none =>
    rw [hpn] at hlook
    simp only [Option.isSome_none] at hlook
    have HD := Lib.hid (chgD_none (xs := t) (f := insF v) hpn)
    clear hci hpn HISD HISG HCHG
    go_wp2_with fail
    refine (HCOPY.out w2 HB2.out).mono ?_
    rintro e w9 hm9
    have hb9 : Below w2.heap.size w2 w9 := by
      obtain ⟨_, _, _, _, _, _, hb9⟩ := hm9
      exact hb9
    have BR9 := Lib.hid (BR2.out.under hb9 BR2.out.lt)
    have HM9 := Lib.hid (fun (U : World) (hU : w9.grownBy U (some (H + 2))) => made_chgN (b := false) rfl hm9 HB2.out (by have := BR2.out.lt; omega) (by have := HH.out; omega) hU)
    obtain ⟨A9, d9, rfl, _⟩ := HM9.out w9 (World.grownBy.refl _ _)
    have HM8 : Hid (∀ U : World, w9.grownBy U (some (H + 2)) → MadeChg (chgD t s nm (insF v)) w (.returned (.tuple #[.agg #[.slice A9 s.length d9], .bool false])) U) := Lib.hid (by
      intro U hU
      obtain ⟨A8, d8, e8, h8⟩ := HM9.out U hU
      injection e8 with e8
      rw [HD.out, e8]
      exact h8)
    have r0 := BR9.out.c0
    have s0 := BR9.out.free 0
    clear hm9 hb9 HM9 hlook y0 z0
    go_wp2_with fail
    generalize hU : w9.setCell ⟨H + 2, 0, none⟩ (.slice A9 s.length d9) = U
    have hgU : w9.grownBy U (some (H + 2)) := by rw [← hU]; exact grown_set (World.grownBy.refl _ _) _
    have u1 : Box1 U (H + 2) 37 (.slice A9 s.length d9) := by rw [← hU]; exact BR9.out.set0 _
    have HRR := Lib.hid (HM8.out U hgU)
    have t0 := u1.c0
    clear hU hgU u1 r0 s0
    exact bodyPost_ret (v := .tuple #[.agg #[.slice A9 s.length d9], .bool false]) (by simp [results, Tryz.results34, go_sem, t0]) rfl HRR.out
  | some j =>
    rw [hpn] at hlook
    obtain ⟨hj, hnm, hf⟩ := HFI.out.1 j hpn
    obtain rfl := hci j hpn
    simp only [Option.isSome_some] at hlook
    have HI := Lib.hid (HISD.out w2 HB2.out)
    obtain ⟨db, hdb⟩ : ∃ db, dbB t s = db := ⟨_, rfl⟩
    rw [hdb] at HI
    clear hci hf
    cases db
    · have HD := Lib.hid (chgD_bad (xs := t) (f := insF v) hpn hdb)
      clear hpn hdb HISD HISG HCHG
      go_wp2_with fail
      refine HI.out.mono ?_
      rintro e w3 ⟨rfl, hb3⟩
      have HB3 := Lib.hid (HB2.out.trans (hb3.mono HB2.out.size))
      have BD3 := Lib.hid (BD2.out.under hb3 BD2.out.lt)
      have BR3 := Lib.hid (BR2.out.under hb3 BR2.out.lt)
      have y3 := BD3.out.c0
      clear hb3 HI y0 z0 hlook
      go_wp2_with fail
      refine (HCOPY.out w3 HB3.out).mono ?_
      rintro e w9 hm9
      have hb9 : Below w3.heap.size w3 w9 := by
        obtain ⟨_, _, _, _, _, _, hb9⟩ := hm9
        exact hb9
      have BR9 := Lib.hid (BR3.out.under hb9 BR3.out.lt)
      have HM9 := Lib.hid (fun (U : World) (hU : w9.grownBy U (some (H + 2))) => made_chgN (b := false) rfl hm9 HB3.out (by have := BR3.out.lt; omega) (by have := HH.out; omega) hU)
      obtain ⟨A9, d9, rfl, _⟩ := HM9.out w9 (World.grownBy.refl _ _)
      have HM8 : Hid (∀ U : World, w9.grownBy U (some (H + 2)) → MadeChg (chgD t s nm (insF v)) w (.returned (.tuple #[.agg #[.slice A9 s.length d9], .bool false])) U) := Lib.hid (by
        intro U hU
        obtain ⟨A8, d8, e8, h8⟩ := HM9.out U hU
        injection e8 with e8
        rw [HD.out, e8]
        exact h8)
      have r0 := BR9.out.c0
      have s0 := BR9.out.free 0
      clear hm9 hb9 HM9 y3
      go_wp2_with fail
      generalize hU : w9.setCell ⟨H + 2, 0, none⟩ (.slice A9 s.length d9) = U
      have hgU : w9.grownBy U (some (H + 2)) := by rw [← hU]; exact grown_set (World.grownBy.refl _ _) _
      have u1 : Box1 U (H + 2) 37 (.slice A9 s.length d9) := by rw [← hU]; exact BR9.out.set0 _
      have HRR := Lib.hid (HM8.out U hgU)
      have t0 := u1.c0
      clear hU hgU u1 r0 s0
      exact bodyPost_ret (v := .tuple #[.agg #[.slice A9 s.length d9], .bool false]) (by simp [results, Tryz.results34, go_sem, t0]) rfl HRR.out
    -- the database is valid
    obtain ⟨adr, rfl⟩ : ∃ adr, A = some adr := by
      obtain ⟨ps, hp⟩ := HP.out
      obtain ⟨_, ad, e, _⟩ := hp j _ (List.getElem?_eq_getElem hj)
      exact ⟨ad, e⟩
    obtain ⟨cells, hcl, hcs, hc1, hcr⟩ := rl_cells (a := kDd) kDd_one HP.out
    rw [kDd_n] at hcl hcr
    obtain ⟨TA, ta, td, hck, hsk, hyk⟩ := kDd_open (hcr j _ (List.getElem?_eq_getElem hj))
    obtain ⟨rfl, hvl, hvd, hrv⟩ := kVas_slice hyk
    have hra := rowsAt_get hj
    have hwr := (isd_dd hj HV.out).2.1
    have hwl := (isd_va hwr).1
    have HCL := Lib.hid (fun (W : World) (hB : Below w.heap.size w W) => clone_any W adr s.length c cells hcl hc1 (hcs.below hB) hlen)
    go_wp2_with fail
    refine HI.out.mono ?_
    rintro e w3 ⟨rfl, hb3⟩
    have HB3 := Lib.hid (HB2.out.trans (hb3.mono HB2.out.size))
    have BS3 := Lib.hid (BS2.out.under hb3 BS2.out.lt)
    have BD3 := Lib.hid (BD2.out.under hb3 BD2.out.lt)
    have BR3 := Lib.hid (BR2.out.under hb3 BR2.out.lt)
    have y3 := BD3.out.c0
    have HCL3 := Lib.hid (HCL.out w3 HB3.out)
    clear hb3 HI y0 z0 hlook HCL
    go_wp2_with fail
    refine HCL3.out.mono ?_
    rintro e w4 ⟨A4, d4, rfl, ho4, hb4⟩
    obtain ⟨g, rfl⟩ : ∃ g, A4 = some ⟨g, 0, none⟩ := own_someG ho4 (by omega)
    have hg4 := ho4.lt g rfl
    have hw3 := HB3.out.size
    obtain ⟨K, hK⟩ : ∃ K, w4.heap.size = K := ⟨_, rfl⟩
    obtain ⟨W5, hW5⟩ : ∃ W5, w4.alloc (.cells #[.slice (some ⟨g, 0, none⟩) s.length d4] 37) = W5 := ⟨_, rfl⟩
    have hb45 : Below w4.heap.size w4 W5 := by rw [← hW5]; exact (Below.refl _ _).alloc (Nat.le_refl _) _
    have hb35 : Below w3.heap.size w3 W5 := hb4.trans (hb45.mono hb4.size)
    have hb5 : Below w.heap.size w W5 := HB3.out.trans (hb35.mono hw3)
    have hb5d : Below w.heap.size w W5.drew := hb5.drew
    have bk : Box1 W5 K 37 (.slice (some ⟨g, 0, none⟩) s.length d4) := by rw [← hW5, ← hK]; exact Box1.new w4 _ _
    have bd5 := BD3.out.under hb35 BD3.out.lt
    have bs5 := BS3.out.under hb35 BS3.out.lt
    have br5 := BR3.out.under hb35 BR3.out.lt
    have ho5 : W5.ownsRow w3.heap.size 66 2 (.slice (some ⟨g, 0, none⟩) s.length d4) s.length cells := by rw [← hW5]; exact ho4.alloc _
    obtain ⟨ad', p, e0, e1, had, hpe, hr, q0, q1, hrw⟩ := rl_at2w HP.out hb5 hj
    injection had with had
    subst had
    obtain ⟨TA', ta', td', hcs', hs', hy'⟩ := kDd_open hrw
    simp only [List.cons.injEq, and_true] at hcs'
    obtain ⟨rfl, rfl⟩ := hcs'
    obtain ⟨rfl, _, hvd', hrvw⟩ := kVas_slice hy'
    have hpb : p.block < w.heap.size := by
      obtain ⟨a0, ea, hca⟩ := hcs (j * 2) (cells[j * 2]'(by omega)) (List.getElem?_eq_getElem (by omega))
      injection ea with ea
      subst ea
      have := World.block_lt_of_cell? w _ hca
      rw [hpe] at this
      exact this
    have hcj : cells.length = s.length * 2 := hcl
    obtain ⟨cv, hcv⟩ : ∃ cv, cells[j * 2 + 1]? = some cv := ⟨_, List.getElem?_eq_getElem (by omega)⟩
    have HCV := Lib.hid hcv
    have hbd5 := bd5.lt
    have hbr5 := br5.lt
    have hK3 : H + 3 ≤ w3.heap.size := by have := BR3.out.lt; omega
    have HAFT : Hid (∀ (w6 : World), Below W5.drew.heap.size W5.drew w6 → w6.ownsRow w3.heap.size 66 2 (.slice (some ⟨g, 0, none⟩) s.length d4) s.length cells ∧ w6.cell? ⟨K, 0, none⟩ = some (.slice (some ⟨g, 0, none⟩) s.length d4) ∧ w6.cell? ⟨H + 1, 0, none⟩ = some (.slice (some adr) s.length c) ∧ w6.cell? ⟨p.block, p.off + 1, none⟩ = some (.slice TA' s[j].2.length td') ∧
        ∀ u : Value, Below w.heap.size w (w6.setCell ⟨g, j * 2 + 1, none⟩ u) ∧ Box1 (w6.setCell ⟨g, j * 2 + 1, none⟩ u) K 37 (.slice (some ⟨g, 0, none⟩) s.length d4) ∧ Box1 (w6.setCell ⟨g, j * 2 + 1, none⟩ u) (H + 1) 37 (.slice (some adr) s.length c) ∧ Box1 (w6.setCell ⟨g, j * 2 + 1, none⟩ u) H 42 (.slice A0 t.length c0') ∧ Box1 (w6.setCell ⟨g, j * 2 + 1, none⟩ u) (H + 2) 37 (.slice none 0 0) ∧ (w6.setCell ⟨g, j * 2 + 1, none⟩ u).cell? ⟨p.block, p.off + 1, none⟩ = some (.slice TA' s[j].2.length td')) := Lib.hid (fun w6 h6 => by
      have k1 := (show Box1 W5.drew K _ _ from bk).under h6 bk.lt
      have k2 := (show Box1 W5.drew (H + 1) _ _ from bd5).under h6 bd5.lt
      have k3 := (show Box1 W5.drew H _ _ from bs5).under h6 bs5.lt
      have k4 := (show Box1 W5.drew (H + 2) _ _ from br5).under h6 br5.lt
      have k5 : w6.cell? ⟨p.block, p.off + 1, none⟩ = some (.slice TA' s[j].2.length td') := (h6.cell (World.block_lt_of_cell? W5.drew _ q1)).trans q1
      refine ⟨(show W5.drew.ownsRow _ _ _ _ _ _ from ho5).kept (row := none) (grown_none h6) (.inr (by simp [Value.ownBlock])), k1.c0, k2.c0, k5, fun u => ⟨(hb5d.trans (h6.mono hb5d.size)).setCell (p := ⟨g, j * 2 + 1, none⟩) (by show w.heap.size ≤ g; omega) u, k1.far (by show K ≠ g; omega) u, k2.far (by show H + 1 ≠ g; omega) u, k3.far (by show H ≠ g; omega) u, k4.far (by show H + 2 ≠ g; omega) u, ?_⟩⟩
      rw [World.cell?_setCell_far _ _ _ _ (by show g ≠ p.block; omega)]
      exact k5)
    have HC0 := Lib.hid (HCHG.out s[j].2 W5.drew TA' td' hb5d hrvw hwl hvd')
    have HG5 : Hid (w.heap.size ≤ g ∧ g < W5.drew.heap.size) := Lib.hid ⟨by omega, by have := hb45.size; show g < W5.heap.size; omega⟩
    have HCR := Lib.hid hcr
    have HNM := Lib.hid hnm
    have HCJ := Lib.hid hcj
    have HW5 := Lib.hid hW5
    have g1 : (j : Int) < (s.length : Int) := by omega
    have g2 : (0 : Int) ≤ (j : Int) := by omega
    have s1 := bk.c0
    have s2 := bd5.c0
    clear hb4 hb45 hb35 hb5 bk bd5 bs5 br5 ho4 ho5 hr hrw hs' hy' hrvw hvd' hcl hcs hc1 hcr hck hsk hyk hvl hvd hrv hW5 hnm hcj hcv hlen y3 q0 HCL3
    cases hfr : (insF v) s[j].2 with
    | none =>
      have HD := Lib.hid (chgD_no (xs := t) (f := insF v) hpn hdb (by rw [hra]; exact hfr))
      have HC1 : Hid (Calls Tryz.prog 35 #[.slice TA' s[j].2.length td', .pointer (some ⟨P, 0, none⟩)] W5.drew (fun e w' => Below W5.drew.heap.size W5.drew w' ∧ e = .returned (.tuple #[.slice none 0 0, .bool false]))) := Lib.hid (HC0.out.mono fun e w' ⟨hb, hor⟩ => ⟨hb, by
        rcases hor with ⟨_, he⟩ | ⟨rs, _, _, he, _⟩
        · exact he
        · rw [hfr] at he; cases he⟩)
      generalize s[j].2.length = nr at *
      clear hpn hdb hfr hra hwr hwl HC0 HISD HISG HCHG
      go_wp2_with fail
      rw [HW5.out]
      go_region_held3 (fun W => W.cell? ⟨K, 0, none⟩ = some (.slice (some ⟨g, 0, none⟩) s.length d4) ∧ W.cell? ⟨H + 1, 0, none⟩ = some (.slice (some adr) s.length c) ∧ W.cell? ⟨p.block, p.off + 1, none⟩ = some (.slice TA' nr td')) (first | (refine ⟨?_, ?_, ?_⟩ <;> assumption) | go_keep)
        (first | (go_at_call 35; refine HC1.out.mono ?_; rintro e w6 ⟨hb6, rfl⟩; obtain ⟨k0, k1, k2, k3, k4⟩ := HAFT.out w6 hb6; have k5 := k4 (.slice none 0 0); have v0 := k5.2.1.c0; have v1 := k5.2.2.1.c0; have v2 := k5.2.2.2.2.2; have HK5 := Lib.hid k5; have m0 := (k0.cellAt (j * 2 + 1) (by have := HCJ.out; omega)).trans HCV.out; have m1 := k0.frozenAt (j * 2 + 1); clear hb6 k0 k4 k5))
      obtain ⟨W6, hW6⟩ : ∃ W6, w6.setCell ⟨g, j * 2 + 1, none⟩ (.slice none 0 0) = W6 := ⟨_, rfl⟩
      rw [hW6] at HK5 v0 v1 v2 ⊢
      have HB6 := Lib.hid HK5.out.1
      have BR6 := Lib.hid HK5.out.2.2.2.2.1
      clear hW6 HK5
      go_wp2_with fail
      refine (HCOPY.out W6 HB6.out).mono ?_
      rintro e w9 hm9
      have hb9 : Below W6.heap.size W6 w9 := by
        obtain ⟨_, _, _, _, _, _, hb9⟩ := hm9
        exact hb9
      have BR9 := Lib.hid (BR6.out.under hb9 BR6.out.lt)
      have HM9 := Lib.hid (fun (U : World) (hU : w9.grownBy U (some (H + 2))) => made_chgN (b := false) rfl hm9 HB6.out (by have := BR6.out.lt; omega) (by have := HH.out; omega) hU)
      obtain ⟨A9, d9, rfl, _⟩ := HM9.out w9 (World.grownBy.refl _ _)
      have HM8 : Hid (∀ U : World, w9.grownBy U (some (H + 2)) → MadeChg (chgD t s nm (insF v)) w (.returned (.tuple #[.agg #[.slice A9 s.length d9], .bool false])) U) := Lib.hid (by
        intro U hU
        obtain ⟨A8, d8, e8, h8⟩ := HM9.out U hU
        injection e8 with e8
        rw [HD.out, e8]
        exact h8)
      have r0 := BR9.out.c0
      have s0 := BR9.out.free 0
      clear hm9 hb9 HM9 v0 v1 v2
      go_wp2_with fail
      generalize hU : w9.setCell ⟨H + 2, 0, none⟩ (.slice A9 s.length d9) = U
      have hgU : w9.grownBy U (some (H + 2)) := by rw [← hU]; exact grown_set (World.grownBy.refl _ _) _
      have u1 : Box1 U (H + 2) 37 (.slice A9 s.length d9) := by rw [← hU]; exact BR9.out.set0 _
      have HRR := Lib.hid (HM8.out U hgU)
      have t0 := u1.c0
      clear hU hgU u1 r0 s0
      exact bodyPost_ret (v := .tuple #[.agg #[.slice A9 s.length d9], .bool false]) (by simp [results, Tryz.results34, go_sem, t0]) rfl HRR.out
    | some rs =>
      have HD0 := Lib.hid (chgD_some (xs := t) (f := insF v) hpn hdb (by rw [hra]; exact hfr))
      have HWR := Lib.hid (HWV.out s[j].2 (copyVs_hyp hwr).1 rs hfr)
      have HC1 : Hid (Calls Tryz.prog 35 #[.slice TA' s[j].2.length td', .pointer (some ⟨P, 0, none⟩)] W5.drew (fun e w' => Below W5.drew.heap.size W5.drew w' ∧ ∃ A d, e = .returned (.tuple #[.slice A rs.length d, .bool true]) ∧ rs.length ≤ d ∧ rs.length ≤ 9223372036854775807 ∧ ∀ U, Held (fun i => i < w.heap.size ∨ W5.drew.heap.size ≤ i) w' U → RVas U A rs)) := Lib.hid (HC0.out.mono fun e w' ⟨hb, hor⟩ => ⟨hb, by
        rcases hor with ⟨he, _⟩ | ⟨rs', A, d, he, h⟩
        · rw [hfr] at he; cases he
        · rw [hfr] at he
          injection he with he
          subst he
          exact ⟨A, d, h⟩⟩)
      have HJ := Lib.hid hj
      have HHB := Lib.hid hb5d
      generalize hnr : s[j].2.length = nr at *
      clear hpn hdb hfr hra hwr hwl HC0 HISD HCHG hnr
      go_wp2_with fail
      rw [HW5.out]
      go_region_held3 (fun W => W.cell? ⟨K, 0, none⟩ = some (.slice (some ⟨g, 0, none⟩) s.length d4) ∧ W.cell? ⟨H + 1, 0, none⟩ = some (.slice (some adr) s.length c) ∧ W.cell? ⟨p.block, p.off + 1, none⟩ = some (.slice TA' nr td')) (first | (refine ⟨?_, ?_, ?_⟩ <;> assumption) | go_keep)
        (first | (go_at_call 35; refine HC1.out.mono ?_; rintro e w6 ⟨hb6, A6, d6, rfl, hrd, hrl, hrr⟩; obtain ⟨k0, k1, k2, k3, k4⟩ := HAFT.out w6 hb6; have k5 := k4 (.slice A6 rs.length d6); have v0 := k5.2.1.c0; have v1 := k5.2.2.1.c0; have v2 := k5.2.2.2.2.2; have HK5 := Lib.hid k5; have m0 := (k0.cellAt (j * 2 + 1) (by have := HCJ.out; omega)).trans HCV.out; have m1 := k0.frozenAt (j * 2 + 1); have HK0 := Lib.hid k0; have HRR6 := Lib.hid hrr; have HRD6 := Lib.hid hrd; have HRL6 := Lib.hid hrl; have HB66 := Lib.hid hb6; clear hb6 k0 k4 k5 hrr hrd hrl))
      obtain ⟨W6, hW6⟩ : ∃ W6, w6.setCell ⟨g, j * 2 + 1, none⟩ (.slice A6 rs.length d6) = W6 := ⟨_, rfl⟩
      have hrowU := (HK0.out.stored (j * 2 + 1) (.slice A6 rs.length d6)).1
      have hrrU := HRR6.out _ (Held.set w6 (p := ⟨g, j * 2 + 1, none⟩) (by show ¬ (g < w.heap.size ∨ W5.drew.heap.size ≤ g); have := HG5.out; omega) (.slice A6 rs.length d6))
      rw [hW6] at HK5 v0 v1 v2 hrowU hrrU ⊢
      have HB6 := Lib.hid HK5.out.1
      have BK6 := Lib.hid HK5.out.2.1
      have BD6 := Lib.hid HK5.out.2.2.1
      have BS6 := Lib.hid HK5.out.2.2.2.1
      have BR6 := Lib.hid HK5.out.2.2.2.2.1
      have hS : ∀ d ∈ s.set j (nm, rs), ∀ x ∈ d.2, wv x ≤ 1048576 := fun d hd x hx => by
        rcases List.mem_or_eq_of_mem_set hd with hd | rfl
        · obtain ⟨i, hi, rfl⟩ := List.getElem_of_mem hd
          exact (copyVs_hyp (isd_dd hi HV.out).2.1).1 x hx
        · exact HWR.out x hx
      have hsl : (s.set j (nm, rs)).length = s.length := List.length_set
      have hcap := own_capTy hrowU
      have hdb6 : RDb W6 (s.set j (nm, rs)) [.slice (some ⟨g, 0, none⟩) s.length d4] := ⟨some ⟨g, 0, none⟩, d4, by rw [hsl], by rw [hsl]; have := Nat.le_trans (len_wDb s) HV.out; omega, by rw [hsl]; exact hcap, rl_set rfl hrowU HCJ.out HCR.out HB6.out HJ.out HNM.out rfl hrrU HRD6.out HRL6.out⟩
      have HI2 := Lib.hid (HISG.out W6 HB6.out _ _ hdb6 (fun d hd x hx => by have := hS d hd x hx; have := size_wv x; omega))
      obtain ⟨db2, hdb2⟩ : ∃ db2, dbB t (s.set j (nm, rs)) = db2 := ⟨_, rfl⟩
      rw [hdb2] at HI2
      have z1 := BS6.out.c0
      have hHD := HD0.out
      rw [hdb2] at hHD
      have HDB6 := Lib.hid hdb6
      have HSX := Lib.hid hS
      have HSL := Lib.hid hsl
      have HDB2 := Lib.hid hdb2
      clear hW6 HK5 hrowU hrrU hS hsl hcap hdb6 hdb2 HISG HWR
      cases db2
      · have HD : Hid (chgD t s nm (insF v) = (s, false)) := Lib.hid (by rw [hHD]; rfl)
        clear hHD
        go_wp2_with fail
        refine HI2.out.mono ?_
        rintro e w7 ⟨rfl, hb7⟩
        have HB7 := Lib.hid (HB6.out.trans (hb7.mono HB6.out.size))
        have BD7 := Lib.hid (BD6.out.under hb7 BD6.out.lt)
        have BR7 := Lib.hid (BR6.out.under hb7 BR6.out.lt)
        have y7 := BD7.out.c0
        clear hb7 HI2 z1 v0 v1 v2
        go_wp2_with fail
        refine (HCOPY.out w7 HB7.out).mono ?_
        rintro e w9 hm9
        have hb9 : Below w7.heap.size w7 w9 := by
          obtain ⟨_, _, _, _, _, _, hb9⟩ := hm9
          exact hb9
        have BR9 := Lib.hid (BR7.out.under hb9 BR7.out.lt)
        have HM9 := Lib.hid (fun (U : World) (hU : w9.grownBy U (some (H + 2))) => made_chgN (b := false) rfl hm9 HB7.out (by have := BR7.out.lt; omega) (by have := HH.out; omega) hU)
        obtain ⟨A9, d9, rfl, _⟩ := HM9.out w9 (World.grownBy.refl _ _)
        have HM8 : Hid (∀ U : World, w9.grownBy U (some (H + 2)) → MadeChg (chgD t s nm (insF v)) w (.returned (.tuple #[.agg #[.slice A9 s.length d9], .bool false])) U) := Lib.hid (by
          intro U hU
          obtain ⟨A8, d8, e8, h8⟩ := HM9.out U hU
          injection e8 with e8
          rw [HD.out, e8]
          exact h8)
        have r0 := BR9.out.c0
        have s0 := BR9.out.free 0
        clear hm9 hb9 HM9 y7
        go_wp2_with fail
        generalize hU : w9.setCell ⟨H + 2, 0, none⟩ (.slice A9 s.length d9) = U
        have hgU : w9.grownBy U (some (H + 2)) := by rw [← hU]; exact grown_set (World.grownBy.refl _ _) _
        have u1 : Box1 U (H + 2) 37 (.slice A9 s.length d9) := by rw [← hU]; exact BR9.out.set0 _
        have HRR := Lib.hid (HM8.out U hgU)
        have t0 := u1.c0
        clear hU hgU u1 r0 s0
        exact bodyPost_ret (v := .tuple #[.agg #[.slice A9 s.length d9], .bool false]) (by simp [results, Tryz.results34, go_sem, t0]) rfl HRR.out
      · have HD : Hid (chgD t s nm (insF v) = (s.set j (nm, rs), true)) := Lib.hid (by rw [hHD]; rfl)
        clear hHD
        go_wp2_with fail
        refine HI2.out.mono ?_
        rintro e w7 ⟨rfl, hb7⟩
        have HB7 := Lib.hid (HB6.out.trans (hb7.mono HB6.out.size))
        have BK7 := Lib.hid (BK6.out.under hb7 BK6.out.lt)
        have BR7 := Lib.hid (BR6.out.under hb7 BR6.out.lt)
        have y7 := BK7.out.c0
        have HCP := Lib.hid (implCopyDb_any (s.set j (nm, rs)) w7 _ (HDB6.out.keep hb7) (cdbOk_valid HDB2.out (by rw [HSL.out]; exact Nat.le_trans (len_wDb s) HV.out) HSX.out))
        clear hb7 HI2 z1 v0 v1 v2
        go_wp2_with fail
        refine (HCP.out).mono ?_
        rintro e w9 hm9
        have hb9 : Below w7.heap.size w7 w9 := by
          obtain ⟨_, _, _, _, _, _, hb9⟩ := hm9
          exact hb9
        have BR9 := Lib.hid (BR7.out.under hb9 BR7.out.lt)
        have HM9 := Lib.hid (fun (U : World) (hU : w9.grownBy U (some (H + 2))) => made_chgN (b := true) HSL.out hm9 HB7.out (by have := BR7.out.lt; omega) (by have := HH.out; omega) hU)
        obtain ⟨A9, d9, rfl, _⟩ := HM9.out w9 (World.grownBy.refl _ _)
        have HM8 : Hid (∀ U : World, w9.grownBy U (some (H + 2)) → MadeChg (chgD t s nm (insF v)) w (.returned (.tuple #[.agg #[.slice A9 s.length d9], .bool true])) U) := Lib.hid (by
          intro U hU
          obtain ⟨A8, d8, e8, h8⟩ := HM9.out U hU
          injection e8 with e8
          rw [HD.out, e8]
          exact h8)
        have r0 := BR9.out.c0
        have s0 := BR9.out.free 0
        clear hm9 hb9 HM9 y7
        go_wp2_with fail
        generalize hU : w9.setCell ⟨H + 2, 0, none⟩ (.slice A9 s.length d9) = U
        have hgU : w9.grownBy U (some (H + 2)) := by rw [← hU]; exact grown_set (World.grownBy.refl _ _) _
        have u1 : Box1 U (H + 2) 37 (.slice A9 s.length d9) := by rw [← hU]; exact BR9.out.set0 _
        have HRR := Lib.hid (HM8.out U hgU)
        have t0 := u1.c0
        clear hU hgU u1 r0 s0
        exact bodyPost_ret (v := .tuple #[.agg #[.slice A9 s.length d9], .bool true]) (by simp [results, Tryz.results34, go_sem, t0]) rfl HRR.out
end Go.Proofs.YtlikmgkjilmjpaaGreat

/-
  The program's InsertRow. Written by wip/tools/mkinsdel.py.
-/
namespace Go.Proofs.YtlikmgkjilmjpaaGreat
open Go.RowKit

set_option maxRecDepth 100000 in
set_option maxHeartbeats 3200000 in
theorem implIns_any (t : Sc) (s : Db) (nm : ByteArray) (v : Va) (w : World) (cs ds : List Value) (es : List Value) (h : RSc w t cs) (h' : RDb w s ds) (hv0 : RVa w v es) (hw : wSc t ≤ 1048576) (hv : wDb s ≤ 1048576) (hwv : wv v ≤ 1048576) (hx : nm.size ≤ maxLen) :
    Calls Tryz.prog 12 #[.agg cs.toArray, .agg ds.toArray, .string nm, .agg es.toArray] w (MadeChg (chgD t s nm (insF v)) w) := by
  obtain ⟨A0, c0', rfl, hl0, _, _⟩ := h.open
  obtain ⟨A, c, rfl, hl, _, _⟩ := h'.open
  obtain ⟨c0, c1, c2, c3, rfl⟩ := hv0.four
  obtain ⟨W1, hW1⟩ : ∃ W1, (((w.alloc (.cells #[.slice A0 t.length c0'] 42)).alloc (.cells #[.slice A s.length c] 37)).alloc (.cells #[c0, c1, c2, c3] 47)).alloc (.cells #[.slice none 0 0] 37) = W1 := ⟨_, rfl⟩
  obtain ⟨H, hH⟩ : ∃ H, w.heap.size = H := ⟨_, rfl⟩
  have hb1 : Below w.heap.size w W1 := by rw [← hW1]; exact ((((Below.refl _ _).alloc (Nat.le_refl _) _).alloc (by simp) _).alloc (by simp; omega) _).alloc (by simp; omega) _
  have hs1 : W1.heap.size = H + 4 := by rw [← hW1, ← hH]; simp
  have bx : Box4 W1 (H + 2) 47 c0 c1 c2 c3 := by
    rw [← hW1, ← hH]
    have := (Box4.new ((w.alloc (.cells #[.slice A0 t.length c0'] 42)).alloc (.cells #[.slice A s.length c] 37)) 47 c0 c1 c2 c3).alloc (.cells #[.slice none 0 0] 37)
    simpa using this
  have br : Box1 W1 (H + 3) 37 (.slice none 0 0) := by
    rw [← hW1, ← hH]
    have := Box1.new (((w.alloc (.cells #[.slice A0 t.length c0'] 42)).alloc (.cells #[.slice A s.length c] 37)).alloc (.cells #[c0, c1, c2, c3] 47)) 37 (.slice none 0 0)
    simpa using this
  have HC := Lib.hid (chgIns_any t s nm v c0 c1 c2 c3 (H + 2) W1 _ _ (h.keep hb1) (h'.keep hb1) hw hv hx (hv0.keep hb1) bx hwv)
  have HW1 := Lib.hid hW1
  have HB1 := Lib.hid hb1
  have HS1 := Lib.hid hs1
  have HH := Lib.hid hH
  have BR := Lib.hid br
  obtain ⟨p, hp⟩ : ∃ p, chgD t s nm (insF v) = p := ⟨_, rfl⟩
  rw [hp] at HC ⊢
  clear h h' hw hv hx hl0 hl hW1 hb1 hs1 bx br hp hv0 hwv
  go_enter Tryz.func12, Tryz.ntmps12
  go_wp2_with fail
  rw [HW1.out]
  refine HC.out.mono ?_
  rintro e w2 hm
  have hb2 : Below W1.heap.size W1 w2 := by
    obtain ⟨_, _, _, _, _, _, hb2⟩ := hm
    exact hb2
  have BR2 := Lib.hid (BR.out.under hb2 BR.out.lt)
  have HM := Lib.hid (fun (U : World) (hU : w2.grownBy U (some (H + 3))) => made_chg2 hm HB1.out (by have := HS1.out; omega) (by have := HH.out; omega) hU)
  obtain ⟨A9, d9, rfl, _⟩ := HM.out w2 (World.grownBy.refl _ _)
  have HM8 : Hid (∀ U : World, w2.grownBy U (some (H + 3)) → MadeChg p w (.returned (.tuple #[.agg #[.slice A9 p.1.length d9], .bool p.2])) U) := Lib.hid (by
    intro U hU
    obtain ⟨A8, d8, e8, h8⟩ := HM.out U hU
    injection e8 with e8
    rw [e8]
    exact h8)
  have r0 := BR2.out.c0
  have s0 := BR2.out.free 0
  clear hm hb2 HM HC
  generalize p.1.length = n at HM8 ⊢
  generalize p.2 = b at HM8 ⊢
  go_wp2_with fail
  generalize hU : w2.setCell ⟨H + 3, 0, none⟩ (.slice A9 n d9) = U
  have hgU : w2.grownBy U (some (H + 3)) := by rw [← hU]; exact grown_set (World.grownBy.refl _ _) _
  have u1 : Box1 U (H + 3) 37 (.slice A9 n d9) := by rw [← hU]; exact BR2.out.set0 _
  have HRR := Lib.hid (HM8.out U hgU)
  have t0 := u1.c0
  clear hU hgU u1 r0 s0
  exact bodyPost_ret (v := .tuple #[.agg #[.slice A9 n d9], .bool b]) (by simp [results, Tryz.results12, go_sem, t0]) rfl HRR.out
end Go.Proofs.YtlikmgkjilmjpaaGreat

/-
  How many marks a changed database takes.
-/
namespace Go.Proofs.YtlikmgkjilmjpaaGreat
open Go.RowKit

theorem sum_set_le {α : Type} {f : α → Nat} (y : α) : ∀ (xs : List α) (j : Nat), ((xs.set j y).map f).sum ≤ (xs.map f).sum + f y
  | [], j => by simp
  | x :: xs, 0 => by simp only [List.set_cons_zero, List.map_cons, List.sum_cons]; omega
  | x :: xs, j + 1 => by
    have := sum_set_le (f := f) y xs j
    simp only [List.set_cons_succ, List.map_cons, List.sum_cons]
    omega
theorem cntVK_app (a b : List Va) : cntVK (a ++ b) = cntVK a + cntVK b := by unfold cntVK; rw [List.map_append, List.sum_append]
theorem cntVK_del (l : List Va) (k m : Nat) : cntVK (l.take k ++ l.drop m) ≤ 2 * cntVK l := by
  have h1 := cntVK_take_le l k
  have h2 : cntVK (l.take m) + cntVK (l.drop m) = cntVK l := by rw [← cntVK_app, List.take_append_drop]
  rw [cntVK_app]
  omega
theorem chgD_cases {xs : Sc} {ds F : Db} {nm : ByteArray} {f : List Va → Option (List Va)} {fb : Bool} (h : chgD xs ds nm f = (F, fb)) : F = ds ∨ ∃ j rs, f (rowsAt ds j) = some rs ∧ F = ds.set j (nm, rs) := by
  unfold chgD at h
  split at h
  · injection h with h _; exact .inl h.symm
  · rename_i j _
    split at h
    · split at h
      · injection h with h _; exact .inl h.symm
      · rename_i rs hrs
        split at h
        · injection h with h _; exact .inr ⟨j, rs, hrs, h.symm⟩
        · injection h with h _; exact .inl h.symm
    · injection h with h _; exact .inl h.symm
theorem cnt_rowsAt {ds : Db} (hv : wDb ds ≤ 1048576) (j : Nat) : cntVK (rowsAt ds j) ≤ 3 * 1048576 := by
  by_cases hj : j < ds.length
  · rw [rowsAt_get hj]
    have h1 := (dd_bounds hj hv).2.1
    have h2 := cnt_wVas ds[j].2
    omega
  · have e : rowsAt ds j = [] := by unfold rowsAt; rw [List.getElem?_eq_none (by omega)]; rfl
    rw [e]
    simp [cntVK]
theorem cnt_set (ds : Db) (j : Nat) (nm : ByteArray) (rs : List Va) : cntDb (ds.set j (nm, rs)) ≤ cntDb ds + (1 + cntVK rs) := sum_set_le (f := cntDd) (nm, rs) ds j
theorem del_bound {xs : Sc} {ds F : Db} {nm : ByteArray} {q : Int} {fb : Bool} (hv : wDb ds ≤ 1048576) (h : chgD xs ds nm (delF q) = (F, fb)) : cntDb F ≤ 1000000000 := by
  have h0 := cnt_wDb ds
  rcases chgD_cases h with rfl | ⟨j, rs, hrs, rfl⟩
  · omega
  · have h1 := cnt_set ds j nm rs
    have h2 := cnt_rowsAt hv j
    unfold delF at hrs
    split at hrs
    · injection hrs with e
      subst e
      have h3 := cntVK_del (rowsAt ds j) q.toNat (q.toNat + 1)
      omega
    · cases hrs
theorem ins_bound {xs : Sc} {ds F : Db} {nm : ByteArray} {v : Va} {fb : Bool} (hv : wDb ds ≤ 1048576) (hw : wv v ≤ 1048576) (h : chgD xs ds nm (insF v) = (F, fb)) : cntDb F ≤ 1000000000 := by
  have h0 := cnt_wDb ds
  rcases chgD_cases h with rfl | ⟨j, rs, hrs, rfl⟩
  · omega
  · have h1 := cnt_set ds j nm rs
    have h2 := cnt_rowsAt hv j
    have e : rowsAt ds j ++ [v] = rs := by simpa [insF] using hrs
    subst e
    have h3 := cntVK_app (rowsAt ds j) [v]
    have h4 := cnt_wvM v
    have h5 : cntVK [v] = v.cntV := by simp [cntVK]
    omega
end Go.Proofs.YtlikmgkjilmjpaaGreat
