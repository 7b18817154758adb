/-
  Merged by program: InsS.
-/
import Derived.Test.YtlikmgkjilmjpaaGreatI26
import Derived.Test.YtlikmgkjilmjpaaGreatI27
import Derived.Test.YtlikmgkjilmjpaaGreatI28
import Derived.Test.YtlikmgkjilmjpaaGreatI30

/-
  The model's InsertRow. Written by wip/tools/mkinss.py.
-/
namespace Go.Proofs.YtlikmgkjilmjpaaGreat
open Go.RowKit

set_option maxRecDepth 100000 in
set_option maxHeartbeats 32000000 in
theorem specIns_any (t : Sc) (s : Db) (nm : ByteArray) (v : Va) (w : World) (cs ds es : List Value) (h : RSc w t cs) (h' : RDb w s ds) (hv0 : RVa w v es) (hw : wSc t ≤ 1048576) (hv : wDb s ≤ 1048576) (hwv : wv v ≤ 1048576) :
    Calls Tryz.prog 8 #[.agg cs.toArray, .agg ds.toArray, .string nm, .agg es.toArray] w (MadeChg (chgD t s nm (insF v)) w) := by
  obtain ⟨A0, c0', rfl, hl0, hld0, hp0⟩ := h.open
  obtain ⟨A, c, rfl, hl, hld, hp⟩ := h'.open
  obtain ⟨c0, c1, c2, c3, rfl⟩ := hv0.four
  have hlen : s.length ≤ 1048576 := Nat.le_trans (len_wDb s) hv
  obtain ⟨W1, hW1⟩ : ∃ W1, (((w.alloc (.cells #[.slice A0 t.length c0'] 42)).alloc (.cells #[.slice A s.length c] 37)).alloc (.cells #[c0, c1, c2, c3] 47)).alloc (.cells #[.slice none 0 0] 37) = W1 := ⟨_, rfl⟩
  obtain ⟨H, hH⟩ : ∃ H, w.heap.size = H := ⟨_, rfl⟩
  have bs : Box1 W1 H 42 (.slice A0 t.length c0') := by rw [← hW1, ← hH]; exact (((Box1.new w _ _).alloc _).alloc _).alloc _
  have bd : Box1 W1 (H + 1) 37 (.slice A s.length c) := by
    rw [← hW1, ← hH]
    have := ((Box1.new (w.alloc (.cells #[.slice A0 t.length c0'] 42)) 37 (.slice A s.length c)).alloc (.cells #[c0, c1, c2, c3] 47)).alloc (.cells #[.slice none 0 0] 37)
    simpa using this
  have bv : Box4 W1 (H + 1 + 1) 47 c0 c1 c2 c3 := by
    rw [← hW1, ← hH]
    have := (Box4.new ((w.alloc (.cells #[.slice A0 t.length c0'] 42)).alloc (.cells #[.slice A s.length c] 37)) 47 c0 c1 c2 c3).alloc (.cells #[.slice none 0 0] 37)
    simpa using this
  have br : Box1 W1 (H + 1 + 1 + 1) 37 (.slice none 0 0) := by
    rw [← hW1, ← hH]
    have := Box1.new (((w.alloc (.cells #[.slice A0 t.length c0'] 42)).alloc (.cells #[.slice A s.length c] 37)).alloc (.cells #[c0, c1, c2, c3] 47)) 37 (.slice none 0 0)
    simpa using this
  have hb1 : Below w.heap.size w W1 := by rw [← hW1]; exact ((((Below.refl _ _).alloc (Nat.le_refl _) _).alloc (by simp) _).alloc (by simp; omega) _).alloc (by simp; omega) _
  have hs1 : W1.heap.size = H + 4 := by rw [← hW1, ← hH]; simp
  have HCOPY := Lib.hid (fun (W : World) (hB : Below w.heap.size w W) => specCopyDb_any s W _ (h'.keep hB) hv)
  have HTAB := Lib.hid (fun (W : World) (hB : Below w.heap.size w W) => l9TableN_any s nm W _ (h'.keep hB))
  have HISD := Lib.hid (fun (W : World) (hB : Below w.heap.size w W) => specIsDb_any t s W _ _ (h.keep hB) (h'.keep hB) hw)
  have HISG := Lib.hid (fun (W : World) (hB : Below w.heap.size w W) (s' : Db) (ds' : List Value) (hr : RDb W s' ds') => specIsDb_any t s' W _ _ (h.keep hB) hr hw)
  have HVC := Lib.hid (fun (W : World) (hB : Below w.heap.size w W) => ins_copy (l5Copy_any v W _ (hv0.keep hB) hwv))
  have HP := Lib.hid hp
  have HV := Lib.hid hv
  have HFI := Lib.hid (idxN_find s nm)
  have HW1 := Lib.hid hW1
  have HB1 := Lib.hid hb1
  have HS1 := Lib.hid hs1
  have HH := Lib.hid hH
  have BS := Lib.hid bs
  have BD := Lib.hid bd
  have BV := Lib.hid bv
  have BR := Lib.hid br
  have HC1 := Lib.hid (HCOPY.out W1 hb1)
  have x0 := bd.c0
  clear h h' hw hv hv0 hwv hp0 hp hl0 hld0 hl hld hW1 bs bd bv br hb1 hs1
  go_enter Tryz.func8, Tryz.ntmps8
  go_wp2_with fail
  rw [HW1.out]
  go_wp2_with fail
  refine HC1.out.mono ?_
  rintro e w2 ⟨A9, d9, fp, rfl, ho9, hf9, hb2⟩
  obtain ⟨K, hK⟩ : ∃ K, w2.heap.size = K := ⟨_, rfl⟩
  obtain ⟨W2, hW2⟩ : ∃ W2, w2.alloc (.cells #[.slice A9 s.length d9] 37) = W2 := ⟨_, rfl⟩
  have hb22 : Below w2.heap.size w2 W2 := by rw [← hW2]; exact (Below.refl _ _).alloc (Nat.le_refl _) _
  have hb12 : Below W1.heap.size W1 W2 := hb2.trans (hb22.mono hb2.size)
  have hsz2 : W2.heap.size = K + 1 := by rw [← hW2, ← hK]; simp
  have h21 := hb2.size
  have HBW2 := Lib.hid (HB1.out.trans (hb12.mono HB1.out.size))
  have BSW2 := Lib.hid (BS.out.under hb12 BS.out.lt)
  have BDW2 := Lib.hid (BD.out.under hb12 BD.out.lt)
  have BVW2 := Lib.hid (BV.out.under hb12 BV.out.lt)
  have BRW2 := Lib.hid (BR.out.under hb12 BR.out.lt)
  have BKW2 : Hid (Box1 W2 K 37 (.slice A9 s.length d9)) := Lib.hid (by rw [← hW2, ← hK]; exact Box1.new w2 _ _)
  have HOW2 := Lib.hid (ho9.under hb22)
  have HF2 : Hid (∀ b ∈ fp, w.heap.size ≤ b ∧ b < W2.heap.size ∧ b < K ∧ H + 3 < b) := Lib.hid (fun b hb => by have := hf9 b hb; have := HS1.out; have := HB1.out.size; omega)
  have HNG : Hid (H + 1 + 1 + 1 ∉ fp) := Lib.hid (fun hb => by have := HF2.out _ hb; omega)
  have HKK : Hid (H + 3 < K ∧ K < W2.heap.size) := Lib.hid (by have := HS1.out; omega)
  have HK := Lib.hid hK
  have HW2 := Lib.hid hW2
  have y0 : (w2.alloc (.cells #[.slice A9 s.length d9] 37)).cell? ⟨H + 1, 0, none⟩ = some (.slice A s.length c) := by rw [hW2]; exact BDW2.out.c0
  clear x0 hb2 hb22 hb12 hf9 ho9 hW2 hsz2 h21 hK HC1
  go_wp2_with fail
  rw [HW2.out, HK.out]
  refine (HTAB.out W2 HBW2.out).mono ?_
  rintro e w3 ⟨n, rfl, hat, hb3⟩
  have hs3 := hb3.size
  have HB3 := Lib.hid (HBW2.out.trans (hb3.mono HBW2.out.size))
  have HS3 : Hid (W2.heap.size ≤ w3.heap.size) := Lib.hid (Nat.le_trans (Nat.le_refl _) hs3)
  have BS3 := Lib.hid (BSW2.out.under hb3 BSW2.out.lt)
  have BD3 := Lib.hid (BDW2.out.under hb3 BDW2.out.lt)
  have BV3 := Lib.hid (BVW2.out.under hb3 BVW2.out.lt)
  have BR3 := Lib.hid (BRW2.out.under hb3 BRW2.out.lt)
  have BK3 := Lib.hid (BKW2.out.under hb3 BKW2.out.lt)
  have HO3 := Lib.hid (HOW2.out.under hb3)
  have y3 := BD3.out.c0
  have z3 := BS3.out.c0
  have HI := Lib.hid (HISD.out w3 HB3.out)
  clear y0 hb3 hs3 HTAB
  obtain ⟨db, hdb⟩ : ∃ db, dbB t s = db := ⟨_, rfl⟩
  rw [hdb] at HI
  cases db
  · have HD := Lib.hid (chgD_nodb (nm := nm) (f := insF v) hdb)
    clear hat hdb
    go_wp2_with fail
    refine HI.out.mono ?_
    rintro e w4 ⟨rfl, hb4⟩
    have hs4 := hb4.size
    have HB4 := Lib.hid (HB3.out.trans (hb4.mono HB3.out.size))
    have HS4 : Hid (W2.heap.size ≤ w4.heap.size) := Lib.hid (Nat.le_trans HS3.out hs4)
    have BS4 := Lib.hid (BS3.out.under hb4 BS3.out.lt)
    have BD4 := Lib.hid (BD3.out.under hb4 BD3.out.lt)
    have BV4 := Lib.hid (BV3.out.under hb4 BV3.out.lt)
    have BR4 := Lib.hid (BR3.out.under hb4 BR3.out.lt)
    have BK4 := Lib.hid (BK3.out.under hb4 BK3.out.lt)
    have HO4 := Lib.hid (HO3.out.under hb4)
    clear hb4 hs4 y3 z3 HI
    have r0 := BR4.out.c0
    have s0 := BR4.out.free 0
    have k0 := BK4.out.c0
    have HM8 := Lib.hid (fun (U : World) (hU : w4.grownBy U (some (H + 1 + 1 + 1))) => made_end (b := false) rfl HO4.out (fun b hb => ⟨(HF2.out b hb).1, Nat.lt_of_lt_of_le (HF2.out b hb).2.1 HS4.out⟩) HNG.out (by have := HH.out; omega) HB4.out hU)
    go_wp2_with fail
    generalize hU : w4.setCell ⟨H + 1 + 1 + 1, 0, none⟩ (.slice A9 s.length d9) = U
    have hgU : w4.grownBy U (some (H + 1 + 1 + 1)) := by rw [← hU]; exact grown_set (World.grownBy.refl _ _) _
    have u1 : Box1 U (H + 1 + 1 + 1) 37 (.slice A9 s.length d9) := by rw [← hU]; exact BR4.out.set0 _
    have HRR := Lib.hid (HM8.out U hgU)
    have t0 := u1.c0
    clear hU hgU u1 r0 s0 k0
    exact bodyPost_ret (v := .tuple #[.agg #[.slice A9 s.length d9], .bool false]) (by simp [results, Tryz.results8, go_sem, t0]) rfl (by rw [HD.out]; exact HRR.out)
  rcases hat with ⟨rfl, hix⟩ | ⟨j, hj, rfl, hix⟩
  · have HD := Lib.hid (chgD_none (xs := t) (f := insF v) hix)
    clear hix hdb
    go_wp2_with fail
    refine HI.out.mono ?_
    rintro e w4 ⟨rfl, hb4⟩
    have hs4 := hb4.size
    have HB4 := Lib.hid (HB3.out.trans (hb4.mono HB3.out.size))
    have HS4 : Hid (W2.heap.size ≤ w4.heap.size) := Lib.hid (Nat.le_trans HS3.out hs4)
    have BS4 := Lib.hid (BS3.out.under hb4 BS3.out.lt)
    have BD4 := Lib.hid (BD3.out.under hb4 BD3.out.lt)
    have BV4 := Lib.hid (BV3.out.under hb4 BV3.out.lt)
    have BR4 := Lib.hid (BR3.out.under hb4 BR3.out.lt)
    have BK4 := Lib.hid (BK3.out.under hb4 BK3.out.lt)
    have HO4 := Lib.hid (HO3.out.under hb4)
    clear hb4 hs4 y3 z3 HI
    have r0 := BR4.out.c0
    have s0 := BR4.out.free 0
    have k0 := BK4.out.c0
    have HM8 := Lib.hid (fun (U : World) (hU : w4.grownBy U (some (H + 1 + 1 + 1))) => made_end (b := false) rfl HO4.out (fun b hb => ⟨(HF2.out b hb).1, Nat.lt_of_lt_of_le (HF2.out b hb).2.1 HS4.out⟩) HNG.out (by have := HH.out; omega) HB4.out hU)
    go_wp2_with fail
    generalize hU : w4.setCell ⟨H + 1 + 1 + 1, 0, none⟩ (.slice A9 s.length d9) = U
    have hgU : w4.grownBy U (some (H + 1 + 1 + 1)) := by rw [← hU]; exact grown_set (World.grownBy.refl _ _) _
    have u1 : Box1 U (H + 1 + 1 + 1) 37 (.slice A9 s.length d9) := by rw [← hU]; exact BR4.out.set0 _
    have HRR := Lib.hid (HM8.out U hgU)
    have t0 := u1.c0
    clear hU hgU u1 r0 s0 k0
    exact bodyPost_ret (v := .tuple #[.agg #[.slice A9 s.length d9], .bool false]) (by simp [results, Tryz.results8, go_sem, t0]) rfl (by rw [HD.out]; exact HRR.out)
  obtain ⟨_, hnm, _⟩ := HFI.out.1 j hix
  have hj0 : ¬ (j : Int) < 0 := by omega
  have gj1 : (j : Int) < (s.length : Int) := by omega
  have gj2 : (0 : Int) ≤ (j : Int) := by omega
  go_wp2_with fail
  refine HI.out.mono ?_
  rintro e w4 ⟨rfl, hb4⟩
  have hs4 := hb4.size
  have HB4 := Lib.hid (HB3.out.trans (hb4.mono HB3.out.size))
  have HS4 : Hid (W2.heap.size ≤ w4.heap.size) := Lib.hid (Nat.le_trans HS3.out hs4)
  have BS4 := Lib.hid (BS3.out.under hb4 BS3.out.lt)
  have BD4 := Lib.hid (BD3.out.under hb4 BD3.out.lt)
  have BV4 := Lib.hid (BV3.out.under hb4 BV3.out.lt)
  have BR4 := Lib.hid (BR3.out.under hb4 BR3.out.lt)
  have BK4 := Lib.hid (BK3.out.under hb4 BK3.out.lt)
  have HO4 := Lib.hid (HO3.out.under hb4)
  clear hb4 hs4 y3 z3 HI
  obtain ⟨A5, d5, cells5, fs5, n, cells, fs, g, hnl, hol, rfl, hc0, hc1, hnz, hi5, hn1, hcn⟩ : ∃ A5 d5 cells5 fs5 n cells fs g, s[j].2.length = n ∧ OLc kDd 66 w4 s (some ⟨g, 0, none⟩) d9 cells fs fp ∧ A9 = some ⟨g, 0, none⟩ ∧ cells[j * 2]? = some (.string nm) ∧ cells[j * 2 + 1]? = some (.slice A5 n d5) ∧ nm.size ≤ 9223372036854775807 ∧ OLc kVa 47 w4 s[j].2 A5 d5 cells5 fs5 (fs j) ∧ n ≤ 1048576 ∧ n ≤ d5 := by
    obtain ⟨cells, fs, hol⟩ := (OL.parts (ODb.ol.1 HO4.out)).2
    obtain ⟨g, rfl⟩ := own_someG hol.row (by omega)
    obtain ⟨A5, d5, cells5, fs5, hc0, hc1, hsz, hi5⟩ := olc_any hol hj hnm
    have hwl := (dd_bounds hj HV.out).2.1
    exact ⟨A5, d5, cells5, fs5, _, cells, fs, g, rfl, hol, rfl, hc0, hc1, hsz, hi5, by unfold wL at hwl; omega, own_capTy hi5.row⟩
  obtain ⟨i1, hi1, hy0, hy1, hy2⟩ := info_parts infoVa
  have hc5 : cells5.length = n * 4 := by rw [← hnl]; exact hi5.row.1
  have m0 : w4.cell? ⟨g, j * 2 + 1, none⟩ = some (.slice A5 n d5) := (hol.row.cellAt (j * 2 + 1) (show j * 2 + 1 < s.length * kDd.n by rw [kDd_n]; omega)).trans hc1
  have HCALL := Lib.hid (fun (W : World) (hB : Below w4.heap.size w4 W) => HVC.out W (HB4.out.trans (hB.mono HB4.out.size)))
  have HROW : Hid (∀ W, Below w4.heap.size w4 W → W.ownsRow 0 47 4 (.slice A5 n d5) n cells5) := Lib.hid (fun W hB => by rw [← hnl]; exact own_keep (show w4.ownsRow 0 47 4 (.slice A5 s[j].2.length d5) s[j].2.length cells5 from hi5.row) (row := none) (grown_none hB) (fun b _ => by simp))
  have HHERE := Lib.hid (fun (Z w7 : World) (hB : Below w4.heap.size w4 Z) hgr => ins_here (w := w) (Z := Z) (w7 := w7) (n := n) (H := H) hol hj hnl hc1 hi5 (fun b hb => ⟨(HF2.out b hb).1, (HF2.out b hb).2.2⟩) BK4.out hB hgr)
  have HNEXT := Lib.hid (fun (Z w8 : World) (A7 : Option Addr) (d7 : Nat) (rs : List Value) (fx : List Nat) (hB : Below w4.heap.size w4 Z) hx hfx hown hgr hor => ins_next (w := w) (Z := Z) (w8 := w8) (n := n) (H := H) (A7 := A7) (d7 := d7) (rs := rs) (fx := fx) (v := v) hol hj hnl hnm hnz hc0 hc1 hi5 (by omega) (fun b hb => ⟨(HF2.out b hb).1, (HF2.out b hb).2.2⟩) HH.out BK4.out BR4.out BS4.out BD4.out HB4.out hB hx hfx hown hgr hor)
  obtain ⟨rows, hrows⟩ : ∃ rows, s[j].2 = rows := ⟨_, rfl⟩
  have HCH := Lib.hid (show chgD t s nm (insF v) = if dbB t (s.set j (nm, rows ++ [v])) = true then (s.set j (nm, rows ++ [v]), true) else (s, false) from chgD_some hix hdb (by rw [rowsAt_get hj, hrows]; rfl))
  rw [hrows] at HNEXT
  have k4 := BK4.out.c0
  have v0 := BV4.out.c0
  have v1 := BV4.out.c1
  have v2 := BV4.out.c2
  have v3 := BV4.out.c3
  clear hol hc0 hc1 hi5 hix hdb hnl hrows hnz HFI HISD HVC
  have hgl : g < w4.heap.size := World.block_lt_of_cell? w4 _ m0
  go_wp2_with fail
  go_region_law (fail)
  · obtain ⟨V5, hV5⟩ : ∃ V5, (w4.alloc (.cells #[.bool false] 4)).drew = V5 := ⟨_, rfl⟩
    rw [hV5]
    have hb45 : Below w4.heap.size w4 V5 := by rw [← hV5]; exact ((Below.refl _ _).alloc (Nat.le_refl _) _).drew
    have up5 : ∀ (W : World), Below w4.heap.size w4 W → ∀ (q : Addr) (u : Value), w4.cell? q = some u → W.cell? q = some u := fun W hW q u h => (hW.cell (World.block_lt_of_cell? w4 _ h)).trans h
    have hb4z : Below w4.heap.size w4 (V5.alloc (.cells #[.int .i64 0, .int .i64 0, .slice none 0 0, .slice none 0 0] 47)) := hb45.alloc hb45.size _
    have HBD := Lib.hid hb45.drew
    have HBA := Lib.hid hb4z.drew
    have m5 := up5 _ hb45 _ _ m0
    have k5 := up5 _ hb45 _ _ k4
    have e50 := up5 _ hb45 _ _ v0
    have e51 := up5 _ hb45 _ _ v1
    have e52 := up5 _ hb45 _ _ v2
    have e53 := up5 _ hb45 _ _ v3
    have HM4 := Lib.hid m0
    have HK4 := Lib.hid k4
    clear hb45 up5 hV5 m0 k4 v0 v1 v2 v3 hb4z
    have HAFT : Hid (∀ V w6 : World, Below w4.heap.size w4 V → Below V.heap.size V w6 → Below w4.heap.size w4 w6 ∧ w6.cell? ⟨g, j * 2 + 1, none⟩ = some (.slice A5 n d5) ∧ w6.cell? ⟨K, 0, none⟩ = some (.slice (some ⟨g, 0, none⟩) s.length d9)) := Lib.hid (fun V w6 h4 h6 => by
      have h46 := h4.trans (h6.mono h4.size)
      have up : ∀ (q : Addr) (u : Value), w4.cell? q = some u → w6.cell? q = some u := fun q u h => (h46.cell (World.block_lt_of_cell? w4 _ h)).trans h
      exact ⟨h46, up _ _ HM4.out, up _ _ HK4.out⟩)
    go_wp2_with fail
    apply ins_cut (R := fun q0 q1 L6 q2 l6 A6 q3 d6 GZ A7 d7 W => InsEnd w K H (.slice (some ⟨g, 0, none⟩) s.length d9) (.slice none 0 0) (.slice A0 t.length c0') (.slice A s.length c) (s.set j (nm, rows ++ [v])) [.slice (some ⟨g, 0, none⟩) s.length d9] W)
    rotate_left 1
    · go_region_law (first
        | (go_simp; refine (HCALL.out V5.drew HBD.out).mono ?_; rintro e w6 ⟨q0, q1, L6, q2, l6, A6, q3, d6, fx, rfl, ho6, hf6, hb6⟩; obtain ⟨h46, u0, u1⟩ := HAFT.out _ w6 HBD.out hb6; have hal : Below w6.heap.size w6 (w6.alloc (.cells #[.int .i64 q0, .int .i64 q1, .slice L6 q2 l6, .slice A6 q3 d6] 47)) := (Below.refl _ _).alloc (Nat.le_refl _) _; have x0 := (hal.cell (World.block_lt_of_cell? _ _ u0)).trans u0; have x1 := (hal.cell (World.block_lt_of_cell? _ _ u1)).trans u1; have hfx : ∀ b ∈ fx, w4.heap.size ≤ b ∧ b < w6.heap.size := (fun b hb => by have := hf6 b hb; have := HBD.out.size; omega); have HBa := Lib.hid (h46.trans (hal.mono h46.size)); have HOa := Lib.hid (ho6.under hal); have HFa := Lib.hid (fun b hb => (show w4.heap.size ≤ b ∧ b < (w6.alloc (.cells #[.int .i64 q0, .int .i64 q1, .slice L6 q2 l6, .slice A6 q3 d6] 47)).heap.size from by have := hfx b hb; simp; omega)); have HRa := Lib.hid (HROW.out _ HBa.out); have HNW := Lib.hid (news4 w6 (.int .i64 q0) (.int .i64 q1) (.slice L6 q2 l6) (.slice A6 q3 d6) 47); clear ho6 hf6 hb6 h46 hal hfx)
        | (refine step_append_at (by rfl) (.tmp 50) (.tmp 53) 45 (by rfl) 0 47 i1 _ 4 64 Tryz.underlying45 hi1 hy0 hy1 hy2 (by rfl) (by omega) _ n cells5 (by rfl) HRa.out ⟨w6.heap.size, 0, none⟩ 1 1 [.int .i64 q0, .int .i64 q1, .slice L6 q2 l6, .slice A6 q3 d6] (by rfl) (by rfl) HNW.out (one4 _ _ _ _ _ _ _ _) (by unfold maxLen; omega) (by omega) (Nat.zero_le _) ?_; intro A7 d7 w7 ho7 hg7 hor7; obtain ⟨k7, m7, f7, _⟩ := HHERE.out _ w7 HBa.out hg7; have HN7 := Lib.hid (HNEXT.out _ w7 A7 d7 [.int .i64 q0, .int .i64 q1, .slice L6 q2 l6, .slice A6 q3 d6] fx HBa.out HOa.out HFa.out ho7 hg7 (by simpa using hor7)); clear ho7 hg7 hor7))
      all_goals (
        obtain ⟨GZ, hGZ⟩ : ∃ GZ, w6.heap.size = GZ := ⟨_, rfl⟩
        try rw [hGZ]
        exact ins_normal q0 q1 L6 q2 l6 A6 q3 d6 GZ A7 d7 HN7.out)
    intro q0 q1 L6 q2 l6 A6 q3 d6 GZ A7 d7 w9 hend
    clear m5 k5 e50 e51 e52 e53 HAFT HBD HBA HM4 HK4 HCALL HROW HHERE HNEXT
    obtain ⟨bk9, br9, bs9, bd9, hb9, fp9, ho9, hf9⟩ := hend
    have BK9 := Lib.hid bk9
    have BR9 := Lib.hid br9
    have BD9 := Lib.hid bd9
    have HB9 := Lib.hid hb9
    have HO9 := Lib.hid ho9
    have HF9 := Lib.hid hf9
    have HI9 := Lib.hid (HISG.out w9 hb9 _ _ (ODb.reads ho9))
    have y0 := bs9.c0
    have y1 := bk9.c0
    clear bk9 br9 bs9 bd9 hb9 ho9 hf9
    obtain ⟨SS, hSS⟩ : ∃ SS, s.set j (nm, rows ++ [v]) = SS := ⟨_, rfl⟩
    have hSL : SS.length = s.length := by rw [← hSS, List.length_set]
    rw [hSS] at HI9 HO9 HCH
    obtain ⟨db, hdb⟩ : ∃ db, dbB t SS = db := ⟨_, rfl⟩
    rw [hdb] at HI9 HCH
    clear hSS hdb
    cases db
    · have HD : Hid (chgD t s nm (insF v) = (s, false)) := Lib.hid (by rw [HCH.out]; rfl)
      clear HCH
      go_wp2_with fail
      refine HI9.out.mono ?_
      rintro e w10 ⟨rfl, hb10⟩
      have HB10 := Lib.hid (HB9.out.trans (hb10.mono HB9.out.size))
      have BD10 := Lib.hid (BD9.out.under hb10 BD9.out.lt)
      have BR10 := Lib.hid (BR9.out.under hb10 BR9.out.lt)
      have y3 := BD10.out.c0
      clear hb10 HI9 y0 y1
      go_wp2_with fail
      refine (HCOPY.out w10 HB10.out).mono ?_
      rintro e w11 hm9
      have hb11 : Below w10.heap.size w10 w11 := by
        obtain ⟨_, _, _, _, _, _, hb9⟩ := hm9
        exact hb9
      have BR11 := Lib.hid (BR10.out.under hb11 BR10.out.lt)
      have HM9 := Lib.hid (fun (U : World) (hU : w11.grownBy U (some (H + 1 + 1 + 1))) => made_chgN (b := false) rfl hm9 HB10.out (by have := BR10.out.lt; omega) (by have := HH.out; omega) hU)
      obtain ⟨A11, d11, rfl, _⟩ := HM9.out w11 (World.grownBy.refl _ _)
      have HM8 : Hid (∀ U : World, w11.grownBy U (some (H + 1 + 1 + 1)) → MadeChg (chgD t s nm (insF v)) w (.returned (.tuple #[.agg #[.slice A11 s.length d11], .bool false])) U) := Lib.hid (by
        intro U hU
        obtain ⟨A8, d8, e8, h8⟩ := HM9.out U hU
        injection e8 with e8
        rw [HD.out, e8]
        exact h8)
      have r0 := BR11.out.c0
      have s0 := BR11.out.free 0
      clear hm9 hb11 HM9 y3
      go_wp2_with fail
      generalize hU : w11.setCell ⟨H + 1 + 1 + 1, 0, none⟩ (.slice A11 s.length d11) = U
      have hgU : w11.grownBy U (some (H + 1 + 1 + 1)) := by rw [← hU]; exact grown_set (World.grownBy.refl _ _) _
      have u1 : Box1 U (H + 1 + 1 + 1) 37 (.slice A11 s.length d11) := by rw [← hU]; exact BR11.out.set0 _
      have HRR := Lib.hid (HM8.out U hgU)
      have t0 := u1.c0
      clear hU hgU u1 r0 s0
      exact bodyPost_ret (v := .tuple #[.agg #[.slice A11 s.length d11], .bool false]) (by simp [results, Tryz.results8, go_sem, t0]) rfl HRR.out
    · have HD : Hid (chgD t s nm (insF v) = (SS, true)) := Lib.hid (by rw [HCH.out]; rfl)
      clear HCH
      go_wp2_with fail
      refine HI9.out.mono ?_
      rintro e w10 ⟨rfl, hb10⟩
      have hs10 := hb10.size
      have HB10 := Lib.hid (HB9.out.trans (hb10.mono HB9.out.size))
      have BK10 := Lib.hid (BK9.out.under hb10 BK9.out.lt)
      have BR10 := Lib.hid (BR9.out.under hb10 BR9.out.lt)
      have HO10 := Lib.hid (HO9.out.under hb10)
      have HM8 := Lib.hid (fun (U : World) (hU : w10.grownBy U (some (H + 1 + 1 + 1))) => made_end (b := true) hSL HO10.out (fun b hb => (show w.heap.size ≤ b ∧ b < w10.heap.size from by have := HF9.out b hb; omega)) (fun hb => (HF9.out _ hb).2.2 rfl) (by have := HH.out; omega) HB10.out hU)
      have k10 := BK10.out.c0
      have r0 := BR10.out.c0
      have s0 := BR10.out.free 0
      clear hb10 hs10 HI9 y0 y1
      go_wp2_with fail
      generalize hU : w10.setCell ⟨H + 1 + 1 + 1, 0, none⟩ (.slice (some ⟨g, 0, none⟩) s.length d9) = U
      have hgU : w10.grownBy U (some (H + 1 + 1 + 1)) := by rw [← hU]; exact grown_set (World.grownBy.refl _ _) _
      have u1 : Box1 U (H + 1 + 1 + 1) 37 (.slice (some ⟨g, 0, none⟩) s.length d9) := by rw [← hU]; exact BR10.out.set0 _
      have HRR := Lib.hid (HM8.out U hgU)
      have t0 := u1.c0
      clear hU hgU u1 r0 s0 k10
      exact bodyPost_ret (v := .tuple #[.agg #[.slice (some ⟨g, 0, none⟩) s.length d9], .bool true]) (by simp [results, Tryz.results8, go_sem, t0]) rfl (by rw [HD.out]; exact HRR.out)
  · obtain ⟨V5, hV5⟩ : ∃ V5, (w4.alloc (.cells #[.bool true] 4)).drew = V5 := ⟨_, rfl⟩
    rw [hV5]
    have hb45 : Below w4.heap.size w4 V5 := by rw [← hV5]; exact ((Below.refl _ _).alloc (Nat.le_refl _) _).drew
    have up5 : ∀ (W : World), Below w4.heap.size w4 W → ∀ (q : Addr) (u : Value), w4.cell? q = some u → W.cell? q = some u := fun W hW q u h => (hW.cell (World.block_lt_of_cell? w4 _ h)).trans h
    have hb4z : Below w4.heap.size w4 (V5.alloc (.cells #[.int .i64 0, .int .i64 0, .slice none 0 0, .slice none 0 0] 47)) := hb45.alloc hb45.size _
    have HBD := Lib.hid hb45.drew
    have HBA := Lib.hid hb4z.drew
    have m5 := up5 _ hb45 _ _ m0
    have k5 := up5 _ hb45 _ _ k4
    have e50 := up5 _ hb45 _ _ v0
    have e51 := up5 _ hb45 _ _ v1
    have e52 := up5 _ hb45 _ _ v2
    have e53 := up5 _ hb45 _ _ v3
    have m5z := up5 _ hb4z _ _ m0
    have k5z := up5 _ hb4z _ _ k4
    have e5z0 := up5 _ hb4z _ _ v0
    have e5z1 := up5 _ hb4z _ _ v1
    have e5z2 := up5 _ hb4z _ _ v2
    have e5z3 := up5 _ hb4z _ _ v3
    have HNB : Hid (∀ w6, Below (V5.alloc (.cells #[.int .i64 0, .int .i64 0, .slice none 0 0, .slice none 0 0] 47)).drew.heap.size (V5.alloc (.cells #[.int .i64 0, .int .i64 0, .slice none 0 0, .slice none 0 0] 47)).drew w6 → ∀ (i : Nat) (u : Value), [.int .i64 0, .int .i64 0, .slice none 0 0, .slice none 0 0][i]? = some u → w6.cell? ((⟨V5.heap.size, 0, none⟩ : Addr).add i) = some u) := Lib.hid (fun w6 h6 i u hi => by
      have hc := news4 V5 (.int .i64 0) (.int .i64 0) (.slice none 0 0) (.slice none 0 0) 47 i u hi
      exact (h6.cell (World.block_lt_of_cell? (V5.alloc (.cells #[.int .i64 0, .int .i64 0, .slice none 0 0, .slice none 0 0] 47)) _ hc)).trans hc)
    have HM4 := Lib.hid m0
    have HK4 := Lib.hid k4
    clear hb45 up5 hV5 m0 k4 v0 v1 v2 v3 hb4z
    have HAFT : Hid (∀ V w6 : World, Below w4.heap.size w4 V → Below V.heap.size V w6 → Below w4.heap.size w4 w6 ∧ w6.cell? ⟨g, j * 2 + 1, none⟩ = some (.slice A5 n d5) ∧ w6.cell? ⟨K, 0, none⟩ = some (.slice (some ⟨g, 0, none⟩) s.length d9)) := Lib.hid (fun V w6 h4 h6 => by
      have h46 := h4.trans (h6.mono h4.size)
      have up : ∀ (q : Addr) (u : Value), w4.cell? q = some u → w6.cell? q = some u := fun q u h => (h46.cell (World.block_lt_of_cell? w4 _ h)).trans h
      exact ⟨h46, up _ _ HM4.out, up _ _ HK4.out⟩)
    go_wp2_with fail
    apply ins_cut6 (R := fun q0 q1 L6 q2 l6 A6 q3 d6 GZ g7 d7 W => (W.cell? ⟨g7, n * 4, none⟩ = some (.int .i64 0) ∧ W.cell? ⟨g7, n * 4 + 1, none⟩ = some (.int .i64 0) ∧ W.cell? ⟨g7, n * 4 + 2, none⟩ = some (.slice none 0 0) ∧ W.cell? ⟨g7, n * 4 + 3, none⟩ = some (.slice none 0 0)) ∧ (∀ (i : Nat), W.frozen? ⟨g7, i, none⟩ = false) ∧ InsEnd w K H (.slice (some ⟨g, 0, none⟩) s.length d9) (.slice none 0 0) (.slice A0 t.length c0') (.slice A s.length c) (s.set j (nm, rows ++ [v])) [.slice (some ⟨g, 0, none⟩) s.length d9] ((((W.setCell ⟨g7, n * 4, none⟩ (.int .i64 q0)).setCell ⟨g7, n * 4 + 1, none⟩ (.int .i64 q1)).setCell ⟨g7, n * 4 + 2, none⟩ (.slice L6 q2 l6)).setCell ⟨g7, n * 4 + 3, none⟩ (.slice A6 q3 d6)))
    rotate_left 1
    · go_region_law (first
        | (go_simp; first | (refine (HCALL.out V5.drew HBD.out).mono ?_; rintro e w6 ⟨q0, q1, L6, q2, l6, A6, q3, d6, fx, rfl, ho6, hf6, hb6⟩; obtain ⟨h46, u0, u1⟩ := HAFT.out _ w6 HBD.out hb6; have hal : Below w6.heap.size w6 (w6.alloc (.cells #[.int .i64 0, .int .i64 0, .slice none 0 0, .slice none 0 0] 47)) := (Below.refl _ _).alloc (Nat.le_refl _) _; have x0 := (hal.cell (World.block_lt_of_cell? _ _ u0)).trans u0; have x1 := (hal.cell (World.block_lt_of_cell? _ _ u1)).trans u1; have hfx : ∀ b ∈ fx, w4.heap.size ≤ b ∧ b < w6.heap.size := (fun b hb => by have := hf6 b hb; have := HBD.out.size; omega); have HBa := Lib.hid (h46.trans (hal.mono h46.size)); have HOa := Lib.hid (ho6.under hal); have HFa := Lib.hid (fun b hb => (show w4.heap.size ≤ b ∧ b < (w6.alloc (.cells #[.int .i64 0, .int .i64 0, .slice none 0 0, .slice none 0 0] 47)).heap.size from by have := hfx b hb; simp; omega)); have HRa := Lib.hid (HROW.out _ HBa.out); have HNW := Lib.hid (news4 w6 (.int .i64 0) (.int .i64 0) (.slice none 0 0) (.slice none 0 0) 47); have HNX := Lib.hid (fun w8 A7 d7 h1 h2 h3 => HNEXT.out (w6.alloc (.cells #[.int .i64 0, .int .i64 0, .slice none 0 0, .slice none 0 0] 47)) w8 A7 d7 [.int .i64 q0, .int .i64 q1, .slice L6 q2 l6, .slice A6 q3 d6] fx HBa.out HOa.out HFa.out h1 h2 h3); obtain ⟨GZ, hGZ⟩ : ∃ GZ, w6.heap.size = GZ := ⟨_, rfl⟩; have HGZ := Lib.hid hGZ; clear hGZ; clear ho6 hf6 hb6 h46 hal hfx) | (refine (HCALL.out _ HBA.out).mono ?_; rintro e w6 ⟨q0, q1, L6, q2, l6, A6, q3, d6, fx, rfl, ho6, hf6, hb6⟩; obtain ⟨h46, u0, u1⟩ := HAFT.out _ w6 HBA.out hb6; have hfx : ∀ b ∈ fx, w4.heap.size ≤ b ∧ b < w6.heap.size := (fun b hb => by have := hf6 b hb; have := HBA.out.size; omega); have HBa := Lib.hid h46; have HOa := Lib.hid ho6; have HFa := Lib.hid hfx; have HRa := Lib.hid (HROW.out _ HBa.out); have HNW := Lib.hid (HNB.out w6 hb6); have HNX := Lib.hid (fun w8 A7 d7 h1 h2 h3 => HNEXT.out w6 w8 A7 d7 [.int .i64 q0, .int .i64 q1, .slice L6 q2 l6, .slice A6 q3 d6] fx HBa.out HOa.out HFa.out h1 h2 h3); obtain ⟨GZ, hGZ⟩ : ∃ GZ, V5.heap.size = GZ := ⟨_, rfl⟩; have HGZ := Lib.hid hGZ; clear hGZ; clear ho6 hf6 hb6 h46 hfx))
        | (first | (refine step_append_at (by rfl) (.tmp 33) (.tmp 37) 45 (by rfl) 0 47 i1 _ 4 64 Tryz.underlying45 hi1 hy0 hy1 hy2 (by rfl) (by omega) _ n cells5 (by rfl) HRa.out ⟨w6.heap.size, 0, none⟩ 1 1 [.int .i64 0, .int .i64 0, .slice none 0 0, .slice none 0 0] (by rfl) (by rfl) HNW.out (one4 _ _ _ _ _ _ _ _) (by unfold maxLen; omega) (by omega) (Nat.zero_le _) ?_; intro A7 d7 w7 ho7 hg7 hor7; obtain ⟨k7, m7, f7, hne7⟩ := HHERE.out _ w7 HBa.out hg7; obtain ⟨g7, rfl⟩ := own_someG ho7 (by omega); have HN7 := Lib.hid (ins_zero (j := j) (P := InsEnd w K H (.slice (some ⟨g, 0, none⟩) s.length d9) (.slice none 0 0) (.slice A0 t.length c0') (.slice A s.length c) (s.set j (nm, rows ++ [v])) [.slice (some ⟨g, 0, none⟩) s.length d9]) (S := .slice (some ⟨g7, 0, none⟩) (n + 1) d7) hc5 (fun b e => (hne7 b e).1) (Nat.lt_of_lt_of_le hgl HBa.out.size) ho7 hg7 (by simpa using hor7) (fun w8 h1 h2 => HNX.out w8 _ d7 h1 h2 (by simpa using hor7))); clear ho7 hg7 hor7 hne7) | (refine step_append_at (by rfl) (.tmp 33) (.tmp 37) 45 (by rfl) 0 47 i1 _ 4 64 Tryz.underlying45 hi1 hy0 hy1 hy2 (by rfl) (by omega) _ n cells5 (by rfl) HRa.out ⟨V5.heap.size, 0, none⟩ 1 1 [.int .i64 0, .int .i64 0, .slice none 0 0, .slice none 0 0] (by rfl) (by rfl) HNW.out (one4 _ _ _ _ _ _ _ _) (by unfold maxLen; omega) (by omega) (Nat.zero_le _) ?_; intro A7 d7 w7 ho7 hg7 hor7; obtain ⟨k7, m7, f7, hne7⟩ := HHERE.out _ w7 HBa.out hg7; obtain ⟨g7, rfl⟩ := own_someG ho7 (by omega); have HN7 := Lib.hid (ins_zero (j := j) (P := InsEnd w K H (.slice (some ⟨g, 0, none⟩) s.length d9) (.slice none 0 0) (.slice A0 t.length c0') (.slice A s.length c) (s.set j (nm, rows ++ [v])) [.slice (some ⟨g, 0, none⟩) s.length d9]) (S := .slice (some ⟨g7, 0, none⟩) (n + 1) d7) hc5 (fun b e => (hne7 b e).1) (Nat.lt_of_lt_of_le hgl HBa.out.size) ho7 hg7 (by simpa using hor7) (fun w8 h1 h2 => HNX.out w8 _ d7 h1 h2 (by simpa using hor7))); clear ho7 hg7 hor7 hne7)))
      all_goals (
        try rw [HGZ.out]
        exact ins_normal6 q0 q1 L6 q2 l6 A6 q3 d6 GZ g7 d7 HN7.out)
    rintro q0 q1 L6 q2 l6 A6 q3 d6 GZ g7 d7 X ⟨⟨z0, z1, z2, z3⟩, zf, hend⟩
    have f0 := zf (n * 4)
    have f1 := zf (n * 4 + 1)
    have f2 := zf (n * 4 + 2)
    have f3 := zf (n * 4 + 3)
    have hn0 : (0 : Int) ≤ (n : Int) := by omega
    have hn2 : (n : Int) < (n : Int) + 1 := by omega
    clear m5 k5 e50 e51 e52 e53 m5z k5z e5z0 e5z1 e5z2 e5z3 HAFT HBD HBA HM4 HK4 HCALL HROW HHERE HNEXT HNB zf
    obtain ⟨w9, hw9⟩ : ∃ w9, (((X.setCell ⟨g7, n * 4, none⟩ (.int .i64 q0)).setCell ⟨g7, n * 4 + 1, none⟩ (.int .i64 q1)).setCell ⟨g7, n * 4 + 2, none⟩ (.slice L6 q2 l6)).setCell ⟨g7, n * 4 + 3, none⟩ (.slice A6 q3 d6) = w9 := ⟨_, rfl⟩
    have yl0 := hend.2.2.1.c0
    have yl1 := hend.1.c0
    rw [hw9] at hend
    have HEND := Lib.hid hend
    have HW9 := Lib.hid hw9
    clear hend hw9
    go_wp2_with fail
    rw [HW9.out]
    have hend := HEND.out
    clear HW9 HEND z0 z1 z2 z3 f0 f1 f2 f3 yl0 yl1
    obtain ⟨bk9, br9, bs9, bd9, hb9, fp9, ho9, hf9⟩ := hend
    have BK9 := Lib.hid bk9
    have BR9 := Lib.hid br9
    have BD9 := Lib.hid bd9
    have HB9 := Lib.hid hb9
    have HO9 := Lib.hid ho9
    have HF9 := Lib.hid hf9
    have HI9 := Lib.hid (HISG.out w9 hb9 _ _ (ODb.reads ho9))
    have y0 := bs9.c0
    have y1 := bk9.c0
    clear bk9 br9 bs9 bd9 hb9 ho9 hf9
    obtain ⟨SS, hSS⟩ : ∃ SS, s.set j (nm, rows ++ [v]) = SS := ⟨_, rfl⟩
    have hSL : SS.length = s.length := by rw [← hSS, List.length_set]
    rw [hSS] at HI9 HO9 HCH
    obtain ⟨db, hdb⟩ : ∃ db, dbB t SS = db := ⟨_, rfl⟩
    rw [hdb] at HI9 HCH
    clear hSS hdb
    cases db
    · have HD : Hid (chgD t s nm (insF v) = (s, false)) := Lib.hid (by rw [HCH.out]; rfl)
      clear HCH
      refine HI9.out.mono ?_
      rintro e w10 ⟨rfl, hb10⟩
      have HB10 := Lib.hid (HB9.out.trans (hb10.mono HB9.out.size))
      have BD10 := Lib.hid (BD9.out.under hb10 BD9.out.lt)
      have BR10 := Lib.hid (BR9.out.under hb10 BR9.out.lt)
      have y3 := BD10.out.c0
      clear hb10 HI9 y0 y1
      go_wp2_with fail
      refine (HCOPY.out w10 HB10.out).mono ?_
      rintro e w11 hm9
      have hb11 : Below w10.heap.size w10 w11 := by
        obtain ⟨_, _, _, _, _, _, hb9⟩ := hm9
        exact hb9
      have BR11 := Lib.hid (BR10.out.under hb11 BR10.out.lt)
      have HM9 := Lib.hid (fun (U : World) (hU : w11.grownBy U (some (H + 1 + 1 + 1))) => made_chgN (b := false) rfl hm9 HB10.out (by have := BR10.out.lt; omega) (by have := HH.out; omega) hU)
      obtain ⟨A11, d11, rfl, _⟩ := HM9.out w11 (World.grownBy.refl _ _)
      have HM8 : Hid (∀ U : World, w11.grownBy U (some (H + 1 + 1 + 1)) → MadeChg (chgD t s nm (insF v)) w (.returned (.tuple #[.agg #[.slice A11 s.length d11], .bool false])) U) := Lib.hid (by
        intro U hU
        obtain ⟨A8, d8, e8, h8⟩ := HM9.out U hU
        injection e8 with e8
        rw [HD.out, e8]
        exact h8)
      have r0 := BR11.out.c0
      have s0 := BR11.out.free 0
      clear hm9 hb11 HM9 y3
      go_wp2_with fail
      generalize hU : w11.setCell ⟨H + 1 + 1 + 1, 0, none⟩ (.slice A11 s.length d11) = U
      have hgU : w11.grownBy U (some (H + 1 + 1 + 1)) := by rw [← hU]; exact grown_set (World.grownBy.refl _ _) _
      have u1 : Box1 U (H + 1 + 1 + 1) 37 (.slice A11 s.length d11) := by rw [← hU]; exact BR11.out.set0 _
      have HRR := Lib.hid (HM8.out U hgU)
      have t0 := u1.c0
      clear hU hgU u1 r0 s0
      exact bodyPost_ret (v := .tuple #[.agg #[.slice A11 s.length d11], .bool false]) (by simp [results, Tryz.results8, go_sem, t0]) rfl HRR.out
    · have HD : Hid (chgD t s nm (insF v) = (SS, true)) := Lib.hid (by rw [HCH.out]; rfl)
      clear HCH
      refine HI9.out.mono ?_
      rintro e w10 ⟨rfl, hb10⟩
      have hs10 := hb10.size
      have HB10 := Lib.hid (HB9.out.trans (hb10.mono HB9.out.size))
      have BK10 := Lib.hid (BK9.out.under hb10 BK9.out.lt)
      have BR10 := Lib.hid (BR9.out.under hb10 BR9.out.lt)
      have HO10 := Lib.hid (HO9.out.under hb10)
      have HM8 := Lib.hid (fun (U : World) (hU : w10.grownBy U (some (H + 1 + 1 + 1))) => made_end (b := true) hSL HO10.out (fun b hb => (show w.heap.size ≤ b ∧ b < w10.heap.size from by have := HF9.out b hb; omega)) (fun hb => (HF9.out _ hb).2.2 rfl) (by have := HH.out; omega) HB10.out hU)
      have k10 := BK10.out.c0
      have r0 := BR10.out.c0
      have s0 := BR10.out.free 0
      clear hb10 hs10 HI9 y0 y1
      go_wp2_with fail
      generalize hU : w10.setCell ⟨H + 1 + 1 + 1, 0, none⟩ (.slice (some ⟨g, 0, none⟩) s.length d9) = U
      have hgU : w10.grownBy U (some (H + 1 + 1 + 1)) := by rw [← hU]; exact grown_set (World.grownBy.refl _ _) _
      have u1 : Box1 U (H + 1 + 1 + 1) 37 (.slice (some ⟨g, 0, none⟩) s.length d9) := by rw [← hU]; exact BR10.out.set0 _
      have HRR := Lib.hid (HM8.out U hgU)
      have t0 := u1.c0
      clear hU hgU u1 r0 s0 k10
      exact bodyPost_ret (v := .tuple #[.agg #[.slice (some ⟨g, 0, none⟩) s.length d9], .bool true]) (by simp [results, Tryz.results8, go_sem, t0]) rfl (by rw [HD.out]; exact HRR.out)
end Go.Proofs.YtlikmgkjilmjpaaGreat
