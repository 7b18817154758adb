/-
  Merged by program: DelS.
-/
import Derived.Test.YtlikmgkjilmjpaaGreatD25
import Derived.Test.YtlikmgkjilmjpaaGreatD27
import Derived.Test.YtlikmgkjilmjpaaGreatD29
import Derived.Test.YtlikmgkjilmjpaaGreatD17

/-
  The model's DeleteRow.
-/
namespace Go.Proofs.YtlikmgkjilmjpaaGreat
open Go.RowKit

set_option maxRecDepth 100000 in
set_option maxHeartbeats 6400000 in
theorem specDel_any (t : Sc) (s : Db) (nm : ByteArray) (q : Int) (w : World) (cs ds : List Value) (h : RSc w t cs) (h' : RDb w s ds) (hw : wSc t ≤ 1048576) (hv : wDb s ≤ 1048576) :
    Calls Tryz.prog 20 #[.agg cs.toArray, .agg ds.toArray, .string nm, .int .i64 q] w (MadeChg (chgD t s nm (delF q)) w) := by
  obtain ⟨A0, c0', rfl, hl0, hld0, hp0⟩ := h.open
  obtain ⟨A, c, rfl, hl, hld, hp⟩ := h'.open
  have hlen : s.length ≤ 1048576 := Nat.le_trans (len_wDb s) hv
  obtain ⟨W1, hW1⟩ : ∃ W1, ((w.alloc (.cells #[.slice A0 t.length c0'] 42)).alloc (.cells #[.slice A s.length c] 37)).alloc (.cells #[.slice none 0 0] 37) = W1 := ⟨_, rfl⟩
  obtain ⟨H, hH⟩ : ∃ H, w.heap.size = H := ⟨_, rfl⟩
  have bs : Box1 W1 H 42 (.slice A0 t.length c0') := by rw [← hW1, ← hH]; exact ((Box1.new w _ _).alloc _).alloc _
  have bd : Box1 W1 (H + 1) 37 (.slice A s.length c) := by
    rw [← hW1, ← hH]
    have := (Box1.new (w.alloc (.cells #[.slice A0 t.length c0'] 42)) 37 (.slice A s.length c)).alloc (.cells #[.slice none 0 0] 37)
    simpa using this
  have br : Box1 W1 (H + 1 + 1) 37 (.slice none 0 0) := by
    rw [← hW1, ← hH]
    have := Box1.new ((w.alloc (.cells #[.slice A0 t.length c0'] 42)).alloc (.cells #[.slice A s.length c] 37)) 37 (.slice none 0 0)
    simpa using this
  have hb1 : Below w.heap.size w W1 := by rw [← hW1]; exact (((Below.refl _ _).alloc (Nat.le_refl _) _).alloc (by simp) _).alloc (by simp; omega) _
  have hs1 : W1.heap.size = H + 3 := by rw [← hW1, ← hH]; simp
  have HCOPY := Lib.hid (specCopyDb_any s W1 _ (h'.keep hb1) hv)
  have HTAB := Lib.hid (fun (W : World) (hB : Below w.heap.size w W) => l9TableN_any s nm W _ (h'.keep hB))
  have HISD := Lib.hid (fun (W : World) (hB : Below w.heap.size w W) => specIsDb_any t s W _ _ (h.keep hB) (h'.keep hB) hw)
  have HP := Lib.hid hp
  have HV := Lib.hid hv
  have HFI := Lib.hid (idxN_find s nm)
  have HW1 := Lib.hid hW1
  have HB1 := Lib.hid hb1
  have HS1 := Lib.hid hs1
  have HH := Lib.hid hH
  have BS := Lib.hid bs
  have BD := Lib.hid bd
  have BR := Lib.hid br
  have x0 := bd.c0
  clear h h' hw hv hp0 hp hl0 hld0 hl hld hW1 bs bd br hb1 hs1
  go_enter Tryz.func20, Tryz.ntmps20
  go_wp2_with fail
  rw [HW1.out]
  go_wp2_with fail
  refine HCOPY.out.mono ?_
  rintro e w2 ⟨A9, d9, fp, rfl, ho9, hf9, hb2⟩
  obtain ⟨K, hK⟩ : ∃ K, w2.heap.size = K := ⟨_, rfl⟩
  obtain ⟨W2, hW2⟩ : ∃ W2, w2.alloc (.cells #[.slice A9 s.length d9] 37) = W2 := ⟨_, rfl⟩
  have hb22 : Below w2.heap.size w2 W2 := by rw [← hW2]; exact (Below.refl _ _).alloc (Nat.le_refl _) _
  have hb12 : Below W1.heap.size W1 W2 := hb2.trans (hb22.mono hb2.size)
  have hsz2 : W2.heap.size = K + 1 := by rw [← hW2, ← hK]; simp
  have h21 := hb2.size
  have HBW2 := Lib.hid (HB1.out.trans (hb12.mono HB1.out.size))
  have BSW2 := Lib.hid (BS.out.under hb12 BS.out.lt)
  have BDW2 := Lib.hid (BD.out.under hb12 BD.out.lt)
  have BRW2 := Lib.hid (BR.out.under hb12 BR.out.lt)
  have BKW2 : Hid (Box1 W2 K 37 (.slice A9 s.length d9)) := Lib.hid (by rw [← hW2, ← hK]; exact Box1.new w2 _ _)
  have HOW2 := Lib.hid (ho9.under hb22)
  have HF2 : Hid (∀ b ∈ fp, w.heap.size ≤ b ∧ b < W2.heap.size ∧ b < K ∧ H + 2 < b) := Lib.hid (fun b hb => by have := hf9 b hb; have := HS1.out; have := HB1.out.size; omega)
  have HNG : Hid (H + 1 + 1 ∉ fp) := Lib.hid (fun hb => by have := HF2.out _ hb; omega)
  have HKK : Hid (H + 2 < K ∧ K < W2.heap.size) := Lib.hid (by have := HS1.out; omega)
  have HK := Lib.hid hK
  have HW2 := Lib.hid hW2
  have y0 : (w2.alloc (.cells #[.slice A9 s.length d9] 37)).cell? ⟨H + 1, 0, none⟩ = some (.slice A s.length c) := by rw [hW2]; exact BDW2.out.c0
  clear x0 hb2 hb22 hb12 hf9 ho9 hW2 hsz2 h21 hK
  go_wp2_with fail
  rw [HW2.out, HK.out]
  refine (HTAB.out W2 HBW2.out).mono ?_
  rintro e w3 ⟨n, rfl, hat, hb3⟩
  have hs3 := hb3.size
  have HB3 := Lib.hid (HBW2.out.trans (hb3.mono HBW2.out.size))
  have HS3 : Hid (W2.heap.size ≤ w3.heap.size) := Lib.hid (Nat.le_trans (Nat.le_refl _) hs3)
  have BS3 := Lib.hid (BSW2.out.under hb3 BSW2.out.lt)
  have BD3 := Lib.hid (BDW2.out.under hb3 BDW2.out.lt)
  have BR3 := Lib.hid (BRW2.out.under hb3 BRW2.out.lt)
  have BK3 := Lib.hid (BKW2.out.under hb3 BKW2.out.lt)
  have HO3 := Lib.hid (HOW2.out.under hb3)
  have y3 := BD3.out.c0
  have z3 := BS3.out.c0
  have HI := Lib.hid (HISD.out w3 HB3.out)
  clear y0 hb3 hs3 HTAB
  obtain ⟨db, hdb⟩ : ∃ db, dbB t s = db := ⟨_, rfl⟩
  rw [hdb] at HI
  cases db
  · have HD := Lib.hid (chgD_nodb (nm := nm) (f := delF q) hdb)
    clear hat hdb
    go_wp2_with fail
    refine HI.out.mono ?_
    rintro e w4 ⟨rfl, hb4⟩
    have hs4 := hb4.size
    have HB4 := Lib.hid (HB3.out.trans (hb4.mono HB3.out.size))
    have HS4 : Hid (W2.heap.size ≤ w4.heap.size) := Lib.hid (Nat.le_trans HS3.out hs4)
    have BS4 := Lib.hid (BS3.out.under hb4 BS3.out.lt)
    have BD4 := Lib.hid (BD3.out.under hb4 BD3.out.lt)
    have BR4 := Lib.hid (BR3.out.under hb4 BR3.out.lt)
    have BK4 := Lib.hid (BK3.out.under hb4 BK3.out.lt)
    have HO4 := Lib.hid (HO3.out.under hb4)
    clear hb4 hs4 y3 z3 HI
    have r0 := BR4.out.c0
    have s0 := BR4.out.free 0
    have k0 := BK4.out.c0
    have HM8 := Lib.hid (fun (U : World) (hU : w4.grownBy U (some (H + 1 + 1))) => made_end (b := false) rfl HO4.out (fun b hb => ⟨(HF2.out b hb).1, Nat.lt_of_lt_of_le (HF2.out b hb).2.1 HS4.out⟩) HNG.out (by have := HH.out; omega) HB4.out hU)
    go_wp2_with fail
    generalize hU : w4.setCell ⟨H + 1 + 1, 0, none⟩ (.slice A9 s.length d9) = U
    have hgU : w4.grownBy U (some (H + 1 + 1)) := by rw [← hU]; exact grown_set (World.grownBy.refl _ _) _
    have u1 : Box1 U (H + 1 + 1) 37 (.slice A9 s.length d9) := by rw [← hU]; exact BR4.out.set0 _
    have HRR := Lib.hid (HM8.out U hgU)
    have t0 := u1.c0
    clear hU hgU u1 r0 s0 k0
    exact bodyPost_ret (v := .tuple #[.agg #[.slice A9 s.length d9], .bool false]) (by simp [results, Tryz.results20, go_sem, t0]) rfl (by rw [HD.out]; exact HRR.out)
  rcases hat with ⟨rfl, hix⟩ | ⟨j, hj, rfl, hix⟩
  · have HD := Lib.hid (chgD_none (xs := t) (f := delF q) hix)
    clear hix hdb
    go_wp2_with fail
    refine HI.out.mono ?_
    rintro e w4 ⟨rfl, hb4⟩
    have hs4 := hb4.size
    have HB4 := Lib.hid (HB3.out.trans (hb4.mono HB3.out.size))
    have HS4 : Hid (W2.heap.size ≤ w4.heap.size) := Lib.hid (Nat.le_trans HS3.out hs4)
    have BS4 := Lib.hid (BS3.out.under hb4 BS3.out.lt)
    have BD4 := Lib.hid (BD3.out.under hb4 BD3.out.lt)
    have BR4 := Lib.hid (BR3.out.under hb4 BR3.out.lt)
    have BK4 := Lib.hid (BK3.out.under hb4 BK3.out.lt)
    have HO4 := Lib.hid (HO3.out.under hb4)
    clear hb4 hs4 y3 z3 HI
    have r0 := BR4.out.c0
    have s0 := BR4.out.free 0
    have k0 := BK4.out.c0
    have HM8 := Lib.hid (fun (U : World) (hU : w4.grownBy U (some (H + 1 + 1))) => made_end (b := false) rfl HO4.out (fun b hb => ⟨(HF2.out b hb).1, Nat.lt_of_lt_of_le (HF2.out b hb).2.1 HS4.out⟩) HNG.out (by have := HH.out; omega) HB4.out hU)
    go_wp2_with fail
    generalize hU : w4.setCell ⟨H + 1 + 1, 0, none⟩ (.slice A9 s.length d9) = U
    have hgU : w4.grownBy U (some (H + 1 + 1)) := by rw [← hU]; exact grown_set (World.grownBy.refl _ _) _
    have u1 : Box1 U (H + 1 + 1) 37 (.slice A9 s.length d9) := by rw [← hU]; exact BR4.out.set0 _
    have HRR := Lib.hid (HM8.out U hgU)
    have t0 := u1.c0
    clear hU hgU u1 r0 s0 k0
    exact bodyPost_ret (v := .tuple #[.agg #[.slice A9 s.length d9], .bool false]) (by simp [results, Tryz.results20, go_sem, t0]) rfl (by rw [HD.out]; exact HRR.out)
  obtain ⟨_, hnm, _⟩ := HFI.out.1 j hix
  go_wp2_with fail
  refine HI.out.mono ?_
  rintro e w4 ⟨rfl, hb4⟩
  have hs4 := hb4.size
  have HB4 := Lib.hid (HB3.out.trans (hb4.mono HB3.out.size))
  have HS4 : Hid (W2.heap.size ≤ w4.heap.size) := Lib.hid (Nat.le_trans HS3.out hs4)
  have BS4 := Lib.hid (BS3.out.under hb4 BS3.out.lt)
  have BD4 := Lib.hid (BD3.out.under hb4 BD3.out.lt)
  have BR4 := Lib.hid (BR3.out.under hb4 BR3.out.lt)
  have BK4 := Lib.hid (BK3.out.under hb4 BK3.out.lt)
  have HO4 := Lib.hid (HO3.out.under hb4)
  obtain ⟨ad, p, e0, e1, rfl, hpe, hr, q0, q1⟩ := rl_at2 kDd_n HP.out HB4.out hj
  obtain ⟨TA, ta, td, hcs, hsz, hy⟩ := kDd_open hr
  simp only [List.cons.injEq, and_true] at hcs
  obtain ⟨rfl, rfl⟩ := hcs
  obtain ⟨rfl, _, htd, hvs⟩ := kVas_slice hy
  have hwl := (dd_bounds hj HV.out).2.1
  have hvl : s[j].2.length ≤ 1048576 := by unfold wL at hwl; omega
  have y4 := BD4.out.c0
  have hj0 : ¬ (j : Int) < 0 := by omega
  have gj1 : (j : Int) < (s.length : Int) := by omega
  have gj2 : (0 : Int) ≤ (j : Int) := by omega
  have HIN := Lib.hid (fun m W => l1In_any q 0 m W)
  have hwr : IntKind.i64.wrap ((s[j].2.length : Int) - 1) = (s[j].2.length : Int) - 1 := by rw [IntKind.wrap_i64]; omega
  clear hb4 hs4 y3 z3 HI hr hy hvs hwl hsz
  by_cases hq : 0 ≤ q ∧ q < (s[j].2.length : Int)
  rotate_left
  · have HD := Lib.hid (chgD_delno hix hdb hj hq)
    have hqd : (decide (0 ≤ q) && decide (q ≤ (s[j].2.length : Int) - 1)) = false := by
      rw [← Bool.not_eq_true]
      simp only [Bool.and_eq_true, decide_eq_true_eq]
      omega
    clear hix hdb hq
    generalize s[j].2.length = m at *
    go_wp2_with fail
    refine (HIN.out _ _).mono ?_
    rintro e w5 ⟨rfl, rfl⟩
    rw [hqd]
    clear HIN q0 q1 y4
    have r0 := BR4.out.c0
    have s0 := BR4.out.free 0
    have k0 := BK4.out.c0
    have HM8 := Lib.hid (fun (U : World) (hU : w4.grownBy U (some (H + 1 + 1))) => made_end (b := false) rfl HO4.out (fun b hb => ⟨(HF2.out b hb).1, Nat.lt_of_lt_of_le (HF2.out b hb).2.1 HS4.out⟩) HNG.out (by have := HH.out; omega) HB4.out hU)
    go_wp2_with fail
    generalize hU : w4.setCell ⟨H + 1 + 1, 0, none⟩ (.slice A9 s.length d9) = U
    have hgU : w4.grownBy U (some (H + 1 + 1)) := by rw [← hU]; exact grown_set (World.grownBy.refl _ _) _
    have u1 : Box1 U (H + 1 + 1) 37 (.slice A9 s.length d9) := by rw [← hU]; exact BR4.out.set0 _
    have HRR := Lib.hid (HM8.out U hgU)
    have t0 := u1.c0
    clear hU hgU u1 r0 s0 k0
    exact bodyPost_ret (v := .tuple #[.agg #[.slice A9 s.length d9], .bool false]) (by simp [results, Tryz.results20, go_sem, t0]) rfl (by rw [HD.out]; exact HRR.out)
  obtain ⟨k, rfl⟩ : ∃ k : Nat, q = (k : Int) := ⟨q.toNat, by omega⟩
  have hk : k < s[j].2.length := by omega
  have HD := Lib.hid (chgD_del hix hdb hj hnm rfl hk)
  have hqd : (decide (0 ≤ (k : Int)) && decide ((k : Int) ≤ (s[j].2.length : Int) - 1)) = true := by
    simp only [Bool.and_eq_true, decide_eq_true_eq]
    omega
  obtain ⟨cells, fs, hol⟩ := (OL.parts (ODb.ol.1 HO4.out)).2
  obtain ⟨g, rfl⟩ := own_someG hol.row (by omega)
  obtain ⟨g5, d5, cells5, fs5, hc0, hc1, hsz, hi5⟩ := olc_at hol hj hnm (by omega)
  obtain ⟨i1, hi1, hy0, hy1, hy2⟩ := info_parts infoVa
  have hcap := own_capTy hi5.row
  have HN1 : Hid (∀ u ∈ cells5.drop ((k + 1) * 4), u.oneCell' = true) := Lib.hid fun u hu => olc_one hi5 u (List.mem_of_mem_drop hu)
  have hc5 : cells5.length = s[j].2.length * 4 := hi5.row.1
  have hcl : cells.length = s.length * 2 := hol.row.1
  have m0 : w4.cell? ⟨g, j * 2 + 1, none⟩ = some (.slice (some ⟨g5, 0, none⟩) s[j].2.length d5) := (hol.row.cellAt (j * 2 + 1) (show j * 2 + 1 < s.length * kDd.n by rw [kDd_n]; omega)).trans hc1
  obtain ⟨W5, hW5⟩ : ∃ W5, w4.alloc (.cells #[] 47) = W5 := ⟨_, rfl⟩
  have hb45 : Below w4.heap.size w4 W5 := by rw [← hW5]; exact (Below.refl _ _).alloc (Nat.le_refl _) _
  have HO0 : Hid (W5.ownsRow w4.heap.size 47 4 (.slice (some ⟨w4.heap.size, 0, none⟩) 0 0) 0 []) := Lib.hid (by
    rw [← hW5]
    exact World.ownsRow_made (base := w4.heap.size) (size := 4) (e := 47) w4 #[] 0 (Nat.le_refl _) (by unfold maxLen; omega) (by simp))
  have HSLa : Hid (d5 = k + 1 → Sl W5 (some ⟨g5, 0, none⟩) (cells5.drop ((k + 1) * 4))) := Lib.hid (fun e => by
    have e2 : cells5.drop ((k + 1) * 4) = [] := List.drop_eq_nil_of_le (by omega)
    rw [e2]
    intro j u hj
    simp at hj)
  have HSLb : Hid (Sl W5 (some ⟨g5, (k + 1) * 4, none⟩) (cells5.drop ((k + 1) * 4))) := Lib.hid (by
    have hsl : Sl w4 (some ⟨g5, (k + 1) * 4, none⟩) (cells5.drop ((k + 1) * 4)) := fun i u hj => ⟨_, rfl, by
      rw [List.getElem?_drop] at hj
      have h := hi5.row.cells (g := g5) rfl _ u hj
      rw [Addr.add_lit, Nat.zero_add] at h
      rw [Addr.add_lit]
      exact h⟩
    exact hsl.below hb45)
  have HNL : Hid ((cells5.drop ((k + 1) * 4)).length = (s[j].2.length - (k + 1)) * 4) := Lib.hid (by rw [List.length_drop]; omega)
  have HAP : Hid (∀ (v6 : Value) (w6 : World), w6.ownsRow w4.heap.size 47 4 v6 (0 + (s[j].2.length - (k + 1))) ([] ++ cells5.drop ((k + 1) * 4)) → W5.grownBy w6 (some w4.heap.size) → (v6.ownBlock = some w4.heap.size ∨ v6.ownBlock = some W5.heap.size) →
      Below w4.heap.size w4 w6 ∧ ∃ gr dr, v6 = .slice (some ⟨gr, 0, none⟩) (s[j].2.length - (k + 1)) dr ∧ ∀ i u, (cells5.drop ((k + 1) * 4))[i]? = some u → w6.drew.cell? ((⟨gr, 0, none⟩ : Addr).add i) = some u) := Lib.hid (fun v6 w6 h1 h2 h3 => by
    refine ⟨hb45.grown h2 hb45.size (fun q hq => by injection hq with hq; omega), ?_⟩
    rw [Nat.zero_add, List.nil_append] at h1
    obtain ⟨A, dr, rfl⟩ := own_shape3 h1
    have hA : ∃ b, A = some ⟨b, 0, none⟩ := by
      rcases h3 with h3 | h3
      · exact ⟨_, own_is0 h1 h3⟩
      · exact ⟨_, own_is0 h1 h3⟩
    obtain ⟨gr, rfl⟩ := hA
    exact ⟨gr, dr, rfl, h1.cells (g := gr) rfl⟩)
  have HNX : Hid (∀ (w6 : World) (h46 : Below w4.heap.size w4 w6) (A6 : Option Addr) (d6 : Nat) (w7 : World), w7.ownsRow 0 47 4 (.slice A6 (k + (s[j].2.length - (k + 1))) d6) (k + (s[j].2.length - (k + 1))) (cells5.take (k * 4) ++ cells5.drop ((k + 1) * 4)) → w6.grownBy w7 (some g5) →
      ((Value.slice A6 (k + (s[j].2.length - (k + 1))) d6).ownBlock = some g5 ∨ (Value.slice A6 (k + (s[j].2.length - (k + 1))) d6).ownBlock = some w6.heap.size) → _) := Lib.hid (fun w6 h46 A6 d6 w7 h1 h2 h3 => del_next (w := w) (H := H) hol hj hnm hsz hc0 hc1 hi5 hk (fun b hb => ⟨(HF2.out b hb).1, (HF2.out b hb).2.2⟩) HH.out BK4.out BR4.out HB4.out h46 h1 h2 h3)
  have HCUT : Hid (∀ w6, Below w4.heap.size w4 w6 → w6.ownsRow 0 47 4 (.slice (some ⟨g5, 0, none⟩) k d5) k (cells5.take (k * 4))) := Lib.hid (fun w6 h46 => own_cut (own_keep hi5.row (row := none) (grown_none h46) (fun b _ => by simp)) (by omega))
  have HT1 : Hid (∀ u ∈ cells5.take (k * 4), u.oneCell' = true) := Lib.hid fun u hu => olc_one hi5 u (List.mem_of_mem_take hu)
  have k4 := BK4.out.c0
  have HB45 := Lib.hid hb45
  have HW5 := Lib.hid hW5
  have hwk : IntKind.i64.wrap ((k : Int) + 1) = (k : Int) + 1 := by rw [IntKind.wrap_i64]; omega
  have f1 : (k : Int) + 1 ≤ (s[j].2.length : Int) := by omega
  have f2 : (s[j].2.length : Int) ≤ (d5 : Int) := by omega
  have f3 : ((k : Int) + 1).toNat = k + 1 := by omega
  have f4 : (0 : Int) ≤ (k : Int) + 1 := by omega
  have f5 : (k : Int) ≤ (d5 : Int) := by omega
  have f6 : (0 : Int) ≤ (k : Int) := by omega
  obtain ⟨RS, hRS⟩ : ∃ RS, (s.set j (nm, s[j].2.take k ++ s[j].2.drop (k + 1)), true) = RS := ⟨_, rfl⟩
  rw [hRS] at HNX HD
  clear hol hc0 hc1 hi5 hcl hb45 hW5 hix hdb hq hRS
  generalize s[j].2.length = m at *
  go_wp2_with fail
  refine (HIN.out _ _).mono ?_
  rintro e w5 ⟨rfl, rfl⟩
  rw [hqd]
  clear q0 q1 y4 HIN
  by_cases ed : d5 = k + 1
  · have hmk : m = k + 1 := by omega
    subst hmk
    subst ed
    have e2 : cells5.drop ((k + 1) * 4) = [] := List.drop_eq_nil_of_le (by omega)
    rw [e2] at HNX
    rw [Nat.sub_self] at HNX
    have HROW := Lib.hid (HCUT.out W5.drew HB45.out.drew)
    have k6 := (BK4.out.under HB45.out BK4.out.lt).c0
    have k6' : (w4.alloc (.cells #[] 47)).cell? ⟨K, 0, none⟩ = some (.slice (some ⟨g, 0, none⟩) s.length d9) := by rw [HW5.out]; exact k6
    have f7 : (k : Int) ≤ (k : Int) + 1 := by omega
    clear HSLa HSLb HAP
    go_wp2_with fail
    rw [HW5.out]
    clear k6'
    go_region_law (first
      | (refine step_append_at (by rfl) (.tmp 58) (.tmp 59) 45 (by rfl) 0 47 i1 _ 4 64 Tryz.underlying45 hi1 hy0 hy1 hy2 (by rfl) (by omega) _ k (cells5.take (k * 4)) (by rfl) HROW.out ⟨w4.heap.size, 0, none⟩ 0 0 [] (by rfl) (by rfl) (fun i u hi => by simp at hi) (fun u hu => by simp at hu) (by unfold maxLen; omega) (by omega) (Nat.zero_le _) ?_; intro A7 d7 w7 ho7 hg7 hor7; have hn := HNX.out W5.drew HB45.out.drew A7 d7 w7 ho7 hg7 hor7; rw [Nat.add_zero] at hn; have k7 := hn.1.1; have m7 := hn.1.2.1; have fr7 := hn.1.2.2; have HN7 := Lib.hid hn.2; clear ho7 hg7 hor7 hn))
    all_goals (
      have hk8 := HN7.out.1.c0
      have hr8 := HN7.out.2.1.c0
      have hs8 := HN7.out.2.1.free 0
      have BR8 := Lib.hid HN7.out.2.1
      have HF8 := Lib.hid HN7.out.2.2
      clear HN7 k7 m7 fr7 k6 HROW
      generalize hX : w7.setCell ⟨g, j * 2 + 1, none⟩ (.slice A7 k d7) = X at hk8 hr8 hs8 BR8 HF8 ⊢
      clear hX
      go_wp2_with fail
      generalize hU : X.setCell ⟨H + 1 + 1, 0, none⟩ (.slice (some ⟨g, 0, none⟩) s.length d9) = U
      have hgU : X.grownBy U (some (H + 1 + 1)) := by rw [← hU]; exact grown_set (World.grownBy.refl _ _) _
      have u1 : Box1 U (H + 1 + 1) 37 (.slice (some ⟨g, 0, none⟩) s.length d9) := by rw [← hU]; exact BR8.out.set0 _
      have HRR := Lib.hid (HF8.out U hgU)
      have t0 := u1.c0
      clear hU hgU u1 hk8 hr8 hs8
      exact bodyPost_ret (v := .tuple #[.agg #[.slice (some ⟨g, 0, none⟩) s.length d9], .bool true]) (by simp [results, Tryz.results20, go_sem, t0]) rfl (by rw [HD.out]; exact HRR.out))
  · have HS1 := HSLb
    clear HSLa HSLb
    go_wp2_with (at_builtin; refine wpList_append_slN _ rfl (.tmp 47) (.tmp 51) 45 rfl w4.heap.size 47 i1 _ 4 64 Tryz.underlying45 hi1 hy0 hy1 hy2 rfl (by omega) (.slice (some ⟨w4.heap.size, 0, none⟩) 0 0) 0 [] rfl (by rw [HW5.out]; exact HO0.out) _ (m - (k + 1)) _ (cells5.drop ((k + 1) * 4)) rfl HNL.out (by rw [HW5.out]; exact HS1.out) HN1.out (by unfold maxLen; omega) (by omega) (by simp) ?_; intro v6 w6 ho6 hg6 hor6; rw [HW5.out] at hg6 hor6; obtain ⟨HB46, gr, dr, rfl, hsl6⟩ := HAP.out v6 w6 ho6 hg6 hor6; have HSL6 := Lib.hid hsl6; have HROW := Lib.hid (HCUT.out w6.drew HB46.drew); have HB6 := Lib.hid HB46; have k6 := (BK4.out.under HB46 BK4.out.lt).c0; clear ho6 hg6 hor6 hsl6 HB46)
    go_region_law (first
      | (refine step_append_at (by rfl) (.tmp 58) (.tmp 59) 45 (by rfl) 0 47 i1 _ 4 64 Tryz.underlying45 hi1 hy0 hy1 hy2 (by rfl) (by omega) _ k (cells5.take (k * 4)) (by rfl) HROW.out ⟨gr, 0, none⟩ (m - (k + 1)) dr (cells5.drop ((k + 1) * 4)) (by rfl) HNL.out HSL6.out HN1.out (by unfold maxLen; omega) (by omega) (Nat.zero_le _) ?_; intro A7 d7 w7 ho7 hg7 hor7; have hn := HNX.out w6.drew HB6.out.drew A7 d7 w7 ho7 hg7 hor7; have k7 := hn.1.1; have m7 := hn.1.2.1; have fr7 := hn.1.2.2; have HN7 := Lib.hid hn.2; clear ho7 hg7 hor7 hn))
    all_goals (
      have hk8 := HN7.out.1.c0
      have hr8 := HN7.out.2.1.c0
      have hs8 := HN7.out.2.1.free 0
      have BR8 := Lib.hid HN7.out.2.1
      have HF8 := Lib.hid HN7.out.2.2
      clear HN7 k7 m7 fr7 k6 HROW HSL6 HB6
      generalize hX : w7.setCell ⟨g, j * 2 + 1, none⟩ (.slice A7 (k + (m - (k + 1))) d7) = X at hk8 hr8 hs8 BR8 HF8 ⊢
      clear hX
      go_wp2_with fail
      generalize hU : X.setCell ⟨H + 1 + 1, 0, none⟩ (.slice (some ⟨g, 0, none⟩) s.length d9) = U
      have hgU : X.grownBy U (some (H + 1 + 1)) := by rw [← hU]; exact grown_set (World.grownBy.refl _ _) _
      have u1 : Box1 U (H + 1 + 1) 37 (.slice (some ⟨g, 0, none⟩) s.length d9) := by rw [← hU]; exact BR8.out.set0 _
      have HRR := Lib.hid (HF8.out U hgU)
      have t0 := u1.c0
      clear hU hgU u1 hk8 hr8 hs8
      exact bodyPost_ret (v := .tuple #[.agg #[.slice (some ⟨g, 0, none⟩) s.length d9], .bool true]) (by simp [results, Tryz.results20, go_sem, t0]) rfl (by rw [HD.out]; exact HRR.out))
end Go.Proofs.YtlikmgkjilmjpaaGreat
