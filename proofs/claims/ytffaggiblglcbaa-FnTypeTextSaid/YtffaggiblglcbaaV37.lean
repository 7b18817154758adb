/-
  Merged by program: PrsI.
-/
import Derived.Test.YtffaggiblglcbaaV32
import Derived.Test.YtffaggiblglcbaaV36

/-
  The program's ParseType: cutType's type where all was read and the type is valid.
-/
namespace Go.Proofs.Ytffaggiblglcbaa
open Go.RowKit

theorem prsI_none {s : List UInt8} (h : rd 25 s 0 = none) : prsI s = none := by unfold prsI; rw [h]
theorem prsI_more {s r : List UInt8} {t : Ty} {n : Nat} {x : UInt8} (h : rd 25 s 0 = some (t, x :: r, n)) : prsI s = none := by unfold prsI; rw [h]
theorem prsI_bad {s : List UInt8} {t : Ty} {n : Nat} (h : rd 25 s 0 = some (t, [], n)) (h2 : validB t = false) : prsI s = none := by unfold prsI; rw [h]; simp [h2]
theorem prsI_found {s : List UInt8} {t : Ty} {n : Nat} (h : rd 25 s 0 = some (t, [], n)) (h2 : validB t = true) : prsI s = some t := by unfold prsI; rw [h]; simp [h2]

set_option maxHeartbeats 3200000 in
set_option maxRecDepth 100000 in
theorem implParse_any (s : ByteArray) (w : World) (hs : s.size ≤ 1048576) : Calls Try.prog 9 #[.string s] w (PrsP (prsI s.data.toList) w) := by
  obtain ⟨H, hH⟩ : ∃ H, w.heap.size = H := ⟨_, rfl⟩
  obtain ⟨W1, hW1⟩ : ∃ W1, w.alloc (.cells #[.int .i64 0, .slice none 0 0, .slice none 0 0] 27) = W1 := ⟨_, rfl⟩
  have hb1 : Below w.heap.size w W1 := by rw [← hW1]; exact (Below.refl _ _).alloc (Nat.le_refl _) _
  have hz1 : W1.heap.size = H + 1 := by rw [← hW1]; simp [hH]
  have hbx : Box3 W1 H 27 (.int .i64 0) (.slice none 0 0) (.slice none 0 0) := by rw [← hW1, ← hH]; exact Box3.new w _ _ _ _
  have HC := Lib.hid (cutType_any s W1 hs)
  have HW1 := Lib.hid hW1
  have HB1 := Lib.hid hb1
  have HBX := Lib.hid hbx
  have HZ := Lib.hid hz1
  clear hW1 hb1 hz1 hbx
  go_enter Try.func9, Try.ntmps9
  go_wp2_with fail
  rw [HW1.out]
  refine HC.out.mono ?_
  rintro e w5 ⟨t, ok, n5, r5, L5, A5, c5, d5, fp, rfl, hot, hfp, hb5, hrr⟩
  obtain ⟨y0, hy0⟩ : ∃ y, t.top.kind = y := ⟨_, rfl⟩
  obtain ⟨y1, hy1⟩ : ∃ y, t.top.labels.length = y := ⟨_, rfl⟩
  obtain ⟨y2, hy2⟩ : ∃ y, t.kids.length = y := ⟨_, rfl⟩
  rw [hy0, hy1, hy2] at hot
  rw [hy0, hy1, hy2]
  obtain ⟨N, hN⟩ : ∃ N, w5.heap.size = N := ⟨_, rfl⟩
  obtain ⟨W6, hW6⟩ : ∃ W6, w5.alloc (.cells #[.int .i64 y0, .slice L5 y1 c5, .slice A5 y2 d5] 27) = W6 := ⟨_, rfl⟩
  have hz1 := HZ.out
  have hs5 := hb5.size
  have hb6 : Below w5.heap.size w5 W6 := by rw [← hW6]; exact (Below.refl _ _).alloc (Nat.le_refl _) _
  have hbx6 : Box3 W6 N 27 (.int .i64 y0) (.slice L5 y1 c5) (.slice A5 y2 d5) := by rw [← hW6, ← hN]; exact Box3.new w5 _ _ _ _
  have hbh6 := (HBX.out.under hb5 (by omega)).under hb6 (by omega)
  have hbw : Below w.heap.size w W6 := (HB1.out.trans (hb5.mono (by omega))).trans (hb6.mono (by omega))
  have hot6 := hot.under hb6
  have hfp6 : ∀ x ∈ fp, H + 1 ≤ x ∧ x < N := fun x hx => by have h1 := hfp x hx; omega
  have hHN : H < N := by omega
  have HBN := Lib.hid hbx6
  have HBH := Lib.hid hbh6
  have HBW := Lib.hid hbw
  have HOT := Lib.hid hot6
  have HFP := Lib.hid hfp6
  have HHN := Lib.hid hHN
  have HZ6 : Hid (W6.heap.size = N + 1) := Lib.hid (by rw [← hW6]; simp [hN])
  have HY0 := Lib.hid hy0
  have HY1 := Lib.hid hy1
  have HY2 := Lib.hid hy2
  have HW6 := Lib.hid hW6
  have HRR := Lib.hid hrr
  have q0 := hbx6.c0
  have q1 := hbx6.c1
  have q2 := hbx6.c2
  have z0 := hbh6.c0
  have z1 := hbh6.c1
  have z2 := hbh6.c2
  have f0 := hbh6.free 0
  have f1 := hbh6.free 1
  have f2 := hbh6.free 2
  clear hot hfp hb5 hrr hb6 hbx6 hbh6 hbw hot6 hfp6 hW6 hy0 hy1 hy2 hz1 hs5 hHN
  have HZR : Hid (∀ W, Below W6.heap.size W6 W → PrsP none w (.returned (.tuple #[.agg #[.int .i64 0, .slice none 0 0, .slice none 0 0], .bool false])) (((W.setCell ⟨H, 0, none⟩ (.int .i64 0)).setCell ⟨H, 1, none⟩ (.slice none 0 0)).setCell ⟨H, 2, none⟩ (.slice none 0 0)) ∧ Box3 (((W.setCell ⟨H, 0, none⟩ (.int .i64 0)).setCell ⟨H, 1, none⟩ (.slice none 0 0)).setCell ⟨H, 2, none⟩ (.slice none 0 0)) H 27 (.int .i64 0) (.slice none 0 0) (.slice none 0 0)) := Lib.hid (fun W hb => by
    have hbx := HBH.out.under hb HBH.out.lt
    refine ⟨prsp_none ?_, ((hbx.set0 _).set1 _).set2 _⟩
    generalize hU : ((W.setCell ⟨H, 0, none⟩ (.int .i64 0)).setCell ⟨H, 1, none⟩ (.slice none 0 0)).setCell ⟨H, 2, none⟩ (.slice none 0 0) = U
    have hgU : W.grownBy U (some H) := by rw [← hU]; exact grown_set (grown_set (grown_set (World.grownBy.refl _ _) _) _) _
    have h2 := HBW.out.trans (hb.mono HBW.out.size)
    exact h2.grown hgU h2.size (fun k hk => by injection hk with hk; omega))
  have HYR : Hid (∀ W, Below W6.heap.size W6 W → PrsP (some t) w (.returned (.tuple #[.agg #[.int .i64 y0, .slice L5 y1 c5, .slice A5 y2 d5], .bool true])) (((W.setCell ⟨H, 0, none⟩ (.int .i64 y0)).setCell ⟨H, 1, none⟩ (.slice L5 y1 c5)).setCell ⟨H, 2, none⟩ (.slice A5 y2 d5)) ∧ Box3 (((W.setCell ⟨H, 0, none⟩ (.int .i64 y0)).setCell ⟨H, 1, none⟩ (.slice L5 y1 c5)).setCell ⟨H, 2, none⟩ (.slice A5 y2 d5)) H 27 (.int .i64 y0) (.slice L5 y1 c5) (.slice A5 y2 d5)) := Lib.hid (fun W hb => by
    have hbx := HBH.out.under hb HBH.out.lt
    refine ⟨?_, ((hbx.set0 _).set1 _).set2 _⟩
    generalize hU : ((W.setCell ⟨H, 0, none⟩ (.int .i64 y0)).setCell ⟨H, 1, none⟩ (.slice L5 y1 c5)).setCell ⟨H, 2, none⟩ (.slice A5 y2 d5) = U
    have hgU : W.grownBy U (some H) := by rw [← hU]; exact grown_set (grown_set (grown_set (World.grownBy.refl _ _) _) _) _
    have h2 := HBW.out.trans (hb.mono HBW.out.size)
    have h3 := hb.size
    have h4 := hgU.size
    have h5 := HZ6.out
    exact prsp_some HY0.out HY1.out HY2.out ((HOT.out.under hb).keep hgU (fun x hx e => by injection e with e; have := HFP.out x hx; omega)) (fun x hx => by have := HFP.out x hx; omega) (h2.grown hgU h2.size (fun k hk => by injection hk with hk; omega)))
  cases ok with
  | false =>
    have HO : Hid (prsI s.data.toList = none) := Lib.hid (by
      rcases HRR.out with ⟨h, _⟩ | ⟨_, h⟩
      · cases h
      · exact prsI_none h)
    have HD := Lib.hid (HZR.out W6 (Below.refl _ _))
    go_upto_region 2 with (fail)
    rw [HW6.out]
    go_wp2_with fail
    clear q0 q1 q2 z0 z1 z2 f0 f1 f2
    have t0 := HD.out.2.c0
    have t1 := HD.out.2.c1
    have t2 := HD.out.2.c2
    exact bodyPost_ret (v := .tuple #[.agg #[.int .i64 0, .slice none 0 0, .slice none 0 0], .bool false]) (by simp [results, Try.results9, go_sem, t0, t1, t2]) rfl (by rw [HO.out]; exact HD.out.1)
  | true =>
    have HS : Hid (rd 25 s.data.toList 0 = some (t, r5, n5)) := Lib.hid (by
      rcases HRR.out with ⟨_, h⟩ | ⟨h, _⟩
      · exact h
      · cases h)
    cases r5 with
    | cons x r =>
      have HO : Hid (prsI s.data.toList = none) := Lib.hid (prsI_more HS.out)
      have HD := Lib.hid (HZR.out W6 (Below.refl _ _))
      obtain ⟨zs, hzs⟩ : ∃ z, bs (x :: r) = z := ⟨_, rfl⟩
      have hzl : zs.toList = x :: r := by rw [← hzs, ByteArray.toList_eq]; rfl
      have hne : (zs.toList == ([] : List UInt8)) = false := by rw [hzl]; rfl
      rw [hzs]
      clear hzs hzl
      go_upto_region 2 with (fail)
      rw [HW6.out]
      go_wp2_with fail
      clear q0 q1 q2 z0 z1 z2 f0 f1 f2
      have t0 := HD.out.2.c0
      have t1 := HD.out.2.c1
      have t2 := HD.out.2.c2
      exact bodyPost_ret (v := .tuple #[.agg #[.int .i64 0, .slice none 0 0, .slice none 0 0], .bool false]) (by simp [results, Try.results9, go_sem, t0, t1, t2]) rfl (by rw [HO.out]; exact HD.out.1)
    | nil =>
      have hwt := rd_wt _ _ _ _ _ _ HS.out
      rw [size_data] at hwt
      have HV := Lib.hid (implValid_any t W6 _ HOT.out.reads (by omega))
      unfold Truth at HV
      clear hwt
      have hz0 : bs [] = (⟨#[]⟩ : ByteArray) := rfl
      rw [hz0]
      clear hz0
      cases hv : validB t with
      | false =>
        rw [hv] at HV
        have HO : Hid (prsI s.data.toList = none) := Lib.hid (prsI_bad HS.out hv)
        go_upto_region 2 with (fail)
        rw [HW6.out]
        go_wp2_with fail
        refine HV.out.mono ?_
        rintro e w7 ⟨rfl, hb7⟩
        have HD := Lib.hid (HZR.out w7 hb7)
        have hbn := HBN.out.under hb7 HBN.out.lt
        have hbh := HBH.out.under hb7 HBH.out.lt
        clear q0 q1 q2 z0 z1 z2 f0 f1 f2
        have q0 := hbn.c0
        have q1 := hbn.c1
        have q2 := hbn.c2
        have z0 := hbh.c0
        have z1 := hbh.c1
        have z2 := hbh.c2
        have f0 := hbh.free 0
        have f1 := hbh.free 1
        have f2 := hbh.free 2
        clear hbn hbh hb7 hv
        go_wp2_with fail
        clear q0 q1 q2 z0 z1 z2 f0 f1 f2
        have t0 := HD.out.2.c0
        have t1 := HD.out.2.c1
        have t2 := HD.out.2.c2
        exact bodyPost_ret (v := .tuple #[.agg #[.int .i64 0, .slice none 0 0, .slice none 0 0], .bool false]) (by simp [results, Try.results9, go_sem, t0, t1, t2]) rfl (by rw [HO.out]; exact HD.out.1)
      | true =>
        rw [hv] at HV
        have HO : Hid (prsI s.data.toList = some t) := Lib.hid (prsI_found HS.out hv)
        go_upto_region 2 with (fail)
        rw [HW6.out]
        go_wp2_with fail
        refine HV.out.mono ?_
        rintro e w7 ⟨rfl, hb7⟩
        have HD := Lib.hid (HYR.out w7 hb7)
        have hbn := HBN.out.under hb7 HBN.out.lt
        have hbh := HBH.out.under hb7 HBH.out.lt
        clear q0 q1 q2 z0 z1 z2 f0 f1 f2
        have q0 := hbn.c0
        have q1 := hbn.c1
        have q2 := hbn.c2
        have z0 := hbh.c0
        have z1 := hbh.c1
        have z2 := hbh.c2
        have f0 := hbh.free 0
        have f1 := hbh.free 1
        have f2 := hbh.free 2
        clear hbn hbh hb7 hv
        go_wp2_with fail
        clear q0 q1 q2 z0 z1 z2 f0 f1 f2
        have t0 := HD.out.2.c0
        have t1 := HD.out.2.c1
        have t2 := HD.out.2.c2
        exact bodyPost_ret (v := .tuple #[.agg #[.int .i64 y0, .slice L5 y1 c5, .slice A5 y2 d5], .bool true]) (by simp [results, Try.results9, go_sem, t0, t1, t2]) rfl (by rw [HO.out]; exact HD.out.1)

/-- both parse alike -/
theorem implParse_spec (s : ByteArray) (w : World) (hs : s.size ≤ 1048576) : Calls Try.prog 9 #[.string s] w (PrsP (prsS s.data.toList) w) := by
  rw [← prs_same]
  exact implParse_any s w hs
end Go.Proofs.Ytffaggiblglcbaa
