/-
  Merged by program: SqP.
-/
import Derived.Test.YtffaggiblglcbaaV35
import Derived.Test.YtffaggiblglcbaaV22
import Derived.Test.YtffaggiblglcbaaV16

/-
  The model's ParseType.
-/
namespace Go.Proofs.Ytffaggiblglcbaa
open Go.RowKit

set_option maxHeartbeats 800000 in
theorem l4Type_any : ∀ (D : Nat), D ≤ 7 → ∀ (q : Int) (b : Nat) (s : ByteArray) (r : List UInt8) (bad : Bool) (w : World), q + D = 8 → s.size ≤ 1048576 → RdSt w b s r bad → Calls Try.prog 33 #[.pointer (some ⟨b, 0, none⟩), .int .i64 q] w (SqP b s (if bad = true then none else sq D r) w)
  | 0, _, q, b, s, r, bad, w, hq, hs, h => by
    have hq8 : q = 8 := by omega
    subst hq8
    have hbl := h.lt
    obtain ⟨H, hH⟩ : ∃ H, w.heap.size = H := ⟨_, rfl⟩
    obtain ⟨W1, hW1⟩ : ∃ W1, w.alloc (.cells #[.int .i64 0, .slice none 0 0, .slice none 0 0] 27) = W1 := ⟨_, rfl⟩
    have hb1 : Below w.heap.size w W1 := by rw [← hW1]; exact (Below.refl _ _).alloc (Nat.le_refl _) _
    have hm1 : TMid b s H w r bad W1 := ⟨by rw [← hW1, ← hH]; exact Box3.new w _ _ _ _, h.under hb1, by rw [← hH]; exact Fr.of_below hb1, by omega, hH⟩
    have x2 := hm1.2.1.cellBad
    have y2 := hm1.2.1.freeBad
    have hbH : ¬ H = b := by omega
    have hbH' : ¬ b = H := by omega
    have HW1 := Lib.hid hW1
    have HM := Lib.hid (hm1.setBad true)
    have HD := Lib.hid ((hm1.setBad true).zero (o := if bad = true then none else sq 0 r) rfl (by cases bad <;> rfl))
    clear hm1 h hb1 hW1 hq
    cases bad with
    | true =>
      go_enter Try.func33, Try.ntmps33
      go_upto_region 1 with (fail)
      rw [HW1.out]
      have z0 := HM.out.1.c0
      have z1 := HM.out.1.c1
      have z2 := HM.out.1.c2
      have f0 := HM.out.1.free 0
      have f1 := HM.out.1.free 1
      have f2 := HM.out.1.free 2
      go_wp2_with fail
      clear z0 z1 z2 f0 f1 f2
      have t0 := HD.out.2.c0
      have t1 := HD.out.2.c1
      have t2 := HD.out.2.c2
      exact bodyPost_ret (v := .agg #[.int .i64 0, .slice none 0 0, .slice none 0 0]) (by simp [results, Try.results33, go_sem, t0, t1, t2]) rfl HD.out.1
    | false =>
      go_enter Try.func33, Try.ntmps33
      go_upto_region 1 with (fail)
      rw [HW1.out]
      have z0 := HM.out.1.c0
      have z1 := HM.out.1.c1
      have z2 := HM.out.1.c2
      have f0 := HM.out.1.free 0
      have f1 := HM.out.1.free 1
      have f2 := HM.out.1.free 2
      go_wp2_with fail
      clear z0 z1 z2 f0 f1 f2
      have t0 := HD.out.2.c0
      have t1 := HD.out.2.c1
      have t2 := HD.out.2.c2
      exact bodyPost_ret (v := .agg #[.int .i64 0, .slice none 0 0, .slice none 0 0]) (by simp [results, Try.results33, go_sem, t0, t1, t2]) rfl HD.out.1
  | D + 1, hD, q, b, s, r, bad, w, hq, hs, h => l4Type_step D (by omega) (fun q b s r bad w hq hs h => l4Type_any D (by omega) q b s r bad w hq hs h) q b s r bad w hq hs h

/-- the zero type -/
def zeroT : Ty := .node ⟨0, []⟩ []
/-- a type in new memory and whether there is one -/
def PrsP (o : Option Ty) (w : World) (e : Ending) (w' : World) : Prop :=
  ∃ (L A : Option Addr) (c d : Nat) (fp : List Nat), e = .returned (.tuple #[.agg #[.int .i64 (o.getD zeroT).top.kind, .slice L (o.getD zeroT).top.labels.length c, .slice A (o.getD zeroT).kids.length d], .bool o.isSome]) ∧
    OTy w' (o.getD zeroT) [.int .i64 (o.getD zeroT).top.kind, .slice L (o.getD zeroT).top.labels.length c, .slice A (o.getD zeroT).kids.length d] fp ∧ (∀ x ∈ fp, w.heap.size ≤ x ∧ x < w'.heap.size) ∧ Below w.heap.size w w'
theorem prsp_none {w w' : World} (hb : Below w.heap.size w w') : PrsP none w (.returned (.tuple #[.agg #[.int .i64 0, .slice none 0 0, .slice none 0 0], .bool false])) w' :=
  ⟨none, none, 0, 0, [], rfl, leaf_own w' 0 (by decide) (by decide), by simp, hb⟩
theorem prsp_some {w w' : World} {t : Ty} {L A : Option Addr} {c d : Nat} {fp : List Nat} {q : Int} {n m : Nat} (e1 : t.top.kind = q) (e2 : t.top.labels.length = n) (e3 : t.kids.length = m) (hot : OTy w' t [.int .i64 q, .slice L n c, .slice A m d] fp) (hfp : ∀ x ∈ fp, w.heap.size ≤ x ∧ x < w'.heap.size) (hb : Below w.heap.size w w') :
    PrsP (some t) w (.returned (.tuple #[.agg #[.int .i64 q, .slice L n c, .slice A m d], .bool true])) w' := by
  subst e1 e2 e3
  exact ⟨L, A, c, d, fp, rfl, hot, hfp, hb⟩
theorem prsS_none {s : List UInt8} (h : sq 7 s = none) : prsS s = none := by unfold prsS; rw [h]
theorem prsS_more {s r : List UInt8} {t : Ty} {x : UInt8} (h : sq 7 s = some (t, x :: r)) : prsS s = none := by unfold prsS; rw [h]
theorem prsS_other {s : List UInt8} {t : Ty} (h : sq 7 s = some (t, [])) (h2 : txtV t ≠ s) : prsS s = none := by unfold prsS; rw [h]; simp [h2]
theorem prsS_found {s : List UInt8} {t : Ty} (h : sq 7 s = some (t, [])) (h2 : txtV t = s) : prsS s = some t := by unfold prsS; rw [h]; simp [h2]

set_option maxHeartbeats 1600000 in
set_option maxRecDepth 100000 in
theorem specParse_any (s : ByteArray) (w : World) (hs : s.size ≤ 1048576) : Calls Try.prog 14 #[.string s] w (PrsP (prsS s.data.toList) w) := by
  obtain ⟨H, hH⟩ : ∃ H, w.heap.size = H := ⟨_, rfl⟩
  obtain ⟨W1, hW1⟩ : ∃ W1, (w.alloc (.cells #[.int .i64 0, .slice none 0 0, .slice none 0 0] 27)).alloc (.cells #[.string s, .int .i64 0, .bool false] 54) = W1 := ⟨_, rfl⟩
  have hb1 : Below w.heap.size w W1 := by rw [← hW1]; exact ((Below.refl _ _).alloc (Nat.le_refl _) _).alloc (by simp) _
  have hz1 : W1.heap.size = H + 2 := by rw [← hW1]; simp [hH]
  have hbx : Box3 W1 H 27 (.int .i64 0) (.slice none 0 0) (.slice none 0 0) := by rw [← hW1, ← hH]; exact (Box3.new w _ _ _ _).alloc _
  have hrd : RdSt W1 (H + 1) s s.data.toList false := by
    refine ⟨0, ?_, At.zero s⟩
    have := Box3.new (w.alloc (.cells #[.int .i64 0, .slice none 0 0, .slice none 0 0] 27)) 54 (.string s) (.int .i64 0) (.bool false)
    rw [World.size_alloc, hH, hW1] at this
    exact this
  have HC := Lib.hid (l4Type_any 7 (Nat.le_refl _) 1 (H + 1) s s.data.toList false W1 (by omega) hs hrd)
  have HW1 := Lib.hid hW1
  have HB1 := Lib.hid hb1
  have HBX := Lib.hid hbx
  have HZ := Lib.hid hz1
  clear hW1 hb1 hz1 hbx hrd
  go_enter Try.func14, Try.ntmps14
  go_wp2_with fail
  rw [HW1.out]
  refine HC.out.mono ?_
  rintro e w5 ⟨t, L5, A5, c5, d5, fp, r5, bad5, rfl, hot, hfp, ⟨p, hb5, ha5⟩, hf5, hsr⟩
  have hsr' : Sr (sq 7 s.data.toList) t r5 bad5 := hsr
  obtain ⟨y0, hy0⟩ : ∃ y, t.top.kind = y := ⟨_, rfl⟩
  obtain ⟨y1, hy1⟩ : ∃ y, t.top.labels.length = y := ⟨_, rfl⟩
  obtain ⟨y2, hy2⟩ : ∃ y, t.kids.length = y := ⟨_, rfl⟩
  rw [hy0, hy1, hy2] at hot
  rw [hy0, hy1, hy2]
  obtain ⟨N, hN⟩ : ∃ N, w5.heap.size = N := ⟨_, rfl⟩
  obtain ⟨W6, hW6⟩ : ∃ W6, w5.alloc (.cells #[.int .i64 y0, .slice L5 y1 c5, .slice A5 y2 d5] 27) = W6 := ⟨_, rfl⟩
  have hz1 := HZ.out
  have hs5 := hf5.size
  have hb6 : Below w5.heap.size w5 W6 := by rw [← hW6]; exact (Below.refl _ _).alloc (Nat.le_refl _) _
  have hbx6 : Box3 W6 N 27 (.int .i64 y0) (.slice L5 y1 c5) (.slice A5 y2 d5) := by rw [← hW6, ← hN]; exact Box3.new w5 _ _ _ _
  have hrd6 := hb5.under hb6 hb5.lt
  have hbh6 := (HBX.out.fr hf5 (by omega) (by omega) (by omega)).under hb6 (by omega)
  have hbw : Below w.heap.size w W6 := ((Fr.of_below HB1.out).trans (hf5.mono (by omega))).below (by omega) (by omega) |>.trans (hb6.mono (by omega))
  have hot6 := hot.under hb6
  have hfp6 : ∀ x ∈ fp, H + 2 ≤ x ∧ x < N := fun x hx => by have h1 := hfp x hx; omega
  have hHN : H < N := by omega
  have HBN := Lib.hid hbx6
  have HBH := Lib.hid hbh6
  have HBW := Lib.hid hbw
  have HOT := Lib.hid hot6
  have HFP := Lib.hid hfp6
  have HHN := Lib.hid hHN
  have HZ6 : Hid (W6.heap.size = N + 1) := Lib.hid (by rw [← hW6]; simp [hN])
  have HY0 := Lib.hid hy0
  have HY1 := Lib.hid hy1
  have HY2 := Lib.hid hy2
  have HW6 := Lib.hid hW6
  have HSR := Lib.hid hsr'
  have x0 := hrd6.c0
  have x1 := hrd6.c1
  have x2 := hrd6.c2
  have q0 := hbx6.c0
  have q1 := hbx6.c1
  have q2 := hbx6.c2
  have z0 := hbh6.c0
  have z1 := hbh6.c1
  have z2 := hbh6.c2
  have f0 := hbh6.free 0
  have f1 := hbh6.free 1
  have f2 := hbh6.free 2
  have hlen := ha5.len
  clear hot hfp hf5 hsr hsr' hb5 ha5 hb6 hbx6 hrd6 hbh6 hbw hot6 hfp6 hW6 hy0 hy1 hy2 hz1 hs5 hHN
  have HZR : Hid (∀ W, Below W6.heap.size W6 W → PrsP none w (.returned (.tuple #[.agg #[.int .i64 0, .slice none 0 0, .slice none 0 0], .bool false])) (((W.setCell ⟨H, 0, none⟩ (.int .i64 0)).setCell ⟨H, 1, none⟩ (.slice none 0 0)).setCell ⟨H, 2, none⟩ (.slice none 0 0)) ∧ Box3 (((W.setCell ⟨H, 0, none⟩ (.int .i64 0)).setCell ⟨H, 1, none⟩ (.slice none 0 0)).setCell ⟨H, 2, none⟩ (.slice none 0 0)) H 27 (.int .i64 0) (.slice none 0 0) (.slice none 0 0)) := Lib.hid (fun W hb => by
    have hbx := HBH.out.under hb HBH.out.lt
    refine ⟨prsp_none ?_, ((hbx.set0 _).set1 _).set2 _⟩
    generalize hU : ((W.setCell ⟨H, 0, none⟩ (.int .i64 0)).setCell ⟨H, 1, none⟩ (.slice none 0 0)).setCell ⟨H, 2, none⟩ (.slice none 0 0) = U
    have hgU : W.grownBy U (some H) := by rw [← hU]; exact grown_set (grown_set (grown_set (World.grownBy.refl _ _) _) _) _
    have h2 := HBW.out.trans (hb.mono HBW.out.size)
    exact h2.grown hgU h2.size (fun k hk => by injection hk with hk; omega))
  have HYR : Hid (∀ W, Below W6.heap.size W6 W → PrsP (some t) w (.returned (.tuple #[.agg #[.int .i64 y0, .slice L5 y1 c5, .slice A5 y2 d5], .bool true])) (((W.setCell ⟨H, 0, none⟩ (.int .i64 y0)).setCell ⟨H, 1, none⟩ (.slice L5 y1 c5)).setCell ⟨H, 2, none⟩ (.slice A5 y2 d5)) ∧ Box3 (((W.setCell ⟨H, 0, none⟩ (.int .i64 y0)).setCell ⟨H, 1, none⟩ (.slice L5 y1 c5)).setCell ⟨H, 2, none⟩ (.slice A5 y2 d5)) H 27 (.int .i64 y0) (.slice L5 y1 c5) (.slice A5 y2 d5)) := Lib.hid (fun W hb => by
    have hbx := HBH.out.under hb HBH.out.lt
    refine ⟨?_, ((hbx.set0 _).set1 _).set2 _⟩
    generalize hU : ((W.setCell ⟨H, 0, none⟩ (.int .i64 y0)).setCell ⟨H, 1, none⟩ (.slice L5 y1 c5)).setCell ⟨H, 2, none⟩ (.slice A5 y2 d5) = U
    have hgU : W.grownBy U (some H) := by rw [← hU]; exact grown_set (grown_set (grown_set (World.grownBy.refl _ _) _) _) _
    have h2 := HBW.out.trans (hb.mono HBW.out.size)
    have h3 := hb.size
    have h4 := hgU.size
    have h5 := HZ6.out
    exact prsp_some HY0.out HY1.out HY2.out ((HOT.out.under hb).keep hgU (fun x hx e => by injection e with e; have := HFP.out x hx; omega)) (fun x hx => by have := HFP.out x hx; omega) (h2.grown hgU h2.size (fun k hk => by injection hk with hk; omega)))
  cases bad5 with
  | true =>
    have HO : Hid (prsS s.data.toList = none) := Lib.hid (by
      rcases HSR.out with ⟨h, _⟩ | ⟨_, h⟩
      · cases h
      · exact prsS_none h)
    have HD := Lib.hid (HZR.out W6 (Below.refl _ _))
    go_upto_region 3 with (fail)
    rw [HW6.out]
    go_wp2_with fail
    clear x0 x1 x2 q0 q1 q2 z0 z1 z2 f0 f1 f2
    have t0 := HD.out.2.c0
    have t1 := HD.out.2.c1
    have t2 := HD.out.2.c2
    exact bodyPost_ret (v := .tuple #[.agg #[.int .i64 0, .slice none 0 0, .slice none 0 0], .bool false]) (by simp [results, Try.results14, go_sem, t0, t1, t2]) rfl (by rw [HO.out]; exact HD.out.1)
  | false =>
    have HS : Hid (sq 7 s.data.toList = some (t, r5)) := Lib.hid (by
      rcases HSR.out with ⟨_, h⟩ | ⟨h, _⟩
      · exact h
      · cases h)
    cases r5 with
    | cons x r =>
      have HO : Hid (prsS s.data.toList = none) := Lib.hid (prsS_more HS.out)
      have HD := Lib.hid (HZR.out W6 (Below.refl _ _))
      have hpl : p < s.size := by simp at hlen; omega
      have hne : ((p : Int) == (s.size : Int)) = false := by simp; omega
      clear hlen
      go_upto_region 3 with (fail)
      rw [HW6.out]
      go_wp2_with fail
      clear x0 x1 x2 q0 q1 q2 z0 z1 z2 f0 f1 f2
      have t0 := HD.out.2.c0
      have t1 := HD.out.2.c1
      have t2 := HD.out.2.c2
      exact bodyPost_ret (v := .tuple #[.agg #[.int .i64 0, .slice none 0 0, .slice none 0 0], .bool false]) (by simp [results, Try.results14, go_sem, t0, t1, t2]) rfl (by rw [HO.out]; exact HD.out.1)
    | nil =>
      obtain rfl : p = s.size := by simpa using hlen
      have hwt := sq_wt _ _ _ _ HS.out
      rw [size_data] at hwt
      have HFM := Lib.hid (specFormat_any t W6 _ HOT.out.reads (by omega))
      unfold Text at HFM
      clear hlen hwt
      by_cases he : txtV t = s.data.toList
      · have HO : Hid (prsS s.data.toList = some t) := Lib.hid (prsS_found HS.out he)
        have hxs : (⟨(txtV t).toArray⟩ : ByteArray) = s := by rw [he]
        rw [hxs] at HFM
        clear he hxs
        go_upto_region 3 with (fail)
        rw [HW6.out]
        go_wp2_with fail
        refine HFM.out.mono ?_
        rintro e w7 ⟨rfl, hb7⟩
        have HD := Lib.hid (HYR.out w7 hb7)
        have hbn := HBN.out.under hb7 HBN.out.lt
        have hbh := HBH.out.under hb7 HBH.out.lt
        clear x0 x1 x2 q0 q1 q2 z0 z1 z2 f0 f1 f2
        have q0 := hbn.c0
        have q1 := hbn.c1
        have q2 := hbn.c2
        have z0 := hbh.c0
        have z1 := hbh.c1
        have z2 := hbh.c2
        have f0 := hbh.free 0
        have f1 := hbh.free 1
        have f2 := hbh.free 2
        clear hb7 hbn hbh
        go_wp2_with fail
        clear q0 q1 q2 z0 z1 z2 f0 f1 f2
        have t0 := HD.out.2.c0
        have t1 := HD.out.2.c1
        have t2 := HD.out.2.c2
        exact bodyPost_ret (v := .tuple #[.agg #[.int .i64 y0, .slice L5 y1 c5, .slice A5 y2 d5], .bool true]) (by simp [results, Try.results14, go_sem, t0, t1, t2]) rfl (by rw [HO.out]; exact HD.out.1)
      · have HO : Hid (prsS s.data.toList = none) := Lib.hid (prsS_other HS.out he)
        obtain ⟨x, hx⟩ : ∃ x, (⟨(txtV t).toArray⟩ : ByteArray) = x := ⟨_, rfl⟩
        have hxs : (x.toList == s.toList) = false := by
          rw [beq_eq_false_iff_ne, ByteArray.toList_eq, ByteArray.toList_eq]
          intro e
          exact he (by rw [← hx] at e; exact e)
        rw [hx] at HFM
        clear he hx
        go_upto_region 3 with (fail)
        rw [HW6.out]
        go_wp2_with fail
        refine HFM.out.mono ?_
        rintro e w7 ⟨rfl, hb7⟩
        have HD := Lib.hid (HZR.out w7 hb7)
        have hbh := HBH.out.under hb7 HBH.out.lt
        clear x0 x1 x2 q0 q1 q2 z0 z1 z2 f0 f1 f2
        have z0 := hbh.c0
        have z1 := hbh.c1
        have z2 := hbh.c2
        have f0 := hbh.free 0
        have f1 := hbh.free 1
        have f2 := hbh.free 2
        clear hb7 hbh
        go_wp2_with fail
        clear z0 z1 z2 f0 f1 f2
        have t0 := HD.out.2.c0
        have t1 := HD.out.2.c1
        have t2 := HD.out.2.c2
        exact bodyPost_ret (v := .tuple #[.agg #[.int .i64 0, .slice none 0 0, .slice none 0 0], .bool false]) (by simp [results, Try.results14, go_sem, t0, t1, t2]) rfl (by rw [HO.out]; exact HD.out.1)
end Go.Proofs.Ytffaggiblglcbaa
