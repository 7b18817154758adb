/-
  Merged by program: TyDraws.
-/
import Derived.Test.YtfhebkdoheafeaaU22
import Derived.Test.YtfhebkdoheafeaaU23

/-
  The exported draws of chapter 3 that FnTypes uses.
-/
namespace Go.Proofs.Ytfhebkdoheafeaa
open Go.RowKit

/-- a drawn type in new memory -/
def DrawT1 (w : World) (e : Ending) (w' : World) : Prop := ∃ (t : Ty) (q : Int) (L A : Option Addr) (n c m d : Nat) (fp : List Nat), e = .returned (.agg #[.int .i64 q, .slice L n c, .slice A m d]) ∧ OTy w' t [.int .i64 q, .slice L n c, .slice A m d] fp ∧ (∀ x ∈ fp, w.heap.size ≤ x) ∧ wt t ≤ 1000 ∧ Below w.heap.size w w'
/-- a type in the world w', its blocks from B on -/
structure At (t : Ty) (q : Int) (L A : Option Addr) (n c m d : Nat) (B : Nat) (w' : World) : Prop where
  own : ∃ fp, OTy w' t [.int .i64 q, .slice L n c, .slice A m d] fp ∧ ∀ x ∈ fp, B ≤ x
  wb : wt t ≤ 1000
theorem At.keep {t : Ty} {q : Int} {L A : Option Addr} {n c m d B : Nat} {w w' : World} (h : At t q L A n c m d B w) {g : Nat} (hg : w.grownBy w' (some g)) (hB : g < B) : At t q L A n c m d B w' := by
  obtain ⟨fp, h1, h2⟩ := h.own
  exact ⟨⟨fp, h1.keep hg (fun x hx e => by injection e with e; have := h2 x hx; omega), h2⟩, h.wb⟩
theorem At.under {t : Ty} {q : Int} {L A : Option Addr} {n c m d B : Nat} {w w' : World} (h : At t q L A n c m d B w) (hb : Below w.heap.size w w') : At t q L A n c m d B w' := by
  obtain ⟨fp, h1, h2⟩ := h.own
  exact ⟨⟨fp, h1.under hb, h2⟩, h.wb⟩
theorem at_draw {b : Nat} {w : World} {e : Ending} {w' : World} (h : DrawTy b 1000 w e w') : ∃ (t : Ty) (q : Int) (L A : Option Addr) (n c m d : Nat), e = .returned (.agg #[.int .i64 q, .slice L n c, .slice A m d]) ∧ At t q L A n c m d w.heap.size w' ∧ Cur w' b ∧ w.grownBy w' (some b) := by
  obtain ⟨t, L, A, c, d, fp, rfl, hot, hfp, hwt, hc, hg⟩ := h
  exact ⟨t, _, L, A, _, c, _, d, rfl, ⟨⟨fp, hot, fun x hx => (hfp x hx).1⟩, hwt⟩, hc, hg⟩
theorem at_made {s : Ty} {w : World} {e : Ending} {w' : World} (h : MadeT s w e w') (hw : wt s ≤ 1000) : ∃ (q : Int) (L A : Option Addr) (n c m d : Nat), e = .returned (.agg #[.int .i64 q, .slice L n c, .slice A m d]) ∧ At s q L A n c m d w.heap.size w' ∧ Below w.heap.size w w' := by
  obtain ⟨L, A, c, d, fp, rfl, hot, hfp, hb⟩ := h
  exact ⟨_, L, A, _, c, _, d, rfl, ⟨⟨fp, hot, fun x hx => (hfp x hx).1⟩, hw⟩, hb⟩
theorem At.reads {t : Ty} {q : Int} {L A : Option Addr} {n c m d B : Nat} {w : World} (h : At t q L A n c m d B w) : RTy w t [.int .i64 q, .slice L n c, .slice A m d] := by
  obtain ⟨fp, h1, _⟩ := h.own
  exact h1.reads
/-- three stores into a block -/
theorem stored3 {w : World} {g : Nat} {a b c a' b' c' : Value} (h : Box3 w g 27 a b c) : Box3 (((w.setCell ⟨g, 0, none⟩ a').setCell ⟨g, 1, none⟩ b').setCell ⟨g, 2, none⟩ c') g 27 a' b' c' ∧ w.grownBy (((w.setCell ⟨g, 0, none⟩ a').setCell ⟨g, 1, none⟩ b').setCell ⟨g, 2, none⟩ c') (some g) :=
  ⟨((h.set0 _).set1 _).set2 _, grown_set (grown_set (grown_set (World.grownBy.refl _ _) _) _) _⟩
theorem curb {b : Nat} {w w1 w2 : World} (hb : Below w.heap.size w w1) (hbw : w.heap.size ≤ b) (hg : w1.grownBy w2 (some b)) : Below w.heap.size w w2 := below_of_grown hb hg hb.size hbw

set_option maxHeartbeats 1600000 in
set_option maxRecDepth 100000 in
theorem drawValid_any (A0 : Option Addr) (cap : Nat) (bs : List UInt8) (w : World) (h : Code w A0 bs) : Calls Try.prog 13 #[.slice A0 bs.length cap] w (DrawT1 w) := by
  obtain ⟨W1, hW1⟩ : ∃ W1, w.alloc (.cells #[.int .i64 0, .slice none 0 0, .slice none 0 0] 27) = W1 := ⟨_, rfl⟩
  obtain ⟨H, hH⟩ : ∃ H, w.heap.size = H := ⟨_, rfl⟩
  have b0 : Box3 W1 H 27 (.int .i64 0) (.slice none 0 0) (.slice none 0 0) := by rw [← hW1, ← hH]; exact Box3.new w _ _ _ _
  have hb1 : Below w.heap.size w W1 := by rw [← hW1]; exact (Below.refl _ _).alloc (Nat.le_refl _) _
  have hz : W1.heap.size = H + 1 := by rw [← hW1, ← hH]; simp
  have HN := Lib.hid (l1New_any A0 cap bs W1 (h.below hb1).1 h.2)
  have HB0 := Lib.hid b0
  have HB1 := Lib.hid hb1
  have HZ := Lib.hid hz
  have HW1 := Lib.hid hW1
  clear h b0 hb1 hz hW1
  go_enter Try.func13, Try.ntmps13
  go_wp2_with fail
  rw [HW1.out]
  refine HN.out.mono ?_
  rintro e w1 ⟨b, rfl, hbw, hc, hb⟩
  have HBE := Lib.hid (l3Bent_any b w1 hc)
  have B1 := Lib.hid (HB0.out.under hb HB0.out.lt)
  have HBB := Lib.hid (HB1.out.trans (hb.mono HB1.out.size))
  have hsz := hb.size
  clear hc hb
  go_wp2_with fail
  refine HBE.out.mono ?_
  rintro e w2 hd
  obtain ⟨t, q, L, A, n, c, m, d, rfl, hat, _, hg⟩ := at_draw hd
  have hzz := HZ.out
  have hbx := B1.out.grown hg (fun e => by injection e with e; omega)
  have hbel := below_of_grown HBB.out hg HBB.out.size (by omega)
  have hst := stored3 (a' := .int .i64 q) (b' := .slice L n c) (c' := .slice A m d) hbx
  obtain ⟨U, hU⟩ : ∃ U, ((w2.setCell ⟨H, 0, none⟩ (.int .i64 q)).setCell ⟨H, 1, none⟩ (.slice L n c)).setCell ⟨H, 2, none⟩ (.slice A m d) = U := ⟨_, rfl⟩
  rw [hU] at hst
  have hR : DrawT1 w (.returned (.agg #[.int .i64 q, .slice L n c, .slice A m d])) U := by
    obtain ⟨fp, h1, h2⟩ := (hat.keep hst.2 (by omega)).own
    exact ⟨t, q, L, A, n, c, m, d, fp, rfl, h1, fun x hx => by have := h2 x hx; omega, hat.wb, hbel.grown hst.2 hbel.size (fun g hg => by injection hg with hg; omega)⟩
  have HR := Lib.hid hR
  have r0 := hbx.c0
  have r1 := hbx.c1
  have r2 := hbx.c2
  have s0 := hbx.free 0
  have s1 := hbx.free 1
  have s2 := hbx.free 2
  have t0 := hst.1.c0
  have t1 := hst.1.c1
  have t2 := hst.1.c2
  have HU := Lib.hid hU
  clear hd hat hg hbx hbel hst hU hR
  go_wp2_with fail
  rw [HU.out]
  exact bodyPost_ret (v := .agg #[.int .i64 q, .slice L n c, .slice A m d]) (by simp [results, Try.results13, go_sem, t0, t1, t2]) rfl HR.out

theorem kids_two {w : World} {s u : Ty} {a0 a1 a2 b0 b1 b2 : Value} (h1 : RTy w s [a0, a1, a2]) (h2 : RTy w u [b0, b1, b2]) : RKids (w.alloc (.cells #[a0, a1, a2, b0, b1, b2] 27)) (some ⟨w.heap.size, 0, none⟩) [s, u] := by
  have hb : Below w.heap.size w (w.alloc (.cells #[a0, a1, a2, b0, b1, b2] 27)) := (Below.refl _ _).alloc (Nat.le_refl _) _
  have hc : ∀ i v, [a0, a1, a2, b0, b1, b2][i]? = some v → (w.alloc (.cells #[a0, a1, a2, b0, b1, b2] 27)).cell? ((⟨w.heap.size, 0, none⟩ : Addr).add i) = some v := by
    intro i v hi
    rw [Addr.add_lit, Nat.zero_add, cell_of_row _ _ i _ _ (0, 0) (heap_alloc_new w _)]
    simpa using hi
  refine ⟨fun j => if j = 0 then [a0, a1, a2] else [b0, b1, b2], fun j t hj => ?_⟩
  match j, hj with
  | 0, hj =>
    simp at hj
    subst hj
    refine ⟨h1.keep hb, _, rfl, fun i v hi => ?_⟩
    have hi' : [a0, a1, a2][i]? = some v := hi
    match i, hi' with
    | 0, hi' => exact hc 0 v (by simpa using hi')
    | 1, hi' => exact hc 1 v (by simpa using hi')
    | 2, hi' => exact hc 2 v (by simpa using hi')
  | 1, hj =>
    simp at hj
    subst hj
    refine ⟨h2.keep hb, _, rfl, fun i v hi => ?_⟩
    have hi' : [b0, b1, b2][i]? = some v := hi
    match i, hi' with
    | 0, hi' => exact hc 3 v (by simpa using hi')
    | 1, hi' => exact hc 4 v (by simpa using hi')
    | 2, hi' => exact hc 5 v (by simpa using hi')
  | j + 2, hj => simp at hj
def labAB : List ByteArray := [⟨#[97]⟩, ⟨#[98]⟩]

set_option maxHeartbeats 3200000 in
set_option maxRecDepth 100000 in
theorem drawRow_any (A0 : Option Addr) (cap : Nat) (bs : List UInt8) (w : World) (h : Code w A0 bs) : Calls Try.prog 21 #[.slice A0 bs.length cap] w (DrawT1 w) := by
  obtain ⟨W1, hW1⟩ : ∃ W1, w.alloc (.cells #[.int .i64 0, .slice none 0 0, .slice none 0 0] 27) = W1 := ⟨_, rfl⟩
  obtain ⟨H, hH⟩ : ∃ H, w.heap.size = H := ⟨_, rfl⟩
  have b0 : Box3 W1 H 27 (.int .i64 0) (.slice none 0 0) (.slice none 0 0) := by rw [← hW1, ← hH]; exact Box3.new w _ _ _ _
  have hb1 : Below w.heap.size w W1 := by rw [← hW1]; exact (Below.refl _ _).alloc (Nat.le_refl _) _
  have hz : W1.heap.size = H + 1 := by rw [← hW1, ← hH]; simp
  have HN := Lib.hid (l1New_any A0 cap bs W1 (h.below hb1).1 h.2)
  have HB0 := Lib.hid b0
  have HB1 := Lib.hid hb1
  have HZ := Lib.hid hz
  have HW1 := Lib.hid hW1
  clear h b0 hb1 hz hW1
  go_enter Try.func21, Try.ntmps21
  go_wp2_with fail
  rw [HW1.out]
  refine HN.out.mono ?_
  rintro e w1 ⟨b, rfl, hbw, hc, hb⟩
  have HO := Lib.hid (l1Once_any b 2 w1 hc (by omega) (by omega))
  have B1 := Lib.hid (HB0.out.under hb HB0.out.lt)
  have HBB := Lib.hid (HB1.out.trans (hb.mono HB1.out.size))
  have hsz := hb.size
  have hzz := HZ.out
  clear hc hb
  go_wp2_with fail
  refine HO.out.mono ?_
  rintro e w2 ⟨y, rfl, hc2, hg2⟩
  have B2 := Lib.hid (B1.out.grown hg2 (fun e => by injection e with e; omega))
  have HB2 := Lib.hid (below_of_grown HBB.out hg2 HBB.out.size (by omega))
  have HC2 := Lib.hid hc2
  have hsz2 := hg2.size
  clear hc2 hg2 HO
  cases y with
  | false =>
    have HBE := Lib.hid (l3Bent_any b w2 HC2.out)
    go_wp2_with fail
    refine HBE.out.mono ?_
    rintro e w3 hd
    obtain ⟨t, q, L, A, n, c, m, d, rfl, hat, _, hg⟩ := at_draw hd
    have hbx := B2.out.grown hg (fun e => by injection e with e; omega)
    have hbel := below_of_grown HB2.out hg HB2.out.size (by omega)
    clear hd hg
    have hst := stored3 (a' := .int .i64 q) (b' := .slice L n c) (c' := .slice A m d) hbx
    obtain ⟨U, hU⟩ : ∃ U, ((w3.setCell ⟨H, 0, none⟩ (.int .i64 q)).setCell ⟨H, 1, none⟩ (.slice L n c)).setCell ⟨H, 2, none⟩ (.slice A m d) = U := ⟨_, rfl⟩
    rw [hU] at hst
    have hR : DrawT1 w (.returned (.agg #[.int .i64 q, .slice L n c, .slice A m d])) U := by
      obtain ⟨fp, h1, h2⟩ := (hat.keep hst.2 (by omega)).own
      exact ⟨t, q, L, A, n, c, m, d, fp, rfl, h1, fun x hx => by have := h2 x hx; omega, hat.wb, hbel.grown hst.2 hbel.size (fun g hg => by injection hg with hg; omega)⟩
    have HR := Lib.hid hR
    have r0 := hbx.c0
    have r1 := hbx.c1
    have r2 := hbx.c2
    have s0 := hbx.free 0
    have s1 := hbx.free 1
    have s2 := hbx.free 2
    have t0 := hst.1.c0
    have t1 := hst.1.c1
    have t2 := hst.1.c2
    have HU := Lib.hid hU
    clear hst hU hR hat hbx hbel
    go_wp2_with fail
    rw [HU.out]
    exact bodyPost_ret (v := .agg #[.int .i64 q, .slice L n c, .slice A m d]) (by simp [results, Try.results21, go_sem, t0, t1, t2]) rfl HR.out
  | true =>
    have hal : Below w2.heap.size w2 (w2.alloc (.cells #[.string ⟨#[97]⟩, .string ⟨#[98]⟩] 9)) := (Below.refl _ _).alloc (Nat.le_refl _) _
    obtain ⟨W3, hW3⟩ : ∃ W3, w2.alloc (.cells #[.string ⟨#[97]⟩, .string ⟨#[98]⟩] 9) = W3 := ⟨_, rfl⟩
    obtain ⟨LB, hLB⟩ : ∃ LB, w2.heap.size = LB := ⟨_, rfl⟩
    have hsl : Sl W3 (some ⟨LB, 0, none⟩) (labAB.map Value.string) := by rw [← hW3, ← hLB]; exact sl_new w2 #[.string ⟨#[97]⟩, .string ⟨#[98]⟩] 9
    rw [hW3] at hal
    have hz3 := hal.size
    have HSL := Lib.hid hsl
    have B3 := Lib.hid (B2.out.under hal B2.out.lt)
    have HB3 := Lib.hid (HB2.out.trans (hal.mono HB2.out.size))
    have HD1 := Lib.hid (l3Draw_any b 0 (by decide) W3 (HC2.out.below hal))
    have hLBb : LB ≠ b := by have := HC2.out.lt; omega
    have HW3 := Lib.hid hW3
    clear hal hsl hW3
    go_wp2_with fail
    rw [HW3.out]
    refine HD1.out.mono ?_
    rintro e w4 ⟨s, LS, AS, cS, dS, sp, rfl, hos, hfs, hws, hc4, hg4⟩
    have HSL4 := Lib.hid (HSL.out.grown hg4 hLBb)
    have B4 := Lib.hid (B3.out.grown hg4 (fun e => by injection e with e; omega))
    have HB4 := Lib.hid (below_of_grown HB3.out hg4 HB3.out.size (by omega))
    have hz4 := hg4.size
    have HD2 := Lib.hid (l3Draw_any b 1 (by decide) w4 hc4)
    have HOS := Lib.hid hos
    have HFS := Lib.hid hfs
    have hwS : wt s ≤ 32 := hws
    have hblt : b < W3.heap.size := by have := HC2.out.lt; omega
    generalize hs0 : s.top.kind = sq at HOS ⊢
    generalize hs1 : s.top.labels.length = sn at HOS ⊢
    generalize hs2 : s.kids.length = sm at HOS ⊢
    clear hos hfs hws hc4 hg4 HD1 hs0 hs1 hs2
    go_wp2_with fail
    refine HD2.out.mono ?_
    rintro e w5 ⟨u, LU, AU, cU, dU, up, rfl, hou, hfu, hwu, hc5, hg5⟩
    have HSL5 := Lib.hid (HSL4.out.grown hg5 hLBb)
    have B5 := Lib.hid (B4.out.grown hg5 (fun e => by injection e with e; omega))
    have HB5 := Lib.hid (below_of_grown HB4.out hg5 HB4.out.size (by omega))
    have hz5 := hg5.size
    have hrs : RTy w5 s [.int .i64 sq, .slice LS sn cS, .slice AS sm dS] := (HOS.out.keep hg5 (fun x hx e => by injection e with e; have := HFS.out x hx; omega)).reads
    have hru := hou.reads
    have hwU : wt u ≤ 84 := hwu
    generalize hu0 : u.top.kind = uq at hru ⊢
    generalize hu1 : u.top.labels.length = un at hru ⊢
    generalize hu2 : u.kids.length = um at hru ⊢
    have hk2 := kids_two hrs hru
    have hal : Below w5.heap.size w5 (w5.alloc (.cells #[.int .i64 sq, .slice LS sn cS, .slice AS sm dS, .int .i64 uq, .slice LU un cU, .slice AU um dU] 27)) := (Below.refl _ _).alloc (Nat.le_refl _) _
    have HRC := Lib.hid (l3Rec_any (some ⟨LB, 0, none⟩) (some ⟨w5.heap.size, 0, none⟩) 2 2 labAB [s, u] (w5.alloc (.cells #[.int .i64 sq, .slice LS sn cS, .slice AS sm dS, .int .i64 uq, .slice LU un cU, .slice AU um dU] 27)) (HSL5.out.below hal) (by decide) (by decide) hk2 (by simp) (fun t ht => by
      simp at ht
      rcases ht with rfl | rfl <;> omega))
    have hwR : wt (.node ⟨3, labAB⟩ [s, u]) ≤ 1000 := by
      rw [wt_node]
      show wtA ⟨3, labAB⟩ + (2 + ([s, u].map wt).sum) ≤ 1000
      have e : wtA ⟨3, labAB⟩ = 4 := by decide
      rw [e]
      simp
      omega
    have B6 := Lib.hid (B5.out.under hal B5.out.lt)
    have HB6 := Lib.hid (HB5.out.trans (hal.mono HB5.out.size))
    have hz6 := hal.size
    clear hou hfu hwu hc5 hg5 hrs hru hk2 hal HD2 hu0 hu1 hu2
    go_wp2_with fail
    refine HRC.out.mono ?_
    rintro e w7 hm7
    obtain ⟨q, L, A, n, c, m, d, rfl, hat0, hb7⟩ := at_made hm7 hwR
    obtain ⟨t, ht⟩ : ∃ t, Tr.node (⟨3, labAB⟩ : TyA) [s, u] = t := ⟨_, rfl⟩
    rw [ht] at hat0
    have hbx := B6.out.under hb7 B6.out.lt
    have hbel := HB6.out.trans (hb7.mono HB6.out.size)
    have hat := hat0
    clear hm7 hb7 hat0 hwR HRC ht
    have hst := stored3 (a' := .int .i64 q) (b' := .slice L n c) (c' := .slice A m d) hbx
    obtain ⟨U, hU⟩ : ∃ U, ((w7.setCell ⟨H, 0, none⟩ (.int .i64 q)).setCell ⟨H, 1, none⟩ (.slice L n c)).setCell ⟨H, 2, none⟩ (.slice A m d) = U := ⟨_, rfl⟩
    rw [hU] at hst
    have hR : DrawT1 w (.returned (.agg #[.int .i64 q, .slice L n c, .slice A m d])) U := by
      obtain ⟨fp, h1, h2⟩ := (hat.keep hst.2 (by omega)).own
      exact ⟨t, q, L, A, n, c, m, d, fp, rfl, h1, fun x hx => by have := h2 x hx; omega, hat.wb, hbel.grown hst.2 hbel.size (fun g hg => by injection hg with hg; omega)⟩
    have HR := Lib.hid hR
    have r0 := hbx.c0
    have r1 := hbx.c1
    have r2 := hbx.c2
    have s0 := hbx.free 0
    have s1 := hbx.free 1
    have s2 := hbx.free 2
    have t0 := hst.1.c0
    have t1 := hst.1.c1
    have t2 := hst.1.c2
    have HU := Lib.hid hU
    clear hst hU hR hat hbx hbel
    go_wp2_with fail
    rw [HU.out]
    exact bodyPost_ret (v := .agg #[.int .i64 q, .slice L n c, .slice A m d]) (by simp [results, Try.results21, go_sem, t0, t1, t2]) rfl HR.out
end Go.Proofs.Ytfhebkdoheafeaa
