/-
  Merged by program: TyDrawE.
-/
import Derived.Test.YtfhebkdoheafeaaU24

/-
  The exported draw of two types.
-/
namespace Go.Proofs.Ytfhebkdoheafeaa
open Go.RowKit

theorem At.low {t : Ty} {q : Int} {L A : Option Addr} {n c m d B B' : Nat} {w : World} (h : At t q L A n c m d B w) (hB : B' ≤ B) : At t q L A n c m d B' w := by
  obtain ⟨fp, h1, h2⟩ := h.own
  exact ⟨⟨fp, h1, fun x hx => by have := h2 x hx; omega⟩, h.wb⟩
/-- two drawn types in new memory -/
def DrawT2 (w : World) (e : Ending) (w' : World) : Prop := ∃ (t s : Ty) (q q' : Int) (L A L' A' : Option Addr) (n c m d n' c' m' d' : Nat), e = .returned (.tuple #[.agg #[.int .i64 q, .slice L n c, .slice A m d], .agg #[.int .i64 q', .slice L' n' c', .slice A' m' d']]) ∧ At t q L A n c m d w.heap.size w' ∧ At s q' L' A' n' c' m' d' w.heap.size w' ∧ Below w.heap.size w w'
/-- both results are stored -/
theorem stored6 {w : World} {g : Nat} {a b c a' b' c' d e f d' e' f' : Value} (h : Box3 w g 27 a b c) (h2 : Box3 w (g + 1) 27 d e f) :
    Box3 (((w.setCell ⟨g, 0, none⟩ a').setCell ⟨g, 1, none⟩ b').setCell ⟨g, 2, none⟩ c') (g + 1) 27 d e f ∧
    Box3 ((((((w.setCell ⟨g, 0, none⟩ a').setCell ⟨g, 1, none⟩ b').setCell ⟨g, 2, none⟩ c').setCell ⟨g + 1, 0, none⟩ d').setCell ⟨g + 1, 1, none⟩ e').setCell ⟨g + 1, 2, none⟩ f') g 27 a' b' c' ∧
    Box3 ((((((w.setCell ⟨g, 0, none⟩ a').setCell ⟨g, 1, none⟩ b').setCell ⟨g, 2, none⟩ c').setCell ⟨g + 1, 0, none⟩ d').setCell ⟨g + 1, 1, none⟩ e').setCell ⟨g + 1, 2, none⟩ f') (g + 1) 27 d' e' f' ∧
    (∀ t q L A n k m l B, At t q L A n k m l B w → g + 1 < B → At t q L A n k m l B ((((((w.setCell ⟨g, 0, none⟩ a').setCell ⟨g, 1, none⟩ b').setCell ⟨g, 2, none⟩ c').setCell ⟨g + 1, 0, none⟩ d').setCell ⟨g + 1, 1, none⟩ e').setCell ⟨g + 1, 2, none⟩ f')) ∧
    (∀ w0 : World, Below w0.heap.size w0 w → w0.heap.size ≤ g → Below w0.heap.size w0 ((((((w.setCell ⟨g, 0, none⟩ a').setCell ⟨g, 1, none⟩ b').setCell ⟨g, 2, none⟩ c').setCell ⟨g + 1, 0, none⟩ d').setCell ⟨g + 1, 1, none⟩ e').setCell ⟨g + 1, 2, none⟩ f')) := by
  have s1 := stored3 (a' := a') (b' := b') (c' := c') h
  have h3 := h2.grown s1.2 (fun e => by injection e with e; omega)
  have s2 := stored3 (a' := d') (b' := e') (c' := f') h3
  refine ⟨h3, s1.1.grown s2.2 (fun e => by injection e with e; omega), s2.1, fun t q L A n k m l B hat hB => (hat.keep s1.2 (by omega)).keep s2.2 hB, fun w0 hb hg => ?_⟩
  have hb1 := hb.grown s1.2 hb.size (fun k hk => by injection hk with hk; omega)
  exact hb1.grown s2.2 hb1.size (fun k hk => by injection hk with hk; omega)

set_option maxHeartbeats 6400000 in
set_option maxRecDepth 100000 in
theorem drawEq_any (A0 : Option Addr) (cap : Nat) (bs : List UInt8) (w : World) (h : Code w A0 bs) : Calls Try.prog 25 #[.slice A0 bs.length cap] w (DrawT2 w) := by
  obtain ⟨W1, hW1⟩ : ∃ W1, (w.alloc (.cells #[.int .i64 0, .slice none 0 0, .slice none 0 0] 27)).alloc (.cells #[.int .i64 0, .slice none 0 0, .slice none 0 0] 27) = W1 := ⟨_, rfl⟩
  obtain ⟨H, hH⟩ : ∃ H, w.heap.size = H := ⟨_, rfl⟩
  have a0 : Box3 W1 H 27 (.int .i64 0) (.slice none 0 0) (.slice none 0 0) := by rw [← hW1, ← hH]; exact (Box3.new w _ _ _ _).alloc _
  have b0 : Box3 W1 (H + 1) 27 (.int .i64 0) (.slice none 0 0) (.slice none 0 0) := by
    rw [← hW1, ← hH]
    have := Box3.new (w.alloc (.cells #[.int .i64 0, .slice none 0 0, .slice none 0 0] 27)) 27 (.int .i64 0) (.slice none 0 0) (.slice none 0 0)
    simpa using this
  have hb1 : Below w.heap.size w W1 := by rw [← hW1]; exact ((Below.refl _ _).alloc (Nat.le_refl _) _).alloc (by simp) _
  have hz : W1.heap.size = H + 2 := by rw [← hW1, ← hH]; simp
  have HN := Lib.hid (l1New_any A0 cap bs W1 (h.below hb1).1 h.2)
  have HA0 := Lib.hid a0
  have HB0 := Lib.hid b0
  have HB1 := Lib.hid hb1
  have HZ := Lib.hid hz
  have HW1 := Lib.hid hW1
  clear h a0 b0 hb1 hz hW1
  go_enter Try.func25, Try.ntmps25
  go_wp2_with fail
  rw [HW1.out]
  refine HN.out.mono ?_
  rintro e w1 ⟨b, rfl, hbw, hc, hb⟩
  have HBE := Lib.hid (l3Bent_any b w1 hc)
  have A1 := Lib.hid (HA0.out.under hb HA0.out.lt)
  have B1 := Lib.hid (HB0.out.under hb HB0.out.lt)
  have HBB := Lib.hid (HB1.out.trans (hb.mono HB1.out.size))
  have hsz := hb.size
  have hblt := hc.lt
  have hzz := HZ.out
  clear hc hb
  go_wp2_with fail
  refine HBE.out.mono ?_
  rintro e w2 hd
  obtain ⟨t, q, L, A, n, c, m, d, rfl, hat, hc2, hg⟩ := at_draw hd
  obtain ⟨W3, hW3⟩ : ∃ W3, w2.alloc (.cells #[.int .i64 q, .slice L n c, .slice A m d] 27) = W3 := ⟨_, rfl⟩
  obtain ⟨G, hG⟩ : ∃ G, w2.heap.size = G := ⟨_, rfl⟩
  have hal : Below w2.heap.size w2 W3 := by rw [← hW3]; exact (Below.refl _ _).alloc (Nat.le_refl _) _
  have hx3 : Box3 W3 G 27 (.int .i64 q) (.slice L n c) (.slice A m d) := by rw [← hW3, ← hG]; exact Box3.new w2 _ _ _ _
  have ha2 := A1.out.grown hg (fun e => by injection e with e; omega)
  have hb2 := B1.out.grown hg (fun e => by injection e with e; omega)
  have hsz2 := hg.size
  have hbel2 := below_of_grown HBB.out hg HBB.out.size (by omega)
  have HX := Lib.hid hx3
  have A3 := Lib.hid (ha2.under hal ha2.lt)
  have B3 := Lib.hid (hb2.under hal hb2.lt)
  have HAT := Lib.hid (hat.under hal)
  have HB3 := Lib.hid (hbel2.trans (hal.mono hbel2.size))
  have HO := Lib.hid (l1Once_any b 2 W3 (hc2.below hal) (by omega) (by omega))
  have HW3 := Lib.hid hW3
  have hz3 : W3.heap.size = G + 1 := by rw [← hW3, ← hG]; simp
  have HZ3 := Lib.hid hz3
  clear hd hat hc2 hg hal hx3 ha2 hb2 hbel2 hW3 hz3
  go_wp2_with fail
  rw [HW3.out]
  refine HO.out.mono ?_
  rintro e w4 ⟨y, rfl, hc4, hg4⟩
  have hz3 := HZ3.out
  have hx4 := HX.out.grown hg4 (fun e => by injection e with e; omega)
  have ha4 := A3.out.grown hg4 (fun e => by injection e with e; omega)
  have hb4 := B3.out.grown hg4 (fun e => by injection e with e; omega)
  have hdr : Below w4.heap.size w4 w4.drew := (Below.refl _ _).drew
  have HX4 := Lib.hid (show Box3 w4.drew G 27 (.int .i64 q) (.slice L n c) (.slice A m d) from hx4)
  have A4 := Lib.hid (show Box3 w4.drew H 27 (.int .i64 0) (.slice none 0 0) (.slice none 0 0) from ha4)
  have B4 := Lib.hid (show Box3 w4.drew (H + 1) 27 (.int .i64 0) (.slice none 0 0) (.slice none 0 0) from hb4)
  have HAT4 := Lib.hid ((HAT.out.keep hg4 hblt).under hdr)
  have hbel4 := below_of_grown HB3.out hg4 HB3.out.size (by omega)
  have HB4 := Lib.hid (hbel4.trans (hdr.mono hbel4.size))
  have HC4 := Lib.hid (hc4.below hdr)
  have hz4 : W3.heap.size ≤ w4.drew.heap.size := hg4.size
  have x0 := hx4.c0
  have x1 := hx4.c1
  have x2 := hx4.c2
  have hGH : G ≠ H := by omega
  have hGK : G ≠ H + 1 := by omega
  have hfH : ∀ (w : World) (i : Nat) (v : Value) (j : Nat), (w.setCell ⟨H, i, none⟩ v).cell? ⟨G, j, none⟩ = w.cell? ⟨G, j, none⟩ := fun w i v j => World.cell?_setCell_far w _ _ v (by simp; omega)
  have hfK : ∀ (w : World) (i : Nat) (v : Value) (j : Nat), (w.setCell ⟨H + 1, i, none⟩ v).cell? ⟨G, j, none⟩ = w.cell? ⟨G, j, none⟩ := fun w i v j => World.cell?_setCell_far w _ _ v (by simp; omega)
  clear ha4 hb4 hx4 hdr hbel4 hc4 hg4 HO HX A3 B3 HAT HB3 HW3
  cases y with
  | false =>
    have HE := Lib.hid (l3Bent_any b w4.drew HC4.out)
    go_wp2_with fail
    go_region_held3? (fun W => W.cell? ⟨G, 0, none⟩ = some (.int .i64 q) ∧ W.cell? ⟨G, 1, none⟩ = some (.slice L n c) ∧ W.cell? ⟨G, 2, none⟩ = some (.slice A m d))
      (first | (simp only [hfH, hfK]; exact ⟨j0, j1, j2⟩) | (refine ⟨?_, ?_, ?_⟩ <;> assumption))
      (first
        | (go_at_call 38; refine HE.out.mono ?_; rintro e w5 hd; obtain ⟨s, q', L', A', n', c', m', d', rfl, hau, _, hg5⟩ := at_draw hd; have hgx := HX4.out.grown hg5 (fun e => by injection e with e; omega); have hax := A4.out.grown hg5 (fun e => by injection e with e; omega); have hbx := B4.out.grown hg5 (fun e => by injection e with e; omega); have j0 := hgx.c0; have j1 := hgx.c1; have j2 := hgx.c2; have r0 := hax.c0; have r1 := hax.c1; have r2 := hax.c2; have s0 := hax.free 0; have s1 := hax.free 1; have s2 := hax.free 2; have k0 := hbx.c0; have k1 := hbx.c1; have k2 := hbx.c2; have f0 := hbx.free 0; have f1 := hbx.free 1; have f2 := hbx.free 2; have h6 := (stored6 (a' := .int .i64 q) (b' := .slice L n c) (c' := .slice A m d) (d' := .int .i64 q) (e' := .slice L n c) (f' := .slice A m d) hax hbx).1; have y0 := h6.c0; have y1 := h6.c1; have y2 := h6.c2; have z0 := h6.free 0; have z1 := h6.free 1; have z2 := h6.free 2; have HAX := Lib.hid hax; have HBX := Lib.hid hbx; have HAT5 := Lib.hid (HAT4.out.keep hg5 hblt); have HB5 := Lib.hid (below_of_grown HB4.out hg5 HB4.out.size (by omega)); have HAU := Lib.hid hau; clear h6 hgx hax hbx hd hau))
    all_goals
      have h6 := stored6 (a' := .int .i64 q) (b' := .slice L n c) (c' := .slice A m d) (d' := .int .i64 q') (e' := .slice L' n' c') (f' := .slice A' m' d') HAX.out HBX.out
      obtain ⟨U, hU⟩ : ∃ U, (((((w5.setCell ⟨H, 0, none⟩ (.int .i64 q)).setCell ⟨H, 1, none⟩ (.slice L n c)).setCell ⟨H, 2, none⟩ (.slice A m d)).setCell ⟨H + 1, 0, none⟩ (.int .i64 q')).setCell ⟨H + 1, 1, none⟩ (.slice L' n' c')).setCell ⟨H + 1, 2, none⟩ (.slice A' m' d') = U := ⟨_, rfl⟩
      rw [hU] at h6
      obtain ⟨_, u1, u2, u3, u4⟩ := h6
      have hR : DrawT2 w (.returned (.tuple #[.agg #[.int .i64 q, .slice L n c, .slice A m d], .agg #[.int .i64 q', .slice L' n' c', .slice A' m' d']])) U :=
        ⟨t, s, q, q', L, A, L', A', n, c, m, d, n', c', m', d', rfl, (u3 _ _ _ _ _ _ _ _ _ HAT5.out (by omega)).low (by omega), (u3 _ _ _ _ _ _ _ _ _ HAU.out (by omega)).low (by omega), u4 w HB5.out (by omega)⟩
      have HR := Lib.hid hR
      have t0 := u1.c0
      have t1 := u1.c1
      have t2 := u1.c2
      have v0 := u2.c0
      have v1 := u2.c1
      have v2 := u2.c2
      have HU := Lib.hid hU
      clear u1 u2 u3 u4 hU hR
      go_wp2_with fail
      rw [HU.out]
      exact bodyPost_ret (v := .tuple #[.agg #[.int .i64 q, .slice L n c, .slice A m d], .agg #[.int .i64 q', .slice L' n' c', .slice A' m' d']]) (by simp [results, Try.results25, go_sem, t0, t1, t2, v0, v1, v2]) rfl HR.out
  | true =>
    have HE := Lib.hid (l3Copy_any t w4.drew [.int .i64 q, .slice L n c, .slice A m d] HAT4.out.reads (Nat.le_trans HAT4.out.wb (by decide)))
    go_wp2_with fail
    go_region_held3? (fun W => W.cell? ⟨G, 0, none⟩ = some (.int .i64 q) ∧ W.cell? ⟨G, 1, none⟩ = some (.slice L n c) ∧ W.cell? ⟨G, 2, none⟩ = some (.slice A m d))
      (first | (simp only [hfH, hfK]; exact ⟨j0, j1, j2⟩) | (refine ⟨?_, ?_, ?_⟩ <;> assumption))
      (first
        | (go_at_call 54; refine HE.out.mono ?_; rintro e w5 hd; obtain ⟨q', L', A', n', c', m', d', rfl, hau, hb5⟩ := at_made hd HAT4.out.wb; have hgx := HX4.out.under hb5 HX4.out.lt; have hax := A4.out.under hb5 A4.out.lt; have hbx := B4.out.under hb5 B4.out.lt; obtain ⟨s, hs⟩ : ∃ s, t = s := ⟨_, rfl⟩; rw [hs] at hau; clear hs; have j0 := hgx.c0; have j1 := hgx.c1; have j2 := hgx.c2; have r0 := hax.c0; have r1 := hax.c1; have r2 := hax.c2; have s0 := hax.free 0; have s1 := hax.free 1; have s2 := hax.free 2; have k0 := hbx.c0; have k1 := hbx.c1; have k2 := hbx.c2; have f0 := hbx.free 0; have f1 := hbx.free 1; have f2 := hbx.free 2; have h6 := (stored6 (a' := .int .i64 q) (b' := .slice L n c) (c' := .slice A m d) (d' := .int .i64 q) (e' := .slice L n c) (f' := .slice A m d) hax hbx).1; have y0 := h6.c0; have y1 := h6.c1; have y2 := h6.c2; have z0 := h6.free 0; have z1 := h6.free 1; have z2 := h6.free 2; have HAX := Lib.hid hax; have HBX := Lib.hid hbx; have HAT5 := Lib.hid (HAT4.out.under hb5); have HB5 := Lib.hid (HB4.out.trans (hb5.mono HB4.out.size)); have HAU := Lib.hid hau; clear h6 hgx hax hbx hd hau))
    all_goals
      have h6 := stored6 (a' := .int .i64 q) (b' := .slice L n c) (c' := .slice A m d) (d' := .int .i64 q') (e' := .slice L' n' c') (f' := .slice A' m' d') HAX.out HBX.out
      obtain ⟨U, hU⟩ : ∃ U, (((((w5.setCell ⟨H, 0, none⟩ (.int .i64 q)).setCell ⟨H, 1, none⟩ (.slice L n c)).setCell ⟨H, 2, none⟩ (.slice A m d)).setCell ⟨H + 1, 0, none⟩ (.int .i64 q')).setCell ⟨H + 1, 1, none⟩ (.slice L' n' c')).setCell ⟨H + 1, 2, none⟩ (.slice A' m' d') = U := ⟨_, rfl⟩
      rw [hU] at h6
      obtain ⟨_, u1, u2, u3, u4⟩ := h6
      have hR : DrawT2 w (.returned (.tuple #[.agg #[.int .i64 q, .slice L n c, .slice A m d], .agg #[.int .i64 q', .slice L' n' c', .slice A' m' d']])) U :=
        ⟨t, s, q, q', L, A, L', A', n, c, m, d, n', c', m', d', rfl, (u3 _ _ _ _ _ _ _ _ _ HAT5.out (by omega)).low (by omega), (u3 _ _ _ _ _ _ _ _ _ HAU.out (by omega)).low (by omega), u4 w HB5.out (by omega)⟩
      have HR := Lib.hid hR
      have t0 := u1.c0
      have t1 := u1.c1
      have t2 := u1.c2
      have v0 := u2.c0
      have v1 := u2.c1
      have v2 := u2.c2
      have HU := Lib.hid hU
      clear u1 u2 u3 u4 hU hR
      go_wp2_with fail
      rw [HU.out]
      exact bodyPost_ret (v := .tuple #[.agg #[.int .i64 q, .slice L n c, .slice A m d], .agg #[.int .i64 q', .slice L' n' c', .slice A' m' d']]) (by simp [results, Try.results25, go_sem, t0, t1, t2, v0, v1, v2]) rfl HR.out
end Go.Proofs.Ytfhebkdoheafeaa
