/-
  Merged by program: TyDrawF.
-/
import Derived.Test.YtfhebkdoheafeaaU24
import Derived.Deep.RegionHeld3

/-
  The exported draw of a type and a label.
-/
namespace Go.Proofs.Ytfhebkdoheafeaa
open Go.RowKit

/-- a drawn type and a short text -/
def DrawTS (w : World) (e : Ending) (w' : World) : Prop := ∃ (t : Ty) (q : Int) (L A : Option Addr) (n c m d : Nat) (fp : List Nat) (s : ByteArray), e = .returned (.tuple #[.agg #[.int .i64 q, .slice L n c, .slice A m d], .string s]) ∧ OTy w' t [.int .i64 q, .slice L n c, .slice A m d] fp ∧ (∀ x ∈ fp, w.heap.size ≤ x) ∧ wt t ≤ 1000 ∧ s.size ≤ 4 ∧ Below w.heap.size w w'
def abq : List ByteArray := [⟨#[97]⟩, ⟨#[98]⟩, ⟨#[113]⟩]
theorem abq_bd : ∀ x ∈ abq, x.size ≤ 4 := by decide

set_option maxHeartbeats 3200000 in
set_option maxRecDepth 100000 in
theorem drawField_any (A0 : Option Addr) (cap : Nat) (bs : List UInt8) (w : World) (h : Code w A0 bs) : Calls Try.prog 22 #[.slice A0 bs.length cap] w (DrawTS w) := by
  obtain ⟨W1, hW1⟩ : ∃ W1, w.alloc (.cells #[.int .i64 0, .slice none 0 0, .slice none 0 0] 27) = W1 := ⟨_, rfl⟩
  obtain ⟨H, hH⟩ : ∃ H, w.heap.size = H := ⟨_, rfl⟩
  have b0 : Box3 W1 H 27 (.int .i64 0) (.slice none 0 0) (.slice none 0 0) := by rw [← hW1, ← hH]; exact Box3.new w _ _ _ _
  have hb1 : Below w.heap.size w W1 := by rw [← hW1]; exact (Below.refl _ _).alloc (Nat.le_refl _) _
  have hz : W1.heap.size = H + 1 := by rw [← hW1, ← hH]; simp
  have HN := Lib.hid (l1New_any A0 cap bs W1 (h.below hb1).1 h.2)
  have HB0 := Lib.hid b0
  have HB1 := Lib.hid hb1
  have HZ := Lib.hid hz
  have HW1 := Lib.hid hW1
  clear h b0 hb1 hz hW1
  go_enter Try.func22, Try.ntmps22
  go_wp2_with fail
  rw [HW1.out]
  refine HN.out.mono ?_
  rintro e w1 ⟨b, rfl, hbw, hc, hb⟩
  have HBE := Lib.hid (l3Bent_any b w1 hc)
  have B1 := Lib.hid (HB0.out.under hb HB0.out.lt)
  have HBB := Lib.hid (HB1.out.trans (hb.mono HB1.out.size))
  have hsz := hb.size
  have hblt := hc.lt
  have hzz := HZ.out
  clear hc hb
  go_wp2_with fail
  refine HBE.out.mono ?_
  rintro e w2 hd
  obtain ⟨t, q, L, A, n, c, m, d, rfl, hat, hc2, hg⟩ := at_draw hd
  obtain ⟨W3, hW3⟩ : ∃ W3, w2.alloc (.cells #[.int .i64 q, .slice L n c, .slice A m d] 27) = W3 := ⟨_, rfl⟩
  obtain ⟨G, hG⟩ : ∃ G, w2.heap.size = G := ⟨_, rfl⟩
  have hal : Below w2.heap.size w2 W3 := by rw [← hW3]; exact (Below.refl _ _).alloc (Nat.le_refl _) _
  have hx3 : Box3 W3 G 27 (.int .i64 q) (.slice L n c) (.slice A m d) := by rw [← hW3, ← hG]; exact Box3.new w2 _ _ _ _
  have hb2 := B1.out.grown hg (fun e => by injection e with e; omega)
  have hsz2 := hg.size
  have hbel2 := below_of_grown HBB.out hg HBB.out.size (by omega)
  -- all of it in the drawn world
  have hdr : Below w2.heap.size w2 W3.drew := hal.drew
  have HX := Lib.hid (show Box3 W3.drew G 27 (.int .i64 q) (.slice L n c) (.slice A m d) from hx3)
  have B3 := Lib.hid (hb2.under hdr hb2.lt)
  have HAT := Lib.hid (hat.under hdr)
  have HC3 := Lib.hid (hc2.below hdr)
  have HB3 := Lib.hid (hbel2.trans (hdr.mono hbel2.size))
  have x0 := hx3.c0
  have x1 := hx3.c1
  have x2 := hx3.c2
  have n0 := World.new_ne W3 _ x0
  have n1 := World.new_ne W3 _ x1
  have n2 := World.new_ne W3 _ x2
  have hz3 : W3.heap.size = G + 1 := by rw [← hW3, ← hG]; simp
  have HPK : Hid (Calls Try.prog 50 #[.pointer (some ⟨b, 0, none⟩), .slice (some ⟨G + 1, 0, none⟩) 3 3] (W3.alloc (.cells #[.string ⟨#[97]⟩, .string ⟨#[98]⟩, .string ⟨#[113]⟩] 9)).drew (fun e w' => ∃ x ∈ abq, e = .returned (.string x) ∧ Cur w' b ∧ W3.drew.grownBy w' (some b))) := Lib.hid (by
    have h := l1Pick_new b abq W3.drew HC3.out (by decide) (by decide)
    rw [show W3.drew.heap.size = G + 1 from hz3] at h
    exact h)
  have hal3 : Below W3.heap.size W3 (W3.alloc (.cells #[.string ⟨#[97]⟩, .string ⟨#[98]⟩, .string ⟨#[113]⟩] 9)) := (Below.refl _ _).alloc (Nat.le_refl _) _
  have hx3a := hx3.under hal3 hx3.lt
  have k0 := hx3a.c0
  have k1 := hx3a.c1
  have k2 := hx3a.c2
  have HW3 := Lib.hid hW3
  clear hd hat hc2 hg hal hx3 hb2 hbel2 hdr hal3 hx3a hW3
  have hGH : G ≠ H := by omega
  go_wp2_with fail
  rw [HW3.out]
  go_region_held3 (fun W => W.cell? ⟨G, 0, none⟩ = some (.int .i64 q) ∧ W.cell? ⟨G, 1, none⟩ = some (.slice L n c) ∧ W.cell? ⟨G, 2, none⟩ = some (.slice A m d))
    (first | (refine ⟨?_, ?_, ?_⟩ <;> assumption) | exact ⟨cell_three j0 hGH, cell_three j1 hGH, cell_three j2 hGH⟩ | go_keep)
    (first
      | (go_at_call 50; refine HPK.out.mono ?_; rintro e w4 ⟨s, hs, rfl, hc4, hg4⟩; have hbx := B3.out.grown hg4 (fun e => by injection e with e; omega); have hgx := HX.out.grown hg4 (fun e => by injection e with e; omega); have j0 := hgx.c0; have j1 := hgx.c1; have j2 := hgx.c2; have r0 := hbx.c0; have r1 := hbx.c1; have r2 := hbx.c2; have s0 := hbx.free 0; have s1 := hbx.free 1; have s2 := hbx.free 2; have HBX := Lib.hid hbx; have HAT4 := Lib.hid (HAT.out.keep hg4 hblt); have HB4 := Lib.hid (below_of_grown HB3.out hg4 HB3.out.size (by omega)); have HSB := Lib.hid (abq_bd s hs); clear hs hc4 hg4 hbx hgx))
  all_goals
    have hst := stored3 (a' := .int .i64 q) (b' := .slice L n c) (c' := .slice A m d) HBX.out
    obtain ⟨U, hU⟩ : ∃ U, ((w4.setCell ⟨H, 0, none⟩ (.int .i64 q)).setCell ⟨H, 1, none⟩ (.slice L n c)).setCell ⟨H, 2, none⟩ (.slice A m d) = U := ⟨_, rfl⟩
    rw [hU] at hst
    have hR : DrawTS w (.returned (.tuple #[.agg #[.int .i64 q, .slice L n c, .slice A m d], .string s])) U := by
      obtain ⟨fp, h1, h2⟩ := (HAT4.out.keep hst.2 (by omega)).own
      exact ⟨t, q, L, A, n, c, m, d, fp, s, rfl, h1, fun x hx => by have := h2 x hx; omega, HAT4.out.wb, HSB.out, HB4.out.grown hst.2 HB4.out.size (fun g hg => by injection hg with hg; omega)⟩
    have HR := Lib.hid hR
    have t0 := hst.1.c0
    have t1 := hst.1.c1
    have t2 := hst.1.c2
    have HU := Lib.hid hU
    clear hst hU hR
    go_wp2_with fail
    rw [HU.out]
    exact bodyPost_ret (v := .tuple #[.agg #[.int .i64 q, .slice L n c, .slice A m d], .string s]) (by simp [results, Try.results22, go_sem, t0, t1, t2]) rfl HR.out
end Go.Proofs.Ytfhebkdoheafeaa
