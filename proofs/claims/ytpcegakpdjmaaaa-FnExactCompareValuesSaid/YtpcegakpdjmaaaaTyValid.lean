/-
  The model's IsValidType, IsData.
-/
import Derived.Test.YtpcegakpdjmaaaaTyForm
namespace Go.Proofs.Ytpcegakpdjmaaaa
open Go.RowKit

theorem RTy.three {w : World} {t : Ty} {cs : List Value} (h : RTy w t cs) : ∃ c0 c1 c2, cs = [c0, c1, c2] := by
  have hl : cs.length = 3 := Reads.len h
  match cs, hl with
  | [a, b, c], _ => exact ⟨a, b, c, rfl⟩
/-- an argument that is boxed: its box, and the world with the box in it -/
theorem boxed {w : World} {t : Ty} {cs : List Value} (h : RTy w t cs) : ∃ c0 c1 c2 W1 H, cs = [c0, c1, c2] ∧ w.heap.size = H ∧ w.alloc (.cells #[c0, c1, c2] 41) = W1 ∧ Box3 W1 H 41 c0 c1 c2 ∧ Below w.heap.size w W1 := by
  obtain ⟨c0, c1, c2, rfl⟩ := h.three
  exact ⟨c0, c1, c2, _, _, rfl, rfl, rfl, Box3.new w _ _ _ _, (Below.refl _ _).alloc (Nat.le_refl _) _⟩

def validB (t : Ty) : Bool := decide (t.size ≤ 24) && (decide (t.deep ≤ 7) && t.form)

set_option maxHeartbeats 800000 in
theorem specValid_any (t : Ty) (w : World) (cs : List Value) (h : RTy w t cs) (hw : wt t ≤ 1048576) : Calls Try.prog 58 #[.agg cs.toArray] w (Truth (validB t) w) := by
  have hz := size_wt t
  obtain ⟨c0, c1, c2, W1, H, rfl, hH, hW1, hbox, hb0⟩ := boxed h
  have HD := Lib.hid (fun W (hB : Below w.heap.size w W) => specDepth_any t W _ (h.keep hB) (by omega))
  have HF := Lib.hid (fun W (hB : Below w.heap.size w W) => l3Form_any t W _ (h.keep hB) hw)
  have HL := Lib.hid (l3Left_any t W1 _ 24 (h.keep hb0) (by omega) (by omega))
  have hdz : t.deep ≤ 1048577 := Nat.le_trans (deep_le_size t) (by omega)
  have HDZ := Lib.hid hdz
  have HW1 := Lib.hid hW1
  have B0 := Lib.hid hbox
  have HB0 := Lib.hid hb0
  have x0 := hbox.c0
  have x1 := hbox.c1
  have x2 := hbox.c2
  clear h hw hz hdz hW1 hbox hb0
  go_enter Try.func58, Try.ntmps58
  go_wp2_with fail
  rw [HW1.out]
  go_wp2_with fail
  refine HL.out.mono ?_
  rintro e w1 ⟨r, rfl, r1, r2, r3, r4, hb1⟩
  have HB1 := Lib.hid (HB0.out.trans (hb1.mono HB0.out.size))
  have B1 := Lib.hid (B0.out.under hb1 B0.out.lt)
  clear x0 x1 x2
  by_cases hr : 0 ≤ r
  · have hsz : t.size ≤ 24 := by have := r3 hr; omega
    have HV : Hid (validB t = (decide (t.deep ≤ 7) && t.form)) := Lib.hid (by unfold validB; simp [hsz])
    have HC := Lib.hid (HD.out w1 HB1.out)
    have x0 := B1.out.c0
    have x1 := B1.out.c1
    have x2 := B1.out.c2
    clear hsz hb1 r3 r4
    have hdz := HDZ.out
    obtain ⟨dp, hdp⟩ : ∃ dp, t.deep = dp := ⟨_, rfl⟩
    rw [hdp] at HV HC hdz
    clear hdp
    go_wp2_with fail
    refine HC.out.mono ?_
    rintro e w2 ⟨rfl, hb2⟩
    have HB2 := Lib.hid (HB1.out.trans (hb2.mono HB1.out.size))
    have B2 := Lib.hid (B1.out.under hb2 B1.out.lt)
    clear x0 x1 x2
    by_cases hd : dp ≤ 7
    · have HV2 : Hid (validB t = t.form) := Lib.hid (by rw [HV.out]; simp [hd])
      have HG := Lib.hid (HF.out w2 HB2.out)
      have x0 := B2.out.c0
      have x1 := B2.out.c1
      have x2 := B2.out.c2
      clear hb2
      go_wp2_with fail
      refine HG.out.mono ?_
      rintro e w3 ⟨rfl, hb3⟩
      have HR := Lib.hid (truth_iff HV2.out (HB2.out.trans (hb3.mono HB2.out.size)))
      clear hb3
      go_wp2_with fail
      go_ret
      exact HR.out
    · have HR := Lib.hid (truth_iff (a := validB t) (b := false) (by rw [HV.out]; simp [hd]) HB2.out)
      clear hb2
      go_wp2_with fail
      go_ret
      exact HR.out
  · have HR := Lib.hid (truth_iff (a := validB t) (b := false) (by unfold validB; have := r4 (by omega); simp; omega) HB1.out)
    clear hb1 r3 r4
    go_wp2_with fail
    go_ret
    exact HR.out

def dataB (t : Ty) : Bool := validB t && !(Tr.has 5 t)
end Go.Proofs.Ytpcegakpdjmaaaa
