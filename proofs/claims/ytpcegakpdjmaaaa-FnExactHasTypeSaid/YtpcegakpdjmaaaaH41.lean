/-
  Merged by program: ValidE, ValidD.
-/
import Derived.Test.YtpcegakpdjmaaaaH39
import Derived.Test.YtpcegakpdjmaaaaH40

/-
  Within the limits and well made: valid, or a data type.
-/
namespace Go.Proofs.Ytpcegakpdjmaaaa
open Go.RowKit

theorem valid_iff (t : Ty) : (withinB t && wellB t true) = validB t := by
  unfold withinB wellB validB
  cases t.form <;> simp
theorem data_iff (t : Ty) : (withinB t && wellB t false) = dataB t := by
  unfold withinB wellB dataB validB
  cases t.form <;> cases Tr.has 5 t <;> simp
end Go.Proofs.Ytpcegakpdjmaaaa

/-
  The program's IsData.
-/
namespace Go.Proofs.Ytpcegakpdjmaaaa
open Go.RowKit
set_option maxRecDepth 100000 in
set_option maxHeartbeats 800000 in
theorem implData_any (t : Ty) (w : World) (cs : List Value) (h : RTy w t cs) (hw : wt t ≤ 1048576) : Calls Try.prog 41 #[.agg cs.toArray] w (Truth (dataB t) w) := by
  have hz := size_wt t
  obtain ⟨c0, c1, c2, W1, H, rfl, hH, hW1, hbox, hb0⟩ := boxed h
  have HC := Lib.hid (implWithin_any t W1 _ (h.keep hb0) (by omega))
  have HD := Lib.hid (fun W (hB : Below w.heap.size w W) => well_any t W _ false (h.keep hB) hw)
  have HE := Lib.hid (data_iff t)
  have HW1 := Lib.hid hW1
  have HB1 := Lib.hid hb0
  have B1 := Lib.hid hbox
  have x0 := hbox.c0
  have x1 := hbox.c1
  have x2 := hbox.c2
  clear h hw hz hb0 hbox hW1
  go_enter Try.func41, Try.ntmps41
  go_wp2_with fail
  rw [HW1.out]
  go_wp2_with fail
  refine HC.out.mono ?_
  rintro e w2 ⟨rfl, hb2⟩
  have HB2 := Lib.hid (HB1.out.trans (hb2.mono HB1.out.size))
  have B2 := Lib.hid (B1.out.under hb2 B1.out.lt)
  clear x0 x1 x2 hb2 HC
  generalize withinB t = a at HE ⊢
  cases a with
  | false =>
    have HF : Hid (Truth (dataB t) w (.returned (.bool false)) w2) := by rw [← HE.out]; exact ⟨rfl, HB2.out⟩
    go_wp2_with fail
    go_ret
    exact HF.out
  | true =>
    have HC := Lib.hid (HD.out w2 HB2.out)
    have HG : Hid (wellB t false = dataB t) := by rw [← HE.out]; exact rfl
    have x0 := B2.out.c0
    have x1 := B2.out.c1
    have x2 := B2.out.c2
    clear HE HD
    go_wp2_with fail
    refine HC.out.mono ?_
    rintro e w3 ⟨rfl, hb3⟩
    have HF : Hid (Truth (dataB t) w (.returned (.bool (wellB t false))) w3) := ⟨by rw [HG.out], HB2.out.trans (hb3.mono HB2.out.size)⟩
    clear hb3 HG HC
    generalize wellB t false = b at HF ⊢
    go_wp2_with fail
    go_ret
    exact HF.out
end Go.Proofs.Ytpcegakpdjmaaaa
