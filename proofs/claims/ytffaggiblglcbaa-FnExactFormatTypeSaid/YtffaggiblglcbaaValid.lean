/-
  The program's IsValidType, IsData.
-/
import Derived.Test.YtffaggiblglcbaaWell
import Derived.Test.YtffaggiblglcbaaLevLim
namespace Go.Proofs.Ytffaggiblglcbaa
open Go.RowKit

theorem valid_iff (t : Ty) : (withinB t && wellB t true) = validB t := by
  unfold withinB wellB validB
  cases t.form <;> simp
theorem data_iff (t : Ty) : (withinB t && wellB t false) = dataB t := by
  unfold withinB wellB dataB validB
  cases t.form <;> cases Tr.has 5 t <;> simp

set_option maxRecDepth 100000 in
set_option maxHeartbeats 800000 in
theorem implValid_any (t : Ty) (w : World) (cs : List Value) (h : RTy w t cs) (hw : wt t ≤ 1048576) : Calls Try.prog 22 #[.agg cs.toArray] w (Truth (validB t) w) := by
  have hz := size_wt t
  obtain ⟨c0, c1, c2, W1, H, rfl, hH, hW1, hbox, hb0⟩ := boxed h
  have HC := Lib.hid (implWithin_any t W1 _ (h.keep hb0) (by omega))
  have HD := Lib.hid (fun W (hB : Below w.heap.size w W) => well_any t W _ true (h.keep hB) hw)
  have HE := Lib.hid (valid_iff t)
  have HW1 := Lib.hid hW1
  have HB1 := Lib.hid hb0
  have B1 := Lib.hid hbox
  have x0 := hbox.c0
  have x1 := hbox.c1
  have x2 := hbox.c2
  clear h hw hz hb0 hbox hW1
  go_enter Try.func22, Try.ntmps22
  go_wp2_with fail
  rw [HW1.out]
  go_wp2_with fail
  refine HC.out.mono ?_
  rintro e w2 ⟨rfl, hb2⟩
  have HB2 := Lib.hid (HB1.out.trans (hb2.mono HB1.out.size))
  have B2 := Lib.hid (B1.out.under hb2 B1.out.lt)
  clear x0 x1 x2 hb2 HC
  generalize withinB t = a at HE ⊢
  cases a with
  | false =>
    have HF : Hid (Truth (validB t) w (.returned (.bool false)) w2) := by rw [← HE.out]; exact ⟨rfl, HB2.out⟩
    go_wp2_with fail
    go_ret
    exact HF.out
  | true =>
    have HC := Lib.hid (HD.out w2 HB2.out)
    have HG : Hid (wellB t true = validB t) := by rw [← HE.out]; exact rfl
    have x0 := B2.out.c0
    have x1 := B2.out.c1
    have x2 := B2.out.c2
    clear HE HD
    go_wp2_with fail
    refine HC.out.mono ?_
    rintro e w3 ⟨rfl, hb3⟩
    have HF : Hid (Truth (validB t) w (.returned (.bool (wellB t true))) w3) := ⟨by rw [HG.out], HB2.out.trans (hb3.mono HB2.out.size)⟩
    clear hb3 HG HC
    generalize wellB t true = b at HF ⊢
    go_wp2_with fail
    go_ret
    exact HF.out

end Go.Proofs.Ytffaggiblglcbaa
