/-
  Merged by program: LimT, ValidE, Valid.
-/
import Derived.Test.YtlikmgkjilmjpaaC40
import Derived.Test.YtlikmgkjilmjpaaC41
import Derived.Test.YtlikmgkjilmjpaaC28
import Derived.Test.YtlikmgkjilmjpaaC34

/-
  The program's isWithinLimits (over nodes).
-/
namespace Go.Proofs.Ytlikmgkjilmjpaa
open Go.RowKit Go.Shelf

def withinB (t : Ty) : Bool := decide (t.size ≤ 24) && decide (t.deep ≤ 7)
set_option maxRecDepth 100000 in
set_option maxHeartbeats 800000 in
theorem implWithin_any (t : Ty) (w : World) (cs : List Value) (h : RTy w t cs) (hs : t.size ≤ 1048577) : Calls Try.prog 76 #[.agg cs.toArray] w (Truth (withinB t) w) := by
  obtain ⟨c0, c1, c2, rfl⟩ := h.three
  obtain ⟨W1, hW1⟩ : ∃ W1, w.alloc (.cells #[c0, c1, c2] 41) = W1 := ⟨_, rfl⟩
  obtain ⟨H, hH⟩ : ∃ H, w.heap.size = H := ⟨_, rfl⟩
  have hb1 : Below w.heap.size w W1 := by rw [← hW1]; exact (Below.refl _ _).alloc (Nat.le_refl _) _
  have hbx : Box3 W1 H 41 c0 c1 c2 := by rw [← hW1, ← hH]; exact Box3.new w _ _ _ _
  have HI := Lib.hid (nodesOfT_any W1 t W1 _ (h.keep hb1) (Below.refl _ _) hs)
  have HN : Hid ((t.pre 1).length = t.size) := Lib.hid (pre_len t 1)
  have HD : Hid (topTo t (t.pre 1).length = t.deep) := Lib.hid (topTo_all t)
  have HS := Lib.hid hs
  have HW1 := Lib.hid hW1
  have HB1 := Lib.hid hb1
  have x0 := hbx.c0
  have x1 := hbx.c1
  have x2 := hbx.c2
  clear h hs hW1 hb1 hbx
  go_enter Try.func76, Try.ntmps76
  go_wp2_with fail
  rw [HW1.out]
  go_wp2_with fail
  refine HI.out.mono ?_
  rintro e w2 hi
  obtain ⟨lb, rfl, hb2, hg⟩ := hi.gives (Nat.le_refl _)
  have HC := Lib.hid (withinT_any _ lb (enters_of Try.func128 (by kernel_rfl) rfl) w2 (t.pre 1).length 24 7 (depAt t) (topTo t) (by rw [HN.out]; exact HS.out) (by decide) (topTo_zero t) (fun k hk => topTo_dep t k hk) (fun k _ => topTo_mono t k) (fun W hW => (hg W hW).weaken fun _ _ h => h.dep))
  rw [HN.out] at HC
  have HB2 := Lib.hid (HB1.out.trans (hb2.mono HB1.out.size))
  have HE : Hid (withB t.size 24 (topTo t (t.pre 1).length) 7 = withinB t) := Lib.hid (by rw [HD.out]; rfl)
  rw [HN.out] at HE
  rw [HE.out] at HC
  clear hi hb2 hg x0 x1 x2
  go_wp2_with fail
  refine HC.out.mono ?_
  rintro e w3 ⟨rfl, hb3⟩
  have HF : Hid (Truth (withinB t) w (.returned (.bool (withinB t))) w3) := Lib.hid ⟨rfl, HB2.out.trans (hb3.mono HB2.out.size)⟩
  clear hb3
  go_wp2_with fail
  go_ret
  exact HF.out
end Go.Proofs.Ytlikmgkjilmjpaa

/-
  Within the limits and well made: valid, or a data type.
-/
namespace Go.Proofs.Ytlikmgkjilmjpaa
open Go.RowKit

theorem valid_iff (t : Ty) : (withinB t && wellB t true) = validB t := by
  unfold withinB wellB validB
  cases t.form <;> simp
theorem data_iff (t : Ty) : (withinB t && wellB t false) = dataB t := by
  unfold withinB wellB dataB validB
  cases t.form <;> cases Tr.has 5 t <;> simp
end Go.Proofs.Ytlikmgkjilmjpaa

/-
  The program's IsValidType, IsData.
-/
namespace Go.Proofs.Ytlikmgkjilmjpaa
open Go.RowKit

set_option maxRecDepth 100000 in
set_option maxHeartbeats 800000 in
theorem implValid_any (t : Ty) (w : World) (cs : List Value) (h : RTy w t cs) (hw : wt t ≤ 1048576) : Calls Try.prog 98 #[.agg cs.toArray] w (Truth (validB t) w) := by
  have hz := size_wt t
  obtain ⟨c0, c1, c2, W1, H, rfl, hH, hW1, hbox, hb0⟩ := boxed h
  have HC := Lib.hid (implWithin_any t W1 _ (h.keep hb0) (by omega))
  have HD := Lib.hid (fun W (hB : Below w.heap.size w W) => well_any t W _ true (h.keep hB) hw)
  have HE := Lib.hid (valid_iff t)
  have HW1 := Lib.hid hW1
  have HB1 := Lib.hid hb0
  have B1 := Lib.hid hbox
  have x0 := hbox.c0
  have x1 := hbox.c1
  have x2 := hbox.c2
  clear h hw hz hb0 hbox hW1
  go_enter Try.func98, Try.ntmps98
  go_wp2_with fail
  rw [HW1.out]
  go_wp2_with fail
  refine HC.out.mono ?_
  rintro e w2 ⟨rfl, hb2⟩
  have HB2 := Lib.hid (HB1.out.trans (hb2.mono HB1.out.size))
  have B2 := Lib.hid (B1.out.under hb2 B1.out.lt)
  clear x0 x1 x2 hb2 HC
  generalize withinB t = a at HE ⊢
  cases a with
  | false =>
    have HF : Hid (Truth (validB t) w (.returned (.bool false)) w2) := by rw [← HE.out]; exact ⟨rfl, HB2.out⟩
    go_wp2_with fail
    go_ret
    exact HF.out
  | true =>
    have HC := Lib.hid (HD.out w2 HB2.out)
    have HG : Hid (wellB t true = validB t) := by rw [← HE.out]; exact rfl
    have x0 := B2.out.c0
    have x1 := B2.out.c1
    have x2 := B2.out.c2
    clear HE HD
    go_wp2_with fail
    refine HC.out.mono ?_
    rintro e w3 ⟨rfl, hb3⟩
    have HF : Hid (Truth (validB t) w (.returned (.bool (wellB t true))) w3) := ⟨by rw [HG.out], HB2.out.trans (hb3.mono HB2.out.size)⟩
    clear hb3 HG HC
    generalize wellB t true = b at HF ⊢
    go_wp2_with fail
    go_ret
    exact HF.out

end Go.Proofs.Ytlikmgkjilmjpaa
