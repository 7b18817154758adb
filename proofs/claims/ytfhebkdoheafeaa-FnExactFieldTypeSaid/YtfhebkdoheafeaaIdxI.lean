/-
  The program's IndexOf: the library's slices.Index.
-/
import Derived.Test.YtfhebkdoheafeaaIdx
import Derived.Test.YtfhebkdoheafeaaShelf
namespace Go.Proofs.Ytfhebkdoheafeaa
open Go.RowKit

set_option maxHeartbeats 400000 in
theorem implIndex_any (g c : Nat) (xs : List ByteArray) (x : ByteArray) (w : World) (h : Sl w (some ⟨g, 0, none⟩) (xs.map Value.string)) (hn : xs.length ≤ 9223372036854775807) :
    Calls Try.prog 51 #[.slice (some ⟨g, 0, none⟩) xs.length c, .string x] w (Num (Lib.idxOfS xs x) w) := by
  have hcells : ∀ (j : Nat), j < xs.length → w.cell? ⟨g, 0 + j, none⟩ = some (.string (xs.getD j ByteArray.empty)) := by
    intro j hj
    obtain ⟨ad', e, hcc⟩ := h j (.string xs[j]) (by simp [hj])
    injection e with e
    subst e
    rw [Addr.add_lit] at hcc
    rw [hcc]
    simp [List.getD, hj]
  have HC := Lib.hid hcells
  clear hcells h
  go_enter Try.func51, Try.ntmps51
  go_wp2_with (go_at_call 81; refine (Try.slices_Index_string g 0 xs.length c xs x _ (Nat.le_refl _) hn HC.out).mono ?_; rintro e w' ⟨rfl, rfl⟩)
  go_ret
  exact ⟨by simp, rfl⟩
end Go.Proofs.Ytfhebkdoheafeaa
