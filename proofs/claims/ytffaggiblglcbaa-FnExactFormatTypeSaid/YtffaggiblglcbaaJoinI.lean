/-
  The program's Join, by the library's contract.
-/
import Derived.Test.YtffaggiblglcbaaJn
import Derived.Test.YtffaggiblglcbaaShelf
namespace Go.Proofs.Ytffaggiblglcbaa
open Go.RowKit

set_option maxHeartbeats 400000 in
theorem implJoin_any (g c : Nat) (xs : List ByteArray) (sp : ByteArray) (w : World) (h : Sl w (some ⟨g, 0, none⟩) (xs.map Value.string)) (hc : xs.length ≤ c) (hn : xs.length ≤ 1048576)
    (hsz : xs.length * sp.size + total xs ≤ 35184372088832) :
    Calls Try.prog 53 #[.slice (some ⟨g, 0, none⟩) xs.length c, .string sp] w (Text (jn xs sp) w) := by
  have hl := jn_len xs sp
  rcases Nat.eq_zero_or_pos xs.length with h0 | h0
  · obtain rfl : xs = [] := List.eq_nil_of_length_eq_zero h0
    go_enter Try.func53, Try.ntmps53
    go_wp2_with (go_at_call 77; refine (Try.strings_Join_none _ _ _ _).mono ?_; rintro e w' ⟨rfl, rfl⟩)
    go_ret
    exact ⟨rfl, Below.refl _ _⟩
  · have hcells : ∀ (j : Nat) x, xs[j]? = some x → w.cell? ⟨g, 0 + j, none⟩ = some (.string x) := by
      intro j x hj
      obtain ⟨ad, e, hcc⟩ := h j (.string x) (by simp [hj])
      injection e with e
      subst e
      rwa [Addr.add_lit] at hcc
    have hbk : g < w.heap.size := World.block_lt_of_cell? w _ (hcells 0 xs[0] (List.getElem?_eq_getElem h0))
    have HC := Lib.hid hcells
    clear hcells h
    go_enter Try.func53, Try.ntmps53
    go_wp2_with (go_at_call 77; refine (Try.strings_Join g 0 c xs sp _ HC.out hbk (by omega) hc (by show (jn xs sp).length ≤ _; omega)).mono ?_; rintro e w' ⟨rfl, hb⟩)
    go_ret
    exact ⟨rfl, hb⟩

end Go.Proofs.Ytffaggiblglcbaa
