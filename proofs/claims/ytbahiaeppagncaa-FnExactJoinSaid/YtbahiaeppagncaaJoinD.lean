/-
  The program's Join, by the library's contract; the law 'Join answers as the model does', walked.
-/
import Derived.Test.YtbahiaeppagncaaJoinC
import Derived.Test.YtbahiaeppagncaaShelf
namespace Go.Proofs.Ytbahiaeppagncaa
open Go.RowKit

set_option maxHeartbeats 400000 in
theorem implJoin_any (g c : Nat) (xs : List ByteArray) (sp : ByteArray) (w : World) (h : Sl w (some ⟨g, 0, none⟩) (xs.map Value.string)) (hc : xs.length ≤ c) (hn : xs.length ≤ 1048576)
    (hsz : xs.length * sp.size + total xs ≤ 35184372088832) :
    Calls Try.prog 7 #[.slice (some ⟨g, 0, none⟩) xs.length c, .string sp] w (Text (jn xs sp) w) := by
  have hl := jn_len xs sp
  rcases Nat.eq_zero_or_pos xs.length with h0 | h0
  · obtain rfl : xs = [] := List.eq_nil_of_length_eq_zero h0
    go_enter Try.func7, Try.ntmps7
    go_wp2_with (go_at_call 9; refine (Try.strings_Join_none _ _ _ _).mono ?_; rintro e w' ⟨rfl, rfl⟩)
    go_ret
    exact ⟨rfl, Below.refl _ _⟩
  · have hcells : ∀ (j : Nat) x, xs[j]? = some x → w.cell? ⟨g, 0 + j, none⟩ = some (.string x) := by
      intro j x hj
      obtain ⟨ad, e, hcc⟩ := h j (.string x) (by simp [hj])
      injection e with e
      subst e
      rwa [Addr.add_lit] at hcc
    have hbk : g < w.heap.size := World.block_lt_of_cell? w _ (hcells 0 xs[0] (List.getElem?_eq_getElem h0))
    have HC := Lib.hid hcells
    clear hcells h
    go_enter Try.func7, Try.ntmps7
    go_wp2_with (go_at_call 9; refine (Try.strings_Join g 0 c xs sp _ HC.out hbk (by omega) hc (by show (jn xs sp).length ≤ _; omega)).mono ?_; rintro e w' ⟨rfl, hb⟩)
    go_ret
    exact ⟨rfl, hb⟩

set_option maxHeartbeats 1600000 in
theorem join_law (A : Option Addr) (c : Nat) (xs : List ByteArray) (sp : ByteArray) (w : World) (h : Sl w A (xs.map Value.string)) (hn : xs.length ≤ 9223372036854775807)
    (hx : ∀ x ∈ xs, x.size ≤ 9223372036854775807) (hs : sp.size ≤ 9223372036854775807) :
    Calls Try.prog 3 #[.slice A xs.length c, .string sp] w (LawYes w) := by
  by_cases hbig : 1048576 < sp.size
  · go_enter Try.func3, Try.ntmps3
    go_wp2
    go_ret
    exact ⟨rfl, Below.refl _ _⟩
  · go_enter Try.func3, Try.ntmps3
    go_wp2_with fail
    refine (szStringS_any A c xs _ _ h hn hx (by omega) (by omega)).mono ?_
    rintro e w' ⟨r, rfl, hr1, hr2, hr3, rfl⟩
    by_cases hneg : r < 0
    · clear hr3
      go_wp2_with fail
      go_ret
      exact ⟨rfl, Below.refl _ _⟩
    · have hsum : xs.length + total xs ≤ 1048576 := by have := hr3 (by omega); omega
      have hm : xs.length * sp.size ≤ 1048576 * 1048576 := Nat.mul_le_mul (by omega) (by omega)
      have hsz : xs.length * sp.size + total xs ≤ 35184372088832 := by omega
      have HM := Lib.hid hm
      clear hr3 hm
      go_wp2_with fail
      refine (toStringS_any A c xs _ h (by omega)).mono ?_
      rintro e w1 ⟨rfl, hown1, hb1⟩
      have s1 := Sl.of_own hown1
      clear hown1
      go_wp2_with fail
      refine (specJoin_any _ _ xs sp w1 s1 (by omega) (by omega) hsz).mono ?_
      rintro e w2 ⟨rfl, hb2⟩
      have hb12 : Below w.heap.size w w2 := hb1.trans (hb2.mono hb1.size)
      have h2 : Sl w2 A (xs.map Value.string) := h.below hb12
      clear s1 hb1 hb2
      go_wp2_with fail
      refine (toStringS_any A c xs _ h2 (by omega)).mono ?_
      rintro e w3 ⟨rfl, hown3, hb3⟩
      have s3 := Sl.of_own hown3
      have hb13 : Below w.heap.size w w3 := hb12.trans (hb3.mono hb12.size)
      have h3 : Sl w3 A (xs.map Value.string) := h.below hb13
      clear hown3 hb3 hb12 h2
      go_wp2_with fail
      refine (implJoin_any _ _ xs sp w3 s3 (Nat.le_refl _) (by omega) hsz).mono ?_
      rintro e w4 ⟨rfl, hb4⟩
      have s4 := s3.below hb4
      have hb14 : Below w.heap.size w w4 := hb13.trans (hb4.mono hb13.size)
      have h4 : Sl w4 A (xs.map Value.string) := h.below hb14
      clear s3 hb4 hb13 h3
      go_wp2_with fail
      refine (toStringS_any A c xs _ h4 (by omega)).mono ?_
      rintro e w5 ⟨rfl, hown5, hb5⟩
      have s5 := Sl.of_own hown5
      have t5 := s4.below hb5
      have hb15 : Below w.heap.size w w5 := hb14.trans (hb5.mono hb14.size)
      clear s4 hb5 hb14 h4 hown5
      go_wp2_with fail
      refine (eqStringS_same _ _ _ _ xs w5 t5 s5 (by omega)).mono ?_
      rintro e w6 ⟨rfl, n, rfl⟩
      go_wp2_with fail
      go_ret
      exact ⟨rfl, below_drewN hb15 n⟩
end Go.Proofs.Ytbahiaeppagncaa
