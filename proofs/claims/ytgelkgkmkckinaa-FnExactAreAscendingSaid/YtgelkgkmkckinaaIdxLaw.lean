/-
  The laws 'IndexOf answers as the model does' and 'AreAscending answers as the model does', walked.
-/
import Derived.Test.YtgelkgkmkckinaaIdx
import Derived.Test.YtgelkgkmkckinaaAsc
import Derived.Test.YtgelkgkmkckinaaJoinB
namespace Go.Proofs.Ytgelkgkmkckinaa
open Go.RowKit

set_option maxHeartbeats 1600000 in
theorem index_law (A : Option Addr) (c : Nat) (xs : List ByteArray) (s : ByteArray) (w : World) (h : Sl w A (xs.map Value.string)) (hn : xs.length ≤ 9223372036854775807)
    (hx : ∀ x ∈ xs, x.size ≤ 9223372036854775807) (hs : s.size ≤ 9223372036854775807) :
    Calls Try.prog 5 #[.slice A xs.length c, .string s] w (LawYes w) := by
  by_cases hbig : 1048576 < s.size
  · go_enter Try.func5, Try.ntmps5
    go_wp2
    go_ret
    exact ⟨rfl, Below.refl _ _⟩
  · go_enter Try.func5, Try.ntmps5
    go_wp2_with fail
    refine (szStringS_any A c xs _ _ h hn hx (by omega) (by omega)).mono ?_
    rintro e w' ⟨r, rfl, hr1, hr2, hr3, rfl⟩
    by_cases hneg : r < 0
    · clear hr3
      go_wp2_with fail
      go_ret
      exact ⟨rfl, Below.refl _ _⟩
    · have hsum : xs.length + total xs ≤ 1048576 := by have := hr3 (by omega); omega
      clear hr3
      go_wp2_with fail
      refine (toStringS_any A c xs _ h (by omega)).mono ?_
      rintro e w1 ⟨rfl, hown1, hb1⟩
      have s1 := Sl.of_own hown1
      clear hown1
      go_wp2_with fail
      refine (specIndex_any _ _ xs s w1 s1 (by omega)).mono ?_
      rintro e w2 ⟨rfl, rfl⟩
      have h2 : Sl w1 A (xs.map Value.string) := h.below hb1
      clear s1
      go_wp2_with fail
      refine (toStringS_any A c xs _ h2 (by omega)).mono ?_
      rintro e w3 ⟨rfl, hown3, hb3⟩
      have s3 := Sl.of_own hown3
      have hb13 : Below w.heap.size w w3 := hb1.trans (hb3.mono hb1.size)
      have h3 : Sl w3 A (xs.map Value.string) := h.below hb13
      clear hown3 hb3 hb1 h2
      go_wp2_with fail
      refine (implIndex_any _ _ xs s w3 s3 (by omega)).mono ?_
      rintro e w4 ⟨rfl, rfl⟩
      go_wp2_with fail
      refine (toStringS_any A c xs _ h3 (by omega)).mono ?_
      rintro e w5 ⟨rfl, hown5, hb5⟩
      have s5 := Sl.of_own hown5
      have t5 := s3.below hb5
      have hb15 : Below w.heap.size w w5 := hb13.trans (hb5.mono hb13.size)
      clear s3 hb5 hb13 h3 hown5
      go_wp2_with fail
      refine (eqStringS_same _ _ _ _ xs w5 t5 s5 (by omega)).mono ?_
      rintro e w6 ⟨rfl, n, rfl⟩
      go_wp2_with fail
      go_ret
      exact ⟨rfl, below_drewN hb15 n⟩

set_option maxHeartbeats 1600000 in
theorem asc_law (A : Option Addr) (c : Nat) (xs : List ByteArray) (w : World) (h : Sl w A (xs.map Value.string)) (hn : xs.length ≤ 9223372036854775807)
    (hx : ∀ x ∈ xs, x.size ≤ 9223372036854775807) :
    Calls Try.prog 6 #[.slice A xs.length c] w (LawYes w) := by
  go_enter Try.func6, Try.ntmps6
  go_wp2_with fail
  refine (szStringS_any A c xs _ _ h hn hx (by omega) (by omega)).mono ?_
  rintro e w' ⟨r, rfl, hr1, hr2, hr3, rfl⟩
  by_cases hneg : r < 0
  · clear hr3
    go_wp2_with fail
    go_ret
    exact ⟨rfl, Below.refl _ _⟩
  · have hsum : xs.length + total xs ≤ 1048576 := by have := hr3 (by omega); omega
    clear hr3
    go_wp2_with fail
    refine (toStringS_any A c xs _ h (by omega)).mono ?_
    rintro e w1 ⟨rfl, hown1, hb1⟩
    have s1 := Sl.of_own hown1
    clear hown1
    go_wp2_with fail
    refine (specAsc_any _ _ xs w1 s1 (by omega)).mono ?_
    rintro e w2 ⟨rfl, n2, rfl⟩
    have hb2 := below_drewN hb1 n2
    have h2 : Sl (w1.drewN n2) A (xs.map Value.string) := h.below hb2
    clear s1 hb1
    go_wp2_with fail
    refine (toStringS_any A c xs _ h2 (by omega)).mono ?_
    rintro e w3 ⟨rfl, hown3, hb3⟩
    have s3 := Sl.of_own hown3
    have hb13 : Below w.heap.size w w3 := hb2.trans (hb3.mono hb2.size)
    have h3 : Sl w3 A (xs.map Value.string) := h.below hb13
    clear hown3 hb3 hb2 h2
    go_wp2_with fail
    refine (implAsc_any _ _ xs w3 s3 (by omega)).mono ?_
    rintro e w4 ⟨rfl, n4, rfl⟩
    have hb4 := below_drewN hb13 n4
    have h4 : Sl (w3.drewN n4) A (xs.map Value.string) := h.below hb4
    have s4 : Sl (w3.drewN n4) (some ⟨(w1.drewN n2).heap.size, 0, none⟩) (xs.map Value.string) := s3
    clear s3 h3 hb13
    go_wp2_with fail
    refine (toStringS_any A c xs _ h4 (by omega)).mono ?_
    rintro e w5 ⟨rfl, hown5, hb5⟩
    have s5 := Sl.of_own hown5
    have t5 := s4.below hb5
    have hb15 : Below w.heap.size w w5 := hb4.trans (hb5.mono hb4.size)
    clear s4 hb5 hb4 h4 hown5
    go_wp2_with fail
    refine (eqStringS_same _ _ _ _ xs w5 t5 s5 (by omega)).mono ?_
    rintro e w6 ⟨rfl, n, rfl⟩
    go_wp2_with fail
    go_ret
    exact ⟨rfl, below_drewN hb15 n⟩
end Go.Proofs.Ytgelkgkmkckinaa
