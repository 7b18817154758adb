/-
  The program's SortNames: the different texts, sorted by the library.
-/
import Derived.Test.YtgelkgkmkckinaaUniteI
import Derived.Test.YtgelkgkmkckinaaAscL
import Derived.Test.YtgelkgkmkckinaaShelfS
import Derived.Sort.OwnSorted
namespace Go.Proofs.Ytgelkgkmkckinaa
open Go.RowKit Go.Sort Go.Proofs

/-- the one ascending list of the texts of xs, in memory of the call's own -/
def SortL (xs : List ByteArray) (w : World) (e : Ending) (w' : World) : Prop := ∃ o, Asc o ∧ (∀ y, y ∈ o ↔ y ∈ xs) ∧ o.length ≤ xs.length ∧ OwnL o w e w'

theorem us_mem (xs : List ByteArray) (y : ByteArray) : y ∈ uq (uq [] xs) [] ↔ y ∈ xs := by rw [uq_nil, mem_uq]; simp
theorem us_len (xs : List ByteArray) : (uq (uq [] xs) []).length ≤ xs.length := by
  have := uq_len xs []
  rw [uq_nil]
  simpa using this
theorem us_nodup (xs : List ByteArray) : (uq (uq [] xs) []).Nodup := by rw [uq_nil]; exact nodup_uq List.nodup_nil

set_option maxHeartbeats 800000 in
theorem implSort_any (A : Option Addr) (c : Nat) (xs : List ByteArray) (w : World) (hA : Sl w A (xs.map Value.string)) (hn : xs.length ≤ 1048576) (hx : ∀ x ∈ xs, x.size ≤ 1048576) :
    Calls Try.prog 11 #[.slice A xs.length c] w (SortL xs w) := by
  have H := Lib.hid (implUnite_any A none c 0 xs [] w hA (fun j u hj => by simp at hj) hn (by simp) hx (by simp))
  clear hA
  go_enter Try.func11, Try.ntmps11
  go_wp2_with fail
  refine H.out.mono ?_
  rintro e w1 ⟨A1, c1, rfl, hown, hb⟩
  have hm := us_mem xs
  have hl := us_len xs
  have hd := us_nodup xs
  obtain ⟨us, hus⟩ : ∃ us, uq (uq [] xs) [] = us := ⟨_, rfl⟩
  rw [hus] at hown hm hl hd ⊢
  have HM := Lib.hid hm
  have HD := Lib.hid hd
  clear hus H hx hm hd
  rcases Nat.eq_zero_or_pos us.length with h0 | h0
  · obtain rfl : us = [] := List.eq_nil_of_length_eq_zero h0
    have HO := Lib.hid hown
    clear hown
    go_wp2_with (go_at_call 32; refine (Try.slices_Sort_string_none _ _ _).mono ?_; rintro e w' ⟨rfl, rfl⟩)
    go_ret
    exact ⟨[], List.Pairwise.nil, HM.out, by simp, A1, c1, rfl, HO.out, hb⟩
  · rcases hown.2 with ⟨_, h1⟩ | ⟨g, cap, cur, hv, hbase, hg, h1, h2, h3, h4⟩
    · omega
    · injection hv with e1 _ e3
      subst e1
      subst e3
      rw [Nat.mul_one] at h4
      have he : us.map Value.string = (bytesOf us).map encStr := by rw [enc_texts, texts_bytes]
      have hbl : (bytesOf us).length = us.length := by simp [bytesOf]
      have hH : Holds encStr w1 g 0 (bytesOf us).toArray := holds_of_block hg (by rw [hbl, ← he]; exact h4)
      have hc := Try.slices_Sort_string g 0 c1 (bytesOf us) w1 hH (Array.getElem?_eq_some_iff.1 hg).1 (by omega)
      rw [hbl] at hc
      have HC := Lib.hid hc
      have HB := Lib.hid hb
      have HR : Hid (∀ n os, SortL xs w (.returned (.slice (some ⟨g, 0, none⟩) us.length c1)) (grow (putRow encStr (Sort.ahead w1 n) g 0 ((bytesOf us).mergeSort fun x y => decide (x ≤ y)).toArray) os)) := by
        intro n os
        have hs := ownsRow_sorted (n := n) (os := os) (ss := bytesOf us) (ts := (bytesOf us).mergeSort fun x y => decide (x ≤ y)) (by simp) hbase hg (by omega) h2 h3
        have hq := sorted_len us
        refine ⟨sorted us, sorted_asc HD.out, fun y => by rw [sorted_mem]; exact HM.out y, by omega, some ⟨g, 0, none⟩, c1, by rw [hq], ?_, HB.out.grown (grownBy_sorted _) HB.out.size (fun j hj => by cases hj; exact hbase)⟩
        rw [hbl, enc_texts] at hs
        rw [hq]
        exact hs
      clear hc hown hg hbase h1 h2 h3 h4 he hH hb hbl
      go_wp2_with (go_at_call 32; refine HC.out.mono ?_; rintro e w' ⟨rfl, n, os, rfl⟩)
      go_ret
      exact HR.out n os
end Go.Proofs.Ytgelkgkmkckinaa
