/-
  Merged by program: Uniq, JoinA, EqStr.
-/
import Derived.Test.YthcfgpjldhiinaaT1
import Derived.Lib.SlicesS
import Derived.Test.YthcfgpjldhiinaaProg
import Derived.OwnWalk
import Derived.RegionTactic
import Derived.Deep.QuietTactic
import Derived.BigQuiet

/-
  The different texts of a list, each at its first place: plain lists.
-/
namespace Go.Proofs.Ythcfgpjldhiinaa

theorem idx_neg {o : List ByteArray} {x : ByteArray} (h : ¬ x ∈ o) : Lib.idxOfS o x < 0 := by
  rcases Int.lt_or_le (Lib.idxOfS o x) 0 with h1 | h1
  · exact h1
  · exact absurd ((Lib.idxOfS_nonneg_iff o x).1 h1) h
theorem idx_pos {o : List ByteArray} {x : ByteArray} (h : x ∈ o) : ¬ Lib.idxOfS o x < 0 := by
  have := (Lib.idxOfS_nonneg_iff o x).2 h
  omega
def addU (o : List ByteArray) (x : ByteArray) : List ByteArray := if Lib.idxOfS o x < 0 then o ++ [x] else o
def uq (o xs : List ByteArray) : List ByteArray := xs.foldl addU o
theorem uq_nil (o : List ByteArray) : uq o [] = o := rfl
theorem uq_app (o a b : List ByteArray) : uq o (a ++ b) = uq (uq o a) b := by simp [uq, List.foldl_append]
theorem uq_succ (o xs : List ByteArray) (k : Nat) (h : k < xs.length) : uq o (xs.take (k + 1)) = addU (uq o (xs.take k)) xs[k] := by
  rw [List.take_succ_eq_append_getElem h, uq_app]; rfl
theorem addU_in {o : List ByteArray} {x : ByteArray} (h : x ∈ o) : addU o x = o := by simp [addU, idx_pos h]
theorem addU_new {o : List ByteArray} {x : ByteArray} (h : ¬ x ∈ o) : addU o x = o ++ [x] := by simp [addU, idx_neg h]
theorem addU_len (o : List ByteArray) (x : ByteArray) : (addU o x).length ≤ o.length + 1 := by
  unfold addU
  split
  · simp
  · omega
theorem uq_len : ∀ (xs o : List ByteArray), (uq o xs).length ≤ o.length + xs.length
  | [], o => by simp [uq]
  | x :: r, o => by
    have h1 := uq_len r (addU o x)
    have h2 := addU_len o x
    simp only [uq, List.foldl_cons, List.length_cons] at h1 ⊢
    omega
theorem mem_addU {o : List ByteArray} {x y : ByteArray} : y ∈ addU o x ↔ y ∈ o ∨ y = x := by
  by_cases h : x ∈ o
  · rw [addU_in h]
    constructor
    · exact .inl
    · rintro (h1 | rfl)
      · exact h1
      · exact h
  · rw [addU_new h]
    simp
theorem mem_uq : ∀ {xs o : List ByteArray} {y : ByteArray}, y ∈ uq o xs ↔ y ∈ o ∨ y ∈ xs
  | [], o, y => by simp [uq]
  | x :: r, o, y => by
    have := @mem_uq r (addU o x) y
    simp only [uq, List.foldl_cons] at this ⊢
    rw [this, mem_addU, List.mem_cons]
    constructor
    · rintro ((h | h) | h) <;> simp [h]
    · rintro (h | h | h) <;> simp [h]
theorem nodup_addU {o : List ByteArray} {x : ByteArray} (h : o.Nodup) : (addU o x).Nodup := by
  by_cases hx : x ∈ o
  · rw [addU_in hx]; exact h
  · rw [addU_new hx]
    refine List.nodup_append.2 ⟨h, by simp, fun a ha b hb e => ?_⟩
    rw [List.mem_singleton] at hb
    subst hb
    subst e
    exact hx ha
theorem nodup_uq : ∀ {xs o : List ByteArray}, o.Nodup → (uq o xs).Nodup
  | [], _, h => h
  | x :: r, o, h => by
    show (uq (addU o x) r).Nodup
    exact nodup_uq (nodup_addU h)
end Go.Proofs.Ythcfgpjldhiinaa

/-
  The size of a list of strings, as the laws reckon it: 'szStringS'.
-/
namespace Go.Proofs.Ythcfgpjldhiinaa
open Go.RowKit

/-- what szStringS leaves: where its answer is not negative, what is left over is the rest -/
def SzPost (n : Nat) (xs : List ByteArray) (left : Int) (w : World) (e : Ending) (w' : World) : Prop :=
  ∃ r : Int, e = .returned (.int .i64 r) ∧ r ≤ left ∧ -1 ≤ r ∧ (0 ≤ r → r + n + total xs = left) ∧ w = w'

set_option maxHeartbeats 400000 in
theorem szStringS_any (A : Option Addr) (c : Nat) (xs : List ByteArray) (left : Int) (w : World) (h : Sl w A (xs.map Value.string)) (hn : xs.length ≤ 9223372036854775807)
    (hx : ∀ x ∈ xs, x.size ≤ 9223372036854775807) (h0 : 0 ≤ left) (h1 : left ≤ 1048576) :
    Calls Try.prog 26 #[.slice A xs.length c, .int .i64 left] w (SzPost xs.length xs left w) := by
  go_enter Try.func26, Try.ntmps26
  by_cases hneg : left - xs.length < 0
  · go_wp2
    go_ret
    exact ⟨-1, rfl, by omega, by omega, by omega, rfl⟩
  · go_wp2
    go_loop [1, 5] (fun l i => ∃ k : Nat, k ≤ xs.length ∧ i = .int .i64 k ∧ ∃ r : Int, l = .int .i64 r ∧ 0 ≤ r ∧ r + xs.length + total (xs.take k) = left) (fun _ i => xs.length - (intOf i).toNat)
    case atStart => exact ⟨0, Nat.zero_le _, rfl, _, rfl, by omega, by simp [total]⟩
    case round =>
      obtain ⟨k, hk, rfl, r, rfl, hr0, hr⟩ := hrel
      by_cases hlt : k < xs.length
      · have hs := total_take_succ xs k xs[k] (List.getElem?_eq_getElem hlt)
        obtain ⟨ad, rfl, hc⟩ := h k (.string xs[k]) (by simp [hlt])
        have hxk := hx xs[k] (List.getElem_mem hlt)
        have HS := Lib.hid hs
        have HR := Lib.hid hr
        clear hs hr
        have hr1 : r ≤ 1048576 := by have := HR.out; omega
        by_cases hz : r - (xs[k].size : Int) < 0
        · go_wp2
          go_ret
          exact ⟨-1, rfl, by omega, by omega, by omega, rfl⟩
        · go_wp2
          go_round
          case rel => exact ⟨k + 1, by omega, by go_num, _, rfl, by omega, by have := HS.out; have := HR.out; omega⟩
          case measure => simp [intOf]; omega
      · have he : k = xs.length := by omega
        have htk : xs.take k = xs := by rw [he]; exact List.take_length
        have HR := Lib.hid hr
        have HT := Lib.hid htk
        clear hr htk he
        go_wp2
        go_ret
        exact ⟨r, rfl, by have := HR.out; omega, by omega, fun _ => by have := HR.out; rw [HT.out] at this; omega, rfl⟩
end Go.Proofs.Ythcfgpjldhiinaa

/-
  The comparison of two equal lists of strings ('eqStringS').
-/
namespace Go.Proofs.Ythcfgpjldhiinaa
open Go.RowKit

set_option maxHeartbeats 800000 in
theorem eqStringS_same (A B : Option Addr) (c d : Nat) (xs : List ByteArray) (w : World) (hA : Sl w A (xs.map Value.string)) (hB : Sl w B (xs.map Value.string)) (hn : xs.length ≤ 9223372036854775807) :
    Calls Try.prog 21 #[.slice A xs.length c, .slice B xs.length d] w (Yes w) := by
  go_enter Try.func21, Try.ntmps21
  go_wp2
  go_loopw [5] (fun i wr => ∃ k : Nat, k ≤ xs.length ∧ i = .int .i64 k ∧ ∃ n, wr = w.drewN n) (fun i _ => xs.length - (intOf i).toNat)
  case atStart => exact ⟨0, Nat.zero_le _, rfl, 0, rfl⟩
  case round =>
    obtain ⟨k, hk, rfl, n, rfl⟩ := hrel
    by_cases hlt : k < xs.length
    · obtain ⟨ad, rfl, hc⟩ := hA k (.string xs[k]) (by simp [hlt])
      obtain ⟨bd, rfl, hd⟩ := hB k (.string xs[k]) (by simp [hlt])
      go_wp2
      go_quiet (fail)
      go_wp2
      go_roundw
      case rel => exact ⟨k + 1, by omega, by go_num, _, rfl⟩
      case measure => simp [intOf]; omega
    · go_wp2
      go_ret
      exact ⟨rfl, n, rfl⟩
end Go.Proofs.Ythcfgpjldhiinaa
