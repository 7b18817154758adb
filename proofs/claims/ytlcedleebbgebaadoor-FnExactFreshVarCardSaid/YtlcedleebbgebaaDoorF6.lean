/-
  Merged by program: Idx.
-/
import Derived.Test.YtlcedleebbgebaaDoorF5
import Derived.Test.YtlcedleebbgebaaDoorF1
import Derived.Test.YtlcedleebbgebaaDoorProg
import Derived.Lib.SlicesS
import Derived.Deep.QuietTactic
import Derived.BigQuiet

/-
  The first place of a text in a list: the model's IndexOf; the program's, by the library's contract.
-/
namespace Go.Proofs.YtlcedleebbgebaaDoor
open Go.RowKit

/-- an answer that is a number, the world as it was -/

def NoneTo (xs : List ByteArray) (x : ByteArray) (k : Nat) : Prop := ∀ j, j < k → xs.getD j ByteArray.empty ≠ x
theorem noneTo_zero (xs : List ByteArray) (x : ByteArray) : NoneTo xs x 0 := fun j h => by omega
theorem noneTo_succ {xs : List ByteArray} {x : ByteArray} {k : Nat} (h : NoneTo xs x k) (hk : k < xs.length) (hx : xs[k] ≠ x) : NoneTo xs x (k + 1) := by
  intro j hj
  by_cases e : j = k
  · subst e
    simpa [List.getD, hk] using hx
  · exact h j (by omega)
theorem idx_hit {xs : List ByteArray} {x : ByteArray} {k : Nat} (h : NoneTo xs x k) (hk : k < xs.length) (hx : xs[k] = x) : Lib.idxOfS xs x = k := by
  have := Lib.idxOfS_hit xs xs.length k x hk (Nat.le_refl _) (by simpa [List.getD, hk] using hx) h
  rwa [List.take_length] at this
theorem idx_miss {xs : List ByteArray} {x : ByteArray} (h : NoneTo xs x xs.length) : Lib.idxOfS xs x = -1 := by
  have := Lib.idxOfS_miss xs xs.length x h
  rwa [List.take_length] at this
theorem idx_le (xs : List ByteArray) (x : ByteArray) : -1 ≤ Lib.idxOfS xs x ∧ Lib.idxOfS xs x ≤ xs.length := by
  have gen : ∀ (zs : List ByteArray) (i : Nat), -1 ≤ Lib.idxFromS zs x i ∧ Lib.idxFromS zs x i ≤ i + zs.length := by
    intro zs
    induction zs with
    | nil => intro i; simp [Lib.idxFromS]
    | cons z zs ih =>
      intro i
      unfold Lib.idxFromS
      split
      · simp; omega
      · have := ih (i + 1)
        simp at this ⊢
        omega
  have := gen xs 0
  simpa [Lib.idxOfS] using this
theorem ret_int {k : IntKind} {a b : Int} (h : a = b) : Ending.returned (.int k a) = .returned (.int k b) := by rw [h]

set_option maxHeartbeats 800000 in
theorem specIndex_any (A : Option Addr) (c : Nat) (xs : List ByteArray) (x : ByteArray) (w : World) (h : Sl w A (xs.map Value.string)) (hn : xs.length ≤ 9223372036854775807) :
    Calls Tryd.prog 10 #[.slice A xs.length c, .string x] w (Num (Lib.idxOfS xs x) w) := by
  go_enter Tryd.func10, Tryd.ntmps10
  go_wp2
  go_loop [5] (fun i => ∃ k : Nat, k ≤ xs.length ∧ i = .int .i64 k ∧ NoneTo xs x k) (fun i => xs.length - (intOf i).toNat)
  case atStart => exact ⟨0, Nat.zero_le _, rfl, noneTo_zero _ _⟩
  case round =>
    obtain ⟨k, hk, rfl, hno⟩ := hrel
    by_cases hlt : k < xs.length
    · obtain ⟨ad, rfl, hc⟩ := h k (.string xs[k]) (by simp [hlt])
      by_cases hx : xs[k] = x
      · have HI := Lib.hid (idx_hit hno hlt hx)
        have hb := (Lib.bytes_beq_iff xs[k] x).2 hx
        clear hx
        go_wp2
        go_ret
        exact ⟨ret_int HI.out.symm, rfl⟩
      · have HN := Lib.hid (noneTo_succ hno hlt hx)
        have hb := (Lib.bytes_beq_false_iff xs[k] x).2 hx
        clear hx
        go_wp2
        go_round
        case rel => exact ⟨k + 1, by omega, by go_num, HN.out⟩
        case measure => simp [intOf]; omega
    · have he : k = xs.length := by omega
      subst he
      have HI := Lib.hid (idx_miss hno)
      go_wp2
      go_ret
      exact ⟨ret_int HI.out.symm, rfl⟩
end Go.Proofs.YtlcedleebbgebaaDoor
