/-
  Merged by program: EvName.
-/
import Derived.Test.YtckoookgjhngkaaIV17
import Derived.Test.YtckoookgjhngkaaIV13
import Derived.Test.YtckoookgjhngkaaIV5

/-
  The program's every over names.
-/
namespace Go.Proofs.Ytckoookgjhngkaa
open Go.RowKit

set_option maxRecDepth 100000 in
set_option maxHeartbeats 800000 in
theorem everyName_any (A : Option Addr) (c : Nat) (xs : List ByteArray) (w : World) (h : Sl w A (xs.map Value.string)) (hn : xs.length ≤ 1048576) (hx : ∀ x ∈ xs, x.size ≤ 1048576) :
    Calls Try.prog 32 #[.slice A xs.length c, .func (.func 33) #[] #[]] w (Truth (xs.all nameB) w) := by
  have HX := Lib.hid hx
  have HS := Lib.hid h
  clear hx h
  go_enter Try.func32, Try.ntmps32
  go_wp2_with fail
  go_loopw [9] (fun i wr => ∃ k : Nat, k ≤ xs.length ∧ i = .int .i64 k ∧ NamesTo xs k ∧ Below w.heap.size w wr) (fun i _ => xs.length - (intOf i).toNat)
  case atStart => exact ⟨0, Nat.zero_le _, rfl, namesTo_zero _, Below.refl _ _⟩
  case round =>
    obtain ⟨k, hk, rfl, hno, hb⟩ := hrel
    have HNO := Lib.hid hno
    have HB := Lib.hid hb
    clear hno hb
    by_cases hlt : k < xs.length
    · obtain ⟨ad, rfl, hc⟩ := (HS.out.below HB.out) k (.string xs[k]) (by simp [hlt])
      have HC := Lib.hid (implName_any xs[k] wr (HX.out _ (List.getElem_mem hlt)))
      by_cases hf : nameB xs[k] = true
      · have HN := Lib.hid (namesTo_succ HNO.out hlt hf)
        rw [hf] at HC
        clear hf
        go_wp2_with fail
        refine HC.out.mono ?_
        rintro e w2 ⟨rfl, hb2⟩
        have HB2 := Lib.hid (HB.out.trans (hb2.mono HB.out.size))
        clear hb2
        go_wp2_with fail
        go_roundw
        case rel => exact ⟨k + 1, hlt, by go_num, HN.out, HB2.out⟩
        case measure => simp [intOf]; omega
      · have hff : nameB xs[k] = false := by simpa using hf
        rw [hff] at HC
        have HE : Hid (xs.all nameB = false) := Lib.hid (by
          rw [Bool.eq_false_iff, Ne, List.all_eq_true]
          intro h
          have := h _ (List.getElem_mem hlt)
          rw [hff] at this
          cases this)
        clear hf hff
        go_wp2_with fail
        refine HC.out.mono ?_
        rintro e w2 ⟨rfl, hb2⟩
        have HB2 := Lib.hid (HB.out.trans (hb2.mono HB.out.size))
        clear hb2
        go_wp2_with fail
        go_ret
        exact ⟨by rw [HE.out]; rfl, HB2.out⟩
    · have he : k = xs.length := by omega
      have HE : Hid (xs.all nameB = true) := Lib.hid (by
        rw [List.all_eq_true]
        intro x hx
        obtain ⟨j, hj, rfl⟩ := List.getElem_of_mem hx
        exact HNO.out j hj (by omega))
      clear he
      go_wp2_with fail
      go_ret
      exact ⟨by rw [HE.out]; rfl, HB.out⟩
end Go.Proofs.Ytckoookgjhngkaa
