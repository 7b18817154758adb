/-
  Merged by program: JoinB.
-/
import Derived.Test.YtlcedleebbgebaaDoorF15
import Derived.Test.YtlcedleebbgebaaDoorF16
import Derived.OwnWalk
import Derived.Laws.MakeOwn
import Derived.RegionTactic
import Derived.Deep.QuietTactic
import Derived.BigQuiet

/-
  A copy of a list of strings in new memory ('toStringS'); the comparison of two equal lists ('eqStringS').
-/
namespace Go.Proofs.YtlcedleebbgebaaDoor
open Go.RowKit

theorem infoStr : (Tryd.prog.info? 9).map (fun i => (i.zero, i.size, i.bytes)) = some (some (.string ⟨#[]⟩), 1, 16) := by kernel_rfl

set_option maxHeartbeats 800000 in
theorem toStringS_any (A : Option Addr) (c : Nat) (xs : List ByteArray) (w : World) (h : Sl w A (xs.map Value.string)) (hn : xs.length ≤ 1048576) :
    Calls Tryd.prog 6 #[.slice A xs.length c] w (SlNew 9 xs.length (xs.map Value.string) w) := by
  obtain ⟨i0, hi, hz0, hz1, hz2⟩ := info_parts infoStr
  have hle : xs.length ≤ 9223372036854775807 := by omega
  go_enter Tryd.func6, Tryd.ntmps6
  go_wp2_with (at_make; refine wpList_make_full _ rfl _ _ 22 rfl w.heap.size 9 i0 (.string ⟨#[]⟩) 1 Tryd.underlying22 hi hz0 hz1 _ _ _ _ xs.length rfl rfl rfl rfl (by rw [hz2]; omega) (by unfold maxLen; omega) (Nat.le_refl _) ?_; intro w0 hown0 hgrow0)
  go_loopw [4] (fun i wr => ∃ k : Nat, k ≤ xs.length ∧ i = .int .i64 k ∧ wr.ownsRow w.heap.size 9 1 (.slice (some ⟨w.heap.size, 0, none⟩) xs.length xs.length) xs.length ((xs.map Value.string).take k ++ List.replicate (xs.length - k) (.string ⟨#[]⟩)) ∧ Below w.heap.size w wr) (fun i _ => xs.length - (intOf i).toNat)
  case atStart =>
    refine ⟨0, Nat.zero_le _, rfl, ?_, (Below.refl _ _).grown hgrow0 (Nat.le_refl _) (fun k hk => by cases hk)⟩
    have e : (madeCells (Value.string ⟨#[]⟩).cells (xs.length * 1)).toList = List.replicate xs.length (.string ⟨#[]⟩) := by rw [Nat.mul_one]; exact made_one _ _
    rw [e] at hown0
    simpa using hown0
  case round =>
    obtain ⟨k, hk, rfl, hown, hb⟩ := hrel
    by_cases hlt : k < xs.length
    · obtain ⟨ad, rfl, hc0⟩ := h k (.string xs[k]) (by simp [hlt])
      have hc : wr.cell? (ad.add k) = some (.string xs[k]) := (hb.cell (World.block_lt_of_cell? w _ hc0)).trans hc0
      have hfr : wr.frozen? ⟨w.heap.size, k, none⟩ = false := hown.frozenAt k
      have hat : wr.cell? ⟨w.heap.size, k, none⟩ = some (.string ⟨#[]⟩) := by
        rw [hown.cellAt k (by omega)]
        have := fill_at (xs.map Value.string) (.string ⟨#[]⟩) k (by simpa using hlt)
        simpa using this
      have hst := (hown.stored k (.string xs[k])).1
      have hfs := fill_step (xs.map Value.string) (.string ⟨#[]⟩) k (.string xs[k]) (by simp [hlt])
      rw [List.length_map] at hfs
      rw [hfs] at hst
      have HS := Lib.hid hst
      clear hst hfs hown hc0
      go_wp2
      go_roundw
      case rel => exact ⟨k + 1, by omega, by go_num, HS.out, hb.setCell (Nat.le_refl _) _⟩
      case measure => simp [intOf]; omega
    · have he : k = xs.length := by omega
      subst he
      have hf := fill_all (xs.map Value.string) (.string ⟨#[]⟩)
      rw [List.length_map] at hf
      rw [hf] at hown
      clear hf
      have HO := Lib.hid hown
      clear hown
      go_wp2
      go_ret
      exact ⟨rfl, HO.out, hb⟩

end Go.Proofs.YtlcedleebbgebaaDoor
