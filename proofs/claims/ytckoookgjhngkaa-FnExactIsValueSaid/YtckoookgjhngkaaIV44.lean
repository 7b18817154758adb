/-
  Merged by program: TyOpen.
-/
import Derived.Test.YtckoookgjhngkaaIV3
import Derived.ProofKit
import Derived.OpenShut
import Derived.SliceStrings
import Derived.ChangeMaps5
import Derived.Lib.SmallJoins

/-
  A type that came in, read as data: a tree.
-/
namespace Go.Proofs.Ytckoookgjhngkaa
open Go.ChangeShapes Go.WideShapes Go.ChangeAt Go.RowKit

theorem cellsInt : Try.prog.cellsOf 3 = 1 := by kernel_rfl
theorem cellsStrs : Try.prog.cellsOf 22 = 1 := by kernel_rfl
theorem cellsStr1 : Try.prog.cellsOf 9 = 1 := by kernel_rfl

/-- a slice of strings, told by its one cell -/
theorem read_labels {H : Type} {enc : TypeId × Value → H} {W : World} {n : Nat} {v : Value} {x : DataW H × List MemPlace} (h : DataW.trod enc Try.prog W 0 (fun _ => true) true n 22 [v] = some x) :
    ∃ (L : Option Addr) (c : Nat) (ls : List ByteArray), v = .slice L ls.length c ∧ ls.length ≤ 9223372036854775807 ∧ (∀ s ∈ ls, s.size ≤ 9223372036854775807) ∧ Sl W L (ls.map Value.string) := by
  rcases open_strings Try.underlying22 Try.underlying9 cellsStr1 h with ⟨hcs, _⟩ | ⟨a, len, cap, ss, hcs, _, hl, hm, hz, _, hcell, hss⟩
  · injection hcs with hcs
    exact ⟨none, 0, [], hcs, by simp, by simp, fun j u hj => by simp at hj⟩
  · injection hcs with hcs
    simp only [if_true] at hz
    have hlen : (ss.take len).length = len := by rw [List.length_take]; omega
    refine ⟨some a, cap, ss.take len, by rw [hlen, hcs], by rw [hlen]; unfold maxLen at hm; omega, fun x hx => by have := hss x (List.mem_of_mem_take hx); unfold maxLen at this; omega, fun j u hj => ?_⟩
    rw [List.getElem?_map, List.getElem?_take] at hj
    split at hj
    · obtain ⟨x, hx, rfl⟩ := Option.map_eq_some_iff.1 hj
      have hjl : j < ss.length := (List.getElem?_eq_some_iff.1 hx).1
      refine ⟨a, rfl, ?_⟩
      rw [hcell j hjl]
      simp [List.getD, hx]
    · simp at hj

end Go.Proofs.Ytckoookgjhngkaa
