/-
  Merged by program: Bytes.
-/
import Derived.Test.YtfhebkdoheafeaaU1
import Derived.Test.YtfhebkdoheafeaaProg
import Derived.ProofKit
import Derived.OpenShut
import Derived.ChangeSlices

/-
  A slice of bytes that came in, read as data: a list of bytes.
-/
namespace Go.Proofs.Ytfhebkdoheafeaa
open Go.ChangeShapes Go.WideShapes Go.ChangeAt Go.RowKit

theorem cellsByte : Try.prog.cellsOf 5 = 1 := by kernel_rfl
set_option maxRecDepth 100000 in
theorem open_code {H : Type} {enc : TypeId × Value → H} {W : World} {r : Reach} {b0 : Nat} {v : Value} {d : DataW H} {ps : List MemPlace} (hval : Value.okWide Try.prog W r b0 22 v) (hd : DataW.Trod enc Try.prog W 0 (fun _ => true) true 22 v d ps) :
    ∃ (A : Option Addr) (cap : Nat) (bs : List UInt8), v = .slice A bs.length cap ∧ bs.length ≤ 9223372036854775807 ∧ Sl W A (bcells bs) := by
  obtain ⟨A, len, cap, rfl⟩ := okWide_slice Try.underlying22 hval
  obtain ⟨fuel, hf⟩ := hd
  rcases open_ints Try.underlying22 Try.underlying5 cellsByte hf with ⟨hcs, _⟩ | ⟨a, len', cap', zs, hcs, _, hl, hm, hz, _, hcell, hwf⟩
  · simp [Value.cells] at hcs
    obtain ⟨rfl, rfl, rfl⟩ := hcs
    exact ⟨none, 0, [], rfl, by simp, fun j u hj => by simp [bcells] at hj⟩
  · simp [Value.cells] at hcs
    obtain ⟨rfl, rfl, rfl⟩ := hcs
    simp only [if_true] at hz
    have hlen : ((zs.take len).map (fun z => UInt8.ofNat z.toNat)).length = len := by rw [List.length_map, List.length_take]; omega
    refine ⟨some a, cap, (zs.take len).map (fun z => UInt8.ofNat z.toNat), by rw [hlen], by rw [hlen]; unfold maxLen at hm; omega, fun j u hj => ?_⟩
    refine ⟨a, rfl, ?_⟩
    simp only [bcells, List.map_map] at hj
    rw [List.getElem?_map, List.getElem?_take] at hj
    split at hj
    · obtain ⟨z, hx, rfl⟩ := Option.map_eq_some_iff.1 hj
      have hjl : j < zs.length := (List.getElem?_eq_some_iff.1 hx).1
      have hzw := hwf z (List.mem_of_getElem? hx)
      have hn : 0 ≤ z ∧ z ≤ 255 := by simpa [Lit.wf, IntKind.min, IntKind.max, IntKind.signed, IntKind.bits] using hzw
      have hz2 : ((UInt8.ofNat z.toNat).toNat : Int) = z := by rw [UInt8.toNat_ofNat']; omega
      rw [hcell j hjl]
      simp only [List.getD, hx, Option.getD_some, Function.comp_apply, hz2]
    · simp at hj
end Go.Proofs.Ytfhebkdoheafeaa
