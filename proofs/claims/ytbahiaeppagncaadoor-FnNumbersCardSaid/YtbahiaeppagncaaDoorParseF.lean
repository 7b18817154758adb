/-
  What the row's list of the library's variables gives to the parsing; a world for the witness.
-/
import Derived.Test.YtbahiaeppagncaaDoorParseE
import Derived.Test.YtbahiaeppagncaaDoorFormatLaw
import Derived.Stop.LaidErr
import Derived.ChangeMaps5
namespace Go.Proofs.YtbahiaeppagncaaDoor
open Go.ChangeShapes Go.WideShapes Go.ChangeAt Go.RowKit

theorem gSynType : (Tryd.prog.globals[1]?).map (·.type) = some 53 := by kernel_rfl
theorem gRngType : (Tryd.prog.globals[2]?).map (·.type) = some 53 := by kernel_rfl
theorem cellsErr : Tryd.prog.cellsOf 103 = 1 := by kernel_rfl
theorem cellsStr : Tryd.prog.cellsOf 9 = 1 := by kernel_rfl
theorem starErr : "*" ++ "errors.errorString" = "*errors.errorString" := by decide
theorem rowErr (u : TypeId) (h : Tryd.prog.typeName? 3 u = some "*errors.errorString") : u = 101 :=
  typeName_ptr_named (nm := "errors.errorString") (by rw [starErr]; kernel_rfl) (by kernel_rfl) (by decide) u (by rw [starErr]; exact h)

theorem vars_of_laid {W : World} (h : laidMetH Tryd.prog Rows.fnExactParseIntRow.laid W) : Vars W := by
  have h5 : laidMet Tryd.prog Rows.fnExactParseIntRow.laid W := h
  have h3 := laidMet_tail (laidMet_tail h5)
  have hp := pow_of_laid h3
  have h2 := laidMet_tail h3
  obtain ⟨a0, s0, hv0, -, -, -⟩ := laid_sentinel h2 gRng gRngType Tryd.underlying53 rowErr Tryd.underlying101 Tryd.underlying103 rfl rfl Tryd.underlying9 cellsErr cellsStr
  obtain ⟨a1, s1, hv1, -, -, -⟩ := laid_sentinel (laidMet_tail h2) gSyn gSynType Tryd.underlying53 rowErr Tryd.underlying101 Tryd.underlying103 rfl rfl Tryd.underlying9 cellsErr cellsStr
  refine ⟨hp, ⟨_, _, hv1⟩, ⟨_, _, hv0⟩, World.block_lt_of_cell? W _ (hp.cell gPow 0 (by rw [Lib.pow10Tab_length]; omega)), ?_, ?_⟩
  · have h0 := World.var?_cell gSyn hv1 0
    exact World.block_lt_of_cell? W _ (by simpa using h0)
  · have h0 := World.var?_cell gRng hv0 0
    exact World.block_lt_of_cell? W _ (by simpa using h0)

/-- the texts of the two errors -/
def synS : ByteArray := { data := #[105, 110, 118, 97, 108, 105, 100, 32, 115, 121, 110, 116, 97, 120] }
def rngS : ByteArray := { data := #[118, 97, 108, 117, 101, 32, 111, 117, 116, 32, 111, 102, 32, 114, 97, 110, 103, 101] }
noncomputable def low : Nat := (World.holding Tryd.prog default ⟨#[], #[], []⟩).heap.size
noncomputable def numWorld (os : Os) : World :=
  { World.holding Tryd.prog os ⟨#[.cells #[.string synS] 103, .cells #[.string rngS] 103], #[], []⟩ with
    heap := putCells (putCells (putCells (putCells (putCells (World.holding Tryd.prog os ⟨#[.cells #[.string synS] 103, .cells #[.string rngS] 103], #[], []⟩).heap
      0 (cellsOfData Rows.laid_internal_strconv_uint64pow10)) 6 (cellsOfData Rows.laid_math_bits_deBruijn32tab)) 7 (cellsOfData Rows.laid_math_bits_deBruijn64tab))
      1 #[.iface 101 (.pointer (some ⟨low, 0, none⟩))]) 2 #[.iface 101 (.pointer (some ⟨low + 1, 0, none⟩))] }
theorem num_met (os : Os) : laidMet Tryd.prog Rows.fnExactParseIntRow.laid ((numWorld os).forCall (fun _ _ => 0) ⟨#[], #[.string ⟨#[]⟩], []⟩).memory :=
  laidMet_of_run' 8 (by kernel_rfl) (by kernel_rfl)
end Go.Proofs.YtbahiaeppagncaaDoor
