/-
  Merged by program: Fmv.
-/
import Derived.Test.YtckoookgjhngkaaDoorFV43
import Derived.Test.YtckoookgjhngkaaDoorFV44
import Derived.Test.YtckoookgjhngkaaDoorFV45
import Derived.Test.YtckoookgjhngkaaDoorCards
import Derived.Test.YtckoookgjhngkaaDoorTie
import Derived.Deep.DeepHandedRow
import Derived.Lib.LaidTab

/-
  laws.FnExactFormatValue: for every value whose size and labels lie within the law's own bound (beyond it the law says true), the program's FormatValue answers as the model's and leaves its argument as it was. The row lists three tables of Go's library, and the card ties them to the program's text. No condition.
-/
namespace Go.Proofs.YtckoookgjhngkaaDoor
open Go.ChangeShapes Go.WideShapes Go.ChangeAt Go.RowKit

theorem fmvOwn : ownKnob Tryd.prog.godebug = none := by kernel_rfl
theorem fmvLaid : laidOutB Tryd.prog = true := by kernel_rfl
theorem fmvRead : ∀ t ∈ Tryd.f3.params.toList, Tryd.prog.readableRec t = true ∧ t < Tryd.prog.types.size := by
  rw [Tryd.params3]
  intro t ht
  simp only [List.mem_cons, List.not_mem_nil, or_false] at ht
  subst ht
  exact ⟨by kernel_rfl, of_decide_eq_true (by kernel_rfl)⟩

/-- the cells of a block, turned -/
def putCells (h : Array Obj) (g : Nat) (cs : Array Value) : Array Obj := h.modify g fun | .cells _ t fr => .cells cs t fr | o => o
/-- the cells that a table's datum spells -/
def cellsOfData : DataW Unit → Array Value
  | .agg l => (l.map fun | .lit (.int k n) => Value.int k n | _ => undef).toArray
  | _ => #[]
/-- a world for the witness: the settled one, with the three tables -/
noncomputable def fmvWorld (os : Os) : World :=
  { World.holding Tryd.prog os ⟨#[], #[], []⟩ with heap := putCells (putCells (putCells (World.holding Tryd.prog os ⟨#[], #[], []⟩).heap 0 (cellsOfData Rows.laid_internal_strconv_uint64pow10)) 2 (cellsOfData Rows.laid_math_bits_deBruijn32tab)) 3 (cellsOfData Rows.laid_math_bits_deBruijn64tab) }
theorem fmv_met (os : Os) : laidMet Tryd.prog Rows.fnExactFormatValueRow.laid ((fmvWorld os).forCall (fun _ _ => 0) ⟨#[], #[.agg #[.int .i64 0, .int .i64 0, .slice none 0 0, .slice none 0 0]], []⟩).memory :=
  laidMet_of_run' 8 (by kernel_rfl) (by kernel_rfl)
theorem fmv_reads (os : Os) {H : Type} (enc : TypeId × Value → H) : ∃ places, DataW.whole enc Tryd.prog ((fmvWorld os).forCall (fun _ _ => 0) ⟨#[], #[.agg #[.int .i64 0, .int .i64 0, .slice none 0 0, .slice none 0 0]], []⟩).memory Tryd.f3.params.toList Rows.fnExactFormatValueSpec.vars false #[Value.agg #[.int .i64 0, .int .i64 0, .slice none 0 0, .slice none 0 0]].toList 8 = some ([.agg [.lit (.int .i64 0), .lit (.int .i64 0), .nil, .nil]], [], places) :=
  ⟨[], by kernel_rfl⟩

set_option maxRecDepth 100000 in
theorem fmv_lifted (os : Os) (started : os.Started) (H : Type) (enc : TypeId × Value → H) (F : Stop.Interp) :
    ReturnsInHanded {} Tryd.checked os 3 .any ((OpenSpec.ofChange Rows.fnExactFormatValueSpec).preRow enc Tryd.prog Tryd.f3 Rows.fnExactFormatValueRow.domain false Rows.fnExactFormatValueRow.laid) (((OpenSpec.ofChange Rows.fnExactFormatValueSpec).at F).post enc Tryd.prog Tryd.f3 false true false false) := by
  obtain ⟨places, hx⟩ := fmv_reads os enc
  refine returnsInHanded_of_row (C := Tryd.checked) (s := OpenSpec.ofChange Rows.fnExactFormatValueSpec) fmvOwn started (by kernel_rfl) Tryd.func3
    (witness_row_at (enc := enc) (C := Tryd.checked) false (fmvWorld os) #[.agg #[.int .i64 0, .int .i64 0, .slice none 0 0, .slice none 0 0]] rfl (by kernel_rfl) (by kernel_rfl) (by kernel_rfl)
      (OpenSpec.preRow_of_cond 8 hx (by kernel_rfl) (fun k hk => by cases hk) (by kernel_rfl) (fmv_met os))) ?_
  intro W base args ds gs before hval0 hW _ _ _ hL _ _
  have hval : ∀ (j : Nat) t v, Tryd.f3.params[j]? = some t → args[j]? = some v → Value.okWide Tryd.prog W .any base t v := hval0
  have hW' := hW
  obtain ⟨p, q, hA0, hV, rfl, _, _⟩ := hW
  have hA : DataW.TrodAll enc Tryd.prog W 0 (fun _ => true) true Tryd.f3.params.toList args.toList ds p := hA0
  rw [Tryd.params3] at hA hval
  obtain ⟨v0, vs0, d0, ds0, p0, q0, hargs, rfl, rfl, h0, r0⟩ := trodAll_cons hA
  obtain ⟨rfl, rfl, rfl⟩ := trodAll_nil r0
  obtain rfl : args = #[v0] := by cases args; simp_all
  obtain ⟨rfl, rfl⟩ := trodVars_none hV
  obtain ⟨t0, cs0, rfl, hr0⟩ := open_va (hval 0 25 v0 rfl rfl) h0
  have htab := pow_of_laid (laidMet_tail (laidMet_tail (show laidMet Tryd.prog Rows.fnExactFormatValueRow.laid W from hL)))
  refine (fmv_law t0 cs0 W hr0 ⟨htab, World.block_lt_of_cell? W _ (htab.cell gPow 0 (by rw [Lib.pow10Tab_length]; omega))⟩).mono fun e W' ⟨he, hb⟩ => ?_
  subst he
  exact ⟨_, rfl, law_post fmvLaid fmvRead rfl Tryd.underlying4 rfl ⟨rfl, rfl, rfl⟩ hW' hb⟩

theorem fmv_said : Rows.FnExactFormatValueSaid :=
  OpenClaim.holds_of_cond 3 Tryd.f3 rfl rfl rfl rfl rfl rfl rfl ⟨rfl, rfl, rfl, rfl, rfl⟩ rfl rfl rfl rfl rfl (by kernel_rfl) Tryd.func3 (by kernel_rfl)
    (of_decide_eq_true (by kernel_rfl)) (by unfold Func.isWrapper; first | (rw [if_pos (by decide +kernel)]; kernel_rfl) | (rw [if_neg (by decide +kernel)]; exact ⟨rfl, rfl⟩))
    (fun os started H enc _ F => by rw [OpenClaim.pre_eq_preRow]; exact fmv_lifted os started H enc F)

theorem fmv_plain (f : FuncId) (fn : Func) (hf : Tryd.pinned.checked.prog.funcNamed "loop.example/g00587/laws.FnExactFormatValue" = some f) (hfn : Tryd.pinned.checked.prog.funcs[f]? = some fn) :
    false = Tryd.pinned.checked.prog.looks [] ∧ ∀ (j : Nat) t, fn.params[j]? = some t → Tryd.pinned.checked.prog.wantsStandIn t = false := by
  obtain rfl : f = 3 := Option.some.inj ((show Tryd.prog.funcNamed "loop.example/g00587/laws.FnExactFormatValue" = some 3 by kernel_rfl).symm.trans hf) |>.symm
  obtain rfl : fn = Tryd.f3 := (Option.some.inj (Tryd.func3.symm.trans hfn)).symm
  refine ⟨by kernel_rfl, fun j t ht => ?_⟩
  rw [Tryd.params3] at ht
  obtain rfl : t = 25 := by simpa using Array.mem_of_getElem? ht
  exact (show Tryd.prog.wantsStandIn 25 = false by kernel_rfl)

theorem fmv_card : Rows.FnExactFormatValueCardSaid :=
  Claim7.holds_tied_plain_at .later [] _ _ _ _ fmv_said (fun _ h => by cases h) (by kernel_rfl) (fun _ h => by cases h) fnExactFormatValue_row_tie rfl ⟨rfl, rfl⟩ (by kernel_rfl) rfl fmv_plain (by kernel_rfl)
end Go.Proofs.YtckoookgjhngkaaDoor
