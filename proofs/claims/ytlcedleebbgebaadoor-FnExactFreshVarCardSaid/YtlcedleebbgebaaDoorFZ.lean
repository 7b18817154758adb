/-
  Merged by program: Frs.
-/
import Derived.Test.YtlcedleebbgebaaDoorF18
import Derived.Test.YtlcedleebbgebaaDoorF19
import Derived.Test.YtlcedleebbgebaaDoorF20
import Derived.Test.YtlcedleebbgebaaDoorCards
import Derived.Test.YtlcedleebbgebaaDoorTie
import Derived.Deep.DeepHandedRow
import Derived.Lib.LaidTab

/-
  laws.FnExactFreshVar: for every list of strings whose size lies within the law's own bound (beyond it the law says true), the program's FreshVar answers as the model's and leaves its argument as it was. The row lists three tables of Go's library, and the card ties them to the program's text. No condition.
-/
namespace Go.Proofs.YtlcedleebbgebaaDoor
open Go.ChangeShapes Go.WideShapes Go.ChangeAt Go.RowKit

theorem frsOwn : ownKnob Tryd.prog.godebug = none := by kernel_rfl
theorem frsLaid : laidOutB Tryd.prog = true := by kernel_rfl
theorem frsRead : ∀ t ∈ Tryd.f3.params.toList, Tryd.prog.readableRec t = true ∧ t < Tryd.prog.types.size := by
  rw [Tryd.params3]
  intro t ht
  simp only [List.mem_cons, List.not_mem_nil, or_false] at ht
  subst ht
  exact ⟨by kernel_rfl, of_decide_eq_true (by kernel_rfl)⟩

/-- the cells of a block, turned -/
def putCells (h : Array Obj) (g : Nat) (cs : Array Value) : Array Obj := h.modify g fun | .cells _ t fr => .cells cs t fr | o => o
/-- the cells that a table's datum spells -/
def cellsOfData : DataW Unit → Array Value
  | .agg l => (l.map fun | .lit (.int k n) => Value.int k n | _ => undef).toArray
  | _ => #[]
/-- a world for the witness: the settled one, with the three tables -/
noncomputable def frsWorld (os : Os) : World :=
  { World.holding Tryd.prog os ⟨#[], #[], []⟩ with heap := putCells (putCells (putCells (World.holding Tryd.prog os ⟨#[], #[], []⟩).heap 0 (cellsOfData Rows.laid_internal_strconv_uint64pow10)) 1 (cellsOfData Rows.laid_math_bits_deBruijn32tab)) 2 (cellsOfData Rows.laid_math_bits_deBruijn64tab) }
theorem frs_met (os : Os) : laidMet Tryd.prog Rows.fnExactFreshVarRow.laid ((frsWorld os).forCall (fun _ _ => 0) ⟨#[], #[.slice none 0 0], []⟩).memory :=
  laidMet_of_run' 8 (by kernel_rfl) (by kernel_rfl)
theorem frs_reads (os : Os) {H : Type} (enc : TypeId × Value → H) : ∃ places, DataW.whole enc Tryd.prog ((frsWorld os).forCall (fun _ _ => 0) ⟨#[], #[.slice none 0 0], []⟩).memory Tryd.f3.params.toList Rows.fnExactFreshVarSpec.vars false #[Value.slice none 0 0].toList 8 = some ([.nil], [], places) :=
  ⟨[], by kernel_rfl⟩

set_option maxRecDepth 100000 in
theorem frs_lifted (os : Os) (started : os.Started) (H : Type) (enc : TypeId × Value → H) (F : Stop.Interp) :
    ReturnsInHanded {} Tryd.checked os 3 .any ((OpenSpec.ofChange Rows.fnExactFreshVarSpec).preRow enc Tryd.prog Tryd.f3 Rows.fnExactFreshVarRow.domain false Rows.fnExactFreshVarRow.laid) (((OpenSpec.ofChange Rows.fnExactFreshVarSpec).at F).post enc Tryd.prog Tryd.f3 false true false false) := by
  obtain ⟨places, hx⟩ := frs_reads os enc
  refine returnsInHanded_of_row (C := Tryd.checked) (s := OpenSpec.ofChange Rows.fnExactFreshVarSpec) frsOwn started (by kernel_rfl) Tryd.func3
    (witness_row_at (enc := enc) (C := Tryd.checked) false (frsWorld os) #[.slice none 0 0] rfl (by kernel_rfl) (by kernel_rfl) (by kernel_rfl)
      (OpenSpec.preRow_of_cond 8 hx (by kernel_rfl) (fun k hk => by cases hk) (by kernel_rfl) (frs_met os))) ?_
  intro W base args ds gs before hval0 hW _ _ _ hL _ _
  have hval : ∀ (j : Nat) t v, Tryd.f3.params[j]? = some t → args[j]? = some v → Value.okWide Tryd.prog W .any base t v := hval0
  have hW' := hW
  obtain ⟨p, q, hA0, hV, rfl, _, _⟩ := hW
  have hA : DataW.TrodAll enc Tryd.prog W 0 (fun _ => true) true Tryd.f3.params.toList args.toList ds p := hA0
  rw [Tryd.params3] at hA hval
  obtain ⟨v0, vs0, d0, ds0, p0, q0, hargs, rfl, rfl, h0, r0⟩ := trodAll_cons hA
  obtain ⟨rfl, rfl, rfl⟩ := trodAll_nil r0
  obtain rfl : args = #[v0] := by cases args; simp_all
  obtain ⟨rfl, rfl⟩ := trodVars_none hV
  obtain ⟨A0, c0, xs0, rfl, hn0, hx0, hs0⟩ := open_list (hval 0 22 v0 rfl rfl) h0
  have htab := pow_of_laid (laidMet_tail (laidMet_tail (show laidMet Tryd.prog Rows.fnExactFreshVarRow.laid W from hL)))
  refine (frs_law A0 c0 xs0 W hs0 hn0 hx0 (fun x h => by have := hx0 x h; unfold maxLen; omega) ⟨htab, World.block_lt_of_cell? W _ (htab.cell gPow 0 (by rw [Lib.pow10Tab_length]; omega))⟩).mono fun e W' ⟨he, hb⟩ => ?_
  subst he
  exact ⟨_, rfl, law_post frsLaid frsRead rfl Tryd.underlying4 rfl ⟨rfl, rfl, rfl⟩ hW' hb⟩

theorem frs_said : Rows.FnExactFreshVarSaid :=
  OpenClaim.holds_of_cond 3 Tryd.f3 rfl rfl rfl rfl rfl rfl rfl ⟨rfl, rfl, rfl, rfl, rfl⟩ rfl rfl rfl rfl rfl (by kernel_rfl) Tryd.func3 (by kernel_rfl)
    (of_decide_eq_true (by kernel_rfl)) (by unfold Func.isWrapper; first | (rw [if_pos (by decide +kernel)]; kernel_rfl) | (rw [if_neg (by decide +kernel)]; exact ⟨rfl, rfl⟩))
    (fun os started H enc _ F => by rw [OpenClaim.pre_eq_preRow]; exact frs_lifted os started H enc F)

theorem frs_plain (f : FuncId) (fn : Func) (hf : Tryd.pinned.checked.prog.funcNamed "loop.example/g00587/laws.FnExactFreshVar" = some f) (hfn : Tryd.pinned.checked.prog.funcs[f]? = some fn) :
    false = Tryd.pinned.checked.prog.looks [] ∧ ∀ (j : Nat) t, fn.params[j]? = some t → Tryd.pinned.checked.prog.wantsStandIn t = false := by
  obtain rfl : f = 3 := Option.some.inj ((show Tryd.prog.funcNamed "loop.example/g00587/laws.FnExactFreshVar" = some 3 by kernel_rfl).symm.trans hf) |>.symm
  obtain rfl : fn = Tryd.f3 := (Option.some.inj (Tryd.func3.symm.trans hfn)).symm
  refine ⟨by kernel_rfl, fun j t ht => ?_⟩
  rw [Tryd.params3] at ht
  obtain rfl : t = 22 := by simpa using Array.mem_of_getElem? ht
  exact (show Tryd.prog.wantsStandIn 22 = false by kernel_rfl)

theorem frs_card : Rows.FnExactFreshVarCardSaid :=
  Claim7.holds_tied_plain_at .later [] _ _ _ _ frs_said (fun _ h => by cases h) (by kernel_rfl) (fun _ h => by cases h) fnExactFreshVar_row_tie rfl ⟨rfl, rfl⟩ (by kernel_rfl) rfl frs_plain (by kernel_rfl)
end Go.Proofs.YtlcedleebbgebaaDoor
