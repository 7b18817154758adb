/-
  Merged by program: FmeC.
-/
import Derived.Test.YtkchjinfjggoeaaGreatDoorF44
import Derived.Test.YtkchjinfjggoeaaGreatDoorF45
import Derived.Test.YtkchjinfjggoeaaGreatDoorCards
import Derived.Test.YtkchjinfjggoeaaGreatDoorTie
import Derived.Deep.DeepHandedRow
import Derived.Lib.LaidTab
import Derived.OpenVars
import Derived.ChangeVars

/-
  laws.FnExactFormatTerm: for every term whose size lies within the law's own bound (beyond it the law says true), the program's FormatTerm answers as the model's and leaves its argument as it was. The row lists the program's table of arities and three tables of Go's library, and the card ties them to the program's text. No condition.
-/
namespace Go.Proofs.YtkchjinfjggoeaaGreatDoor
open Go.ChangeShapes Go.WideShapes Go.ChangeAt Go.RowKit

theorem fmeOwn : ownKnob Tryz.prog.godebug = none := by kernel_rfl
theorem fmeLaid : laidOutB Tryz.prog = true := by kernel_rfl
theorem fmeVars : varsRowed Tryz.prog Rows.fnExactFormatTermSpec.vars = true := by kernel_rfl
theorem fmeRead : ∀ t ∈ Tryz.f4.params.toList, Tryz.prog.readableRec t = true ∧ t < Tryz.prog.types.size := by
  rw [Tryz.params4]
  intro t ht
  simp only [List.mem_cons, List.not_mem_nil, or_false] at ht
  subst ht
  exact ⟨by kernel_rfl, of_decide_eq_true (by kernel_rfl)⟩

/-- a world for the witness: the settled one, with the table -/
noncomputable def fmeWorld (os : Os) : World :=
  { World.holding Tryz.prog os ⟨#[], #[], []⟩ with heap := putCells (putCells (putCells (putCells (World.holding Tryz.prog os ⟨#[], #[], []⟩).heap 2 (cellsOfData Rows.laid_internal_strconv_uint64pow10)) 5 (cellsOfData Rows.laid_math_bits_deBruijn32tab)) 6 (cellsOfData Rows.laid_math_bits_deBruijn64tab)) 0 (cellsOfData Rows.laid_loop_example_g00587_impl_termArities) }
theorem fme_met (os : Os) : laidMet Tryz.prog Rows.fnExactFormatTermRow.laid ((fmeWorld os).forCall (fun _ _ => 0) ⟨#[], #[.agg #[.int .i64 0, .string ⟨#[]⟩, .int .i64 0, .int .i64 0, .slice none 0 0, .slice none 0 0, .slice none 0 0, .slice none 0 0]], []⟩).memory :=
  laidMet_of_run' 8 (by kernel_rfl) (by kernel_rfl)
theorem fme_reads (os : Os) {H : Type} (enc : TypeId × Value → H) : ∃ places, DataW.whole enc Tryz.prog ((fmeWorld os).forCall (fun _ _ => 0) ⟨#[], #[.agg #[.int .i64 0, .string ⟨#[]⟩, .int .i64 0, .int .i64 0, .slice none 0 0, .slice none 0 0, .slice none 0 0, .slice none 0 0]], []⟩).memory Tryz.f4.params.toList Rows.fnExactFormatTermSpec.vars false #[Value.agg #[.int .i64 0, .string ⟨#[]⟩, .int .i64 0, .int .i64 0, .slice none 0 0, .slice none 0 0, .slice none 0 0, .slice none 0 0]].toList 8 = some ([.agg [.lit (.int .i64 0), .lit (.string []), .lit (.int .i64 0), .agg [.lit (.int .i64 0), .nil, .nil], .nil, .nil]], [Rows.laid_loop_example_g00587_impl_termArities], places) :=
  ⟨MemPlace.row ⟨0, 0, none⟩ 17 ++ [], by kernel_rfl⟩

set_option maxRecDepth 100000 in
theorem fme_lifted (os : Os) (started : os.Started) (H : Type) (enc : TypeId × Value → H) (F : Stop.Interp) :
    ReturnsInHanded {} Tryz.checked os 4 .any ((OpenSpec.ofChange Rows.fnExactFormatTermSpec).preRow enc Tryz.prog Tryz.f4 Rows.fnExactFormatTermRow.domain false Rows.fnExactFormatTermRow.laid) (((OpenSpec.ofChange Rows.fnExactFormatTermSpec).at F).post enc Tryz.prog Tryz.f4 false true false false) := by
  obtain ⟨places, hx⟩ := fme_reads os enc
  refine returnsInHanded_of_row (C := Tryz.checked) (s := OpenSpec.ofChange Rows.fnExactFormatTermSpec) fmeOwn started (by kernel_rfl) Tryz.func4
    (witness_row_at (enc := enc) (C := Tryz.checked) false (fmeWorld os) #[.agg #[.int .i64 0, .string ⟨#[]⟩, .int .i64 0, .int .i64 0, .slice none 0 0, .slice none 0 0, .slice none 0 0, .slice none 0 0]] rfl (by kernel_rfl) (by kernel_rfl) (by kernel_rfl)
      (OpenSpec.preRow_of_cond 8 hx (by kernel_rfl) (fun k hk => by cases hk) (by kernel_rfl) (fme_met os))) ?_
  intro W base args ds gs before hval0 hW _ _ _ hL _ _
  have hval : ∀ (j : Nat) t v, Tryz.f4.params[j]? = some t → args[j]? = some v → Value.okWide Tryz.prog W .any base t v := hval0
  have hW' := hW
  obtain ⟨p, q, hA0, hV, rfl, _, _⟩ := hW
  have hA : DataW.TrodAll enc Tryz.prog W 0 (fun _ => true) true Tryz.f4.params.toList args.toList ds p := hA0
  rw [Tryz.params4] at hA hval
  obtain ⟨v0, vs0, d0, ds0, p0, q0, hargs, rfl, rfl, h0, r0⟩ := trodAll_cons hA
  obtain ⟨rfl, rfl, rfl⟩ := trodAll_nil r0
  obtain rfl : args = #[v0] := by cases args; simp_all
  obtain ⟨g0, t1, cs1, f1, d1, p1, rfl, _⟩ := trodVars_one (show DataW.TrodVars enc Tryz.prog W (fun _ => true) ["loop.example/g00587/impl.termArities"] gs q from hV)
  obtain ⟨t0, cs0, rfl, hr0⟩ := open_te (hval 0 43 v0 rfl rfl) h0
  have hl2 := laidMet_tail (laidMet_tail (show laidMet Tryz.prog Rows.fnExactFormatTermRow.laid W from hL))
  have htab := pow_of_laid hl2
  have har := ar_of_laid (laidMet_tail hl2)
  refine (fme_law t0 cs0 W hr0 ⟨htab, World.block_lt_of_cell? W _ (htab.cell gPow 0 (by rw [Lib.pow10Tab_length]; omega))⟩ ⟨har, World.block_lt_of_cell? W _ (har.cell gAr 0 (by decide))⟩).mono fun e W' ⟨he, hb⟩ => ?_
  subst he
  exact ⟨_, rfl, law_postV fmeLaid fmeRead rfl Tryz.underlying4 fmeVars ⟨rfl, rfl, rfl⟩ hW' hb⟩

theorem fme_said : Rows.FnExactFormatTermSaid :=
  OpenClaim.holds_of_cond 4 Tryz.f4 rfl rfl rfl rfl rfl rfl rfl ⟨rfl, rfl, rfl, rfl, rfl⟩ rfl rfl rfl rfl rfl (by kernel_rfl) Tryz.func4 (by kernel_rfl)
    (of_decide_eq_true (by kernel_rfl)) (by unfold Func.isWrapper; first | (rw [if_pos (by decide +kernel)]; kernel_rfl) | (rw [if_neg (by decide +kernel)]; exact ⟨rfl, rfl⟩))
    (fun os started H enc _ F => by rw [OpenClaim.pre_eq_preRow]; exact fme_lifted os started H enc F)

theorem fme_plain (f : FuncId) (fn : Func) (hf : Tryz.pinned.checked.prog.funcNamed "loop.example/g00587/laws.FnExactFormatTerm" = some f) (hfn : Tryz.pinned.checked.prog.funcs[f]? = some fn) :
    true = Tryz.pinned.checked.prog.looks [] ∧ ∀ (j : Nat) t, fn.params[j]? = some t → Tryz.pinned.checked.prog.wantsStandIn t = false := by
  obtain rfl : f = 4 := Option.some.inj ((show Tryz.prog.funcNamed "loop.example/g00587/laws.FnExactFormatTerm" = some 4 by kernel_rfl).symm.trans hf) |>.symm
  obtain rfl : fn = Tryz.f4 := (Option.some.inj (Tryz.func4.symm.trans hfn)).symm
  refine ⟨by kernel_rfl, fun j t ht => ?_⟩
  rw [Tryz.params4] at ht
  obtain rfl : t = 43 := by simpa using Array.mem_of_getElem? ht
  exact (show Tryz.prog.wantsStandIn 43 = false by kernel_rfl)

theorem fme_card : Rows.FnExactFormatTermCardSaid :=
  Claim7.holds_tied_plain_at .later [] _ _ _ _ fme_said (fun _ h => by cases h) (by kernel_rfl) (fun _ h => by cases h) fnExactFormatTerm_row_tie rfl ⟨rfl, rfl⟩ (by kernel_rfl) rfl fme_plain (by kernel_rfl)
end Go.Proofs.YtkchjinfjggoeaaGreatDoor
