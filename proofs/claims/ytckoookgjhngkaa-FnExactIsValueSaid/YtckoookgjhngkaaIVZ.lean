/-
  Merged by program: Isv.
-/
import Derived.Test.YtckoookgjhngkaaIV43
import Derived.Test.YtckoookgjhngkaaIV45
import Derived.Test.YtckoookgjhngkaaIV46
import Derived.Test.YtckoookgjhngkaaIV47
import Derived.Test.YtckoookgjhngkaaRows

/-
  laws.FnExactIsValue: for every value whose size and labels lie within the law's own bound (beyond it the law says true), the program's IsValue answers as the model's and leaves its argument as it was. No condition.
-/
namespace Go.Proofs.Ytckoookgjhngkaa
open Go.ChangeShapes Go.WideShapes Go.ChangeAt Go.RowKit

theorem isv_read : ∀ t ∈ Try.f3.params.toList, Try.prog.readableRec t = true ∧ t < Try.prog.types.size := by
  rw [Try.params3]
  intro t ht
  simp only [List.mem_cons, List.not_mem_nil, or_false] at ht
  rcases ht with rfl
  · exact ⟨by kernel_rfl, of_decide_eq_true (by kernel_rfl)⟩

set_option maxRecDepth 100000 in
theorem isv_lifted (os : Os) (started : os.Started) (H : Type) (enc : TypeId × Value → H) :
    ReturnsInHanded {} Try.checked os 3 .any (Rows.fnExactIsValueSpec.pre6 enc Try.prog Try.f3 Rows.fnExactIsValueRow.domain false) (Rows.fnExactIsValueSpec.post enc Try.prog Try.f3 false true false false) := by
  refine returnsInHanded_of_change (C := Try.checked) own0 started (by kernel_rfl) Try.func3
    (ChangeSpec.witness6 (enc := enc) (C := Try.checked) false ⟨#[], #[.agg #[.int .i64 0, .int .i64 0, .slice none 0 0, .slice none 0 0]], []⟩ 8 (by kernel_rfl) (by kernel_rfl) (by kernel_rfl) (by kernel_rfl)) ?_
  intro W base args ds gs before hval0 hW _ _
  have hval : ∀ (j : Nat) t v, Try.f3.params[j]? = some t → args[j]? = some v → Value.okWide Try.prog W .any base t v := hval0
  have hW' := hW
  obtain ⟨p, q, hA0, hV, rfl, _, _⟩ := hW
  have hA : DataW.TrodAll enc Try.prog W 0 (fun _ => true) true Try.f3.params.toList args.toList ds p := hA0
  rw [Try.params3] at hA hval
  obtain ⟨v0, d0, rfl, rfl, h0⟩ := trodAll_one hA
  obtain ⟨rfl, rfl⟩ := trodVars_none hV
  obtain ⟨t0, cs0, rfl, hr0⟩ := open_va (hval 0 25 v0 rfl rfl) h0
  have walk : Calls Try.prog 3 #[.agg cs0.toArray] W (LawYes W) := isv_law t0 cs0 W hr0
  refine walk.mono fun e W' ⟨he, hb⟩ => ?_
  subst he
  exact ⟨_, rfl, law_post laid0 isv_read rfl Try.underlying4 rfl ⟨rfl, rfl, rfl⟩ hW' hb⟩

theorem isv_holds : Rows.FnExactIsValueSaid :=
  OpenClaim.holds_of_wide 3 Try.f3 rfl rfl rfl rfl rfl rfl rfl ⟨rfl, rfl, rfl, rfl, rfl⟩ rfl rfl rfl rfl rfl (by kernel_rfl) Try.func3 (by kernel_rfl)
    (of_decide_eq_true (by kernel_rfl)) (by unfold Func.isWrapper; first | (rw [if_pos (by decide +kernel)]; kernel_rfl) | (rw [if_neg (by decide +kernel)]; exact ⟨rfl, rfl⟩))
    (fun os started H enc _ => isv_lifted os started H enc)
end Go.Proofs.Ytckoookgjhngkaa
