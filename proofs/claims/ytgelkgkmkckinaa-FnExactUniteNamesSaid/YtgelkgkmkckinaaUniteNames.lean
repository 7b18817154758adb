/-
  laws.FnExactUniteNames: for every two lists of strings the program's UniteNames answers as the model's, leaves the lists as they were, and its answer lies in memory of its own. No condition.
-/
import Derived.Test.YtgelkgkmkckinaaUniteLaw
import Derived.Test.YtgelkgkmkckinaaOpen
import Derived.Test.YtgelkgkmkckinaaClose
import Derived.Test.YtgelkgkmkckinaaRows
namespace Go.Proofs.Ytgelkgkmkckinaa
open Go.ChangeShapes Go.WideShapes Go.ChangeAt Go.RowKit

theorem uni_read : ∀ t ∈ Try.f7.params.toList, Try.prog.readableRec t = true ∧ t < Try.prog.types.size := by
  rw [Try.params7]
  intro t ht
  simp only [List.mem_cons, List.not_mem_nil, or_false] at ht
  rcases ht with rfl | rfl
  · exact ⟨by kernel_rfl, of_decide_eq_true (by kernel_rfl)⟩
  · exact ⟨by kernel_rfl, of_decide_eq_true (by kernel_rfl)⟩

set_option maxRecDepth 100000 in
theorem uni_lifted (os : Os) (started : os.Started) (H : Type) (enc : TypeId × Value → H) :
    ReturnsInHanded {} Try.checked os 7 .any (Rows.fnExactUniteNamesSpec.pre6 enc Try.prog Try.f7 Rows.fnExactUniteNamesRow.domain false) (Rows.fnExactUniteNamesSpec.post enc Try.prog Try.f7 false true false false) := by
  refine returnsInHanded_of_change (C := Try.checked) own0 started (by kernel_rfl) Try.func7
    (ChangeSpec.witness6 (enc := enc) (C := Try.checked) false ⟨#[], #[.slice none 0 0, .slice none 0 0], []⟩ 8 (by kernel_rfl) (by kernel_rfl) (by kernel_rfl) (by kernel_rfl)) ?_
  intro W base args ds gs before hval0 hW _ _
  have hval : ∀ (j : Nat) t v, Try.f7.params[j]? = some t → args[j]? = some v → Value.okWide Try.prog W .any base t v := hval0
  have hW' := hW
  obtain ⟨p, q, hA0, hV, rfl, _, _⟩ := hW
  have hA : DataW.TrodAll enc Try.prog W 0 (fun _ => true) true Try.f7.params.toList args.toList ds p := hA0
  rw [Try.params7] at hA hval
  obtain ⟨v0, v1, d0, d1, p0, p1, rfl, rfl, rfl, h0, h1⟩ := trodAll_two hA
  obtain ⟨rfl, rfl⟩ := trodVars_none hV
  obtain ⟨A0, c0, xs0, rfl, hn0, hx0, hs0⟩ := open_list (hval 0 24 v0 rfl rfl) h0
  obtain ⟨A1, c1, xs1, rfl, hn1, hx1, hs1⟩ := open_list (hval 1 24 v1 rfl rfl) h1
  have walk : Calls Try.prog 7 #[.slice A0 xs0.length c0, .slice A1 xs1.length c1] W (LawYes W) := unite_law A0 c0 xs0 A1 c1 xs1 W hs0 hn0 hx0 hs1 hn1 hx1
  refine walk.mono fun e W' ⟨he, hb⟩ => ?_
  subst he
  exact ⟨_, rfl, law_post laid0 uni_read rfl Try.underlying4 rfl ⟨rfl, rfl, rfl⟩ hW' hb⟩

theorem uni_holds : Rows.FnExactUniteNamesSaid :=
  OpenClaim.holds_of_wide 7 Try.f7 rfl rfl rfl rfl rfl rfl rfl ⟨rfl, rfl, rfl, rfl, rfl⟩ rfl rfl rfl rfl rfl (by kernel_rfl) Try.func7 (by kernel_rfl)
    (of_decide_eq_true (by kernel_rfl)) (by unfold Func.isWrapper; first | (rw [if_pos (by decide +kernel)]; kernel_rfl) | (rw [if_neg (by decide +kernel)]; exact ⟨rfl, rfl⟩))
    (fun os started H enc _ => uni_lifted os started H enc)
end Go.Proofs.Ytgelkgkmkckinaa
