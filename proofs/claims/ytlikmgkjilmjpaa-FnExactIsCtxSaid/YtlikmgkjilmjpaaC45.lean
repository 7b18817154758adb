/-
  Merged by program: KdOpen, ScOpen, TgOpen, Open.
-/
import Derived.Test.YtlikmgkjilmjpaaC10
import Derived.Test.YtlikmgkjilmjpaaC44
import Derived.Test.YtlikmgkjilmjpaaC22
import Derived.Test.YtlikmgkjilmjpaaC18
import Derived.Test.YtlikmgkjilmjpaaC29
import Derived.Test.YtlikmgkjilmjpaaC1
import Derived.Test.YtlikmgkjilmjpaaProg
import Derived.ProofKit
import Derived.OpenShut
import Derived.SliceStrings
import Derived.ChangeMaps5

/-
  What came in, read as a datum of a kind.
-/
namespace Go.Proofs.Ytlikmgkjilmjpaa
open Go.ChangeShapes Go.WideShapes Go.ChangeAt Go.RowKit

/-- what is read at the type T is a datum of the kind a -/
def ReadK {α : Type} (a : Kd α) (T : TypeId) : Prop :=
  Try.prog.cellsOf T = a.n ∧ ∀ (H : Type) (enc : TypeId × Value → H) (W : World) (n : Nat) (cs : List Value) (x : DataW H × List MemPlace), DataW.trod enc Try.prog W 0 (fun _ => true) true n T cs = some x → ∃ t, a.R W t cs

set_option maxRecDepth 100000 in
theorem readK_list {α : Type} (z : α) {a : Kd α} {T S : TypeId} (e : TypeId) (hu : Try.prog.underlying S = some (.slice T)) (hc : Try.prog.cellsOf S = 1) (h : ReadK a T) : ReadK (a.list e) S := by
  refine ⟨hc, fun H enc W n cs x hx => ?_⟩
  rcases DataW.trod_slice hu hx with ⟨rfl, _⟩ | ⟨A, len, cap, elems, rest, n2, _, rfl, _, _, hl, hm, hel, hcell, _, _⟩
  · exact ⟨[], none, 0, rfl, by simp, by simp, rl_nil a W none⟩
  · have hall : ∀ i, ∃ p : α × List Value, i < len → a.R W p.1 p.2 ∧ ∀ j u, p.2[j]? = some u → W.cell? (A.add (i * a.n + j)) = some u := by
      intro i
      by_cases hi : i < len
      · have hq := hcell i hi
        rw [h.1, List.getElem?_eq_getElem (by omega)] at hq
        obtain ⟨ds, hd, ht⟩ := Option.bind_eq_some_iff.1 hq
        obtain ⟨t, ht⟩ := h.2 _ _ _ _ _ _ ht
        obtain ⟨_, hdl, hat⟩ := World.cells?_some hd
        refine ⟨(t, ds), fun _ => ⟨ht, fun j u hj => ?_⟩⟩
        have hjn : j < a.n := by rw [← hdl]; exact (List.getElem?_eq_some_iff.1 hj).1
        rw [← Go.Deep.add_add, hat j hjn]
        exact hj
      · exact ⟨(z, []), fun h => absurd h hi⟩
    obtain ⟨f, hf⟩ := Classical.skolem.1 hall
    have hkl : ((List.range len).map fun i => (f i).1).length = len := by simp
    refine ⟨(List.range len).map fun i => (f i).1, some A, cap, by rw [hkl], by rw [hkl]; unfold maxLen at hm; omega, by rw [hkl]; exact hl, fun i => (f i).2, fun j t hj => ?_⟩
    rw [List.getElem?_map] at hj
    obtain ⟨i, hi, rfl⟩ := Option.map_eq_some_iff.1 hj
    have hjl : j < len := by have := (List.getElem?_eq_some_iff.1 hi).1; simpa using this
    have hij : i = j := by rw [List.getElem?_range hjl] at hi; injection hi with hi; exact hi.symm
    subst hij
    exact ⟨(hf i hjl).1, A, rfl, (hf i hjl).2⟩
theorem readK_str {T : TypeId} (hu : Try.prog.underlying T = some .string) (hc : Try.prog.cellsOf T = 1) : ReadK kStr T := by
  refine ⟨hc, fun H enc W n cs x hx => ?_⟩
  obtain ⟨s, rfl, _, hw⟩ := DataW.trod_string hu hx
  exact ⟨s, rfl, by simpa [Lit.wf, maxLen] using hw⟩
theorem readK_int {T : TypeId} (hu : Try.prog.underlying T = some (.int .i64)) (hc : Try.prog.cellsOf T = 1) : ReadK kInt T := by
  refine ⟨hc, fun H enc W n cs x hx => ?_⟩
  obtain ⟨k, rfl, _, wk⟩ := DataW.trod_int hu hx
  exact ⟨k, rfl, by simpa [Lit.wf, IntKind.min, IntKind.max, IntKind.signed, IntKind.bits] using wk⟩
/-- a struct of one field -/
theorem readK_one {α : Type} {a : Kd α} {T : TypeId} {f : Field} (hu : Try.prog.underlying T = some (.struct #[f])) (hc : Try.prog.cellsOf T = a.n) (h0 : f.offset = 0) (h : ReadK a f.type) : ReadK a T := by
  refine ⟨hc, fun H enc W n cs x hx => ?_⟩
  obtain ⟨y0, n2, _, hlen, hf⟩ := trod_struct1 hu hx
  rw [h0, h.1, List.drop_zero, List.take_of_length_le (by omega)] at hf
  exact h.2 _ _ _ _ _ _ hf
/-- a struct of two fields -/
theorem readK_two {α β : Type} {a : Kd α} {b : Kd β} {T : TypeId} {f g : Field} (hu : Try.prog.underlying T = some (.struct #[f, g])) (hc : Try.prog.cellsOf T = a.n + b.n) (h0 : f.offset = 0) (h1 : g.offset = a.n) (ha : ReadK a f.type) (hb : ReadK b g.type) : ReadK (a.prod b) T := by
  refine ⟨hc, fun H enc W n cs x hx => ?_⟩
  obtain ⟨y0, y1, n2, _, hlen, hf, hg⟩ := trod_struct2 hu hx
  rw [h0, ha.1, List.drop_zero] at hf
  rw [h1, hb.1, List.take_of_length_le (by rw [List.length_drop]; omega)] at hg
  obtain ⟨t, ht⟩ := ha.2 _ _ _ _ _ _ hf
  obtain ⟨u, hu⟩ := hb.2 _ _ _ _ _ _ hg
  exact ⟨(t, u), _, _, (List.take_append_drop a.n cs).symm, ht, hu⟩
/-- a struct of three fields -/
theorem readK_three {α β γ : Type} {a : Kd α} {b : Kd β} {c : Kd γ} {T : TypeId} {f g k : Field} (hu : Try.prog.underlying T = some (.struct #[f, g, k])) (hc : Try.prog.cellsOf T = a.n + (b.n + c.n)) (h0 : f.offset = 0) (h1 : g.offset = a.n) (h2 : k.offset = a.n + b.n)
    (ha : ReadK a f.type) (hb : ReadK b g.type) (hk : ReadK c k.type) : ReadK (a.prod (b.prod c)) T := by
  refine ⟨hc, fun H enc W n cs x hx => ?_⟩
  obtain ⟨y0, y1, y2, n2, _, hlen, hf, hg, hq⟩ := Go.Deep.trod_struct3 hu hx
  rw [h0, ha.1, List.drop_zero] at hf
  rw [h1, hb.1] at hg
  rw [h2, hk.1, List.take_of_length_le (by rw [List.length_drop]; omega)] at hq
  obtain ⟨t, ht⟩ := ha.2 _ _ _ _ _ _ hf
  obtain ⟨u, hu⟩ := hb.2 _ _ _ _ _ _ hg
  obtain ⟨v, hv⟩ := hk.2 _ _ _ _ _ _ hq
  refine ⟨(t, u, v), _, _, (List.take_append_drop a.n cs).symm, ht, _, _, ?_, hu, hv⟩
  rw [← List.drop_drop, List.take_append_drop]
theorem readK_ty : ReadK kTy 36 := ⟨cellsTy, fun _ _ _ n cs x h => read_ty n cs x h⟩
theorem readK_va : ReadK kVa 25 := ⟨cellsVa, fun _ _ _ n cs x h => read_va n cs x h⟩
set_option maxRecDepth 100000 in
/-- an argument that is a struct -/
theorem open_kd {α : Type} {a : Kd α} {T : TypeId} {fs : Array Field} {H : Type} {enc : TypeId × Value → H} {W : World} {r : Reach} {b0 : Nat} {v : Value} {d : DataW H} {ps : List MemPlace} (hu : Try.prog.underlying T = some (.struct fs)) (h : ReadK a T)
    (hval : Value.okWide Try.prog W r b0 T v) (hd : DataW.Trod enc Try.prog W 0 (fun _ => true) true T v d ps) : ∃ (t : α) (cs : List Value), v = .agg cs.toArray ∧ a.R W t cs := by
  obtain ⟨cs, rfl, hsz⟩ := okWide_struct hu hval
  obtain ⟨fuel, hf⟩ := hd
  obtain ⟨t, ht⟩ := h.2 _ _ _ _ _ _ hf
  exact ⟨t, _, rfl, ht⟩
end Go.Proofs.Ytlikmgkjilmjpaa

/-
  A schema that came in.
-/
namespace Go.Proofs.Ytlikmgkjilmjpaa
open Go.ChangeShapes Go.WideShapes Go.ChangeAt Go.RowKit

end Go.Proofs.Ytlikmgkjilmjpaa

/-
  A context that came in.
-/
namespace Go.Proofs.Ytlikmgkjilmjpaa
open Go.ChangeShapes Go.WideShapes Go.ChangeAt Go.RowKit

theorem readK_tg : ReadK kTg 86 := readK_two Try.underlying86 (by kernel_rfl) rfl rfl (readK_str Try.underlying9 cellsStr1) readK_ty
theorem readK_tgs : ReadK (kTg.list 89) 49 := readK_list (⟨#[]⟩, .node ⟨0, []⟩ []) _ Try.underlying49 (by kernel_rfl) readK_tg
set_option maxRecDepth 100000 in
/-- an argument of the laws' own type -/
theorem open_tgs {H : Type} {enc : TypeId × Value → H} {W : World} {r : Reach} {b0 : Nat} {v : Value} {d : DataW H} {ps : List MemPlace} (hval : Value.okWide Try.prog W r b0 49 v) (hd : DataW.Trod enc Try.prog W 0 (fun _ => true) true 49 v d ps) :
    ∃ (A : Option Addr) (c : Nat) (t : Cx), v = .slice A t.length c ∧ t.length ≤ 9223372036854775807 ∧ RL kTg W A t := by
  obtain ⟨A, len, cap, rfl⟩ := okWide_slice Try.underlying49 hval
  obtain ⟨fuel, hf⟩ := hd
  obtain ⟨t, A', d', h1, h2, h3, h4⟩ := readK_tgs.2 _ _ _ _ _ _ hf
  simp [Value.cells] at h1
  obtain ⟨rfl, rfl, rfl⟩ := h1
  exact ⟨A, cap, t, rfl, h2, h4⟩
end Go.Proofs.Ytlikmgkjilmjpaa

/-
  A slice of strings that came in, read as data: a list of texts.
-/
namespace Go.Proofs.Ytlikmgkjilmjpaa
open Go.ChangeShapes Go.WideShapes Go.ChangeAt Go.RowKit

theorem cellsStr : Try.prog.cellsOf 9 = 1 := by kernel_rfl
set_option maxRecDepth 100000 in
theorem open_list {H : Type} {enc : TypeId × Value → H} {W : World} {r : Reach} {b0 : Nat} {v : Value} {d : DataW H} {ps : List MemPlace} (hval : Value.okWide Try.prog W r b0 22 v) (hd : DataW.Trod enc Try.prog W 0 (fun _ => true) true 22 v d ps) :
    ∃ (A : Option Addr) (cap : Nat) (xs : List ByteArray), v = .slice A xs.length cap ∧ xs.length ≤ 9223372036854775807 ∧ (∀ x ∈ xs, x.size ≤ 9223372036854775807) ∧ Sl W A (xs.map Value.string) := by
  obtain ⟨A, len, cap, rfl⟩ := okWide_slice Try.underlying22 hval
  obtain ⟨fuel, hf⟩ := hd
  rcases open_strings Try.underlying22 Try.underlying9 cellsStr hf with ⟨hcs, _⟩ | ⟨a, len', cap', ss, hcs, _, hl, hm, hz, _, hcell, hss⟩
  · simp [Value.cells] at hcs
    obtain ⟨rfl, rfl, rfl⟩ := hcs
    exact ⟨none, 0, [], rfl, by simp, by simp, fun j u hj => by simp at hj⟩
  · simp [Value.cells] at hcs
    obtain ⟨rfl, rfl, rfl⟩ := hcs
    simp only [if_true] at hz
    have hlen : (ss.take len).length = len := by rw [List.length_take]; omega
    refine ⟨some a, cap, ss.take len, by rw [hlen], by rw [hlen]; unfold maxLen at hm; omega, fun x hx => by have := hss x (List.mem_of_mem_take hx); unfold maxLen at this; omega, fun j u hj => ?_⟩
    rw [List.getElem?_map, List.getElem?_take] at hj
    split at hj
    · obtain ⟨x, hx, rfl⟩ := Option.map_eq_some_iff.1 hj
      have hjl : j < ss.length := (List.getElem?_eq_some_iff.1 hx).1
      refine ⟨a, rfl, ?_⟩
      rw [hcell j hjl]
      simp [List.getD, hx]
    · simp at hj
theorem own0 : ownKnob Try.prog.godebug = none := by kernel_rfl
theorem laid0 : laidOutB Try.prog = true := by kernel_rfl
end Go.Proofs.Ytlikmgkjilmjpaa
