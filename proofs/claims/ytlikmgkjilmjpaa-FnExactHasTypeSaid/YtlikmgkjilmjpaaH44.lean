/-
  Merged by program: TyOpen.
-/
import Derived.Test.YtlikmgkjilmjpaaH2
import Derived.ProofKit
import Derived.OpenShut
import Derived.SliceStrings
import Derived.ChangeMaps5
import Derived.Lib.SmallJoins

/-
  A type that came in, read as data: a tree.
-/
namespace Go.Proofs.Ytlikmgkjilmjpaa
open Go.ChangeShapes Go.WideShapes Go.ChangeAt Go.RowKit

theorem cellsTy : Try.prog.cellsOf 36 = 3 := by kernel_rfl
theorem cellsInt : Try.prog.cellsOf 3 = 1 := by kernel_rfl
theorem cellsStrs : Try.prog.cellsOf 22 = 1 := by kernel_rfl
theorem cellsTys : Try.prog.cellsOf 34 = 1 := by kernel_rfl
theorem cellsStr1 : Try.prog.cellsOf 9 = 1 := by kernel_rfl

/-- a slice of strings, told by its one cell -/
theorem read_labels {H : Type} {enc : TypeId × Value → H} {W : World} {n : Nat} {v : Value} {x : DataW H × List MemPlace} (h : DataW.trod enc Try.prog W 0 (fun _ => true) true n 22 [v] = some x) :
    ∃ (L : Option Addr) (c : Nat) (ls : List ByteArray), v = .slice L ls.length c ∧ ls.length ≤ 9223372036854775807 ∧ (∀ s ∈ ls, s.size ≤ 9223372036854775807) ∧ Sl W L (ls.map Value.string) := by
  rcases open_strings Try.underlying22 Try.underlying9 cellsStr1 h with ⟨hcs, _⟩ | ⟨a, len, cap, ss, hcs, _, hl, hm, hz, _, hcell, hss⟩
  · injection hcs with hcs
    exact ⟨none, 0, [], hcs, by simp, by simp, fun j u hj => by simp at hj⟩
  · injection hcs with hcs
    simp only [if_true] at hz
    have hlen : (ss.take len).length = len := by rw [List.length_take]; omega
    refine ⟨some a, cap, ss.take len, by rw [hlen, hcs], by rw [hlen]; unfold maxLen at hm; omega, fun x hx => by have := hss x (List.mem_of_mem_take hx); unfold maxLen at this; omega, fun j u hj => ?_⟩
    rw [List.getElem?_map, List.getElem?_take] at hj
    split at hj
    · obtain ⟨x, hx, rfl⟩ := Option.map_eq_some_iff.1 hj
      have hjl : j < ss.length := (List.getElem?_eq_some_iff.1 hx).1
      refine ⟨a, rfl, ?_⟩
      rw [hcell j hjl]
      simp [List.getD, hx]
    · simp at hj

set_option maxRecDepth 100000 in
theorem read_ty {H : Type} {enc : TypeId × Value → H} {W : World} : ∀ (n : Nat) (cs : List Value) (x : DataW H × List MemPlace), DataW.trod enc Try.prog W 0 (fun _ => true) true n 36 cs = some x → ∃ t : Ty, RTy W t cs := by
  intro n
  induction n using Nat.strongRecOn with
  | _ n ihn =>
    intro cs x h
    obtain ⟨xs, n1, rfl, _, hlen, hxl, hf⟩ := DataW.trod_struct Try.underlying36 h
    rw [cellsTy] at hlen
    match cs, hlen with
    | [c0, c1, c2], _ =>
      have hx3 : xs.length = 3 := hxl
      have h0 : DataW.trod enc Try.prog W 0 (fun _ => true) true n1 3 (([c0, c1, c2].drop 0).take (Try.prog.cellsOf 3)) = xs[0]? := hf 0 _ rfl
      have h1 : DataW.trod enc Try.prog W 0 (fun _ => true) true n1 22 (([c0, c1, c2].drop 1).take (Try.prog.cellsOf 22)) = xs[1]? := hf 1 _ rfl
      have h2 : DataW.trod enc Try.prog W 0 (fun _ => true) true n1 34 (([c0, c1, c2].drop 2).take (Try.prog.cellsOf 34)) = xs[2]? := hf 2 _ rfl
      rw [cellsInt, List.getElem?_eq_getElem (by omega)] at h0
      rw [cellsStrs, List.getElem?_eq_getElem (by omega)] at h1
      rw [cellsTys, List.getElem?_eq_getElem (by omega)] at h2
      simp only [List.drop, List.take] at h0 h1 h2
      obtain ⟨k, e0, _, wk⟩ := DataW.trod_int Try.underlying3 h0
      injection e0 with e0
      subst e0
      have hk : -9223372036854775808 ≤ k ∧ k ≤ 9223372036854775807 := by simpa [Lit.wf, IntKind.min, IntKind.max, IntKind.signed, IntKind.bits] using wk
      obtain ⟨L, c, ls, rfl, l1, l2, l3⟩ := read_labels h1
      rcases DataW.trod_slice Try.underlying34 h2 with ⟨e2, _⟩ | ⟨a, len, cap, elems, rest, n2, hn2, e2, _, _, hl, hm, hel, hcell, _, _⟩
      · injection e2 with e2
        subst e2
        have hr : Reads tyHead 3 W (.node ⟨k, ls⟩ []) ([.int .i64 k, .slice L ls.length c] ++ [.slice none ([] : List Ty).length 0]) :=
          .node _ _ _ none 0 (fun _ => []) ⟨L, c, rfl, l3, hk.1, hk.2, l1, l2⟩ rfl (by simp) (fun j hj => by simp at hj) (fun j t hj => by simp at hj) (by simp)
        exact ⟨_, hr⟩
      · injection e2 with e2
        subst e2
        have hall : ∀ i, ∃ p : Ty × List Value, i < len → RTy W p.1 p.2 ∧ p.2.length = 3 ∧ ∀ j u, p.2[j]? = some u → W.cell? (a.add (i * 3 + j)) = some u := by
          intro i
          by_cases hi : i < len
          · have hc := hcell i hi
            rw [cellsTy, List.getElem?_eq_getElem (by omega)] at hc
            obtain ⟨ds, hd, ht⟩ := Option.bind_eq_some_iff.1 hc
            obtain ⟨t, ht⟩ := ihn n2 (by omega) ds _ ht
            obtain ⟨_, hdl, hat⟩ := World.cells?_some hd
            refine ⟨(t, ds), fun _ => ⟨ht, hdl, fun j u hj => ?_⟩⟩
            have hj3 : j < 3 := by rw [← hdl]; exact (List.getElem?_eq_some_iff.1 hj).1
            rw [← Go.Deep.add_add, hat j hj3]
            exact hj
          · exact ⟨(.node ⟨0, []⟩ [], []), fun h => absurd h hi⟩
        obtain ⟨f, hfp⟩ := Classical.skolem.1 hall
        have hkl : ((List.range len).map fun i => (f i).1).length = len := by simp
        have hr : Reads tyHead 3 W (.node ⟨k, ls⟩ ((List.range len).map fun i => (f i).1)) ([.int .i64 k, .slice L ls.length c] ++ [.slice (some a) ((List.range len).map fun i => (f i).1).length cap]) := by
          refine .node _ _ _ (some a) cap (fun i => (f i).2) ⟨L, c, rfl, l3, hk.1, hk.2, l1, l2⟩ rfl (by rw [hkl]; unfold maxLen at hm; omega) (fun j hj => ?_) (fun j t hj => ?_) (by rw [hkl]; exact hl)
          · rw [hkl] at hj
            exact ⟨(hfp j hj).2.1, a, rfl, (hfp j hj).2.2⟩
          · rw [List.getElem?_map] at hj
            obtain ⟨i, hi, rfl⟩ := Option.map_eq_some_iff.1 hj
            have hjl : j < len := by have := (List.getElem?_eq_some_iff.1 hi).1; simpa using this
            have hij : i = j := by rw [List.getElem?_range hjl] at hi; injection hi with hi; exact hi.symm
            subst hij
            exact (hfp i hjl).1
        rw [hkl] at hr
        exact ⟨_, hr⟩
set_option maxRecDepth 100000 in
/-- an argument of the laws' own type -/
theorem open_ty {H : Type} {enc : TypeId × Value → H} {W : World} {r : Reach} {b0 : Nat} {v : Value} {d : DataW H} {ps : List MemPlace} (hval : Value.okWide Try.prog W r b0 36 v) (hd : DataW.Trod enc Try.prog W 0 (fun _ => true) true 36 v d ps) :
    ∃ (t : Ty) (cs : List Value), v = .agg cs.toArray ∧ RTy W t cs := by
  obtain ⟨cs, rfl, hsz⟩ := okWide_struct Try.underlying36 hval
  obtain ⟨fuel, hf⟩ := hd
  obtain ⟨t, ht⟩ := read_ty fuel _ _ hf
  exact ⟨t, _, rfl, ht⟩
end Go.Proofs.Ytlikmgkjilmjpaa
