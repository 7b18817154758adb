/-
  Merged by program: TeOpen.
-/
import Derived.Test.YthcfgpjldhiinaaE10
import Derived.Test.YthcfgpjldhiinaaE45
import Derived.ProofKit
import Derived.OpenShut
import Derived.SliceStrings
import Derived.ChangeMaps5
import Derived.Lib.SmallJoins

/-
  A term that came in, read as data: a tree.
-/
namespace Go.Proofs.Ythcfgpjldhiinaa
open Go.ChangeShapes Go.WideShapes Go.ChangeAt Go.RowKit

theorem cellsTe : Try.prog.cellsOf 30 = 8 := by kernel_rfl
theorem cellsTes : Try.prog.cellsOf 28 = 1 := by kernel_rfl
theorem RTy.topOut {w : World} {t : Ty} {cs : List Value} (h : RTy w t cs) : ∃ TL tc TA td, cs = [.int .i64 t.top.kind, .slice TL t.top.labels.length tc, .slice TA t.kids.length td] := by
  cases t with
  | node a ks =>
    obtain ⟨L, c, A, d, rfl, _⟩ := h.out
    exact ⟨L, c, A, d, rfl⟩
set_option maxRecDepth 100000 in
theorem read_te {H : Type} {enc : TypeId × Value → H} {W : World} : ∀ (n : Nat) (cs : List Value) (x : DataW H × List MemPlace), DataW.trod enc Try.prog W 0 (fun _ => true) true n 30 cs = some x → ∃ t : Te, RTe W t cs := by
  intro n
  induction n using Nat.strongRecOn with
  | _ n ihn =>
    intro cs x h
    obtain ⟨xs, n1, rfl, _, hlen, hxl, hf⟩ := DataW.trod_struct Try.underlying30 h
    rw [cellsTe] at hlen
    match cs, hlen with
    | [c0, c1, c2, c3, c4, c5, c6, c7], _ =>
      have hx6 : xs.length = 6 := hxl
      have h0 : DataW.trod enc Try.prog W 0 (fun _ => true) true n1 3 (([c0, c1, c2, c3, c4, c5, c6, c7].drop 0).take (Try.prog.cellsOf 3)) = xs[0]? := hf 0 _ rfl
      have h1 : DataW.trod enc Try.prog W 0 (fun _ => true) true n1 9 (([c0, c1, c2, c3, c4, c5, c6, c7].drop 1).take (Try.prog.cellsOf 9)) = xs[1]? := hf 1 _ rfl
      have h2 : DataW.trod enc Try.prog W 0 (fun _ => true) true n1 3 (([c0, c1, c2, c3, c4, c5, c6, c7].drop 2).take (Try.prog.cellsOf 3)) = xs[2]? := hf 2 _ rfl
      have h3 : DataW.trod enc Try.prog W 0 (fun _ => true) true n1 27 (([c0, c1, c2, c3, c4, c5, c6, c7].drop 3).take (Try.prog.cellsOf 27)) = xs[3]? := hf 3 _ rfl
      have h4 : DataW.trod enc Try.prog W 0 (fun _ => true) true n1 24 (([c0, c1, c2, c3, c4, c5, c6, c7].drop 6).take (Try.prog.cellsOf 24)) = xs[4]? := hf 4 _ rfl
      have h5 : DataW.trod enc Try.prog W 0 (fun _ => true) true n1 28 (([c0, c1, c2, c3, c4, c5, c6, c7].drop 7).take (Try.prog.cellsOf 28)) = xs[5]? := hf 5 _ rfl
      rw [cellsInt, List.getElem?_eq_getElem (by omega)] at h0
      rw [cellsStr1, List.getElem?_eq_getElem (by omega)] at h1
      rw [cellsInt, List.getElem?_eq_getElem (by omega)] at h2
      rw [cellsTy, List.getElem?_eq_getElem (by omega)] at h3
      rw [cellsStrs, List.getElem?_eq_getElem (by omega)] at h4
      rw [cellsTes, List.getElem?_eq_getElem (by omega)] at h5
      simp only [List.drop, List.take] at h0 h1 h2 h3 h4 h5
      obtain ⟨k, e0, _, wk⟩ := DataW.trod_int Try.underlying3 h0
      injection e0 with e0
      subst e0
      have hk : -9223372036854775808 ≤ k ∧ k ≤ 9223372036854775807 := by simpa [Lit.wf, IntKind.min, IntKind.max, IntKind.signed, IntKind.bits] using wk
      obtain ⟨s, e1, _, ws⟩ := DataW.trod_string Try.underlying9 h1
      injection e1 with e1
      subst e1
      obtain ⟨m, e2, _, wm⟩ := DataW.trod_int Try.underlying3 h2
      injection e2 with e2
      subst e2
      have hm' : -9223372036854775808 ≤ m ∧ m ≤ 9223372036854775807 := by simpa [Lit.wf, IntKind.min, IntKind.max, IntKind.signed, IntKind.bits] using wm
      have hs' : s.size ≤ 9223372036854775807 := by unfold maxLen at ws; omega
      obtain ⟨ty, hty⟩ := read_ty n1 _ _ h3
      obtain ⟨TL, tc, TA, td, ety⟩ := hty.topOut
      simp only [List.cons.injEq, and_true] at ety
      obtain ⟨rfl, rfl, rfl⟩ := ety
      obtain ⟨L, c, ls, rfl, l1, l2, l3⟩ := read_labels h4
      rcases DataW.trod_slice Try.underlying28 h5 with ⟨e2, _⟩ | ⟨a, len, cap, elems, rest, n2, hn2, e2, _, _, hl, hm, hel, hcell, _, _⟩
      · injection e2 with e2
        subst e2
        have hr : RTe W (.node ⟨k, s, m, ty, ls⟩ []) [.int .i64 k, .string s, .int .i64 m, .int .i64 ty.top.kind, .slice TL ty.top.labels.length tc, .slice TA ty.kids.length td, .slice L ls.length c, .slice none ([] : List Te).length 0] :=
          RTe.make hty l3 ⟨hk.1, hk.2, hs', hm'.1, hm'.2, l1, l2⟩ (by simp) (by simp) ⟨fun _ => [], fun j t hj => by simp at hj⟩
        exact ⟨_, hr⟩
      · injection e2 with e2
        subst e2
        have hall : ∀ i, ∃ p : Te × List Value, i < len → RTe W p.1 p.2 ∧ p.2.length = 8 ∧ ∀ j u, p.2[j]? = some u → W.cell? (a.add (i * 8 + j)) = some u := by
          intro i
          by_cases hi : i < len
          · have hc := hcell i hi
            rw [cellsTe, List.getElem?_eq_getElem (by omega)] at hc
            obtain ⟨ds, hd, ht⟩ := Option.bind_eq_some_iff.1 hc
            obtain ⟨t, ht⟩ := ihn n2 (by omega) ds _ ht
            obtain ⟨_, hdl, hat⟩ := World.cells?_some hd
            refine ⟨(t, ds), fun _ => ⟨ht, hdl, fun j u hj => ?_⟩⟩
            have hj3 : j < 8 := by rw [← hdl]; exact (List.getElem?_eq_some_iff.1 hj).1
            rw [← Go.Deep.add_add, hat j hj3]
            exact hj
          · exact ⟨(.node ⟨0, ⟨#[]⟩, 0, .node ⟨0, []⟩ [], []⟩ [], []), fun h => absurd h hi⟩
        obtain ⟨f, hfp⟩ := Classical.skolem.1 hall
        have hkl : ((List.range len).map fun i => (f i).1).length = len := by simp
        have hr : RTe W (.node ⟨k, s, m, ty, ls⟩ ((List.range len).map fun i => (f i).1)) [.int .i64 k, .string s, .int .i64 m, .int .i64 ty.top.kind, .slice TL ty.top.labels.length tc, .slice TA ty.kids.length td, .slice L ls.length c, .slice (some a) ((List.range len).map fun i => (f i).1).length cap] := by
          refine RTe.make hty l3 ⟨hk.1, hk.2, hs', hm'.1, hm'.2, l1, l2⟩ (by rw [hkl]; unfold maxLen at hm; omega) (by rw [hkl]; exact hl) ⟨fun i => (f i).2, fun j t hj => ?_⟩
          rw [List.getElem?_map] at hj
          obtain ⟨i, hi, rfl⟩ := Option.map_eq_some_iff.1 hj
          have hjl : j < len := by have := (List.getElem?_eq_some_iff.1 hi).1; simpa using this
          have hij : i = j := by rw [List.getElem?_range hjl] at hi; injection hi with hi; exact hi.symm
          subst hij
          exact ⟨(hfp i hjl).1, a, rfl, (hfp i hjl).2.2⟩
        rw [hkl] at hr
        exact ⟨_, hr⟩
set_option maxRecDepth 100000 in
/-- an argument of the laws' own type -/
theorem open_te {H : Type} {enc : TypeId × Value → H} {W : World} {r : Reach} {b0 : Nat} {v : Value} {d : DataW H} {ps : List MemPlace} (hval : Value.okWide Try.prog W r b0 30 v) (hd : DataW.Trod enc Try.prog W 0 (fun _ => true) true 30 v d ps) :
    ∃ (t : Te) (cs : List Value), v = .agg cs.toArray ∧ RTe W t cs := by
  obtain ⟨cs, rfl, hsz⟩ := okWide_struct Try.underlying30 hval
  obtain ⟨fuel, hf⟩ := hd
  obtain ⟨t, ht⟩ := read_te fuel _ _ hf
  exact ⟨t, _, rfl, ht⟩
end Go.Proofs.Ythcfgpjldhiinaa
