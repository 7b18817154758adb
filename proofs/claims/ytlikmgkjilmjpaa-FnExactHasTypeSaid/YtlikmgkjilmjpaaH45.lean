/-
  Merged by program: VaOpen, Open, Close.
-/
import Derived.Test.YtlikmgkjilmjpaaH9
import Derived.Test.YtlikmgkjilmjpaaH44
import Derived.ProofKit
import Derived.OpenShut
import Derived.SliceStrings
import Derived.ChangeMaps5
import Derived.Lib.SmallJoins
import Derived.Test.YtlikmgkjilmjpaaH1
import Derived.Test.YtlikmgkjilmjpaaProg
import Derived.Below
import Derived.Carry
import Derived.SizedLaws

/-
  A type that came in, read as data: a tree.
-/
namespace Go.Proofs.Ytlikmgkjilmjpaa
open Go.ChangeShapes Go.WideShapes Go.ChangeAt Go.RowKit

theorem cellsVa : Try.prog.cellsOf 25 = 4 := by kernel_rfl
theorem cellsVas : Try.prog.cellsOf 23 = 1 := by kernel_rfl
set_option maxRecDepth 100000 in
theorem read_va {H : Type} {enc : TypeId × Value → H} {W : World} : ∀ (n : Nat) (cs : List Value) (x : DataW H × List MemPlace), DataW.trod enc Try.prog W 0 (fun _ => true) true n 25 cs = some x → ∃ t : Va, RVa W t cs := by
  intro n
  induction n using Nat.strongRecOn with
  | _ n ihn =>
    intro cs x h
    obtain ⟨xs, n1, rfl, _, hlen, hxl, hf⟩ := DataW.trod_struct Try.underlying25 h
    rw [cellsVa] at hlen
    match cs, hlen with
    | [c0, c1, c2, c3], _ =>
      have hx3 : xs.length = 4 := hxl
      have h0 : DataW.trod enc Try.prog W 0 (fun _ => true) true n1 3 (([c0, c1, c2, c3].drop 0).take (Try.prog.cellsOf 3)) = xs[0]? := hf 0 _ rfl
      have h1 : DataW.trod enc Try.prog W 0 (fun _ => true) true n1 3 (([c0, c1, c2, c3].drop 1).take (Try.prog.cellsOf 3)) = xs[1]? := hf 1 _ rfl
      have h2 : DataW.trod enc Try.prog W 0 (fun _ => true) true n1 22 (([c0, c1, c2, c3].drop 2).take (Try.prog.cellsOf 22)) = xs[2]? := hf 2 _ rfl
      have h3 : DataW.trod enc Try.prog W 0 (fun _ => true) true n1 23 (([c0, c1, c2, c3].drop 3).take (Try.prog.cellsOf 23)) = xs[3]? := hf 3 _ rfl
      rw [cellsInt, List.getElem?_eq_getElem (by omega)] at h0
      rw [cellsInt, List.getElem?_eq_getElem (by omega)] at h1
      rw [cellsStrs, List.getElem?_eq_getElem (by omega)] at h2
      rw [cellsVas, List.getElem?_eq_getElem (by omega)] at h3
      simp only [List.drop, List.take] at h0 h1 h2 h3
      obtain ⟨k, e0, _, wk⟩ := DataW.trod_int Try.underlying3 h0
      injection e0 with e0
      subst e0
      have hk : -9223372036854775808 ≤ k ∧ k ≤ 9223372036854775807 := by simpa [Lit.wf, IntKind.min, IntKind.max, IntKind.signed, IntKind.bits] using wk
      obtain ⟨m, e1, _, wm⟩ := DataW.trod_int Try.underlying3 h1
      injection e1 with e1
      subst e1
      have hm' : -9223372036854775808 ≤ m ∧ m ≤ 9223372036854775807 := by simpa [Lit.wf, IntKind.min, IntKind.max, IntKind.signed, IntKind.bits] using wm
      obtain ⟨L, c, ls, rfl, l1, l2, l3⟩ := read_labels h2
      rcases DataW.trod_slice Try.underlying23 h3 with ⟨e2, _⟩ | ⟨a, len, cap, elems, rest, n2, hn2, e2, _, _, hl, hm, hel, hcell, _, _⟩
      · injection e2 with e2
        subst e2
        have hr : RVa W (.node ⟨k, m, ls⟩ []) [.int .i64 k, .int .i64 m, .slice L ls.length c, .slice none ([] : List Va).length 0] :=
          RVa.make l3 ⟨hk.1, hk.2, hm'.1, hm'.2, l1, l2⟩ (by simp) (by simp) ⟨fun _ => [], fun j t hj => by simp at hj⟩
        exact ⟨_, hr⟩
      · injection e2 with e2
        subst e2
        have hall : ∀ i, ∃ p : Va × List Value, i < len → RVa W p.1 p.2 ∧ p.2.length = 4 ∧ ∀ j u, p.2[j]? = some u → W.cell? (a.add (i * 4 + j)) = some u := by
          intro i
          by_cases hi : i < len
          · have hc := hcell i hi
            rw [cellsVa, List.getElem?_eq_getElem (by omega)] at hc
            obtain ⟨ds, hd, ht⟩ := Option.bind_eq_some_iff.1 hc
            obtain ⟨t, ht⟩ := ihn n2 (by omega) ds _ ht
            obtain ⟨_, hdl, hat⟩ := World.cells?_some hd
            refine ⟨(t, ds), fun _ => ⟨ht, hdl, fun j u hj => ?_⟩⟩
            have hj3 : j < 4 := by rw [← hdl]; exact (List.getElem?_eq_some_iff.1 hj).1
            rw [← Go.Deep.add_add, hat j hj3]
            exact hj
          · exact ⟨(.node ⟨0, 0, []⟩ [], []), fun h => absurd h hi⟩
        obtain ⟨f, hfp⟩ := Classical.skolem.1 hall
        have hkl : ((List.range len).map fun i => (f i).1).length = len := by simp
        have hr : RVa W (.node ⟨k, m, ls⟩ ((List.range len).map fun i => (f i).1)) [.int .i64 k, .int .i64 m, .slice L ls.length c, .slice (some a) ((List.range len).map fun i => (f i).1).length cap] := by
          refine RVa.make l3 ⟨hk.1, hk.2, hm'.1, hm'.2, l1, l2⟩ (by rw [hkl]; unfold maxLen at hm; omega) (by rw [hkl]; exact hl) ⟨fun i => (f i).2, fun j t hj => ?_⟩
          rw [List.getElem?_map] at hj
          obtain ⟨i, hi, rfl⟩ := Option.map_eq_some_iff.1 hj
          have hjl : j < len := by have := (List.getElem?_eq_some_iff.1 hi).1; simpa using this
          have hij : i = j := by rw [List.getElem?_range hjl] at hi; injection hi with hi; exact hi.symm
          subst hij
          exact ⟨(hfp i hjl).1, a, rfl, (hfp i hjl).2.2⟩
        rw [hkl] at hr
        exact ⟨_, hr⟩
set_option maxRecDepth 100000 in
/-- an argument of the laws' own type -/
theorem open_va {H : Type} {enc : TypeId × Value → H} {W : World} {r : Reach} {b0 : Nat} {v : Value} {d : DataW H} {ps : List MemPlace} (hval : Value.okWide Try.prog W r b0 25 v) (hd : DataW.Trod enc Try.prog W 0 (fun _ => true) true 25 v d ps) :
    ∃ (t : Va) (cs : List Value), v = .agg cs.toArray ∧ RVa W t cs := by
  obtain ⟨cs, rfl, hsz⟩ := okWide_struct Try.underlying25 hval
  obtain ⟨fuel, hf⟩ := hd
  obtain ⟨t, ht⟩ := read_va fuel _ _ hf
  exact ⟨t, _, rfl, ht⟩
end Go.Proofs.Ytlikmgkjilmjpaa

/-
  A slice of strings that came in, read as data: a list of texts.
-/
namespace Go.Proofs.Ytlikmgkjilmjpaa
open Go.ChangeShapes Go.WideShapes Go.ChangeAt Go.RowKit

theorem cellsStr : Try.prog.cellsOf 9 = 1 := by kernel_rfl
set_option maxRecDepth 100000 in
theorem open_list {H : Type} {enc : TypeId × Value → H} {W : World} {r : Reach} {b0 : Nat} {v : Value} {d : DataW H} {ps : List MemPlace} (hval : Value.okWide Try.prog W r b0 22 v) (hd : DataW.Trod enc Try.prog W 0 (fun _ => true) true 22 v d ps) :
    ∃ (A : Option Addr) (cap : Nat) (xs : List ByteArray), v = .slice A xs.length cap ∧ xs.length ≤ 9223372036854775807 ∧ (∀ x ∈ xs, x.size ≤ 9223372036854775807) ∧ Sl W A (xs.map Value.string) := by
  obtain ⟨A, len, cap, rfl⟩ := okWide_slice Try.underlying22 hval
  obtain ⟨fuel, hf⟩ := hd
  rcases open_strings Try.underlying22 Try.underlying9 cellsStr hf with ⟨hcs, _⟩ | ⟨a, len', cap', ss, hcs, _, hl, hm, hz, _, hcell, hss⟩
  · simp [Value.cells] at hcs
    obtain ⟨rfl, rfl, rfl⟩ := hcs
    exact ⟨none, 0, [], rfl, by simp, by simp, fun j u hj => by simp at hj⟩
  · simp [Value.cells] at hcs
    obtain ⟨rfl, rfl, rfl⟩ := hcs
    simp only [if_true] at hz
    have hlen : (ss.take len).length = len := by rw [List.length_take]; omega
    refine ⟨some a, cap, ss.take len, by rw [hlen], by rw [hlen]; unfold maxLen at hm; omega, fun x hx => by have := hss x (List.mem_of_mem_take hx); unfold maxLen at this; omega, fun j u hj => ?_⟩
    rw [List.getElem?_map, List.getElem?_take] at hj
    split at hj
    · obtain ⟨x, hx, rfl⟩ := Option.map_eq_some_iff.1 hj
      have hjl : j < ss.length := (List.getElem?_eq_some_iff.1 hx).1
      refine ⟨a, rfl, ?_⟩
      rw [hcell j hjl]
      simp [List.getD, hx]
    · simp at hj
theorem own0 : ownKnob Try.prog.godebug = none := by kernel_rfl
theorem laid0 : laidOutB Try.prog = true := by kernel_rfl
end Go.Proofs.Ytlikmgkjilmjpaa

/-
  The last step of a law, once for all laws: where the call answers true and leaves all that was there as it was, the row's own post holds, whatever the arguments.
-/
namespace Go.Proofs.Ytlikmgkjilmjpaa
open Go.RowKit Go.ChangeShapes Go.WideShapes Go.ChangeAt

theorem trodAll_below {H : Type} {enc : TypeId × Value → H} {P : Program} (hl : laidOutB P = true) {W W' : World} (hb : Below W.heap.size W W') :
    ∀ (ts : List TypeId) (vs : List Value) (ds : List (DataW H)) (ps : List MemPlace), (∀ t ∈ ts, P.readableRec t = true ∧ t < P.types.size) → (∀ x ∈ ps, x.block < W.heap.size) →
      DataW.TrodAll enc P W 0 (fun _ => true) true ts vs ds ps → DataW.TrodAll enc P W' 0 (fun b => decide (b < W.heap.size)) true ts vs ds ps
  | [], [], [], ps, _, _, h => h
  | t :: ts, v :: vs, d :: ds, ps, hr, hlt, h => by
    obtain ⟨p, q, h1, h2, rfl⟩ := h
    have ht := hr t (by simp)
    exact ⟨p, q, Below.trod hl ht.1 ht.2 h1 hb (fun x hx => hlt x (by simp [hx])), trodAll_below hl hb ts vs ds q (fun t' h' => hr t' (by simp [h'])) (fun x hx => hlt x (by simp [hx])) h2, rfl⟩
  | [], [], _ :: _, _, _, _, h => h.elim
  | [], _ :: _, _, _, _, _, h => h.elim
  | _ :: _, [], _, _, _, _, h => h.elim
  | _ :: _, _ :: _, [], _, _, _, h => h.elim

theorem law_post {H : Type} {enc : TypeId × Value → H} {P : Program} {f : Func} {s : ChangeSpec} {W W' : World} {args : Array Value} {ds : List (DataW H)} {before : List MemPlace} {tb : TypeId}
    (hl : laidOutB P = true) (hread : ∀ t ∈ f.params.toList, P.readableRec t = true ∧ t < P.types.size) (hres : f.resultTypes = #[tb]) (htb : P.underlying tb = some .bool) (hv : s.vars = [])
    (hs : (s.fn H (ds ++ [])).results = [.lit (.bool true)] ∧ (s.fn H (ds ++ [])).args = ds ∧ (s.fn H (ds ++ [])).vars = [])
    (hW : DataW.Whole enc P f.params.toList s.vars false W args.toList ds [] before) (hb : Below W.heap.size W W') :
    s.post enc P f false true false false W args (.bool true) W' := by
  have hlt : ∀ p ∈ before, p.block < W.heap.size := fun p hp => hW.lt p hp
  have hW' := hW
  obtain ⟨p, q, hA, hV, rfl, _, _⟩ := hW
  rw [hv] at hV
  obtain ⟨_, rfl⟩ := trodVars_none hV
  refine ⟨ds, [], p ++ [], [], p, [], hW', ?_, ?_, ?_, hb.frame _, fun h => by cases h⟩
  · rw [hs.1, hres]
    exact trodAll_cons_mk (shut_bool htb _) trodAll_mk0
  · rw [hs.2.1]
    exact trodAll_below hl hb _ _ _ _ hread (fun x hx => hlt x (by simp [hx])) hA
  · rw [hs.2.2, hv]
    rfl
end Go.Proofs.Ytlikmgkjilmjpaa
