/-
  Merged by program: TyOpen, TeOpen, Open, Close, CloseV.
-/
import Derived.Test.YtkchjinfjggoeaaGreatDoorF1
import Derived.ProofKit
import Derived.OpenShut
import Derived.SliceStrings
import Derived.ChangeMaps5
import Derived.Lib.SmallJoins
import Derived.Test.YtkchjinfjggoeaaGreatDoorF2
import Derived.Test.YtkchjinfjggoeaaGreatDoorProg
import Derived.Below
import Derived.Carry
import Derived.SizedLaws
import Derived.Deep.DeepHandedRow
import Derived.Lib.LaidTab
import Derived.OpenVars
import Derived.ChangeVars

/-
  A type that came in, read as data: a tree.
-/
namespace Go.Proofs.YtkchjinfjggoeaaGreatDoor
open Go.ChangeShapes Go.WideShapes Go.ChangeAt Go.RowKit

theorem cellsTy : Tryz.prog.cellsOf 40 = 3 := by kernel_rfl
theorem cellsInt : Tryz.prog.cellsOf 3 = 1 := by kernel_rfl
theorem cellsStrs : Tryz.prog.cellsOf 24 = 1 := by kernel_rfl
theorem cellsTys : Tryz.prog.cellsOf 38 = 1 := by kernel_rfl
theorem cellsStr1 : Tryz.prog.cellsOf 9 = 1 := by kernel_rfl

/-- a slice of strings, told by its one cell -/
theorem read_labels {H : Type} {enc : TypeId × Value → H} {W : World} {n : Nat} {v : Value} {x : DataW H × List MemPlace} (h : DataW.trod enc Tryz.prog W 0 (fun _ => true) true n 24 [v] = some x) :
    ∃ (L : Option Addr) (c : Nat) (ls : List ByteArray), v = .slice L ls.length c ∧ ls.length ≤ 9223372036854775807 ∧ (∀ s ∈ ls, s.size ≤ 9223372036854775807) ∧ Sl W L (ls.map Value.string) := by
  rcases open_strings Tryz.underlying24 Tryz.underlying9 cellsStr1 h with ⟨hcs, _⟩ | ⟨a, len, cap, ss, hcs, _, hl, hm, hz, _, hcell, hss⟩
  · injection hcs with hcs
    exact ⟨none, 0, [], hcs, by simp, by simp, fun j u hj => by simp at hj⟩
  · injection hcs with hcs
    simp only [if_true] at hz
    have hlen : (ss.take len).length = len := by rw [List.length_take]; omega
    refine ⟨some a, cap, ss.take len, by rw [hlen, hcs], by rw [hlen]; unfold maxLen at hm; omega, fun x hx => by have := hss x (List.mem_of_mem_take hx); unfold maxLen at this; omega, fun j u hj => ?_⟩
    rw [List.getElem?_map, List.getElem?_take] at hj
    split at hj
    · obtain ⟨x, hx, rfl⟩ := Option.map_eq_some_iff.1 hj
      have hjl : j < ss.length := (List.getElem?_eq_some_iff.1 hx).1
      refine ⟨a, rfl, ?_⟩
      rw [hcell j hjl]
      simp [List.getD, hx]
    · simp at hj

set_option maxRecDepth 100000 in
theorem read_ty {H : Type} {enc : TypeId × Value → H} {W : World} : ∀ (n : Nat) (cs : List Value) (x : DataW H × List MemPlace), DataW.trod enc Tryz.prog W 0 (fun _ => true) true n 40 cs = some x → ∃ t : Ty, RTy W t cs := by
  intro n
  induction n using Nat.strongRecOn with
  | _ n ihn =>
    intro cs x h
    obtain ⟨xs, n1, rfl, _, hlen, hxl, hf⟩ := DataW.trod_struct Tryz.underlying40 h
    rw [cellsTy] at hlen
    match cs, hlen with
    | [c0, c1, c2], _ =>
      have hx3 : xs.length = 3 := hxl
      have h0 : DataW.trod enc Tryz.prog W 0 (fun _ => true) true n1 3 (([c0, c1, c2].drop 0).take (Tryz.prog.cellsOf 3)) = xs[0]? := hf 0 _ rfl
      have h1 : DataW.trod enc Tryz.prog W 0 (fun _ => true) true n1 24 (([c0, c1, c2].drop 1).take (Tryz.prog.cellsOf 24)) = xs[1]? := hf 1 _ rfl
      have h2 : DataW.trod enc Tryz.prog W 0 (fun _ => true) true n1 38 (([c0, c1, c2].drop 2).take (Tryz.prog.cellsOf 38)) = xs[2]? := hf 2 _ rfl
      rw [cellsInt, List.getElem?_eq_getElem (by omega)] at h0
      rw [cellsStrs, List.getElem?_eq_getElem (by omega)] at h1
      rw [cellsTys, List.getElem?_eq_getElem (by omega)] at h2
      simp only [List.drop, List.take] at h0 h1 h2
      obtain ⟨k, e0, _, wk⟩ := DataW.trod_int Tryz.underlying3 h0
      injection e0 with e0
      subst e0
      have hk : -9223372036854775808 ≤ k ∧ k ≤ 9223372036854775807 := by simpa [Lit.wf, IntKind.min, IntKind.max, IntKind.signed, IntKind.bits] using wk
      obtain ⟨L, c, ls, rfl, l1, l2, l3⟩ := read_labels h1
      rcases DataW.trod_slice Tryz.underlying38 h2 with ⟨e2, _⟩ | ⟨a, len, cap, elems, rest, n2, hn2, e2, _, _, hl, hm, hel, hcell, _, _⟩
      · injection e2 with e2
        subst e2
        have hr : Reads tyHead 3 W (.node ⟨k, ls⟩ []) ([.int .i64 k, .slice L ls.length c] ++ [.slice none ([] : List Ty).length 0]) :=
          .node _ _ _ none 0 (fun _ => []) ⟨L, c, rfl, l3, hk.1, hk.2, l1, l2⟩ rfl (by simp) (fun j hj => by simp at hj) (fun j t hj => by simp at hj) (by simp)
        exact ⟨_, hr⟩
      · injection e2 with e2
        subst e2
        have hall : ∀ i, ∃ p : Ty × List Value, i < len → RTy W p.1 p.2 ∧ p.2.length = 3 ∧ ∀ j u, p.2[j]? = some u → W.cell? (a.add (i * 3 + j)) = some u := by
          intro i
          by_cases hi : i < len
          · have hc := hcell i hi
            rw [cellsTy, List.getElem?_eq_getElem (by omega)] at hc
            obtain ⟨ds, hd, ht⟩ := Option.bind_eq_some_iff.1 hc
            obtain ⟨t, ht⟩ := ihn n2 (by omega) ds _ ht
            obtain ⟨_, hdl, hat⟩ := World.cells?_some hd
            refine ⟨(t, ds), fun _ => ⟨ht, hdl, fun j u hj => ?_⟩⟩
            have hj3 : j < 3 := by rw [← hdl]; exact (List.getElem?_eq_some_iff.1 hj).1
            rw [← Go.Deep.add_add, hat j hj3]
            exact hj
          · exact ⟨(.node ⟨0, []⟩ [], []), fun h => absurd h hi⟩
        obtain ⟨f, hfp⟩ := Classical.skolem.1 hall
        have hkl : ((List.range len).map fun i => (f i).1).length = len := by simp
        have hr : Reads tyHead 3 W (.node ⟨k, ls⟩ ((List.range len).map fun i => (f i).1)) ([.int .i64 k, .slice L ls.length c] ++ [.slice (some a) ((List.range len).map fun i => (f i).1).length cap]) := by
          refine .node _ _ _ (some a) cap (fun i => (f i).2) ⟨L, c, rfl, l3, hk.1, hk.2, l1, l2⟩ rfl (by rw [hkl]; unfold maxLen at hm; omega) (fun j hj => ?_) (fun j t hj => ?_) (by rw [hkl]; exact hl)
          · rw [hkl] at hj
            exact ⟨(hfp j hj).2.1, a, rfl, (hfp j hj).2.2⟩
          · rw [List.getElem?_map] at hj
            obtain ⟨i, hi, rfl⟩ := Option.map_eq_some_iff.1 hj
            have hjl : j < len := by have := (List.getElem?_eq_some_iff.1 hi).1; simpa using this
            have hij : i = j := by rw [List.getElem?_range hjl] at hi; injection hi with hi; exact hi.symm
            subst hij
            exact (hfp i hjl).1
        rw [hkl] at hr
        exact ⟨_, hr⟩
set_option maxRecDepth 100000 in
/-- an argument of the laws' own type -/
theorem open_ty {H : Type} {enc : TypeId × Value → H} {W : World} {r : Reach} {b0 : Nat} {v : Value} {d : DataW H} {ps : List MemPlace} (hval : Value.okWide Tryz.prog W r b0 40 v) (hd : DataW.Trod enc Tryz.prog W 0 (fun _ => true) true 40 v d ps) :
    ∃ (t : Ty) (cs : List Value), v = .agg cs.toArray ∧ RTy W t cs := by
  obtain ⟨cs, rfl, hsz⟩ := okWide_struct Tryz.underlying40 hval
  obtain ⟨fuel, hf⟩ := hd
  obtain ⟨t, ht⟩ := read_ty fuel _ _ hf
  exact ⟨t, _, rfl, ht⟩
end Go.Proofs.YtkchjinfjggoeaaGreatDoor

/-
  A term that came in, read as data: a tree.
-/
namespace Go.Proofs.YtkchjinfjggoeaaGreatDoor
open Go.ChangeShapes Go.WideShapes Go.ChangeAt Go.RowKit

theorem cellsTe : Tryz.prog.cellsOf 43 = 8 := by kernel_rfl
theorem cellsTes : Tryz.prog.cellsOf 41 = 1 := by kernel_rfl
theorem RTy.topOut {w : World} {t : Ty} {cs : List Value} (h : RTy w t cs) : ∃ TL tc TA td, cs = [.int .i64 t.top.kind, .slice TL t.top.labels.length tc, .slice TA t.kids.length td] := by
  cases t with
  | node a ks =>
    obtain ⟨L, c, A, d, rfl, _⟩ := h.out
    exact ⟨L, c, A, d, rfl⟩
set_option maxRecDepth 100000 in
theorem read_te {H : Type} {enc : TypeId × Value → H} {W : World} : ∀ (n : Nat) (cs : List Value) (x : DataW H × List MemPlace), DataW.trod enc Tryz.prog W 0 (fun _ => true) true n 43 cs = some x → ∃ t : Te, RTe W t cs := by
  intro n
  induction n using Nat.strongRecOn with
  | _ n ihn =>
    intro cs x h
    obtain ⟨xs, n1, rfl, _, hlen, hxl, hf⟩ := DataW.trod_struct Tryz.underlying43 h
    rw [cellsTe] at hlen
    match cs, hlen with
    | [c0, c1, c2, c3, c4, c5, c6, c7], _ =>
      have hx6 : xs.length = 6 := hxl
      have h0 : DataW.trod enc Tryz.prog W 0 (fun _ => true) true n1 3 (([c0, c1, c2, c3, c4, c5, c6, c7].drop 0).take (Tryz.prog.cellsOf 3)) = xs[0]? := hf 0 _ rfl
      have h1 : DataW.trod enc Tryz.prog W 0 (fun _ => true) true n1 9 (([c0, c1, c2, c3, c4, c5, c6, c7].drop 1).take (Tryz.prog.cellsOf 9)) = xs[1]? := hf 1 _ rfl
      have h2 : DataW.trod enc Tryz.prog W 0 (fun _ => true) true n1 3 (([c0, c1, c2, c3, c4, c5, c6, c7].drop 2).take (Tryz.prog.cellsOf 3)) = xs[2]? := hf 2 _ rfl
      have h3 : DataW.trod enc Tryz.prog W 0 (fun _ => true) true n1 40 (([c0, c1, c2, c3, c4, c5, c6, c7].drop 3).take (Tryz.prog.cellsOf 40)) = xs[3]? := hf 3 _ rfl
      have h4 : DataW.trod enc Tryz.prog W 0 (fun _ => true) true n1 24 (([c0, c1, c2, c3, c4, c5, c6, c7].drop 6).take (Tryz.prog.cellsOf 24)) = xs[4]? := hf 4 _ rfl
      have h5 : DataW.trod enc Tryz.prog W 0 (fun _ => true) true n1 41 (([c0, c1, c2, c3, c4, c5, c6, c7].drop 7).take (Tryz.prog.cellsOf 41)) = xs[5]? := hf 5 _ rfl
      rw [cellsInt, List.getElem?_eq_getElem (by omega)] at h0
      rw [cellsStr1, List.getElem?_eq_getElem (by omega)] at h1
      rw [cellsInt, List.getElem?_eq_getElem (by omega)] at h2
      rw [cellsTy, List.getElem?_eq_getElem (by omega)] at h3
      rw [cellsStrs, List.getElem?_eq_getElem (by omega)] at h4
      rw [cellsTes, List.getElem?_eq_getElem (by omega)] at h5
      simp only [List.drop, List.take] at h0 h1 h2 h3 h4 h5
      obtain ⟨k, e0, _, wk⟩ := DataW.trod_int Tryz.underlying3 h0
      injection e0 with e0
      subst e0
      have hk : -9223372036854775808 ≤ k ∧ k ≤ 9223372036854775807 := by simpa [Lit.wf, IntKind.min, IntKind.max, IntKind.signed, IntKind.bits] using wk
      obtain ⟨s, e1, _, ws⟩ := DataW.trod_string Tryz.underlying9 h1
      injection e1 with e1
      subst e1
      obtain ⟨m, e2, _, wm⟩ := DataW.trod_int Tryz.underlying3 h2
      injection e2 with e2
      subst e2
      have hm' : -9223372036854775808 ≤ m ∧ m ≤ 9223372036854775807 := by simpa [Lit.wf, IntKind.min, IntKind.max, IntKind.signed, IntKind.bits] using wm
      have hs' : s.size ≤ 9223372036854775807 := by unfold maxLen at ws; omega
      obtain ⟨ty, hty⟩ := read_ty n1 _ _ h3
      obtain ⟨TL, tc, TA, td, ety⟩ := hty.topOut
      simp only [List.cons.injEq, and_true] at ety
      obtain ⟨rfl, rfl, rfl⟩ := ety
      obtain ⟨L, c, ls, rfl, l1, l2, l3⟩ := read_labels h4
      rcases DataW.trod_slice Tryz.underlying41 h5 with ⟨e2, _⟩ | ⟨a, len, cap, elems, rest, n2, hn2, e2, _, _, hl, hm, hel, hcell, _, _⟩
      · injection e2 with e2
        subst e2
        have hr : RTe W (.node ⟨k, s, m, ty, ls⟩ []) [.int .i64 k, .string s, .int .i64 m, .int .i64 ty.top.kind, .slice TL ty.top.labels.length tc, .slice TA ty.kids.length td, .slice L ls.length c, .slice none ([] : List Te).length 0] :=
          RTe.make hty l3 ⟨hk.1, hk.2, hs', hm'.1, hm'.2, l1, l2⟩ (by simp) (by simp) ⟨fun _ => [], fun j t hj => by simp at hj⟩
        exact ⟨_, hr⟩
      · injection e2 with e2
        subst e2
        have hall : ∀ i, ∃ p : Te × List Value, i < len → RTe W p.1 p.2 ∧ p.2.length = 8 ∧ ∀ j u, p.2[j]? = some u → W.cell? (a.add (i * 8 + j)) = some u := by
          intro i
          by_cases hi : i < len
          · have hc := hcell i hi
            rw [cellsTe, List.getElem?_eq_getElem (by omega)] at hc
            obtain ⟨ds, hd, ht⟩ := Option.bind_eq_some_iff.1 hc
            obtain ⟨t, ht⟩ := ihn n2 (by omega) ds _ ht
            obtain ⟨_, hdl, hat⟩ := World.cells?_some hd
            refine ⟨(t, ds), fun _ => ⟨ht, hdl, fun j u hj => ?_⟩⟩
            have hj3 : j < 8 := by rw [← hdl]; exact (List.getElem?_eq_some_iff.1 hj).1
            rw [← Go.Deep.add_add, hat j hj3]
            exact hj
          · exact ⟨(.node ⟨0, ⟨#[]⟩, 0, .node ⟨0, []⟩ [], []⟩ [], []), fun h => absurd h hi⟩
        obtain ⟨f, hfp⟩ := Classical.skolem.1 hall
        have hkl : ((List.range len).map fun i => (f i).1).length = len := by simp
        have hr : RTe W (.node ⟨k, s, m, ty, ls⟩ ((List.range len).map fun i => (f i).1)) [.int .i64 k, .string s, .int .i64 m, .int .i64 ty.top.kind, .slice TL ty.top.labels.length tc, .slice TA ty.kids.length td, .slice L ls.length c, .slice (some a) ((List.range len).map fun i => (f i).1).length cap] := by
          refine RTe.make hty l3 ⟨hk.1, hk.2, hs', hm'.1, hm'.2, l1, l2⟩ (by rw [hkl]; unfold maxLen at hm; omega) (by rw [hkl]; exact hl) ⟨fun i => (f i).2, fun j t hj => ?_⟩
          rw [List.getElem?_map] at hj
          obtain ⟨i, hi, rfl⟩ := Option.map_eq_some_iff.1 hj
          have hjl : j < len := by have := (List.getElem?_eq_some_iff.1 hi).1; simpa using this
          have hij : i = j := by rw [List.getElem?_range hjl] at hi; injection hi with hi; exact hi.symm
          subst hij
          exact ⟨(hfp i hjl).1, a, rfl, (hfp i hjl).2.2⟩
        rw [hkl] at hr
        exact ⟨_, hr⟩
set_option maxRecDepth 100000 in
/-- an argument of the laws' own type -/
theorem open_te {H : Type} {enc : TypeId × Value → H} {W : World} {r : Reach} {b0 : Nat} {v : Value} {d : DataW H} {ps : List MemPlace} (hval : Value.okWide Tryz.prog W r b0 43 v) (hd : DataW.Trod enc Tryz.prog W 0 (fun _ => true) true 43 v d ps) :
    ∃ (t : Te) (cs : List Value), v = .agg cs.toArray ∧ RTe W t cs := by
  obtain ⟨cs, rfl, hsz⟩ := okWide_struct Tryz.underlying43 hval
  obtain ⟨fuel, hf⟩ := hd
  obtain ⟨t, ht⟩ := read_te fuel _ _ hf
  exact ⟨t, _, rfl, ht⟩
end Go.Proofs.YtkchjinfjggoeaaGreatDoor

/-
  A slice of strings that came in, read as data: a list of texts.
-/
namespace Go.Proofs.YtkchjinfjggoeaaGreatDoor
open Go.ChangeShapes Go.WideShapes Go.ChangeAt Go.RowKit

theorem cellsStr : Tryz.prog.cellsOf 9 = 1 := by kernel_rfl
set_option maxRecDepth 100000 in
theorem open_list {H : Type} {enc : TypeId × Value → H} {W : World} {r : Reach} {b0 : Nat} {v : Value} {d : DataW H} {ps : List MemPlace} (hval : Value.okWide Tryz.prog W r b0 24 v) (hd : DataW.Trod enc Tryz.prog W 0 (fun _ => true) true 24 v d ps) :
    ∃ (A : Option Addr) (cap : Nat) (xs : List ByteArray), v = .slice A xs.length cap ∧ xs.length ≤ 9223372036854775807 ∧ (∀ x ∈ xs, x.size ≤ 9223372036854775807) ∧ Sl W A (xs.map Value.string) := by
  obtain ⟨A, len, cap, rfl⟩ := okWide_slice Tryz.underlying24 hval
  obtain ⟨fuel, hf⟩ := hd
  rcases open_strings Tryz.underlying24 Tryz.underlying9 cellsStr hf with ⟨hcs, _⟩ | ⟨a, len', cap', ss, hcs, _, hl, hm, hz, _, hcell, hss⟩
  · simp [Value.cells] at hcs
    obtain ⟨rfl, rfl, rfl⟩ := hcs
    exact ⟨none, 0, [], rfl, by simp, by simp, fun j u hj => by simp at hj⟩
  · simp [Value.cells] at hcs
    obtain ⟨rfl, rfl, rfl⟩ := hcs
    simp only [if_true] at hz
    have hlen : (ss.take len).length = len := by rw [List.length_take]; omega
    refine ⟨some a, cap, ss.take len, by rw [hlen], by rw [hlen]; unfold maxLen at hm; omega, fun x hx => by have := hss x (List.mem_of_mem_take hx); unfold maxLen at this; omega, fun j u hj => ?_⟩
    rw [List.getElem?_map, List.getElem?_take] at hj
    split at hj
    · obtain ⟨x, hx, rfl⟩ := Option.map_eq_some_iff.1 hj
      have hjl : j < ss.length := (List.getElem?_eq_some_iff.1 hx).1
      refine ⟨a, rfl, ?_⟩
      rw [hcell j hjl]
      simp [List.getD, hx]
    · simp at hj
theorem own0 : ownKnob Tryz.prog.godebug = none := by kernel_rfl
theorem laid0 : laidOutB Tryz.prog = true := by kernel_rfl
end Go.Proofs.YtkchjinfjggoeaaGreatDoor

/-
  The last step of a law, once for all laws: where the call answers true and leaves all that was there as it was, the row's own post holds, whatever the arguments.
-/
namespace Go.Proofs.YtkchjinfjggoeaaGreatDoor
open Go.RowKit Go.ChangeShapes Go.WideShapes Go.ChangeAt

theorem trodAll_below {H : Type} {enc : TypeId × Value → H} {P : Program} (hl : laidOutB P = true) {W W' : World} (hb : Below W.heap.size W W') :
    ∀ (ts : List TypeId) (vs : List Value) (ds : List (DataW H)) (ps : List MemPlace), (∀ t ∈ ts, P.readableRec t = true ∧ t < P.types.size) → (∀ x ∈ ps, x.block < W.heap.size) →
      DataW.TrodAll enc P W 0 (fun _ => true) true ts vs ds ps → DataW.TrodAll enc P W' 0 (fun b => decide (b < W.heap.size)) true ts vs ds ps
  | [], [], [], ps, _, _, h => h
  | t :: ts, v :: vs, d :: ds, ps, hr, hlt, h => by
    obtain ⟨p, q, h1, h2, rfl⟩ := h
    have ht := hr t (by simp)
    exact ⟨p, q, Below.trod hl ht.1 ht.2 h1 hb (fun x hx => hlt x (by simp [hx])), trodAll_below hl hb ts vs ds q (fun t' h' => hr t' (by simp [h'])) (fun x hx => hlt x (by simp [hx])) h2, rfl⟩
  | [], [], _ :: _, _, _, _, h => h.elim
  | [], _ :: _, _, _, _, _, h => h.elim
  | _ :: _, [], _, _, _, _, h => h.elim
  | _ :: _, _ :: _, [], _, _, _, h => h.elim

theorem law_post {H : Type} {enc : TypeId × Value → H} {P : Program} {f : Func} {s : ChangeSpec} {W W' : World} {args : Array Value} {ds : List (DataW H)} {before : List MemPlace} {tb : TypeId}
    (hl : laidOutB P = true) (hread : ∀ t ∈ f.params.toList, P.readableRec t = true ∧ t < P.types.size) (hres : f.resultTypes = #[tb]) (htb : P.underlying tb = some .bool) (hv : s.vars = [])
    (hs : (s.fn H (ds ++ [])).results = [.lit (.bool true)] ∧ (s.fn H (ds ++ [])).args = ds ∧ (s.fn H (ds ++ [])).vars = [])
    (hW : DataW.Whole enc P f.params.toList s.vars false W args.toList ds [] before) (hb : Below W.heap.size W W') :
    s.post enc P f false true false false W args (.bool true) W' := by
  have hlt : ∀ p ∈ before, p.block < W.heap.size := fun p hp => hW.lt p hp
  have hW' := hW
  obtain ⟨p, q, hA, hV, rfl, _, _⟩ := hW
  rw [hv] at hV
  obtain ⟨_, rfl⟩ := trodVars_none hV
  refine ⟨ds, [], p ++ [], [], p, [], hW', ?_, ?_, ?_, hb.frame _, fun h => by cases h⟩
  · rw [hs.1, hres]
    exact trodAll_cons_mk (shut_bool htb _) trodAll_mk0
  · rw [hs.2.1]
    exact trodAll_below hl hb _ _ _ _ hread (fun x hx => hlt x (by simp [hx])) hA
  · rw [hs.2.2, hv]
    rfl
end Go.Proofs.YtkchjinfjggoeaaGreatDoor

/-
  The close of a law whose specification names variables; a world with tables in it.
-/
namespace Go.Proofs.YtkchjinfjggoeaaGreatDoor
open Go.ChangeShapes Go.WideShapes Go.ChangeAt Go.RowKit

/-- as law_post, where the specification names variables that the call leaves as they were -/
theorem law_postV {H : Type} {enc : TypeId × Value → H} {P : Program} {f : Func} {s : ChangeSpec} {W W' : World} {args : Array Value} {ds gs : List (DataW H)} {before : List MemPlace} {tb : TypeId}
    (hl : laidOutB P = true) (hread : ∀ t ∈ f.params.toList, P.readableRec t = true ∧ t < P.types.size) (hres : f.resultTypes = #[tb]) (htb : P.underlying tb = some .bool) (hv : varsRowed P s.vars = true)
    (hs : (s.fn H (ds ++ gs)).results = [.lit (.bool true)] ∧ (s.fn H (ds ++ gs)).args = ds ∧ (s.fn H (ds ++ gs)).vars = gs)
    (hW : DataW.Whole enc P f.params.toList s.vars false W args.toList ds gs before) (hb : Below W.heap.size W W') :
    s.post enc P f false true false false W args (.bool true) W' := by
  have hlt : ∀ p ∈ before, p.block < W.heap.size := fun p hp => hW.lt p hp
  have hW' := hW
  obtain ⟨p, q, hA, hV, rfl, _, _⟩ := hW
  refine ⟨ds, gs, p ++ q, [], p, q, hW', ?_, ?_, ?_, hb.frame _, fun h => by cases h⟩
  · rw [hs.1, hres]
    exact trodAll_cons_mk (shut_bool htb _) trodAll_mk0
  · rw [hs.2.1]
    exact trodAll_below hl hb _ _ _ _ hread (fun x hx => hlt x (by simp [hx])) hA
  · rw [hs.2.2]
    exact Below.trodVars hl hb hv hV
/-- the cells of a block, turned -/
def putCells (h : Array Obj) (g : Nat) (cs : Array Value) : Array Obj := h.modify g fun | .cells _ t fr => .cells cs t fr | o => o
/-- the cells that a table's datum spells -/
def cellsOfData : DataW Unit → Array Value
  | .agg l => (l.map fun | .lit (.int k n) => Value.int k n | _ => undef).toArray
  | _ => #[]
end Go.Proofs.YtkchjinfjggoeaaGreatDoor
