/-
  Merged by program: TyOpen, VaOpen, KdOpen, ScOpen, DbOpen, Open.
-/
import Derived.Test.YtlikmgkjilmjpaaGreatI1
import Derived.ProofKit
import Derived.OpenShut
import Derived.SliceStrings
import Derived.ChangeMaps5
import Derived.Lib.SmallJoins
import Derived.Test.YtlikmgkjilmjpaaGreatI5
import Derived.Test.YtlikmgkjilmjpaaGreatI4
import Derived.Test.YtlikmgkjilmjpaaGreatI11
import Derived.Test.YtlikmgkjilmjpaaGreatI6
import Derived.Test.YtlikmgkjilmjpaaGreatProg

/-
  A type that came in, read as data: a tree.
-/
namespace Go.Proofs.YtlikmgkjilmjpaaGreat
open Go.ChangeShapes Go.WideShapes Go.ChangeAt Go.RowKit

theorem cellsTy : Tryz.prog.cellsOf 86 = 3 := by kernel_rfl
theorem cellsInt : Tryz.prog.cellsOf 3 = 1 := by kernel_rfl
theorem cellsStrs : Tryz.prog.cellsOf 28 = 1 := by kernel_rfl
theorem cellsTys : Tryz.prog.cellsOf 84 = 1 := by kernel_rfl
theorem cellsStr1 : Tryz.prog.cellsOf 9 = 1 := by kernel_rfl

/-- a slice of strings, told by its one cell -/
theorem read_labels {H : Type} {enc : TypeId × Value → H} {W : World} {n : Nat} {v : Value} {x : DataW H × List MemPlace} (h : DataW.trod enc Tryz.prog W 0 (fun _ => true) true n 28 [v] = some x) :
    ∃ (L : Option Addr) (c : Nat) (ls : List ByteArray), v = .slice L ls.length c ∧ ls.length ≤ 9223372036854775807 ∧ (∀ s ∈ ls, s.size ≤ 9223372036854775807) ∧ Sl W L (ls.map Value.string) := by
  rcases open_strings Tryz.underlying28 Tryz.underlying9 cellsStr1 h with ⟨hcs, _⟩ | ⟨a, len, cap, ss, hcs, _, hl, hm, hz, _, hcell, hss⟩
  · injection hcs with hcs
    exact ⟨none, 0, [], hcs, by simp, by simp, fun j u hj => by simp at hj⟩
  · injection hcs with hcs
    simp only [if_true] at hz
    have hlen : (ss.take len).length = len := by rw [List.length_take]; omega
    refine ⟨some a, cap, ss.take len, by rw [hlen, hcs], by rw [hlen]; unfold maxLen at hm; omega, fun x hx => by have := hss x (List.mem_of_mem_take hx); unfold maxLen at this; omega, fun j u hj => ?_⟩
    rw [List.getElem?_map, List.getElem?_take] at hj
    split at hj
    · obtain ⟨x, hx, rfl⟩ := Option.map_eq_some_iff.1 hj
      have hjl : j < ss.length := (List.getElem?_eq_some_iff.1 hx).1
      refine ⟨a, rfl, ?_⟩
      rw [hcell j hjl]
      simp [List.getD, hx]
    · simp at hj

set_option maxRecDepth 100000 in
theorem read_ty {H : Type} {enc : TypeId × Value → H} {W : World} : ∀ (n : Nat) (cs : List Value) (x : DataW H × List MemPlace), DataW.trod enc Tryz.prog W 0 (fun _ => true) true n 86 cs = some x → ∃ t : Ty, RTy W t cs := by
  intro n
  induction n using Nat.strongRecOn with
  | _ n ihn =>
    intro cs x h
    obtain ⟨xs, n1, rfl, _, hlen, hxl, hf⟩ := DataW.trod_struct Tryz.underlying86 h
    rw [cellsTy] at hlen
    match cs, hlen with
    | [c0, c1, c2], _ =>
      have hx3 : xs.length = 3 := hxl
      have h0 : DataW.trod enc Tryz.prog W 0 (fun _ => true) true n1 3 (([c0, c1, c2].drop 0).take (Tryz.prog.cellsOf 3)) = xs[0]? := hf 0 _ rfl
      have h1 : DataW.trod enc Tryz.prog W 0 (fun _ => true) true n1 28 (([c0, c1, c2].drop 1).take (Tryz.prog.cellsOf 28)) = xs[1]? := hf 1 _ rfl
      have h2 : DataW.trod enc Tryz.prog W 0 (fun _ => true) true n1 84 (([c0, c1, c2].drop 2).take (Tryz.prog.cellsOf 84)) = xs[2]? := hf 2 _ rfl
      rw [cellsInt, List.getElem?_eq_getElem (by omega)] at h0
      rw [cellsStrs, List.getElem?_eq_getElem (by omega)] at h1
      rw [cellsTys, List.getElem?_eq_getElem (by omega)] at h2
      simp only [List.drop, List.take] at h0 h1 h2
      obtain ⟨k, e0, _, wk⟩ := DataW.trod_int Tryz.underlying3 h0
      injection e0 with e0
      subst e0
      have hk : -9223372036854775808 ≤ k ∧ k ≤ 9223372036854775807 := by simpa [Lit.wf, IntKind.min, IntKind.max, IntKind.signed, IntKind.bits] using wk
      obtain ⟨L, c, ls, rfl, l1, l2, l3⟩ := read_labels h1
      rcases DataW.trod_slice Tryz.underlying84 h2 with ⟨e2, _⟩ | ⟨a, len, cap, elems, rest, n2, hn2, e2, _, _, hl, hm, hel, hcell, _, _⟩
      · injection e2 with e2
        subst e2
        have hr : Reads tyHead 3 W (.node ⟨k, ls⟩ []) ([.int .i64 k, .slice L ls.length c] ++ [.slice none ([] : List Ty).length 0]) :=
          .node _ _ _ none 0 (fun _ => []) ⟨L, c, rfl, l3, hk.1, hk.2, l1, l2⟩ rfl (by simp) (fun j hj => by simp at hj) (fun j t hj => by simp at hj) (by simp)
        exact ⟨_, hr⟩
      · injection e2 with e2
        subst e2
        have hall : ∀ i, ∃ p : Ty × List Value, i < len → RTy W p.1 p.2 ∧ p.2.length = 3 ∧ ∀ j u, p.2[j]? = some u → W.cell? (a.add (i * 3 + j)) = some u := by
          intro i
          by_cases hi : i < len
          · have hc := hcell i hi
            rw [cellsTy, List.getElem?_eq_getElem (by omega)] at hc
            obtain ⟨ds, hd, ht⟩ := Option.bind_eq_some_iff.1 hc
            obtain ⟨t, ht⟩ := ihn n2 (by omega) ds _ ht
            obtain ⟨_, hdl, hat⟩ := World.cells?_some hd
            refine ⟨(t, ds), fun _ => ⟨ht, hdl, fun j u hj => ?_⟩⟩
            have hj3 : j < 3 := by rw [← hdl]; exact (List.getElem?_eq_some_iff.1 hj).1
            rw [← Go.Deep.add_add, hat j hj3]
            exact hj
          · exact ⟨(.node ⟨0, []⟩ [], []), fun h => absurd h hi⟩
        obtain ⟨f, hfp⟩ := Classical.skolem.1 hall
        have hkl : ((List.range len).map fun i => (f i).1).length = len := by simp
        have hr : Reads tyHead 3 W (.node ⟨k, ls⟩ ((List.range len).map fun i => (f i).1)) ([.int .i64 k, .slice L ls.length c] ++ [.slice (some a) ((List.range len).map fun i => (f i).1).length cap]) := by
          refine .node _ _ _ (some a) cap (fun i => (f i).2) ⟨L, c, rfl, l3, hk.1, hk.2, l1, l2⟩ rfl (by rw [hkl]; unfold maxLen at hm; omega) (fun j hj => ?_) (fun j t hj => ?_) (by rw [hkl]; exact hl)
          · rw [hkl] at hj
            exact ⟨(hfp j hj).2.1, a, rfl, (hfp j hj).2.2⟩
          · rw [List.getElem?_map] at hj
            obtain ⟨i, hi, rfl⟩ := Option.map_eq_some_iff.1 hj
            have hjl : j < len := by have := (List.getElem?_eq_some_iff.1 hi).1; simpa using this
            have hij : i = j := by rw [List.getElem?_range hjl] at hi; injection hi with hi; exact hi.symm
            subst hij
            exact (hfp i hjl).1
        rw [hkl] at hr
        exact ⟨_, hr⟩
set_option maxRecDepth 100000 in
/-- an argument of the laws' own type -/
theorem open_ty {H : Type} {enc : TypeId × Value → H} {W : World} {r : Reach} {b0 : Nat} {v : Value} {d : DataW H} {ps : List MemPlace} (hval : Value.okWide Tryz.prog W r b0 86 v) (hd : DataW.Trod enc Tryz.prog W 0 (fun _ => true) true 86 v d ps) :
    ∃ (t : Ty) (cs : List Value), v = .agg cs.toArray ∧ RTy W t cs := by
  obtain ⟨cs, rfl, hsz⟩ := okWide_struct Tryz.underlying86 hval
  obtain ⟨fuel, hf⟩ := hd
  obtain ⟨t, ht⟩ := read_ty fuel _ _ hf
  exact ⟨t, _, rfl, ht⟩
end Go.Proofs.YtlikmgkjilmjpaaGreat

/-
  A type that came in, read as data: a tree.
-/
namespace Go.Proofs.YtlikmgkjilmjpaaGreat
open Go.ChangeShapes Go.WideShapes Go.ChangeAt Go.RowKit

theorem cellsVa : Tryz.prog.cellsOf 31 = 4 := by kernel_rfl
theorem cellsVas : Tryz.prog.cellsOf 29 = 1 := by kernel_rfl
set_option maxRecDepth 100000 in
theorem read_va {H : Type} {enc : TypeId × Value → H} {W : World} : ∀ (n : Nat) (cs : List Value) (x : DataW H × List MemPlace), DataW.trod enc Tryz.prog W 0 (fun _ => true) true n 31 cs = some x → ∃ t : Va, RVa W t cs := by
  intro n
  induction n using Nat.strongRecOn with
  | _ n ihn =>
    intro cs x h
    obtain ⟨xs, n1, rfl, _, hlen, hxl, hf⟩ := DataW.trod_struct Tryz.underlying31 h
    rw [cellsVa] at hlen
    match cs, hlen with
    | [c0, c1, c2, c3], _ =>
      have hx3 : xs.length = 4 := hxl
      have h0 : DataW.trod enc Tryz.prog W 0 (fun _ => true) true n1 3 (([c0, c1, c2, c3].drop 0).take (Tryz.prog.cellsOf 3)) = xs[0]? := hf 0 _ rfl
      have h1 : DataW.trod enc Tryz.prog W 0 (fun _ => true) true n1 3 (([c0, c1, c2, c3].drop 1).take (Tryz.prog.cellsOf 3)) = xs[1]? := hf 1 _ rfl
      have h2 : DataW.trod enc Tryz.prog W 0 (fun _ => true) true n1 28 (([c0, c1, c2, c3].drop 2).take (Tryz.prog.cellsOf 28)) = xs[2]? := hf 2 _ rfl
      have h3 : DataW.trod enc Tryz.prog W 0 (fun _ => true) true n1 29 (([c0, c1, c2, c3].drop 3).take (Tryz.prog.cellsOf 29)) = xs[3]? := hf 3 _ rfl
      rw [cellsInt, List.getElem?_eq_getElem (by omega)] at h0
      rw [cellsInt, List.getElem?_eq_getElem (by omega)] at h1
      rw [cellsStrs, List.getElem?_eq_getElem (by omega)] at h2
      rw [cellsVas, List.getElem?_eq_getElem (by omega)] at h3
      simp only [List.drop, List.take] at h0 h1 h2 h3
      obtain ⟨k, e0, _, wk⟩ := DataW.trod_int Tryz.underlying3 h0
      injection e0 with e0
      subst e0
      have hk : -9223372036854775808 ≤ k ∧ k ≤ 9223372036854775807 := by simpa [Lit.wf, IntKind.min, IntKind.max, IntKind.signed, IntKind.bits] using wk
      obtain ⟨m, e1, _, wm⟩ := DataW.trod_int Tryz.underlying3 h1
      injection e1 with e1
      subst e1
      have hm' : -9223372036854775808 ≤ m ∧ m ≤ 9223372036854775807 := by simpa [Lit.wf, IntKind.min, IntKind.max, IntKind.signed, IntKind.bits] using wm
      obtain ⟨L, c, ls, rfl, l1, l2, l3⟩ := read_labels h2
      rcases DataW.trod_slice Tryz.underlying29 h3 with ⟨e2, _⟩ | ⟨a, len, cap, elems, rest, n2, hn2, e2, _, _, hl, hm, hel, hcell, _, _⟩
      · injection e2 with e2
        subst e2
        have hr : RVa W (.node ⟨k, m, ls⟩ []) [.int .i64 k, .int .i64 m, .slice L ls.length c, .slice none ([] : List Va).length 0] :=
          RVa.make l3 ⟨hk.1, hk.2, hm'.1, hm'.2, l1, l2⟩ (by simp) (by simp) ⟨fun _ => [], fun j t hj => by simp at hj⟩
        exact ⟨_, hr⟩
      · injection e2 with e2
        subst e2
        have hall : ∀ i, ∃ p : Va × List Value, i < len → RVa W p.1 p.2 ∧ p.2.length = 4 ∧ ∀ j u, p.2[j]? = some u → W.cell? (a.add (i * 4 + j)) = some u := by
          intro i
          by_cases hi : i < len
          · have hc := hcell i hi
            rw [cellsVa, List.getElem?_eq_getElem (by omega)] at hc
            obtain ⟨ds, hd, ht⟩ := Option.bind_eq_some_iff.1 hc
            obtain ⟨t, ht⟩ := ihn n2 (by omega) ds _ ht
            obtain ⟨_, hdl, hat⟩ := World.cells?_some hd
            refine ⟨(t, ds), fun _ => ⟨ht, hdl, fun j u hj => ?_⟩⟩
            have hj3 : j < 4 := by rw [← hdl]; exact (List.getElem?_eq_some_iff.1 hj).1
            rw [← Go.Deep.add_add, hat j hj3]
            exact hj
          · exact ⟨(.node ⟨0, 0, []⟩ [], []), fun h => absurd h hi⟩
        obtain ⟨f, hfp⟩ := Classical.skolem.1 hall
        have hkl : ((List.range len).map fun i => (f i).1).length = len := by simp
        have hr : RVa W (.node ⟨k, m, ls⟩ ((List.range len).map fun i => (f i).1)) [.int .i64 k, .int .i64 m, .slice L ls.length c, .slice (some a) ((List.range len).map fun i => (f i).1).length cap] := by
          refine RVa.make l3 ⟨hk.1, hk.2, hm'.1, hm'.2, l1, l2⟩ (by rw [hkl]; unfold maxLen at hm; omega) (by rw [hkl]; exact hl) ⟨fun i => (f i).2, fun j t hj => ?_⟩
          rw [List.getElem?_map] at hj
          obtain ⟨i, hi, rfl⟩ := Option.map_eq_some_iff.1 hj
          have hjl : j < len := by have := (List.getElem?_eq_some_iff.1 hi).1; simpa using this
          have hij : i = j := by rw [List.getElem?_range hjl] at hi; injection hi with hi; exact hi.symm
          subst hij
          exact ⟨(hfp i hjl).1, a, rfl, (hfp i hjl).2.2⟩
        rw [hkl] at hr
        exact ⟨_, hr⟩
set_option maxRecDepth 100000 in
/-- an argument of the laws' own type -/
theorem open_va {H : Type} {enc : TypeId × Value → H} {W : World} {r : Reach} {b0 : Nat} {v : Value} {d : DataW H} {ps : List MemPlace} (hval : Value.okWide Tryz.prog W r b0 31 v) (hd : DataW.Trod enc Tryz.prog W 0 (fun _ => true) true 31 v d ps) :
    ∃ (t : Va) (cs : List Value), v = .agg cs.toArray ∧ RVa W t cs := by
  obtain ⟨cs, rfl, hsz⟩ := okWide_struct Tryz.underlying31 hval
  obtain ⟨fuel, hf⟩ := hd
  obtain ⟨t, ht⟩ := read_va fuel _ _ hf
  exact ⟨t, _, rfl, ht⟩
end Go.Proofs.YtlikmgkjilmjpaaGreat

/-
  What came in, read as a datum of a kind.
-/
namespace Go.Proofs.YtlikmgkjilmjpaaGreat
open Go.ChangeShapes Go.WideShapes Go.ChangeAt Go.RowKit

/-- what is read at the type T is a datum of the kind a -/
def ReadK {α : Type} (a : Kd α) (T : TypeId) : Prop :=
  Tryz.prog.cellsOf T = a.n ∧ ∀ (H : Type) (enc : TypeId × Value → H) (W : World) (n : Nat) (cs : List Value) (x : DataW H × List MemPlace), DataW.trod enc Tryz.prog W 0 (fun _ => true) true n T cs = some x → ∃ t, a.R W t cs

set_option maxRecDepth 100000 in
theorem readK_list {α : Type} (z : α) {a : Kd α} {T S : TypeId} (e : TypeId) (hu : Tryz.prog.underlying S = some (.slice T)) (hc : Tryz.prog.cellsOf S = 1) (h : ReadK a T) : ReadK (a.list e) S := by
  refine ⟨hc, fun H enc W n cs x hx => ?_⟩
  rcases DataW.trod_slice hu hx with ⟨rfl, _⟩ | ⟨A, len, cap, elems, rest, n2, _, rfl, _, _, hl, hm, hel, hcell, _, _⟩
  · exact ⟨[], none, 0, rfl, by simp, by simp, rl_nil a W none⟩
  · have hall : ∀ i, ∃ p : α × List Value, i < len → a.R W p.1 p.2 ∧ ∀ j u, p.2[j]? = some u → W.cell? (A.add (i * a.n + j)) = some u := by
      intro i
      by_cases hi : i < len
      · have hq := hcell i hi
        rw [h.1, List.getElem?_eq_getElem (by omega)] at hq
        obtain ⟨ds, hd, ht⟩ := Option.bind_eq_some_iff.1 hq
        obtain ⟨t, ht⟩ := h.2 _ _ _ _ _ _ ht
        obtain ⟨_, hdl, hat⟩ := World.cells?_some hd
        refine ⟨(t, ds), fun _ => ⟨ht, fun j u hj => ?_⟩⟩
        have hjn : j < a.n := by rw [← hdl]; exact (List.getElem?_eq_some_iff.1 hj).1
        rw [← Go.Deep.add_add, hat j hjn]
        exact hj
      · exact ⟨(z, []), fun h => absurd h hi⟩
    obtain ⟨f, hf⟩ := Classical.skolem.1 hall
    have hkl : ((List.range len).map fun i => (f i).1).length = len := by simp
    refine ⟨(List.range len).map fun i => (f i).1, some A, cap, by rw [hkl], by rw [hkl]; unfold maxLen at hm; omega, by rw [hkl]; exact hl, fun i => (f i).2, fun j t hj => ?_⟩
    rw [List.getElem?_map] at hj
    obtain ⟨i, hi, rfl⟩ := Option.map_eq_some_iff.1 hj
    have hjl : j < len := by have := (List.getElem?_eq_some_iff.1 hi).1; simpa using this
    have hij : i = j := by rw [List.getElem?_range hjl] at hi; injection hi with hi; exact hi.symm
    subst hij
    exact ⟨(hf i hjl).1, A, rfl, (hf i hjl).2⟩
theorem readK_str {T : TypeId} (hu : Tryz.prog.underlying T = some .string) (hc : Tryz.prog.cellsOf T = 1) : ReadK kStr T := by
  refine ⟨hc, fun H enc W n cs x hx => ?_⟩
  obtain ⟨s, rfl, _, hw⟩ := DataW.trod_string hu hx
  exact ⟨s, rfl, by simpa [Lit.wf, maxLen] using hw⟩
theorem readK_int {T : TypeId} (hu : Tryz.prog.underlying T = some (.int .i64)) (hc : Tryz.prog.cellsOf T = 1) : ReadK kInt T := by
  refine ⟨hc, fun H enc W n cs x hx => ?_⟩
  obtain ⟨k, rfl, _, wk⟩ := DataW.trod_int hu hx
  exact ⟨k, rfl, by simpa [Lit.wf, IntKind.min, IntKind.max, IntKind.signed, IntKind.bits] using wk⟩
/-- a struct of one field -/
theorem readK_one {α : Type} {a : Kd α} {T : TypeId} {f : Field} (hu : Tryz.prog.underlying T = some (.struct #[f])) (hc : Tryz.prog.cellsOf T = a.n) (h0 : f.offset = 0) (h : ReadK a f.type) : ReadK a T := by
  refine ⟨hc, fun H enc W n cs x hx => ?_⟩
  obtain ⟨y0, n2, _, hlen, hf⟩ := trod_struct1 hu hx
  rw [h0, h.1, List.drop_zero, List.take_of_length_le (by omega)] at hf
  exact h.2 _ _ _ _ _ _ hf
/-- a struct of two fields -/
theorem readK_two {α β : Type} {a : Kd α} {b : Kd β} {T : TypeId} {f g : Field} (hu : Tryz.prog.underlying T = some (.struct #[f, g])) (hc : Tryz.prog.cellsOf T = a.n + b.n) (h0 : f.offset = 0) (h1 : g.offset = a.n) (ha : ReadK a f.type) (hb : ReadK b g.type) : ReadK (a.prod b) T := by
  refine ⟨hc, fun H enc W n cs x hx => ?_⟩
  obtain ⟨y0, y1, n2, _, hlen, hf, hg⟩ := trod_struct2 hu hx
  rw [h0, ha.1, List.drop_zero] at hf
  rw [h1, hb.1, List.take_of_length_le (by rw [List.length_drop]; omega)] at hg
  obtain ⟨t, ht⟩ := ha.2 _ _ _ _ _ _ hf
  obtain ⟨u, hu⟩ := hb.2 _ _ _ _ _ _ hg
  exact ⟨(t, u), _, _, (List.take_append_drop a.n cs).symm, ht, hu⟩
/-- a struct of three fields -/
theorem readK_three {α β γ : Type} {a : Kd α} {b : Kd β} {c : Kd γ} {T : TypeId} {f g k : Field} (hu : Tryz.prog.underlying T = some (.struct #[f, g, k])) (hc : Tryz.prog.cellsOf T = a.n + (b.n + c.n)) (h0 : f.offset = 0) (h1 : g.offset = a.n) (h2 : k.offset = a.n + b.n)
    (ha : ReadK a f.type) (hb : ReadK b g.type) (hk : ReadK c k.type) : ReadK (a.prod (b.prod c)) T := by
  refine ⟨hc, fun H enc W n cs x hx => ?_⟩
  obtain ⟨y0, y1, y2, n2, _, hlen, hf, hg, hq⟩ := Go.Deep.trod_struct3 hu hx
  rw [h0, ha.1, List.drop_zero] at hf
  rw [h1, hb.1] at hg
  rw [h2, hk.1, List.take_of_length_le (by rw [List.length_drop]; omega)] at hq
  obtain ⟨t, ht⟩ := ha.2 _ _ _ _ _ _ hf
  obtain ⟨u, hu⟩ := hb.2 _ _ _ _ _ _ hg
  obtain ⟨v, hv⟩ := hk.2 _ _ _ _ _ _ hq
  refine ⟨(t, u, v), _, _, (List.take_append_drop a.n cs).symm, ht, _, _, ?_, hu, hv⟩
  rw [← List.drop_drop, List.take_append_drop]
theorem readK_ty : ReadK kTy 86 := ⟨cellsTy, fun _ _ _ n cs x h => read_ty n cs x h⟩
theorem readK_va : ReadK kVa 31 := ⟨cellsVa, fun _ _ _ n cs x h => read_va n cs x h⟩
set_option maxRecDepth 100000 in
/-- an argument that is a struct -/
theorem open_kd {α : Type} {a : Kd α} {T : TypeId} {fs : Array Field} {H : Type} {enc : TypeId × Value → H} {W : World} {r : Reach} {b0 : Nat} {v : Value} {d : DataW H} {ps : List MemPlace} (hu : Tryz.prog.underlying T = some (.struct fs)) (h : ReadK a T)
    (hval : Value.okWide Tryz.prog W r b0 T v) (hd : DataW.Trod enc Tryz.prog W 0 (fun _ => true) true T v d ps) : ∃ (t : α) (cs : List Value), v = .agg cs.toArray ∧ a.R W t cs := by
  obtain ⟨cs, rfl, hsz⟩ := okWide_struct hu hval
  obtain ⟨fuel, hf⟩ := hd
  obtain ⟨t, ht⟩ := h.2 _ _ _ _ _ _ hf
  exact ⟨t, _, rfl, ht⟩
end Go.Proofs.YtlikmgkjilmjpaaGreat

/-
  A schema that came in.
-/
namespace Go.Proofs.YtlikmgkjilmjpaaGreat
open Go.ChangeShapes Go.WideShapes Go.ChangeAt Go.RowKit

theorem readK_dc : ReadK kDc 88 := readK_two Tryz.underlying88 (by kernel_rfl) rfl rfl (readK_str Tryz.underlying9 cellsStr1) readK_ty
theorem readK_sc : ReadK (kDc.list 98) 24 := readK_one Tryz.underlying24 (by kernel_rfl) rfl (readK_list (⟨#[]⟩, .node ⟨0, []⟩ []) _ Tryz.underlying22 (by kernel_rfl) readK_dc)
set_option maxRecDepth 100000 in
/-- an argument of the laws' own type -/
theorem open_sc {H : Type} {enc : TypeId × Value → H} {W : World} {r : Reach} {b0 : Nat} {v : Value} {d : DataW H} {ps : List MemPlace} (hval : Value.okWide Tryz.prog W r b0 24 v) (hd : DataW.Trod enc Tryz.prog W 0 (fun _ => true) true 24 v d ps) :
    ∃ (t : Sc) (cs : List Value), v = .agg cs.toArray ∧ RSc W t cs := open_kd Tryz.underlying24 readK_sc hval hd
end Go.Proofs.YtlikmgkjilmjpaaGreat

/-
  A database that came in.
-/
namespace Go.Proofs.YtlikmgkjilmjpaaGreat
open Go.ChangeShapes Go.WideShapes Go.ChangeAt Go.RowKit

theorem readK_dd : ReadK kDd 91 := readK_two Tryz.underlying91 (by kernel_rfl) rfl rfl (readK_str Tryz.underlying9 cellsStr1) (readK_list (.node ⟨0, 0, []⟩ []) _ Tryz.underlying29 cellsVas readK_va)
theorem readK_db : ReadK (kDd.list 66) 27 := readK_one Tryz.underlying27 (by kernel_rfl) rfl (readK_list (⟨#[]⟩, []) _ Tryz.underlying25 (by kernel_rfl) readK_dd)
set_option maxRecDepth 100000 in
/-- an argument of the laws' own type -/
theorem open_db {H : Type} {enc : TypeId × Value → H} {W : World} {r : Reach} {b0 : Nat} {v : Value} {d : DataW H} {ps : List MemPlace} (hval : Value.okWide Tryz.prog W r b0 27 v) (hd : DataW.Trod enc Tryz.prog W 0 (fun _ => true) true 27 v d ps) :
    ∃ (t : Db) (cs : List Value), v = .agg cs.toArray ∧ RDb W t cs := open_kd Tryz.underlying27 readK_db hval hd
end Go.Proofs.YtlikmgkjilmjpaaGreat

/-
  A slice of strings that came in, read as data: a list of texts.
-/
namespace Go.Proofs.YtlikmgkjilmjpaaGreat
open Go.ChangeShapes Go.WideShapes Go.ChangeAt Go.RowKit

theorem cellsStr : Tryz.prog.cellsOf 9 = 1 := by kernel_rfl
set_option maxRecDepth 100000 in
theorem open_list {H : Type} {enc : TypeId × Value → H} {W : World} {r : Reach} {b0 : Nat} {v : Value} {d : DataW H} {ps : List MemPlace} (hval : Value.okWide Tryz.prog W r b0 28 v) (hd : DataW.Trod enc Tryz.prog W 0 (fun _ => true) true 28 v d ps) :
    ∃ (A : Option Addr) (cap : Nat) (xs : List ByteArray), v = .slice A xs.length cap ∧ xs.length ≤ 9223372036854775807 ∧ (∀ x ∈ xs, x.size ≤ 9223372036854775807) ∧ Sl W A (xs.map Value.string) := by
  obtain ⟨A, len, cap, rfl⟩ := okWide_slice Tryz.underlying28 hval
  obtain ⟨fuel, hf⟩ := hd
  rcases open_strings Tryz.underlying28 Tryz.underlying9 cellsStr hf with ⟨hcs, _⟩ | ⟨a, len', cap', ss, hcs, _, hl, hm, hz, _, hcell, hss⟩
  · simp [Value.cells] at hcs
    obtain ⟨rfl, rfl, rfl⟩ := hcs
    exact ⟨none, 0, [], rfl, by simp, by simp, fun j u hj => by simp at hj⟩
  · simp [Value.cells] at hcs
    obtain ⟨rfl, rfl, rfl⟩ := hcs
    simp only [if_true] at hz
    have hlen : (ss.take len).length = len := by rw [List.length_take]; omega
    refine ⟨some a, cap, ss.take len, by rw [hlen], by rw [hlen]; unfold maxLen at hm; omega, fun x hx => by have := hss x (List.mem_of_mem_take hx); unfold maxLen at this; omega, fun j u hj => ?_⟩
    rw [List.getElem?_map, List.getElem?_take] at hj
    split at hj
    · obtain ⟨x, hx, rfl⟩ := Option.map_eq_some_iff.1 hj
      have hjl : j < ss.length := (List.getElem?_eq_some_iff.1 hx).1
      refine ⟨a, rfl, ?_⟩
      rw [hcell j hjl]
      simp [List.getD, hx]
    · simp at hj
theorem own0 : ownKnob Tryz.prog.godebug = none := by kernel_rfl
theorem laid0 : laidOutB Tryz.prog = true := by kernel_rfl
end Go.Proofs.YtlikmgkjilmjpaaGreat
