/-
  Merged by program: SrtL.
-/
import Derived.Test.YtpcegakpdjmaaaaCC11
import Derived.Test.YtpcegakpdjmaaaaCC28
import Derived.Test.YtpcegakpdjmaaaaCC22
import Derived.Test.YtpcegakpdjmaaaaShelfV

/-
  The library's slices.SortFunc at a list of values, with the program's CompareValues.
-/
namespace Go.Proofs.Ytpcegakpdjmaaaa
open Go.RowKit Go.Sort

/-- an element as it lies in memory: the value, its cells, its blocks; the row g is none of them -/
def ElV (w : World) (g : Nat) : Type := { p : Va × List Value × List Nat // (∀ W', Held (fun i => i ∈ p.2.2) w W' → OVa W' p.1 p.2.1 p.2.2) ∧ g ∉ p.2.2 ∧ p.1.size ≤ 1048577 }
def ElV.va {w : World} {g : Nat} (x : ElV w g) : Va := x.1.1
def ElV.enc {w : World} {g : Nat} (x : ElV w g) : List Value := x.1.2.1
def ElV.fp {w : World} {g : Nat} (x : ElV w g) : List Nat := x.1.2.2
theorem ElV.own {w : World} {g : Nat} (x : ElV w g) : OVa w x.va x.enc x.fp := x.2.1 w (Held.refl _ _)
theorem ElV.len {w : World} {g : Nat} (x : ElV w g) : x.enc.length = 4 := x.own.reads.len
theorem ElV.one {w : World} {g : Nat} (x : ElV w g) : ∀ v ∈ x.enc, v.oneCell' = true := by
  obtain ⟨L, c, A, d, e⟩ := x.own.four
  rw [e]
  intro u hu
  simp only [List.mem_cons, List.not_mem_nil, or_false] at hu
  rcases hu with rfl | rfl | rfl | rfl <;> rfl
def ElV.cmp {w : World} {g : Nat} (x y : ElV w g) : Int := cmpV x.va y.va
theorem ElV.swo {w : World} {g : Nat} : SWO (ltOf (ElV.cmp (w := w) (g := g))) where
  irrefl x := by unfold ltOf ElV.cmp; rw [cmpV_self]; rfl
  trans x y z h1 h2 := by
    unfold ltOf ElV.cmp at *
    rw [decide_eq_true_iff] at *
    exact cmpV_trans _ _ _ h1 h2
  ntrans x y z h1 h2 := by
    unfold ltOf ElV.cmp at *
    rw [decide_eq_false_iff_not] at *
    have e1 : leV y.va x.va = true := by rw [leV_iff, cmpV_neg]; omega
    have e2 : leV z.va y.va = true := by rw [leV_iff, cmpV_neg]; omega
    have e3 := leV_trans e2 e1
    rw [leV_iff, cmpV_neg] at e3
    omega

theorem flat_list {β : Type} (f : β → List Nat) : ∀ L : List β, ((List.range L.length).flatMap fun j => (L[j]?.map f).getD []) = (L.map f).flatten
  | [] => rfl
  | x :: L => by
    rw [List.length_cons, List.range_succ_eq_map, List.flatMap_cons, List.flatMap_map]
    simp only [List.getElem?_cons_zero, Option.map_some, Option.getD_some, List.getElem?_cons_succ]
    rw [flat_list f L]
    rfl

section
variable {α : Type} [Inhabited α]
theorem putRow_block (w : World) (g : Nat) (F : Array Value) {cur : Array Value} {e : TypeId} {fr : Nat × Nat} (h : w.heap[g]? = some (.cells cur e fr)) : (putRow id w g 0 F).heap[g]? = some (.cells (putCells id 0 F cur) e fr) := by
  unfold putRow mapBlock
  simp only [Array.getElem?_modify, if_true, h]
  rfl
theorem sortWorldK_block (enc : α → List Value) (w : World) (g m : Nat) (dk : Array α) (os : Array Obj) {cur : Array Value} {e : TypeId} {fr : Nat × Nat} (h : w.heap[g]? = some (.cells cur e fr)) : (sortWorldK enc 4 w g 0 m dk os).heap[g]? = some (.cells (putCells id 0 (flatK enc 4 dk) cur) e fr) := by
  have hl : g < w.heap.size := (Array.getElem?_eq_some_iff.1 h).1
  unfold sortWorldK putRowK
  rw [heap_grow_old _ _ (by unfold putRow mapBlock; simpa [Sort.ahead] using hl)]
  exact putRow_block (Sort.ahead w m) g _ h
theorem sortWorldK_held (enc : α → List Value) (w : World) (g m : Nat) (dk : Array α) (os : Array Obj) : Held (fun i => i ≠ g) w (sortWorldK enc 4 w g 0 m dk os) := by
  refine ⟨rfl, rfl, rfl, ?_, fun i hi hne => ?_⟩
  · unfold sortWorldK putRowK putRow mapBlock grow
    simp [Sort.ahead]
  · unfold sortWorldK
    rw [heap_grow_old _ _ (by unfold putRowK putRow mapBlock; simpa [Sort.ahead] using hi)]
    unfold putRowK putRow mapBlock
    simp only [Array.getElem?_modify]
    rw [if_neg (fun e => hne e.symm)]
    rfl
end
theorem part4_flat {w : World} {g : Nat} [Inhabited (ElV w g)] (D : Array (ElV w g)) (j : Nat) (hj : j < D.size) : part4 (flatK ElV.enc 4 D).toList j = (D[j]).enc := by
  apply List.ext_getElem?
  intro i
  have hl : (flatK ElV.enc 4 D).toList.length = D.size * 4 := by rw [Array.length_toList, size_flatK]
  by_cases hi : i < 4
  · rw [part4_get _ _ _ hi, List.getElem?_eq_getElem (by omega), List.getElem?_eq_getElem (by rw [ElV.len]; exact hi)]
    congr 1
    rw [Array.getElem_toList, ← getElem!_pos (flatK ElV.enc 4 D) (j * 4 + i) (by rw [size_flatK]; omega), get_flatK _ _ _ _ (by omega)]
    have e1 : (j * 4 + i) / 4 = j := by omega
    have e2 : (j * 4 + i) % 4 = i := by omega
    rw [e1, e2, getElem!_pos D j hj, getElem!_pos _ i (by rw [ElV.len]; exact hi)]
  · rw [List.getElem?_eq_none (by rw [part4_len _ _ (by omega)]; omega), List.getElem?_eq_none (by rw [ElV.len]; omega)]

def Sorted (ls : List Va) (s : Value) (fp : List Nat) (w : World) (e : Ending) (w' : World) : Prop := e = .returned (.tuple #[]) ∧ OVs w' (sortV ls) s fp ∧ Held (fun i => i ∉ fp) w w'

theorem sortFn_any (ls : List Va) (s : Value) (fp : List Nat) (w : World) (h : OVs w ls s fp) (hs : ∀ t ∈ ls, t.size ≤ 1048577) (hl : ls.length ≤ 1048577) :
    Calls Try.prog 51 #[s, .func (.func 20) #[] #[]] w (Sorted ls s fp w) := by
  have hcopy := h
  obtain ⟨A, cap, xs, fs, rfl, _, hrow, hkid, hperm, hnd⟩ := h
  by_cases hn : ls.length = 0
  · have e : ls = [] := List.eq_nil_of_length_eq_zero hn
    subst e
    refine (AnyF.slices_SortFunc_none Try.sortV A cap _ w).mono ?_
    rintro e w' ⟨rfl, rfl⟩
    refine ⟨rfl, ?_, Held.refl _ _⟩
    rw [show sortV [] = [] from sortV_small (by simp)]
    exact hcopy
  obtain ⟨g, rfl⟩ := own_some hrow (by omega)
  have hxl : xs.length = ls.length * 4 := hrow.1
  have hgl : g < w.heap.size := (hrow.lt g rfl).2
  have hnd' := hperm.nodup_iff.2 hnd
  have hgf : ∀ j, j < ls.length → g ∉ fs j := fun j hj hm => (List.nodup_append.1 hnd').2.2 g (by simp [blk]) g (in_flat.2 ⟨j, hj, hm⟩) rfl
  have hel : ∀ j : Fin ls.length, (∀ W', Held (fun i => i ∈ fs j) w W' → OVa W' ls[j] (part4 xs j) (fs j)) ∧ g ∉ fs j ∧ (ls[j]).size ≤ 1048577 := fun j =>
    ⟨fun W' hH => (hkid j _ (List.getElem?_eq_getElem j.2)).held hH fun b hb => hb, hgf j j.2, hs _ (List.getElem_mem j.2)⟩
  obtain ⟨el, hel0⟩ : ∃ el : Fin ls.length → ElV w g, ∀ j, (el j).1 = (ls[j], part4 xs j, fs j) := ⟨fun j => ⟨(ls[j], part4 xs j, fs j), hel j⟩, fun j => rfl⟩
  letI : Inhabited (ElV w g) := ⟨el ⟨0, by omega⟩⟩
  obtain ⟨D, hD⟩ : ∃ D : Array (ElV w g), D = Array.ofFn el := ⟨_, rfl⟩
  have hDs : D.size = ls.length := by rw [hD]; simp
  have hDg : ∀ j (hj : j < D.size), (D[j]).1 = (ls[j]'(by omega), part4 xs j, fs j) := fun j hj => by
    subst hD
    rw [Array.getElem_ofFn]
    exact hel0 _
  have hH : HoldsK ElV.enc 4 w g 0 D := by
    intro j hj
    rw [size_flatK, hDs] at hj
    refine ⟨?_, by rw [Nat.zero_add]; exact hrow.frozenAt j⟩
    have hjd : j / 4 < D.size := by omega
    have e := part4_flat D (j / 4) hjd
    have e2 : (D[j / 4]).enc = part4 xs (j / 4) := by unfold ElV.enc; rw [hDg _ hjd]
    rw [Nat.zero_add, hrow.cellAt j (by omega), getElem!_pos _ j (by rw [size_flatK, hDs]; exact hj)]
    have h1 : (part4 (flatK ElV.enc 4 D).toList (j / 4))[j % 4]? = (part4 xs (j / 4))[j % 4]? := by rw [e, e2]
    rw [part4_get _ _ _ (by omega), part4_get _ _ _ (by omega), show j / 4 * 4 + j % 4 = j by omega] at h1
    rw [← h1, List.getElem?_eq_getElem (by rw [Array.length_toList, size_flatK, hDs]; exact hj), Array.getElem_toList]
    rfl
  have hcmp : CmpLays Try.prog 20 #[] ElV.enc 4 (ElV.cmp (w := w) (g := g)) g 0 D.size w := by
    intro m os dk _ x y
    obtain ⟨Wk, hWk⟩ : ∃ Wk, sortWorldK ElV.enc 4 w g 0 m dk os = Wk := ⟨_, rfl⟩
    have hHk : Held (fun i => i ≠ g) w Wk := by rw [← hWk]; exact sortWorldK_held ElV.enc w g m dk os
    rw [hWk]
    have hx := x.2.1 Wk (hHk.mono fun i _ hi e => x.2.2.1 (e ▸ hi))
    have hy := y.2.1 Wk (hHk.mono fun i _ hi e => y.2.2.1 (e ▸ hi))
    have hc := implCmp_any x.va y.va Wk _ _ hx.reads hy.reads x.2.2.2
    have ea : (#[.agg (ElV.enc x).toArray, .agg (ElV.enc y).toArray] ++ #[] : Array Value) = #[.agg (ElV.enc x).toArray, .agg (ElV.enc y).toArray] := by simp
    rw [ea]
    exact hc.mono fun e w' hq => ⟨hq.1, hq.2.eq⟩
  have hcall := AnyQ.slices_SortFunc Try.sortV 4 Try.isAgg30 Try.sizeOf30 ElV.enc ElV.len ElV.one ElV.cmp ElV.swo 20 #[] g 0 cap D w (enters_of Try.func20 (by kernel_rfl) rfl) hcmp hH hgl (by omega)
  rw [hDs] at hcall
  refine hcall.mono ?_
  rintro e w' ⟨rfl, D', m, os, hp, hso, hw'⟩
  have hps : D'.size = ls.length := hp.1.trans hDs
  have hpl : D'.toList.Perm D.toList := by
    have := hp.2.2
    rw [Array.extract_eq_self_of_le (by omega), Array.extract_eq_self_of_le (by omega)] at this
    exact this
  have hDl : D.toList.map ElV.va = ls := by
    apply List.ext_getElem
    · rw [List.length_map, Array.length_toList, hDs]
    · intro i h1 h2
      rw [List.getElem_map, Array.getElem_toList]
      unfold ElV.va
      rw [hDg]
  have hDf : (D.toList.map ElV.fp).flatten = (List.range ls.length).flatMap fs := by
    rw [← flat_list, Array.length_toList, hDs]
    refine flatMap_same fun j hj => ?_
    rw [List.getElem?_eq_getElem (by rw [Array.length_toList, hDs]; exact hj), Option.map_some, Option.getD_some, Array.getElem_toList]
    unfold ElV.fp
    rw [hDg]
  have hvp : (D'.toList.map ElV.va).Perm ls := by rw [← hDl]; exact hpl.map _
  have hsort : D'.toList.map ElV.va = sortV ls := by
    refine sortV_eq hvp ?_
    rw [List.pairwise_iff_getElem]
    intro i j h1 h2 hij
    rw [List.length_map, Array.length_toList] at h1 h2
    have := hso i j (Nat.zero_le _) hij (by omega)
    rw [getElem!_pos D' j h2, getElem!_pos D' i h1] at this
    unfold ltOf ElV.cmp at this
    rw [decide_eq_false_iff_not] at this
    rw [List.getElem_map, List.getElem_map, Array.getElem_toList, Array.getElem_toList, leV_iff, cmpV_neg]
    omega
  have hHe : Held (fun i => i ≠ g) w w' := by rw [hw']; exact sortWorldK_held ElV.enc w g m D' os
  have hgfp : g ∈ fp := hperm.subset (by simp [blk])
  refine ⟨rfl, ?_, hHe.mono fun i _ hi e => hi (e ▸ hgfp)⟩
  have hlen : (sortV ls).length = ls.length := sortV_length ls
  have hrow' : w'.ownsRow 0 30 4 (.slice (some ⟨g, 0, none⟩) ls.length cap) ls.length (flatK ElV.enc 4 D').toList := by
    refine ⟨by rw [Array.length_toList, size_flatK, hps], .inr ?_⟩
    rcases hrow.2 with ⟨h', _⟩ | ⟨g', cap', cur, h', _, hg, hnc, hcm, hcs, htake⟩
    · simp at h'
    · simp only [Value.slice.injEq, Option.some.injEq, Addr.mk.injEq, and_true, true_and] at h'
      obtain ⟨rfl, rfl⟩ := h'
      refine ⟨g, cap, _, rfl, Nat.zero_le _, by rw [hw']; exact sortWorldK_block ElV.enc w g m D' os hg, hnc, hcm, by unfold putCells; simpa using hcs, ?_⟩
      have hf : (flatK ElV.enc 4 D').size = ls.length * 4 := by rw [size_flatK, hps]
      apply List.ext_getElem?
      intro i
      rw [List.getElem?_take]
      by_cases hi : i < ls.length * 4
      · rw [if_pos hi, List.getElem?_eq_getElem (by rw [Array.length_toList]; unfold putCells; rw [Array.size_mapIdx]; have := Nat.mul_le_mul_right 4 hnc; omega), List.getElem?_eq_getElem (by rw [Array.length_toList, hf]; exact hi), Array.getElem_toList, Array.getElem_toList]
        unfold putCells
        rw [Array.getElem_mapIdx, if_pos ⟨Nat.zero_le _, by rw [hf]; omega⟩, Nat.sub_zero, getElem!_pos _ i (by rw [hf]; exact hi)]
        rfl
      · rw [if_neg hi, List.getElem?_eq_none (by rw [Array.length_toList, hf]; omega)]
  rw [← hlen] at hrow' ⊢
  refine ⟨_, _, _, fun j => (D'.toList[j]?.map ElV.fp).getD [], rfl, by omega, hrow', fun j t hj => ?_, ?_, hnd⟩
  · have hj1 : j < D'.size := by have := (List.getElem?_eq_some_iff.1 hj).1; omega
    show OVa w' t _ ((D'.toList[j]?.map ElV.fp).getD [])
    rw [part4_flat D' j hj1, List.getElem?_eq_getElem (by rw [Array.length_toList]; exact hj1), Option.map_some, Option.getD_some, Array.getElem_toList]
    rw [← hsort, List.getElem?_map, List.getElem?_eq_getElem (by rw [Array.length_toList]; exact hj1), Option.map_some, Array.getElem_toList] at hj
    injection hj with hj
    subst hj
    exact (D'[j]).2.1 w' (hHe.mono fun i _ hi e => (D'[j]).2.2.1 (e ▸ hi))
  · refine List.Perm.trans (List.Perm.append_left _ ?_) hperm
    have e := flat_list ElV.fp D'.toList
    rw [Array.length_toList, hps] at e
    rw [hlen, e, ← hDf]
    exact List.Perm.flatten (hpl.map _)
end Go.Proofs.Ytpcegakpdjmaaaa
