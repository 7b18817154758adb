/-
  Merged by program: CanT.
-/
import Derived.Test.YtpcegakpdjmaaaaCC32
import Derived.Test.YtpcegakpdjmaaaaCC38
import Derived.Test.YtpcegakpdjmaaaaCC29

/-
  The parts of a value sorted, as the model's CanonValue sorts them. Plain memory.
-/
namespace Go.Proofs.Ytpcegakpdjmaaaa
open Go.RowKit

theorem part4_zero {cs ys : List Value} (h : cs.length = 4) : part4 (cs ++ ys) 0 = cs := by
  unfold part4
  rw [Nat.zero_mul, List.drop_zero, List.take_append_of_le_length (by omega), List.take_of_length_le (by omega)]
theorem part4_succ {cs ys : List Value} (h : cs.length = 4) (j : Nat) : part4 (cs ++ ys) (j + 1) = part4 ys j := by
  unfold part4
  rw [show (j + 1) * 4 = cs.length + j * 4 by omega, List.drop_length_add_append]
theorem part4_cells : ∀ (L : List Tri), (∀ p ∈ L, p.2.1.length = 4) → ∀ j (hj : j < L.length), part4 (cellsL L) j = L[j].2.1
  | [], _, j, hj => by simp at hj
  | p :: L, h, 0, _ => by rw [cellsL_cons]; exact part4_zero (h p (by simp))
  | p :: L, h, j + 1, hj => by
    rw [cellsL_cons, part4_succ (h p (by simp)), part4_cells L (fun q hq => h q (by simp [hq])) j (by simpa using hj)]
    rfl
theorem cells_parts : ∀ (n : Nat) (xs : List Value), xs.length = n * 4 → ((List.range n).map (part4 xs)).flatten = xs
  | 0, xs, h => by
    have : xs = [] := List.eq_nil_of_length_eq_zero (by omega)
    subst this
    rfl
  | n + 1, xs, h => by
    obtain ⟨cs, ys, rfl, hc⟩ : ∃ cs ys, xs = cs ++ ys ∧ cs.length = 4 := ⟨xs.take 4, xs.drop 4, (List.take_append_drop 4 xs).symm, by rw [List.length_take]; omega⟩
    have hy : ys.length = n * 4 := by rw [List.length_append] at h; omega
    rw [List.range_succ_eq_map, List.map_cons, List.map_map, List.flatten_cons, part4_zero hc]
    have e : (part4 (cs ++ ys) ∘ Nat.succ) = part4 ys := by
      funext j
      exact part4_succ hc j
    rw [e, cells_parts n ys hy]

/-- the parts that a loop has put together, as a list of elements -/
def triL (KS : List Va) (t0 : Va) (xs : List Value) (fs : Nat → List Nat) : List Tri := (List.range KS.length).map fun j => (KS.getD j t0, part4 xs j, fs j)
theorem triL_len (KS : List Va) (t0 : Va) (xs : List Value) (fs : Nat → List Nat) : (triL KS t0 xs fs).length = KS.length := by simp [triL]
theorem triL_cells {KS : List Va} {t0 : Va} {xs : List Value} {fs : Nat → List Nat} (h : xs.length = KS.length * 4) : cellsL (triL KS t0 xs fs) = xs := by
  unfold cellsL triL
  rw [List.map_map]
  exact cells_parts _ _ h
theorem triL_va (KS : List Va) (t0 : Va) (xs : List Value) (fs : Nat → List Nat) : (triL KS t0 xs fs).map (·.1) = KS := by
  unfold triL
  rw [List.map_map]
  apply List.ext_getElem
  · simp
  · intro i h1 h2
    simp [List.getD_eq_getElem?_getD, List.getElem?_eq_getElem h2]
theorem triL_fp (KS : List Va) (t0 : Va) (xs : List Value) (fs : Nat → List Nat) : ((triL KS t0 xs fs).map (·.2.2)).flatten = (List.range KS.length).flatMap fs := by
  unfold triL
  rw [List.map_map, List.flatMap_def]
  rfl
theorem triL_mem {KS : List Va} {t0 : Va} {xs : List Value} {fs : Nat → List Nat} {w : World} (h : ∀ j t, j < KS.length → KS[j]? = some t → OVa w t (part4 xs j) (fs j)) : ∀ p ∈ triL KS t0 xs fs, OVa w p.1 p.2.1 p.2.2 := by
  intro p hp
  obtain ⟨j, hj, rfl⟩ := List.mem_map.1 hp
  have hj' := List.mem_range.1 hj
  have e : KS[j]? = some (KS.getD j t0) := by rw [List.getD_eq_getElem?_getD, List.getElem?_eq_getElem hj']; rfl
  exact h j _ hj' e

theorem canS_sorted {a : VaA} {KS : List Va} {W1 : World} {g : Nat} {LL : Option Addr} {lc : Nat} {A : Option Addr} {d : Nat} {xs : List Value} {fs : Nat → List Nat} {wr w8 : World} {e : Ending} {t0 : Va}
    (h : CInvV a KS W1 g LL lc KS.length A d xs fs wr) (hs : SortPost wr (triL KS t0 xs fs) A d e w8) :
    ∃ A8 c8 xs' fs', e = .returned (.slice A8 KS.length c8) ∧ Below wr.heap.size wr w8 ∧ CInvV a (sortV KS) W1 g LL lc KS.length A8 c8 xs' fs' (w8.setCell ⟨g, 3, none⟩ (.slice A8 KS.length c8)) := by
  obtain ⟨hbox, hrow, hlab, hkid, hnd, hbd, hwg, hb⟩ := h
  have hxl : xs.length = KS.length * 4 := hrow.1
  obtain ⟨L', A8, c8, rfl, hperm, hsrt, hb8, hsl, hc8, hor⟩ := hs
  rw [triL_len] at hc8 hor ⊢
  have hlen : L'.length = KS.length := by rw [hperm.length_eq, triL_len]
  have hgl := hbox.lt
  have hs8 := hb8.size
  have hown := triL_mem (t0 := t0) hkid
  have hown' : ∀ p ∈ L', OVa wr p.1 p.2.1 p.2.2 := fun p hp => hown p (hperm.mem_iff.1 hp)
  have h4 : ∀ p ∈ L', p.2.1.length = 4 := fun p hp => (hown' p hp).reads.len
  have hva : L'.map (·.1) = sortV KS := by
    refine sortV_eq ?_ ?_
    · have := hperm.map (·.1)
      rwa [triL_va] at this
    · rw [List.pairwise_map]
      exact hsrt
  have hfp : ((L'.map (·.2.2)).flatten).Perm ((List.range KS.length).flatMap fs) := by
    rw [← triL_fp KS t0 xs fs]
    exact (hperm.map _).flatten
  have hflat : ((List.range KS.length).flatMap fun j => (L'[j]?.map (·.2.2)).getD []) = (L'.map (·.2.2)).flatten := by rw [← hlen]; exact flat_list _ L'
  obtain ⟨nL, nA, nF, dLA, dLF, dAF⟩ := nodup3.1 hnd
  have bdL : ∀ b ∈ blk LL, W1.heap.size ≤ b ∧ b < wr.heap.size ∧ b ≠ g := fun b hm => hbd b (by simp [hm])
  have bdA : ∀ b ∈ blk A, W1.heap.size ≤ b ∧ b < wr.heap.size ∧ b ≠ g := fun b hm => hbd b (by simp [hm])
  have bdF : ∀ b ∈ (List.range KS.length).flatMap fs, W1.heap.size ≤ b ∧ b < wr.heap.size ∧ b ≠ g := fun b hm => hbd b (List.mem_append.2 (.inr hm))
  have hrow8 : w8.ownsRow 0 30 4 (.slice A8 KS.length c8) KS.length (cellsL L') ∧ ∀ b ∈ blk A8, (b ∈ blk A) ∨ (wr.heap.size ≤ b ∧ b < w8.heap.size) := by
    rcases hor with ⟨rfl, rfl, rfl⟩ | ho
    · rw [triL_cells hxl]
      exact ⟨own4_below hrow hb8, fun b hb => .inl hb⟩
    · exact ⟨own_base ho (Nat.zero_le _), fun b hb => .inr (ho.lt b ((blk_own _ _ _ _).2 hb))⟩
  obtain ⟨hr8, hA8⟩ := hrow8
  obtain ⟨w9, hw9⟩ : ∃ w9, w8.setCell ⟨g, 3, none⟩ (.slice A8 KS.length c8) = w9 := ⟨_, rfl⟩
  have hg9 : w8.grownBy w9 (some g) := by rw [← hw9]; exact grown_set (World.grownBy.refl _ _) _
  have hs9 := hg9.size
  have hA8g : ∀ b ∈ blk A8, b ≠ g := fun b hb => by
    rcases hA8 b hb with h | h
    · exact (bdA b h).2.2
    · omega
  have hws := hb.size
  refine ⟨A8, c8, cellsL L', fun j => (L'[j]?.map (·.2.2)).getD [], rfl, hb8, ?_⟩
  rw [hw9]
  refine ⟨?_, ?_, ?_, fun j t hj ht => ?_, ?_, ?_, hwg, ?_⟩
  · rw [← hw9]
    exact (hbox.under hb8 hgl).set3 _
  · exact own_keep hr8 hg9 (fun b hm e => by injection e with e; exact hA8g b hm e)
  · exact own_keep (own_keep hlab (row := none) ⟨hb8.os, hb8.tape, hb8.output, hb8.size, fun i hi _ => hb8.block i hi⟩ (fun b _ => by simp)) hg9 (fun b hm e => by injection e with e; exact (bdL b hm).2.2 e)
  · have hjl : j < L'.length := by omega
    rw [← hva, List.getElem?_map, List.getElem?_eq_getElem hjl, Option.map_some] at ht
    injection ht with ht
    show OVa w9 t _ ((L'[j]?.map (·.2.2)).getD [])
    rw [List.getElem?_eq_getElem hjl, Option.map_some, Option.getD_some, part4_cells L' h4 j hjl, ← ht]
    refine ((hown' _ (List.getElem_mem hjl)).under hb8).keep hg9 (fun b hm e => ?_)
    injection e with e
    have hm' : b ∈ (List.range KS.length).flatMap fs := hfp.mem_iff.1 (List.mem_flatten.2 ⟨_, List.mem_map.2 ⟨_, List.getElem_mem hjl, rfl⟩, hm⟩)
    exact (bdF b hm').2.2 e
  · rw [hflat]
    have fm : ∀ x, x ∈ (L'.map (·.2.2)).flatten ↔ x ∈ (List.range KS.length).flatMap fs := fun x => hfp.mem_iff
    refine nodup3.2 ⟨nL, blk_nodup _, hfp.nodup_iff.2 nF, fun x hx hy => ?_, fun x hx hy => dLF x hx ((fm x).1 hy), fun x hx hy => ?_⟩
    · rcases hA8 x hy with h | h
      · exact dLA x hx h
      · have := bdL x hx; omega
    · rcases hA8 x hx with h | h
      · exact dAF x h ((fm x).1 hy)
      · have := bdF x ((fm x).1 hy); omega
  · rw [hflat]
    intro b hm
    rcases List.mem_append.1 hm with hm | hm
    · rcases List.mem_append.1 hm with hm | hm
      · have := bdL b hm; exact ⟨this.1, by omega, this.2.2⟩
      · rcases hA8 b hm with h | h
        · have := bdA b h; exact ⟨this.1, by omega, this.2.2⟩
        · exact ⟨by omega, by omega, by omega⟩
    · have := bdF b (hfp.mem_iff.1 hm); exact ⟨this.1, by omega, this.2.2⟩
  · exact (hb.trans (hb8.mono hws)).grown hg9 (by omega) (fun k hk => by injection hk with hk; omega)
end Go.Proofs.Ytpcegakpdjmaaaa
