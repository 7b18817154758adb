/-
  Merged by program: Fram.
-/
import Derived.Test.YtffaggiblglcbaaV6
import Derived.Test.YtffaggiblglcbaaV13
import Derived.RangeFuncBox

/-
  What a call leaves as it was where it writes two old blocks; a type in the making: a variable whose labels and parts grow in memory of the call's own.
-/
namespace Go.Proofs.Ytffaggiblglcbaa
open Go.RowKit

/-- the blocks below B are as they were, but for p and q -/
structure Fr (p q B : Nat) (a w : World) : Prop where
  os : w.os = a.os
  tape : w.tape = a.tape
  output : w.output = a.output
  size : a.heap.size ≤ w.heap.size
  block : ∀ k, k < B → k ≠ p → k ≠ q → w.heap[k]? = a.heap[k]?
section
variable {p q B : Nat} {a w w' : World}
theorem Fr.refl (p q B : Nat) (w : World) : Fr p q B w w := ⟨rfl, rfl, rfl, Nat.le_refl _, fun _ _ _ _ => rfl⟩
theorem Fr.trans (h : Fr p q B a w) (k : Fr p q B w w') : Fr p q B a w' :=
  ⟨k.os.trans h.os, k.tape.trans h.tape, k.output.trans h.output, Nat.le_trans h.size k.size, fun i h1 h2 h3 => (k.block i h1 h2 h3).trans (h.block i h1 h2 h3)⟩
theorem Fr.mono (h : Fr p q B a w) {B' : Nat} (hB : B' ≤ B) : Fr p q B' a w := ⟨h.os, h.tape, h.output, h.size, fun k hk => h.block k (Nat.lt_of_lt_of_le hk hB)⟩
theorem Fr.step (h : Fr p q B a w) (hB : B ≤ w.heap.size) (k : Fr p q w.heap.size w w') : Fr p q B a w' := h.trans (k.mono hB)
theorem Fr.of_below (h : Below B a w) : Fr p q B a w := ⟨h.os, h.tape, h.output, h.size, fun k hk _ _ => h.block k hk⟩
theorem Fr.below (h : Fr p q B a w) (hp : B ≤ p) (hq : B ≤ q) : Below B a w := ⟨h.os, h.tape, h.output, h.size, fun k hk => h.block k hk (by omega) (by omega)⟩
theorem Fr.drew (h : Fr p q B a w) : Fr p q B a w.drew := ⟨h.os, h.tape, h.output, h.size, h.block⟩
theorem Fr.alloc (h : Fr p q B a w) (hB : B ≤ w.heap.size) (o : Obj) : Fr p q B a (w.alloc o) := h.trans (.of_below ((Below.refl _ _).alloc hB o))
theorem Fr.setCell (h : Fr p q B a w) {c : Addr} (hc : c.block = p ∨ c.block = q ∨ B ≤ c.block) (u : Value) : Fr p q B a (w.setCell c u) :=
  ⟨h.os, h.tape, h.output, by simpa [World.setCell] using h.size, fun k h1 h2 h3 => (Below.heap_setCell w c u k (by omega)).trans (h.block k h1 h2 h3)⟩
theorem Fr.setP (h : Fr p q B a w) (i : Nat) (u : Value) : Fr p q B a (w.setCell ⟨p, i, none⟩ u) := h.setCell (.inl rfl) u
theorem Fr.setQ (h : Fr p q B a w) (i : Nat) (u : Value) : Fr p q B a (w.setCell ⟨q, i, none⟩ u) := h.setCell (.inr (.inl rfl)) u
theorem Fr.drewN (h : Fr p q B a w) (n : Nat) : Fr p q B a (w.drewN n) := ⟨h.os, h.tape, h.output, h.size, h.block⟩
theorem Fr.grown (h : Fr p q B a w) {row : Option Nat} (hg : w.grownBy w' row) (hB : B ≤ w.heap.size) (hr : ∀ k, row = some k → B ≤ k) : Fr p q B a w' :=
  h.trans (.of_below ((Below.refl _ _).grown hg hB hr))
theorem Box3.fr {g : Nat} {t : TypeId} {x y z : Value} (h : Box3 w g t x y z) (hf : Fr p q B w w') (hg : g < B) (h1 : g ≠ p) (h2 : g ≠ q) : Box3 w' g t x y z := (hf.block g hg h1 h2).trans h
theorem Boxed.fr {g : Nat} {t : TypeId} {x : Value} (h : Boxed w g t x) (hf : Fr p q B w w') (hg : g < B) (h1 : g ≠ p) (h2 : g ≠ q) : Boxed w' g t x := (hf.block g hg h1 h2).trans h
theorem Boxed.alloc {g : Nat} {t : TypeId} {x : Value} (h : Boxed w g t x) (o : Obj) : Boxed (w.alloc o) g t x := (heap_alloc_old w o h.lt).trans h
theorem Boxed.far {g : Nat} {t : TypeId} {x : Value} (h : Boxed w g t x) {c : Addr} (hc : g ≠ c.block) (u : Value) : Boxed (w.setCell c u) g t x := (Below.heap_setCell w c u g hc).trans h
theorem Boxed.set {g : Nat} {t : TypeId} {x : Value} (h : Boxed w g t x) (u : Value) : Boxed (w.setCell ⟨g, 0, none⟩ u) g t u := heap_setCell_same w g 0 _ t u h
theorem Boxed.new (w : World) (t : TypeId) (x : Value) : Boxed (w.alloc (.cells #[x] t)) w.heap.size t x := heap_alloc_new w _
theorem Boxed.grown {g : Nat} {t : TypeId} {x : Value} {row : Option Nat} (h : Boxed w g t x) (hg : w.grownBy w' row) (hne : some g ≠ row) : Boxed w' g t x := (hg.block g h.lt hne).trans h
theorem Boxed.free {g : Nat} {t : TypeId} {x : Value} (h : Boxed w g t x) : w.frozen? ⟨g, 0, none⟩ = false := frozen_of_row w g 0 _ t h
theorem own_any {base base' size n : Nat} {e : TypeId} {v : Value} {xs : List Value} (h : w.ownsRow base e size v n xs) (hb : base' ≤ base) : w.ownsRow base' e size v n xs := by
  refine ⟨h.1, ?_⟩
  rcases h.2 with hn | ⟨g, cap, cur, hv, h1, rest⟩
  · exact .inl hn
  · exact .inr ⟨g, cap, cur, hv, Nat.le_trans hb h1, rest⟩
theorem own_fr {base size n : Nat} {e : TypeId} {A : Option Addr} {c : Nat} {xs : List Value} (h : w.ownsRow base e size (.slice A n c) n xs) (hf : Fr p q B w w') (hne : ∀ b ∈ blk A, b < B ∧ b ≠ p ∧ b ≠ q) : w'.ownsRow base e size (.slice A n c) n xs := by
  refine ⟨h.1, ?_⟩
  rcases h.2 with hn | ⟨g, cap, cur, hv, hb, hgg, rest⟩
  · exact .inl hn
  · refine .inr ⟨g, cap, cur, hv, hb, ?_, rest⟩
    injection hv with h1 _ _
    subst h1
    have := hne g (by simp [blk])
    rw [hf.block g this.1 this.2.1 this.2.2]
    exact hgg
theorem OTy.fr {t : Ty} {cs : List Value} {fp : List Nat} (h : OTy w t cs fp) (hf : Fr p q B w w') (hne : ∀ b ∈ fp, b < B ∧ b ≠ p ∧ b ≠ q) : OTy w' t cs fp := by
  induction h with
  | node a ks L A c d xs fs h0 h1 h2 h3 h4 h5 ih =>
    refine .node a ks L A c d xs fs h0 (own_fr h1 hf (fun b hb => hne b (by simp [hb]))) h2 (own_fr h3 hf (fun b hb => hne b (by simp [hb]))) (fun j t hj => ih j t hj (fun b hb => hne b ?_)) h5
    rw [List.mem_append, List.mem_flatMap]
    exact .inr ⟨j, List.mem_range.2 (List.getElem?_eq_some_iff.1 hj).1, hb⟩
end

/-- a type in the making: the variable is the block g; all its memory lies from B on -/
structure Tin (B g : Nat) (κ : Int) (ls : List ByteArray) (ts : List Ty) (L A : Option Addr) (lc d : Nat) (xs : List Value) (fs : Nat → List Nat) (w : World) : Prop where
  box : Box3 w g 27 (.int .i64 κ) (.slice L ls.length lc) (.slice A ts.length d)
  r1 : w.ownsRow B 9 1 (.slice L ls.length lc) ls.length (ls.map Value.string)
  r2 : w.ownsRow B 27 3 (.slice A ts.length d) ts.length xs
  kid : ∀ j t, ts[j]? = some t → OTy w t (part3 xs j) (fs j)
  nd : (blk L ++ blk A ++ (List.range ts.length).flatMap fs).Nodup
  gn : g ∉ blk L ++ blk A ++ (List.range ts.length).flatMap fs
  gb : B ≤ g ∧ g < w.heap.size
  bd : ∀ x ∈ blk L ++ blk A ++ (List.range ts.length).flatMap fs, B ≤ x ∧ x < w.heap.size
  lz : ∀ x ∈ ls, x.size ≤ 1048576
  kz : 0 ≤ κ ∧ κ ≤ 9

section
variable {B g : Nat} {κ : Int} {ls : List ByteArray} {ts : List Ty} {L A : Option Addr} {lc d : Nat} {xs : List Value} {fs : Nat → List Nat} {w w2 : World}
theorem Tin.fresh {v : World} (hb : Box3 v g 27 (.int .i64 κ) (.slice none 0 0) (.slice none 0 0)) (hB : B ≤ g) (hk : 0 ≤ κ ∧ κ ≤ 9) : Tin B g κ [] [] none none 0 0 [] (fun _ => []) v :=
  ⟨hb, World.ownsRow_nil _ _ _ _, World.ownsRow_nil _ _ _ _, fun j t hj => by simp at hj, by simp [blk], by simp [blk], ⟨hB, hb.lt⟩, by simp [blk], by simp, hk⟩
theorem Tin.keep (h : Tin B g κ ls ts L A lc d xs fs w) {row : Option Nat} (hg : w.grownBy w2 row) (hr : ∀ k, row = some k → k < B) : Tin B g κ ls ts L A lc d xs fs w2 := by
  have ne : ∀ x, B ≤ x → some x ≠ row := fun x hx e => by have := hr x e.symm; omega
  exact ⟨h.box.grown hg (ne g h.gb.1), own_keep h.r1 hg (fun b hb => ne b (h.bd b (by simp [hb])).1), own_keep h.r2 hg (fun b hb => ne b (h.bd b (by simp [hb])).1),
    fun j t hj => (h.kid j t hj).keep hg (fun b hb => ne b (h.bd b (by
      rw [List.mem_append, List.mem_flatMap]
      exact .inr ⟨j, List.mem_range.2 (List.getElem?_eq_some_iff.1 hj).1, hb⟩)).1), h.nd, h.gn, ⟨h.gb.1, Nat.lt_of_lt_of_le h.gb.2 hg.size⟩, fun x hx => ⟨(h.bd x hx).1, Nat.lt_of_lt_of_le (h.bd x hx).2 hg.size⟩, h.lz, h.kz⟩
theorem Tin.fr {p q : Nat} (h : Tin B g κ ls ts L A lc d xs fs w) (hf : Fr p q w.heap.size w w2) (hp : p < B) (hq : q < B) : Tin B g κ ls ts L A lc d xs fs w2 := by
  have ne : ∀ x, B ≤ x ∧ x < w.heap.size → x < w.heap.size ∧ x ≠ p ∧ x ≠ q := fun x hx => ⟨hx.2, by omega, by omega⟩
  exact ⟨h.box.fr hf (ne g h.gb).1 (ne g h.gb).2.1 (ne g h.gb).2.2, own_fr h.r1 hf (fun b hb => ne b (h.bd b (by simp [hb]))), own_fr h.r2 hf (fun b hb => ne b (h.bd b (by simp [hb]))),
    fun j t hj => (h.kid j t hj).fr hf (fun b hb => ne b (h.bd b (by
      rw [List.mem_append, List.mem_flatMap]
      exact .inr ⟨j, List.mem_range.2 (List.getElem?_eq_some_iff.1 hj).1, hb⟩))), h.nd, h.gn, ⟨h.gb.1, Nat.lt_of_lt_of_le h.gb.2 hf.size⟩, fun x hx => ⟨(h.bd x hx).1, Nat.lt_of_lt_of_le (h.bd x hx).2 hf.size⟩, h.lz, h.kz⟩
theorem Tin.under (h : Tin B g κ ls ts L A lc d xs fs w) (hb : Below w.heap.size w w2) : Tin B g κ ls ts L A lc d xs fs w2 := h.keep (row := none) (grown_of_below hb) (fun k hk => by cases hk)
theorem Tin.kind (h : Tin B g κ ls ts L A lc d xs fs w) {κ' : Int} (hk : 0 ≤ κ' ∧ κ' ≤ 9) : Tin B g κ' ls ts L A lc d xs fs (w.setCell ⟨g, 0, none⟩ (.int .i64 κ')) := by
  have hg : w.grownBy (w.setCell ⟨g, 0, none⟩ (.int .i64 κ')) (some g) := grown_set (World.grownBy.refl _ _) _
  have ne : ∀ x ∈ blk L ++ blk A ++ (List.range ts.length).flatMap fs, some x ≠ some g := fun x hx e => by injection e with e; subst e; exact h.gn hx
  exact ⟨h.box.set0 _, own_keep h.r1 hg (fun b hb => ne b (by simp [hb])), own_keep h.r2 hg (fun b hb => ne b (by simp [hb])),
    fun j t hj => (h.kid j t hj).keep hg (fun b hb => ne b (by
      rw [List.mem_append, List.mem_flatMap]
      exact .inr ⟨j, List.mem_range.2 (List.getElem?_eq_some_iff.1 hj).1, hb⟩)), h.nd, h.gn, ⟨h.gb.1, Nat.lt_of_lt_of_le h.gb.2 hg.size⟩, fun x hx => ⟨(h.bd x hx).1, Nat.lt_of_lt_of_le (h.bd x hx).2 hg.size⟩, h.lz, hk⟩
/-- the type that was made -/
theorem Tin.own (h : Tin B g κ ls ts L A lc d xs fs w) (h1 : ls.length ≤ 9223372036854775807) (h2 : ts.length ≤ 9223372036854775807) : OTy w (.node ⟨κ, ls⟩ ts) [.int .i64 κ, .slice L ls.length lc, .slice A ts.length d] (blk L ++ blk A ++ (List.range ts.length).flatMap fs) :=
  .node ⟨κ, ls⟩ ts L A lc d xs fs ⟨by have := h.kz; show -9223372036854775808 ≤ κ; omega, by have := h.kz; show κ ≤ 9223372036854775807; omega, h1, fun x hx => Nat.le_trans (h.lz x hx) (by omega)⟩ (own_any h.r1 (Nat.zero_le _)) h2 (own_any h.r2 (Nat.zero_le _)) h.kid h.nd
/-- one label more, and the variable told of it -/
theorem Tin.label (h : Tin B g κ ls ts L A lc d xs fs w) {x : ByteArray} (hx : x.size ≤ 1048576) {L' : Option Addr} {lc' : Nat} (hown : w2.ownsRow B 9 1 (.slice L' (ls.length + 1) lc') (ls.length + 1) (ls.map Value.string ++ [.string x]))
    (hg : w.grownBy w2 (Value.slice L ls.length lc).ownBlock) (hor : (Value.slice L' (ls.length + 1) lc').ownBlock = (Value.slice L ls.length lc).ownBlock ∨ (Value.slice L' (ls.length + 1) lc').ownBlock = some w.heap.size) :
    Tin B g κ (ls ++ [x]) ts L' A lc' d xs fs (w2.setCell ⟨g, 1, none⟩ (.slice L' (ls.length + 1) lc')) := by
  obtain ⟨nL, nA, nF, dLA, dLF, dAF⟩ := nodup3.1 h.nd
  have hrowL : ∀ g, (Value.slice L ls.length lc).ownBlock = some g ↔ g ∈ blk L := blk_own L ls.length lc
  have hL' : ∀ g ∈ blk L', g ∈ blk L ∨ g = w.heap.size := by
    intro g hm
    have e := (blk_own L' (ls.length + 1) lc' g).2 hm
    rcases hor with h | h
    · rw [h] at e; exact .inl ((hrowL g).1 e)
    · rw [h] at e; injection e with e; exact .inr e.symm
  have notrow : ∀ g, g ∉ blk L → some g ≠ (Value.slice L ls.length lc).ownBlock := fun g hm e => hm ((hrowL g).1 e.symm)
  have bdL : ∀ g ∈ blk L, B ≤ g ∧ g < w.heap.size := fun g hm => h.bd g (by simp [hm])
  have bdA : ∀ g ∈ blk A, B ≤ g ∧ g < w.heap.size := fun g hm => h.bd g (by simp [hm])
  have bdF : ∀ g ∈ (List.range ts.length).flatMap fs, B ≤ g ∧ g < w.heap.size := fun g hm => h.bd g (List.mem_append.2 (.inr hm))
  have gL : g ∉ blk L := fun hm => h.gn (by simp [hm])
  have gA : g ∉ blk A := fun hm => h.gn (by simp [hm])
  have gF : g ∉ (List.range ts.length).flatMap fs := fun hm => h.gn (List.mem_append.2 (.inr hm))
  have hgL' : g ∉ blk L' := fun hm => by
    rcases hL' g hm with h1 | h1
    · exact gL h1
    · have := h.gb; omega
  have hs := hg.size
  have hbx : Box3 w2 g 27 (.int .i64 κ) (.slice L ls.length lc) (.slice A ts.length d) := h.box.grown hg (notrow g gL)
  have hU : w2.grownBy (w2.setCell ⟨g, 1, none⟩ (.slice L' (ls.length + 1) lc')) (some g) := grown_set (World.grownBy.refl _ _) _
  have hsU := hU.size
  have ne : ∀ x, x ≠ g → some x ≠ some g := fun x hx e => hx (by injection e)
  have hlen : (ls ++ [x]).length = ls.length + 1 := by simp
  exact {
    box := by rw [hlen]; exact hbx.set1 _
    r1 := by
      rw [hlen, List.map_append]
      exact own_keep hown hU (fun b hb => ne b (fun e => hgL' (e ▸ hb)))
    r2 := own_keep (own_keep h.r2 hg (fun b hb => notrow b (fun hm2 => dLA b hm2 hb))) hU (fun b hb => ne b (fun e => gA (e ▸ hb)))
    kid := fun j t hj => by
      have hjm : ∀ b ∈ fs j, b ∈ (List.range ts.length).flatMap fs := fun b hb => List.mem_flatMap.2 ⟨j, List.mem_range.2 (List.getElem?_eq_some_iff.1 hj).1, hb⟩
      exact ((h.kid j t hj).keep hg (fun b hb => notrow b (fun hm2 => dLF b hm2 (hjm b hb)))).keep hU (fun b hb => ne b (fun e => gF (e ▸ hjm b hb)))
    nd := nodup3.2 ⟨blk_nodup _, nA, nF, fun b hm hm2 => by
      rcases hL' b hm with h1 | h1
      · exact dLA b h1 hm2
      · have := bdA b hm2; omega, fun b hm hm2 => by
      rcases hL' b hm with h1 | h1
      · exact dLF b h1 hm2
      · have := bdF b hm2; omega, dAF⟩
    gn := fun hm => by
      rcases List.mem_append.1 hm with hm | hm
      · rcases List.mem_append.1 hm with hm | hm
        · exact hgL' hm
        · exact gA hm
      · exact gF hm
    gb := ⟨h.gb.1, by have := h.gb; omega⟩
    bd := fun b hm => by
      rcases List.mem_append.1 hm with hm | hm
      · rcases List.mem_append.1 hm with hm | hm
        · have := hown.lt b ((blk_own L' (ls.length + 1) lc' b).2 hm)
          omega
        · have := bdA b hm; omega
      · have := bdF b hm; omega
    lz := fun y hy => by
      rcases List.mem_append.1 hy with hy | hy
      · exact h.lz y hy
      · simp at hy; subst hy; exact hx
    kz := h.kz }
/-- one part more, and the variable told of it -/
theorem Tin.part (h : Tin B g κ ls ts L A lc d xs fs w) {t : Ty} {fp : List Nat} {r0 r1 r2 : Value} (hot : OTy w t [r0, r1, r2] fp) (hfp : ∀ x ∈ fp, B ≤ x ∧ x < w.heap.size) (hap : ∀ x ∈ fp, x ≠ g ∧ x ∉ blk L ++ blk A ++ (List.range ts.length).flatMap fs)
    {A' : Option Addr} {d' : Nat} (hown : w2.ownsRow B 27 3 (.slice A' (ts.length + 1) d') (ts.length + 1) (xs ++ [r0, r1, r2])) (hg : w.grownBy w2 (Value.slice A ts.length d).ownBlock)
    (hor : (Value.slice A' (ts.length + 1) d').ownBlock = (Value.slice A ts.length d).ownBlock ∨ (Value.slice A' (ts.length + 1) d').ownBlock = some w.heap.size) :
    Tin B g κ ls (ts ++ [t]) L A' lc d' (xs ++ [r0, r1, r2]) (fun j => if j = ts.length then fp else fs j) (w2.setCell ⟨g, 2, none⟩ (.slice A' (ts.length + 1) d')) := by
  obtain ⟨nL, nA, nF, dLA, dLF, dAF⟩ := nodup3.1 h.nd
  have hxl : xs.length = ts.length * 3 := h.r2.1
  have hrowA : ∀ g, (Value.slice A ts.length d).ownBlock = some g ↔ g ∈ blk A := blk_own A ts.length d
  have hA' : ∀ g ∈ blk A', g ∈ blk A ∨ g = w.heap.size := by
    intro g hm
    have e := (blk_own A' (ts.length + 1) d' g).2 hm
    rcases hor with h | h
    · rw [h] at e; exact .inl ((hrowA g).1 e)
    · rw [h] at e; injection e with e; exact .inr e.symm
  have notrow : ∀ g, g ∉ blk A → some g ≠ (Value.slice A ts.length d).ownBlock := fun g hm e => hm ((hrowA g).1 e.symm)
  have bdL : ∀ g ∈ blk L, B ≤ g ∧ g < w.heap.size := fun g hm => h.bd g (by simp [hm])
  have bdF : ∀ g ∈ (List.range ts.length).flatMap fs, B ≤ g ∧ g < w.heap.size := fun g hm => h.bd g (List.mem_append.2 (.inr hm))
  have apL : ∀ x ∈ fp, x ∉ blk L := fun x hx hm => (hap x hx).2 (by simp [hm])
  have apA : ∀ x ∈ fp, x ∉ blk A := fun x hx hm => (hap x hx).2 (by simp [hm])
  have apF : ∀ x ∈ fp, x ∉ (List.range ts.length).flatMap fs := fun x hx hm => (hap x hx).2 (List.mem_append.2 (.inr hm))
  have gL : g ∉ blk L := fun hm => h.gn (by simp [hm])
  have gA : g ∉ blk A := fun hm => h.gn (by simp [hm])
  have gF : g ∉ (List.range ts.length).flatMap fs := fun hm => h.gn (List.mem_append.2 (.inr hm))
  have hgA' : g ∉ blk A' := fun hm => by
    rcases hA' g hm with h1 | h1
    · exact gA h1
    · have := h.gb; omega
  have hs := hg.size
  have hbx : Box3 w2 g 27 (.int .i64 κ) (.slice L ls.length lc) (.slice A ts.length d) := h.box.grown hg (notrow g gA)
  have hU : w2.grownBy (w2.setCell ⟨g, 2, none⟩ (.slice A' (ts.length + 1) d')) (some g) := grown_set (World.grownBy.refl _ _) _
  have hsU := hU.size
  have ne : ∀ x, x ≠ g → some x ≠ some g := fun x hx e => hx (by injection e)
  have hlen : (ts ++ [t]).length = ts.length + 1 := by simp
  exact {
    box := by rw [hlen]; exact hbx.set2 _
    r1 := own_keep (own_keep h.r1 hg (fun b hb => notrow b (dLA b hb))) hU (fun b hb => ne b (fun e => gL (e ▸ hb)))
    r2 := by rw [hlen]; exact own_keep hown hU (fun b hb => ne b (fun e => hgA' (e ▸ hb)))
    kid := fun j s hj => by
      show OTy _ _ _ (if j = ts.length then fp else fs j)
      by_cases e : j = ts.length
      · subst e
        rw [List.getElem?_append_right (by omega), Nat.sub_self] at hj
        simp at hj
        subst hj
        rw [if_pos rfl, part3_end hxl]
        exact (hot.keep hg (fun b hm => notrow b (apA b hm))).keep hU (fun b hm => ne b (hap b hm).1)
      · have hjl := (List.getElem?_eq_some_iff.1 hj).1
        rw [hlen] at hjl
        have hj' : j < ts.length := by omega
        rw [List.getElem?_append_left (by omega)] at hj
        rw [if_neg e, part3_app hxl hj']
        have hjm : ∀ b ∈ fs j, b ∈ (List.range ts.length).flatMap fs := fun b hb => List.mem_flatMap.2 ⟨j, List.mem_range.2 hj', hb⟩
        exact ((h.kid j s hj).keep hg (fun b hm => notrow b (fun hA => dAF b hA (hjm b hm)))).keep hU (fun b hm => ne b (fun e => gF (e ▸ hjm b hm)))
    nd := by
      rw [hlen, flat_more]
      refine nodup3.2 ⟨nL, blk_nodup _, List.nodup_append.2 ⟨nF, hot.nodup, fun x hx y hy e => apF y hy (e ▸ hx)⟩, fun b hm hm2 => ?_, fun b hm hm2 => ?_, fun b hm hm2 => ?_⟩
      · rcases hA' b hm2 with h1 | h1
        · exact dLA b hm h1
        · have := bdL b hm; omega
      · rcases List.mem_append.1 hm2 with h1 | h1
        · exact dLF b hm h1
        · exact apL b h1 hm
      · rcases hA' b hm with h1 | h1
        · rcases List.mem_append.1 hm2 with h2 | h2
          · exact dAF b h1 h2
          · exact apA b h2 h1
        · rcases List.mem_append.1 hm2 with h2 | h2
          · have := bdF b h2; omega
          · have := hfp b h2; omega
    gn := fun hm => by
      rw [hlen, flat_more] at hm
      rcases List.mem_append.1 hm with hm | hm
      · rcases List.mem_append.1 hm with hm | hm
        · exact gL hm
        · exact hgA' hm
      · rcases List.mem_append.1 hm with hm | hm
        · exact gF hm
        · exact (hap g hm).1 rfl
    gb := ⟨h.gb.1, by have := h.gb; omega⟩
    bd := fun b hm => by
      rw [hlen, flat_more] at hm
      rcases List.mem_append.1 hm with hm | hm
      · rcases List.mem_append.1 hm with hm | hm
        · have := bdL b hm; omega
        · have := hown.lt b ((blk_own A' (ts.length + 1) d' b).2 hm); omega
      · rcases List.mem_append.1 hm with hm | hm
        · have := bdF b hm; omega
        · have := hfp b hm; omega
    lz := h.lz
    kz := h.kz }
/-- the two stores leave what lies below -/
theorem Tin.left (h : Tin B g κ ls ts L A lc d xs fs w) {p q i : Nat} {u : Value} (hB : B ≤ w.heap.size) {row : Option Nat} (hg : w.grownBy w2 row) (hr : ∀ k, row = some k → B ≤ k) : Fr p q B w (w2.setCell ⟨g, i, none⟩ u) :=
  ((Fr.refl p q B w).grown hg hB hr).setCell (.inr (.inr h.gb.1)) u
theorem Tin.rowL (h : Tin B g κ ls ts L A lc d xs fs w) : ∀ k, (Value.slice L ls.length lc).ownBlock = some k → B ≤ k := fun k hk => (h.r1.lt k hk).1
theorem Tin.rowA (h : Tin B g κ ls ts L A lc d xs fs w) : ∀ k, (Value.slice A ts.length d).ownBlock = some k → B ≤ k := fun k hk => (h.r2.lt k hk).1
end
end Go.Proofs.Ytffaggiblglcbaa
