/-
  Merged by program: TyCopy, TySize, TyNum, OnlyG.
-/
import Derived.Test.YtlikmgkjilmjpaaGreatI2
import Derived.Test.YtlikmgkjilmjpaaGreatI6
import Derived.Test.YtlikmgkjilmjpaaGreatI3
import Derived.Test.YtlikmgkjilmjpaaGreatI4
import Derived.Test.YtlikmgkjilmjpaaGreatI1
import Derived.StillTailTactics
import Derived.Deep.RegionHeld3
import Derived.Deep.RegionLaw
import Derived.Deep.CutRange

/-
  A type that is put together in a variable of its own: what its loop keeps ('l3Copy', 'l3Rec').
-/
namespace Go.Proofs.YtlikmgkjilmjpaaGreat
open Go.RowKit

theorem part3_app {xs : List Value} {r0 r1 r2 : Value} {k j : Nat} (hl : xs.length = k * 3) (hj : j < k) : part3 (xs ++ [r0, r1, r2]) j = part3 xs j :=
  part3_ext fun i hi => by rw [List.getElem?_append_left (by omega)]
theorem part3_end {xs : List Value} {r0 r1 r2 : Value} {k : Nat} (hl : xs.length = k * 3) : part3 (xs ++ [r0, r1, r2]) k = [r0, r1, r2] := by
  unfold part3
  rw [List.drop_append_of_le_length (by omega), List.drop_eq_nil_of_le (by omega)]
  rfl
theorem Box3.grown {w w' : World} {g : Nat} {t : TypeId} {a b c : Value} {row : Option Nat} (h : Box3 w g t a b c) (hg : w.grownBy w' row) (hne : some g ≠ row) : Box3 w' g t a b c := (hg.block g h.lt hne).trans h

/-- k parts are put together; the variable is the block g -/
def CInv (a : TyA) (ks : List Ty) (w : World) (g : Nat) (LL : Option Addr) (lc k : Nat) (A : Option Addr) (d : Nat) (xs : List Value) (fs : Nat → List Nat) (wr : World) : Prop :=
  Box3 wr g 96 (.int .i64 a.kind) (.slice LL a.labels.length lc) (.slice A k d) ∧ wr.ownsRow 0 96 3 (.slice A k d) k xs ∧
    wr.ownsRow 0 9 1 (.slice LL a.labels.length lc) a.labels.length (a.labels.map Value.string) ∧ (∀ j t, j < k → ks[j]? = some t → OTy wr t (part3 xs j) (fs j)) ∧
    (blk LL ++ blk A ++ (List.range k).flatMap fs).Nodup ∧ (∀ b ∈ blk LL ++ blk A ++ (List.range k).flatMap fs, w.heap.size ≤ b ∧ b < wr.heap.size ∧ b ≠ g) ∧ w.heap.size ≤ g ∧ Below w.heap.size w wr

theorem cinv_more {a : TyA} {ks : List Ty} {w : World} {g : Nat} {LL : Option Addr} {lc k : Nat} {A : Option Addr} {d : Nat} {xs : List Value} {fs : Nat → List Nat} {wr : World} (h : CInv a ks w g LL lc k A d xs fs wr) (hk : k < ks.length)
    {w2 w4 : World} {fp : List Nat} {r0 r1 r2 v' : Value} (hb2 : Below wr.heap.size wr w2) (hot : OTy w2 ks[k] [r0, r1, r2] fp) (hfp : ∀ b ∈ fp, wr.heap.size ≤ b ∧ b < w2.heap.size)
    (hown : w4.ownsRow 0 96 3 v' (k + 1) (xs ++ [r0, r1, r2])) (hgr : (w2.alloc (.cells #[r0, r1, r2] 96)).grownBy w4 (Value.slice A k d).ownBlock)
    (hor : v'.ownBlock = (Value.slice A k d).ownBlock ∨ v'.ownBlock = some (w2.heap.size + 1)) :
    ∃ A' d' fs', v' = .slice A' (k + 1) d' ∧ CInv a ks w g LL lc (k + 1) A' d' (xs ++ [r0, r1, r2]) fs' (w4.setCell ⟨g, 2, none⟩ v') := by
  obtain ⟨A', d', rfl⟩ := own_shape3 hown
  obtain ⟨hbox, hrow, hlab, hkid, hnd, hbd, hwg, hb⟩ := h
  have hxl : xs.length = k * 3 := hrow.1
  have hgl := hbox.lt
  have hs2 := hb2.size
  have hsw := hb.size
  obtain ⟨w3, hw3⟩ : ∃ w3, w2.alloc (.cells #[r0, r1, r2] 96) = w3 := ⟨_, rfl⟩
  have hz3 : w3.heap.size = w2.heap.size + 1 := by rw [← hw3]; simp
  rw [hw3] at hgr
  have hs4 := hgr.size
  obtain ⟨w5, hw5⟩ : ∃ w5, w4.setCell ⟨g, 2, none⟩ (.slice A' (k + 1) d') = w5 := ⟨_, rfl⟩
  have hg5 : w4.grownBy w5 (some g) := by rw [← hw5]; exact grown_set (World.grownBy.refl _ _) _
  have hs5 := hg5.size
  have hb3 : Below wr.heap.size wr w3 := by rw [← hw3]; exact hb2.alloc hs2 _
  have hrowA : ∀ b, (Value.slice A k d).ownBlock = some b ↔ b ∈ blk A := blk_own A k d
  obtain ⟨nL, nA, nF, dLA, dLF, dAF⟩ := nodup3.1 hnd
  have bdL : ∀ b ∈ blk LL, w.heap.size ≤ b ∧ b < wr.heap.size ∧ b ≠ g := fun b hm => hbd b (by simp [hm])
  have bdA : ∀ b ∈ blk A, w.heap.size ≤ b ∧ b < wr.heap.size ∧ b ≠ g := fun b hm => hbd b (by simp [hm])
  have bdF : ∀ b ∈ (List.range k).flatMap fs, w.heap.size ≤ b ∧ b < wr.heap.size ∧ b ≠ g := fun b hm => hbd b (List.mem_append.2 (.inr hm))
  have hA' : ∀ b ∈ blk A', b ∈ blk A ∨ b = w2.heap.size + 1 := by
    intro b hm
    have e := (blk_own A' (k + 1) d' b).2 hm
    rcases hor with h | h
    · rw [h] at e; exact .inl ((hrowA b).1 e)
    · rw [h] at e; injection e with e; exact .inr e.symm
  have hlt' : ∀ b ∈ blk A', b < w4.heap.size := fun b hm => (hown.lt b ((blk_own A' (k + 1) d' b).2 hm)).2
  have notrow : ∀ b, b ∉ blk A → some b ≠ (Value.slice A k d).ownBlock := fun b hm e => hm ((hrowA b).1 e.symm)
  have hgA : g ∉ blk A := fun hm => (bdA g hm).2.2 rfl
  have hfj : ∀ j, j < k → ∀ b ∈ fs j, b ∈ (List.range k).flatMap fs := fun j hj b hm => List.mem_flatMap.2 ⟨j, List.mem_range.2 hj, hm⟩
  refine ⟨A', d', fun j => if j = k then fp else fs j, rfl, ?_⟩
  rw [hw5]
  refine ⟨?_, ?_, ?_, fun j t hj ht => ?_, ?_, ?_, hwg, ?_⟩
  · rw [← hw5]
    exact ((hbox.under hb3 hgl).grown hgr (notrow g hgA)).set2 _
  · exact own_keep hown hg5 (fun b hm e => by
      injection e with e
      subst e
      rcases hA' b hm with h | h
      · exact hgA h
      · omega)
  · refine own_keep (own_keep (own_keep hlab (row := none) ⟨hb3.os, hb3.tape, hb3.output, hb3.size, fun i hi _ => hb3.block i hi⟩ (fun b _ => by simp)) hgr (fun b hm => notrow b (dLA b hm))) hg5 (fun b hm e => by injection e with e; exact (bdL b hm).2.2 e)
  · show OTy _ _ _ (if j = k then fp else fs j)
    by_cases e : j = k
    · subst e
      rw [List.getElem?_eq_getElem hk] at ht
      injection ht with ht
      subst ht
      rw [if_pos rfl, part3_end hxl]
      have h3 : OTy w3 ks[j] [r0, r1, r2] fp := by rw [← hw3]; exact hot.under ((Below.refl _ _).alloc (Nat.le_refl _) _)
      refine (h3.keep hgr (fun b hm => notrow b (fun hA => ?_))).keep hg5 (fun b hm e => ?_)
      · have h1 := bdA b hA
        have h2 := hfp b hm
        omega
      · injection e with e
        have h2 := hfp b hm
        omega
    · have hj' : j < k := by omega
      rw [if_neg e, part3_app hxl hj']
      refine (((hkid j t hj' ht).under hb3).keep hgr (fun b hm => notrow b (fun hA => dAF b hA (hfj j hj' b hm)))).keep hg5 (fun b hm e => ?_)
      injection e with e
      exact (bdF b (hfj j hj' b hm)).2.2 e
  · rw [flat_more]
    refine nodup3.2 ⟨nL, blk_nodup _, List.nodup_append.2 ⟨nF, hot.nodup, fun x hx y hy e => ?_⟩, fun x hx hy => ?_, fun x hx hy => ?_, fun x hx hy => ?_⟩
    · have h1 := bdF x hx
      have h2 := hfp y hy
      omega
    · have h1 := bdL x hx
      rcases hA' x hy with h | h
      · exact dLA x hx h
      · omega
    · have h1 := bdL x hx
      rcases List.mem_append.1 hy with h | h
      · exact dLF x hx h
      · have := hfp x h; omega
    · rcases hA' x hx with h1 | h1
      · have h3 := bdA x h1
        rcases List.mem_append.1 hy with h | h
        · exact dAF x h1 h
        · have := hfp x h; omega
      · rcases List.mem_append.1 hy with h | h
        · have := bdF x h; omega
        · have := hfp x h; omega
  · rw [flat_more]
    intro b hm
    rcases List.mem_append.1 hm with hm | hm
    · rcases List.mem_append.1 hm with hm | hm
      · have := bdL b hm; exact ⟨this.1, by omega, this.2.2⟩
      · have h2 := hlt' b hm
        rcases hA' b hm with h | h
        · have := bdA b h; exact ⟨this.1, by omega, this.2.2⟩
        · exact ⟨by omega, by omega, by omega⟩
    · rcases List.mem_append.1 hm with hm | hm
      · have := bdF b hm; exact ⟨this.1, by omega, this.2.2⟩
      · have := hfp b hm; exact ⟨by omega, by omega, by omega⟩
  · have h4 : Below w.heap.size w w4 := (hb.trans (hb3.mono hb.size)).grown hgr (by omega) (fun b hm => (bdA b ((hrowA b).1 hm)).1)
    exact h4.grown hg5 h4.size (fun b hm => by injection hm with hm; omega)

theorem one3 (k : Int) (L A : Option Addr) (l c n d : Nat) : ∀ u ∈ [Value.int .i64 k, .slice L l c, .slice A n d], u.oneCell' = true := by
  intro u hu
  simp at hu
  rcases hu with rfl | rfl | rfl <;> rfl

def C0 (a : TyA) (ks : List Ty) (W1 : World) (s3 : Value) (wx : World) : Prop := ∃ g LL lc, s3 = .pointer (some ⟨g, 0, none⟩) ∧ CInv a ks W1 g LL lc 0 none 0 [] (fun _ => []) wx

theorem c0_at {a : TyA} {ks : List Ty} {W1 V : World} {g base : Nat} {LL : Option Addr} {lc : Nat} (hb : Below W1.heap.size W1 V) (hbox : Box3 V g 96 (.int .i64 a.kind) (.slice LL a.labels.length lc) (.slice none 0 0)) (hg : W1.heap.size ≤ g)
    (hown : V.ownsRow base 9 1 (.slice LL a.labels.length lc) a.labels.length (a.labels.map Value.string)) (hbase : W1.heap.size ≤ base) (hne : ∀ b ∈ blk LL, b ≠ g) : C0 a ks W1 (.pointer (some ⟨g, 0, none⟩)) V := by
  have hbL : ∀ b ∈ blk LL, W1.heap.size ≤ b ∧ b < V.heap.size := fun b hm => by
    have := hown.lt b ((blk_own LL _ lc b).2 hm)
    exact ⟨Nat.le_trans hbase this.1, this.2⟩
  refine ⟨g, LL, lc, rfl, hbox, ⟨rfl, .inl ⟨rfl, rfl⟩⟩, own_zero hown, fun j t hj => by omega, ?_, fun b hm => ?_, hg, hb⟩
  · simp [blk]
    exact blk_nodup LL
  · have hm' : b ∈ blk LL := by simpa [blk] using hm
    exact ⟨(hbL b hm').1, (hbL b hm').2, hne b hm'⟩
theorem c0_of {a : TyA} {ks : List Ty} {W1 U : World} {g base : Nat} {LL : Option Addr} {lc : Nat} (hb : Below W1.heap.size W1 U) (hbox : Box3 U g 96 (.int .i64 0) (.slice none 0 0) (.slice none 0 0)) (hg : W1.heap.size ≤ g)
    (hown : U.ownsRow base 9 1 (.slice LL a.labels.length lc) a.labels.length (a.labels.map Value.string)) (hbase : W1.heap.size ≤ base) (hne : ∀ b ∈ blk LL, b ≠ g) :
    C0 a ks W1 (.pointer (some ⟨g, 0, none⟩)) (((U.setCell ⟨g, 0, none⟩ (.int .i64 a.kind)).setCell ⟨g, 1, none⟩ (.slice LL a.labels.length lc)).setCell ⟨g, 2, none⟩ (.slice none 0 0)) := by
  obtain ⟨V, hV⟩ : ∃ V, ((U.setCell ⟨g, 0, none⟩ (.int .i64 a.kind)).setCell ⟨g, 1, none⟩ (.slice LL a.labels.length lc)).setCell ⟨g, 2, none⟩ (.slice none 0 0) = V := ⟨_, rfl⟩
  have hgV : U.grownBy V (some g) := by rw [← hV]; exact grown_set (grown_set (grown_set (World.grownBy.refl _ _) _) _) _
  rw [hV]
  refine c0_at (lc := lc) (hb.grown hgV hb.size (fun b hm => by injection hm with hm; omega)) ?_ hg (base := base) ?_ hbase hne
  · rw [← hV]
    exact ((hbox.set0 _).set1 _).set2 _
  · exact own_keep hown hgV (fun b hm e => by injection e with e; exact hne b hm e)

theorem cell_three {w : World} {g : Nat} {a b c u : Value} {p : Addr} (h : w.cell? p = some u) (hne : p.block ≠ g) : (((w.setCell ⟨g, 0, none⟩ a).setCell ⟨g, 1, none⟩ b).setCell ⟨g, 2, none⟩ c).cell? p = some u := by
  have hg : w.grownBy (((w.setCell ⟨g, 0, none⟩ a).setCell ⟨g, 1, none⟩ b).setCell ⟨g, 2, none⟩ c) (some g) := grown_set (grown_set (grown_set (World.grownBy.refl _ _) _) _) _
  exact (World.cell?_of_block (hg.block _ (World.block_lt_of_cell? w _ h) (fun e => hne (by injection e)))).trans h

/-- what the loop keeps -/
def CRel (a : TyA) (ks : List Ty) (W1 : World) (g : Nat) (LL : Option Addr) (lc : Nat) (i : Value) (wr : World) : Prop := ∃ (k : Nat) (A : Option Addr) (d : Nat) (xs : List Value) (fs : Nat → List Nat), k ≤ ks.length ∧ i = .int .i64 k ∧ CInv a ks W1 g LL lc k A d xs fs wr
theorem CInv.drew {a : TyA} {ks : List Ty} {w : World} {g : Nat} {LL : Option Addr} {lc k : Nat} {A : Option Addr} {d : Nat} {xs : List Value} {fs : Nat → List Nat} {wr : World} (h : CInv a ks w g LL lc k A d xs fs wr) : CInv a ks w g LL lc k A d xs fs wr.drew := by
  obtain ⟨h1, h2, h3, h4, h5, h6, h7, h8⟩ := h
  exact ⟨h1, h2, h3, fun j t hj ht => (h4 j t hj ht).under (Below.refl _ _).drew, h5, h6, h7, h8.drew⟩
theorem CInv.apart {a : TyA} {ks : List Ty} {w : World} {g : Nat} {LL : Option Addr} {lc k : Nat} {A : Option Addr} {d : Nat} {xs : List Value} {fs : Nat → List Nat} {wr : World} (h : CInv a ks w g LL lc k A d xs fs wr) : some g ≠ (Value.slice A k d).ownBlock := by
  obtain ⟨h1, h2, h3, h4, h5, h6, h7, h8⟩ := h
  intro e
  exact (h6 g (by simp [(blk_own A k d g).1 e.symm])).2.2 rfl
theorem CInv.box {a : TyA} {ks : List Ty} {w : World} {g : Nat} {LL : Option Addr} {lc k : Nat} {A : Option Addr} {d : Nat} {xs : List Value} {fs : Nat → List Nat} {wr : World} (h : CInv a ks w g LL lc k A d xs fs wr) : Box3 wr g 96 (.int .i64 a.kind) (.slice LL a.labels.length lc) (.slice A k d) := h.1
theorem CInv.row {a : TyA} {ks : List Ty} {w : World} {g : Nat} {LL : Option Addr} {lc k : Nat} {A : Option Addr} {d : Nat} {xs : List Value} {fs : Nat → List Nat} {wr : World} (h : CInv a ks w g LL lc k A d xs fs wr) : wr.ownsRow 0 96 3 (.slice A k d) k xs := h.2.1
theorem CInv.bel {a : TyA} {ks : List Ty} {w : World} {g : Nat} {LL : Option Addr} {lc k : Nat} {A : Option Addr} {d : Nat} {xs : List Value} {fs : Nat → List Nat} {wr : World} (h : CInv a ks w g LL lc k A d xs fs wr) : Below w.heap.size w wr := h.2.2.2.2.2.2.2
theorem own3_below {w w' : World} {base : Nat} {e : TypeId} {A : Option Addr} {n c : Nat} {xs : List Value} (h : w.ownsRow base e 3 (.slice A n c) n xs) (hb : Below w.heap.size w w') : w'.ownsRow base e 3 (.slice A n c) n xs :=
  own_keep h (row := none) ⟨hb.os, hb.tape, hb.output, hb.size, fun i hi _ => hb.block i hi⟩ (fun b _ => by simp)
theorem news3 (w : World) (a b c : Value) (t : TypeId) : ∀ (j : Nat) (u : Value), [a, b, c][j]? = some u → (w.alloc (.cells #[a, b, c] t)).cell? ((⟨w.heap.size, 0, none⟩ : Addr).add j) = some u := by
  intro j u hj
  rw [Addr.add_lit, Nat.zero_add, cell_of_row _ _ j #[a, b, c] t (0, 0) (heap_alloc_new w _)]
  match j, hj with
  | 0, hj => simpa using hj
  | 1, hj => simpa using hj
  | 2, hj => simpa using hj

theorem copy_done {a : TyA} {ks : List Ty} {w W1 : World} {g : Nat} {LL : Option Addr} {lc : Nat} {A : Option Addr} {d : Nat} {xs : List Value} {fs : Nat → List Nat} {wr : World} {G : Nat} (ha : a.ok) (hk : ks.length ≤ 9223372036854775807)
    (h : CInv a ks W1 g LL lc ks.length A d xs fs wr) (hb1 : Below w.heap.size w W1) (hG : G < W1.heap.size) (hwG : w.heap.size ≤ G) {U : World} (hU : wr.grownBy U (some G)) :
    MadeT (.node a ks) w (.returned (.agg #[.int .i64 a.kind, .slice LL a.labels.length lc, .slice A ks.length d])) U := by
  obtain ⟨h1, h2, h3, h4, h5, h6, h7, h8⟩ := h
  have hsU := hU.size
  have hs1 := hb1.size
  have ne : ∀ b ∈ blk LL ++ blk A ++ (List.range ks.length).flatMap fs, some b ≠ some G := fun b hb e => by
    injection e with e
    have := (h6 b hb).1
    omega
  refine ⟨LL, A, lc, d, blk LL ++ blk A ++ (List.range ks.length).flatMap fs, rfl, ?_, fun b hb => ?_, ?_⟩
  · refine .node a ks LL A lc d xs fs ha (own_keep h3 hU (fun b hb => ne b (by simp [hb]))) hk (own_keep h2 hU (fun b hb => ne b (by simp [hb]))) (fun j t hj => ?_) h5
    have hjl := (List.getElem?_eq_some_iff.1 hj).1
    refine (h4 j t hjl hj).keep hU (fun b hb => ne b ?_)
    rw [List.mem_append, List.mem_flatMap]
    exact .inr ⟨j, List.mem_range.2 hjl, hb⟩
  · have := h6 b hb
    omega
  · exact (hb1.trans (h8.mono hs1)).grown hU (by have := h8.size; omega) (fun k hk => by injection hk with hk; omega)

end Go.Proofs.YtlikmgkjilmjpaaGreat

/-
  The model's SizeOfType.
-/
namespace Go.Proofs.YtlikmgkjilmjpaaGreat
open Go.RowKit

/-- an answer that is a number; all that was there is as it was -/
def Counts (n : Int) (w : World) (e : Ending) (w' : World) : Prop := e = .returned (.int .i64 n) ∧ Below w.heap.size w w'

end Go.Proofs.YtlikmgkjilmjpaaGreat

/-
  The model's DepthOfType and CountBags.
-/
namespace Go.Proofs.YtlikmgkjilmjpaaGreat
open Go.RowKit

/-- the depth: 1 without parts -/
def Tr.deep {α : Type} : Tr α → Nat
  | .node _ ks => (ks.attach.map fun ⟨t, _⟩ => t.deep).foldl max 0 + 1
theorem deep_node {α : Type} (a : α) (ks : List (Tr α)) : (Tr.node a ks).deep = (ks.map Tr.deep).foldl max 0 + 1 := by
  rw [Tr.deep]
  congr 2
  exact List.attach_map_val (l := ks) (f := Tr.deep) ▸ rfl
/-- the depth of the first k parts -/
def deepTo {α : Type} (ks : List (Tr α)) (k : Nat) : Nat := ((ks.take k).map Tr.deep).foldl max 0
theorem deepTo_zero {α : Type} (ks : List (Tr α)) : deepTo ks 0 = 0 := rfl
theorem deepTo_succ {α : Type} (ks : List (Tr α)) (k : Nat) (h : k < ks.length) : deepTo ks (k + 1) = max (deepTo ks k) ks[k].deep := by
  unfold deepTo
  rw [List.take_succ_eq_append_getElem h, List.map_append, List.foldl_append]
  rfl
theorem deepTo_all {α : Type} (a : α) (ks : List (Tr α)) : (Tr.node a ks).deep = deepTo ks ks.length + 1 := by rw [deep_node, deepTo, List.take_length]
theorem foldl_max_le {m : Nat} : ∀ (xs : List Nat) (a : Nat), a ≤ m → (∀ x ∈ xs, x ≤ m) → xs.foldl max a ≤ m
  | [], a, h, _ => h
  | x :: xs, a, h, hx => foldl_max_le xs _ (Nat.max_le.2 ⟨h, hx x (by simp)⟩) (fun y hy => hx y (by simp [hy]))
theorem kid_sum_le {β : Type} (f : β → Nat) {ks : List β} {t : β} (h : t ∈ ks) : f t ≤ (ks.map f).sum := by
  induction ks with
  | nil => cases h
  | cons x xs ih =>
    rcases List.mem_cons.1 h with rfl | h
    · simp
    · have := ih h; simp; omega
theorem deep_le_size : ∀ t : Ty, t.deep ≤ t.size := by
  refine Tr.ind ?_
  intro a ks ih
  rw [deep_node, size_node]
  have := foldl_max_le (m := (ks.map Tr.size).sum) (ks.map Tr.deep) 0 (Nat.zero_le _) (by
    intro x hx
    obtain ⟨t, ht, rfl⟩ := List.mem_map.1 hx
    exact Nat.le_trans (ih t ht) (kid_sum_le Tr.size ht))
  omega
theorem kid_size_lt {a : TyA} {ks : List Ty} {t : Ty} (h : t ∈ ks) : t.size < (Tr.node a ks).size := by
  rw [size_node]
  have := kid_sum_le Tr.size h
  omega

theorem l1Max_any {w : World} {a b : Nat} : Calls Tryz.prog 107 #[.int .i64 a, .int .i64 b] w (Counts (max a b : Nat) w) := by
  have h1 : b < a → (Counts (max a b : Nat) w (.returned (.int .i64 a)) w) := by
    intro h; refine ⟨?_, Below.refl _ _⟩; rw [Nat.max_eq_left (by omega)]
  have h2 : ¬ b < a → (Counts (max a b : Nat) w (.returned (.int .i64 b)) w) := by
    intro h; refine ⟨?_, Below.refl _ _⟩; rw [Nat.max_eq_right (by omega)]
  have H1 := Lib.hid h1
  have H2 := Lib.hid h2
  clear h1 h2
  go_enter Tryz.func107, Tryz.ntmps107
  by_cases h : b < a
  · have hH := Lib.hid (H1.out h)
    clear H1 H2
    go_wp2_with fail
    go_ret
    exact hH.out
  · have hH := Lib.hid (H2.out h)
    clear H1 H2
    go_wp2_with fail
    go_ret
    exact hH.out

set_option maxHeartbeats 800000 in
theorem specDepth_any : ∀ (t : Ty) (w : World) (cs : List Value), RTy w t cs → t.size ≤ 1048577 → Calls Tryz.prog 98 #[.agg cs.toArray] w (Counts t.deep w) := by
  refine Tr.ind ?_
  intro a ks ih w cs h hs
  obtain ⟨L, c, A, d, rfl, k1, k2, k3, k4, k5, k6, hp⟩ := h.out
  have hle := deep_le_size (.node a ks)
  have hkd : ∀ k, k ≤ ks.length → deepTo ks k < 1048577 := by
    intro k hk
    have := foldl_max_le (m := (ks.map Tr.size).sum) ((ks.take k).map Tr.deep) 0 (Nat.zero_le _) (by
      intro x hx
      obtain ⟨t, ht, rfl⟩ := List.mem_map.1 hx
      exact Nat.le_trans (deep_le_size t) (kid_sum_le Tr.size (List.mem_of_mem_take ht)))
    rw [size_node] at hs
    unfold deepTo
    omega
  have hall := deepTo_all a ks
  obtain ⟨W1, hW1⟩ : ∃ W1, w.alloc (.cells #[.int .i64 a.kind, .slice L a.labels.length c, .slice A ks.length d] 96) = W1 := ⟨_, rfl⟩
  have hb0 : Below w.heap.size w W1 := by rw [← hW1]; exact (Below.refl _ _).alloc (Nat.le_refl _) _
  have hbox : W1.cell? ⟨w.heap.size, 2, none⟩ = some (.slice A ks.length d) := by rw [← hW1]; exact cell_of_row _ _ 2 _ _ _ (heap_alloc_new w _)
  have HP := Lib.hid hp
  have HI := Lib.hid ih
  have HB0 := Lib.hid hb0
  have HBOX := Lib.hid hbox
  have HW1 := Lib.hid hW1
  have HS := Lib.hid hs
  have HKD := Lib.hid hkd
  have HALL := Lib.hid hall
  clear hp ih hb0 hbox hW1 k1 k5 h hkd hall hle hs
  go_enter Tryz.func98, Tryz.ntmps98
  go_wp2_with fail
  rw [HW1.out]
  go_loopw [3, 4] (fun n i wr => ∃ k : Nat, k ≤ ks.length ∧ i = .int .i64 k ∧ n = .int .i64 ((deepTo ks k : Nat) : Int) ∧ Below W1.heap.size W1 wr) (fun _ i _ => ks.length - (intOf i).toNat)
  case atStart => exact ⟨0, Nat.zero_le _, rfl, rfl, Below.refl _ _⟩
  case round =>
    obtain ⟨k, hk, rfl, rfl, hb⟩ := hrel
    have hbw := HB0.out.trans (hb.mono HB0.out.size)
    have hbx : wr.cell? ⟨w.heap.size, 2, none⟩ = some (.slice A ks.length d) := (hb.cell (World.block_lt_of_cell? W1 _ HBOX.out)).trans HBOX.out
    by_cases hlt : k < ks.length
    · obtain ⟨ad, p, c0, c1, c2, rfl, hpe, hr, q0, q1, q2⟩ := kid_at HP.out hbw hlt
      have hst := deepTo_succ ks k hlt
      have hd1 := HKD.out k hk
      have hd2 := HKD.out (k + 1) hlt
      have hc := HI.out ks[k] (List.getElem_mem hlt) wr [c0, c1, c2] hr (by have := kid_size_lt (a := a) (List.getElem_mem hlt); have := HS.out; omega)
      obtain ⟨n, hn⟩ : ∃ n, deepTo ks k = n := ⟨_, rfl⟩
      obtain ⟨m, hm⟩ : ∃ m, ks[k].deep = m := ⟨_, rfl⟩
      rw [hst] at hd2
      rw [hn, hm] at hst hd2
      rw [hn] at hd1
      rw [hm] at hc
      rw [hn]
      have hmx := fun W => l1Max_any (w := W) (a := n) (b := m)
      have HC := Lib.hid hc
      have HST := Lib.hid hst
      have HMX := Lib.hid hmx
      have hmm : m < 1048577 := by omega
      clear hc hr hst hn hm hd2 hmx
      go_wp2_with fail
      refine HC.out.mono ?_
      rintro e w2 ⟨rfl, hb2⟩
      have hb3 := hb.trans (hb2.mono hb.size)
      go_wp2_with fail
      refine (HMX.out w2).mono ?_
      rintro e w3 ⟨rfl, hb4⟩
      have hb5 := hb3.trans (hb4.mono hb3.size)
      go_wp2_with fail
      go_roundw
      case rel => exact ⟨k + 1, hlt, by go_num, by rw [HST.out], hb5⟩
      case measure => simp [intOf]; omega
    · have he : k = ks.length := by omega
      have hd1 := HKD.out k hk
      have HR : Hid (Counts (((Tr.node a ks).deep : Nat) : Int) w (.returned (.int .i64 (((deepTo ks k : Nat) : Int) + 1))) wr) := by
        rw [HALL.out, he]
        exact ⟨by rw [Int.natCast_add]; rfl, hbw⟩
      obtain ⟨n, hn⟩ : ∃ n, deepTo ks k = n := ⟨_, rfl⟩
      rw [hn] at HR hd1 ⊢
      clear he hn
      go_wp2_with fail
      go_ret
      exact HR.out

/-- how many nodes are bags -/
def Tr.bags (t : Ty) : Nat := t.sum fun a => if a.kind = 4 then 1 else 0
theorem bags_node (a : TyA) (ks : List Ty) : (Tr.node a ks).bags = (if a.kind = 4 then 1 else 0) + (ks.map Tr.bags).sum := Tr.sum_node _ a ks
theorem sum_le_sum {β : Type} (f g : β → Nat) : ∀ ks : List β, (∀ t ∈ ks, f t ≤ g t) → (ks.map f).sum ≤ (ks.map g).sum
  | [], _ => Nat.le_refl _
  | x :: xs, h => by
    have h1 := h x (by simp)
    have h2 := sum_le_sum f g xs (fun t ht => h t (by simp [ht]))
    simp
    omega
theorem bags_le_size : ∀ t : Ty, t.bags ≤ t.size := by
  refine Tr.ind ?_
  intro a ks ih
  rw [bags_node, size_node]
  have := sum_le_sum Tr.bags Tr.size ks ih
  split <;> omega

end Go.Proofs.YtlikmgkjilmjpaaGreat

/-
  Worlds in which only the named blocks have turned; marks as texts. The laws' markStringS.
-/
namespace Go.Proofs.YtlikmgkjilmjpaaGreat
open Go.RowKit

/-- but for new blocks, only the blocks of fp have turned -/
structure Only (fp : List Nat) (w w' : World) : Prop where
  os : w'.os = w.os
  tape : w'.tape = w.tape
  output : w'.output = w.output
  size : w.heap.size ≤ w'.heap.size
  block : ∀ b, b < w.heap.size → b ∉ fp → w'.heap[b]? = w.heap[b]?
section
variable {fp gp : List Nat} {a b c : World}
theorem Only.refl (fp : List Nat) (w : World) : Only fp w w := ⟨rfl, rfl, rfl, Nat.le_refl _, fun _ _ _ => rfl⟩
theorem Only.trans (h : Only fp a b) (k : Only fp b c) : Only fp a c :=
  ⟨k.os.trans h.os, k.tape.trans h.tape, k.output.trans h.output, Nat.le_trans h.size k.size, fun i hi hn => (k.block i (Nat.lt_of_lt_of_le hi h.size) hn).trans (h.block i hi hn)⟩
theorem Only.more (h : Only fp a b) (hs : ∀ x ∈ fp, x ∈ gp) : Only gp a b := ⟨h.os, h.tape, h.output, h.size, fun i hi hn => h.block i hi (fun hm => hn (hs i hm))⟩
theorem Only.of_below (h : Below a.heap.size a b) : Only fp a b := ⟨h.os, h.tape, h.output, h.size, fun i hi _ => h.block i hi⟩
theorem Only.of_grown {row : Option Nat} (h : a.grownBy b row) (hr : ∀ g, row = some g → g ∈ fp) : Only fp a b :=
  ⟨h.os, h.tape, h.output, h.size, fun i hi hn => h.block i hi (fun e => hn (hr i e.symm))⟩
theorem Only.below {B : Nat} (h : Only fp a b) (hB : B ≤ a.heap.size) (hf : ∀ x ∈ fp, B ≤ x) : Below B a b :=
  ⟨h.os, h.tape, h.output, h.size, fun i hi => h.block i (by omega) (fun hm => by have := hf i hm; omega)⟩
end
theorem own_only {w w' : World} {base size n : Nat} {e : TypeId} {A : Option Addr} {c : Nat} {xs : List Value} {fp : List Nat} (h : w.ownsRow base e size (.slice A n c) n xs) (ho : Only fp w w') (hne : ∀ b ∈ blk A, b ∉ fp) : w'.ownsRow base e size (.slice A n c) n xs := by
  refine ⟨h.1, h.2.imp id ?_⟩
  rintro ⟨g, cap, cur, hv, hb, hg, rest⟩
  refine ⟨g, cap, cur, hv, hb, ?_, rest⟩
  injection hv with e1 _ _
  subst e1
  exact (ho.block g (Array.getElem?_eq_some_iff.1 hg).1 (hne g (by simp [blk]))).trans hg
/-- the marks as texts -/
def marksB (k : Int) (n : Nat) : List ByteArray := (List.range n).map fun (j : Nat) => ⟨(mtext (k + (j : Int))).toArray⟩
theorem marks_eq (k : Int) (n : Nat) : marks k n = (marksB k n).map Value.string := by simp [marks, marksB]
theorem marksB_len (k : Int) (n : Nat) : (marksB k n).length = n := by simp [marksB]
theorem mtext_len (k : Int) (h0 : 0 ≤ k) (h : k ≤ 1000000000000) : (mtext k).length ≤ 20 := by
  unfold mtext
  have := digs_len k.natAbs (by omega)
  simp
  omega
theorem marksB_size (k : Int) (n : Nat) (h0 : 0 < k) (h : k + n ≤ 1000000000000) : ∀ x ∈ marksB k n, x.size ≤ 9223372036854775807 := by
  intro x hx
  obtain ⟨j, hj, rfl⟩ := List.mem_map.1 hx
  have hj' := List.mem_range.1 hj
  have := mtext_len (k + (j : Int)) (by omega) (by omega)
  show (mtext (k + (j : Int))).toArray.size ≤ _
  rw [List.size_toArray]
  omega
/-- marks in the labels of one node -/
def MarkedS (L : Option Addr) (n c : Nat) (k : Int) (w : World) (e : Ending) (w' : World) : Prop :=
  e = .returned (.int .i64 (k + n)) ∧ w'.ownsRow 0 9 1 (.slice L n c) n (marks k n) ∧ Only (blk L) w w'
set_option maxHeartbeats 800000 in
theorem markS_any (L : Option Addr) (n c : Nat) (k : Int) (xs : List Value) (w : World) (h : w.ownsRow 0 9 1 (.slice L n c) n xs) (hx : ∀ u ∈ xs, ∃ s, u = .string s) (hk : 0 < k) (hk1 : k + n ≤ 1000000000000) :
    Calls Tryz.prog 43 #[.slice L n c, .int .i64 k] w (MarkedS L n c k w) := by
  rcases h.2 with ⟨hv, hn⟩ | ⟨g, cap, cur, hv, _⟩
  · injection hv with h1 h2 h3
    subst h1
    subst hn
    subst h3
    have hxs : xs = [] := List.eq_nil_of_length_eq_zero (by simpa using h.1)
    subst hxs
    have HR := Lib.hid h
    clear h
    go_enter Tryz.func43, Tryz.ntmps43
    go_wp2_with fail
    refine wp_loop_rounds 1 ?_
    rw [rounds_succ]
    go_wp2_with fail
    go_ret
    exact ⟨by simp, HR.out, Only.refl _ _⟩
  · injection hv with h1 h2 h3
    subst h1
    subst h3
    refine (markStringS_any g n c 0 k xs w h hx hk hk1).mono ?_
    rintro e w' ⟨rfl, hown, hg⟩
    exact ⟨rfl, hown, Only.of_grown hg (fun g' e => by injection e with e; subst e; simp [blk])⟩
theorem flat_mem {n : Nat} {fs : Nat → List Nat} {i x : Nat} (hi : i < n) (hx : x ∈ fs i) : x ∈ (List.range n).flatMap fs := List.mem_flatMap.2 ⟨i, List.mem_range.2 hi, hx⟩
theorem flat_apart : ∀ {n : Nat} {fs : Nat → List Nat}, ((List.range n).flatMap fs).Nodup → ∀ {i j x : Nat}, i < n → j < n → i ≠ j → x ∈ fs i → x ∉ fs j
  | 0, _, _, _, _, _, h, _, _, _ => by omega
  | n + 1, fs, hnd, i, j, x, hi, hj, hij, hx => by
    rw [List.range_succ, List.flatMap_append] at hnd
    have hs : [n].flatMap fs = fs n := by simp
    rw [hs] at hnd
    obtain ⟨h1, _, h3⟩ := List.nodup_append.1 hnd
    intro hy
    rcases Nat.lt_or_ge i n with h | h
    · rcases Nat.lt_or_ge j n with h' | h'
      · exact flat_apart h1 h h' hij hx hy
      · rw [show j = n by omega] at hy
        exact h3 x (flat_mem h hx) x hy rfl
    · rw [show i = n by omega] at hx
      exact h3 x (flat_mem (i := j) (by omega) hy) x hx rfl
end Go.Proofs.YtlikmgkjilmjpaaGreat
