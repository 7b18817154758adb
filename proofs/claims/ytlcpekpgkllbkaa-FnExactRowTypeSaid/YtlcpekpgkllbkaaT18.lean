/-
  Merged by program: VaCopy.
-/
import Derived.Test.YtlcpekpgkllbkaaT15
import Derived.Test.YtlcpekpgkllbkaaT8
import Derived.Test.YtlcpekpgkllbkaaT7
import Derived.Test.YtlcpekpgkllbkaaT16
import Derived.Test.YtlcpekpgkllbkaaT2
import Derived.StillTailTactics
import Derived.Deep.RegionHeld3
import Derived.Deep.RegionLaw
import Derived.Deep.CutRange

/-
  A value that is put together in a variable of its own: what its loop keeps.
-/
namespace Go.Proofs.Ytlcpekpgkllbkaa
open Go.RowKit

theorem part4_app {xs : List Value} {r0 r1 r2 r3 : Value} {k j : Nat} (hl : xs.length = k * 4) (hj : j < k) : part4 (xs ++ [r0, r1, r2, r3]) j = part4 xs j :=
  part4_ext fun i hi => by rw [List.getElem?_append_left (by omega)]
theorem part4_end {xs : List Value} {r0 r1 r2 r3 : Value} {k : Nat} (hl : xs.length = k * 4) : part4 (xs ++ [r0, r1, r2, r3]) k = [r0, r1, r2, r3] := by
  unfold part4
  rw [List.drop_append_of_le_length (by omega), List.drop_eq_nil_of_le (by omega)]
  rfl
/-- k parts are put together; the variable is the block g -/
def CInvV (a : VaA) (ks : List Va) (w : World) (g : Nat) (LL : Option Addr) (lc k : Nat) (A : Option Addr) (d : Nat) (xs : List Value) (fs : Nat → List Nat) (wr : World) : Prop :=
  Box4 wr g 92 (.int .i64 a.kind) (.int .i64 a.num) (.slice LL a.labels.length lc) (.slice A k d) ∧ wr.ownsRow 0 92 4 (.slice A k d) k xs ∧
    wr.ownsRow 0 9 1 (.slice LL a.labels.length lc) a.labels.length (a.labels.map Value.string) ∧ (∀ j t, j < k → ks[j]? = some t → OVa wr t (part4 xs j) (fs j)) ∧
    (blk LL ++ blk A ++ (List.range k).flatMap fs).Nodup ∧ (∀ b ∈ blk LL ++ blk A ++ (List.range k).flatMap fs, w.heap.size ≤ b ∧ b < wr.heap.size ∧ b ≠ g) ∧ w.heap.size ≤ g ∧ Below w.heap.size w wr

theorem cinvV_more {a : VaA} {ks : List Va} {w : World} {g : Nat} {LL : Option Addr} {lc k : Nat} {A : Option Addr} {d : Nat} {xs : List Value} {fs : Nat → List Nat} {wr : World} (h : CInvV a ks w g LL lc k A d xs fs wr) (hk : k < ks.length)
    {w2 w4 : World} {fp : List Nat} {r0 r1 r2 r3 v' : Value} (hb2 : Below wr.heap.size wr w2) (hot : OVa w2 ks[k] [r0, r1, r2, r3] fp) (hfp : ∀ b ∈ fp, wr.heap.size ≤ b ∧ b < w2.heap.size)
    (hown : w4.ownsRow 0 92 4 v' (k + 1) (xs ++ [r0, r1, r2, r3])) (hgr : (w2.alloc (.cells #[r0, r1, r2, r3] 92)).grownBy w4 (Value.slice A k d).ownBlock)
    (hor : v'.ownBlock = (Value.slice A k d).ownBlock ∨ v'.ownBlock = some (w2.heap.size + 1)) :
    ∃ A' d' fs', v' = .slice A' (k + 1) d' ∧ CInvV a ks w g LL lc (k + 1) A' d' (xs ++ [r0, r1, r2, r3]) fs' (w4.setCell ⟨g, 3, none⟩ v') := by
  obtain ⟨A', d', rfl⟩ := own_shape3 hown
  obtain ⟨hbox, hrow, hlab, hkid, hnd, hbd, hwg, hb⟩ := h
  have hxl : xs.length = k * 4 := hrow.1
  have hgl := hbox.lt
  have hs2 := hb2.size
  have hsw := hb.size
  obtain ⟨w3, hw3⟩ : ∃ w3, w2.alloc (.cells #[r0, r1, r2, r3] 92) = w3 := ⟨_, rfl⟩
  have hz3 : w3.heap.size = w2.heap.size + 1 := by rw [← hw3]; simp
  rw [hw3] at hgr
  have hs4 := hgr.size
  obtain ⟨w5, hw5⟩ : ∃ w5, w4.setCell ⟨g, 3, none⟩ (.slice A' (k + 1) d') = w5 := ⟨_, rfl⟩
  have hg5 : w4.grownBy w5 (some g) := by rw [← hw5]; exact grown_set (World.grownBy.refl _ _) _
  have hs5 := hg5.size
  have hb3 : Below wr.heap.size wr w3 := by rw [← hw3]; exact hb2.alloc hs2 _
  have hrowA : ∀ b, (Value.slice A k d).ownBlock = some b ↔ b ∈ blk A := blk_own A k d
  obtain ⟨nL, nA, nF, dLA, dLF, dAF⟩ := nodup3.1 hnd
  have bdL : ∀ b ∈ blk LL, w.heap.size ≤ b ∧ b < wr.heap.size ∧ b ≠ g := fun b hm => hbd b (by simp [hm])
  have bdA : ∀ b ∈ blk A, w.heap.size ≤ b ∧ b < wr.heap.size ∧ b ≠ g := fun b hm => hbd b (by simp [hm])
  have bdF : ∀ b ∈ (List.range k).flatMap fs, w.heap.size ≤ b ∧ b < wr.heap.size ∧ b ≠ g := fun b hm => hbd b (List.mem_append.2 (.inr hm))
  have hA' : ∀ b ∈ blk A', b ∈ blk A ∨ b = w2.heap.size + 1 := by
    intro b hm
    have e := (blk_own A' (k + 1) d' b).2 hm
    rcases hor with h | h
    · rw [h] at e; exact .inl ((hrowA b).1 e)
    · rw [h] at e; injection e with e; exact .inr e.symm
  have hlt' : ∀ b ∈ blk A', b < w4.heap.size := fun b hm => (hown.lt b ((blk_own A' (k + 1) d' b).2 hm)).2
  have notrow : ∀ b, b ∉ blk A → some b ≠ (Value.slice A k d).ownBlock := fun b hm e => hm ((hrowA b).1 e.symm)
  have hgA : g ∉ blk A := fun hm => (bdA g hm).2.2 rfl
  have hfj : ∀ j, j < k → ∀ b ∈ fs j, b ∈ (List.range k).flatMap fs := fun j hj b hm => List.mem_flatMap.2 ⟨j, List.mem_range.2 hj, hm⟩
  refine ⟨A', d', fun j => if j = k then fp else fs j, rfl, ?_⟩
  rw [hw5]
  refine ⟨?_, ?_, ?_, fun j t hj ht => ?_, ?_, ?_, hwg, ?_⟩
  · rw [← hw5]
    exact ((hbox.under hb3 hgl).grown hgr (notrow g hgA)).set3 _
  · exact own_keep hown hg5 (fun b hm e => by
      injection e with e
      subst e
      rcases hA' b hm with h | h
      · exact hgA h
      · omega)
  · refine own_keep (own_keep (own_keep hlab (row := none) ⟨hb3.os, hb3.tape, hb3.output, hb3.size, fun i hi _ => hb3.block i hi⟩ (fun b _ => by simp)) hgr (fun b hm => notrow b (dLA b hm))) hg5 (fun b hm e => by injection e with e; exact (bdL b hm).2.2 e)
  · show OVa _ _ _ (if j = k then fp else fs j)
    by_cases e : j = k
    · subst e
      rw [List.getElem?_eq_getElem hk] at ht
      injection ht with ht
      subst ht
      rw [if_pos rfl, part4_end hxl]
      have h3 : OVa w3 ks[j] [r0, r1, r2, r3] fp := by rw [← hw3]; exact hot.under ((Below.refl _ _).alloc (Nat.le_refl _) _)
      refine (h3.keep hgr (fun b hm => notrow b (fun hA => ?_))).keep hg5 (fun b hm e => ?_)
      · have h1 := bdA b hA
        have h2 := hfp b hm
        omega
      · injection e with e
        have h2 := hfp b hm
        omega
    · have hj' : j < k := by omega
      rw [if_neg e, part4_app hxl hj']
      refine (((hkid j t hj' ht).under hb3).keep hgr (fun b hm => notrow b (fun hA => dAF b hA (hfj j hj' b hm)))).keep hg5 (fun b hm e => ?_)
      injection e with e
      exact (bdF b (hfj j hj' b hm)).2.2 e
  · rw [flat_more]
    refine nodup3.2 ⟨nL, blk_nodup _, List.nodup_append.2 ⟨nF, hot.nodup, fun x hx y hy e => ?_⟩, fun x hx hy => ?_, fun x hx hy => ?_, fun x hx hy => ?_⟩
    · have h1 := bdF x hx
      have h2 := hfp y hy
      omega
    · have h1 := bdL x hx
      rcases hA' x hy with h | h
      · exact dLA x hx h
      · omega
    · have h1 := bdL x hx
      rcases List.mem_append.1 hy with h | h
      · exact dLF x hx h
      · have := hfp x h; omega
    · rcases hA' x hx with h1 | h1
      · have h3 := bdA x h1
        rcases List.mem_append.1 hy with h | h
        · exact dAF x h1 h
        · have := hfp x h; omega
      · rcases List.mem_append.1 hy with h | h
        · have := bdF x h; omega
        · have := hfp x h; omega
  · rw [flat_more]
    intro b hm
    rcases List.mem_append.1 hm with hm | hm
    · rcases List.mem_append.1 hm with hm | hm
      · have := bdL b hm; exact ⟨this.1, by omega, this.2.2⟩
      · have h2 := hlt' b hm
        rcases hA' b hm with h | h
        · have := bdA b h; exact ⟨this.1, by omega, this.2.2⟩
        · exact ⟨by omega, by omega, by omega⟩
    · rcases List.mem_append.1 hm with hm | hm
      · have := bdF b hm; exact ⟨this.1, by omega, this.2.2⟩
      · have := hfp b hm; exact ⟨by omega, by omega, by omega⟩
  · have h4 : Below w.heap.size w w4 := (hb.trans (hb3.mono hb.size)).grown hgr (by omega) (fun b hm => (bdA b ((hrowA b).1 hm)).1)
    exact h4.grown hg5 h4.size (fun b hm => by injection hm with hm; omega)

theorem one4 (k n0 : Int) (L A : Option Addr) (l c n d : Nat) : ∀ u ∈ [Value.int .i64 k, .int .i64 n0, .slice L l c, .slice A n d], u.oneCell' = true := by
  intro u hu
  simp at hu
  rcases hu with rfl | rfl | rfl | rfl <;> rfl

def C0V (a : VaA) (ks : List Va) (W1 : World) (s3 : Value) (wx : World) : Prop := ∃ g LL lc, s3 = .pointer (some ⟨g, 0, none⟩) ∧ CInvV a ks W1 g LL lc 0 none 0 [] (fun _ => []) wx

theorem c0V_at {a : VaA} {ks : List Va} {W1 V : World} {g base : Nat} {LL : Option Addr} {lc : Nat} (hb : Below W1.heap.size W1 V) (hbox : Box4 V g 92 (.int .i64 a.kind) (.int .i64 a.num) (.slice LL a.labels.length lc) (.slice none 0 0)) (hg : W1.heap.size ≤ g)
    (hown : V.ownsRow base 9 1 (.slice LL a.labels.length lc) a.labels.length (a.labels.map Value.string)) (hbase : W1.heap.size ≤ base) (hne : ∀ b ∈ blk LL, b ≠ g) : C0V a ks W1 (.pointer (some ⟨g, 0, none⟩)) V := by
  have hbL : ∀ b ∈ blk LL, W1.heap.size ≤ b ∧ b < V.heap.size := fun b hm => by
    have := hown.lt b ((blk_own LL _ lc b).2 hm)
    exact ⟨Nat.le_trans hbase this.1, this.2⟩
  refine ⟨g, LL, lc, rfl, hbox, ⟨rfl, .inl ⟨rfl, rfl⟩⟩, own_zero hown, fun j t hj => by omega, ?_, fun b hm => ?_, hg, hb⟩
  · simp [blk]
    exact blk_nodup LL
  · have hm' : b ∈ blk LL := by simpa [blk] using hm
    exact ⟨(hbL b hm').1, (hbL b hm').2, hne b hm'⟩
theorem c0V_of {a : VaA} {ks : List Va} {W1 U : World} {g base : Nat} {LL : Option Addr} {lc : Nat} (hb : Below W1.heap.size W1 U) (hbox : Box4 U g 92 (.int .i64 0) (.int .i64 0) (.slice none 0 0) (.slice none 0 0)) (hg : W1.heap.size ≤ g)
    (hown : U.ownsRow base 9 1 (.slice LL a.labels.length lc) a.labels.length (a.labels.map Value.string)) (hbase : W1.heap.size ≤ base) (hne : ∀ b ∈ blk LL, b ≠ g) :
    C0V a ks W1 (.pointer (some ⟨g, 0, none⟩)) ((((U.setCell ⟨g, 0, none⟩ (.int .i64 a.kind)).setCell ⟨g, 1, none⟩ (.int .i64 a.num)).setCell ⟨g, 2, none⟩ (.slice LL a.labels.length lc)).setCell ⟨g, 3, none⟩ (.slice none 0 0)) := by
  obtain ⟨V, hV⟩ : ∃ V, (((U.setCell ⟨g, 0, none⟩ (.int .i64 a.kind)).setCell ⟨g, 1, none⟩ (.int .i64 a.num)).setCell ⟨g, 2, none⟩ (.slice LL a.labels.length lc)).setCell ⟨g, 3, none⟩ (.slice none 0 0) = V := ⟨_, rfl⟩
  have hgV : U.grownBy V (some g) := by rw [← hV]; exact grown_set (grown_set (grown_set (grown_set (World.grownBy.refl _ _) _) _) _) _
  rw [hV]
  refine c0V_at (lc := lc) (hb.grown hgV hb.size (fun b hm => by injection hm with hm; omega)) ?_ hg (base := base) ?_ hbase hne
  · rw [← hV]
    exact (((hbox.set0 _).set1 _).set2 _).set3 _
  · exact own_keep hown hgV (fun b hm e => by injection e with e; exact hne b hm e)

theorem cell_four {w : World} {g : Nat} {a b c d u : Value} {p : Addr} (h : w.cell? p = some u) (hne : p.block ≠ g) : ((((w.setCell ⟨g, 0, none⟩ a).setCell ⟨g, 1, none⟩ b).setCell ⟨g, 2, none⟩ c).setCell ⟨g, 3, none⟩ d).cell? p = some u := by
  have hg : w.grownBy ((((w.setCell ⟨g, 0, none⟩ a).setCell ⟨g, 1, none⟩ b).setCell ⟨g, 2, none⟩ c).setCell ⟨g, 3, none⟩ d) (some g) := grown_set (grown_set (grown_set (grown_set (World.grownBy.refl _ _) _) _) _) _
  exact (World.cell?_of_block (hg.block _ (World.block_lt_of_cell? w _ h) (fun e => hne (by injection e)))).trans h

/-- what the loop keeps -/
def CRelV (a : VaA) (ks : List Va) (W1 : World) (g : Nat) (LL : Option Addr) (lc : Nat) (i : Value) (wr : World) : Prop := ∃ (k : Nat) (A : Option Addr) (d : Nat) (xs : List Value) (fs : Nat → List Nat), k ≤ ks.length ∧ i = .int .i64 k ∧ CInvV a ks W1 g LL lc k A d xs fs wr
theorem CInvV.drew {a : VaA} {ks : List Va} {w : World} {g : Nat} {LL : Option Addr} {lc k : Nat} {A : Option Addr} {d : Nat} {xs : List Value} {fs : Nat → List Nat} {wr : World} (h : CInvV a ks w g LL lc k A d xs fs wr) : CInvV a ks w g LL lc k A d xs fs wr.drew := by
  obtain ⟨h1, h2, h3, h4, h5, h6, h7, h8⟩ := h
  exact ⟨h1, h2, h3, fun j t hj ht => (h4 j t hj ht).under (Below.refl _ _).drew, h5, h6, h7, h8.drew⟩
theorem CInvV.apart {a : VaA} {ks : List Va} {w : World} {g : Nat} {LL : Option Addr} {lc k : Nat} {A : Option Addr} {d : Nat} {xs : List Value} {fs : Nat → List Nat} {wr : World} (h : CInvV a ks w g LL lc k A d xs fs wr) : some g ≠ (Value.slice A k d).ownBlock := by
  obtain ⟨h1, h2, h3, h4, h5, h6, h7, h8⟩ := h
  intro e
  exact (h6 g (by simp [(blk_own A k d g).1 e.symm])).2.2 rfl
theorem CInvV.box {a : VaA} {ks : List Va} {w : World} {g : Nat} {LL : Option Addr} {lc k : Nat} {A : Option Addr} {d : Nat} {xs : List Value} {fs : Nat → List Nat} {wr : World} (h : CInvV a ks w g LL lc k A d xs fs wr) : Box4 wr g 92 (.int .i64 a.kind) (.int .i64 a.num) (.slice LL a.labels.length lc) (.slice A k d) := h.1
theorem CInvV.row {a : VaA} {ks : List Va} {w : World} {g : Nat} {LL : Option Addr} {lc k : Nat} {A : Option Addr} {d : Nat} {xs : List Value} {fs : Nat → List Nat} {wr : World} (h : CInvV a ks w g LL lc k A d xs fs wr) : wr.ownsRow 0 92 4 (.slice A k d) k xs := h.2.1
theorem CInvV.bel {a : VaA} {ks : List Va} {w : World} {g : Nat} {LL : Option Addr} {lc k : Nat} {A : Option Addr} {d : Nat} {xs : List Value} {fs : Nat → List Nat} {wr : World} (h : CInvV a ks w g LL lc k A d xs fs wr) : Below w.heap.size w wr := h.2.2.2.2.2.2.2
theorem own4_below {w w' : World} {base : Nat} {e : TypeId} {A : Option Addr} {n c : Nat} {xs : List Value} (h : w.ownsRow base e 4 (.slice A n c) n xs) (hb : Below w.heap.size w w') : w'.ownsRow base e 4 (.slice A n c) n xs :=
  own_keep h (row := none) ⟨hb.os, hb.tape, hb.output, hb.size, fun i hi _ => hb.block i hi⟩ (fun b _ => by simp)
theorem news4 (w : World) (a b c d : Value) (t : TypeId) : ∀ (j : Nat) (u : Value), [a, b, c, d][j]? = some u → (w.alloc (.cells #[a, b, c, d] t)).cell? ((⟨w.heap.size, 0, none⟩ : Addr).add j) = some u := by
  intro j u hj
  rw [Addr.add_lit, Nat.zero_add, cell_of_row _ _ j #[a, b, c, d] t (0, 0) (heap_alloc_new w _)]
  match j, hj with
  | 0, hj => simpa using hj
  | 1, hj => simpa using hj
  | 2, hj => simpa using hj
  | 3, hj => simpa using hj

theorem copyV_done {a : VaA} {ks : List Va} {w W1 : World} {g : Nat} {LL : Option Addr} {lc : Nat} {A : Option Addr} {d : Nat} {xs : List Value} {fs : Nat → List Nat} {wr : World} {G : Nat} (ha : a.ok) (hk : ks.length ≤ 9223372036854775807)
    (h : CInvV a ks W1 g LL lc ks.length A d xs fs wr) (hb1 : Below w.heap.size w W1) (hG : G < W1.heap.size) (hwG : w.heap.size ≤ G) {U : World} (hU : wr.grownBy U (some G)) :
    MadeV (.node a ks) w (.returned (.agg #[.int .i64 a.kind, .int .i64 a.num, .slice LL a.labels.length lc, .slice A ks.length d])) U := by
  obtain ⟨h1, h2, h3, h4, h5, h6, h7, h8⟩ := h
  have hsU := hU.size
  have hs1 := hb1.size
  have ne : ∀ b ∈ blk LL ++ blk A ++ (List.range ks.length).flatMap fs, some b ≠ some G := fun b hb e => by
    injection e with e
    have := (h6 b hb).1
    omega
  refine ⟨LL, A, lc, d, blk LL ++ blk A ++ (List.range ks.length).flatMap fs, rfl, ?_, fun b hb => ?_, ?_⟩
  · refine .node a ks LL A lc d xs fs ha (own_keep h3 hU (fun b hb => ne b (by simp [hb]))) hk (own_keep h2 hU (fun b hb => ne b (by simp [hb]))) (fun j t hj => ?_) h5
    have hjl := (List.getElem?_eq_some_iff.1 hj).1
    refine (h4 j t hjl hj).keep hU (fun b hb => ne b ?_)
    rw [List.mem_append, List.mem_flatMap]
    exact .inr ⟨j, List.mem_range.2 hjl, hb⟩
  · have := h6 b hb
    omega
  · exact (hb1.trans (h8.mono hs1)).grown hU (by have := h8.size; omega) (fun k hk => by injection hk with hk; omega)
end Go.Proofs.Ytlcpekpgkllbkaa
