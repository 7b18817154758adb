/-
  Merged by program: KdF.
-/
import Derived.Test.YtlcpekpgkllbkaaE18
import Derived.Test.YtlcpekpgkllbkaaE13

/-
  A list of a kind that grows by append in the one field of a struct of its own. Hangs on no program.
-/
namespace Go.Proofs.Ytlcpekpgkllbkaa
open Go.RowKit
section
variable {α : Type}

/-- k elements are put together; the variable is the block g -/
def ApF (a : Kd α) (e T : TypeId) (xs : List α) (w : World) (g k : Nat) (A : Option Addr) (d : Nat) (cells : List Value) (fs : Nat → List Nat) (fp : List Nat) (wr : World) : Prop :=
  Box1 wr g T (.slice A k d) ∧ OLc a e wr (xs.take k) A d cells fs fp ∧ (∀ b ∈ fp, w.heap.size ≤ b ∧ b < wr.heap.size ∧ b ≠ g) ∧ w.heap.size ≤ g ∧ Below w.heap.size w wr
def ApFInv (a : Kd α) (e T : TypeId) (xs : List α) (w : World) (g : Nat) (i : Value) (wr : World) : Prop :=
  ∃ (k : Nat) (A : Option Addr) (d : Nat) (cells : List Value) (fs : Nat → List Nat) (fp : List Nat), k ≤ xs.length ∧ i = .int .i64 (k : Int) ∧ ApF a e T xs w g k A d cells fs fp wr
theorem apF_zero (a : Kd α) (e T : TypeId) (xs : List α) {w wr : World} {g : Nat} (h : Box1 wr g T (.slice none 0 0)) (hg : w.heap.size ≤ g) (hb : Below w.heap.size w wr) : ApF a e T xs w g 0 none 0 [] (fun _ => []) [] wr :=
  ⟨h, ol_nil a e wr, fun b hm => by simp at hm, hg, hb⟩
theorem apF_more {a : Kd α} {e T : TypeId} {xs : List α} {w wr w2 w4 : World} {g k : Nat} {A A' : Option Addr} {d d' : Nat} {cells rs : List Value} {fs : Nat → List Nat} {fp fx : List Nat} {i : Value} (hk : k < xs.length) (hmax : xs.length ≤ 9223372036854775807) (hi : i = .int .i64 ((k + 1 : Nat) : Int))
    (h : ApF a e T xs w g k A d cells fs fp wr) (hb2 : Below wr.heap.size wr w2) (hx : a.O w2 xs[k] rs fx) (hfx : ∀ b ∈ fx, wr.heap.size ≤ b ∧ b < w2.heap.size) (o : Obj)
    (hown : w4.ownsRow 0 e a.n (.slice A' (k + 1) d') (k + 1) (cells ++ rs)) (hgr : (w2.alloc o).grownBy w4 (Value.slice A k d).ownBlock)
    (hor : (Value.slice A' (k + 1) d').ownBlock = (Value.slice A k d).ownBlock ∨ (Value.slice A' (k + 1) d').ownBlock = some (w2.alloc o).heap.size) : ApFInv a e T xs w g i (w4.setCell ⟨g, 0, none⟩ (.slice A' (k + 1) d')) := by
  obtain ⟨hbox, hol, hfp, hwg, hb⟩ := h
  have hgl := hbox.lt
  have hlen : (xs.take k).length = k := by rw [List.length_take]; omega
  have hs2 := hb2.size
  have hsw := hb.size
  have hs3 : (w2.alloc o).heap.size = w2.heap.size + 1 := by simp
  have hb3 : Below wr.heap.size wr (w2.alloc o) := hb2.alloc hs2 _
  have hs4 := hgr.size
  have h3 : OLc a e (w2.alloc o) (xs.take k) A d cells fs fp := hol.under hb3
  have hx3 : a.O (w2.alloc o) xs[k] rs fx := a.under hx ((Below.refl _ _).alloc (Nat.le_refl _) _)
  obtain ⟨fs', fp', h4, hf4⟩ := olc_append (A' := A') (d' := d') h3 (by rw [hlen]; omega) hx3 (fun b hb1 hb2 => by have := hfx b hb1; have := hfp b hb2; omega) (fun b hb1 => by have := hfx b hb1; omega) (fun b hb1 => by have := hfp b hb1; omega) (by rw [hlen]; exact hown) (by rw [hlen]; exact hgr) (by rw [hlen]; exact hor)
  have htk : xs.take k ++ [xs[k]] = xs.take (k + 1) := by rw [List.take_add_one, List.getElem?_eq_getElem hk]; rfl
  rw [htk] at h4
  have hAfp : ∀ b, (Value.slice A k d).ownBlock = some b → b ∈ fp := fun b hm => by
    have hbm : b ∈ blk A := (blk_own A k d b).1 hm
    rw [hol.2.2.2.1]; simp [hbm]
  obtain ⟨w5, hw5⟩ : ∃ w5, w4.setCell ⟨g, 0, none⟩ (.slice A' (k + 1) d') = w5 := ⟨_, rfl⟩
  have hg5 : w4.grownBy w5 (some g) := by rw [← hw5]; exact grown_set (World.grownBy.refl _ _) _
  have hs5 := hg5.size
  have hne : ∀ b ∈ fp', w.heap.size ≤ b ∧ b < w4.heap.size ∧ b ≠ g := fun b hm => by
    obtain ⟨h5, h6⟩ := hf4 b hm
    rcases h5 with h5 | h5 | h5
    · have := hfp b h5; exact ⟨this.1, by omega, this.2.2⟩
    · have := hfx b h5; exact ⟨by omega, by omega, by omega⟩
    · exact ⟨by omega, by omega, by omega⟩
  rw [hw5]
  refine ⟨k + 1, A', d', _, fs', fp', hk, hi, ?_, h4.held (K := fun i => some i ≠ some g) ⟨hg5.os, hg5.tape, hg5.output, hg5.size, fun i hi hd => hg5.block i hi hd⟩ (fun b hm e1 => by injection e1 with e1; exact (hne b hm).2.2 e1), fun b hm => by have := hne b hm; exact ⟨this.1, by omega, this.2.2⟩, hwg, ?_⟩
  · rw [← hw5]
    exact (((hbox.under hb3 hgl).grown hgr (fun e1 => (hfp g (hAfp g e1.symm)).2.2 rfl))).set0 _
  · have h6 : Below w.heap.size w w4 := (hb.trans (hb3.mono hsw)).grown hgr (by omega) (fun b hm => (hfp b (hAfp b hm)).1)
    exact h6.grown hg5 h6.size (fun b hm => by injection hm with hm; omega)
/-- .. as apF_more, the blocks named -/
theorem apF_step {a : Kd α} {e T : TypeId} {xs : List α} {w wr w2 w4 : World} {g k : Nat} {A A' : Option Addr} {d d' : Nat} {cells rs : List Value} {fs : Nat → List Nat} {fp fx : List Nat} (hk : k < xs.length) (hmax : xs.length ≤ 9223372036854775807)
    (h : ApF a e T xs w g k A d cells fs fp wr) (hb2 : Below wr.heap.size wr w2) (hx : a.O w2 xs[k] rs fx) (hfx : ∀ b ∈ fx, wr.heap.size ≤ b ∧ b < w2.heap.size) (o : Obj)
    (hown : w4.ownsRow 0 e a.n (.slice A' (k + 1) d') (k + 1) (cells ++ rs)) (hgr : (w2.alloc o).grownBy w4 (Value.slice A k d).ownBlock)
    (hor : (Value.slice A' (k + 1) d').ownBlock = (Value.slice A k d).ownBlock ∨ (Value.slice A' (k + 1) d').ownBlock = some (w2.alloc o).heap.size) :
    ∃ fs' fp', ApF a e T xs w g (k + 1) A' d' (cells ++ rs) fs' fp' (w4.setCell ⟨g, 0, none⟩ (.slice A' (k + 1) d')) ∧ (∀ b ∈ fp', b ∈ fp ∨ wr.heap.size ≤ b) ∧ Held (fun i => i ≠ g ∧ i ∉ fp) wr (w4.setCell ⟨g, 0, none⟩ (.slice A' (k + 1) d')) := by
  obtain ⟨hbox, hol, hfp, hwg, hb⟩ := h
  have hgl := hbox.lt
  have hlen : (xs.take k).length = k := by rw [List.length_take]; omega
  have hs2 := hb2.size
  have hsw := hb.size
  have hs3 : (w2.alloc o).heap.size = w2.heap.size + 1 := by simp
  have hb3 : Below wr.heap.size wr (w2.alloc o) := hb2.alloc hs2 _
  have hs4 := hgr.size
  have h3 : OLc a e (w2.alloc o) (xs.take k) A d cells fs fp := hol.under hb3
  have hx3 : a.O (w2.alloc o) xs[k] rs fx := a.under hx ((Below.refl _ _).alloc (Nat.le_refl _) _)
  obtain ⟨fs', fp', h4, hf4⟩ := olc_append (A' := A') (d' := d') h3 (by rw [hlen]; omega) hx3 (fun b hb1 hb2 => by have := hfx b hb1; have := hfp b hb2; omega) (fun b hb1 => by have := hfx b hb1; omega) (fun b hb1 => by have := hfp b hb1; omega) (by rw [hlen]; exact hown) (by rw [hlen]; exact hgr) (by rw [hlen]; exact hor)
  have htk : xs.take k ++ [xs[k]] = xs.take (k + 1) := by rw [List.take_add_one, List.getElem?_eq_getElem hk]; rfl
  rw [htk] at h4
  have hAfp : ∀ b, (Value.slice A k d).ownBlock = some b → b ∈ fp := fun b hm => by
    have hbm : b ∈ blk A := (blk_own A k d b).1 hm
    rw [hol.2.2.2.1]; simp [hbm]
  obtain ⟨w5, hw5⟩ : ∃ w5, w4.setCell ⟨g, 0, none⟩ (.slice A' (k + 1) d') = w5 := ⟨_, rfl⟩
  have hg5 : w4.grownBy w5 (some g) := by rw [← hw5]; exact grown_set (World.grownBy.refl _ _) _
  have hs5 := hg5.size
  have hne : ∀ b ∈ fp', w.heap.size ≤ b ∧ b < w4.heap.size ∧ b ≠ g := fun b hm => by
    obtain ⟨h5, h6⟩ := hf4 b hm
    rcases h5 with h5 | h5 | h5
    · have := hfp b h5; exact ⟨this.1, by omega, this.2.2⟩
    · have := hfx b h5; exact ⟨by omega, by omega, by omega⟩
    · exact ⟨by omega, by omega, by omega⟩
  rw [hw5]
  refine ⟨fs', fp', ⟨?_, h4.held (K := fun i => some i ≠ some g) ⟨hg5.os, hg5.tape, hg5.output, hg5.size, fun i hi hd => hg5.block i hi hd⟩ (fun b hm e1 => by injection e1 with e1; exact (hne b hm).2.2 e1), fun b hm => by have := hne b hm; exact ⟨this.1, by omega, this.2.2⟩, hwg, ?_⟩, fun b hm => ?_, ?_⟩
  · rw [← hw5]
    exact (((hbox.under hb3 hgl).grown hgr (fun e1 => (hfp g (hAfp g e1.symm)).2.2 rfl))).set0 _
  · have h6 : Below w.heap.size w w4 := (hb.trans (hb3.mono hsw)).grown hgr (by omega) (fun b hm => (hfp b (hAfp b hm)).1)
    exact h6.grown hg5 h6.size (fun b hm => by injection hm with hm; omega)
  · obtain ⟨h5, h6⟩ := hf4 b hm
    rcases h5 with h5 | h5 | h5
    · exact .inl h5
    · exact .inr (hfx b h5).1
    · exact .inr (by omega)
  · refine (Held.of_below hb3 fun i hi _ => hi).trans ((Held.grown hgr fun q hq hn => hn.2 (hAfp q hq)).trans ?_)
    rw [← hw5]
    exact Held.set w4 (fun h => h.1 rfl) _
theorem ApF.apart {a : Kd α} {e T : TypeId} {xs : List α} {w wr : World} {g k : Nat} {A : Option Addr} {d : Nat} {cells : List Value} {fs : Nat → List Nat} {fp : List Nat} (h : ApF a e T xs w g k A d cells fs fp wr) : some g ≠ (Value.slice A k d).ownBlock := by
  obtain ⟨hbox, hol, hfp, hwg, hb⟩ := h
  intro e1
  have hbm : g ∈ blk A := (blk_own A k d g).1 e1.symm
  exact (hfp g (by rw [hol.2.2.2.1]; simp [hbm])).2.2 rfl
theorem ApF.row {a : Kd α} {e T : TypeId} {xs : List α} {w wr : World} {g k : Nat} {A : Option Addr} {d : Nat} {cells : List Value} {fs : Nat → List Nat} {fp : List Nat} (h : ApF a e T xs w g k A d cells fs fp wr) (hk : k ≤ xs.length) : wr.ownsRow 0 e a.n (.slice A k d) k cells := by
  have h1 := h.2.1.row
  rwa [show (xs.take k).length = k by rw [List.length_take]; omega] at h1
theorem ApF.drew {a : Kd α} {e T : TypeId} {xs : List α} {w wr : World} {g k : Nat} {A : Option Addr} {d : Nat} {cells : List Value} {fs : Nat → List Nat} {fp : List Nat} (h : ApF a e T xs w g k A d cells fs fp wr) : ApF a e T xs w g k A d cells fs fp wr.drew := by
  obtain ⟨hbox, hol, hfp, hwg, hb⟩ := h
  exact ⟨hbox, hol.under (Below.refl _ _).drew, hfp, hwg, hb.drew⟩
/-- whole: handed back through the block G -/
theorem apF_done {a : Kd α} {e T : TypeId} {xs : List α} {w W wr U : World} {g G : Nat} {A : Option Addr} {d : Nat} {cells : List Value} {fs : Nat → List Nat} {fp : List Nat} (h : ApF a e T xs W g xs.length A d cells fs fp wr) (hwW : Below w.heap.size w W) (hG : G < W.heap.size) (hwG : w.heap.size ≤ G) (hU : wr.grownBy U (some G)) :
    ∃ fp', OL a e U xs (.slice A xs.length d) fp' ∧ (∀ b ∈ fp', w.heap.size ≤ b ∧ b < U.heap.size) ∧ Below w.heap.size w U := by
  obtain ⟨hbox, hol, hfp, hwg, hb⟩ := h
  rw [List.take_length] at hol
  have hsU := hU.size
  have hsW := hwW.size
  have hsb := hb.size
  refine ⟨fp, (hol.held (K := fun i => some i ≠ some G) ⟨hU.os, hU.tape, hU.output, hU.size, fun i hi hd => hU.block i hi hd⟩ (fun b hm e1 => by injection e1 with e1; have := hfp b hm; omega)).ol, fun b hm => by have := hfp b hm; omega, ?_⟩
  have h1 : Below w.heap.size w wr := hwW.trans (hb.mono hsW)
  exact h1.grown hU h1.size (fun b hm => by injection hm with hm; omega)
end
end Go.Proofs.Ytlcpekpgkllbkaa
