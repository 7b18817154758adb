/-
  Picks from a list of texts; the argument of a draw.
-/
import Derived.Test.YtgelkgkmkckinaaDraw
namespace Go.Proofs.Ytgelkgkmkckinaa
open Go.RowKit

theorem Cur.below {w w' : World} {b : Nat} (h : Cur w b) (hb : Below w.heap.size w w') : Cur w' b := by
  obtain ⟨A, cap, bs, i, q, h1, h2, h3, h4, h5⟩ := h
  exact ⟨A, cap, bs, i, q, by rw [hb.block b (Array.getElem?_eq_some_iff.1 h1).1]; exact h1, h2.below hb, h3, h4, h5⟩
theorem Cur.lt {w : World} {b : Nat} (h : Cur w b) : b < w.heap.size := by
  obtain ⟨A, cap, bs, i, q, h1, _⟩ := h
  exact (Array.getElem?_eq_some_iff.1 h1).1
theorem Cur.grownNew {w w' : World} {b : Nat} {row : Option Nat} (h : Cur w b) (hg : w.grownBy w' row) (hrow : ∀ g, row = some g → b < g) : Cur w' b := by
  obtain ⟨A, cap, bs, i, q, h1, h2, h3, h4, h5⟩ := h
  refine ⟨A, cap, bs, i, q, ?_, ?_, h3, h4, h5⟩
  · rw [hg.block b (Array.getElem?_eq_some_iff.1 h1).1 (fun e => by have := hrow b e.symm; omega)]
    exact h1
  · intro j u hj
    obtain ⟨ad, e, hc⟩ := h2 j u hj
    have hb : (ad.add j).block = ad.block := by unfold Addr.add; split <;> rfl
    have hlt := h3 ad e (fun e => by rw [e] at hj; simp at hj)
    exact ⟨ad, e, (World.cell?_of_block (hg.block _ (World.block_lt_of_cell? w _ hc) (fun e => by have := hrow _ e.symm; omega))).trans hc⟩
theorem grown_new {a w w' : World} {b : Nat} {row : Option Nat} (h : a.grownBy w (some b)) (hg : w.grownBy w' row) (hrow : ∀ g, row = some g → a.heap.size ≤ g) : a.grownBy w' (some b) :=
  ⟨hg.os.trans h.os, hg.tape.trans h.tape, hg.output.trans h.output, Nat.le_trans h.size hg.size, fun i hi hn => (hg.block i (Nat.lt_of_lt_of_le hi h.size) (fun e => by have := hrow i e.symm; omega)).trans (h.block i hi hn)⟩
theorem sl_new (w : World) (xs : Array Value) (t : TypeId) : Sl (w.alloc (.cells xs t)) (some ⟨w.heap.size, 0, none⟩) xs.toList := by
  intro j u hj
  refine ⟨_, rfl, ?_⟩
  rw [Addr.add_lit, Nat.zero_add, cell_of_row _ _ j xs t (0, 0) (heap_alloc_new w _)]
  simpa using hj

def PickPost (xs : List Value) (b : Nat) (w : World) (e : Ending) (w' : World) : Prop := ∃ x ∈ xs, e = .returned x ∧ Cur w' b ∧ w.grownBy w' (some b)

set_option maxHeartbeats 800000 in
theorem l1Pick_any (b g c : Nat) (xs : List ByteArray) (w : World) (hcur : Cur w b) (hsl : Sl w (some ⟨g, 0, none⟩) (xs.map Value.string)) (hg : g ≠ b) (h1 : 1 ≤ xs.length) (h2 : xs.length ≤ 1000000) :
    Calls Try.prog 35 #[.pointer (some ⟨b, 0, none⟩), .slice (some ⟨g, 0, none⟩) xs.length c] w (PickPost (xs.map Value.string) b w) := by
  have HC := Lib.hid hcur
  have HS := Lib.hid hsl
  clear hcur hsl
  go_enter Try.func35, Try.ntmps35
  go_wp2_with fail
  refine (l1Below_any b (xs.length : Int) w HC.out (by omega) (by omega)).mono ?_
  rintro e w1 ⟨x, rfl, hx0, hx1, hc, hgr⟩
  obtain ⟨j, rfl⟩ : ∃ j : Nat, x = (j : Int) := ⟨x.toNat, by omega⟩
  have hj : j < xs.length := by omega
  obtain ⟨ad, ead, hcell⟩ := (HS.out.grown hgr hg) j (.string xs[j]) (by simp [hj])
  injection ead with ead
  subst ead
  rw [Addr.add_lit, Nat.zero_add] at hcell
  have HR : Hid (Cur w1 b ∧ w.grownBy w1 (some b)) := ⟨hc, hgr⟩
  have HM : Hid (Value.string xs[j] ∈ xs.map Value.string) := List.mem_map.2 ⟨xs[j], List.getElem_mem hj, rfl⟩
  clear hc hgr
  go_wp2_with fail
  go_ret
  exact ⟨_, HM.out, rfl, HR.out⟩

/-- a pick from a list that is written out -/
theorem l1Pick_new (b : Nat) (xs : List ByteArray) (w : World) (hcur : Cur w b) (h1 : 1 ≤ xs.length) (h2 : xs.length ≤ 1000000) :
    Calls Try.prog 35 #[.pointer (some ⟨b, 0, none⟩), .slice (some ⟨w.heap.size, 0, none⟩) xs.length xs.length] (w.alloc (.cells (xs.map Value.string).toArray 9))
      (fun e w' => ∃ x ∈ xs, e = .returned (.string x) ∧ Cur w' b ∧ w.grownBy w' (some b)) := by
  have hb : Below w.heap.size w (w.alloc (.cells (xs.map Value.string).toArray 9)) := (Below.refl _ _).alloc (Nat.le_refl _) _
  refine (l1Pick_any b w.heap.size xs.length xs _ (hcur.below hb) (sl_new w (xs.map Value.string).toArray 9) (by have := hcur.lt; omega) h1 h2).mono ?_
  rintro e w2 ⟨u, hu, rfl, hc, hg⟩
  obtain ⟨x, hx, rfl⟩ := List.mem_map.1 hu
  exact ⟨x, hx, rfl, hc, grown_trans_row ⟨hb.os, hb.tape, hb.output, hb.size, fun i hi _ => hb.block i hi⟩ hg⟩

theorem grown_of_below {w w' : World} {row : Option Nat} (h : Below w.heap.size w w') : w.grownBy w' row := ⟨h.os, h.tape, h.output, h.size, fun i hi _ => h.block i hi⟩

/-- the draw's argument: a list of bytes that was there before -/
def Code (w : World) (A : Option Addr) (bs : List UInt8) : Prop := Sl w A (bcells bs) ∧ bs.length ≤ 1048576
theorem Code.below {w w' : World} {A : Option Addr} {bs : List UInt8} (h : Code w A bs) (hb : Below w.heap.size w w') : Code w' A bs := ⟨h.1.below hb, h.2⟩

end Go.Proofs.Ytgelkgkmkckinaa
