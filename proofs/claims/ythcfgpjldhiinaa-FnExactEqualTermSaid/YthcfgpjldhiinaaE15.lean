/-
  Merged by program: Held.
-/
import Derived.Test.YthcfgpjldhiinaaE14

/-
  Worlds in which the blocks of a set are as they were. Hangs on no program.
-/
namespace Go.Proofs.Ythcfgpjldhiinaa
open Go.RowKit

/-- the blocks of which K holds are as they were -/
structure Held (K : Nat → Prop) (w w' : World) : Prop where
  os : w'.os = w.os
  tape : w'.tape = w.tape
  output : w'.output = w.output
  size : w.heap.size ≤ w'.heap.size
  block : ∀ i, i < w.heap.size → K i → w'.heap[i]? = w.heap[i]?
section
variable {K L : Nat → Prop} {a b c : World}
theorem Held.refl (K : Nat → Prop) (w : World) : Held K w w := ⟨rfl, rfl, rfl, Nat.le_refl _, fun _ _ _ => rfl⟩
theorem Held.trans (h : Held K a b) (k : Held K b c) : Held K a c :=
  ⟨k.os.trans h.os, k.tape.trans h.tape, k.output.trans h.output, Nat.le_trans h.size k.size, fun i hi hd => (k.block i (Nat.lt_of_lt_of_le hi h.size) hd).trans (h.block i hi hd)⟩
theorem Held.mono (h : Held K a b) (hk : ∀ i, i < a.heap.size → L i → K i) : Held L a b := ⟨h.os, h.tape, h.output, h.size, fun i hi hd => h.block i hi (hk i hi hd)⟩
theorem Held.of_below {B : Nat} (h : Below B a b) (hk : ∀ i, i < a.heap.size → K i → i < B) : Held K a b := ⟨h.os, h.tape, h.output, h.size, fun i hi hd => h.block i (hk i hi hd)⟩
theorem Held.below {B : Nat} (h : Held K a b) (hB : B ≤ a.heap.size) (hk : ∀ i, i < B → K i) : Below B a b := ⟨h.os, h.tape, h.output, h.size, fun i hi => h.block i (by omega) (hk i hi)⟩
theorem Held.put (w : World) {l : Nat} {o : Obj} (h : ¬ K l) : Held K w (w.putObj l o) :=
  ⟨rfl, rfl, rfl, by simp, fun i _ hd => World.putObj_heap_other (fun e => h (by rw [← e]; exact hd))⟩
theorem Held.set (w : World) {p : Addr} (h : ¬ K p.block) (u : Value) : Held K w (w.setCell p u) :=
  ⟨rfl, rfl, rfl, by simp [World.setCell], fun i _ hd => Below.heap_setCell _ _ _ _ (fun e => h (by rw [← e]; exact hd))⟩
theorem Held.grown {row : Option Nat} (h : a.grownBy b row) (hk : ∀ g, row = some g → ¬ K g) : Held K a b :=
  ⟨h.os, h.tape, h.output, h.size, fun i hi hd => h.block i hi (fun e => hk i e.symm hd)⟩
theorem Held.cell (h : Held K a b) {p : Addr} {u : Value} (hp : K p.block) (hc : a.cell? p = some u) : b.cell? p = some u :=
  (World.cell?_of_block (h.block _ (World.block_lt_of_cell? a _ hc) hp)).trans hc
end
end Go.Proofs.Ythcfgpjldhiinaa
