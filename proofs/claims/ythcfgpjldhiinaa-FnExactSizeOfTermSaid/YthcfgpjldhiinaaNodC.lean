/-
  What clients of an iterator over nodes keep. Hangs on no program (but for the type of a counter).
-/
import Derived.Test.YthcfgpjldhiinaaNod
import Derived.Test.YthcfgpjldhiinaaTySize
import Derived.Test.YthcfgpjldhiinaaBox
namespace Go.Proofs.Ythcfgpjldhiinaa
open Go.RowKit

/-- the first of the k-th pair is ds k -/
def DRd (ds : Nat → Nat) (k : Nat) (v : Array Value) : Prop := ∃ u, v = #[.int .i64 (ds k : Int), u]
theorem DRd.size {ds : Nat → Nat} {k : Nat} {v : Array Value} (h : DRd ds k v) : v.size = 2 := by
  obtain ⟨u, rfl⟩ := h
  rfl
theorem GivesN.weaken {N : Fence} {n : Nat} {P : Program} {g : Nat} {lb : Array Value} {M : Nat} {Rd Rd' : Nat → Array Value → Prop} {On Keep : Nat → Prop} {W : World} (h : GivesN N n P g lb M Rd On Keep W) (hR : ∀ k v, Rd k v → Rd' k v) : GivesN N n P g lb M Rd' On Keep W :=
  fun l J Jx hJ hB hY h0 => h l J Jx hJ hB (fun k v F W1 hk hj hr => hY k v F W1 hk hj (hR k v hr)) h0
/-- a variable in block H holds f k; nothing below has changed -/
def NumI (w : World) (H : Nat) (f : Nat → Nat) (N k : Nat) (F : Nat → Prop) (W : World) : Prop := k ≤ N ∧ F = (fun b => b = H) ∧ Boxed W H 3 (.int .i64 (f k : Int)) ∧ Below w.heap.size w W
theorem NumI.keep {w A C : World} {H : Nat} {f : Nat → Nat} {N k : Nat} {F : Nat → Prop} {D : Nat} (h : NumI w H f N k F A) (hh : Held (fun i => i < D ∨ F i) A C) (hD : w.heap.size ≤ D := by omega) : NumI w H f N k F C := by
  obtain ⟨h1, rfl, h3, h4⟩ := h
  exact ⟨h1, rfl, (hh.block H h3.lt (.inr rfl)).trans h3, h4.trans (hh.below h4.size fun i hi => .inl (by omega))⟩
theorem NumI.bnd {w A : World} {H : Nat} {f : Nat → Nat} {N k : Nat} {F : Nat → Prop} (h : NumI w H f N k F A) (hH : w.heap.size = H) : ∀ b, F b → ¬ b < w.heap.size ∧ b < A.heap.size := by
  obtain ⟨_, rfl, h3, _⟩ := h
  rintro b rfl
  exact ⟨by omega, h3.lt⟩
end Go.Proofs.Ythcfgpjldhiinaa
