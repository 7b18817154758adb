/-
  Merged by program: TyOwn, TyTo.
-/
import Derived.Test.YtckoookgjhngkaaIV3
import Derived.Test.YtckoookgjhngkaaIV25
import Derived.Test.YtckoookgjhngkaaIV30
import Derived.Test.YtckoookgjhngkaaIV9
import Derived.Test.YtckoookgjhngkaaIV5
import Derived.WalkKit

/-
  A type in memory of the call's own: its rows, one block each, no two alike.
-/
namespace Go.Proofs.Ytckoookgjhngkaa
open Go.RowKit

/-- the block of a slice -/
def blk : Option Addr → List Nat
  | some a => [a.block]
  | none => []
theorem blk_own (A : Option Addr) (n c : Nat) : ∀ g, (Value.slice A n c).ownBlock = some g ↔ g ∈ blk A := by
  intro g
  cases A <;> simp [Value.ownBlock, blk, eq_comm]

/-- the bounds of what a node holds -/
def TyA.ok (a : TyA) : Prop := -9223372036854775808 ≤ a.kind ∧ a.kind ≤ 9223372036854775807 ∧ a.labels.length ≤ 9223372036854775807 ∧ ∀ x ∈ a.labels, x.size ≤ 9223372036854775807
theorem own_keep {w w' : World} {base size n : Nat} {e : TypeId} {A : Option Addr} {c : Nat} {xs : List Value} {row : Option Nat} (h : w.ownsRow base e size (.slice A n c) n xs) (hg : w.grownBy w' row) (hne : ∀ b ∈ blk A, some b ≠ row) : w'.ownsRow base e size (.slice A n c) n xs := by
  refine h.kept hg ?_
  cases hv : (Value.slice A n c).ownBlock with
  | none => exact .inl rfl
  | some g => exact .inr (hne g ((blk_own A n c g).1 hv))
end Go.Proofs.Ytckoookgjhngkaa

/-
  A copy of a type in new memory: 'toType', 'toTypeS'.
-/
namespace Go.Proofs.Ytckoookgjhngkaa
open Go.RowKit

theorem flat_more (fs : Nat → List Nat) (k : Nat) (fp : List Nat) : (List.range (k + 1)).flatMap (fun j => if j = k then fp else fs j) = (List.range k).flatMap fs ++ fp := by
  rw [List.range_succ, List.flatMap_append]
  congr 1
  · have : ∀ l : List Nat, (∀ j ∈ l, j ≠ k) → l.flatMap (fun j => if j = k then fp else fs j) = l.flatMap fs := by
      intro l
      induction l with
      | nil => intro _; rfl
      | cons j r ih =>
        intro h
        rw [List.flatMap_cons, List.flatMap_cons, ih (fun i hi => h i (by simp [hi])), if_neg (h j (by simp))]
    exact this _ (fun j hj => by have := List.mem_range.1 hj; omega)
  · simp
theorem flat_bd {fs : Nat → List Nat} {k lo hi : Nat} (h : ∀ j, j < k → ∀ b ∈ fs j, lo < b ∧ b < hi) : ∀ b ∈ (List.range k).flatMap fs, lo < b ∧ b < hi := by
  intro b hb
  obtain ⟨j, hj, hb⟩ := List.mem_flatMap.1 hb
  exact h j (List.mem_range.1 hj) b hb
end Go.Proofs.Ytckoookgjhngkaa
