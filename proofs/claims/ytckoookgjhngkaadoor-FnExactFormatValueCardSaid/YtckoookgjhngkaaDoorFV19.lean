/-
  Merged by program: TyOwn, TyTo, TxtS.
-/
import Derived.Test.YtckoookgjhngkaaDoorFV2
import Derived.Test.YtckoookgjhngkaaDoorFV17
import Derived.Test.YtckoookgjhngkaaDoorFV18
import Derived.Test.YtckoookgjhngkaaDoorFV6
import Derived.Test.YtckoookgjhngkaaDoorFV4
import Derived.WalkKit
import Derived.Test.YtckoookgjhngkaaDoorFV12
import Derived.Test.YtckoookgjhngkaaDoorFV15
import Derived.Test.YtckoookgjhngkaaDoorFV16

/-
  A type in memory of the call's own: its rows, one block each, no two alike.
-/
namespace Go.Proofs.YtckoookgjhngkaaDoor
open Go.RowKit

/-- the block of a slice -/
def blk : Option Addr → List Nat
  | some a => [a.block]
  | none => []
theorem blk_own (A : Option Addr) (n c : Nat) : ∀ g, (Value.slice A n c).ownBlock = some g ↔ g ∈ blk A := by
  intro g
  cases A <;> simp [Value.ownBlock, blk, eq_comm]

/-- the bounds of what a node holds -/
def TyA.ok (a : TyA) : Prop := -9223372036854775808 ≤ a.kind ∧ a.kind ≤ 9223372036854775807 ∧ a.labels.length ≤ 9223372036854775807 ∧ ∀ x ∈ a.labels, x.size ≤ 9223372036854775807
theorem own_keep {w w' : World} {base size n : Nat} {e : TypeId} {A : Option Addr} {c : Nat} {xs : List Value} {row : Option Nat} (h : w.ownsRow base e size (.slice A n c) n xs) (hg : w.grownBy w' row) (hne : ∀ b ∈ blk A, some b ≠ row) : w'.ownsRow base e size (.slice A n c) n xs := by
  refine h.kept hg ?_
  cases hv : (Value.slice A n c).ownBlock with
  | none => exact .inl rfl
  | some g => exact .inr (hne g ((blk_own A n c g).1 hv))
end Go.Proofs.YtckoookgjhngkaaDoor

/-
  A copy of a type in new memory: 'toType', 'toTypeS'.
-/
namespace Go.Proofs.YtckoookgjhngkaaDoor
open Go.RowKit

theorem flat_more (fs : Nat → List Nat) (k : Nat) (fp : List Nat) : (List.range (k + 1)).flatMap (fun j => if j = k then fp else fs j) = (List.range k).flatMap fs ++ fp := by
  rw [List.range_succ, List.flatMap_append]
  congr 1
  · have : ∀ l : List Nat, (∀ j ∈ l, j ≠ k) → l.flatMap (fun j => if j = k then fp else fs j) = l.flatMap fs := by
      intro l
      induction l with
      | nil => intro _; rfl
      | cons j r ih =>
        intro h
        rw [List.flatMap_cons, List.flatMap_cons, ih (fun i hi => h i (by simp [hi])), if_neg (h j (by simp))]
    exact this _ (fun j hj => by have := List.mem_range.1 hj; omega)
  · simp
theorem flat_bd {fs : Nat → List Nat} {k lo hi : Nat} (h : ∀ j, j < k → ∀ b ∈ fs j, lo < b ∧ b < hi) : ∀ b ∈ (List.range k).flatMap fs, lo < b ∧ b < hi := by
  intro b hb
  obtain ⟨j, hj, hb⟩ := List.mem_flatMap.1 hb
  exact h j (List.mem_range.1 hj) b hb
end Go.Proofs.YtckoookgjhngkaaDoor

/-
  The model's l4Text, FormatType.
-/
namespace Go.Proofs.YtckoookgjhngkaaDoor
open Go.RowKit

/-- what the form of a node says -/
theorem form_cases {a : TyA} {ks : List Ty} (h : formA a ks = true) : (a.kind = 3 ∧ ks.length = a.labels.length ∧ labB a.labels = true ∧ Tr.has 5 (.node a ks) = false) ∨
    (a.labels.length = 0 ∧ ((a.kind = 1 ∧ ks.length = 0) ∨ (a.kind = 2 ∧ ks.length = 0) ∨ (a.kind = 4 ∧ ks.length = 1 ∧ ks.any (Tr.has 5) = false) ∨ (a.kind = 5 ∧ ks.length = 2))) := by
  unfold formA at h
  split at h
  · rename_i h3
    simp only [Bool.and_eq_true, decide_eq_true_eq, Bool.not_eq_true'] at h
    exact .inl ⟨h3, h.1, h.2.1, h.2.2⟩
  · simp only [Bool.and_eq_true, decide_eq_true_eq, Bool.not_eq_true'] at h
    obtain ⟨h1, h2, h3⟩ := h
    refine .inr ⟨h2, ?_⟩
    unfold want at h3
    unfold bagFun at h1
    split at h3
    · exact .inl ⟨by assumption, by omega⟩
    · split at h3
      · exact .inr (.inl ⟨by assumption, by omega⟩)
      · split at h3
        · rename_i h4
          have h5 : ks.length = 1 := by omega
          simp [h4, h5] at h1
          refine .inr (.inr (.inl ⟨h4, h5, ?_⟩))
          rw [List.any_eq_false]
          intro x hx
          simp [h1 x hx]
        · split at h3
          · exact .inr (.inr (.inr ⟨by assumption, by omega⟩))
          · omega

theorem one_str (x : ByteArray) : ∀ u ∈ [Value.string x], u.oneCell' = true := strs_oneCell [x]
def strsV (ps : List (List UInt8)) : List Value := ps.map fun l => Value.string (bs l)
theorem strsV_map (ps : List (List UInt8)) : strsV ps = (ps.map bs).map Value.string := by simp [strsV]
theorem jn_bs (ps : List (List UInt8)) (c : UInt8) : jn (ps.map bs) ⟨#[c]⟩ = Lib.join ps [c] := by
  unfold jn
  rw [List.map_map]
  congr 1
  exact List.map_id _
/-- what the loop of l4Text keeps -/
def TxInv (a : TyA) (ks : List Ty) (W1 : World) (v i : Value) (wr : World) : Prop :=
  ∃ k : Nat, k ≤ ks.length ∧ i = .int .i64 k ∧ wr.ownsRow W1.heap.size 9 1 v k (strsV ((partsT a ks).take k)) ∧ Below W1.heap.size W1 wr
theorem txinv_more {a : TyA} {ks : List Ty} {W1 wr w2 w3 : World} {A' : Option Addr} {n c' : Nat} {v' i : Value} {x : ByteArray} (h1 : wr.ownsRow W1.heap.size 9 1 (.slice A' n c') n (strsV ((partsT a ks).take n))) (hlt : n < ks.length)
    (hx : x = bs (partT a n ks[n].txt)) (hb2 : Below W1.heap.size W1 w2) (hown : w3.ownsRow W1.heap.size 9 1 v' (n + 1) (strsV ((partsT a ks).take n) ++ [.string x])) (hg : w2.grownBy w3 (Value.slice A' n c').ownBlock) (hi : i = .int .i64 ((n + 1 : Nat) : Int)) :
    TxInv a ks W1 v' i w3 := by
  refine ⟨n + 1, hlt, hi, ?_, hb2.grown hg hb2.size (fun q hq => (h1.lt q hq).1)⟩
  rw [partsT_take a ks n hlt, strsV, List.map_append]
  subst hx
  exact hown
theorem lab_str (a : TyA) (k : Nat) (l : List UInt8) (h : k < a.labels.length) (h3 : a.kind = 3) : a.labels[k] ++ ⟨#[58]⟩ ++ bs l = bs (partT a k l) := by
  unfold partT
  rw [if_pos h3]
  apply ByteArray.ext
  apply Array.ext'
  simp [bs, List.getD, h]
theorem part_str (a : TyA) (k : Nat) (l : List UInt8) (h3 : a.kind ≠ 3) : bs l = bs (partT a k l) := by
  unfold partT
  rw [if_neg h3]
theorem form_kids {a : TyA} {ks : List Ty} (h : Tr.form (.node a ks) = true) : (∀ t ∈ ks, t.form = true) ∧ formA a ks = true := by
  rw [form_node, Bool.and_eq_true, List.all_eq_true] at h
  exact h

end Go.Proofs.YtckoookgjhngkaaDoor
