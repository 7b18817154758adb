/-
  Merged by program: TyOwn.
-/
import Derived.Test.YthcfgpjldhiinaaE2
import Derived.Test.YthcfgpjldhiinaaE32
import Derived.Test.YthcfgpjldhiinaaE37

/-
  A type in memory of the call's own: its rows, one block each, no two alike.
-/
namespace Go.Proofs.Ythcfgpjldhiinaa
open Go.RowKit

/-- the block of a slice -/
def blk : Option Addr → List Nat
  | some a => [a.block]
  | none => []
theorem blk_own (A : Option Addr) (n c : Nat) : ∀ g, (Value.slice A n c).ownBlock = some g ↔ g ∈ blk A := by
  intro g
  cases A <;> simp [Value.ownBlock, blk, eq_comm]

/-- the bounds of what a node holds -/
def TyA.ok (a : TyA) : Prop := -9223372036854775808 ≤ a.kind ∧ a.kind ≤ 9223372036854775807 ∧ a.labels.length ≤ 9223372036854775807 ∧ ∀ x ∈ a.labels, x.size ≤ 9223372036854775807
/-- the three cells are a type of the call's own; its blocks -/
inductive OTy (w : World) : Ty → List Value → List Nat → Prop where
  | node (a : TyA) (ks : List Ty) (L A : Option Addr) (c d : Nat) (xs : List Value) (fs : Nat → List Nat) (h0 : a.ok) (h1 : w.ownsRow 0 9 1 (.slice L a.labels.length c) a.labels.length (a.labels.map Value.string)) (h2 : ks.length ≤ 9223372036854775807)
      (h3 : w.ownsRow 0 35 3 (.slice A ks.length d) ks.length xs) (h4 : ∀ j t, ks[j]? = some t → OTy w t (part3 xs j) (fs j)) (h5 : (blk L ++ blk A ++ (List.range ks.length).flatMap fs).Nodup) :
      OTy w (.node a ks) [.int .i64 a.kind, .slice L a.labels.length c, .slice A ks.length d] (blk L ++ blk A ++ (List.range ks.length).flatMap fs)

theorem own_capTy {w : World} {base size : Nat} {e : TypeId} {A : Option Addr} {n c : Nat} {xs : List Value} (h : w.ownsRow base e size (.slice A n c) n xs) : n ≤ c := by
  rcases h.2 with ⟨hv, h0⟩ | ⟨g, cap, cur, hv, _, _, h3, _⟩
  · omega
  · injection hv with _ _ hv; omega

theorem OTy.reads {w : World} {t : Ty} {cs : List Value} {fp : List Nat} (h : OTy w t cs fp) : RTy w t cs := by
  induction h with
  | node a ks L A c d xs fs h0 h1 h2 h3 _ _ ih =>
    obtain ⟨a1, a2, a3, a4⟩ := h0
    have hx : xs.length = ks.length * 3 := h3.1
    refine .node a ks [.int .i64 a.kind, .slice L a.labels.length c] A d (part3 xs) ⟨L, c, rfl, Sl.of_own h1, a1, a2, a3, a4⟩ rfl h2 (fun j hj => ?_) (fun j t hj => ih j t hj) (own_capTy h3)
    refine ⟨part3_len _ _ (by omega), ?_⟩
    rcases h3.2 with ⟨_, h0⟩ | ⟨g, cap, cur, hv, _⟩
    · omega
    · injection hv with e1 _ _
      subst e1
      refine ⟨_, rfl, fun i u hi => ?_⟩
      have hi3 : i < 3 := by
        have := (List.getElem?_eq_some_iff.1 hi).1
        rw [part3_len _ _ (by omega)] at this
        exact this
      rw [part3_get _ _ _ hi3] at hi
      exact h3.cells (g := g) rfl _ u hi
theorem own_keep {w w' : World} {base size n : Nat} {e : TypeId} {A : Option Addr} {c : Nat} {xs : List Value} {row : Option Nat} (h : w.ownsRow base e size (.slice A n c) n xs) (hg : w.grownBy w' row) (hne : ∀ b ∈ blk A, some b ≠ row) : w'.ownsRow base e size (.slice A n c) n xs := by
  refine h.kept hg ?_
  cases hv : (Value.slice A n c).ownBlock with
  | none => exact .inl rfl
  | some g => exact .inr (hne g ((blk_own A n c g).1 hv))
theorem OTy.keep {w w' : World} {t : Ty} {cs : List Value} {fp : List Nat} {row : Option Nat} (h : OTy w t cs fp) (hg : w.grownBy w' row) (hne : ∀ b ∈ fp, some b ≠ row) : OTy w' t cs fp := by
  induction h with
  | node a ks L A c d xs fs h0 h1 h2 h3 h4 h5 ih =>
    refine .node a ks L A c d xs fs h0 (own_keep h1 hg (fun b hb => hne b (by simp [hb]))) h2 (own_keep h3 hg (fun b hb => hne b (by simp [hb]))) (fun j t hj => ih j t hj (fun b hb => hne b ?_)) h5
    rw [List.mem_append, List.mem_flatMap]
    exact .inr ⟨j, List.mem_range.2 (List.getElem?_eq_some_iff.1 hj).1, hb⟩
theorem OTy.under {w w' : World} {t : Ty} {cs : List Value} {fp : List Nat} (h : OTy w t cs fp) (hb : Below w.heap.size w w') : OTy w' t cs fp :=
  h.keep (row := none) ⟨hb.os, hb.tape, hb.output, hb.size, fun i hi _ => hb.block i hi⟩ (fun b _ => by simp)
theorem OTy.nodup {w : World} {t : Ty} {cs : List Value} {fp : List Nat} (h : OTy w t cs fp) : fp.Nodup := by
  cases h with
  | node a ks L A c d xs fs _ _ _ _ _ h5 => exact h5
/-- the three cells written out -/
theorem OTy.three {w : World} {t : Ty} {cs : List Value} {fp : List Nat} (h : OTy w t cs fp) : ∃ L c A d, cs = [.int .i64 t.top.kind, .slice L t.top.labels.length c, .slice A t.kids.length d] := by
  cases h with
  | node a ks L A c d xs fs => exact ⟨L, c, A, d, rfl⟩

/-- a type in new memory -/
def MadeT (t : Ty) (w : World) (e : Ending) (w' : World) : Prop :=
  ∃ (L A : Option Addr) (c d : Nat) (fp : List Nat), e = .returned (.agg #[.int .i64 t.top.kind, .slice L t.top.labels.length c, .slice A t.kids.length d]) ∧ OTy w' t [.int .i64 t.top.kind, .slice L t.top.labels.length c, .slice A t.kids.length d] fp ∧
    (∀ b ∈ fp, w.heap.size ≤ b ∧ b < w'.heap.size) ∧ Below w.heap.size w w'
end Go.Proofs.Ythcfgpjldhiinaa
