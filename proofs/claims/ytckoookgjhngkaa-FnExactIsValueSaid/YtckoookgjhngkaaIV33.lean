/-
  Merged by program: LevSeq.
-/
import Derived.Test.YtckoookgjhngkaaIV32
import Derived.Test.YtckoookgjhngkaaIV23
import Derived.Shelf.Abstract
import Derived.Shelf.RegionOpen
import Derived.WalkKit
import Derived.OwnWalkIn
import Derived.TacticsInMore
import Derived.LoopNIn
import Derived.LoopIn

/-
  The program's 'levels': what its iterator gives.
-/
namespace Go.Proofs.Ytckoookgjhngkaa
open Go.RowKit Go.Shelf

attribute [local go_sem] Oper.semAt_some

def Least (Q : Nat → Prop) (n : Nat) : Prop := Q n ∧ ∀ m, Q m → n ≤ m
theorem least_ex {Q : Nat → Prop} (h : ∃ n, Q n) : ∃ n, Least Q n := by
  obtain ⟨n, hn⟩ := h
  induction n using Nat.strongRecOn with
  | _ n ih =>
    by_cases h : ∃ m, m < n ∧ Q m
    · obtain ⟨m, hm, hq⟩ := h
      exact ih m hm hq
    · exact ⟨n, hn, fun m hm => Nat.le_of_not_lt fun hlt => h ⟨m, hlt, hm⟩⟩
theorem least_at {Q : Nat → Prop} {m : Nat} (h : Q m) : Least Q (Classical.epsilon (Least Q)) := Classical.epsilon_spec (least_ex ⟨m, h⟩)

/-- what is known of the k-th value -/
def LevRd (w0 : World) (t : Ty) (B k : Nat) (v : Value) (w : World) : Prop := ∃ A c, v = .slice A (lev [t] k).length c ∧ (∀ b ∈ blk A, B ≤ b) ∧ RowL w0 w A (lev [t] k)
theorem addr_block (a : Addr) (j : Nat) : (a.add j).block = a.block := by unfold Addr.add; split <;> rfl
theorem RowL.apart {w0 a b : World} {A : Option Addr} {ks : List Ty} {lo hi : Nat} (h : RowL w0 a A ks) (hA : ∀ b ∈ blk A, hi ≤ b) (k : Apart lo hi a b) : RowL w0 b A ks := by
  obtain ⟨xs, h1, h2, h3⟩ := h
  refine ⟨xs, h1, fun j u hj => ?_, h3⟩
  obtain ⟨ad, rfl, hc⟩ := h2 j u hj
  refine ⟨ad, rfl, (World.cell?_of_block (k.block _ (World.block_lt_of_cell? _ _ hc) (.inr ?_))).trans hc⟩
  rw [addr_block]
  exact hA _ (by simp [blk])
theorem LevRd.apart {w0 a b : World} {t : Ty} {lo B k : Nat} {v : Value} (h : LevRd w0 t B k v a) (hk : Apart lo B a b) : LevRd w0 t B k v b := by
  obtain ⟨A, c, rfl, h1, h2⟩ := h
  exact ⟨A, c, rfl, h1, h2.apart h1 hk⟩

/-- what the loop of levels keeps -/
def LevInv (w0 : World) (t : Ty) (B : Nat) (J : Nat → World → Prop) (k : Nat) (p : Value) (wr : World) : Prop :=
  k ≤ t.deep ∧ LevRd w0 t B k p wr ∧ Below w0.heap.size w0 wr ∧ B ≤ wr.heap.size ∧ J k wr

end Go.Proofs.Ytckoookgjhngkaa
