/-
  Merged by program: LevSeq, Part4.
-/
import Derived.Test.YtckoookgjhngkaaDoorFV25
import Derived.Test.YtckoookgjhngkaaDoorFV22
import Derived.Shelf.Abstract
import Derived.Shelf.RegionOpen
import Derived.WalkKit
import Derived.OwnWalkIn
import Derived.TacticsInMore
import Derived.LoopNIn
import Derived.LoopIn
import Derived.Test.YtckoookgjhngkaaDoorFV1

/-
  The program's 'levels': what its iterator gives.
-/
namespace Go.Proofs.YtckoookgjhngkaaDoor
open Go.RowKit Go.Shelf

attribute [local go_sem] Oper.semAt_some

def Least (Q : Nat → Prop) (n : Nat) : Prop := Q n ∧ ∀ m, Q m → n ≤ m
theorem least_ex {Q : Nat → Prop} (h : ∃ n, Q n) : ∃ n, Least Q n := by
  obtain ⟨n, hn⟩ := h
  induction n using Nat.strongRecOn with
  | _ n ih =>
    by_cases h : ∃ m, m < n ∧ Q m
    · obtain ⟨m, hm, hq⟩ := h
      exact ih m hm hq
    · exact ⟨n, hn, fun m hm => Nat.le_of_not_lt fun hlt => h ⟨m, hlt, hm⟩⟩
theorem least_at {Q : Nat → Prop} {m : Nat} (h : Q m) : Least Q (Classical.epsilon (Least Q)) := Classical.epsilon_spec (least_ex ⟨m, h⟩)

/-- what is known of the k-th value -/
def LevRd (w0 : World) (t : Ty) (B k : Nat) (v : Value) (w : World) : Prop := ∃ A c, v = .slice A (lev [t] k).length c ∧ (∀ b ∈ blk A, B ≤ b) ∧ RowL w0 w A (lev [t] k)
theorem addr_block (a : Addr) (j : Nat) : (a.add j).block = a.block := by unfold Addr.add; split <;> rfl
theorem RowL.apart {w0 a b : World} {A : Option Addr} {ks : List Ty} {lo hi : Nat} (h : RowL w0 a A ks) (hA : ∀ b ∈ blk A, hi ≤ b) (k : Apart lo hi a b) : RowL w0 b A ks := by
  obtain ⟨xs, h1, h2, h3⟩ := h
  refine ⟨xs, h1, fun j u hj => ?_, h3⟩
  obtain ⟨ad, rfl, hc⟩ := h2 j u hj
  refine ⟨ad, rfl, (World.cell?_of_block (k.block _ (World.block_lt_of_cell? _ _ hc) (.inr ?_))).trans hc⟩
  rw [addr_block]
  exact hA _ (by simp [blk])
theorem LevRd.apart {w0 a b : World} {t : Ty} {lo B k : Nat} {v : Value} (h : LevRd w0 t B k v a) (hk : Apart lo B a b) : LevRd w0 t B k v b := by
  obtain ⟨A, c, rfl, h1, h2⟩ := h
  exact ⟨A, c, rfl, h1, h2.apart h1 hk⟩

/-- what the loop of levels keeps -/
def LevInv (w0 : World) (t : Ty) (B : Nat) (J : Nat → World → Prop) (k : Nat) (p : Value) (wr : World) : Prop :=
  k ≤ t.deep ∧ LevRd w0 t B k p wr ∧ Below w0.heap.size w0 wr ∧ B ≤ wr.heap.size ∧ J k wr

end Go.Proofs.YtckoookgjhngkaaDoor

/-
  Rows of structs of four cells: the part of one struct; a struct stored. Plain lists, and rows of the call's own.
-/
namespace Go.Proofs.YtckoookgjhngkaaDoor
open Go.RowKit

/-- the cells of the j-th struct -/
def part4 {β : Type} (xs : List β) (j : Nat) : List β := (xs.drop (j * 4)).take 4
theorem part4_get {β : Type} (xs : List β) (j i : Nat) (hi : i < 4) : (part4 xs j)[i]? = xs[j * 4 + i]? := by
  unfold part4
  rw [List.getElem?_take_of_lt hi, List.getElem?_drop]
theorem part4_len {β : Type} (xs : List β) (j : Nat) (h : j * 4 + 4 ≤ xs.length) : (part4 xs j).length = 4 := by
  unfold part4
  rw [List.length_take, List.length_drop]
  omega
theorem part4_ext {β : Type} {xs ys : List β} {j : Nat} (h : ∀ i, i < 4 → xs[j * 4 + i]? = ys[j * 4 + i]?) : part4 xs j = part4 ys j := by
  apply List.ext_getElem?
  intro i
  by_cases hi : i < 4
  · rw [part4_get _ _ _ hi, part4_get _ _ _ hi]; exact h i hi
  · unfold part4
    rw [List.getElem?_take_eq_none (by omega), List.getElem?_take_eq_none (by omega)]
/-- the j-th struct replaced -/
def put4 {β : Type} (xs : List β) (j : Nat) (a b c d : β) : List β := (((xs.set (j * 4) a).set (j * 4 + 1) b).set (j * 4 + 2) c).set (j * 4 + 3) d
theorem put4_len {β : Type} (xs : List β) (j : Nat) (a b c d : β) : (put4 xs j a b c d).length = xs.length := by simp [put4]
theorem put4_at {β : Type} (xs : List β) (j : Nat) (a b c d : β) (h : j * 4 + 4 ≤ xs.length) : part4 (put4 xs j a b c d) j = [a, b, c, d] := by
  apply List.ext_getElem?
  intro i
  by_cases hi : i < 4
  · rw [part4_get _ _ _ hi]
    unfold put4
    have h0 : j * 4 < xs.length := by omega
    have h1 : j * 4 + 1 < xs.length := by omega
    have h2 : j * 4 + 2 < xs.length := by omega
    have h3 : j * 4 + 3 < xs.length := by omega
    match i, hi with
    | 0, _ => simp [h0]
    | 1, _ => simp [h1]
    | 2, _ => simp [h2]
    | 3, _ => simp [h3]
  · rw [List.getElem?_eq_none (by rw [part4_len _ _ (by rw [put4_len]; exact h)]; omega), List.getElem?_eq_none (by simp; omega)]
theorem put4_other {β : Type} (xs : List β) (j k : Nat) (a b c d : β) (h : k ≠ j) : part4 (put4 xs j a b c d) k = part4 xs k := by
  refine part4_ext fun i hi => ?_
  unfold put4
  rw [List.getElem?_set_ne (by omega), List.getElem?_set_ne (by omega), List.getElem?_set_ne (by omega), List.getElem?_set_ne (by omega)]

/-- four stores into a row of the call's own -/
def store4 (w : World) (g j : Nat) (a b c d : Value) : World := (((w.setCell ⟨g, j * 4, none⟩ a).setCell ⟨g, j * 4 + 1, none⟩ b).setCell ⟨g, j * 4 + 2, none⟩ c).setCell ⟨g, j * 4 + 3, none⟩ d
theorem own_store4 {w : World} {base g n cap : Nat} {e : TypeId} {xs : List Value} (h : w.ownsRow base e 4 (.slice (some ⟨g, 0, none⟩) n cap) n xs) (j : Nat) (a b c d : Value) :
    (store4 w g j a b c d).ownsRow base e 4 (.slice (some ⟨g, 0, none⟩) n cap) n (put4 xs j a b c d) ∧ w.grownBy (store4 w g j a b c d) (some g) := by
  have h1 := h.stored (j * 4) a
  have h2 := h1.1.stored (j * 4 + 1) b
  have h3 := h2.1.stored (j * 4 + 2) c
  have h4 := h3.1.stored (j * 4 + 3) d
  have s3 := Nat.le_trans h1.2.size (Nat.le_trans h2.2.size h3.2.size)
  refine ⟨h4.1, ⟨rfl, rfl, rfl, ?_, fun k hk hne => ?_⟩⟩
  · exact Nat.le_trans s3 h4.2.size
  · exact (h4.2.block k (Nat.lt_of_lt_of_le hk s3) hne).trans ((h3.2.block k (Nat.lt_of_lt_of_le hk (Nat.le_trans h1.2.size h2.2.size)) hne).trans ((h2.2.block k (Nat.lt_of_lt_of_le hk h1.2.size) hne).trans (h1.2.block k hk hne)))
end Go.Proofs.YtckoookgjhngkaaDoor
