/-
  Merged by program: CanD.
-/
import Derived.Test.YtpcegakpdjmaaaaSB10

/-
  The canonical value: the elements of bags in order, those within first. Plain trees; a sorted permutation is the only one.
-/
namespace Go.Proofs.Ytpcegakpdjmaaaa

/-- not behind -/
def leV (x y : Va) : Bool := decide (cmpV x y ≤ 0)
theorem leV_iff (x y : Va) : leV x y = true ↔ cmpV x y ≤ 0 := by unfold leV; simp
theorem leV_anti {x y : Va} (h : leV x y = true) (k : leV y x = true) : x = y := by
  rw [leV_iff] at h k
  rw [cmpV_neg] at k
  exact (cmpV_zero x y).1 (by omega)
theorem leV_total (x y : Va) : leV x y = true ∨ leV y x = true := by
  rw [leV_iff, leV_iff, cmpV_neg x y]
  omega
theorem leV_trans {x y z : Va} (h : leV x y = true) (k : leV y z = true) : leV x z = true := by
  rw [leV_iff] at *
  rcases Int.lt_or_eq_of_le h with h | h
  · rcases Int.lt_or_eq_of_le k with k | k
    · have := cmpV_trans x y z h k; omega
    · rw [← (cmpV_zero y z).1 k]; omega
  · rw [(cmpV_zero x y).1 h]; exact k
def sortV (xs : List Va) : List Va := xs.mergeSort leV
theorem sortV_perm (xs : List Va) : (sortV xs).Perm xs := List.mergeSort_perm xs leV
theorem sortV_pair (xs : List Va) : (sortV xs).Pairwise fun x y => leV x y = true :=
  List.pairwise_mergeSort (le := leV) (fun _ _ _ => leV_trans) (fun a b => by rw [Bool.or_eq_true]; exact leV_total a b) xs
/-- the sorted permutation is the only one -/
theorem sortV_eq {xs ys : List Va} (h : ys.Perm xs) (hp : ys.Pairwise fun x y => leV x y = true) : ys = sortV xs :=
  List.Perm.eq_of_pairwise (le := fun x y => leV x y = true) (fun _ _ _ _ h k => leV_anti h k) hp (sortV_pair xs) (h.trans (sortV_perm xs).symm)
theorem sortV_of_perm {xs ys : List Va} (h : ys.Perm xs) : sortV ys = sortV xs := sortV_eq ((sortV_perm ys).trans h) (sortV_pair ys)
theorem sortV_length (xs : List Va) : (sortV xs).length = xs.length := (sortV_perm xs).length_eq
theorem sortV_small {xs : List Va} (h : xs.length < 2) : sortV xs = xs := by
  refine (sortV_eq (List.Perm.refl _) ?_).symm
  match xs, h with
  | [], _ => exact .nil
  | [x], _ => simp
mutual
def canV : Va → Va
  | .node a ks => .node a (if a.kind = 4 then sortV (canVs ks) else canVs ks)
def canVs : List Va → List Va
  | [] => []
  | k :: ks => canV k :: canVs ks
end
theorem canVs_eq : ∀ ks : List Va, canVs ks = ks.map canV
  | [] => by simp [canVs]
  | k :: ks => by rw [canVs, canVs_eq ks, List.map_cons]
theorem canV_node (a : VaA) (ks : List Va) : canV (.node a ks) = .node a (if a.kind = 4 then sortV (ks.map canV) else ks.map canV) := by
  rw [canV, canVs_eq]
/-- the parts of the canonical value -/
def kidsC (t : Va) : List Va := if t.top.kind = 4 then sortV (t.kids.map canV) else t.kids.map canV
theorem canV_eq (t : Va) : canV t = .node t.top (kidsC t) := by
  cases t with
  | node a ks => rw [canV_node]; rfl
theorem kidsC_length (t : Va) : (kidsC t).length = t.kids.length := by
  unfold kidsC
  split
  · rw [sortV_length, List.length_map]
  · rw [List.length_map]
theorem sum_perm {xs ys : List Nat} (h : xs.Perm ys) : xs.sum = ys.sum := by
  induction h with
  | nil => rfl
  | cons _ _ ih => simp [ih]
  | swap => simp; omega
  | trans _ _ h k => exact h.trans k
theorem canV_size : ∀ t : Va, (canV t).size = t.size := by
  refine Tr.ind ?_
  intro a ks ih
  rw [canV_node, size_nodeV, size_nodeV]
  have h : ((ks.map canV).map Tr.size).sum = (ks.map Tr.size).sum := by
    rw [List.map_map]
    exact congrArg List.sum (List.map_congr_left ih)
  split
  · rw [← h, sum_perm ((sortV_perm (ks.map canV)).map Tr.size)]
  · rw [h]
/-- bags are equal if their canonical values are -/
def sameB (a b : Va) : Bool := decide (cmpV (canV a) (canV b) = 0)
def countB (b v : Va) : Nat := if b.top.kind = 4 then (b.kids.filter fun k => sameB k v).length else 0
end Go.Proofs.Ytpcegakpdjmaaaa
