/-
  Merged by program: Close, Sc, Part2.
-/
import Derived.Below
import Derived.Carry
import Derived.ProofKit
import Derived.OpenShut
import Derived.SizedLaws
import Derived.Test.YtlikmgkjilmjpaaC17
import Derived.Test.YtlikmgkjilmjpaaC1

/-
  The last step of a law, once for all laws: where the call answers true and leaves all that was there as it was, the row's own post holds, whatever the arguments.
-/
namespace Go.Proofs.Ytlikmgkjilmjpaa
open Go.RowKit Go.ChangeShapes Go.WideShapes Go.ChangeAt

theorem trodAll_below {H : Type} {enc : TypeId × Value → H} {P : Program} (hl : laidOutB P = true) {W W' : World} (hb : Below W.heap.size W W') :
    ∀ (ts : List TypeId) (vs : List Value) (ds : List (DataW H)) (ps : List MemPlace), (∀ t ∈ ts, P.readableRec t = true ∧ t < P.types.size) → (∀ x ∈ ps, x.block < W.heap.size) →
      DataW.TrodAll enc P W 0 (fun _ => true) true ts vs ds ps → DataW.TrodAll enc P W' 0 (fun b => decide (b < W.heap.size)) true ts vs ds ps
  | [], [], [], ps, _, _, h => h
  | t :: ts, v :: vs, d :: ds, ps, hr, hlt, h => by
    obtain ⟨p, q, h1, h2, rfl⟩ := h
    have ht := hr t (by simp)
    exact ⟨p, q, Below.trod hl ht.1 ht.2 h1 hb (fun x hx => hlt x (by simp [hx])), trodAll_below hl hb ts vs ds q (fun t' h' => hr t' (by simp [h'])) (fun x hx => hlt x (by simp [hx])) h2, rfl⟩
  | [], [], _ :: _, _, _, _, h => h.elim
  | [], _ :: _, _, _, _, _, h => h.elim
  | _ :: _, [], _, _, _, _, h => h.elim
  | _ :: _, _ :: _, [], _, _, _, h => h.elim

theorem law_post {H : Type} {enc : TypeId × Value → H} {P : Program} {f : Func} {s : ChangeSpec} {W W' : World} {args : Array Value} {ds : List (DataW H)} {before : List MemPlace} {tb : TypeId}
    (hl : laidOutB P = true) (hread : ∀ t ∈ f.params.toList, P.readableRec t = true ∧ t < P.types.size) (hres : f.resultTypes = #[tb]) (htb : P.underlying tb = some .bool) (hv : s.vars = [])
    (hs : (s.fn H (ds ++ [])).results = [.lit (.bool true)] ∧ (s.fn H (ds ++ [])).args = ds ∧ (s.fn H (ds ++ [])).vars = [])
    (hW : DataW.Whole enc P f.params.toList s.vars false W args.toList ds [] before) (hb : Below W.heap.size W W') :
    s.post enc P f false true false false W args (.bool true) W' := by
  have hlt : ∀ p ∈ before, p.block < W.heap.size := fun p hp => hW.lt p hp
  have hW' := hW
  obtain ⟨p, q, hA, hV, rfl, _, _⟩ := hW
  rw [hv] at hV
  obtain ⟨_, rfl⟩ := trodVars_none hV
  refine ⟨ds, [], p ++ [], [], p, [], hW', ?_, ?_, ?_, hb.frame _, fun h => by cases h⟩
  · rw [hs.1, hres]
    exact trodAll_cons_mk (shut_bool htb _) trodAll_mk0
  · rw [hs.2.1]
    exact trodAll_below hl hb _ _ _ _ hread (fun x hx => hlt x (by simp [hx])) hA
  · rw [hs.2.2, hv]
    rfl
end Go.Proofs.Ytlikmgkjilmjpaa

/-
  Schema: a struct of one field, a list of TableDecl. Written by genwrap.py.
-/
namespace Go.Proofs.Ytlikmgkjilmjpaa
open Go.RowKit

abbrev Sc := List Dc
def wSc (t : Sc) : Nat := wL wDc t
theorem len_wSc (t : Sc) : t.length ≤ wSc t := by unfold wSc wL; omega
end Go.Proofs.Ytlikmgkjilmjpaa

/-
  Rows of structs of 2 cells: the part of one struct; a struct stored. Plain lists, and rows of the call's own. Written by genbox.py.
-/
namespace Go.Proofs.Ytlikmgkjilmjpaa
open Go.RowKit

theorem grown_trans2 {a b c : World} {g : Nat} (h : a.grownBy b (some g)) (k : b.grownBy c (some g)) : a.grownBy c (some g) :=
  ⟨k.os.trans h.os, k.tape.trans h.tape, k.output.trans h.output, Nat.le_trans h.size k.size, fun i hi hn => (k.block i (Nat.lt_of_lt_of_le hi h.size) hn).trans (h.block i hi hn)⟩
/-- the cells of the j-th struct -/
def part2 {β : Type} (xs : List β) (j : Nat) : List β := (xs.drop (j * 2)).take 2
theorem part2_get {β : Type} (xs : List β) (j i : Nat) (hi : i < 2) : (part2 xs j)[i]? = xs[j * 2 + i]? := by
  unfold part2
  rw [List.getElem?_take_of_lt hi, List.getElem?_drop]
theorem part2_len {β : Type} (xs : List β) (j : Nat) (h : j * 2 + 2 ≤ xs.length) : (part2 xs j).length = 2 := by
  unfold part2
  rw [List.length_take, List.length_drop]
  omega
theorem part2_ext {β : Type} {xs ys : List β} {j : Nat} (h : ∀ i, i < 2 → xs[j * 2 + i]? = ys[j * 2 + i]?) : part2 xs j = part2 ys j := by
  apply List.ext_getElem?
  intro i
  by_cases hi : i < 2
  · rw [part2_get _ _ _ hi, part2_get _ _ _ hi]; exact h i hi
  · unfold part2
    rw [List.getElem?_take_eq_none (by omega), List.getElem?_take_eq_none (by omega)]
/-- the j-th struct replaced -/
def put2 {β : Type} (xs : List β) (j : Nat) (a0 a1 : β) : List β := (xs.set (j * 2) a0).set (j * 2 + 1) a1
theorem put2_len {β : Type} (xs : List β) (j : Nat) (a0 a1 : β) : (put2 xs j a0 a1).length = xs.length := by simp [put2]
theorem put2_at {β : Type} (xs : List β) (j : Nat) (a0 a1 : β) (h : j * 2 + 2 ≤ xs.length) : part2 (put2 xs j a0 a1) j = [a0, a1] := by
  apply List.ext_getElem?
  intro i
  by_cases hi : i < 2
  · rw [part2_get _ _ _ hi]
    unfold put2
    match i, hi with
    | 0, _ =>
      have h0 : j * 2 < xs.length := by omega
      simp [h0]
    | 1, _ =>
      have h0 : j * 2 + 1 < xs.length := by omega
      simp [h0]
  · rw [List.getElem?_eq_none (by rw [part2_len _ _ (by rw [put2_len]; exact h)]; omega), List.getElem?_eq_none (by simp; omega)]
theorem put2_other {β : Type} (xs : List β) (j k : Nat) (a0 a1 : β) (h : k ≠ j) : part2 (put2 xs j a0 a1) k = part2 xs k := by
  refine part2_ext fun i hi => ?_
  unfold put2
  rw [List.getElem?_set_ne (by omega), List.getElem?_set_ne (by omega)]

/-- 2 stores into a row of the call's own -/
def store2 (w : World) (g j : Nat) (a0 a1 : Value) : World := (w.setCell ⟨g, j * 2, none⟩ a0).setCell ⟨g, j * 2 + 1, none⟩ a1
theorem own_store2 {w : World} {base g n cap : Nat} {e : TypeId} {xs : List Value} (h : w.ownsRow base e 2 (.slice (some ⟨g, 0, none⟩) n cap) n xs) (j : Nat) (a0 a1 : Value) :
    (store2 w g j a0 a1).ownsRow base e 2 (.slice (some ⟨g, 0, none⟩) n cap) n (put2 xs j a0 a1) ∧ w.grownBy (store2 w g j a0 a1) (some g) := by
  have h1 := h.stored (j * 2) a0
  have h2 := h1.1.stored (j * 2 + 1) a1
  refine ⟨h2.1, ?_⟩
  have g1 := h1.2
  have g2 := grown_trans2 g1 h2.2
  exact g2
end Go.Proofs.Ytlikmgkjilmjpaa
