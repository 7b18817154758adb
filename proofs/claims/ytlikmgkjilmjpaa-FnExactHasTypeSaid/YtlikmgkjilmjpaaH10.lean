/-
  Merged by program: HasD, Box4.
-/
import Derived.Test.YtlikmgkjilmjpaaH9
import Derived.Test.YtlikmgkjilmjpaaH1
import Derived.Laws.Rows

/-
  Whether a value has a type, over trees: by recursion on the type; what a data type looks like.
-/
namespace Go.Proofs.Ytlikmgkjilmjpaa

mutual
def hasT : Ty → Va → Bool
  | .node a ks, v =>
    if a.kind = 1 then decide (v.top.kind = 1) && (decide (v.top.labels.length = 0) && decide (v.kids.length = 0))
    else if a.kind = 2 then decide (v.top.kind = 2) && (decide (v.top.num = 0 ∨ v.top.num = 1) && (decide (v.top.labels.length = 0) && decide (v.kids.length = 0)))
    else if a.kind = 3 then decide (v.top.kind = 3) && (decide (v.top.num = 0) && (decide (v.top.labels = a.labels) && hasTs ks v.kids))
    else decide (v.top.kind = 4) && (decide (v.top.num = 0) && (decide (v.top.labels.length = 0) && v.kids.all fun x => hasTh ks x))
def hasTs : List Ty → List Va → Bool
  | [], [] => true
  | t :: ts, v :: vs => hasT t v && hasTs ts vs
  | [], _ :: _ => false
  | _ :: _, [] => false
def hasTh : List Ty → Va → Bool
  | [], _ => true
  | t :: _, v => hasT t v
end
theorem hasTs_len : ∀ {ts : List Ty} {vs : List Va}, hasTs ts vs = true → ts.length = vs.length
  | [], [], _ => rfl
  | t :: ts, v :: vs, h => by
    rw [hasTs, Bool.and_eq_true] at h
    simp [hasTs_len h.2]
  | [], _ :: _, h => by simp [hasTs] at h
  | _ :: _, [], h => by simp [hasTs] at h
/-- the types are the values', from the k-th on -/
theorem hasTs_step {ts : List Ty} {vs : List Va} {k : Nat} (h1 : k < ts.length) (h2 : k < vs.length) : hasTs (ts.drop k) (vs.drop k) = (hasT ts[k] vs[k] && hasTs (ts.drop (k + 1)) (vs.drop (k + 1))) := by
  rw [List.drop_eq_getElem_cons h1, List.drop_eq_getElem_cons h2, hasTs]
theorem hasTs_end {ts : List Ty} {vs : List Va} {k : Nat} (h1 : ts.length ≤ k) (h2 : vs.length ≤ k) : hasTs (ts.drop k) (vs.drop k) = true := by
  rw [List.drop_eq_nil_of_le h1, List.drop_eq_nil_of_le h2, hasTs]
/-- a data type -/
def DatT (t : Ty) : Prop := t.form = true ∧ Tr.has 5 t = false
theorem DatT.of {t : Ty} (h : dataB t = true) : DatT t := by
  unfold dataB validB at h
  simp only [Bool.and_eq_true, Bool.not_eq_true'] at h
  exact ⟨h.1.2.2, h.2⟩
theorem DatT.kid {a : TyA} {ks : List Ty} (h : DatT (.node a ks)) {t : Ty} (ht : t ∈ ks) : DatT t := by
  obtain ⟨h1, h2⟩ := h
  rw [form_node, Bool.and_eq_true, List.all_eq_true] at h1
  rw [has_node, Bool.or_eq_false_iff] at h2
  refine ⟨h1.1 t ht, ?_⟩
  have := h2.1
  rw [List.any_eq_false] at this
  simpa using this t ht
/-- the four kinds of data types -/
theorem DatT.cases {a : TyA} {ks : List Ty} (h : DatT (.node a ks)) :
    ((a.kind = 1 ∨ a.kind = 2) ∧ a.labels.length = 0 ∧ ks.length = 0) ∨ (a.kind = 3 ∧ ks.length = a.labels.length) ∨ (a.kind = 4 ∧ a.labels.length = 0 ∧ ks.length = 1) := by
  obtain ⟨h1, h2⟩ := h
  rw [form_node, Bool.and_eq_true] at h1
  have hf := h1.2
  rw [has_node, Bool.or_eq_false_iff] at h2
  have h5 : a.kind ≠ 5 := by simpa using h2.2
  unfold formA at hf
  by_cases h3 : a.kind = 3
  · rw [if_pos h3] at hf
    simp only [Bool.and_eq_true, decide_eq_true_eq] at hf
    exact .inr (.inl ⟨h3, hf.1⟩)
  · rw [if_neg h3] at hf
    simp only [Bool.and_eq_true, decide_eq_true_eq] at hf
    obtain ⟨_, hl, hw⟩ := hf
    unfold want at hw
    by_cases k1 : a.kind = 1
    · rw [if_pos k1] at hw
      exact .inl ⟨.inl k1, hl, by omega⟩
    · by_cases k2 : a.kind = 2
      · rw [if_neg k1, if_pos k2] at hw
        exact .inl ⟨.inr k2, hl, by omega⟩
      · by_cases k4 : a.kind = 4
        · rw [if_neg k1, if_neg k2, if_pos k4] at hw
          exact .inr (.inr ⟨k4, hl, by omega⟩)
        · rw [if_neg k1, if_neg k2, if_neg k4, if_neg h5] at hw
          omega
def hasV (v : Va) (t : Ty) : Bool := dataB t && (decide (v.size ≤ 2000) && hasT t v)
end Go.Proofs.Ytlikmgkjilmjpaa

/-
  A block of four cells that is known whole. Hangs on no program.
-/
namespace Go.Proofs.Ytlikmgkjilmjpaa
open Go.RowKit

def Box4 (w : World) (g : Nat) (t : TypeId) (a b c d : Value) : Prop := w.heap[g]? = some (.cells #[a, b, c, d] t (0, 0))
section
variable {w w' : World} {g : Nat} {t : TypeId} {a b c d : Value}
theorem Box4.new (w : World) (t : TypeId) (a b c d : Value) : Box4 (w.alloc (.cells #[a, b, c, d] t)) w.heap.size t a b c d := heap_alloc_new w _
theorem Box4.lt (h : Box4 w g t a b c d) : g < w.heap.size := (Array.getElem?_eq_some_iff.1 h).1
theorem Box4.c0 (h : Box4 w g t a b c d) : w.cell? ⟨g, 0, none⟩ = some a := cell_of_row w g 0 _ t (0, 0) h
theorem Box4.c1 (h : Box4 w g t a b c d) : w.cell? ⟨g, 1, none⟩ = some b := cell_of_row w g 1 _ t (0, 0) h
theorem Box4.c2 (h : Box4 w g t a b c d) : w.cell? ⟨g, 2, none⟩ = some c := cell_of_row w g 2 _ t (0, 0) h
theorem Box4.c3 (h : Box4 w g t a b c d) : w.cell? ⟨g, 3, none⟩ = some d := cell_of_row w g 3 _ t (0, 0) h
theorem Box4.free (h : Box4 w g t a b c d) (i : Nat) : w.frozen? ⟨g, i, none⟩ = false := frozen_of_row w g i _ t h
theorem Box4.under (h : Box4 w g t a b c d) {B : Nat} (hb : Below B w w') (hg : g < B) : Box4 w' g t a b c d := (hb.block g hg).trans h
theorem Box4.alloc (h : Box4 w g t a b c d) (o : Obj) : Box4 (w.alloc o) g t a b c d := ((((Below.refl _ _).alloc (Nat.le_refl _) o : Below w.heap.size w (w.alloc o))).block g h.lt).trans h
theorem Box4.far (h : Box4 w g t a b c d) {p : Addr} (hp : g ≠ p.block) (u : Value) : Box4 (w.setCell p u) g t a b c d := (Below.heap_setCell w p u g hp).trans h
theorem Box4.set0 (h : Box4 w g t a b c d) (u : Value) : Box4 (w.setCell ⟨g, 0, none⟩ u) g t u b c d := heap_setCell_same w g 0 _ t u h
theorem Box4.set1 (h : Box4 w g t a b c d) (u : Value) : Box4 (w.setCell ⟨g, 1, none⟩ u) g t a u c d := heap_setCell_same w g 1 _ t u h
theorem Box4.set2 (h : Box4 w g t a b c d) (u : Value) : Box4 (w.setCell ⟨g, 2, none⟩ u) g t a b u d := heap_setCell_same w g 2 _ t u h
theorem Box4.set3 (h : Box4 w g t a b c d) (u : Value) : Box4 (w.setCell ⟨g, 3, none⟩ u) g t a b c u := heap_setCell_same w g 3 _ t u h
theorem Box4.grown {row : Option Nat} (h : Box4 w g t a b c d) (hg : w.grownBy w' row) (hne : some g ≠ row) : Box4 w' g t a b c d := (hg.block g h.lt hne).trans h
end
end Go.Proofs.Ytlikmgkjilmjpaa
