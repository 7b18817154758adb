/-
  Merged by program: Box8, TeNode.
-/
import Derived.Test.YtkchjinfjggoeaaGreatDoorF1
import Derived.Laws.Rows
import Derived.Test.YtkchjinfjggoeaaGreatDoorF2
import Derived.Test.YtkchjinfjggoeaaGreatDoorF3

/-
  A block of 8 cells that is known whole. Hangs on no program. Written by genbox.py.
-/
namespace Go.Proofs.YtkchjinfjggoeaaGreatDoor
open Go.RowKit

def Box8 (w : World) (g : Nat) (t : TypeId) (a0 a1 a2 a3 a4 a5 a6 a7 : Value) : Prop := w.heap[g]? = some (.cells #[a0, a1, a2, a3, a4, a5, a6, a7] t (0, 0))
section
variable {w w' : World} {g : Nat} {t : TypeId} {a0 a1 a2 a3 a4 a5 a6 a7 : Value}
theorem Box8.new (w : World) (t : TypeId) (a0 a1 a2 a3 a4 a5 a6 a7 : Value) : Box8 (w.alloc (.cells #[a0, a1, a2, a3, a4, a5, a6, a7] t)) w.heap.size t a0 a1 a2 a3 a4 a5 a6 a7 := heap_alloc_new w _
theorem Box8.lt (h : Box8 w g t a0 a1 a2 a3 a4 a5 a6 a7) : g < w.heap.size := (Array.getElem?_eq_some_iff.1 h).1
theorem Box8.c0 (h : Box8 w g t a0 a1 a2 a3 a4 a5 a6 a7) : w.cell? ⟨g, 0, none⟩ = some a0 := cell_of_row w g 0 _ t (0, 0) h
theorem Box8.c1 (h : Box8 w g t a0 a1 a2 a3 a4 a5 a6 a7) : w.cell? ⟨g, 1, none⟩ = some a1 := cell_of_row w g 1 _ t (0, 0) h
theorem Box8.c2 (h : Box8 w g t a0 a1 a2 a3 a4 a5 a6 a7) : w.cell? ⟨g, 2, none⟩ = some a2 := cell_of_row w g 2 _ t (0, 0) h
theorem Box8.c3 (h : Box8 w g t a0 a1 a2 a3 a4 a5 a6 a7) : w.cell? ⟨g, 3, none⟩ = some a3 := cell_of_row w g 3 _ t (0, 0) h
theorem Box8.c4 (h : Box8 w g t a0 a1 a2 a3 a4 a5 a6 a7) : w.cell? ⟨g, 4, none⟩ = some a4 := cell_of_row w g 4 _ t (0, 0) h
theorem Box8.c5 (h : Box8 w g t a0 a1 a2 a3 a4 a5 a6 a7) : w.cell? ⟨g, 5, none⟩ = some a5 := cell_of_row w g 5 _ t (0, 0) h
theorem Box8.c6 (h : Box8 w g t a0 a1 a2 a3 a4 a5 a6 a7) : w.cell? ⟨g, 6, none⟩ = some a6 := cell_of_row w g 6 _ t (0, 0) h
theorem Box8.c7 (h : Box8 w g t a0 a1 a2 a3 a4 a5 a6 a7) : w.cell? ⟨g, 7, none⟩ = some a7 := cell_of_row w g 7 _ t (0, 0) h
theorem Box8.free (h : Box8 w g t a0 a1 a2 a3 a4 a5 a6 a7) (i : Nat) : w.frozen? ⟨g, i, none⟩ = false := frozen_of_row w g i _ t h
theorem Box8.under (h : Box8 w g t a0 a1 a2 a3 a4 a5 a6 a7) {B : Nat} (hb : Below B w w') (hg : g < B) : Box8 w' g t a0 a1 a2 a3 a4 a5 a6 a7 := (hb.block g hg).trans h
theorem Box8.alloc (h : Box8 w g t a0 a1 a2 a3 a4 a5 a6 a7) (o : Obj) : Box8 (w.alloc o) g t a0 a1 a2 a3 a4 a5 a6 a7 := (heap_alloc_old w o h.lt).trans h
theorem Box8.far (h : Box8 w g t a0 a1 a2 a3 a4 a5 a6 a7) {p : Addr} (hp : g ≠ p.block) (u : Value) : Box8 (w.setCell p u) g t a0 a1 a2 a3 a4 a5 a6 a7 := (Below.heap_setCell w p u g hp).trans h
theorem Box8.set0 (h : Box8 w g t a0 a1 a2 a3 a4 a5 a6 a7) (u : Value) : Box8 (w.setCell ⟨g, 0, none⟩ u) g t u a1 a2 a3 a4 a5 a6 a7 := heap_setCell_same w g 0 _ t u h
theorem Box8.set1 (h : Box8 w g t a0 a1 a2 a3 a4 a5 a6 a7) (u : Value) : Box8 (w.setCell ⟨g, 1, none⟩ u) g t a0 u a2 a3 a4 a5 a6 a7 := heap_setCell_same w g 1 _ t u h
theorem Box8.set2 (h : Box8 w g t a0 a1 a2 a3 a4 a5 a6 a7) (u : Value) : Box8 (w.setCell ⟨g, 2, none⟩ u) g t a0 a1 u a3 a4 a5 a6 a7 := heap_setCell_same w g 2 _ t u h
theorem Box8.set3 (h : Box8 w g t a0 a1 a2 a3 a4 a5 a6 a7) (u : Value) : Box8 (w.setCell ⟨g, 3, none⟩ u) g t a0 a1 a2 u a4 a5 a6 a7 := heap_setCell_same w g 3 _ t u h
theorem Box8.set4 (h : Box8 w g t a0 a1 a2 a3 a4 a5 a6 a7) (u : Value) : Box8 (w.setCell ⟨g, 4, none⟩ u) g t a0 a1 a2 a3 u a5 a6 a7 := heap_setCell_same w g 4 _ t u h
theorem Box8.set5 (h : Box8 w g t a0 a1 a2 a3 a4 a5 a6 a7) (u : Value) : Box8 (w.setCell ⟨g, 5, none⟩ u) g t a0 a1 a2 a3 a4 u a6 a7 := heap_setCell_same w g 5 _ t u h
theorem Box8.set6 (h : Box8 w g t a0 a1 a2 a3 a4 a5 a6 a7) (u : Value) : Box8 (w.setCell ⟨g, 6, none⟩ u) g t a0 a1 a2 a3 a4 a5 u a7 := heap_setCell_same w g 6 _ t u h
theorem Box8.set7 (h : Box8 w g t a0 a1 a2 a3 a4 a5 a6 a7) (u : Value) : Box8 (w.setCell ⟨g, 7, none⟩ u) g t a0 a1 a2 a3 a4 a5 a6 u := heap_setCell_same w g 7 _ t u h
theorem Box8.grown {row : Option Nat} (h : Box8 w g t a0 a1 a2 a3 a4 a5 a6 a7) (hg : w.grownBy w' row) (hne : some g ≠ row) : Box8 w' g t a0 a1 a2 a3 a4 a5 a6 a7 := (hg.block g h.lt hne).trans h
end
end Go.Proofs.YtkchjinfjggoeaaGreatDoor

/-
  The model's l7Named, l7Arity.
-/
namespace Go.Proofs.YtkchjinfjggoeaaGreatDoor
open Go.RowKit

/-- has a node of the kind the name of a variable, a label or a table? -/
def nmB (p : Int) : Bool := decide (p = 1 ∨ p = 6 ∨ p = 10 ∨ p = 12 ∨ p = 13)
/-- how many parts a node has -/
def arN (p : Int) (s : ByteArray) (l : Nat) : Int :=
  if p = 1 ∨ p = 2 ∨ p = 3 ∨ p = 7 ∨ p = 12 then 0 else if p = 4 then arB s else if p = 5 then l else if p = 6 ∨ p = 8 ∨ p = 13 ∨ p = 15 ∨ p = 16 then 1 else if p = 9 ∨ p = 10 ∨ p = 14 then 2 else if p = 11 then 3 else -1

set_option maxHeartbeats 800000 in
theorem l7Named_any (p : Int) (w : World) : Calls Tryz.prog 115 #[.int .i64 p] w (Says (nmB p) w) := by
  by_cases e1 : p = 1
  · subst e1
    go_enter Tryz.func115, Tryz.ntmps115
    go_wp2_with fail
    go_ret
    exact ⟨rfl, rfl⟩
  by_cases e6 : p = 6
  · subst e6
    go_enter Tryz.func115, Tryz.ntmps115
    go_wp2_with fail
    go_ret
    exact ⟨rfl, rfl⟩
  by_cases e10 : p = 10
  · subst e10
    go_enter Tryz.func115, Tryz.ntmps115
    go_wp2_with fail
    go_ret
    exact ⟨rfl, rfl⟩
  by_cases e12 : p = 12
  · subst e12
    go_enter Tryz.func115, Tryz.ntmps115
    go_wp2_with fail
    go_ret
    exact ⟨rfl, rfl⟩
  by_cases e13 : p = 13
  · subst e13
    go_enter Tryz.func115, Tryz.ntmps115
    go_wp2_with fail
    go_ret
    exact ⟨rfl, rfl⟩
  have HV : Hid (Says (nmB p) w (.returned (.bool false)) w) := Lib.hid ⟨by unfold nmB; rw [decide_eq_false (by omega)], rfl⟩
  have f1 : (p == 1) = false := by simp [e1]
  have f6 : (p == 6) = false := by simp [e6]
  have f10 : (p == 10) = false := by simp [e10]
  have f12 : (p == 12) = false := by simp [e12]
  have f13 : (p == 13) = false := by simp [e13]
  clear e1 e6 e10 e12 e13
  go_enter Tryz.func115, Tryz.ntmps115
  go_wp2_with fail
  go_ret
  exact HV.out

def ArityN (p : Int) (s : ByteArray) (l : Nat) (w : World) (e : Ending) (w' : World) : Prop := e = .returned (.int .i64 (arN p s l)) ∧ Below w.heap.size w w'
set_option maxRecDepth 100000 in
set_option maxHeartbeats 1600000 in
theorem l7Arity_any (p q tk : Int) (s : ByteArray) (TL TA L A : Option Addr) (tl tc ta td l c m d : Nat) (w : World) : Calls Tryz.prog 75 #[.agg #[.int .i64 p, .string s, .int .i64 q, .int .i64 tk, .slice TL tl tc, .slice TA ta td, .slice L l c, .slice A m d]] w (ArityN p s l w) := by
  obtain ⟨W1, hW1⟩ : ∃ W1, w.alloc (.cells #[.int .i64 p, .string s, .int .i64 q, .int .i64 tk, .slice TL tl tc, .slice TA ta td, .slice L l c, .slice A m d] 30) = W1 := ⟨_, rfl⟩
  obtain ⟨H, hH⟩ : ∃ H, w.heap.size = H := ⟨_, rfl⟩
  have hb1 : Below w.heap.size w W1 := by rw [← hW1]; exact (Below.refl _ _).alloc (Nat.le_refl _) _
  have hbx : Box8 W1 H 30 (.int .i64 p) (.string s) (.int .i64 q) (.int .i64 tk) (.slice TL tl tc) (.slice TA ta td) (.slice L l c) (.slice A m d) := by rw [← hW1, ← hH]; exact Box8.new w _ _ _ _ _ _ _ _ _
  have HA := Lib.hid (specArity_any s W1)
  have HR : Hid (∀ k, k = arN p s l → ArityN p s l w (.returned (.int .i64 k)) W1) := Lib.hid (fun k hk => ⟨by rw [hk], hb1⟩)
  have HW1 := Lib.hid hW1
  have x0 := hbx.c0
  have x1 := hbx.c1
  have x6 := hbx.c6
  clear hW1 hb1 hbx
  by_cases e1 : p = 1
  · subst e1
    have HF := Lib.hid (HR.out 0 (by simp [arN]))
    clear HR HA
    go_enter Tryz.func75, Tryz.ntmps75
    go_wp2_with fail
    rw [HW1.out]
    go_wp2_with fail
    go_ret
    exact HF.out
  by_cases e2 : p = 2
  · subst e2
    have HF := Lib.hid (HR.out 0 (by simp [arN]))
    clear HR HA
    go_enter Tryz.func75, Tryz.ntmps75
    go_wp2_with fail
    rw [HW1.out]
    go_wp2_with fail
    go_ret
    exact HF.out
  by_cases e3 : p = 3
  · subst e3
    have HF := Lib.hid (HR.out 0 (by simp [arN]))
    clear HR HA
    go_enter Tryz.func75, Tryz.ntmps75
    go_wp2_with fail
    rw [HW1.out]
    go_wp2_with fail
    go_ret
    exact HF.out
  by_cases e4 : p = 4
  · subst e4
    have HF := Lib.hid (HR.out (arB s) (by simp [arN]))
    clear HR 
    go_enter Tryz.func75, Tryz.ntmps75
    go_wp2_with fail
    rw [HW1.out]
    go_wp2_with fail
    refine HA.out.mono ?_
    rintro e w2 ⟨rfl, rfl⟩
    go_wp2_with fail
    go_ret
    exact HF.out
  by_cases e5 : p = 5
  · subst e5
    have HF := Lib.hid (HR.out (l : Int) (by simp [arN]))
    clear HR HA
    go_enter Tryz.func75, Tryz.ntmps75
    go_wp2_with fail
    rw [HW1.out]
    go_wp2_with fail
    go_ret
    exact HF.out
  by_cases e6 : p = 6
  · subst e6
    have HF := Lib.hid (HR.out 1 (by simp [arN]))
    clear HR HA
    go_enter Tryz.func75, Tryz.ntmps75
    go_wp2_with fail
    rw [HW1.out]
    go_wp2_with fail
    go_ret
    exact HF.out
  by_cases e7 : p = 7
  · subst e7
    have HF := Lib.hid (HR.out 0 (by simp [arN]))
    clear HR HA
    go_enter Tryz.func75, Tryz.ntmps75
    go_wp2_with fail
    rw [HW1.out]
    go_wp2_with fail
    go_ret
    exact HF.out
  by_cases e8 : p = 8
  · subst e8
    have HF := Lib.hid (HR.out 1 (by simp [arN]))
    clear HR HA
    go_enter Tryz.func75, Tryz.ntmps75
    go_wp2_with fail
    rw [HW1.out]
    go_wp2_with fail
    go_ret
    exact HF.out
  by_cases e9 : p = 9
  · subst e9
    have HF := Lib.hid (HR.out 2 (by simp [arN]))
    clear HR HA
    go_enter Tryz.func75, Tryz.ntmps75
    go_wp2_with fail
    rw [HW1.out]
    go_wp2_with fail
    go_ret
    exact HF.out
  by_cases e10 : p = 10
  · subst e10
    have HF := Lib.hid (HR.out 2 (by simp [arN]))
    clear HR HA
    go_enter Tryz.func75, Tryz.ntmps75
    go_wp2_with fail
    rw [HW1.out]
    go_wp2_with fail
    go_ret
    exact HF.out
  by_cases e11 : p = 11
  · subst e11
    have HF := Lib.hid (HR.out 3 (by simp [arN]))
    clear HR HA
    go_enter Tryz.func75, Tryz.ntmps75
    go_wp2_with fail
    rw [HW1.out]
    go_wp2_with fail
    go_ret
    exact HF.out
  by_cases e12 : p = 12
  · subst e12
    have HF := Lib.hid (HR.out 0 (by simp [arN]))
    clear HR HA
    go_enter Tryz.func75, Tryz.ntmps75
    go_wp2_with fail
    rw [HW1.out]
    go_wp2_with fail
    go_ret
    exact HF.out
  by_cases e13 : p = 13
  · subst e13
    have HF := Lib.hid (HR.out 1 (by simp [arN]))
    clear HR HA
    go_enter Tryz.func75, Tryz.ntmps75
    go_wp2_with fail
    rw [HW1.out]
    go_wp2_with fail
    go_ret
    exact HF.out
  by_cases e14 : p = 14
  · subst e14
    have HF := Lib.hid (HR.out 2 (by simp [arN]))
    clear HR HA
    go_enter Tryz.func75, Tryz.ntmps75
    go_wp2_with fail
    rw [HW1.out]
    go_wp2_with fail
    go_ret
    exact HF.out
  by_cases e15 : p = 15
  · subst e15
    have HF := Lib.hid (HR.out 1 (by simp [arN]))
    clear HR HA
    go_enter Tryz.func75, Tryz.ntmps75
    go_wp2_with fail
    rw [HW1.out]
    go_wp2_with fail
    go_ret
    exact HF.out
  by_cases e16 : p = 16
  · subst e16
    have HF := Lib.hid (HR.out 1 (by simp [arN]))
    clear HR HA
    go_enter Tryz.func75, Tryz.ntmps75
    go_wp2_with fail
    rw [HW1.out]
    go_wp2_with fail
    go_ret
    exact HF.out
  have HF := Lib.hid (HR.out (-1) (by simp [arN, e1, e2, e3, e4, e5, e6, e7, e8, e9, e10, e11, e12, e13, e14, e15, e16]))
  have f1 : (p == 1) = false := by simp [e1]
  have f2 : (p == 2) = false := by simp [e2]
  have f3 : (p == 3) = false := by simp [e3]
  have f4 : (p == 4) = false := by simp [e4]
  have f5 : (p == 5) = false := by simp [e5]
  have f6 : (p == 6) = false := by simp [e6]
  have f7 : (p == 7) = false := by simp [e7]
  have f8 : (p == 8) = false := by simp [e8]
  have f9 : (p == 9) = false := by simp [e9]
  have f10 : (p == 10) = false := by simp [e10]
  have f11 : (p == 11) = false := by simp [e11]
  have f12 : (p == 12) = false := by simp [e12]
  have f13 : (p == 13) = false := by simp [e13]
  have f14 : (p == 14) = false := by simp [e14]
  have f15 : (p == 15) = false := by simp [e15]
  have f16 : (p == 16) = false := by simp [e16]
  clear HR HA e1 e2 e3 e4 e5 e6 e7 e8 e9 e10 e11 e12 e13 e14 e15 e16
  go_enter Tryz.func75, Tryz.ntmps75
  go_wp2_with fail
  rw [HW1.out]
  go_wp2_with fail
  go_ret
  exact HF.out
end Go.Proofs.YtkchjinfjggoeaaGreatDoor
