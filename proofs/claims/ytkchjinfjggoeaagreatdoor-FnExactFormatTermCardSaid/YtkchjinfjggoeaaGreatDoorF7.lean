/-
  Merged by program: TyValid, TeFieldsD, TeFieldsOp, TeFieldsLam.
-/
import Derived.Test.YtkchjinfjggoeaaGreatDoorF6
import Derived.Test.YtkchjinfjggoeaaGreatDoorF4
import Derived.Test.YtkchjinfjggoeaaGreatDoorF5
import Derived.Deep.QuietTactic
import Derived.BigQuiet

/-
  The model's IsValidType, IsData.
-/
namespace Go.Proofs.YtkchjinfjggoeaaGreatDoor
open Go.RowKit

theorem RTy.three {w : World} {t : Ty} {cs : List Value} (h : RTy w t cs) : ∃ c0 c1 c2, cs = [c0, c1, c2] := by
  have hl : cs.length = 3 := Reads.len h
  match cs, hl with
  | [a, b, c], _ => exact ⟨a, b, c, rfl⟩
/-- an argument that is boxed: its box, and the world with the box in it -/
theorem boxed {w : World} {t : Ty} {cs : List Value} (h : RTy w t cs) : ∃ c0 c1 c2 W1 H, cs = [c0, c1, c2] ∧ w.heap.size = H ∧ w.alloc (.cells #[c0, c1, c2] 27) = W1 ∧ Box3 W1 H 27 c0 c1 c2 ∧ Below w.heap.size w W1 := by
  obtain ⟨c0, c1, c2, rfl⟩ := h.three
  exact ⟨c0, c1, c2, _, _, rfl, rfl, rfl, Box3.new w _ _ _ _, (Below.refl _ _).alloc (Nat.le_refl _) _⟩

def validB (t : Ty) : Bool := decide (t.size ≤ 24) && (decide (t.deep ≤ 7) && t.form)

set_option maxHeartbeats 800000 in
theorem specValid_any (t : Ty) (w : World) (cs : List Value) (h : RTy w t cs) (hw : wt t ≤ 1048576) : Calls Tryz.prog 117 #[.agg cs.toArray] w (Truth (validB t) w) := by
  have hz := size_wt t
  obtain ⟨c0, c1, c2, W1, H, rfl, hH, hW1, hbox, hb0⟩ := boxed h
  have HD := Lib.hid (fun W (hB : Below w.heap.size w W) => specDepth_any t W _ (h.keep hB) (by omega))
  have HF := Lib.hid (fun W (hB : Below w.heap.size w W) => l3Form_any t W _ (h.keep hB) hw)
  have HL := Lib.hid (l3Left_any t W1 _ 24 (h.keep hb0) (by omega) (by omega))
  have hdz : t.deep ≤ 1048577 := Nat.le_trans (deep_le_size t) (by omega)
  have HDZ := Lib.hid hdz
  have HW1 := Lib.hid hW1
  have B0 := Lib.hid hbox
  have HB0 := Lib.hid hb0
  have x0 := hbox.c0
  have x1 := hbox.c1
  have x2 := hbox.c2
  clear h hw hz hdz hW1 hbox hb0
  go_enter Tryz.func117, Tryz.ntmps117
  go_wp2_with fail
  rw [HW1.out]
  go_wp2_with fail
  refine HL.out.mono ?_
  rintro e w1 ⟨r, rfl, r1, r2, r3, r4, hb1⟩
  have HB1 := Lib.hid (HB0.out.trans (hb1.mono HB0.out.size))
  have B1 := Lib.hid (B0.out.under hb1 B0.out.lt)
  clear x0 x1 x2
  by_cases hr : 0 ≤ r
  · have hsz : t.size ≤ 24 := by have := r3 hr; omega
    have HV : Hid (validB t = (decide (t.deep ≤ 7) && t.form)) := Lib.hid (by unfold validB; simp [hsz])
    have HC := Lib.hid (HD.out w1 HB1.out)
    have x0 := B1.out.c0
    have x1 := B1.out.c1
    have x2 := B1.out.c2
    clear hsz hb1 r3 r4
    have hdz := HDZ.out
    obtain ⟨dp, hdp⟩ : ∃ dp, t.deep = dp := ⟨_, rfl⟩
    rw [hdp] at HV HC hdz
    clear hdp
    go_wp2_with fail
    refine HC.out.mono ?_
    rintro e w2 ⟨rfl, hb2⟩
    have HB2 := Lib.hid (HB1.out.trans (hb2.mono HB1.out.size))
    have B2 := Lib.hid (B1.out.under hb2 B1.out.lt)
    clear x0 x1 x2
    by_cases hd : dp ≤ 7
    · have HV2 : Hid (validB t = t.form) := Lib.hid (by rw [HV.out]; simp [hd])
      have HG := Lib.hid (HF.out w2 HB2.out)
      have x0 := B2.out.c0
      have x1 := B2.out.c1
      have x2 := B2.out.c2
      clear hb2
      go_wp2_with fail
      refine HG.out.mono ?_
      rintro e w3 ⟨rfl, hb3⟩
      have HR := Lib.hid (truth_iff HV2.out (HB2.out.trans (hb3.mono HB2.out.size)))
      clear hb3
      go_wp2_with fail
      go_ret
      exact HR.out
    · have HR := Lib.hid (truth_iff (a := validB t) (b := false) (by rw [HV.out]; simp [hd]) HB2.out)
      clear hb2
      go_wp2_with fail
      go_ret
      exact HR.out
  · have HR := Lib.hid (truth_iff (a := validB t) (b := false) (by unfold validB; have := r4 (by omega); simp; omega) HB1.out)
    clear hb1 r3 r4
    go_wp2_with fail
    go_ret
    exact HR.out

def dataB (t : Ty) : Bool := validB t && !(Tr.has 5 t)
end Go.Proofs.YtkchjinfjggoeaaGreatDoor

/-
  The model's l7Fields: has a term's node the fields of its kind? Written by mktefields.py.
-/
namespace Go.Proofs.YtkchjinfjggoeaaGreatDoor
open Go.RowKit

def tyB (p : Int) : Bool := decide (p = 7 ∨ p = 13)
def nameOk (p : Int) (ar : Int) (nm : Bool) (z : Bool) : Bool := if p = 4 then !(decide (ar = 0)) else (nmB p == nm) && (nmB p || z)
def typeOk (p : Int) (v : Bool) (tk : Int) (tl ta : Nat) : Bool := (tyB p == v) && (tyB p || (decide (tk = 0) && (decide (tl = 0) && decide (ta = 0))))
def labOk (p : Int) (lb : Bool) (l : Nat) : Bool := if p = 5 then lb else decide (l = 0)
def mostN (p : Int) : Int := if p = 2 then 999 else if p = 3 then 1 else 0
def numOk (p q : Int) : Bool := decide (0 ≤ q) && decide (q ≤ mostN p)
/-- the fields of a node: its kind, its number, whether its name is empty, a name or an operation, its type, its labels -/
def fieldsB (a : TeA) : Bool := nameOk a.kind (arB a.name) (nameB a.name) (a.name.toList == []) && (typeOk a.kind (validB a.type) a.type.top.kind a.type.top.labels.length a.type.kids.length && (labOk a.kind (labB a.labels) a.labels.length && numOk a.kind a.num))
theorem nameOk_op (ar : Int) (nm z : Bool) : nameOk 4 ar nm z = !(decide (ar = 0)) := by unfold nameOk; rw [if_pos rfl]
theorem nameOk_named {p : Int} (h : nmB p = true) (h4 : p ≠ 4) (ar : Int) (nm z : Bool) : nameOk p ar nm z = nm := by unfold nameOk; rw [if_neg h4, h]; cases nm <;> rfl
theorem nameOk_un {p : Int} (h : nmB p = false) (h4 : p ≠ 4) (ar : Int) (nm z : Bool) : nameOk p ar nm z = (!nm && z) := by unfold nameOk; rw [if_neg h4, h]; cases nm <;> rfl
theorem typeOk_yes {p : Int} (h : tyB p = true) (v : Bool) (tk : Int) (tl ta : Nat) : typeOk p v tk tl ta = v := by unfold typeOk; rw [h]; cases v <;> rfl
theorem typeOk_no {p : Int} (h : tyB p = false) (v : Bool) (tk : Int) (tl ta : Nat) : typeOk p v tk tl ta = (!v && (decide (tk = 0) && (decide (tl = 0) && decide (ta = 0)))) := by unfold typeOk; rw [h]; cases v <;> rfl
theorem labOk_rec (lb : Bool) (l : Nat) : labOk 5 lb l = lb := by unfold labOk; rw [if_pos rfl]
theorem labOk_no {p : Int} (h : p ≠ 5) (lb : Bool) (l : Nat) : labOk p lb l = decide (l = 0) := by unfold labOk; rw [if_neg h]
theorem quiet_says {f : Nat} {args : Array Value} {b : Bool} {W : World} (h : Calls Tryz.prog f args W (Says b W)) : Calls Tryz.prog f args W fun e w' => e = .returned (.bool b) ∧ w' = W := h.mono fun _ _ ⟨h1, h2⟩ => ⟨h1, h2.symm⟩
/-- what l7Fields calls, of a node with these parts -/
structure FieldCalls (W1 : World) (p q tk : Int) (s : ByteArray) (TL TA L A : Option Addr) (tl tc ta td l c m d H : Nat) (ar : Int) (nm v lb : Bool) : Prop where
  box : ∀ W, Below W1.heap.size W1 W → Box8 W H 30 (.int .i64 p) (.string s) (.int .i64 q) (.int .i64 tk) (.slice TL tl tc) (.slice TA ta td) (.slice L l c) (.slice A m d)
  arity : ∀ W, Calls Tryz.prog 114 #[.string s] W (fun e w' => e = .returned (.int .i64 ar) ∧ w' = W)
  named : ∀ W, Calls Tryz.prog 115 #[.int .i64 p] W (fun e w' => e = .returned (.bool (nmB p)) ∧ w' = W)
  name : ∀ W, Calls Tryz.prog 116 #[.string s] W (fun e w' => e = .returned (.bool nm) ∧ w' = W)
  type : ∀ W, Below W1.heap.size W1 W → Calls Tryz.prog 117 #[.agg #[.int .i64 tk, .slice TL tl tc, .slice TA ta td]] W (Truth v W)
  labels : ∀ W, Below W1.heap.size W1 W → Calls Tryz.prog 118 #[.slice L l c] W (Truth lb W)
  inside : ∀ hi W, Calls Tryz.prog 119 #[.int .i64 q, .int .i64 0, .int .i64 hi] W (fun e w' => e = .returned (.bool (decide (0 ≤ q) && decide (q ≤ hi))) ∧ w' = W)
end Go.Proofs.YtkchjinfjggoeaaGreatDoor

/-
  The model's l7Fields, of a node of the class 'op'. Written by mktefields.py.
-/
namespace Go.Proofs.YtkchjinfjggoeaaGreatDoor
open Go.RowKit

set_option maxRecDepth 100000 in
set_option maxHeartbeats 3200000 in
theorem fields_op {w W1 : World} {q tk : Int} {s : ByteArray} {TL TA L A : Option Addr} {tl tc ta td l c m d H : Nat} {ar : Int} {nm v lb N : Bool} (hc : FieldCalls W1 4 q tk s TL TA L A tl tc ta td l c m d H ar nm v lb)
    (hW1 : w.alloc (.cells #[.int .i64 4, .string s, .int .i64 q, .int .i64 tk, .slice TL tl tc, .slice TA ta td, .slice L l c, .slice A m d] 30) = W1) (hb1 : Below w.heap.size w W1) (hV : N = (nameOk 4 ar nm (s.toList == []) && (typeOk 4 v tk tl ta && (labOk 4 lb l && numOk 4 q)))) (hH : w.heap.size = H) :
    Calls Tryz.prog 74 #[.agg #[.int .i64 4, .string s, .int .i64 q, .int .i64 tk, .slice TL tl tc, .slice TA ta td, .slice L l c, .slice A m d]] w (Truth N w) := by
  subst hH
  rw [nameOk_op] at hV
  rw [typeOk_no (by decide)] at hV
  rw [labOk_no (by decide)] at hV
  have hM : mostN 4 = 0 := by decide
  unfold numOk at hV
  rw [hM] at hV
  have HV := Lib.hid hV
  have HR : Hid (∀ (b : Bool) W, b = N → Below W1.heap.size W1 W → Truth N w (.returned (.bool b)) W) := Lib.hid (fun b W hb hB => ⟨by rw [hb], hb1.trans (hB.mono hb1.size)⟩)
  have HB1 := Lib.hid hb1
  have HC := Lib.hid hc
  have HW1 := Lib.hid hW1
  have bx := hc.box W1 (Below.refl _ _)
  have x0 := bx.c0
  have x1 := bx.c1
  clear hc hW1 hb1 hV hM bx
  have HO := Lib.hid (HC.out.arity W1)
  by_cases a0 : ar = 0
  · subst a0
    go_enter Tryz.func74, Tryz.ntmps74
    go_wp2_with fail
    rw [HW1.out]
    go_wp2_with fail
    refine HO.out.mono ?_
    rintro e w2 ⟨rfl, hw2⟩
    rw [hw2]
    clear hw2
    have HF := Lib.hid (HR.out false W1 (by rw [HV.out]; rfl) (Below.refl _ _))
    go_wp2_with fail
    go_ret
    exact HF.out
  · have a1 : (ar == 0) = false := by simp [a0]
    rw [decide_eq_false a0] at HV
    go_enter Tryz.func74, Tryz.ntmps74
    go_wp2_with fail
    rw [HW1.out]
    go_wp2_with fail
    refine HO.out.mono ?_
    rintro e w2 ⟨rfl, hw2⟩
    rw [hw2]
    clear hw2
    clear HO a0
    have bx := HC.out.box W1 (Below.refl _ _)
    have z0 := bx.c0
    have z3 := bx.c3
    have z4 := bx.c4
    have z5 := bx.c5
    have HT := Lib.hid (HC.out.type W1 (Below.refl _ _))
    have HBW : Hid (Below W1.heap.size W1 W1) := Lib.hid (Below.refl _ _)
    clear bx
    go_wp2_with fail
    refine HT.out.mono ?_
    rintro e w4 ⟨rfl, hb4⟩
    have HB4 := Lib.hid (HBW.out.trans (hb4.mono HBW.out.size))
    have by4 := HC.out.box w4 HB4.out
    have y0 := by4.c0
    have y2 := by4.c2
    have y3 := by4.c3
    have y4 := by4.c4
    have y5 := by4.c5
    have y6 := by4.c6
    clear hb4 by4 z0 z3 z4 z5 HT
    cases v with
    | true =>
      have HF := Lib.hid (HR.out false w4 (by rw [HV.out]; rfl) HB4.out)
      go_wp2_with fail
      go_ret
      exact HF.out
    | false =>
      by_cases t0 : tk = 0
      · subst t0
        by_cases t1 : tl = 0
        · subst t1
          by_cases t2 : ta = 0
          · subst t2
            by_cases l0 : l = 0
            · subst l0
              have HIN := Lib.hid (HC.out.inside 0 w4)
              have HE : Hid (∀ b, b = (decide (0 ≤ q) && decide (q ≤ 0)) → Truth N w (.returned (.bool b)) w4) := Lib.hid (fun b hb => HR.out b w4 (by rw [hb, HV.out]; simp) HB4.out)
              generalize (decide (0 ≤ q) && decide (q ≤ 0)) = bb at HIN HE
              go_wp2_with fail
              refine HIN.out.mono ?_
              rintro e w6 ⟨rfl, hw6⟩
              have HF := Lib.hid (HE.out _ rfl)
              rw [← hw6] at HF
              clear hw6
              go_wp2_with fail
              go_ret
              exact HF.out
            · have u6 : (0 : Int) < (l : Int) := by omega
              have HF := Lib.hid (HR.out false w4 (by rw [HV.out]; simp [l0]) HB4.out)
              go_wp2_with fail
              go_ret
              exact HF.out
          · have u2 : (0 : Int) < (ta : Int) := by omega
            have HF := Lib.hid (HR.out false w4 (by rw [HV.out]; simp [t2]) HB4.out)
            go_wp2_with fail
            go_ret
            exact HF.out
        · have u1 : (0 : Int) < (tl : Int) := by omega
          have HF := Lib.hid (HR.out false w4 (by rw [HV.out]; simp [t1]) HB4.out)
          go_wp2_with fail
          go_ret
          exact HF.out
      · have u0 : (tk == 0) = false := by simp [t0]
        have HF := Lib.hid (HR.out false w4 (by rw [HV.out]; simp [t0]) HB4.out)
        go_wp2_with fail
        go_ret
        exact HF.out

end Go.Proofs.YtkchjinfjggoeaaGreatDoor

/-
  The model's l7Fields, of a node of the class 'lam'. Written by mktefields.py.
-/
namespace Go.Proofs.YtkchjinfjggoeaaGreatDoor
open Go.RowKit

set_option maxRecDepth 100000 in
set_option maxHeartbeats 3200000 in
theorem fields_lam {w W1 : World} {q tk : Int} {s : ByteArray} {TL TA L A : Option Addr} {tl tc ta td l c m d H : Nat} {ar : Int} {nm v lb N : Bool} (hc : FieldCalls W1 13 q tk s TL TA L A tl tc ta td l c m d H ar nm v lb)
    (hW1 : w.alloc (.cells #[.int .i64 13, .string s, .int .i64 q, .int .i64 tk, .slice TL tl tc, .slice TA ta td, .slice L l c, .slice A m d] 30) = W1) (hb1 : Below w.heap.size w W1) (hV : N = (nameOk 13 ar nm (s.toList == []) && (typeOk 13 v tk tl ta && (labOk 13 lb l && numOk 13 q)))) (hH : w.heap.size = H) :
    Calls Tryz.prog 74 #[.agg #[.int .i64 13, .string s, .int .i64 q, .int .i64 tk, .slice TL tl tc, .slice TA ta td, .slice L l c, .slice A m d]] w (Truth N w) := by
  subst hH
  rw [nameOk_named (by decide) (by decide)] at hV
  rw [typeOk_yes (by decide)] at hV
  rw [labOk_no (by decide)] at hV
  have hM : mostN 13 = 0 := by decide
  unfold numOk at hV
  rw [hM] at hV
  have HV := Lib.hid hV
  have HR : Hid (∀ (b : Bool) W, b = N → Below W1.heap.size W1 W → Truth N w (.returned (.bool b)) W) := Lib.hid (fun b W hb hB => ⟨by rw [hb], hb1.trans (hB.mono hb1.size)⟩)
  have HB1 := Lib.hid hb1
  have HC := Lib.hid hc
  have HW1 := Lib.hid hW1
  have bx := hc.box W1 (Below.refl _ _)
  have x0 := bx.c0
  have x1 := bx.c1
  have HNM : Hid (∀ W, Calls Tryz.prog 115 #[.int .i64 13] W (fun e w' => e = .returned (.bool true) ∧ w' = W)) := Lib.hid (fun W => by have h := hc.named W; rw [show nmB 13 = true by decide] at h; exact h)
  clear hc hW1 hb1 hV hM bx
  cases nm with
  | false =>
    go_enter Tryz.func74, Tryz.ntmps74
    go_wp2_with fail
    rw [HW1.out]
    go_wp2_with fail
    go_quiet (first | (go_at_call 115; exact Calls.quiet_of_same (HNM.out _)) | (go_at_call 116; exact Calls.quiet_of_same (HC.out.name _)))
    have HF := Lib.hid (HR.out false (W1.drewN nq) (by rw [HV.out]; rfl) (below_drewN (Below.refl _ _) nq))
    go_wp2_with fail
    go_ret
    exact HF.out
  | true =>
    go_enter Tryz.func74, Tryz.ntmps74
    go_wp2_with fail
    rw [HW1.out]
    go_wp2_with fail
    go_quiet (first | (go_at_call 115; exact Calls.quiet_of_same (HNM.out _)) | (go_at_call 116; exact Calls.quiet_of_same (HC.out.name _)))
    have bx := HC.out.box (W1.drewN nq) (below_drewN (Below.refl _ _) nq)
    have z0 := bx.c0
    have z3 := bx.c3
    have z4 := bx.c4
    have z5 := bx.c5
    have HT := Lib.hid (HC.out.type (W1.drewN nq) (below_drewN (Below.refl _ _) nq))
    have HBW : Hid (Below W1.heap.size W1 (W1.drewN nq)) := Lib.hid (below_drewN (Below.refl _ _) nq)
    clear bx
    go_wp2_with fail
    refine HT.out.mono ?_
    rintro e w4 ⟨rfl, hb4⟩
    have HB4 := Lib.hid (HBW.out.trans (hb4.mono HBW.out.size))
    have by4 := HC.out.box w4 HB4.out
    have y0 := by4.c0
    have y2 := by4.c2
    have y3 := by4.c3
    have y4 := by4.c4
    have y5 := by4.c5
    have y6 := by4.c6
    clear hb4 by4 z0 z3 z4 z5 HT
    cases v with
    | false =>
      have HF := Lib.hid (HR.out false w4 (by rw [HV.out]; rfl) HB4.out)
      go_wp2_with fail
      go_ret
      exact HF.out
    | true =>
      by_cases l0 : l = 0
      · subst l0
        have HIN := Lib.hid (HC.out.inside 0 w4)
        have HE : Hid (∀ b, b = (decide (0 ≤ q) && decide (q ≤ 0)) → Truth N w (.returned (.bool b)) w4) := Lib.hid (fun b hb => HR.out b w4 (by rw [hb, HV.out]; simp) HB4.out)
        generalize (decide (0 ≤ q) && decide (q ≤ 0)) = bb at HIN HE
        go_wp2_with fail
        refine HIN.out.mono ?_
        rintro e w6 ⟨rfl, hw6⟩
        have HF := Lib.hid (HE.out _ rfl)
        rw [← hw6] at HF
        clear hw6
        go_wp2_with fail
        go_ret
        exact HF.out
      · have u6 : (0 : Int) < (l : Int) := by omega
        have HF := Lib.hid (HR.out false w4 (by rw [HV.out]; simp [l0]) HB4.out)
        go_wp2_with fail
        go_ret
        exact HF.out

end Go.Proofs.YtkchjinfjggoeaaGreatDoor
