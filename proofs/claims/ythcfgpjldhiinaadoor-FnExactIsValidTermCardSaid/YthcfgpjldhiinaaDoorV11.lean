/-
  Merged by program: TeFieldsOp, TeFieldsLam.
-/
import Derived.Test.YthcfgpjldhiinaaDoorV10

/-
  The model's l7Fields, of a node of the class 'op'. Written by mktefields.py.
-/
namespace Go.Proofs.YthcfgpjldhiinaaDoor
open Go.RowKit

set_option maxRecDepth 100000 in
set_option maxHeartbeats 3200000 in
theorem fields_op {w W1 : World} {q tk : Int} {s : ByteArray} {TL TA L A : Option Addr} {tl tc ta td l c m d H : Nat} {ar : Int} {nm v lb N : Bool} (hc : FieldCalls W1 4 q tk s TL TA L A tl tc ta td l c m d H ar nm v lb)
    (hW1 : w.alloc (.cells #[.int .i64 4, .string s, .int .i64 q, .int .i64 tk, .slice TL tl tc, .slice TA ta td, .slice L l c, .slice A m d] 36) = W1) (hb1 : Below w.heap.size w W1) (hV : N = (nameOk 4 ar nm (s.toList == []) && (typeOk 4 v tk tl ta && (labOk 4 lb l && numOk 4 q)))) (hH : w.heap.size = H) :
    Calls Tryd.prog 26 #[.agg #[.int .i64 4, .string s, .int .i64 q, .int .i64 tk, .slice TL tl tc, .slice TA ta td, .slice L l c, .slice A m d]] w (Truth N w) := by
  subst hH
  rw [nameOk_op] at hV
  rw [typeOk_no (by decide)] at hV
  rw [labOk_no (by decide)] at hV
  have hM : mostN 4 = 0 := by decide
  unfold numOk at hV
  rw [hM] at hV
  have HV := Lib.hid hV
  have HR : Hid (∀ (b : Bool) W, b = N → Below W1.heap.size W1 W → Truth N w (.returned (.bool b)) W) := Lib.hid (fun b W hb hB => ⟨by rw [hb], hb1.trans (hB.mono hb1.size)⟩)
  have HB1 := Lib.hid hb1
  have HC := Lib.hid hc
  have HW1 := Lib.hid hW1
  have bx := hc.box W1 (Below.refl _ _)
  have x0 := bx.c0
  have x1 := bx.c1
  clear hc hW1 hb1 hV hM bx
  have HO := Lib.hid (HC.out.arity W1)
  by_cases a0 : ar = 0
  · subst a0
    go_enter Tryd.func26, Tryd.ntmps26
    go_wp2_with fail
    rw [HW1.out]
    go_wp2_with fail
    refine HO.out.mono ?_
    rintro e w2 ⟨rfl, hw2⟩
    rw [hw2]
    clear hw2
    have HF := Lib.hid (HR.out false W1 (by rw [HV.out]; rfl) (Below.refl _ _))
    go_wp2_with fail
    go_ret
    exact HF.out
  · have a1 : (ar == 0) = false := by simp [a0]
    rw [decide_eq_false a0] at HV
    go_enter Tryd.func26, Tryd.ntmps26
    go_wp2_with fail
    rw [HW1.out]
    go_wp2_with fail
    refine HO.out.mono ?_
    rintro e w2 ⟨rfl, hw2⟩
    rw [hw2]
    clear hw2
    clear HO a0
    have bx := HC.out.box W1 (Below.refl _ _)
    have z0 := bx.c0
    have z3 := bx.c3
    have z4 := bx.c4
    have z5 := bx.c5
    have HT := Lib.hid (HC.out.type W1 (Below.refl _ _))
    have HBW : Hid (Below W1.heap.size W1 W1) := Lib.hid (Below.refl _ _)
    clear bx
    go_wp2_with fail
    refine HT.out.mono ?_
    rintro e w4 ⟨rfl, hb4⟩
    have HB4 := Lib.hid (HBW.out.trans (hb4.mono HBW.out.size))
    have by4 := HC.out.box w4 HB4.out
    have y0 := by4.c0
    have y2 := by4.c2
    have y3 := by4.c3
    have y4 := by4.c4
    have y5 := by4.c5
    have y6 := by4.c6
    clear hb4 by4 z0 z3 z4 z5 HT
    cases v with
    | true =>
      have HF := Lib.hid (HR.out false w4 (by rw [HV.out]; rfl) HB4.out)
      go_wp2_with fail
      go_ret
      exact HF.out
    | false =>
      by_cases t0 : tk = 0
      · subst t0
        by_cases t1 : tl = 0
        · subst t1
          by_cases t2 : ta = 0
          · subst t2
            by_cases l0 : l = 0
            · subst l0
              have HIN := Lib.hid (HC.out.inside 0 w4)
              have HE : Hid (∀ b, b = (decide (0 ≤ q) && decide (q ≤ 0)) → Truth N w (.returned (.bool b)) w4) := Lib.hid (fun b hb => HR.out b w4 (by rw [hb, HV.out]; simp) HB4.out)
              generalize (decide (0 ≤ q) && decide (q ≤ 0)) = bb at HIN HE
              go_wp2_with fail
              refine HIN.out.mono ?_
              rintro e w6 ⟨rfl, hw6⟩
              have HF := Lib.hid (HE.out _ rfl)
              rw [← hw6] at HF
              clear hw6
              go_wp2_with fail
              go_ret
              exact HF.out
            · have u6 : (0 : Int) < (l : Int) := by omega
              have HF := Lib.hid (HR.out false w4 (by rw [HV.out]; simp [l0]) HB4.out)
              go_wp2_with fail
              go_ret
              exact HF.out
          · have u2 : (0 : Int) < (ta : Int) := by omega
            have HF := Lib.hid (HR.out false w4 (by rw [HV.out]; simp [t2]) HB4.out)
            go_wp2_with fail
            go_ret
            exact HF.out
        · have u1 : (0 : Int) < (tl : Int) := by omega
          have HF := Lib.hid (HR.out false w4 (by rw [HV.out]; simp [t1]) HB4.out)
          go_wp2_with fail
          go_ret
          exact HF.out
      · have u0 : (tk == 0) = false := by simp [t0]
        have HF := Lib.hid (HR.out false w4 (by rw [HV.out]; simp [t0]) HB4.out)
        go_wp2_with fail
        go_ret
        exact HF.out

end Go.Proofs.YthcfgpjldhiinaaDoor

/-
  The model's l7Fields, of a node of the class 'lam'. Written by mktefields.py.
-/
namespace Go.Proofs.YthcfgpjldhiinaaDoor
open Go.RowKit

set_option maxRecDepth 100000 in
set_option maxHeartbeats 3200000 in
theorem fields_lam {w W1 : World} {q tk : Int} {s : ByteArray} {TL TA L A : Option Addr} {tl tc ta td l c m d H : Nat} {ar : Int} {nm v lb N : Bool} (hc : FieldCalls W1 13 q tk s TL TA L A tl tc ta td l c m d H ar nm v lb)
    (hW1 : w.alloc (.cells #[.int .i64 13, .string s, .int .i64 q, .int .i64 tk, .slice TL tl tc, .slice TA ta td, .slice L l c, .slice A m d] 36) = W1) (hb1 : Below w.heap.size w W1) (hV : N = (nameOk 13 ar nm (s.toList == []) && (typeOk 13 v tk tl ta && (labOk 13 lb l && numOk 13 q)))) (hH : w.heap.size = H) :
    Calls Tryd.prog 26 #[.agg #[.int .i64 13, .string s, .int .i64 q, .int .i64 tk, .slice TL tl tc, .slice TA ta td, .slice L l c, .slice A m d]] w (Truth N w) := by
  subst hH
  rw [nameOk_named (by decide) (by decide)] at hV
  rw [typeOk_yes (by decide)] at hV
  rw [labOk_no (by decide)] at hV
  have hM : mostN 13 = 0 := by decide
  unfold numOk at hV
  rw [hM] at hV
  have HV := Lib.hid hV
  have HR : Hid (∀ (b : Bool) W, b = N → Below W1.heap.size W1 W → Truth N w (.returned (.bool b)) W) := Lib.hid (fun b W hb hB => ⟨by rw [hb], hb1.trans (hB.mono hb1.size)⟩)
  have HB1 := Lib.hid hb1
  have HC := Lib.hid hc
  have HW1 := Lib.hid hW1
  have bx := hc.box W1 (Below.refl _ _)
  have x0 := bx.c0
  have x1 := bx.c1
  have HNM : Hid (∀ W, Calls Tryd.prog 34 #[.int .i64 13] W (fun e w' => e = .returned (.bool true) ∧ w' = W)) := Lib.hid (fun W => by have h := hc.named W; rw [show nmB 13 = true by decide] at h; exact h)
  clear hc hW1 hb1 hV hM bx
  cases nm with
  | false =>
    go_enter Tryd.func26, Tryd.ntmps26
    go_wp2_with fail
    rw [HW1.out]
    go_wp2_with fail
    go_quiet (first | (go_at_call 34; exact Calls.quiet_of_same (HNM.out _)) | (go_at_call 35; exact Calls.quiet_of_same (HC.out.name _)))
    have HF := Lib.hid (HR.out false (W1.drewN nq) (by rw [HV.out]; rfl) (below_drewN (Below.refl _ _) nq))
    go_wp2_with fail
    go_ret
    exact HF.out
  | true =>
    go_enter Tryd.func26, Tryd.ntmps26
    go_wp2_with fail
    rw [HW1.out]
    go_wp2_with fail
    go_quiet (first | (go_at_call 34; exact Calls.quiet_of_same (HNM.out _)) | (go_at_call 35; exact Calls.quiet_of_same (HC.out.name _)))
    have bx := HC.out.box (W1.drewN nq) (below_drewN (Below.refl _ _) nq)
    have z0 := bx.c0
    have z3 := bx.c3
    have z4 := bx.c4
    have z5 := bx.c5
    have HT := Lib.hid (HC.out.type (W1.drewN nq) (below_drewN (Below.refl _ _) nq))
    have HBW : Hid (Below W1.heap.size W1 (W1.drewN nq)) := Lib.hid (below_drewN (Below.refl _ _) nq)
    clear bx
    go_wp2_with fail
    refine HT.out.mono ?_
    rintro e w4 ⟨rfl, hb4⟩
    have HB4 := Lib.hid (HBW.out.trans (hb4.mono HBW.out.size))
    have by4 := HC.out.box w4 HB4.out
    have y0 := by4.c0
    have y2 := by4.c2
    have y3 := by4.c3
    have y4 := by4.c4
    have y5 := by4.c5
    have y6 := by4.c6
    clear hb4 by4 z0 z3 z4 z5 HT
    cases v with
    | false =>
      have HF := Lib.hid (HR.out false w4 (by rw [HV.out]; rfl) HB4.out)
      go_wp2_with fail
      go_ret
      exact HF.out
    | true =>
      by_cases l0 : l = 0
      · subst l0
        have HIN := Lib.hid (HC.out.inside 0 w4)
        have HE : Hid (∀ b, b = (decide (0 ≤ q) && decide (q ≤ 0)) → Truth N w (.returned (.bool b)) w4) := Lib.hid (fun b hb => HR.out b w4 (by rw [hb, HV.out]; simp) HB4.out)
        generalize (decide (0 ≤ q) && decide (q ≤ 0)) = bb at HIN HE
        go_wp2_with fail
        refine HIN.out.mono ?_
        rintro e w6 ⟨rfl, hw6⟩
        have HF := Lib.hid (HE.out _ rfl)
        rw [← hw6] at HF
        clear hw6
        go_wp2_with fail
        go_ret
        exact HF.out
      · have u6 : (0 : Int) < (l : Int) := by omega
        have HF := Lib.hid (HR.out false w4 (by rw [HV.out]; simp [l0]) HB4.out)
        go_wp2_with fail
        go_ret
        exact HF.out

end Go.Proofs.YthcfgpjldhiinaaDoor
