/-
  Merged by program: TeFieldsEmp, TeFieldsRec, TeFieldsInt, TeFieldsBoo, TeFieldsNam.
-/
import Derived.Test.YtkchjinfjggoeaaGreatDoorF7

/-
  The model's l7Fields, of a node of the class 'emp'. Written by mktefields.py.
-/
namespace Go.Proofs.YtkchjinfjggoeaaGreatDoor
open Go.RowKit

set_option maxRecDepth 100000 in
set_option maxHeartbeats 3200000 in
theorem fields_emp {w W1 : World} {q tk : Int} {s : ByteArray} {TL TA L A : Option Addr} {tl tc ta td l c m d H : Nat} {ar : Int} {nm v lb N : Bool} (hc : FieldCalls W1 7 q tk s TL TA L A tl tc ta td l c m d H ar nm v lb)
    (hW1 : w.alloc (.cells #[.int .i64 7, .string s, .int .i64 q, .int .i64 tk, .slice TL tl tc, .slice TA ta td, .slice L l c, .slice A m d] 30) = W1) (hb1 : Below w.heap.size w W1) (hV : N = (nameOk 7 ar nm (s.toList == []) && (typeOk 7 v tk tl ta && (labOk 7 lb l && numOk 7 q)))) (hH : w.heap.size = H) :
    Calls Tryz.prog 74 #[.agg #[.int .i64 7, .string s, .int .i64 q, .int .i64 tk, .slice TL tl tc, .slice TA ta td, .slice L l c, .slice A m d]] w (Truth N w) := by
  subst hH
  rw [nameOk_un (by decide) (by decide)] at hV
  rw [typeOk_yes (by decide)] at hV
  rw [labOk_no (by decide)] at hV
  have hM : mostN 7 = 0 := by decide
  unfold numOk at hV
  rw [hM] at hV
  have HV := Lib.hid hV
  have HR : Hid (∀ (b : Bool) W, b = N → Below W1.heap.size W1 W → Truth N w (.returned (.bool b)) W) := Lib.hid (fun b W hb hB => ⟨by rw [hb], hb1.trans (hB.mono hb1.size)⟩)
  have HB1 := Lib.hid hb1
  have HC := Lib.hid hc
  have HW1 := Lib.hid hW1
  have bx := hc.box W1 (Below.refl _ _)
  have x0 := bx.c0
  have x1 := bx.c1
  have HNM : Hid (∀ W, Calls Tryz.prog 115 #[.int .i64 7] W (fun e w' => e = .returned (.bool false) ∧ w' = W)) := Lib.hid (fun W => by have h := hc.named W; rw [show nmB 7 = false by decide] at h; exact h)
  clear hc hW1 hb1 hV hM bx
  cases nm with
  | true =>
    go_enter Tryz.func74, Tryz.ntmps74
    go_wp2_with fail
    rw [HW1.out]
    go_wp2_with fail
    go_quiet (first | (go_at_call 115; exact Calls.quiet_of_same (HNM.out _)) | (go_at_call 116; exact Calls.quiet_of_same (HC.out.name _)))
    have HF := Lib.hid (HR.out false (W1.drewN nq) (by rw [HV.out]; rfl) (below_drewN (Below.refl _ _) nq))
    go_wp2_with fail
    go_ret
    exact HF.out
  | false =>
    cases nz : (s.toList == []) with
    | false =>
      rw [nz] at HV
      go_enter Tryz.func74, Tryz.ntmps74
      go_wp2_with fail
      rw [HW1.out]
      go_wp2_with fail
      go_quiet (first | (go_at_call 115; exact Calls.quiet_of_same (HNM.out _)) | (go_at_call 116; exact Calls.quiet_of_same (HC.out.name _)))
      have HF := Lib.hid (HR.out false (W1.drewN nq) (by rw [HV.out]; rfl) (below_drewN (Below.refl _ _) nq))
      go_wp2_with fail
      go_ret
      exact HF.out
    | true =>
      rw [nz] at HV
      go_enter Tryz.func74, Tryz.ntmps74
      go_wp2_with fail
      rw [HW1.out]
      go_wp2_with fail
      go_quiet (first | (go_at_call 115; exact Calls.quiet_of_same (HNM.out _)) | (go_at_call 116; exact Calls.quiet_of_same (HC.out.name _)))
      have bx := HC.out.box (W1.drewN nq) (below_drewN (Below.refl _ _) nq)
      have z0 := bx.c0
      have z3 := bx.c3
      have z4 := bx.c4
      have z5 := bx.c5
      have HT := Lib.hid (HC.out.type (W1.drewN nq) (below_drewN (Below.refl _ _) nq))
      have HBW : Hid (Below W1.heap.size W1 (W1.drewN nq)) := Lib.hid (below_drewN (Below.refl _ _) nq)
      clear bx
      go_wp2_with fail
      refine HT.out.mono ?_
      rintro e w4 ⟨rfl, hb4⟩
      have HB4 := Lib.hid (HBW.out.trans (hb4.mono HBW.out.size))
      have by4 := HC.out.box w4 HB4.out
      have y0 := by4.c0
      have y2 := by4.c2
      have y3 := by4.c3
      have y4 := by4.c4
      have y5 := by4.c5
      have y6 := by4.c6
      clear hb4 by4 z0 z3 z4 z5 HT
      cases v with
      | false =>
        have HF := Lib.hid (HR.out false w4 (by rw [HV.out]; rfl) HB4.out)
        go_wp2_with fail
        go_ret
        exact HF.out
      | true =>
        by_cases l0 : l = 0
        · subst l0
          have HIN := Lib.hid (HC.out.inside 0 w4)
          have HE : Hid (∀ b, b = (decide (0 ≤ q) && decide (q ≤ 0)) → Truth N w (.returned (.bool b)) w4) := Lib.hid (fun b hb => HR.out b w4 (by rw [hb, HV.out]; simp) HB4.out)
          generalize (decide (0 ≤ q) && decide (q ≤ 0)) = bb at HIN HE
          go_wp2_with fail
          refine HIN.out.mono ?_
          rintro e w6 ⟨rfl, hw6⟩
          have HF := Lib.hid (HE.out _ rfl)
          rw [← hw6] at HF
          clear hw6
          go_wp2_with fail
          go_ret
          exact HF.out
        · have u6 : (0 : Int) < (l : Int) := by omega
          have HF := Lib.hid (HR.out false w4 (by rw [HV.out]; simp [l0]) HB4.out)
          go_wp2_with fail
          go_ret
          exact HF.out

end Go.Proofs.YtkchjinfjggoeaaGreatDoor

/-
  The model's l7Fields, of a node of the class 'rec'. Written by mktefields.py.
-/
namespace Go.Proofs.YtkchjinfjggoeaaGreatDoor
open Go.RowKit

set_option maxRecDepth 100000 in
set_option maxHeartbeats 3200000 in
theorem fields_rec {w W1 : World} {q tk : Int} {s : ByteArray} {TL TA L A : Option Addr} {tl tc ta td l c m d H : Nat} {ar : Int} {nm v lb N : Bool} (hc : FieldCalls W1 5 q tk s TL TA L A tl tc ta td l c m d H ar nm v lb)
    (hW1 : w.alloc (.cells #[.int .i64 5, .string s, .int .i64 q, .int .i64 tk, .slice TL tl tc, .slice TA ta td, .slice L l c, .slice A m d] 30) = W1) (hb1 : Below w.heap.size w W1) (hV : N = (nameOk 5 ar nm (s.toList == []) && (typeOk 5 v tk tl ta && (labOk 5 lb l && numOk 5 q)))) (hH : w.heap.size = H) :
    Calls Tryz.prog 74 #[.agg #[.int .i64 5, .string s, .int .i64 q, .int .i64 tk, .slice TL tl tc, .slice TA ta td, .slice L l c, .slice A m d]] w (Truth N w) := by
  subst hH
  rw [nameOk_un (by decide) (by decide)] at hV
  rw [typeOk_no (by decide)] at hV
  rw [labOk_rec] at hV
  have hM : mostN 5 = 0 := by decide
  unfold numOk at hV
  rw [hM] at hV
  have HV := Lib.hid hV
  have HR : Hid (∀ (b : Bool) W, b = N → Below W1.heap.size W1 W → Truth N w (.returned (.bool b)) W) := Lib.hid (fun b W hb hB => ⟨by rw [hb], hb1.trans (hB.mono hb1.size)⟩)
  have HB1 := Lib.hid hb1
  have HC := Lib.hid hc
  have HW1 := Lib.hid hW1
  have bx := hc.box W1 (Below.refl _ _)
  have x0 := bx.c0
  have x1 := bx.c1
  have HNM : Hid (∀ W, Calls Tryz.prog 115 #[.int .i64 5] W (fun e w' => e = .returned (.bool false) ∧ w' = W)) := Lib.hid (fun W => by have h := hc.named W; rw [show nmB 5 = false by decide] at h; exact h)
  clear hc hW1 hb1 hV hM bx
  cases nm with
  | true =>
    go_enter Tryz.func74, Tryz.ntmps74
    go_wp2_with fail
    rw [HW1.out]
    go_wp2_with fail
    go_quiet (first | (go_at_call 115; exact Calls.quiet_of_same (HNM.out _)) | (go_at_call 116; exact Calls.quiet_of_same (HC.out.name _)))
    have HF := Lib.hid (HR.out false (W1.drewN nq) (by rw [HV.out]; rfl) (below_drewN (Below.refl _ _) nq))
    go_wp2_with fail
    go_ret
    exact HF.out
  | false =>
    cases nz : (s.toList == []) with
    | false =>
      rw [nz] at HV
      go_enter Tryz.func74, Tryz.ntmps74
      go_wp2_with fail
      rw [HW1.out]
      go_wp2_with fail
      go_quiet (first | (go_at_call 115; exact Calls.quiet_of_same (HNM.out _)) | (go_at_call 116; exact Calls.quiet_of_same (HC.out.name _)))
      have HF := Lib.hid (HR.out false (W1.drewN nq) (by rw [HV.out]; rfl) (below_drewN (Below.refl _ _) nq))
      go_wp2_with fail
      go_ret
      exact HF.out
    | true =>
      rw [nz] at HV
      go_enter Tryz.func74, Tryz.ntmps74
      go_wp2_with fail
      rw [HW1.out]
      go_wp2_with fail
      go_quiet (first | (go_at_call 115; exact Calls.quiet_of_same (HNM.out _)) | (go_at_call 116; exact Calls.quiet_of_same (HC.out.name _)))
      have bx := HC.out.box (W1.drewN nq) (below_drewN (Below.refl _ _) nq)
      have z0 := bx.c0
      have z3 := bx.c3
      have z4 := bx.c4
      have z5 := bx.c5
      have HT := Lib.hid (HC.out.type (W1.drewN nq) (below_drewN (Below.refl _ _) nq))
      have HBW : Hid (Below W1.heap.size W1 (W1.drewN nq)) := Lib.hid (below_drewN (Below.refl _ _) nq)
      clear bx
      go_wp2_with fail
      refine HT.out.mono ?_
      rintro e w4 ⟨rfl, hb4⟩
      have HB4 := Lib.hid (HBW.out.trans (hb4.mono HBW.out.size))
      have by4 := HC.out.box w4 HB4.out
      have y0 := by4.c0
      have y2 := by4.c2
      have y3 := by4.c3
      have y4 := by4.c4
      have y5 := by4.c5
      have y6 := by4.c6
      clear hb4 by4 z0 z3 z4 z5 HT
      cases v with
      | true =>
        have HF := Lib.hid (HR.out false w4 (by rw [HV.out]; rfl) HB4.out)
        go_wp2_with fail
        go_ret
        exact HF.out
      | false =>
        by_cases t0 : tk = 0
        · subst t0
          by_cases t1 : tl = 0
          · subst t1
            by_cases t2 : ta = 0
            · subst t2
              have HL := Lib.hid (HC.out.labels w4 HB4.out)
              go_wp2_with fail
              refine HL.out.mono ?_
              rintro e w5 ⟨rfl, hb5⟩
              have HB5 := Lib.hid (HB4.out.trans (hb5.mono HB4.out.size))
              have by5 := HC.out.box w5 HB5.out
              have v0 := by5.c0
              have v2 := by5.c2
              clear hb5 by5 y0 y2 y3 y4 y5 y6
              cases lb with
              | false =>
                have HF := Lib.hid (HR.out false w5 (by rw [HV.out]; rfl) HB5.out)
                go_wp2_with fail
                go_ret
                exact HF.out
              | true =>
                have HIN := Lib.hid (HC.out.inside 0 w5)
                have HE : Hid (∀ b, b = (decide (0 ≤ q) && decide (q ≤ 0)) → Truth N w (.returned (.bool b)) w5) := Lib.hid (fun b hb => HR.out b w5 (by rw [hb, HV.out]; simp) HB5.out)
                generalize (decide (0 ≤ q) && decide (q ≤ 0)) = bb at HIN HE
                go_wp2_with fail
                refine HIN.out.mono ?_
                rintro e w6 ⟨rfl, hw6⟩
                have HF := Lib.hid (HE.out _ rfl)
                rw [← hw6] at HF
                clear hw6
                go_wp2_with fail
                go_ret
                exact HF.out
            · have u2 : (0 : Int) < (ta : Int) := by omega
              have HF := Lib.hid (HR.out false w4 (by rw [HV.out]; simp [t2]) HB4.out)
              go_wp2_with fail
              go_ret
              exact HF.out
          · have u1 : (0 : Int) < (tl : Int) := by omega
            have HF := Lib.hid (HR.out false w4 (by rw [HV.out]; simp [t1]) HB4.out)
            go_wp2_with fail
            go_ret
            exact HF.out
        · have u0 : (tk == 0) = false := by simp [t0]
          have HF := Lib.hid (HR.out false w4 (by rw [HV.out]; simp [t0]) HB4.out)
          go_wp2_with fail
          go_ret
          exact HF.out

end Go.Proofs.YtkchjinfjggoeaaGreatDoor

/-
  The model's l7Fields, of a node of the class 'int'. Written by mktefields.py.
-/
namespace Go.Proofs.YtkchjinfjggoeaaGreatDoor
open Go.RowKit

set_option maxRecDepth 100000 in
set_option maxHeartbeats 3200000 in
theorem fields_int {w W1 : World} {q tk : Int} {s : ByteArray} {TL TA L A : Option Addr} {tl tc ta td l c m d H : Nat} {ar : Int} {nm v lb N : Bool} (hc : FieldCalls W1 2 q tk s TL TA L A tl tc ta td l c m d H ar nm v lb)
    (hW1 : w.alloc (.cells #[.int .i64 2, .string s, .int .i64 q, .int .i64 tk, .slice TL tl tc, .slice TA ta td, .slice L l c, .slice A m d] 30) = W1) (hb1 : Below w.heap.size w W1) (hV : N = (nameOk 2 ar nm (s.toList == []) && (typeOk 2 v tk tl ta && (labOk 2 lb l && numOk 2 q)))) (hH : w.heap.size = H) :
    Calls Tryz.prog 74 #[.agg #[.int .i64 2, .string s, .int .i64 q, .int .i64 tk, .slice TL tl tc, .slice TA ta td, .slice L l c, .slice A m d]] w (Truth N w) := by
  subst hH
  rw [nameOk_un (by decide) (by decide)] at hV
  rw [typeOk_no (by decide)] at hV
  rw [labOk_no (by decide)] at hV
  have hM : mostN 2 = 999 := by decide
  unfold numOk at hV
  rw [hM] at hV
  have HV := Lib.hid hV
  have HR : Hid (∀ (b : Bool) W, b = N → Below W1.heap.size W1 W → Truth N w (.returned (.bool b)) W) := Lib.hid (fun b W hb hB => ⟨by rw [hb], hb1.trans (hB.mono hb1.size)⟩)
  have HB1 := Lib.hid hb1
  have HC := Lib.hid hc
  have HW1 := Lib.hid hW1
  have bx := hc.box W1 (Below.refl _ _)
  have x0 := bx.c0
  have x1 := bx.c1
  have HNM : Hid (∀ W, Calls Tryz.prog 115 #[.int .i64 2] W (fun e w' => e = .returned (.bool false) ∧ w' = W)) := Lib.hid (fun W => by have h := hc.named W; rw [show nmB 2 = false by decide] at h; exact h)
  clear hc hW1 hb1 hV hM bx
  cases nm with
  | true =>
    go_enter Tryz.func74, Tryz.ntmps74
    go_wp2_with fail
    rw [HW1.out]
    go_wp2_with fail
    go_quiet (first | (go_at_call 115; exact Calls.quiet_of_same (HNM.out _)) | (go_at_call 116; exact Calls.quiet_of_same (HC.out.name _)))
    have HF := Lib.hid (HR.out false (W1.drewN nq) (by rw [HV.out]; rfl) (below_drewN (Below.refl _ _) nq))
    go_wp2_with fail
    go_ret
    exact HF.out
  | false =>
    cases nz : (s.toList == []) with
    | false =>
      rw [nz] at HV
      go_enter Tryz.func74, Tryz.ntmps74
      go_wp2_with fail
      rw [HW1.out]
      go_wp2_with fail
      go_quiet (first | (go_at_call 115; exact Calls.quiet_of_same (HNM.out _)) | (go_at_call 116; exact Calls.quiet_of_same (HC.out.name _)))
      have HF := Lib.hid (HR.out false (W1.drewN nq) (by rw [HV.out]; rfl) (below_drewN (Below.refl _ _) nq))
      go_wp2_with fail
      go_ret
      exact HF.out
    | true =>
      rw [nz] at HV
      go_enter Tryz.func74, Tryz.ntmps74
      go_wp2_with fail
      rw [HW1.out]
      go_wp2_with fail
      go_quiet (first | (go_at_call 115; exact Calls.quiet_of_same (HNM.out _)) | (go_at_call 116; exact Calls.quiet_of_same (HC.out.name _)))
      have bx := HC.out.box (W1.drewN nq) (below_drewN (Below.refl _ _) nq)
      have z0 := bx.c0
      have z3 := bx.c3
      have z4 := bx.c4
      have z5 := bx.c5
      have HT := Lib.hid (HC.out.type (W1.drewN nq) (below_drewN (Below.refl _ _) nq))
      have HBW : Hid (Below W1.heap.size W1 (W1.drewN nq)) := Lib.hid (below_drewN (Below.refl _ _) nq)
      clear bx
      go_wp2_with fail
      refine HT.out.mono ?_
      rintro e w4 ⟨rfl, hb4⟩
      have HB4 := Lib.hid (HBW.out.trans (hb4.mono HBW.out.size))
      have by4 := HC.out.box w4 HB4.out
      have y0 := by4.c0
      have y2 := by4.c2
      have y3 := by4.c3
      have y4 := by4.c4
      have y5 := by4.c5
      have y6 := by4.c6
      clear hb4 by4 z0 z3 z4 z5 HT
      cases v with
      | true =>
        have HF := Lib.hid (HR.out false w4 (by rw [HV.out]; rfl) HB4.out)
        go_wp2_with fail
        go_ret
        exact HF.out
      | false =>
        by_cases t0 : tk = 0
        · subst t0
          by_cases t1 : tl = 0
          · subst t1
            by_cases t2 : ta = 0
            · subst t2
              by_cases l0 : l = 0
              · subst l0
                have HIN := Lib.hid (HC.out.inside 999 w4)
                have HE : Hid (∀ b, b = (decide (0 ≤ q) && decide (q ≤ 999)) → Truth N w (.returned (.bool b)) w4) := Lib.hid (fun b hb => HR.out b w4 (by rw [hb, HV.out]; simp) HB4.out)
                generalize (decide (0 ≤ q) && decide (q ≤ 999)) = bb at HIN HE
                go_wp2_with fail
                refine HIN.out.mono ?_
                rintro e w6 ⟨rfl, hw6⟩
                have HF := Lib.hid (HE.out _ rfl)
                rw [← hw6] at HF
                clear hw6
                go_wp2_with fail
                go_ret
                exact HF.out
              · have u6 : (0 : Int) < (l : Int) := by omega
                have HF := Lib.hid (HR.out false w4 (by rw [HV.out]; simp [l0]) HB4.out)
                go_wp2_with fail
                go_ret
                exact HF.out
            · have u2 : (0 : Int) < (ta : Int) := by omega
              have HF := Lib.hid (HR.out false w4 (by rw [HV.out]; simp [t2]) HB4.out)
              go_wp2_with fail
              go_ret
              exact HF.out
          · have u1 : (0 : Int) < (tl : Int) := by omega
            have HF := Lib.hid (HR.out false w4 (by rw [HV.out]; simp [t1]) HB4.out)
            go_wp2_with fail
            go_ret
            exact HF.out
        · have u0 : (tk == 0) = false := by simp [t0]
          have HF := Lib.hid (HR.out false w4 (by rw [HV.out]; simp [t0]) HB4.out)
          go_wp2_with fail
          go_ret
          exact HF.out

end Go.Proofs.YtkchjinfjggoeaaGreatDoor

/-
  The model's l7Fields, of a node of the class 'boo'. Written by mktefields.py.
-/
namespace Go.Proofs.YtkchjinfjggoeaaGreatDoor
open Go.RowKit

set_option maxRecDepth 100000 in
set_option maxHeartbeats 3200000 in
theorem fields_boo {w W1 : World} {q tk : Int} {s : ByteArray} {TL TA L A : Option Addr} {tl tc ta td l c m d H : Nat} {ar : Int} {nm v lb N : Bool} (hc : FieldCalls W1 3 q tk s TL TA L A tl tc ta td l c m d H ar nm v lb)
    (hW1 : w.alloc (.cells #[.int .i64 3, .string s, .int .i64 q, .int .i64 tk, .slice TL tl tc, .slice TA ta td, .slice L l c, .slice A m d] 30) = W1) (hb1 : Below w.heap.size w W1) (hV : N = (nameOk 3 ar nm (s.toList == []) && (typeOk 3 v tk tl ta && (labOk 3 lb l && numOk 3 q)))) (hH : w.heap.size = H) :
    Calls Tryz.prog 74 #[.agg #[.int .i64 3, .string s, .int .i64 q, .int .i64 tk, .slice TL tl tc, .slice TA ta td, .slice L l c, .slice A m d]] w (Truth N w) := by
  subst hH
  rw [nameOk_un (by decide) (by decide)] at hV
  rw [typeOk_no (by decide)] at hV
  rw [labOk_no (by decide)] at hV
  have hM : mostN 3 = 1 := by decide
  unfold numOk at hV
  rw [hM] at hV
  have HV := Lib.hid hV
  have HR : Hid (∀ (b : Bool) W, b = N → Below W1.heap.size W1 W → Truth N w (.returned (.bool b)) W) := Lib.hid (fun b W hb hB => ⟨by rw [hb], hb1.trans (hB.mono hb1.size)⟩)
  have HB1 := Lib.hid hb1
  have HC := Lib.hid hc
  have HW1 := Lib.hid hW1
  have bx := hc.box W1 (Below.refl _ _)
  have x0 := bx.c0
  have x1 := bx.c1
  have HNM : Hid (∀ W, Calls Tryz.prog 115 #[.int .i64 3] W (fun e w' => e = .returned (.bool false) ∧ w' = W)) := Lib.hid (fun W => by have h := hc.named W; rw [show nmB 3 = false by decide] at h; exact h)
  clear hc hW1 hb1 hV hM bx
  cases nm with
  | true =>
    go_enter Tryz.func74, Tryz.ntmps74
    go_wp2_with fail
    rw [HW1.out]
    go_wp2_with fail
    go_quiet (first | (go_at_call 115; exact Calls.quiet_of_same (HNM.out _)) | (go_at_call 116; exact Calls.quiet_of_same (HC.out.name _)))
    have HF := Lib.hid (HR.out false (W1.drewN nq) (by rw [HV.out]; rfl) (below_drewN (Below.refl _ _) nq))
    go_wp2_with fail
    go_ret
    exact HF.out
  | false =>
    cases nz : (s.toList == []) with
    | false =>
      rw [nz] at HV
      go_enter Tryz.func74, Tryz.ntmps74
      go_wp2_with fail
      rw [HW1.out]
      go_wp2_with fail
      go_quiet (first | (go_at_call 115; exact Calls.quiet_of_same (HNM.out _)) | (go_at_call 116; exact Calls.quiet_of_same (HC.out.name _)))
      have HF := Lib.hid (HR.out false (W1.drewN nq) (by rw [HV.out]; rfl) (below_drewN (Below.refl _ _) nq))
      go_wp2_with fail
      go_ret
      exact HF.out
    | true =>
      rw [nz] at HV
      go_enter Tryz.func74, Tryz.ntmps74
      go_wp2_with fail
      rw [HW1.out]
      go_wp2_with fail
      go_quiet (first | (go_at_call 115; exact Calls.quiet_of_same (HNM.out _)) | (go_at_call 116; exact Calls.quiet_of_same (HC.out.name _)))
      have bx := HC.out.box (W1.drewN nq) (below_drewN (Below.refl _ _) nq)
      have z0 := bx.c0
      have z3 := bx.c3
      have z4 := bx.c4
      have z5 := bx.c5
      have HT := Lib.hid (HC.out.type (W1.drewN nq) (below_drewN (Below.refl _ _) nq))
      have HBW : Hid (Below W1.heap.size W1 (W1.drewN nq)) := Lib.hid (below_drewN (Below.refl _ _) nq)
      clear bx
      go_wp2_with fail
      refine HT.out.mono ?_
      rintro e w4 ⟨rfl, hb4⟩
      have HB4 := Lib.hid (HBW.out.trans (hb4.mono HBW.out.size))
      have by4 := HC.out.box w4 HB4.out
      have y0 := by4.c0
      have y2 := by4.c2
      have y3 := by4.c3
      have y4 := by4.c4
      have y5 := by4.c5
      have y6 := by4.c6
      clear hb4 by4 z0 z3 z4 z5 HT
      cases v with
      | true =>
        have HF := Lib.hid (HR.out false w4 (by rw [HV.out]; rfl) HB4.out)
        go_wp2_with fail
        go_ret
        exact HF.out
      | false =>
        by_cases t0 : tk = 0
        · subst t0
          by_cases t1 : tl = 0
          · subst t1
            by_cases t2 : ta = 0
            · subst t2
              by_cases l0 : l = 0
              · subst l0
                have HIN := Lib.hid (HC.out.inside 1 w4)
                have HE : Hid (∀ b, b = (decide (0 ≤ q) && decide (q ≤ 1)) → Truth N w (.returned (.bool b)) w4) := Lib.hid (fun b hb => HR.out b w4 (by rw [hb, HV.out]; simp) HB4.out)
                generalize (decide (0 ≤ q) && decide (q ≤ 1)) = bb at HIN HE
                go_wp2_with fail
                refine HIN.out.mono ?_
                rintro e w6 ⟨rfl, hw6⟩
                have HF := Lib.hid (HE.out _ rfl)
                rw [← hw6] at HF
                clear hw6
                go_wp2_with fail
                go_ret
                exact HF.out
              · have u6 : (0 : Int) < (l : Int) := by omega
                have HF := Lib.hid (HR.out false w4 (by rw [HV.out]; simp [l0]) HB4.out)
                go_wp2_with fail
                go_ret
                exact HF.out
            · have u2 : (0 : Int) < (ta : Int) := by omega
              have HF := Lib.hid (HR.out false w4 (by rw [HV.out]; simp [t2]) HB4.out)
              go_wp2_with fail
              go_ret
              exact HF.out
          · have u1 : (0 : Int) < (tl : Int) := by omega
            have HF := Lib.hid (HR.out false w4 (by rw [HV.out]; simp [t1]) HB4.out)
            go_wp2_with fail
            go_ret
            exact HF.out
        · have u0 : (tk == 0) = false := by simp [t0]
          have HF := Lib.hid (HR.out false w4 (by rw [HV.out]; simp [t0]) HB4.out)
          go_wp2_with fail
          go_ret
          exact HF.out

end Go.Proofs.YtkchjinfjggoeaaGreatDoor

/-
  The model's l7Fields, of a node of the class 'nam'. Written by mktefields.py.
-/
namespace Go.Proofs.YtkchjinfjggoeaaGreatDoor
open Go.RowKit

set_option maxRecDepth 100000 in
set_option maxHeartbeats 3200000 in
theorem fields_nam {w W1 : World} {p q tk : Int} {s : ByteArray} {TL TA L A : Option Addr} {tl tc ta td l c m d H : Nat} {ar : Int} {nm v lb N : Bool} (hc : FieldCalls W1 p q tk s TL TA L A tl tc ta td l c m d H ar nm v lb)
    (hW1 : w.alloc (.cells #[.int .i64 p, .string s, .int .i64 q, .int .i64 tk, .slice TL tl tc, .slice TA ta td, .slice L l c, .slice A m d] 30) = W1) (hb1 : Below w.heap.size w W1) (hV : N = (nameOk p ar nm (s.toList == []) && (typeOk p v tk tl ta && (labOk p lb l && numOk p q)))) (hnm : nmB p = true) (h4 : p ≠ 4) (h7 : p ≠ 7) (h13 : p ≠ 13) (h5 : p ≠ 5) (h2 : p ≠ 2) (h3 : p ≠ 3) (hH : w.heap.size = H) :
    Calls Tryz.prog 74 #[.agg #[.int .i64 p, .string s, .int .i64 q, .int .i64 tk, .slice TL tl tc, .slice TA ta td, .slice L l c, .slice A m d]] w (Truth N w) := by
  subst hH
  rw [nameOk_named (hnm) (h4)] at hV
  rw [typeOk_no (by unfold tyB; simp [h7, h13])] at hV
  rw [labOk_no (h5)] at hV
  have hM : mostN p = 0 := by unfold mostN; rw [if_neg h2, if_neg h3]
  unfold numOk at hV
  rw [hM] at hV
  have HV := Lib.hid hV
  have HR : Hid (∀ (b : Bool) W, b = N → Below W1.heap.size W1 W → Truth N w (.returned (.bool b)) W) := Lib.hid (fun b W hb hB => ⟨by rw [hb], hb1.trans (hB.mono hb1.size)⟩)
  have HB1 := Lib.hid hb1
  have HC := Lib.hid hc
  have HW1 := Lib.hid hW1
  have bx := hc.box W1 (Below.refl _ _)
  have x0 := bx.c0
  have x1 := bx.c1
  have HNM : Hid (∀ W, Calls Tryz.prog 115 #[.int .i64 p] W (fun e w' => e = .returned (.bool true) ∧ w' = W)) := Lib.hid (fun W => by have h := hc.named W; rw [hnm] at h; exact h)
  have g5 : ¬ p = 5 := h5
  have n5 : (p != 5) = true := by simp [h5]
  have f4 : (p == 4) = false := by simp [h4]
  have f7 : (p == 7) = false := by simp [h7]
  have f13 : (p == 13) = false := by simp [h13]
  have f5 : (p == 5) = false := by simp [h5]
  have f2 : (p == 2) = false := by simp [h2]
  have f3 : (p == 3) = false := by simp [h3]
  clear hc hW1 hb1 hV hM bx hnm h4 h7 h13 h5 h2 h3
  cases nm with
  | false =>
    go_enter Tryz.func74, Tryz.ntmps74
    go_wp2_with fail
    rw [HW1.out]
    go_wp2_with fail
    go_quiet (first | (go_at_call 115; exact Calls.quiet_of_same (HNM.out _)) | (go_at_call 116; exact Calls.quiet_of_same (HC.out.name _)))
    have HF := Lib.hid (HR.out false (W1.drewN nq) (by rw [HV.out]; rfl) (below_drewN (Below.refl _ _) nq))
    go_wp2_with fail
    go_ret
    exact HF.out
  | true =>
    go_enter Tryz.func74, Tryz.ntmps74
    go_wp2_with fail
    rw [HW1.out]
    go_wp2_with fail
    go_quiet (first | (go_at_call 115; exact Calls.quiet_of_same (HNM.out _)) | (go_at_call 116; exact Calls.quiet_of_same (HC.out.name _)))
    have bx := HC.out.box (W1.drewN nq) (below_drewN (Below.refl _ _) nq)
    have z0 := bx.c0
    have z3 := bx.c3
    have z4 := bx.c4
    have z5 := bx.c5
    have HT := Lib.hid (HC.out.type (W1.drewN nq) (below_drewN (Below.refl _ _) nq))
    have HBW : Hid (Below W1.heap.size W1 (W1.drewN nq)) := Lib.hid (below_drewN (Below.refl _ _) nq)
    clear bx
    go_wp2_with fail
    refine HT.out.mono ?_
    rintro e w4 ⟨rfl, hb4⟩
    have HB4 := Lib.hid (HBW.out.trans (hb4.mono HBW.out.size))
    have by4 := HC.out.box w4 HB4.out
    have y0 := by4.c0
    have y2 := by4.c2
    have y3 := by4.c3
    have y4 := by4.c4
    have y5 := by4.c5
    have y6 := by4.c6
    clear hb4 by4 z0 z3 z4 z5 HT
    cases v with
    | true =>
      have HF := Lib.hid (HR.out false w4 (by rw [HV.out]; rfl) HB4.out)
      go_wp2_with fail
      go_ret
      exact HF.out
    | false =>
      by_cases t0 : tk = 0
      · subst t0
        by_cases t1 : tl = 0
        · subst t1
          by_cases t2 : ta = 0
          · subst t2
            by_cases l0 : l = 0
            · subst l0
              have HIN := Lib.hid (HC.out.inside 0 w4)
              have HE : Hid (∀ b, b = (decide (0 ≤ q) && decide (q ≤ 0)) → Truth N w (.returned (.bool b)) w4) := Lib.hid (fun b hb => HR.out b w4 (by rw [hb, HV.out]; simp) HB4.out)
              generalize (decide (0 ≤ q) && decide (q ≤ 0)) = bb at HIN HE
              go_wp2_with fail
              refine HIN.out.mono ?_
              rintro e w6 ⟨rfl, hw6⟩
              have HF := Lib.hid (HE.out _ rfl)
              rw [← hw6] at HF
              clear hw6
              go_wp2_with fail
              go_ret
              exact HF.out
            · have u6 : (0 : Int) < (l : Int) := by omega
              have HF := Lib.hid (HR.out false w4 (by rw [HV.out]; simp [l0]) HB4.out)
              go_wp2_with fail
              go_ret
              exact HF.out
          · have u2 : (0 : Int) < (ta : Int) := by omega
            have HF := Lib.hid (HR.out false w4 (by rw [HV.out]; simp [t2]) HB4.out)
            go_wp2_with fail
            go_ret
            exact HF.out
        · have u1 : (0 : Int) < (tl : Int) := by omega
          have HF := Lib.hid (HR.out false w4 (by rw [HV.out]; simp [t1]) HB4.out)
          go_wp2_with fail
          go_ret
          exact HF.out
      · have u0 : (tk == 0) = false := by simp [t0]
        have HF := Lib.hid (HR.out false w4 (by rw [HV.out]; simp [t0]) HB4.out)
        go_wp2_with fail
        go_ret
        exact HF.out

end Go.Proofs.YtkchjinfjggoeaaGreatDoor
