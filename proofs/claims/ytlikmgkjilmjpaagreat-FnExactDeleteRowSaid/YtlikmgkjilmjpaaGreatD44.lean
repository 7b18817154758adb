/-
  Merged by program: DelLaw.
-/
import Derived.Test.YtlikmgkjilmjpaaGreatD14
import Derived.Test.YtlikmgkjilmjpaaGreatD15
import Derived.Test.YtlikmgkjilmjpaaGreatD16
import Derived.Test.YtlikmgkjilmjpaaGreatD30
import Derived.Test.YtlikmgkjilmjpaaGreatD43
import Derived.Deep.RegionHeld3

/-
  The walk of laws.FnExactDeleteRow. Written by genex.py.
-/
namespace Go.Proofs.YtlikmgkjilmjpaaGreat
open Go.RowKit

def delMadeA0 (t : Sc) (y0_0 : Nat) (w : World) (e : Ending) (w' : World) : Prop :=
  ∃ (A : Option Addr) (d : Nat) (fp : List Nat), e = .returned (.agg #[.slice A y0_0 d]) ∧ OSc w' t [.slice A y0_0 d] fp ∧ (∀ b ∈ fp, w.heap.size ≤ b ∧ b < w'.heap.size) ∧ Below w.heap.size w w'
def delMadeA1 (t : Db) (y1_0 : Nat) (w : World) (e : Ending) (w' : World) : Prop :=
  ∃ (A : Option Addr) (d : Nat) (fp : List Nat), e = .returned (.agg #[.slice A y1_0 d]) ∧ ODb w' t [.slice A y1_0 d] fp ∧ (∀ b ∈ fp, w.heap.size ≤ b ∧ b < w'.heap.size) ∧ Below w.heap.size w w'
def delMadeR (F : Db) (f0 : Nat) (fb : Bool) (w : World) (e : Ending) (w' : World) : Prop :=
  ∃ (A : Option Addr) (d : Nat) (fp : List Nat), e = .returned (.tuple #[.agg #[.slice A f0 d], .bool fb]) ∧ ODb w' F [.slice A f0 d] fp ∧ (∀ b ∈ fp, w.heap.size ≤ b ∧ b < w'.heap.size) ∧ Below w.heap.size w w'
/-- a database in new memory, and a truth -/
def delMadeB (p : Db × Bool) (w : World) (e : Ending) (w' : World) : Prop :=
  ∃ (A : Option Addr) (d : Nat) (fp : List Nat), e = .returned (.tuple #[.agg #[.slice A p.1.length d], .bool p.2]) ∧ ODb w' p.1 [.slice A p.1.length d] fp ∧ (∀ b ∈ fp, w.heap.size ≤ b ∧ b < w'.heap.size) ∧ Below w.heap.size w w'
theorem del_madeR {p : Db × Bool} {w : World} {e : Ending} {w' : World} (h : delMadeB p w e w') : delMadeR p.1 (p.1.length) p.2 w e w' := h
/-- a region, cut off by what it leaves -/
theorem del_cut {c : Code} {Q : Exit → Act → World → Prop} {a : Act} {w : World} (f : Nat → Option Addr → Nat → Option Addr → Nat → Option Addr → Nat → Act) (R : Nat → Option Addr → Nat → Option Addr → Nat → Option Addr → Nat → List Nat → World → Prop) (hq : ∀ (v0 : Nat) (v1 : Option Addr) (v2 : Nat) (v3 : Option Addr) (v4 : Nat) (v5 : Option Addr) (v6 : Nat) (fp : List Nat) (w' : World), R v0 v1 v2 v3 v4 v5 v6 fp w' → Q .normal (f v0 v1 v2 v3 v4 v5 v6) w')
    (h : c.wp Tryz.prog (fun e a' w' => e = .normal ∧ ∃ (v0 : Nat) (v1 : Option Addr) (v2 : Nat) (v3 : Option Addr) (v4 : Nat) (v5 : Option Addr) (v6 : Nat) (fp : List Nat), a' = f v0 v1 v2 v3 v4 v5 v6 ∧ R v0 v1 v2 v3 v4 v5 v6 fp w') a w) : c.wp Tryz.prog Q a w :=
  Code.wp_mono (fun _ _ w' ⟨h1, v0, v1, v2, v3, v4, v5, v6, fp, h2, h3⟩ => by subst h1 h2; exact hq v0 v1 v2 v3 v4 v5 v6 fp w' h3) h


set_option maxRecDepth 100000 in
set_option maxHeartbeats 16000000 in
theorem del_law (t0 : Sc) (cs0 : List Value) (t1 : Db) (cs1 : List Value) (x2 : ByteArray) (n3 : Int) (w : World) (h0 : RSc w t0 cs0) (h1 : RDb w t1 cs1) (hx2 : x2.size ≤ 9223372036854775807) (_hl3 : -9223372036854775808 ≤ n3) (_hu3 : n3 ≤ 9223372036854775807) : Calls Tryz.prog 4 #[.agg cs0.toArray, .agg cs1.toArray, .string x2, .int .i64 n3] w (LawYes w) := by
  obtain ⟨c0_0, rfl⟩ := h0.one
  obtain ⟨c1_0, rfl⟩ := h1.one
  obtain ⟨W1, hW1⟩ : ∃ W1, ((w.alloc (.cells #[c0_0] 24)).alloc (.cells #[c1_0] 27)) = W1 := ⟨_, rfl⟩
  obtain ⟨H, hH⟩ : ∃ H, w.heap.size = H := ⟨_, rfl⟩
  have hbox0 : Box1 W1 H 24 c0_0 := by
    rw [← hW1, ← hH]
    have := (Box1.new w 24 c0_0).alloc (.cells #[c1_0] 27)
    simpa using this
  have hbox1 : Box1 W1 (H + 1) 27 c1_0 := by
    rw [← hW1, ← hH]
    have := Box1.new (w.alloc (.cells #[c0_0] 24)) 27 c1_0
    simpa using this
  have hb0 : Below w.heap.size w W1 := by rw [← hW1]; exact ((Below.refl _ _).alloc (Nat.le_refl _) _).alloc (by simp) _
  by_cases hbig2 : 1048576 < x2.size
  · have HY : Hid (LawYes w (.returned (.bool true)) W1) := ⟨rfl, hb0⟩
    have HW1 := Lib.hid hW1
    clear h0 hbox0 h1 hbox1 hb0 hW1
    go_enter Tryz.func4, Tryz.ntmps4
    go_wp2_with fail
    rw [HW1.out]
    go_ret
    exact HY.out
  have hxx2 : ¬ (1048576 : Int) < (x2.size : Int) := by omega
  have HSZ0 := Lib.hid (fun W (hB : Below w.heap.size w W) left l0 l1 => szSchema_any t0 W _ left (h0.keep hB) l0 l1)
  have HT0 := Lib.hid (fun W (hB : Below w.heap.size w W) => h0.keep hB)
  have BH0_0 := Lib.hid hbox0
  have HSZ1 := Lib.hid (fun W (hB : Below w.heap.size w W) left l0 l1 => szDB_any t1 W _ left (h1.keep hB) l0 l1)
  have HT1 := Lib.hid (fun W (hB : Below w.heap.size w W) => h1.keep hB)
  have BH1_0 := Lib.hid hbox1
  have HW1 := Lib.hid hW1
  have HB0 := Lib.hid hb0
  have HHH := Lib.hid hH
  clear h0 h1 hbox0 hbox1 hb0 hW1 hbig2
  go_enter Tryz.func4, Tryz.ntmps4
  have rH0_0 := BH0_0.out.c0
  have HC := Lib.hid (HSZ0.out W1 HB0.out 1048576 (by decide) (by decide))
  go_wp2_with fail
  rw [HW1.out]
  go_wp2_with fail
  refine HC.out.mono ?_
  rintro e a1 ⟨sr0, rfl, r1, r2, r3, hb⟩
  clear rH0_0
  clear HC HSZ0
  have HB1 := Lib.hid (HB0.out.trans (hb.mono HB0.out.size))
  have BH0_1 := Lib.hid (BH0_0.out.under hb BH0_0.out.lt)
  have BH1_1 := Lib.hid (BH1_0.out.under hb BH1_0.out.lt)
  clear HB0 BH0_0 BH1_0
  clear hb
  by_cases hr : sr0 < 0
  · have HY : Hid (LawYes w (.returned (.bool true)) a1) := ⟨rfl, HB1.out⟩
    clear r3
    go_wp2_with fail
    go_ret
    exact HY.out
  have hw0 : wSc t0 ≤ 1048576 := by have := r3 (by omega); omega
  have hrr0 : 0 ≤ sr0 := by omega
  have hr10 : sr0 ≤ 1048576 := by omega
  clear r3 hr r1 r2
  have HWT0 := Lib.hid hw0
  clear hw0
  have rH1_0 := BH1_1.out.c0
  have HC := Lib.hid (HSZ1.out a1 HB1.out sr0 hrr0 hr10)
  go_wp2_with fail
  refine HC.out.mono ?_
  rintro e a2 ⟨sr1, rfl, r1, r2, r3, hb⟩
  clear rH1_0
  clear HC HSZ1
  have HB2 := Lib.hid (HB1.out.trans (hb.mono HB1.out.size))
  have BH0_2 := Lib.hid (BH0_1.out.under hb BH0_1.out.lt)
  have BH1_2 := Lib.hid (BH1_1.out.under hb BH1_1.out.lt)
  clear HB1 BH0_1 BH1_1
  clear hb
  by_cases hr : sr1 < 0
  · have HY : Hid (LawYes w (.returned (.bool true)) a2) := ⟨rfl, HB2.out⟩
    clear r3
    go_wp2_with fail
    go_ret
    exact HY.out
  have hw1 : wDb t1 ≤ 1048576 := by have := r3 (by omega); omega
  have hrr1 : 0 ≤ sr1 := by omega
  have hr11 : sr1 ≤ 1048576 := by omega
  clear r3 hr r1 r2
  have HWT1 := Lib.hid hw1
  have hw0 := HWT0.out
  obtain ⟨F, fb, hF⟩ : ∃ F fb, chgD t0 t1 x2 (delF n3) = (F, fb) := ⟨_, _, rfl⟩
  have hcn0 : cntSc t0 ≤ 4 * 1048576 + 2 := by have := cnt_wSc t0; omega
  have hcn1 : cntDb t1 ≤ 4 * 1048576 + 2 := by have := cnt_wDb t1; omega
  have HK0 : Hid ((1 : Int) + ((cntSc t0 : Nat) : Int) ≤ 1000000000000) := Lib.hid (by omega)
  have HK1 : Hid ((1 : Int) + ((cntSc t0 : Nat) : Int) + ((cntDb t1 : Nat) : Int) ≤ 1000000000000) := Lib.hid (by omega)
  have HCF : Hid ((1 : Int) + cntDb F ≤ 1000000000000) := Lib.hid (by have hbd := (del_bound hw1 hF); omega)
  obtain ⟨y0_0, hy0_0⟩ : ∃ y0_0, t0.length = y0_0 := ⟨_, rfl⟩
  obtain ⟨y1_0, hy1_0⟩ : ∃ y1_0, t1.length = y1_0 := ⟨_, rfl⟩
  obtain ⟨f0, hf0⟩ : ∃ f0, F.length = f0 := ⟨_, rfl⟩
  have TO0 : Hid (∀ W, Below w.heap.size w W → Calls Tryz.prog 9 #[.agg #[c0_0]] W (delMadeA0 t0 y0_0 W)) := Lib.hid (fun W hB => by
    refine (toSchema_any t0 W _ (HT0.out W hB) HWT0.out).mono ?_
    rintro e w' hm
    unfold MadeSc at hm
    simp only [hy0_0] at hm
    exact hm)
  have TO1 : Hid (∀ W, Below w.heap.size w W → Calls Tryz.prog 10 #[.agg #[c1_0]] W (delMadeA1 t1 y1_0 W)) := Lib.hid (fun W hB => by
    refine (toDB_any t1 W _ (HT1.out W hB) HWT1.out).mono ?_
    rintro e w' hm
    unfold MadeDb at hm
    simp only [hy1_0] at hm
    exact hm)
  have SPF : Hid (∀ (W : World) (cs0 : List Value) (fp0 : List Nat) (cs1 : List Value) (fp1 : List Nat), OSc W t0 cs0 fp0 → ODb W t1 cs1 fp1 → Calls Tryz.prog 20 #[.agg cs0.toArray, .agg cs1.toArray, .string x2, .int .i64 n3] W (delMadeR F f0 fb W)) := Lib.hid (fun W cs0 fp0 cs1 fp1 ho0 ho1 => by
    refine (specDel_any t0 t1 x2 n3 W cs0 cs1 ho0.reads ho1.reads HWT0.out HWT1.out).mono ?_
    rintro e w' hm
    have hm := del_madeR hm
    rw [hF] at hm
    simp only [hf0] at hm
    exact hm)
  have IMF : Hid (∀ (W : World) (cs0 : List Value) (fp0 : List Nat) (cs1 : List Value) (fp1 : List Nat), OSc W t0 cs0 fp0 → ODb W t1 cs1 fp1 → Calls Tryz.prog 21 #[.agg cs0.toArray, .agg cs1.toArray, .string x2, .int .i64 n3] W (delMadeR F f0 fb W)) := Lib.hid (fun W cs0 fp0 cs1 fp1 ho0 ho1 => by
    refine (implDel_any t0 t1 x2 n3 W cs0 cs1 ho0.reads ho1.reads HWT0.out HWT1.out (by unfold maxLen; omega)).mono ?_
    rintro e w' hm
    have hm := del_madeR hm
    rw [hF] at hm
    simp only [hf0] at hm
    exact hm)
  clear hw0 hw1 hcn0 hcn1 HT0 HT1 hF hy0_0 hy1_0 hf0 HWT0 HWT1
  have rH0_0 := BH0_2.out.c0
  have rH1_0 := BH1_2.out.c0
  go_wp2_with fail
  clear rH0_0 rH1_0
  obtain ⟨WZ, hWZ⟩ : ∃ WZ, a2.heap.size = WZ := ⟨_, rfl⟩
  have HWZ := Lib.hid hWZ
  clear hWZ
  apply del_cut (R := fun P AW0 dW0 AW1 dW1 AWR dWR fpWR w' => Below WZ a2 w' ∧ Box1 w' P 37 (.slice AWR f0 dWR) ∧ ODb w' F [.slice AWR f0 dWR] fpWR ∧ (∀ b ∈ fpWR, H + 2 ≤ b ∧ b < w'.heap.size ∧ b ≠ P) ∧ H + 2 ≤ P)
  rotate_left 1
  · have hq0 : Below a2.heap.size a2 a2.drew := (Below.refl _ _).drew
    have rrH0_0 : a2.drew.cell? ⟨H, 0, none⟩ = some c0_0 := BH0_2.out.c0
    have rrH1_0 : a2.drew.cell? ⟨H + 1, 0, none⟩ = some c1_0 := BH1_2.out.c0
    have ltH0 : H < a2.heap.size := BH0_2.out.lt
    have ltH1 : H + 1 < a2.heap.size := BH1_2.out.lt
    have HBI := Lib.hid HB2.out
    have rsH0_0 : a2.cell? ⟨H, 0, none⟩ = some c0_0 := BH0_2.out.c0
    have rsH1_0 : a2.cell? ⟨H + 1, 0, none⟩ = some c1_0 := BH1_2.out.c0
    go_region_held3 (fun W => W.cell? ⟨H, 0, none⟩ = some c0_0 ∧ W.cell? ⟨H + 1, 0, none⟩ = some c1_0)
      (first | (refine ⟨?_, ?_⟩ <;> first | assumption | exact (World.cell?_setCell_far _ _ _ _ (World.new_ne _ _ (by assumption))).trans (by assumption)) | go_keep)
      (first
        | (go_at_call 9; refine (TO0.out _ (HBI.out.trans (Below.mono (by first | exact hq0 | exact hq0.alloc hq0.size _) HBI.out.size))).mono ?_; rintro e a3 ⟨AW0, dW0, fpW0, rfl, ho, hf, hb⟩; have hb0 := hb; have hq1 : Below a2.heap.size a2 a3 := (by first | exact hq0.trans (hb.mono hq0.size) | exact (hq0.alloc hq0.size _).trans (hb.mono (hq0.alloc hq0.size _).size)); (try have bx0_1 : Box1 a3 a2.heap.size 37 _ := (Box1.new a2.drew 37 _).under hb (by simp)); have UW0_1 := ho; have qa3_H0_0 := (BH0_2.out.under hq1 ltH0).c0; have qa3_H1_0 := (BH1_2.out.under hq1 ltH1).c0; clear ho hf hb)
        | (go_at_call 10; refine (TO1.out _ (HBI.out.trans (Below.mono (by first | exact hq1 | exact hq1.alloc hq1.size _) HBI.out.size))).mono ?_; rintro e a4 ⟨AW1, dW1, fpW1, rfl, ho, hf, hb⟩; have hb1 := hb; have hq2 : Below a2.heap.size a2 a4 := (by first | exact hq1.trans (hb.mono hq1.size) | exact (hq1.alloc hq1.size _).trans (hb.mono (hq1.alloc hq1.size _).size)); (try have bx0_2 := bx0_1.under hb bx0_1.lt); (try have bx1_2 : Box1 a4 a3.heap.size 37 _ := (Box1.new a3 37 _).under hb (by simp)); have UW0_2 : OSc a4 t0 [.slice AW0 y0_0 dW0] fpW0 := (by first | exact UW0_1.under hb | exact (UW0_1.under ((Below.refl _ _).alloc (Nat.le_refl _) _)).under hb); have UW1_2 := ho; have qa4_H0_0 := (BH0_2.out.under hq2 ltH0).c0; have qa4_H1_0 := (BH1_2.out.under hq2 ltH1).c0; clear ho hf hb)
        | (go_at_call 20; refine (SPF.out _ [.slice AW0 y0_0 dW0] fpW0 [.slice AW1 y1_0 dW1] fpW1 (by first | exact UW0_2 | exact UW0_2.under ((Below.refl _ _).alloc (Nat.le_refl _) _)) (by first | exact UW1_2 | exact UW1_2.under ((Below.refl _ _).alloc (Nat.le_refl _) _))).mono ?_; rintro e a5 ⟨AWR, dWR, fpWR, rfl, ho, hf, hb⟩; have hb2 := hb; have hq3 : Below a2.heap.size a2 a5 := (by first | exact hq2.trans (hb.mono hq2.size) | exact (hq2.alloc hq2.size _).trans (hb.mono (hq2.alloc hq2.size _).size)); (try have bx0_3 := bx0_2.under hb bx0_2.lt); (try have bx1_3 := bx1_2.under hb bx1_2.lt); (try have bx2_3 : Box1 a5 a4.heap.size 37 _ := (Box1.new a4 37 _).under hb (by simp)); (try have fz0 := bx0_3.free 0); (try have fz1 := bx1_3.free 0); (try have fz2 := bx2_3.free 0); (try have cl0_0 := bx0_3.c0); (try have cl1_0 := bx1_3.c0); (try have cl2_0 := bx2_3.c0); have qa5_H0_0 := (BH0_2.out.under hq3 ltH0).c0; have qa5_H1_0 := (BH1_2.out.under hq3 ltH1).c0; have hor := ho; have hfr : ∀ b ∈ fpWR, a4.heap.size ≤ b ∧ b < a5.heap.size := (by first | exact hf | (intro b hm; have := hf b hm; simp at this; omega)); have hfr2 := hf; clear ho hf hb))
    all_goals first | refine NoPanic.normal ?_ | skip
    · (obtain ⟨P, hP⟩ : ∃ P, a5.heap.size = P := ⟨_, rfl⟩; rw [hP]; have hH2 : H + 2 ≤ a2.heap.size := (by have := ltH1; omega); have hPs : a2.heap.size ≤ P := (by have := hq3.size; omega); have hne : ∀ b ∈ fpWR, b ≠ P := fun b hm => (by have := hfr b hm; omega); exact ⟨rfl, P, AW0, dW0, AW1, dW1, AWR, dWR, fpWR, rfl, (by rw [← HWZ.out]; exact hq3.alloc hq3.size _), (by rw [← hP]; exact Box1.new _ _ _), hor.under ((Below.refl _ _).alloc (Nat.le_refl _) _), fun b hm => ⟨by have := hfr b hm; have := hq2.size; omega, by have := hfr b hm; simp; omega, hne b hm⟩, by omega⟩)
    · (obtain ⟨P, hP⟩ : ∃ P, a4.heap.size = P := ⟨_, rfl⟩; have hx0 := bx2_3; have hx := bx2_3; (rw [hP] at hx0 hx); rw [hP]; have hH2 : H + 2 ≤ a2.heap.size := (by have := ltH1; omega); have hPs : a2.heap.size ≤ P := (by have := hq2.size; omega); have hne : ∀ b ∈ fpWR, b ≠ P := fun b hm => (by have := hfr2 b hm; have := hx0.lt; have := hb2.size; simp at *; omega); exact ⟨rfl, P, AW0, dW0, AW1, dW1, AWR, dWR, fpWR, rfl, (by rw [← HWZ.out]; exact hq3.setCell hPs _), hx.set0 _, ODb.onlyM hor (only_setCell _ _ _) (fun b hm hc => hne b hm (by simpa using hc)), fun b hm => ⟨by have := hfr b hm; have := hq2.size; omega, by have := hfr b hm; simp; omega, hne b hm⟩, by omega⟩)
    · (obtain ⟨P, hP⟩ : ∃ P, a3.heap.size = P := ⟨_, rfl⟩; have hx0 := bx1_2; have hx := bx1_3; (rw [hP] at hx0 hx); rw [hP]; have hH2 : H + 2 ≤ a2.heap.size := (by have := ltH1; omega); have hPs : a2.heap.size ≤ P := (by have := hq1.size; omega); have hne : ∀ b ∈ fpWR, b ≠ P := fun b hm => (by have := hfr2 b hm; have := hx0.lt; have := hb1.size; have := hb2.size; simp at *; omega); exact ⟨rfl, P, AW0, dW0, AW1, dW1, AWR, dWR, fpWR, rfl, (by rw [← HWZ.out]; exact hq3.setCell hPs _), hx.set0 _, ODb.onlyM hor (only_setCell _ _ _) (fun b hm hc => hne b hm (by simpa using hc)), fun b hm => ⟨by have := hfr b hm; have := hq2.size; omega, by have := hfr b hm; simp; omega, hne b hm⟩, by omega⟩)
    · (obtain ⟨P, hP⟩ : ∃ P, a2.heap.size = P := ⟨_, rfl⟩; have hx0 := bx0_1; have hx := bx0_3; (rw [hP] at hx0 hx); rw [hP]; have hH2 : H + 2 ≤ a2.heap.size := (by have := ltH1; omega); have hPs : a2.heap.size ≤ P := (by have := hq0.size; omega); have hne : ∀ b ∈ fpWR, b ≠ P := fun b hm => (by have := hfr2 b hm; have := hx0.lt; have := hb0.size; have := hb1.size; have := hb2.size; simp at *; omega); exact ⟨rfl, P, AW0, dW0, AW1, dW1, AWR, dWR, fpWR, rfl, (by rw [← HWZ.out]; exact hq3.setCell hPs _), hx.set0 _, ODb.onlyM hor (only_setCell _ _ _) (fun b hm hc => hne b hm (by simpa using hc)), fun b hm => ⟨by have := hfr b hm; have := hq2.size; omega, by have := hfr b hm; simp; omega, hne b hm⟩, by omega⟩)
  rintro P AW0 dW0 AW1 dW1 AWR dWR fpWR a6 ⟨hb, hbx, ho, hf, hp⟩
  rw [← HWZ.out] at hb
  clear HWZ
  have HB3 := Lib.hid (HB2.out.trans (hb.mono HB2.out.size))
  have BH0_3 := Lib.hid (BH0_2.out.under hb BH0_2.out.lt)
  have BH1_3 := Lib.hid (BH1_2.out.under hb BH1_2.out.lt)
  clear HB2 BH0_2 BH1_2
  obtain ⟨PB, hPB⟩ : ∃ PB, a6.heap.size = PB := ⟨_, rfl⟩
  have BP_3 := Lib.hid hbx
  have TW_3 := Lib.hid ho
  have NW : Hid (∀ b ∈ fpWR, H + 2 ≤ b ∧ b < PB ∧ b ≠ P) := Lib.hid (fun b hm => ⟨(hf b hm).1, by have := (hf b hm).2.1; omega, (hf b hm).2.2⟩)
  have NUM : Hid (H + 2 ≤ P ∧ P < PB ∧ PB ≤ a6.heap.size) := Lib.hid (by have := hbx.lt; omega)
  clear ho hf hb hp hbx hPB
  have rH0_0 := BH0_3.out.c0
  go_wp2_with fail
  refine (TO0.out a6 HB3.out).mono ?_
  rintro e a7 ⟨AX0, dX0, fpX0, rfl, ho, hf, hb⟩
  clear rH0_0
  obtain ⟨a8, ha8⟩ : ∃ a8, a7.alloc (.cells #[.slice AX0 y0_0 dX0] 42) = a8 := ⟨_, rfl⟩
  obtain ⟨X0, hX0⟩ : ∃ X0, a7.heap.size = X0 := ⟨_, rfl⟩
  have hza8 : a8.heap.size = X0 + 1 := by rw [← ha8, ← hX0]; simp
  have hal : Below a7.heap.size a7 a8 := by rw [← ha8]; exact (Below.refl _ _).alloc (Nat.le_refl _) _
  have hbx : Box1 a8 X0 42 (.slice AX0 y0_0 dX0) := by rw [← ha8, ← hX0]; exact Box1.new a7 _ _
  have hb' := hb.trans (hal.mono hb.size)
  have HB4 := Lib.hid (HB3.out.trans (hb'.mono HB3.out.size))
  have BH0_4 := Lib.hid (BH0_3.out.under hb' BH0_3.out.lt)
  have BH1_4 := Lib.hid (BH1_3.out.under hb' BH1_3.out.lt)
  have BP_4 := Lib.hid (BP_3.out.under hb' BP_3.out.lt)
  have TW_4 := Lib.hid (TW_3.out.under hb')
  clear HB3 BH0_3 BH1_3 BP_3 TW_3
  have BX0_4 := Lib.hid hbx
  have TY0_4 := Lib.hid (ho.under hal)
  have NY0 : Hid (∀ b ∈ fpX0, PB ≤ b ∧ b < X0) := Lib.hid (fun b hm => by have := hf b hm; have := NUM.out; omega)
  have NUM' : Hid (H + 2 ≤ P ∧ P < PB ∧ PB ≤ X0 ∧ X0 < a8.heap.size) := Lib.hid (by have := NUM.out; have := hb.size; omega)
  clear NUM
  have NUM := NUM'
  clear NUM'
  have HWn := Lib.hid ha8
  clear ho hf hb hb' hal hbx hza8 ha8
  have rr := BH1_4.out
  rw [← HWn.out] at rr
  have rH1_0 := rr.c0
  clear rr
  go_wp2_with fail
  rw [HWn.out]
  refine (TO1.out a8 HB4.out).mono ?_
  rintro e a9 ⟨AX1, dX1, fpX1, rfl, ho, hf, hb⟩
  clear rH1_0
  clear HWn
  obtain ⟨a10, ha10⟩ : ∃ a10, a9.alloc (.cells #[.slice AX1 y1_0 dX1] 37) = a10 := ⟨_, rfl⟩
  obtain ⟨X1, hX1⟩ : ∃ X1, a9.heap.size = X1 := ⟨_, rfl⟩
  have hza10 : a10.heap.size = X1 + 1 := by rw [← ha10, ← hX1]; simp
  have hal : Below a9.heap.size a9 a10 := by rw [← ha10]; exact (Below.refl _ _).alloc (Nat.le_refl _) _
  have hbx : Box1 a10 X1 37 (.slice AX1 y1_0 dX1) := by rw [← ha10, ← hX1]; exact Box1.new a9 _ _
  have hb' := hb.trans (hal.mono hb.size)
  have HB5 := Lib.hid (HB4.out.trans (hb'.mono HB4.out.size))
  have BH0_5 := Lib.hid (BH0_4.out.under hb' BH0_4.out.lt)
  have BH1_5 := Lib.hid (BH1_4.out.under hb' BH1_4.out.lt)
  have BP_5 := Lib.hid (BP_4.out.under hb' BP_4.out.lt)
  have BX0_5 := Lib.hid (BX0_4.out.under hb' BX0_4.out.lt)
  have TW_5 := Lib.hid (TW_4.out.under hb')
  have TY0_5 := Lib.hid (TY0_4.out.under hb')
  clear HB4 BH0_4 BH1_4 BP_4 BX0_4 TW_4 TY0_4
  have BX1_5 := Lib.hid hbx
  have TY1_5 := Lib.hid (ho.under hal)
  have NY1 : Hid (∀ b ∈ fpX1, X0 < b ∧ b < X1) := Lib.hid (fun b hm => by have := hf b hm; have := NUM.out; omega)
  have NUM' : Hid (H + 2 ≤ P ∧ P < PB ∧ PB ≤ X0 ∧ X0 < X1 ∧ X1 < a10.heap.size) := Lib.hid (by have := NUM.out; have := hb.size; omega)
  clear NUM
  have NUM := NUM'
  clear NUM'
  have HWn := Lib.hid ha10
  clear ho hf hb hb' hal hbx hza10 ha10
  have rr := BX0_5.out
  rw [← HWn.out] at rr
  have rX0_0 := rr.c0
  clear rr
  have rr := BX1_5.out
  rw [← HWn.out] at rr
  have rX1_0 := rr.c0
  clear rr
  go_wp2_with fail
  rw [HWn.out]
  refine (IMF.out a10 _ _ _ _ TY0_5.out TY1_5.out).mono ?_
  rintro e a11 ⟨AG, dG, fpG, rfl, ho, hf, hb⟩
  clear rX0_0 rX1_0
  clear HWn
  obtain ⟨a12, ha12⟩ : ∃ a12, a11.alloc (.cells #[.slice AG f0 dG] 37) = a12 := ⟨_, rfl⟩
  obtain ⟨G, hG⟩ : ∃ G, a11.heap.size = G := ⟨_, rfl⟩
  have hza12 : a12.heap.size = G + 1 := by rw [← ha12, ← hG]; simp
  have hal : Below a11.heap.size a11 a12 := by rw [← ha12]; exact (Below.refl _ _).alloc (Nat.le_refl _) _
  have hbx : Box1 a12 G 37 (.slice AG f0 dG) := by rw [← ha12, ← hG]; exact Box1.new a11 _ _
  have hb' := hb.trans (hal.mono hb.size)
  have HB6 := Lib.hid (HB5.out.trans (hb'.mono HB5.out.size))
  have BH0_6 := Lib.hid (BH0_5.out.under hb' BH0_5.out.lt)
  have BH1_6 := Lib.hid (BH1_5.out.under hb' BH1_5.out.lt)
  have BP_6 := Lib.hid (BP_5.out.under hb' BP_5.out.lt)
  have BX0_6 := Lib.hid (BX0_5.out.under hb' BX0_5.out.lt)
  have BX1_6 := Lib.hid (BX1_5.out.under hb' BX1_5.out.lt)
  have TW_6 := Lib.hid (TW_5.out.under hb')
  have TY0_6 := Lib.hid (TY0_5.out.under hb')
  have TY1_6 := Lib.hid (TY1_5.out.under hb')
  clear HB5 BH0_5 BH1_5 BP_5 BX0_5 BX1_5 TW_5 TY0_5 TY1_5
  have BG_6 := Lib.hid hbx
  have TZ_6 := Lib.hid (ho.under hal)
  have HWn := Lib.hid ha12
  have NZ : Hid (∀ b ∈ fpG, X1 < b ∧ b < G) := Lib.hid (fun b hm => by have := hf b hm; have := NUM.out; omega)
  have NUM' : Hid (w.heap.size = H ∧ H + 2 ≤ P ∧ P < PB ∧ PB ≤ X0 ∧ X0 < X1 ∧ X1 < G) := Lib.hid (by have := HHH.out; have := NUM.out; have := hb.size; omega)
  clear NUM HHH
  have NUM := NUM'
  clear NUM'
  clear ho hf hb hb' hal hbx hza12 ha12
  have rr := BG_6.out
  rw [← HWn.out] at rr
  have rG_0 := rr.c0
  clear rr
  have rr := BP_6.out
  rw [← HWn.out] at rr
  have rP_0 := rr.c0
  clear rr
  have HC := Lib.hid (eqDB_same F a12 _ _ TZ_6.out.reads TW_6.out.reads)
  go_wp2_with fail
  rw [HWn.out]
  refine HC.out.mono ?_
  rintro e a13 ⟨rfl, hb⟩
  clear rG_0 rP_0
  have HB7 := Lib.hid (HB6.out.trans (hb.mono HB6.out.size))
  have BH0_7 := Lib.hid (BH0_6.out.under hb BH0_6.out.lt)
  have BH1_7 := Lib.hid (BH1_6.out.under hb BH1_6.out.lt)
  have BP_7 := Lib.hid (BP_6.out.under hb BP_6.out.lt)
  have BX0_7 := Lib.hid (BX0_6.out.under hb BX0_6.out.lt)
  have BX1_7 := Lib.hid (BX1_6.out.under hb BX1_6.out.lt)
  have BG_7 := Lib.hid (BG_6.out.under hb BG_6.out.lt)
  have TW_7 := Lib.hid (TW_6.out.under hb)
  have TY0_7 := Lib.hid (TY0_6.out.under hb)
  have TY1_7 := Lib.hid (TY1_6.out.under hb)
  have TZ_7 := Lib.hid (TZ_6.out.under hb)
  clear HB6 BH0_6 BH1_6 BP_6 BX0_6 BX1_6 BG_6 TW_6 TY0_6 TY1_6 TZ_6
  clear HC hb HWn
  have rX0_0 := BX0_7.out.c0
  have rH0_0 := BH0_7.out.c0
  go_wp2_with fail
  clear rX0_0 rH0_0
  have HB8 := Lib.hid HB7.out.drew
  have BH0_8 := Lib.hid (show Box1 a13.drew H 24 c0_0 from BH0_7.out)
  have BH1_8 := Lib.hid (show Box1 a13.drew (H + 1) 27 c1_0 from BH1_7.out)
  have BP_8 := Lib.hid (show Box1 a13.drew P 37 (.slice AWR f0 dWR) from BP_7.out)
  have BX0_8 := Lib.hid (show Box1 a13.drew X0 42 (.slice AX0 y0_0 dX0) from BX0_7.out)
  have BX1_8 := Lib.hid (show Box1 a13.drew X1 37 (.slice AX1 y1_0 dX1) from BX1_7.out)
  have BG_8 := Lib.hid (show Box1 a13.drew G 37 (.slice AG f0 dG) from BG_7.out)
  have TW_8 := Lib.hid (TW_7.out.under (show Below a13.heap.size a13 a13.drew from (Below.refl _ _).drew))
  have TY0_8 := Lib.hid (TY0_7.out.under (show Below a13.heap.size a13 a13.drew from (Below.refl _ _).drew))
  have TY1_8 := Lib.hid (TY1_7.out.under (show Below a13.heap.size a13 a13.drew from (Below.refl _ _).drew))
  have TZ_8 := Lib.hid (TZ_7.out.under (show Below a13.heap.size a13 a13.drew from (Below.refl _ _).drew))
  clear HB7 BH0_7 BH1_7 BP_7 BX0_7 BX1_7 BG_7 TW_7 TY0_7 TY1_7 TZ_7
  have rX0_0 := BX0_8.out.c0
  have rH0_0 := BH0_8.out.c0
  go_region_held3 (fun W => W.cell? ⟨X0, 0, none⟩ = some (.slice AX0 y0_0 dX0) ∧ W.cell? ⟨H, 0, none⟩ = some c0_0)
    (first | (refine ⟨?_, ?_⟩ <;> assumption) | go_keep)
    (first
      | (go_at_call 9; refine (TO0.out a13.drew HB8.out).mono ?_; rintro e a14 ⟨AE0, dE0, fpE0, rfl, ho, hf, hb⟩; have HB9 := Lib.hid (HB8.out.trans (hb.mono HB8.out.size)); have BH0_9 := Lib.hid (BH0_8.out.under hb BH0_8.out.lt); have BH1_9 := Lib.hid (BH1_8.out.under hb BH1_8.out.lt); have BP_9 := Lib.hid (BP_8.out.under hb BP_8.out.lt); have BX0_9 := Lib.hid (BX0_8.out.under hb BX0_8.out.lt); have BX1_9 := Lib.hid (BX1_8.out.under hb BX1_8.out.lt); have BG_9 := Lib.hid (BG_8.out.under hb BG_8.out.lt); have TW_9 := Lib.hid (TW_8.out.under hb); have TY0_9 := Lib.hid (TY0_8.out.under hb); have TY1_9 := Lib.hid (TY1_8.out.under hb); have TZ_9 := Lib.hid (TZ_8.out.under hb); have HC := Lib.hid (eqSchema_same t0 a14 _ _ TY0_9.out.reads ho.reads); have uX0_0 := BX0_9.out.c0; have uH0_0 := BH0_9.out.c0; clear ho hf hb)
      | (go_at_call 14; refine HC.out.mono ?_; rintro e a15 ⟨rfl, hb⟩; have HB10 := Lib.hid (HB9.out.trans (hb.mono HB9.out.size)); have BH0_10 := Lib.hid (BH0_9.out.under hb BH0_9.out.lt); have BH1_10 := Lib.hid (BH1_9.out.under hb BH1_9.out.lt); have BP_10 := Lib.hid (BP_9.out.under hb BP_9.out.lt); have BX0_10 := Lib.hid (BX0_9.out.under hb BX0_9.out.lt); have BX1_10 := Lib.hid (BX1_9.out.under hb BX1_9.out.lt); have BG_10 := Lib.hid (BG_9.out.under hb BG_9.out.lt); have TW_10 := Lib.hid (TW_9.out.under hb); have TY0_10 := Lib.hid (TY0_9.out.under hb); have TY1_10 := Lib.hid (TY1_9.out.under hb); have TZ_10 := Lib.hid (TZ_9.out.under hb); have vX0_0 := BX0_10.out.c0; have vH0_0 := BH0_10.out.c0; clear HC hb))
  clear rX0_0 rH0_0 uX0_0 uH0_0 vX0_0 vH0_0 HB8 BH0_8 BH1_8 BP_8 BX0_8 BX1_8 BG_8 TW_8 TY0_8 TY1_8 TZ_8 HB9 BH0_9 BH1_9 BP_9 BX0_9 BX1_9 BG_9 TW_9 TY0_9 TY1_9 TZ_9
  have rX1_0 := BX1_10.out.c0
  have rH1_0 := BH1_10.out.c0
  go_wp2_with fail
  clear rX1_0 rH1_0
  have HB11 := Lib.hid HB10.out.drew
  have BH0_11 := Lib.hid (show Box1 a15.drew H 24 c0_0 from BH0_10.out)
  have BH1_11 := Lib.hid (show Box1 a15.drew (H + 1) 27 c1_0 from BH1_10.out)
  have BP_11 := Lib.hid (show Box1 a15.drew P 37 (.slice AWR f0 dWR) from BP_10.out)
  have BX0_11 := Lib.hid (show Box1 a15.drew X0 42 (.slice AX0 y0_0 dX0) from BX0_10.out)
  have BX1_11 := Lib.hid (show Box1 a15.drew X1 37 (.slice AX1 y1_0 dX1) from BX1_10.out)
  have BG_11 := Lib.hid (show Box1 a15.drew G 37 (.slice AG f0 dG) from BG_10.out)
  have TW_11 := Lib.hid (TW_10.out.under (show Below a15.heap.size a15 a15.drew from (Below.refl _ _).drew))
  have TY0_11 := Lib.hid (TY0_10.out.under (show Below a15.heap.size a15 a15.drew from (Below.refl _ _).drew))
  have TY1_11 := Lib.hid (TY1_10.out.under (show Below a15.heap.size a15 a15.drew from (Below.refl _ _).drew))
  have TZ_11 := Lib.hid (TZ_10.out.under (show Below a15.heap.size a15 a15.drew from (Below.refl _ _).drew))
  clear HB10 BH0_10 BH1_10 BP_10 BX0_10 BX1_10 BG_10 TW_10 TY0_10 TY1_10 TZ_10
  have rX1_0 := BX1_11.out.c0
  have rH1_0 := BH1_11.out.c0
  go_region_held3 (fun W => W.cell? ⟨X1, 0, none⟩ = some (.slice AX1 y1_0 dX1) ∧ W.cell? ⟨H + 1, 0, none⟩ = some c1_0)
    (first | (refine ⟨?_, ?_⟩ <;> assumption) | go_keep)
    (first
      | (go_at_call 10; refine (TO1.out a15.drew HB11.out).mono ?_; rintro e a16 ⟨AE1, dE1, fpE1, rfl, ho, hf, hb⟩; have HB12 := Lib.hid (HB11.out.trans (hb.mono HB11.out.size)); have BH0_12 := Lib.hid (BH0_11.out.under hb BH0_11.out.lt); have BH1_12 := Lib.hid (BH1_11.out.under hb BH1_11.out.lt); have BP_12 := Lib.hid (BP_11.out.under hb BP_11.out.lt); have BX0_12 := Lib.hid (BX0_11.out.under hb BX0_11.out.lt); have BX1_12 := Lib.hid (BX1_11.out.under hb BX1_11.out.lt); have BG_12 := Lib.hid (BG_11.out.under hb BG_11.out.lt); have TW_12 := Lib.hid (TW_11.out.under hb); have TY0_12 := Lib.hid (TY0_11.out.under hb); have TY1_12 := Lib.hid (TY1_11.out.under hb); have TZ_12 := Lib.hid (TZ_11.out.under hb); have HC := Lib.hid (eqDB_same t1 a16 _ _ TY1_12.out.reads ho.reads); have uX1_0 := BX1_12.out.c0; have uH1_0 := BH1_12.out.c0; clear ho hf hb)
      | (go_at_call 13; refine HC.out.mono ?_; rintro e a17 ⟨rfl, hb⟩; have HB13 := Lib.hid (HB12.out.trans (hb.mono HB12.out.size)); have BH0_13 := Lib.hid (BH0_12.out.under hb BH0_12.out.lt); have BH1_13 := Lib.hid (BH1_12.out.under hb BH1_12.out.lt); have BP_13 := Lib.hid (BP_12.out.under hb BP_12.out.lt); have BX0_13 := Lib.hid (BX0_12.out.under hb BX0_12.out.lt); have BX1_13 := Lib.hid (BX1_12.out.under hb BX1_12.out.lt); have BG_13 := Lib.hid (BG_12.out.under hb BG_12.out.lt); have TW_13 := Lib.hid (TW_12.out.under hb); have TY0_13 := Lib.hid (TY0_12.out.under hb); have TY1_13 := Lib.hid (TY1_12.out.under hb); have TZ_13 := Lib.hid (TZ_12.out.under hb); have vX1_0 := BX1_13.out.c0; have vH1_0 := BH1_13.out.c0; clear HC hb))
  clear rX1_0 rH1_0 uX1_0 uH1_0 vX1_0 vH1_0 HB11 BH0_11 BH1_11 BP_11 BX0_11 BX1_11 BG_11 TW_11 TY0_11 TY1_11 TZ_11 HB12 BH0_12 BH1_12 BP_12 BX0_12 BX1_12 BG_12 TW_12 TY0_12 TY1_12 TZ_12
  have rX0_0 := BX0_13.out.c0
  go_wp2_with fail
  refine (markScO ((1 : Int) + ((cntSc t0 : Nat) : Int)) HK0.out t0 a17 _ fpX0 1 TY0_13.out (by decide) (by omega)).mono ?_
  rintro e a18 ⟨k0, rfl, k0p, k0b, ho⟩
  clear rX0_0
  have HB14 := Lib.hid (HB13.out.trans (ho.below HB13.out.size (fun x hx => by have := NUM.out; have := NY0.out x hx; omega)))
  have BH0_14 := Lib.hid (box1_onlyM BH0_13.out ho (fun hm => by have := NUM.out; have := NY0.out _ hm; omega))
  have BH1_14 := Lib.hid (box1_onlyM BH1_13.out ho (fun hm => by have := NUM.out; have := NY0.out _ hm; omega))
  have BP_14 := Lib.hid (box1_onlyM BP_13.out ho (fun hm => by have := NUM.out; have := NY0.out _ hm; omega))
  have BX0_14 := Lib.hid (box1_onlyM BX0_13.out ho (fun hm => by have := NUM.out; have := NY0.out _ hm; omega))
  have BX1_14 := Lib.hid (box1_onlyM BX1_13.out ho (fun hm => by have := NUM.out; have := NY0.out _ hm; omega))
  have BG_14 := Lib.hid (box1_onlyM BG_13.out ho (fun hm => by have := NUM.out; have := NY0.out _ hm; omega))
  have TW_14 := Lib.hid (ODb.onlyM TW_13.out ho (fun b hb hm => by have := NUM.out; have := NW.out b hb; have := NY0.out b hm; omega))
  have TY1_14 := Lib.hid (ODb.onlyM TY1_13.out ho (fun b hb hm => by have := NUM.out; have := NY1.out b hb; have := NY0.out b hm; omega))
  have TZ_14 := Lib.hid (ODb.onlyM TZ_13.out ho (fun b hb hm => by have := NUM.out; have := NZ.out b hb; have := NY0.out b hm; omega))
  clear HB13 BH0_13 BH1_13 BP_13 BX0_13 BX1_13 BG_13 TW_13 TY0_13 TY1_13 TZ_13
  clear ho
  have rX1_0 := BX1_14.out.c0
  go_wp2_with fail
  refine (markDbO ((1 : Int) + ((cntSc t0 : Nat) : Int) + ((cntDb t1 : Nat) : Int)) HK1.out t1 a18 _ fpX1 k0 TY1_14.out k0p (by have := k0b; omega)).mono ?_
  rintro e a19 ⟨k1, rfl, k1p, k1b, ho⟩
  clear rX1_0
  have HB15 := Lib.hid (HB14.out.trans (ho.below HB14.out.size (fun x hx => by have := NUM.out; have := NY1.out x hx; omega)))
  have BH0_15 := Lib.hid (box1_onlyM BH0_14.out ho (fun hm => by have := NUM.out; have := NY1.out _ hm; omega))
  have BH1_15 := Lib.hid (box1_onlyM BH1_14.out ho (fun hm => by have := NUM.out; have := NY1.out _ hm; omega))
  have BP_15 := Lib.hid (box1_onlyM BP_14.out ho (fun hm => by have := NUM.out; have := NY1.out _ hm; omega))
  have BX0_15 := Lib.hid (box1_onlyM BX0_14.out ho (fun hm => by have := NUM.out; have := NY1.out _ hm; omega))
  have BX1_15 := Lib.hid (box1_onlyM BX1_14.out ho (fun hm => by have := NUM.out; have := NY1.out _ hm; omega))
  have BG_15 := Lib.hid (box1_onlyM BG_14.out ho (fun hm => by have := NUM.out; have := NY1.out _ hm; omega))
  have TW_15 := Lib.hid (ODb.onlyM TW_14.out ho (fun b hb hm => by have := NUM.out; have := NW.out b hb; have := NY1.out b hm; omega))
  have TZ_15 := Lib.hid (ODb.onlyM TZ_14.out ho (fun b hb hm => by have := NUM.out; have := NZ.out b hb; have := NY1.out b hm; omega))
  clear HB14 BH0_14 BH1_14 BP_14 BX0_14 BX1_14 BG_14 TW_14 TY1_14 TZ_14
  clear ho
  have k9n : ¬ k1 < 0 := by omega
  have rG_0 := BG_15.out.c0
  have rP_0 := BP_15.out.c0
  have HC := Lib.hid (eqDB_same F a19 _ _ TZ_15.out.reads TW_15.out.reads)
  go_wp2_with fail
  refine HC.out.mono ?_
  rintro e a20 ⟨rfl, hb⟩
  clear rG_0 rP_0
  have HB16 := Lib.hid (HB15.out.trans (hb.mono HB15.out.size))
  have BH0_16 := Lib.hid (BH0_15.out.under hb BH0_15.out.lt)
  have BH1_16 := Lib.hid (BH1_15.out.under hb BH1_15.out.lt)
  have BP_16 := Lib.hid (BP_15.out.under hb BP_15.out.lt)
  have BX0_16 := Lib.hid (BX0_15.out.under hb BX0_15.out.lt)
  have BX1_16 := Lib.hid (BX1_15.out.under hb BX1_15.out.lt)
  have BG_16 := Lib.hid (BG_15.out.under hb BG_15.out.lt)
  have TW_16 := Lib.hid (TW_15.out.under hb)
  have TZ_16 := Lib.hid (TZ_15.out.under hb)
  clear HB15 BH0_15 BH1_15 BP_15 BX0_15 BX1_15 BG_15 TW_15 TZ_15
  clear HC hb
  have rG_0 := BG_16.out.c0
  go_wp2_with fail
  refine (markDb_any F a20 _ fpG 1 TZ_16.out (by decide) HCF.out).mono ?_
  rintro e a21 ⟨Fm, km, rfl, kmp, kmb, hot, hheld, ho⟩
  clear rG_0
  have HB17 := Lib.hid (HB16.out.trans (ho.below HB16.out.size (fun x hx => by have := NUM.out; have := NZ.out x hx; omega)))
  have BH0_17 := Lib.hid (box1_onlyM BH0_16.out ho (fun hm => by have := NUM.out; have := NZ.out _ hm; omega))
  have BH1_17 := Lib.hid (box1_onlyM BH1_16.out ho (fun hm => by have := NUM.out; have := NZ.out _ hm; omega))
  have BP_17 := Lib.hid (box1_onlyM BP_16.out ho (fun hm => by have := NUM.out; have := NZ.out _ hm; omega))
  have BX0_17 := Lib.hid (box1_onlyM BX0_16.out ho (fun hm => by have := NUM.out; have := NZ.out _ hm; omega))
  have BX1_17 := Lib.hid (box1_onlyM BX1_16.out ho (fun hm => by have := NUM.out; have := NZ.out _ hm; omega))
  have BG_17 := Lib.hid (box1_onlyM BG_16.out ho (fun hm => by have := NUM.out; have := NZ.out _ hm; omega))
  have TW_17 := Lib.hid (ODb.onlyM TW_16.out ho (fun b hb hm => by have := NUM.out; have := NW.out b hb; have := NZ.out b hm; omega))
  have TZ_17 := Lib.hid hot
  clear HB16 BH0_16 BH1_16 BP_16 BX0_16 BX1_16 BG_16 TW_16 TZ_16
  have HLD := Lib.hid hheld
  clear ho hot hheld
  have kmn : ¬ km < 0 := by omega
  have rG_0 := BG_17.out.c0
  have HC := Lib.hid (heldDb_any Fm a21 _ 1 km TZ_17.out.reads HLD.out (by decide) kmb)
  go_wp2_with fail
  refine HC.out.mono ?_
  rintro e a22 ⟨rfl, hb⟩
  clear rG_0
  have HB18 := Lib.hid (HB17.out.trans (hb.mono HB17.out.size))
  have BH0_18 := Lib.hid (BH0_17.out.under hb BH0_17.out.lt)
  have BH1_18 := Lib.hid (BH1_17.out.under hb BH1_17.out.lt)
  have BP_18 := Lib.hid (BP_17.out.under hb BP_17.out.lt)
  have BX0_18 := Lib.hid (BX0_17.out.under hb BX0_17.out.lt)
  have BX1_18 := Lib.hid (BX1_17.out.under hb BX1_17.out.lt)
  have BG_18 := Lib.hid (BG_17.out.under hb BG_17.out.lt)
  have TW_18 := Lib.hid (TW_17.out.under hb)
  have TZ_18 := Lib.hid (TZ_17.out.under hb)
  clear HB17 BH0_17 BH1_17 BP_17 BX0_17 BX1_17 BG_17 TW_17 TZ_17
  clear HC hb
  have rH0_0 := BH0_18.out.c0
  have rH1_0 := BH1_18.out.c0
  go_wp2_with fail
  clear rH0_0 rH1_0
  obtain ⟨WZ, hWZ⟩ : ∃ WZ, a22.heap.size = WZ := ⟨_, rfl⟩
  have HWZ := Lib.hid hWZ
  clear hWZ
  apply del_cut (R := fun Q AV0 dV0 AV1 dV1 AVR dVR fpVR w' => Below WZ a22 w' ∧ Box1 w' Q 37 (.slice AVR f0 dVR) ∧ ODb w' F [.slice AVR f0 dVR] fpVR ∧ (∀ b ∈ fpVR, H + 2 ≤ b ∧ b < w'.heap.size ∧ b ≠ Q) ∧ H + 2 ≤ Q)
  rotate_left 1
  · have hq0 : Below a22.heap.size a22 a22.drew := (Below.refl _ _).drew
    have rrH0_0 : a22.drew.cell? ⟨H, 0, none⟩ = some c0_0 := BH0_18.out.c0
    have rrH1_0 : a22.drew.cell? ⟨H + 1, 0, none⟩ = some c1_0 := BH1_18.out.c0
    have ltH0 : H < a22.heap.size := BH0_18.out.lt
    have ltH1 : H + 1 < a22.heap.size := BH1_18.out.lt
    have HBI := Lib.hid HB18.out
    have rsH0_0 : a22.cell? ⟨H, 0, none⟩ = some c0_0 := BH0_18.out.c0
    have rsH1_0 : a22.cell? ⟨H + 1, 0, none⟩ = some c1_0 := BH1_18.out.c0
    go_region_held3 (fun W => W.cell? ⟨H, 0, none⟩ = some c0_0 ∧ W.cell? ⟨H + 1, 0, none⟩ = some c1_0)
      (first | (refine ⟨?_, ?_⟩ <;> first | assumption | exact (World.cell?_setCell_far _ _ _ _ (World.new_ne _ _ (by assumption))).trans (by assumption)) | go_keep)
      (first
        | (go_at_call 9; refine (TO0.out _ (HBI.out.trans (Below.mono (by first | exact hq0 | exact hq0.alloc hq0.size _) HBI.out.size))).mono ?_; rintro e a23 ⟨AV0, dV0, fpV0, rfl, ho, hf, hb⟩; have hb0 := hb; have hq1 : Below a22.heap.size a22 a23 := (by first | exact hq0.trans (hb.mono hq0.size) | exact (hq0.alloc hq0.size _).trans (hb.mono (hq0.alloc hq0.size _).size)); (try have bx0_1 : Box1 a23 a22.heap.size 37 _ := (Box1.new a22.drew 37 _).under hb (by simp)); have UV0_1 := ho; have qa23_H0_0 := (BH0_18.out.under hq1 ltH0).c0; have qa23_H1_0 := (BH1_18.out.under hq1 ltH1).c0; clear ho hf hb)
        | (go_at_call 10; refine (TO1.out _ (HBI.out.trans (Below.mono (by first | exact hq1 | exact hq1.alloc hq1.size _) HBI.out.size))).mono ?_; rintro e a24 ⟨AV1, dV1, fpV1, rfl, ho, hf, hb⟩; have hb1 := hb; have hq2 : Below a22.heap.size a22 a24 := (by first | exact hq1.trans (hb.mono hq1.size) | exact (hq1.alloc hq1.size _).trans (hb.mono (hq1.alloc hq1.size _).size)); (try have bx0_2 := bx0_1.under hb bx0_1.lt); (try have bx1_2 : Box1 a24 a23.heap.size 37 _ := (Box1.new a23 37 _).under hb (by simp)); have UV0_2 : OSc a24 t0 [.slice AV0 y0_0 dV0] fpV0 := (by first | exact UV0_1.under hb | exact (UV0_1.under ((Below.refl _ _).alloc (Nat.le_refl _) _)).under hb); have UV1_2 := ho; have qa24_H0_0 := (BH0_18.out.under hq2 ltH0).c0; have qa24_H1_0 := (BH1_18.out.under hq2 ltH1).c0; clear ho hf hb)
        | (go_at_call 21; refine (IMF.out _ [.slice AV0 y0_0 dV0] fpV0 [.slice AV1 y1_0 dV1] fpV1 (by first | exact UV0_2 | exact UV0_2.under ((Below.refl _ _).alloc (Nat.le_refl _) _)) (by first | exact UV1_2 | exact UV1_2.under ((Below.refl _ _).alloc (Nat.le_refl _) _))).mono ?_; rintro e a25 ⟨AVR, dVR, fpVR, rfl, ho, hf, hb⟩; have hb2 := hb; have hq3 : Below a22.heap.size a22 a25 := (by first | exact hq2.trans (hb.mono hq2.size) | exact (hq2.alloc hq2.size _).trans (hb.mono (hq2.alloc hq2.size _).size)); (try have bx0_3 := bx0_2.under hb bx0_2.lt); (try have bx1_3 := bx1_2.under hb bx1_2.lt); (try have bx2_3 : Box1 a25 a24.heap.size 37 _ := (Box1.new a24 37 _).under hb (by simp)); (try have fz0 := bx0_3.free 0); (try have fz1 := bx1_3.free 0); (try have fz2 := bx2_3.free 0); (try have cl0_0 := bx0_3.c0); (try have cl1_0 := bx1_3.c0); (try have cl2_0 := bx2_3.c0); have qa25_H0_0 := (BH0_18.out.under hq3 ltH0).c0; have qa25_H1_0 := (BH1_18.out.under hq3 ltH1).c0; have hor := ho; have hfr : ∀ b ∈ fpVR, a24.heap.size ≤ b ∧ b < a25.heap.size := (by first | exact hf | (intro b hm; have := hf b hm; simp at this; omega)); have hfr2 := hf; clear ho hf hb))
    all_goals first | refine NoPanic.normal ?_ | skip
    · (obtain ⟨Q, hP⟩ : ∃ Q, a25.heap.size = Q := ⟨_, rfl⟩; rw [hP]; have hH2 : H + 2 ≤ a22.heap.size := (by have := ltH1; omega); have hPs : a22.heap.size ≤ Q := (by have := hq3.size; omega); have hne : ∀ b ∈ fpVR, b ≠ Q := fun b hm => (by have := hfr b hm; omega); exact ⟨rfl, Q, AV0, dV0, AV1, dV1, AVR, dVR, fpVR, rfl, (by rw [← HWZ.out]; exact hq3.alloc hq3.size _), (by rw [← hP]; exact Box1.new _ _ _), hor.under ((Below.refl _ _).alloc (Nat.le_refl _) _), fun b hm => ⟨by have := hfr b hm; have := hq2.size; omega, by have := hfr b hm; simp; omega, hne b hm⟩, by omega⟩)
    · (obtain ⟨Q, hP⟩ : ∃ Q, a24.heap.size = Q := ⟨_, rfl⟩; have hx0 := bx2_3; have hx := bx2_3; (rw [hP] at hx0 hx); rw [hP]; have hH2 : H + 2 ≤ a22.heap.size := (by have := ltH1; omega); have hPs : a22.heap.size ≤ Q := (by have := hq2.size; omega); have hne : ∀ b ∈ fpVR, b ≠ Q := fun b hm => (by have := hfr2 b hm; have := hx0.lt; have := hb2.size; simp at *; omega); exact ⟨rfl, Q, AV0, dV0, AV1, dV1, AVR, dVR, fpVR, rfl, (by rw [← HWZ.out]; exact hq3.setCell hPs _), hx.set0 _, ODb.onlyM hor (only_setCell _ _ _) (fun b hm hc => hne b hm (by simpa using hc)), fun b hm => ⟨by have := hfr b hm; have := hq2.size; omega, by have := hfr b hm; simp; omega, hne b hm⟩, by omega⟩)
    · (obtain ⟨Q, hP⟩ : ∃ Q, a23.heap.size = Q := ⟨_, rfl⟩; have hx0 := bx1_2; have hx := bx1_3; (rw [hP] at hx0 hx); rw [hP]; have hH2 : H + 2 ≤ a22.heap.size := (by have := ltH1; omega); have hPs : a22.heap.size ≤ Q := (by have := hq1.size; omega); have hne : ∀ b ∈ fpVR, b ≠ Q := fun b hm => (by have := hfr2 b hm; have := hx0.lt; have := hb1.size; have := hb2.size; simp at *; omega); exact ⟨rfl, Q, AV0, dV0, AV1, dV1, AVR, dVR, fpVR, rfl, (by rw [← HWZ.out]; exact hq3.setCell hPs _), hx.set0 _, ODb.onlyM hor (only_setCell _ _ _) (fun b hm hc => hne b hm (by simpa using hc)), fun b hm => ⟨by have := hfr b hm; have := hq2.size; omega, by have := hfr b hm; simp; omega, hne b hm⟩, by omega⟩)
    · (obtain ⟨Q, hP⟩ : ∃ Q, a22.heap.size = Q := ⟨_, rfl⟩; have hx0 := bx0_1; have hx := bx0_3; (rw [hP] at hx0 hx); rw [hP]; have hH2 : H + 2 ≤ a22.heap.size := (by have := ltH1; omega); have hPs : a22.heap.size ≤ Q := (by have := hq0.size; omega); have hne : ∀ b ∈ fpVR, b ≠ Q := fun b hm => (by have := hfr2 b hm; have := hx0.lt; have := hb0.size; have := hb1.size; have := hb2.size; simp at *; omega); exact ⟨rfl, Q, AV0, dV0, AV1, dV1, AVR, dVR, fpVR, rfl, (by rw [← HWZ.out]; exact hq3.setCell hPs _), hx.set0 _, ODb.onlyM hor (only_setCell _ _ _) (fun b hm hc => hne b hm (by simpa using hc)), fun b hm => ⟨by have := hfr b hm; have := hq2.size; omega, by have := hfr b hm; simp; omega, hne b hm⟩, by omega⟩)
  rintro Q AV0 dV0 AV1 dV1 AVR dVR fpVR a26 ⟨hb, hbx, ho, hf, hp⟩
  rw [← HWZ.out] at hb
  clear HWZ
  have HB19 := Lib.hid (HB18.out.trans (hb.mono HB18.out.size))
  have BH0_19 := Lib.hid (BH0_18.out.under hb BH0_18.out.lt)
  have BH1_19 := Lib.hid (BH1_18.out.under hb BH1_18.out.lt)
  have BP_19 := Lib.hid (BP_18.out.under hb BP_18.out.lt)
  have BX0_19 := Lib.hid (BX0_18.out.under hb BX0_18.out.lt)
  have BX1_19 := Lib.hid (BX1_18.out.under hb BX1_18.out.lt)
  have BG_19 := Lib.hid (BG_18.out.under hb BG_18.out.lt)
  have TW_19 := Lib.hid (TW_18.out.under hb)
  have TZ_19 := Lib.hid (TZ_18.out.under hb)
  clear HB18 BH0_18 BH1_18 BP_18 BX0_18 BX1_18 BG_18 TW_18 TZ_18
  have BQ_19 := Lib.hid hbx
  have TQ := Lib.hid ho
  clear ho hf hb hp hbx
  have rQ_0 := BQ_19.out.c0
  have rP_0 := BP_19.out.c0
  have HC := Lib.hid (eqDB_same F a26 _ _ TQ.out.reads TW_19.out.reads)
  go_wp2_with fail
  refine HC.out.mono ?_
  rintro e a27 ⟨rfl, hb⟩
  clear rQ_0 rP_0
  have HB20 := Lib.hid (HB19.out.trans (hb.mono HB19.out.size))
  have BH0_20 := Lib.hid (BH0_19.out.under hb BH0_19.out.lt)
  have BH1_20 := Lib.hid (BH1_19.out.under hb BH1_19.out.lt)
  have BP_20 := Lib.hid (BP_19.out.under hb BP_19.out.lt)
  have BX0_20 := Lib.hid (BX0_19.out.under hb BX0_19.out.lt)
  have BX1_20 := Lib.hid (BX1_19.out.under hb BX1_19.out.lt)
  have BG_20 := Lib.hid (BG_19.out.under hb BG_19.out.lt)
  have BQ_20 := Lib.hid (BQ_19.out.under hb BQ_19.out.lt)
  have TW_20 := Lib.hid (TW_19.out.under hb)
  have TZ_20 := Lib.hid (TZ_19.out.under hb)
  clear HB19 BH0_19 BH1_19 BP_19 BX0_19 BX1_19 BG_19 BQ_19 TW_19 TZ_19
  clear HC hb
  have rG_0 := BG_20.out.c0
  have HC := Lib.hid (heldDb_any Fm a27 _ 1 km TZ_20.out.reads HLD.out (by decide) kmb)
  go_wp2_with fail
  refine HC.out.mono ?_
  rintro e a28 ⟨rfl, hb⟩
  clear rG_0
  have HY : Hid (LawYes w (.returned (.bool true)) a28) := ⟨rfl, HB20.out.trans (hb.mono HB20.out.size)⟩
  clear HC hb
  go_wp2_with fail
  go_ret
  exact HY.out
end Go.Proofs.YtlikmgkjilmjpaaGreat
