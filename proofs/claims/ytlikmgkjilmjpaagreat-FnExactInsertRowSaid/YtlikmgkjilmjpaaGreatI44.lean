/-
  Merged by program: InsLaw.
-/
import Derived.Test.YtlikmgkjilmjpaaGreatI14
import Derived.Test.YtlikmgkjilmjpaaGreatI15
import Derived.Test.YtlikmgkjilmjpaaGreatI16
import Derived.Test.YtlikmgkjilmjpaaGreatI10
import Derived.Test.YtlikmgkjilmjpaaGreatI11
import Derived.Test.YtlikmgkjilmjpaaGreatI5
import Derived.Test.YtlikmgkjilmjpaaGreatI31
import Derived.Test.YtlikmgkjilmjpaaGreatI43
import Derived.Deep.RegionHeld3

/-
  The walk of laws.FnExactInsertRow. Written by genex.py.
-/
namespace Go.Proofs.YtlikmgkjilmjpaaGreat
open Go.RowKit

def inrMadeA0 (t : Sc) (y0_0 : Nat) (w : World) (e : Ending) (w' : World) : Prop :=
  ∃ (A : Option Addr) (d : Nat) (fp : List Nat), e = .returned (.agg #[.slice A y0_0 d]) ∧ OSc w' t [.slice A y0_0 d] fp ∧ (∀ b ∈ fp, w.heap.size ≤ b ∧ b < w'.heap.size) ∧ Below w.heap.size w w'
def inrMadeA1 (t : Db) (y1_0 : Nat) (w : World) (e : Ending) (w' : World) : Prop :=
  ∃ (A : Option Addr) (d : Nat) (fp : List Nat), e = .returned (.agg #[.slice A y1_0 d]) ∧ ODb w' t [.slice A y1_0 d] fp ∧ (∀ b ∈ fp, w.heap.size ≤ b ∧ b < w'.heap.size) ∧ Below w.heap.size w w'
def inrMadeA3 (t : Va) (y3_0 : Int) (y3_1 : Int) (y3_2 : Nat) (y3_3 : Nat) (w : World) (e : Ending) (w' : World) : Prop :=
  ∃ (L A : Option Addr) (l d : Nat) (fp : List Nat), e = .returned (.agg #[.int .i64 y3_0, .int .i64 y3_1, .slice L y3_2 l, .slice A y3_3 d]) ∧ OVa w' t [.int .i64 y3_0, .int .i64 y3_1, .slice L y3_2 l, .slice A y3_3 d] fp ∧ (∀ b ∈ fp, w.heap.size ≤ b ∧ b < w'.heap.size) ∧ Below w.heap.size w w'
def inrMadeR (F : Db) (f0 : Nat) (fb : Bool) (w : World) (e : Ending) (w' : World) : Prop :=
  ∃ (A : Option Addr) (d : Nat) (fp : List Nat), e = .returned (.tuple #[.agg #[.slice A f0 d], .bool fb]) ∧ ODb w' F [.slice A f0 d] fp ∧ (∀ b ∈ fp, w.heap.size ≤ b ∧ b < w'.heap.size) ∧ Below w.heap.size w w'
/-- a database in new memory, and a truth -/
def inrMadeB (p : Db × Bool) (w : World) (e : Ending) (w' : World) : Prop :=
  ∃ (A : Option Addr) (d : Nat) (fp : List Nat), e = .returned (.tuple #[.agg #[.slice A p.1.length d], .bool p.2]) ∧ ODb w' p.1 [.slice A p.1.length d] fp ∧ (∀ b ∈ fp, w.heap.size ≤ b ∧ b < w'.heap.size) ∧ Below w.heap.size w w'
theorem inr_madeR {p : Db × Bool} {w : World} {e : Ending} {w' : World} (h : inrMadeB p w e w') : inrMadeR p.1 (p.1.length) p.2 w e w' := h
/-- a region, cut off by what it leaves -/
theorem inr_cut {c : Code} {Q : Exit → Act → World → Prop} {a : Act} {w : World} (f : Nat → Option Addr → Nat → Option Addr → Nat → Option Addr → Nat → Option Addr → Nat → Option Addr → Nat → Act) (R : Nat → Option Addr → Nat → Option Addr → Nat → Option Addr → Nat → Option Addr → Nat → Option Addr → Nat → List Nat → World → Prop) (hq : ∀ (v0 : Nat) (v1 : Option Addr) (v2 : Nat) (v3 : Option Addr) (v4 : Nat) (v5 : Option Addr) (v6 : Nat) (v7 : Option Addr) (v8 : Nat) (v9 : Option Addr) (v10 : Nat) (fp : List Nat) (w' : World), R v0 v1 v2 v3 v4 v5 v6 v7 v8 v9 v10 fp w' → Q .normal (f v0 v1 v2 v3 v4 v5 v6 v7 v8 v9 v10) w')
    (h : c.wp Tryz.prog (fun e a' w' => e = .normal ∧ ∃ (v0 : Nat) (v1 : Option Addr) (v2 : Nat) (v3 : Option Addr) (v4 : Nat) (v5 : Option Addr) (v6 : Nat) (v7 : Option Addr) (v8 : Nat) (v9 : Option Addr) (v10 : Nat) (fp : List Nat), a' = f v0 v1 v2 v3 v4 v5 v6 v7 v8 v9 v10 ∧ R v0 v1 v2 v3 v4 v5 v6 v7 v8 v9 v10 fp w') a w) : c.wp Tryz.prog Q a w :=
  Code.wp_mono (fun _ _ w' ⟨h1, v0, v1, v2, v3, v4, v5, v6, v7, v8, v9, v10, fp, h2, h3⟩ => by subst h1 h2; exact hq v0 v1 v2 v3 v4 v5 v6 v7 v8 v9 v10 fp w' h3) h


set_option maxRecDepth 100000 in
set_option maxHeartbeats 16000000 in
theorem inr_law (t0 : Sc) (cs0 : List Value) (t1 : Db) (cs1 : List Value) (x2 : ByteArray) (t3 : Va) (cs3 : List Value) (w : World) (h0 : RSc w t0 cs0) (h1 : RDb w t1 cs1) (hx2 : x2.size ≤ 9223372036854775807) (h3 : RVa w t3 cs3) : Calls Tryz.prog 3 #[.agg cs0.toArray, .agg cs1.toArray, .string x2, .agg cs3.toArray] w (LawYes w) := by
  obtain ⟨c0_0, rfl⟩ := h0.one
  obtain ⟨c1_0, rfl⟩ := h1.one
  obtain ⟨c3_0, c3_1, c3_2, c3_3, rfl⟩ := h3.four
  obtain ⟨W1, hW1⟩ : ∃ W1, (((w.alloc (.cells #[c0_0] 24)).alloc (.cells #[c1_0] 27)).alloc (.cells #[c3_0, c3_1, c3_2, c3_3] 31)) = W1 := ⟨_, rfl⟩
  obtain ⟨H, hH⟩ : ∃ H, w.heap.size = H := ⟨_, rfl⟩
  have hbox0 : Box1 W1 H 24 c0_0 := by
    rw [← hW1, ← hH]
    have := ((Box1.new w 24 c0_0).alloc (.cells #[c1_0] 27)).alloc (.cells #[c3_0, c3_1, c3_2, c3_3] 31)
    simpa using this
  have hbox1 : Box1 W1 (H + 1) 27 c1_0 := by
    rw [← hW1, ← hH]
    have := (Box1.new (w.alloc (.cells #[c0_0] 24)) 27 c1_0).alloc (.cells #[c3_0, c3_1, c3_2, c3_3] 31)
    simpa using this
  have hbox3 : Box4 W1 (H + 2) 31 c3_0 c3_1 c3_2 c3_3 := by
    rw [← hW1, ← hH]
    have := Box4.new ((w.alloc (.cells #[c0_0] 24)).alloc (.cells #[c1_0] 27)) 31 c3_0 c3_1 c3_2 c3_3
    simpa using this
  have hb0 : Below w.heap.size w W1 := by rw [← hW1]; exact (((Below.refl _ _).alloc (Nat.le_refl _) _).alloc (by simp) _).alloc (by simp; omega) _
  by_cases hbig2 : 1048576 < x2.size
  · have HY : Hid (LawYes w (.returned (.bool true)) W1) := ⟨rfl, hb0⟩
    have HW1 := Lib.hid hW1
    clear h0 h1 h3 hbox0 hbox1 hbox3 hb0 hW1
    go_enter Tryz.func3, Tryz.ntmps3
    go_wp2_with fail
    rw [HW1.out]
    go_ret
    exact HY.out
  have hxx2 : ¬ (1048576 : Int) < (x2.size : Int) := by omega
  have HSZ0 := Lib.hid (fun W (hB : Below w.heap.size w W) left l0 l1 => szSchema_any t0 W _ left (h0.keep hB) l0 l1)
  have HT0 := Lib.hid (fun W (hB : Below w.heap.size w W) => h0.keep hB)
  have BH0_0 := Lib.hid hbox0
  have HSZ1 := Lib.hid (fun W (hB : Below w.heap.size w W) left l0 l1 => szDB_any t1 W _ left (h1.keep hB) l0 l1)
  have HT1 := Lib.hid (fun W (hB : Below w.heap.size w W) => h1.keep hB)
  have BH1_0 := Lib.hid hbox1
  have HSZ3 := Lib.hid (fun W (hB : Below w.heap.size w W) left l0 l1 => szValue_any t3 W _ left (h3.keep hB) l0 l1)
  have HT3 := Lib.hid (fun W (hB : Below w.heap.size w W) => h3.keep hB)
  have BH3_0 := Lib.hid hbox3
  have HW1 := Lib.hid hW1
  have HB0 := Lib.hid hb0
  have HHH := Lib.hid hH
  clear h0 h1 h3 hbox0 hbox1 hbox3 hb0 hW1 hbig2
  go_enter Tryz.func3, Tryz.ntmps3
  have rH0_0 := BH0_0.out.c0
  have HC := Lib.hid (HSZ0.out W1 HB0.out 1048576 (by decide) (by decide))
  go_wp2_with fail
  rw [HW1.out]
  go_wp2_with fail
  refine HC.out.mono ?_
  rintro e a1 ⟨sr0, rfl, r1, r2, r3, hb⟩
  clear rH0_0
  clear HC HSZ0
  have HB1 := Lib.hid (HB0.out.trans (hb.mono HB0.out.size))
  have BH0_1 := Lib.hid (BH0_0.out.under hb BH0_0.out.lt)
  have BH1_1 := Lib.hid (BH1_0.out.under hb BH1_0.out.lt)
  have BH3_1 := Lib.hid (BH3_0.out.under hb BH3_0.out.lt)
  clear HB0 BH0_0 BH1_0 BH3_0
  clear hb
  by_cases hr : sr0 < 0
  · have HY : Hid (LawYes w (.returned (.bool true)) a1) := ⟨rfl, HB1.out⟩
    clear r3
    go_wp2_with fail
    go_ret
    exact HY.out
  have hw0 : wSc t0 ≤ 1048576 := by have := r3 (by omega); omega
  have hrr0 : 0 ≤ sr0 := by omega
  have hr10 : sr0 ≤ 1048576 := by omega
  clear r3 hr r1 r2
  have HWT0 := Lib.hid hw0
  clear hw0
  have rH1_0 := BH1_1.out.c0
  have HC := Lib.hid (HSZ1.out a1 HB1.out sr0 hrr0 hr10)
  go_wp2_with fail
  refine HC.out.mono ?_
  rintro e a2 ⟨sr1, rfl, r1, r2, r3, hb⟩
  clear rH1_0
  clear HC HSZ1
  have HB2 := Lib.hid (HB1.out.trans (hb.mono HB1.out.size))
  have BH0_2 := Lib.hid (BH0_1.out.under hb BH0_1.out.lt)
  have BH1_2 := Lib.hid (BH1_1.out.under hb BH1_1.out.lt)
  have BH3_2 := Lib.hid (BH3_1.out.under hb BH3_1.out.lt)
  clear HB1 BH0_1 BH1_1 BH3_1
  clear hb
  by_cases hr : sr1 < 0
  · have HY : Hid (LawYes w (.returned (.bool true)) a2) := ⟨rfl, HB2.out⟩
    clear r3
    go_wp2_with fail
    go_ret
    exact HY.out
  have hw1 : wDb t1 ≤ 1048576 := by have := r3 (by omega); omega
  have hrr1 : 0 ≤ sr1 := by omega
  have hr11 : sr1 ≤ 1048576 := by omega
  clear r3 hr r1 r2
  have HWT1 := Lib.hid hw1
  clear hw1
  have rH3_0 := BH3_2.out.c0
  have rH3_1 := BH3_2.out.c1
  have rH3_2 := BH3_2.out.c2
  have rH3_3 := BH3_2.out.c3
  have HC := Lib.hid (HSZ3.out a2 HB2.out sr1 hrr1 hr11)
  go_wp2_with fail
  refine HC.out.mono ?_
  rintro e a3 ⟨sr3, rfl, r1, r2, r3, hb⟩
  clear rH3_0 rH3_1 rH3_2 rH3_3
  clear HC HSZ3
  have HB3 := Lib.hid (HB2.out.trans (hb.mono HB2.out.size))
  have BH0_3 := Lib.hid (BH0_2.out.under hb BH0_2.out.lt)
  have BH1_3 := Lib.hid (BH1_2.out.under hb BH1_2.out.lt)
  have BH3_3 := Lib.hid (BH3_2.out.under hb BH3_2.out.lt)
  clear HB2 BH0_2 BH1_2 BH3_2
  clear hb
  by_cases hr : sr3 < 0
  · have HY : Hid (LawYes w (.returned (.bool true)) a3) := ⟨rfl, HB3.out⟩
    clear r3
    go_wp2_with fail
    go_ret
    exact HY.out
  have hw3 : wv t3 ≤ 1048576 := by have := r3 (by omega); omega
  have hrr3 : 0 ≤ sr3 := by omega
  have hr13 : sr3 ≤ 1048576 := by omega
  clear r3 hr r1 r2
  have HWT3 := Lib.hid hw3
  have hw0 := HWT0.out
  have hw1 := HWT1.out
  obtain ⟨F, fb, hF⟩ : ∃ F fb, chgD t0 t1 x2 (insF t3) = (F, fb) := ⟨_, _, rfl⟩
  have hcn0 : cntSc t0 ≤ 4 * 1048576 + 4 := by have := cnt_wSc t0; omega
  have hcn1 : cntDb t1 ≤ 4 * 1048576 + 4 := by have := cnt_wDb t1; omega
  have hcn3 : Tr.cntV t3 ≤ 4 * 1048576 + 4 := by have := cnt_wvM t3; omega
  have HK0 : Hid ((1 : Int) + ((cntSc t0 : Nat) : Int) ≤ 1000000000000) := Lib.hid (by omega)
  have HK1 : Hid ((1 : Int) + ((cntSc t0 : Nat) : Int) + ((cntDb t1 : Nat) : Int) ≤ 1000000000000) := Lib.hid (by omega)
  have HK3 : Hid ((1 : Int) + ((cntSc t0 : Nat) : Int) + ((cntDb t1 : Nat) : Int) + ((Tr.cntV t3 : Nat) : Int) ≤ 1000000000000) := Lib.hid (by omega)
  have HCF : Hid ((1 : Int) + cntDb F ≤ 1000000000000) := Lib.hid (by have hbd := (ins_bound hw1 hw3 hF); omega)
  obtain ⟨y0_0, hy0_0⟩ : ∃ y0_0, t0.length = y0_0 := ⟨_, rfl⟩
  obtain ⟨y1_0, hy1_0⟩ : ∃ y1_0, t1.length = y1_0 := ⟨_, rfl⟩
  obtain ⟨y3_0, hy3_0⟩ : ∃ y3_0, t3.top.kind = y3_0 := ⟨_, rfl⟩
  obtain ⟨y3_1, hy3_1⟩ : ∃ y3_1, t3.top.num = y3_1 := ⟨_, rfl⟩
  obtain ⟨y3_2, hy3_2⟩ : ∃ y3_2, t3.top.labels.length = y3_2 := ⟨_, rfl⟩
  obtain ⟨y3_3, hy3_3⟩ : ∃ y3_3, t3.kids.length = y3_3 := ⟨_, rfl⟩
  obtain ⟨f0, hf0⟩ : ∃ f0, F.length = f0 := ⟨_, rfl⟩
  have TO0 : Hid (∀ W, Below w.heap.size w W → Calls Tryz.prog 9 #[.agg #[c0_0]] W (inrMadeA0 t0 y0_0 W)) := Lib.hid (fun W hB => by
    refine (toSchema_any t0 W _ (HT0.out W hB) HWT0.out).mono ?_
    rintro e w' hm
    unfold MadeSc at hm
    simp only [hy0_0] at hm
    exact hm)
  have TO1 : Hid (∀ W, Below w.heap.size w W → Calls Tryz.prog 10 #[.agg #[c1_0]] W (inrMadeA1 t1 y1_0 W)) := Lib.hid (fun W hB => by
    refine (toDB_any t1 W _ (HT1.out W hB) HWT1.out).mono ?_
    rintro e w' hm
    unfold MadeDb at hm
    simp only [hy1_0] at hm
    exact hm)
  have TO3 : Hid (∀ W, Below w.heap.size w W → Calls Tryz.prog 11 #[.agg #[c3_0, c3_1, c3_2, c3_3]] W (inrMadeA3 t3 y3_0 y3_1 y3_2 y3_3 W)) := Lib.hid (fun W hB => by
    refine (toValue_any t3 W _ (HT3.out W hB) HWT3.out).mono ?_
    rintro e w' hm
    unfold MadeV at hm
    simp only [hy3_0, hy3_1, hy3_2, hy3_3] at hm
    exact hm)
  have SPF : Hid (∀ (W : World) (cs0 : List Value) (fp0 : List Nat) (cs1 : List Value) (fp1 : List Nat) (cs3 : List Value) (fp3 : List Nat), OSc W t0 cs0 fp0 → ODb W t1 cs1 fp1 → OVa W t3 cs3 fp3 → Calls Tryz.prog 8 #[.agg cs0.toArray, .agg cs1.toArray, .string x2, .agg cs3.toArray] W (inrMadeR F f0 fb W)) := Lib.hid (fun W cs0 fp0 cs1 fp1 cs3 fp3 ho0 ho1 ho3 => by
    refine (specIns_any t0 t1 x2 t3 W cs0 cs1 cs3 ho0.reads ho1.reads ho3.reads HWT0.out HWT1.out HWT3.out).mono ?_
    rintro e w' hm
    have hm := inr_madeR hm
    rw [hF] at hm
    simp only [hf0] at hm
    exact hm)
  have IMF : Hid (∀ (W : World) (cs0 : List Value) (fp0 : List Nat) (cs1 : List Value) (fp1 : List Nat) (cs3 : List Value) (fp3 : List Nat), OSc W t0 cs0 fp0 → ODb W t1 cs1 fp1 → OVa W t3 cs3 fp3 → Calls Tryz.prog 12 #[.agg cs0.toArray, .agg cs1.toArray, .string x2, .agg cs3.toArray] W (inrMadeR F f0 fb W)) := Lib.hid (fun W cs0 fp0 cs1 fp1 cs3 fp3 ho0 ho1 ho3 => by
    refine (implIns_any t0 t1 x2 t3 W cs0 cs1 cs3 ho0.reads ho1.reads ho3.reads HWT0.out HWT1.out HWT3.out (by unfold maxLen; omega)).mono ?_
    rintro e w' hm
    have hm := inr_madeR hm
    rw [hF] at hm
    simp only [hf0] at hm
    exact hm)
  clear hw0 hw1 hw3 hcn0 hcn1 hcn3 HT0 HT1 HT3 hF hy0_0 hy1_0 hy3_0 hy3_1 hy3_2 hy3_3 hf0 HWT0 HWT1 HWT3
  have rH0_0 := BH0_3.out.c0
  have rH1_0 := BH1_3.out.c0
  have rH3_0 := BH3_3.out.c0
  have rH3_1 := BH3_3.out.c1
  have rH3_2 := BH3_3.out.c2
  have rH3_3 := BH3_3.out.c3
  go_wp2_with fail
  clear rH0_0 rH1_0 rH3_0 rH3_1 rH3_2 rH3_3
  obtain ⟨WZ, hWZ⟩ : ∃ WZ, a3.heap.size = WZ := ⟨_, rfl⟩
  have HWZ := Lib.hid hWZ
  clear hWZ
  apply inr_cut (R := fun P AW0 dW0 AW1 dW1 LW3 lW3 AW3 dW3 AWR dWR fpWR w' => Below WZ a3 w' ∧ Box1 w' P 37 (.slice AWR f0 dWR) ∧ ODb w' F [.slice AWR f0 dWR] fpWR ∧ (∀ b ∈ fpWR, H + 3 ≤ b ∧ b < w'.heap.size ∧ b ≠ P) ∧ H + 3 ≤ P)
  rotate_left 1
  · have hq0 : Below a3.heap.size a3 a3.drew := (Below.refl _ _).drew
    have rrH0_0 : a3.drew.cell? ⟨H, 0, none⟩ = some c0_0 := BH0_3.out.c0
    have rrH1_0 : a3.drew.cell? ⟨H + 1, 0, none⟩ = some c1_0 := BH1_3.out.c0
    have rrH3_0 : a3.drew.cell? ⟨H + 2, 0, none⟩ = some c3_0 := BH3_3.out.c0
    have rrH3_1 : a3.drew.cell? ⟨H + 2, 1, none⟩ = some c3_1 := BH3_3.out.c1
    have rrH3_2 : a3.drew.cell? ⟨H + 2, 2, none⟩ = some c3_2 := BH3_3.out.c2
    have rrH3_3 : a3.drew.cell? ⟨H + 2, 3, none⟩ = some c3_3 := BH3_3.out.c3
    have ltH0 : H < a3.heap.size := BH0_3.out.lt
    have ltH1 : H + 1 < a3.heap.size := BH1_3.out.lt
    have ltH3 : H + 2 < a3.heap.size := BH3_3.out.lt
    have HBI := Lib.hid HB3.out
    have rsH0_0 : a3.cell? ⟨H, 0, none⟩ = some c0_0 := BH0_3.out.c0
    have rsH1_0 : a3.cell? ⟨H + 1, 0, none⟩ = some c1_0 := BH1_3.out.c0
    have rsH3_0 : a3.cell? ⟨H + 2, 0, none⟩ = some c3_0 := BH3_3.out.c0
    have rsH3_1 : a3.cell? ⟨H + 2, 1, none⟩ = some c3_1 := BH3_3.out.c1
    have rsH3_2 : a3.cell? ⟨H + 2, 2, none⟩ = some c3_2 := BH3_3.out.c2
    have rsH3_3 : a3.cell? ⟨H + 2, 3, none⟩ = some c3_3 := BH3_3.out.c3
    go_region_held3 (fun W => W.cell? ⟨H, 0, none⟩ = some c0_0 ∧ W.cell? ⟨H + 1, 0, none⟩ = some c1_0 ∧ W.cell? ⟨H + 2, 0, none⟩ = some c3_0 ∧ W.cell? ⟨H + 2, 1, none⟩ = some c3_1 ∧ W.cell? ⟨H + 2, 2, none⟩ = some c3_2 ∧ W.cell? ⟨H + 2, 3, none⟩ = some c3_3)
      (first | (refine ⟨?_, ?_, ?_, ?_, ?_, ?_⟩ <;> first | assumption | exact (World.cell?_setCell_far _ _ _ _ (World.new_ne _ _ (by assumption))).trans (by assumption)) | go_keep)
      (first
        | (go_at_call 9; refine (TO0.out _ (HBI.out.trans (Below.mono (by first | exact hq0 | exact hq0.alloc hq0.size _) HBI.out.size))).mono ?_; rintro e a4 ⟨AW0, dW0, fpW0, rfl, ho, hf, hb⟩; have hb0 := hb; have hq1 : Below a3.heap.size a3 a4 := (by first | exact hq0.trans (hb.mono hq0.size) | exact (hq0.alloc hq0.size _).trans (hb.mono (hq0.alloc hq0.size _).size)); (try have bx0_1 : Box1 a4 a3.heap.size 37 _ := (Box1.new a3.drew 37 _).under hb (by simp)); have UW0_1 := ho; have qa4_H0_0 := (BH0_3.out.under hq1 ltH0).c0; have qa4_H1_0 := (BH1_3.out.under hq1 ltH1).c0; have qa4_H3_0 := (BH3_3.out.under hq1 ltH3).c0; have qa4_H3_1 := (BH3_3.out.under hq1 ltH3).c1; have qa4_H3_2 := (BH3_3.out.under hq1 ltH3).c2; have qa4_H3_3 := (BH3_3.out.under hq1 ltH3).c3; clear ho hf hb)
        | (go_at_call 10; refine (TO1.out _ (HBI.out.trans (Below.mono (by first | exact hq1 | exact hq1.alloc hq1.size _) HBI.out.size))).mono ?_; rintro e a5 ⟨AW1, dW1, fpW1, rfl, ho, hf, hb⟩; have hb1 := hb; have hq2 : Below a3.heap.size a3 a5 := (by first | exact hq1.trans (hb.mono hq1.size) | exact (hq1.alloc hq1.size _).trans (hb.mono (hq1.alloc hq1.size _).size)); (try have bx0_2 := bx0_1.under hb bx0_1.lt); (try have bx1_2 : Box1 a5 a4.heap.size 37 _ := (Box1.new a4 37 _).under hb (by simp)); have UW0_2 : OSc a5 t0 [.slice AW0 y0_0 dW0] fpW0 := (by first | exact UW0_1.under hb | exact (UW0_1.under ((Below.refl _ _).alloc (Nat.le_refl _) _)).under hb); have UW1_2 := ho; have qa5_H0_0 := (BH0_3.out.under hq2 ltH0).c0; have qa5_H1_0 := (BH1_3.out.under hq2 ltH1).c0; have qa5_H3_0 := (BH3_3.out.under hq2 ltH3).c0; have qa5_H3_1 := (BH3_3.out.under hq2 ltH3).c1; have qa5_H3_2 := (BH3_3.out.under hq2 ltH3).c2; have qa5_H3_3 := (BH3_3.out.under hq2 ltH3).c3; clear ho hf hb)
        | (go_at_call 11; refine (TO3.out _ (HBI.out.trans (Below.mono (by first | exact hq2 | exact hq2.alloc hq2.size _) HBI.out.size))).mono ?_; rintro e a6 ⟨LW3, AW3, lW3, dW3, fpW3, rfl, ho, hf, hb⟩; have hb2 := hb; have hq3 : Below a3.heap.size a3 a6 := (by first | exact hq2.trans (hb.mono hq2.size) | exact (hq2.alloc hq2.size _).trans (hb.mono (hq2.alloc hq2.size _).size)); (try have bx0_3 := bx0_2.under hb bx0_2.lt); (try have bx1_3 := bx1_2.under hb bx1_2.lt); (try have bx2_3 : Box1 a6 a5.heap.size 37 _ := (Box1.new a5 37 _).under hb (by simp)); have UW0_3 : OSc a6 t0 [.slice AW0 y0_0 dW0] fpW0 := (by first | exact UW0_2.under hb | exact (UW0_2.under ((Below.refl _ _).alloc (Nat.le_refl _) _)).under hb); have UW1_3 : ODb a6 t1 [.slice AW1 y1_0 dW1] fpW1 := (by first | exact UW1_2.under hb | exact (UW1_2.under ((Below.refl _ _).alloc (Nat.le_refl _) _)).under hb); have UW3_3 := ho; have qa6_H0_0 := (BH0_3.out.under hq3 ltH0).c0; have qa6_H1_0 := (BH1_3.out.under hq3 ltH1).c0; have qa6_H3_0 := (BH3_3.out.under hq3 ltH3).c0; have qa6_H3_1 := (BH3_3.out.under hq3 ltH3).c1; have qa6_H3_2 := (BH3_3.out.under hq3 ltH3).c2; have qa6_H3_3 := (BH3_3.out.under hq3 ltH3).c3; clear ho hf hb)
        | (go_at_call 8; refine (SPF.out _ [.slice AW0 y0_0 dW0] fpW0 [.slice AW1 y1_0 dW1] fpW1 [.int .i64 y3_0, .int .i64 y3_1, .slice LW3 y3_2 lW3, .slice AW3 y3_3 dW3] fpW3 (by first | exact UW0_3 | exact UW0_3.under ((Below.refl _ _).alloc (Nat.le_refl _) _)) (by first | exact UW1_3 | exact UW1_3.under ((Below.refl _ _).alloc (Nat.le_refl _) _)) (by first | exact UW3_3 | exact UW3_3.under ((Below.refl _ _).alloc (Nat.le_refl _) _))).mono ?_; rintro e a7 ⟨AWR, dWR, fpWR, rfl, ho, hf, hb⟩; have hb3 := hb; have hq4 : Below a3.heap.size a3 a7 := (by first | exact hq3.trans (hb.mono hq3.size) | exact (hq3.alloc hq3.size _).trans (hb.mono (hq3.alloc hq3.size _).size)); (try have bx0_4 := bx0_3.under hb bx0_3.lt); (try have bx1_4 := bx1_3.under hb bx1_3.lt); (try have bx2_4 := bx2_3.under hb bx2_3.lt); (try have bx3_4 : Box1 a7 a6.heap.size 37 _ := (Box1.new a6 37 _).under hb (by simp)); (try have fz0 := bx0_4.free 0); (try have fz1 := bx1_4.free 0); (try have fz2 := bx2_4.free 0); (try have fz3 := bx3_4.free 0); (try have cl0_0 := bx0_4.c0); (try have cl1_0 := bx1_4.c0); (try have cl2_0 := bx2_4.c0); (try have cl3_0 := bx3_4.c0); have qa7_H0_0 := (BH0_3.out.under hq4 ltH0).c0; have qa7_H1_0 := (BH1_3.out.under hq4 ltH1).c0; have qa7_H3_0 := (BH3_3.out.under hq4 ltH3).c0; have qa7_H3_1 := (BH3_3.out.under hq4 ltH3).c1; have qa7_H3_2 := (BH3_3.out.under hq4 ltH3).c2; have qa7_H3_3 := (BH3_3.out.under hq4 ltH3).c3; have hor := ho; have hfr : ∀ b ∈ fpWR, a6.heap.size ≤ b ∧ b < a7.heap.size := (by first | exact hf | (intro b hm; have := hf b hm; simp at this; omega)); have hfr2 := hf; clear ho hf hb))
    all_goals first | refine NoPanic.normal ?_ | skip
    · (obtain ⟨P, hP⟩ : ∃ P, a7.heap.size = P := ⟨_, rfl⟩; rw [hP]; have hH3 : H + 3 ≤ a3.heap.size := (by have := ltH3; omega); have hPs : a3.heap.size ≤ P := (by have := hq4.size; omega); have hne : ∀ b ∈ fpWR, b ≠ P := fun b hm => (by have := hfr b hm; omega); exact ⟨rfl, P, AW0, dW0, AW1, dW1, LW3, lW3, AW3, dW3, AWR, dWR, fpWR, rfl, (by rw [← HWZ.out]; exact hq4.alloc hq4.size _), (by rw [← hP]; exact Box1.new _ _ _), hor.under ((Below.refl _ _).alloc (Nat.le_refl _) _), fun b hm => ⟨by have := hfr b hm; have := hq3.size; omega, by have := hfr b hm; simp; omega, hne b hm⟩, by omega⟩)
    · (obtain ⟨P, hP⟩ : ∃ P, a6.heap.size = P := ⟨_, rfl⟩; have hx0 := bx3_4; have hx := bx3_4; (rw [hP] at hx0 hx); rw [hP]; have hH3 : H + 3 ≤ a3.heap.size := (by have := ltH3; omega); have hPs : a3.heap.size ≤ P := (by have := hq3.size; omega); have hne : ∀ b ∈ fpWR, b ≠ P := fun b hm => (by have := hfr2 b hm; have := hx0.lt; have := hb3.size; simp at *; omega); exact ⟨rfl, P, AW0, dW0, AW1, dW1, LW3, lW3, AW3, dW3, AWR, dWR, fpWR, rfl, (by rw [← HWZ.out]; exact hq4.setCell hPs _), hx.set0 _, ODb.onlyM hor (only_setCell _ _ _) (fun b hm hc => hne b hm (by simpa using hc)), fun b hm => ⟨by have := hfr b hm; have := hq3.size; omega, by have := hfr b hm; simp; omega, hne b hm⟩, by omega⟩)
    · (obtain ⟨P, hP⟩ : ∃ P, a5.heap.size = P := ⟨_, rfl⟩; have hx0 := bx2_3; have hx := bx2_4; (rw [hP] at hx0 hx); rw [hP]; have hH3 : H + 3 ≤ a3.heap.size := (by have := ltH3; omega); have hPs : a3.heap.size ≤ P := (by have := hq2.size; omega); have hne : ∀ b ∈ fpWR, b ≠ P := fun b hm => (by have := hfr2 b hm; have := hx0.lt; have := hb2.size; have := hb3.size; simp at *; omega); exact ⟨rfl, P, AW0, dW0, AW1, dW1, LW3, lW3, AW3, dW3, AWR, dWR, fpWR, rfl, (by rw [← HWZ.out]; exact hq4.setCell hPs _), hx.set0 _, ODb.onlyM hor (only_setCell _ _ _) (fun b hm hc => hne b hm (by simpa using hc)), fun b hm => ⟨by have := hfr b hm; have := hq3.size; omega, by have := hfr b hm; simp; omega, hne b hm⟩, by omega⟩)
    · (obtain ⟨P, hP⟩ : ∃ P, a4.heap.size = P := ⟨_, rfl⟩; have hx0 := bx1_2; have hx := bx1_4; (rw [hP] at hx0 hx); rw [hP]; have hH3 : H + 3 ≤ a3.heap.size := (by have := ltH3; omega); have hPs : a3.heap.size ≤ P := (by have := hq1.size; omega); have hne : ∀ b ∈ fpWR, b ≠ P := fun b hm => (by have := hfr2 b hm; have := hx0.lt; have := hb1.size; have := hb2.size; have := hb3.size; simp at *; omega); exact ⟨rfl, P, AW0, dW0, AW1, dW1, LW3, lW3, AW3, dW3, AWR, dWR, fpWR, rfl, (by rw [← HWZ.out]; exact hq4.setCell hPs _), hx.set0 _, ODb.onlyM hor (only_setCell _ _ _) (fun b hm hc => hne b hm (by simpa using hc)), fun b hm => ⟨by have := hfr b hm; have := hq3.size; omega, by have := hfr b hm; simp; omega, hne b hm⟩, by omega⟩)
    · (obtain ⟨P, hP⟩ : ∃ P, a3.heap.size = P := ⟨_, rfl⟩; have hx0 := bx0_1; have hx := bx0_4; (rw [hP] at hx0 hx); rw [hP]; have hH3 : H + 3 ≤ a3.heap.size := (by have := ltH3; omega); have hPs : a3.heap.size ≤ P := (by have := hq0.size; omega); have hne : ∀ b ∈ fpWR, b ≠ P := fun b hm => (by have := hfr2 b hm; have := hx0.lt; have := hb0.size; have := hb1.size; have := hb2.size; have := hb3.size; simp at *; omega); exact ⟨rfl, P, AW0, dW0, AW1, dW1, LW3, lW3, AW3, dW3, AWR, dWR, fpWR, rfl, (by rw [← HWZ.out]; exact hq4.setCell hPs _), hx.set0 _, ODb.onlyM hor (only_setCell _ _ _) (fun b hm hc => hne b hm (by simpa using hc)), fun b hm => ⟨by have := hfr b hm; have := hq3.size; omega, by have := hfr b hm; simp; omega, hne b hm⟩, by omega⟩)
  rintro P AW0 dW0 AW1 dW1 LW3 lW3 AW3 dW3 AWR dWR fpWR a8 ⟨hb, hbx, ho, hf, hp⟩
  rw [← HWZ.out] at hb
  clear HWZ
  have HB4 := Lib.hid (HB3.out.trans (hb.mono HB3.out.size))
  have BH0_4 := Lib.hid (BH0_3.out.under hb BH0_3.out.lt)
  have BH1_4 := Lib.hid (BH1_3.out.under hb BH1_3.out.lt)
  have BH3_4 := Lib.hid (BH3_3.out.under hb BH3_3.out.lt)
  clear HB3 BH0_3 BH1_3 BH3_3
  obtain ⟨PB, hPB⟩ : ∃ PB, a8.heap.size = PB := ⟨_, rfl⟩
  have BP_4 := Lib.hid hbx
  have TW_4 := Lib.hid ho
  have NW : Hid (∀ b ∈ fpWR, H + 3 ≤ b ∧ b < PB ∧ b ≠ P) := Lib.hid (fun b hm => ⟨(hf b hm).1, by have := (hf b hm).2.1; omega, (hf b hm).2.2⟩)
  have NUM : Hid (H + 3 ≤ P ∧ P < PB ∧ PB ≤ a8.heap.size) := Lib.hid (by have := hbx.lt; omega)
  clear ho hf hb hp hbx hPB
  have rH0_0 := BH0_4.out.c0
  go_wp2_with fail
  refine (TO0.out a8 HB4.out).mono ?_
  rintro e a9 ⟨AX0, dX0, fpX0, rfl, ho, hf, hb⟩
  clear rH0_0
  obtain ⟨a10, ha10⟩ : ∃ a10, a9.alloc (.cells #[.slice AX0 y0_0 dX0] 42) = a10 := ⟨_, rfl⟩
  obtain ⟨X0, hX0⟩ : ∃ X0, a9.heap.size = X0 := ⟨_, rfl⟩
  have hza10 : a10.heap.size = X0 + 1 := by rw [← ha10, ← hX0]; simp
  have hal : Below a9.heap.size a9 a10 := by rw [← ha10]; exact (Below.refl _ _).alloc (Nat.le_refl _) _
  have hbx : Box1 a10 X0 42 (.slice AX0 y0_0 dX0) := by rw [← ha10, ← hX0]; exact Box1.new a9 _ _
  have hb' := hb.trans (hal.mono hb.size)
  have HB5 := Lib.hid (HB4.out.trans (hb'.mono HB4.out.size))
  have BH0_5 := Lib.hid (BH0_4.out.under hb' BH0_4.out.lt)
  have BH1_5 := Lib.hid (BH1_4.out.under hb' BH1_4.out.lt)
  have BH3_5 := Lib.hid (BH3_4.out.under hb' BH3_4.out.lt)
  have BP_5 := Lib.hid (BP_4.out.under hb' BP_4.out.lt)
  have TW_5 := Lib.hid (TW_4.out.under hb')
  clear HB4 BH0_4 BH1_4 BH3_4 BP_4 TW_4
  have BX0_5 := Lib.hid hbx
  have TY0_5 := Lib.hid (ho.under hal)
  have NY0 : Hid (∀ b ∈ fpX0, PB ≤ b ∧ b < X0) := Lib.hid (fun b hm => by have := hf b hm; have := NUM.out; omega)
  have NUM' : Hid (H + 3 ≤ P ∧ P < PB ∧ PB ≤ X0 ∧ X0 < a10.heap.size) := Lib.hid (by have := NUM.out; have := hb.size; omega)
  clear NUM
  have NUM := NUM'
  clear NUM'
  have HWn := Lib.hid ha10
  clear ho hf hb hb' hal hbx hza10 ha10
  have rr := BH1_5.out
  rw [← HWn.out] at rr
  have rH1_0 := rr.c0
  clear rr
  go_wp2_with fail
  rw [HWn.out]
  refine (TO1.out a10 HB5.out).mono ?_
  rintro e a11 ⟨AX1, dX1, fpX1, rfl, ho, hf, hb⟩
  clear rH1_0
  clear HWn
  obtain ⟨a12, ha12⟩ : ∃ a12, a11.alloc (.cells #[.slice AX1 y1_0 dX1] 37) = a12 := ⟨_, rfl⟩
  obtain ⟨X1, hX1⟩ : ∃ X1, a11.heap.size = X1 := ⟨_, rfl⟩
  have hza12 : a12.heap.size = X1 + 1 := by rw [← ha12, ← hX1]; simp
  have hal : Below a11.heap.size a11 a12 := by rw [← ha12]; exact (Below.refl _ _).alloc (Nat.le_refl _) _
  have hbx : Box1 a12 X1 37 (.slice AX1 y1_0 dX1) := by rw [← ha12, ← hX1]; exact Box1.new a11 _ _
  have hb' := hb.trans (hal.mono hb.size)
  have HB6 := Lib.hid (HB5.out.trans (hb'.mono HB5.out.size))
  have BH0_6 := Lib.hid (BH0_5.out.under hb' BH0_5.out.lt)
  have BH1_6 := Lib.hid (BH1_5.out.under hb' BH1_5.out.lt)
  have BH3_6 := Lib.hid (BH3_5.out.under hb' BH3_5.out.lt)
  have BP_6 := Lib.hid (BP_5.out.under hb' BP_5.out.lt)
  have BX0_6 := Lib.hid (BX0_5.out.under hb' BX0_5.out.lt)
  have TW_6 := Lib.hid (TW_5.out.under hb')
  have TY0_6 := Lib.hid (TY0_5.out.under hb')
  clear HB5 BH0_5 BH1_5 BH3_5 BP_5 BX0_5 TW_5 TY0_5
  have BX1_6 := Lib.hid hbx
  have TY1_6 := Lib.hid (ho.under hal)
  have NY1 : Hid (∀ b ∈ fpX1, X0 < b ∧ b < X1) := Lib.hid (fun b hm => by have := hf b hm; have := NUM.out; omega)
  have NUM' : Hid (H + 3 ≤ P ∧ P < PB ∧ PB ≤ X0 ∧ X0 < X1 ∧ X1 < a12.heap.size) := Lib.hid (by have := NUM.out; have := hb.size; omega)
  clear NUM
  have NUM := NUM'
  clear NUM'
  have HWn := Lib.hid ha12
  clear ho hf hb hb' hal hbx hza12 ha12
  have rr := BH3_6.out
  rw [← HWn.out] at rr
  have rH3_0 := rr.c0
  have rH3_1 := rr.c1
  have rH3_2 := rr.c2
  have rH3_3 := rr.c3
  clear rr
  go_wp2_with fail
  rw [HWn.out]
  refine (TO3.out a12 HB6.out).mono ?_
  rintro e a13 ⟨LX3, AX3, lX3, dX3, fpX3, rfl, ho, hf, hb⟩
  clear rH3_0 rH3_1 rH3_2 rH3_3
  clear HWn
  obtain ⟨a14, ha14⟩ : ∃ a14, a13.alloc (.cells #[.int .i64 y3_0, .int .i64 y3_1, .slice LX3 y3_2 lX3, .slice AX3 y3_3 dX3] 47) = a14 := ⟨_, rfl⟩
  obtain ⟨X3, hX3⟩ : ∃ X3, a13.heap.size = X3 := ⟨_, rfl⟩
  have hza14 : a14.heap.size = X3 + 1 := by rw [← ha14, ← hX3]; simp
  have hal : Below a13.heap.size a13 a14 := by rw [← ha14]; exact (Below.refl _ _).alloc (Nat.le_refl _) _
  have hbx : Box4 a14 X3 47 (.int .i64 y3_0) (.int .i64 y3_1) (.slice LX3 y3_2 lX3) (.slice AX3 y3_3 dX3) := by rw [← ha14, ← hX3]; exact Box4.new a13 _ _ _ _ _
  have hb' := hb.trans (hal.mono hb.size)
  have HB7 := Lib.hid (HB6.out.trans (hb'.mono HB6.out.size))
  have BH0_7 := Lib.hid (BH0_6.out.under hb' BH0_6.out.lt)
  have BH1_7 := Lib.hid (BH1_6.out.under hb' BH1_6.out.lt)
  have BH3_7 := Lib.hid (BH3_6.out.under hb' BH3_6.out.lt)
  have BP_7 := Lib.hid (BP_6.out.under hb' BP_6.out.lt)
  have BX0_7 := Lib.hid (BX0_6.out.under hb' BX0_6.out.lt)
  have BX1_7 := Lib.hid (BX1_6.out.under hb' BX1_6.out.lt)
  have TW_7 := Lib.hid (TW_6.out.under hb')
  have TY0_7 := Lib.hid (TY0_6.out.under hb')
  have TY1_7 := Lib.hid (TY1_6.out.under hb')
  clear HB6 BH0_6 BH1_6 BH3_6 BP_6 BX0_6 BX1_6 TW_6 TY0_6 TY1_6
  have BX3_7 := Lib.hid hbx
  have TY3_7 := Lib.hid (ho.under hal)
  have NY3 : Hid (∀ b ∈ fpX3, X1 < b ∧ b < X3) := Lib.hid (fun b hm => by have := hf b hm; have := NUM.out; omega)
  have NUM' : Hid (H + 3 ≤ P ∧ P < PB ∧ PB ≤ X0 ∧ X0 < X1 ∧ X1 < X3 ∧ X3 < a14.heap.size) := Lib.hid (by have := NUM.out; have := hb.size; omega)
  clear NUM
  have NUM := NUM'
  clear NUM'
  have HWn := Lib.hid ha14
  clear ho hf hb hb' hal hbx hza14 ha14
  have rr := BX0_7.out
  rw [← HWn.out] at rr
  have rX0_0 := rr.c0
  clear rr
  have rr := BX1_7.out
  rw [← HWn.out] at rr
  have rX1_0 := rr.c0
  clear rr
  have rr := BX3_7.out
  rw [← HWn.out] at rr
  have rX3_0 := rr.c0
  have rX3_1 := rr.c1
  have rX3_2 := rr.c2
  have rX3_3 := rr.c3
  clear rr
  go_wp2_with fail
  rw [HWn.out]
  refine (IMF.out a14 _ _ _ _ _ _ TY0_7.out TY1_7.out TY3_7.out).mono ?_
  rintro e a15 ⟨AG, dG, fpG, rfl, ho, hf, hb⟩
  clear rX0_0 rX1_0 rX3_0 rX3_1 rX3_2 rX3_3
  clear HWn
  obtain ⟨a16, ha16⟩ : ∃ a16, a15.alloc (.cells #[.slice AG f0 dG] 37) = a16 := ⟨_, rfl⟩
  obtain ⟨G, hG⟩ : ∃ G, a15.heap.size = G := ⟨_, rfl⟩
  have hza16 : a16.heap.size = G + 1 := by rw [← ha16, ← hG]; simp
  have hal : Below a15.heap.size a15 a16 := by rw [← ha16]; exact (Below.refl _ _).alloc (Nat.le_refl _) _
  have hbx : Box1 a16 G 37 (.slice AG f0 dG) := by rw [← ha16, ← hG]; exact Box1.new a15 _ _
  have hb' := hb.trans (hal.mono hb.size)
  have HB8 := Lib.hid (HB7.out.trans (hb'.mono HB7.out.size))
  have BH0_8 := Lib.hid (BH0_7.out.under hb' BH0_7.out.lt)
  have BH1_8 := Lib.hid (BH1_7.out.under hb' BH1_7.out.lt)
  have BH3_8 := Lib.hid (BH3_7.out.under hb' BH3_7.out.lt)
  have BP_8 := Lib.hid (BP_7.out.under hb' BP_7.out.lt)
  have BX0_8 := Lib.hid (BX0_7.out.under hb' BX0_7.out.lt)
  have BX1_8 := Lib.hid (BX1_7.out.under hb' BX1_7.out.lt)
  have BX3_8 := Lib.hid (BX3_7.out.under hb' BX3_7.out.lt)
  have TW_8 := Lib.hid (TW_7.out.under hb')
  have TY0_8 := Lib.hid (TY0_7.out.under hb')
  have TY1_8 := Lib.hid (TY1_7.out.under hb')
  have TY3_8 := Lib.hid (TY3_7.out.under hb')
  clear HB7 BH0_7 BH1_7 BH3_7 BP_7 BX0_7 BX1_7 BX3_7 TW_7 TY0_7 TY1_7 TY3_7
  have BG_8 := Lib.hid hbx
  have TZ_8 := Lib.hid (ho.under hal)
  have HWn := Lib.hid ha16
  have NZ : Hid (∀ b ∈ fpG, X3 < b ∧ b < G) := Lib.hid (fun b hm => by have := hf b hm; have := NUM.out; omega)
  have NUM' : Hid (w.heap.size = H ∧ H + 3 ≤ P ∧ P < PB ∧ PB ≤ X0 ∧ X0 < X1 ∧ X1 < X3 ∧ X3 < G) := Lib.hid (by have := HHH.out; have := NUM.out; have := hb.size; omega)
  clear NUM HHH
  have NUM := NUM'
  clear NUM'
  clear ho hf hb hb' hal hbx hza16 ha16
  have rr := BG_8.out
  rw [← HWn.out] at rr
  have rG_0 := rr.c0
  clear rr
  have rr := BP_8.out
  rw [← HWn.out] at rr
  have rP_0 := rr.c0
  clear rr
  have HC := Lib.hid (eqDB_same F a16 _ _ TZ_8.out.reads TW_8.out.reads)
  go_wp2_with fail
  rw [HWn.out]
  refine HC.out.mono ?_
  rintro e a17 ⟨rfl, hb⟩
  clear rG_0 rP_0
  have HB9 := Lib.hid (HB8.out.trans (hb.mono HB8.out.size))
  have BH0_9 := Lib.hid (BH0_8.out.under hb BH0_8.out.lt)
  have BH1_9 := Lib.hid (BH1_8.out.under hb BH1_8.out.lt)
  have BH3_9 := Lib.hid (BH3_8.out.under hb BH3_8.out.lt)
  have BP_9 := Lib.hid (BP_8.out.under hb BP_8.out.lt)
  have BX0_9 := Lib.hid (BX0_8.out.under hb BX0_8.out.lt)
  have BX1_9 := Lib.hid (BX1_8.out.under hb BX1_8.out.lt)
  have BX3_9 := Lib.hid (BX3_8.out.under hb BX3_8.out.lt)
  have BG_9 := Lib.hid (BG_8.out.under hb BG_8.out.lt)
  have TW_9 := Lib.hid (TW_8.out.under hb)
  have TY0_9 := Lib.hid (TY0_8.out.under hb)
  have TY1_9 := Lib.hid (TY1_8.out.under hb)
  have TY3_9 := Lib.hid (TY3_8.out.under hb)
  have TZ_9 := Lib.hid (TZ_8.out.under hb)
  clear HB8 BH0_8 BH1_8 BH3_8 BP_8 BX0_8 BX1_8 BX3_8 BG_8 TW_8 TY0_8 TY1_8 TY3_8 TZ_8
  clear HC hb HWn
  have rX0_0 := BX0_9.out.c0
  have rH0_0 := BH0_9.out.c0
  go_wp2_with fail
  clear rX0_0 rH0_0
  have HB10 := Lib.hid HB9.out.drew
  have BH0_10 := Lib.hid (show Box1 a17.drew H 24 c0_0 from BH0_9.out)
  have BH1_10 := Lib.hid (show Box1 a17.drew (H + 1) 27 c1_0 from BH1_9.out)
  have BH3_10 := Lib.hid (show Box4 a17.drew (H + 2) 31 c3_0 c3_1 c3_2 c3_3 from BH3_9.out)
  have BP_10 := Lib.hid (show Box1 a17.drew P 37 (.slice AWR f0 dWR) from BP_9.out)
  have BX0_10 := Lib.hid (show Box1 a17.drew X0 42 (.slice AX0 y0_0 dX0) from BX0_9.out)
  have BX1_10 := Lib.hid (show Box1 a17.drew X1 37 (.slice AX1 y1_0 dX1) from BX1_9.out)
  have BX3_10 := Lib.hid (show Box4 a17.drew X3 47 (.int .i64 y3_0) (.int .i64 y3_1) (.slice LX3 y3_2 lX3) (.slice AX3 y3_3 dX3) from BX3_9.out)
  have BG_10 := Lib.hid (show Box1 a17.drew G 37 (.slice AG f0 dG) from BG_9.out)
  have TW_10 := Lib.hid (TW_9.out.under (show Below a17.heap.size a17 a17.drew from (Below.refl _ _).drew))
  have TY0_10 := Lib.hid (TY0_9.out.under (show Below a17.heap.size a17 a17.drew from (Below.refl _ _).drew))
  have TY1_10 := Lib.hid (TY1_9.out.under (show Below a17.heap.size a17 a17.drew from (Below.refl _ _).drew))
  have TY3_10 := Lib.hid (TY3_9.out.under (show Below a17.heap.size a17 a17.drew from (Below.refl _ _).drew))
  have TZ_10 := Lib.hid (TZ_9.out.under (show Below a17.heap.size a17 a17.drew from (Below.refl _ _).drew))
  clear HB9 BH0_9 BH1_9 BH3_9 BP_9 BX0_9 BX1_9 BX3_9 BG_9 TW_9 TY0_9 TY1_9 TY3_9 TZ_9
  have rX0_0 := BX0_10.out.c0
  have rH0_0 := BH0_10.out.c0
  go_region_held3 (fun W => W.cell? ⟨X0, 0, none⟩ = some (.slice AX0 y0_0 dX0) ∧ W.cell? ⟨H, 0, none⟩ = some c0_0)
    (first | (refine ⟨?_, ?_⟩ <;> assumption) | go_keep)
    (first
      | (go_at_call 9; refine (TO0.out a17.drew HB10.out).mono ?_; rintro e a18 ⟨AE0, dE0, fpE0, rfl, ho, hf, hb⟩; have HB11 := Lib.hid (HB10.out.trans (hb.mono HB10.out.size)); have BH0_11 := Lib.hid (BH0_10.out.under hb BH0_10.out.lt); have BH1_11 := Lib.hid (BH1_10.out.under hb BH1_10.out.lt); have BH3_11 := Lib.hid (BH3_10.out.under hb BH3_10.out.lt); have BP_11 := Lib.hid (BP_10.out.under hb BP_10.out.lt); have BX0_11 := Lib.hid (BX0_10.out.under hb BX0_10.out.lt); have BX1_11 := Lib.hid (BX1_10.out.under hb BX1_10.out.lt); have BX3_11 := Lib.hid (BX3_10.out.under hb BX3_10.out.lt); have BG_11 := Lib.hid (BG_10.out.under hb BG_10.out.lt); have TW_11 := Lib.hid (TW_10.out.under hb); have TY0_11 := Lib.hid (TY0_10.out.under hb); have TY1_11 := Lib.hid (TY1_10.out.under hb); have TY3_11 := Lib.hid (TY3_10.out.under hb); have TZ_11 := Lib.hid (TZ_10.out.under hb); have HC := Lib.hid (eqSchema_same t0 a18 _ _ TY0_11.out.reads ho.reads); have uX0_0 := BX0_11.out.c0; have uH0_0 := BH0_11.out.c0; clear ho hf hb)
      | (go_at_call 14; refine HC.out.mono ?_; rintro e a19 ⟨rfl, hb⟩; have HB12 := Lib.hid (HB11.out.trans (hb.mono HB11.out.size)); have BH0_12 := Lib.hid (BH0_11.out.under hb BH0_11.out.lt); have BH1_12 := Lib.hid (BH1_11.out.under hb BH1_11.out.lt); have BH3_12 := Lib.hid (BH3_11.out.under hb BH3_11.out.lt); have BP_12 := Lib.hid (BP_11.out.under hb BP_11.out.lt); have BX0_12 := Lib.hid (BX0_11.out.under hb BX0_11.out.lt); have BX1_12 := Lib.hid (BX1_11.out.under hb BX1_11.out.lt); have BX3_12 := Lib.hid (BX3_11.out.under hb BX3_11.out.lt); have BG_12 := Lib.hid (BG_11.out.under hb BG_11.out.lt); have TW_12 := Lib.hid (TW_11.out.under hb); have TY0_12 := Lib.hid (TY0_11.out.under hb); have TY1_12 := Lib.hid (TY1_11.out.under hb); have TY3_12 := Lib.hid (TY3_11.out.under hb); have TZ_12 := Lib.hid (TZ_11.out.under hb); have vX0_0 := BX0_12.out.c0; have vH0_0 := BH0_12.out.c0; clear HC hb))
  clear rX0_0 rH0_0 uX0_0 uH0_0 vX0_0 vH0_0 HB10 BH0_10 BH1_10 BH3_10 BP_10 BX0_10 BX1_10 BX3_10 BG_10 TW_10 TY0_10 TY1_10 TY3_10 TZ_10 HB11 BH0_11 BH1_11 BH3_11 BP_11 BX0_11 BX1_11 BX3_11 BG_11 TW_11 TY0_11 TY1_11 TY3_11 TZ_11
  have rX1_0 := BX1_12.out.c0
  have rH1_0 := BH1_12.out.c0
  go_wp2_with fail
  clear rX1_0 rH1_0
  have HB13 := Lib.hid HB12.out.drew
  have BH0_13 := Lib.hid (show Box1 a19.drew H 24 c0_0 from BH0_12.out)
  have BH1_13 := Lib.hid (show Box1 a19.drew (H + 1) 27 c1_0 from BH1_12.out)
  have BH3_13 := Lib.hid (show Box4 a19.drew (H + 2) 31 c3_0 c3_1 c3_2 c3_3 from BH3_12.out)
  have BP_13 := Lib.hid (show Box1 a19.drew P 37 (.slice AWR f0 dWR) from BP_12.out)
  have BX0_13 := Lib.hid (show Box1 a19.drew X0 42 (.slice AX0 y0_0 dX0) from BX0_12.out)
  have BX1_13 := Lib.hid (show Box1 a19.drew X1 37 (.slice AX1 y1_0 dX1) from BX1_12.out)
  have BX3_13 := Lib.hid (show Box4 a19.drew X3 47 (.int .i64 y3_0) (.int .i64 y3_1) (.slice LX3 y3_2 lX3) (.slice AX3 y3_3 dX3) from BX3_12.out)
  have BG_13 := Lib.hid (show Box1 a19.drew G 37 (.slice AG f0 dG) from BG_12.out)
  have TW_13 := Lib.hid (TW_12.out.under (show Below a19.heap.size a19 a19.drew from (Below.refl _ _).drew))
  have TY0_13 := Lib.hid (TY0_12.out.under (show Below a19.heap.size a19 a19.drew from (Below.refl _ _).drew))
  have TY1_13 := Lib.hid (TY1_12.out.under (show Below a19.heap.size a19 a19.drew from (Below.refl _ _).drew))
  have TY3_13 := Lib.hid (TY3_12.out.under (show Below a19.heap.size a19 a19.drew from (Below.refl _ _).drew))
  have TZ_13 := Lib.hid (TZ_12.out.under (show Below a19.heap.size a19 a19.drew from (Below.refl _ _).drew))
  clear HB12 BH0_12 BH1_12 BH3_12 BP_12 BX0_12 BX1_12 BX3_12 BG_12 TW_12 TY0_12 TY1_12 TY3_12 TZ_12
  have rX1_0 := BX1_13.out.c0
  have rH1_0 := BH1_13.out.c0
  go_region_held3 (fun W => W.cell? ⟨X1, 0, none⟩ = some (.slice AX1 y1_0 dX1) ∧ W.cell? ⟨H + 1, 0, none⟩ = some c1_0)
    (first | (refine ⟨?_, ?_⟩ <;> assumption) | go_keep)
    (first
      | (go_at_call 10; refine (TO1.out a19.drew HB13.out).mono ?_; rintro e a20 ⟨AE1, dE1, fpE1, rfl, ho, hf, hb⟩; have HB14 := Lib.hid (HB13.out.trans (hb.mono HB13.out.size)); have BH0_14 := Lib.hid (BH0_13.out.under hb BH0_13.out.lt); have BH1_14 := Lib.hid (BH1_13.out.under hb BH1_13.out.lt); have BH3_14 := Lib.hid (BH3_13.out.under hb BH3_13.out.lt); have BP_14 := Lib.hid (BP_13.out.under hb BP_13.out.lt); have BX0_14 := Lib.hid (BX0_13.out.under hb BX0_13.out.lt); have BX1_14 := Lib.hid (BX1_13.out.under hb BX1_13.out.lt); have BX3_14 := Lib.hid (BX3_13.out.under hb BX3_13.out.lt); have BG_14 := Lib.hid (BG_13.out.under hb BG_13.out.lt); have TW_14 := Lib.hid (TW_13.out.under hb); have TY0_14 := Lib.hid (TY0_13.out.under hb); have TY1_14 := Lib.hid (TY1_13.out.under hb); have TY3_14 := Lib.hid (TY3_13.out.under hb); have TZ_14 := Lib.hid (TZ_13.out.under hb); have HC := Lib.hid (eqDB_same t1 a20 _ _ TY1_14.out.reads ho.reads); have uX1_0 := BX1_14.out.c0; have uH1_0 := BH1_14.out.c0; clear ho hf hb)
      | (go_at_call 13; refine HC.out.mono ?_; rintro e a21 ⟨rfl, hb⟩; have HB15 := Lib.hid (HB14.out.trans (hb.mono HB14.out.size)); have BH0_15 := Lib.hid (BH0_14.out.under hb BH0_14.out.lt); have BH1_15 := Lib.hid (BH1_14.out.under hb BH1_14.out.lt); have BH3_15 := Lib.hid (BH3_14.out.under hb BH3_14.out.lt); have BP_15 := Lib.hid (BP_14.out.under hb BP_14.out.lt); have BX0_15 := Lib.hid (BX0_14.out.under hb BX0_14.out.lt); have BX1_15 := Lib.hid (BX1_14.out.under hb BX1_14.out.lt); have BX3_15 := Lib.hid (BX3_14.out.under hb BX3_14.out.lt); have BG_15 := Lib.hid (BG_14.out.under hb BG_14.out.lt); have TW_15 := Lib.hid (TW_14.out.under hb); have TY0_15 := Lib.hid (TY0_14.out.under hb); have TY1_15 := Lib.hid (TY1_14.out.under hb); have TY3_15 := Lib.hid (TY3_14.out.under hb); have TZ_15 := Lib.hid (TZ_14.out.under hb); have vX1_0 := BX1_15.out.c0; have vH1_0 := BH1_15.out.c0; clear HC hb))
  clear rX1_0 rH1_0 uX1_0 uH1_0 vX1_0 vH1_0 HB13 BH0_13 BH1_13 BH3_13 BP_13 BX0_13 BX1_13 BX3_13 BG_13 TW_13 TY0_13 TY1_13 TY3_13 TZ_13 HB14 BH0_14 BH1_14 BH3_14 BP_14 BX0_14 BX1_14 BX3_14 BG_14 TW_14 TY0_14 TY1_14 TY3_14 TZ_14
  have rX3_0 := BX3_15.out.c0
  have rX3_1 := BX3_15.out.c1
  have rX3_2 := BX3_15.out.c2
  have rX3_3 := BX3_15.out.c3
  have rH3_0 := BH3_15.out.c0
  have rH3_1 := BH3_15.out.c1
  have rH3_2 := BH3_15.out.c2
  have rH3_3 := BH3_15.out.c3
  go_wp2_with fail
  clear rX3_0 rX3_1 rX3_2 rX3_3 rH3_0 rH3_1 rH3_2 rH3_3
  have HB16 := Lib.hid HB15.out.drew
  have BH0_16 := Lib.hid (show Box1 a21.drew H 24 c0_0 from BH0_15.out)
  have BH1_16 := Lib.hid (show Box1 a21.drew (H + 1) 27 c1_0 from BH1_15.out)
  have BH3_16 := Lib.hid (show Box4 a21.drew (H + 2) 31 c3_0 c3_1 c3_2 c3_3 from BH3_15.out)
  have BP_16 := Lib.hid (show Box1 a21.drew P 37 (.slice AWR f0 dWR) from BP_15.out)
  have BX0_16 := Lib.hid (show Box1 a21.drew X0 42 (.slice AX0 y0_0 dX0) from BX0_15.out)
  have BX1_16 := Lib.hid (show Box1 a21.drew X1 37 (.slice AX1 y1_0 dX1) from BX1_15.out)
  have BX3_16 := Lib.hid (show Box4 a21.drew X3 47 (.int .i64 y3_0) (.int .i64 y3_1) (.slice LX3 y3_2 lX3) (.slice AX3 y3_3 dX3) from BX3_15.out)
  have BG_16 := Lib.hid (show Box1 a21.drew G 37 (.slice AG f0 dG) from BG_15.out)
  have TW_16 := Lib.hid (TW_15.out.under (show Below a21.heap.size a21 a21.drew from (Below.refl _ _).drew))
  have TY0_16 := Lib.hid (TY0_15.out.under (show Below a21.heap.size a21 a21.drew from (Below.refl _ _).drew))
  have TY1_16 := Lib.hid (TY1_15.out.under (show Below a21.heap.size a21 a21.drew from (Below.refl _ _).drew))
  have TY3_16 := Lib.hid (TY3_15.out.under (show Below a21.heap.size a21 a21.drew from (Below.refl _ _).drew))
  have TZ_16 := Lib.hid (TZ_15.out.under (show Below a21.heap.size a21 a21.drew from (Below.refl _ _).drew))
  clear HB15 BH0_15 BH1_15 BH3_15 BP_15 BX0_15 BX1_15 BX3_15 BG_15 TW_15 TY0_15 TY1_15 TY3_15 TZ_15
  have rX3_0 := BX3_16.out.c0
  have rX3_1 := BX3_16.out.c1
  have rX3_2 := BX3_16.out.c2
  have rX3_3 := BX3_16.out.c3
  have rH3_0 := BH3_16.out.c0
  have rH3_1 := BH3_16.out.c1
  have rH3_2 := BH3_16.out.c2
  have rH3_3 := BH3_16.out.c3
  go_region_held3 (fun W => W.cell? ⟨X3, 0, none⟩ = some (.int .i64 y3_0) ∧ W.cell? ⟨X3, 1, none⟩ = some (.int .i64 y3_1) ∧ W.cell? ⟨X3, 2, none⟩ = some (.slice LX3 y3_2 lX3) ∧ W.cell? ⟨X3, 3, none⟩ = some (.slice AX3 y3_3 dX3) ∧ W.cell? ⟨H + 2, 0, none⟩ = some c3_0 ∧ W.cell? ⟨H + 2, 1, none⟩ = some c3_1 ∧ W.cell? ⟨H + 2, 2, none⟩ = some c3_2 ∧ W.cell? ⟨H + 2, 3, none⟩ = some c3_3)
    (first | (refine ⟨?_, ?_, ?_, ?_, ?_, ?_, ?_, ?_⟩ <;> assumption) | go_keep)
    (first
      | (go_at_call 11; refine (TO3.out a21.drew HB16.out).mono ?_; rintro e a22 ⟨LE3, AE3, lE3, dE3, fpE3, rfl, ho, hf, hb⟩; have HB17 := Lib.hid (HB16.out.trans (hb.mono HB16.out.size)); have BH0_17 := Lib.hid (BH0_16.out.under hb BH0_16.out.lt); have BH1_17 := Lib.hid (BH1_16.out.under hb BH1_16.out.lt); have BH3_17 := Lib.hid (BH3_16.out.under hb BH3_16.out.lt); have BP_17 := Lib.hid (BP_16.out.under hb BP_16.out.lt); have BX0_17 := Lib.hid (BX0_16.out.under hb BX0_16.out.lt); have BX1_17 := Lib.hid (BX1_16.out.under hb BX1_16.out.lt); have BX3_17 := Lib.hid (BX3_16.out.under hb BX3_16.out.lt); have BG_17 := Lib.hid (BG_16.out.under hb BG_16.out.lt); have TW_17 := Lib.hid (TW_16.out.under hb); have TY0_17 := Lib.hid (TY0_16.out.under hb); have TY1_17 := Lib.hid (TY1_16.out.under hb); have TY3_17 := Lib.hid (TY3_16.out.under hb); have TZ_17 := Lib.hid (TZ_16.out.under hb); have HC := Lib.hid (eqValue_same t3 a22 _ _ TY3_17.out.reads ho.reads); have uX3_0 := BX3_17.out.c0; have uX3_1 := BX3_17.out.c1; have uX3_2 := BX3_17.out.c2; have uX3_3 := BX3_17.out.c3; have uH3_0 := BH3_17.out.c0; have uH3_1 := BH3_17.out.c1; have uH3_2 := BH3_17.out.c2; have uH3_3 := BH3_17.out.c3; clear ho hf hb)
      | (go_at_call 15; refine HC.out.mono ?_; rintro e a23 ⟨rfl, hb⟩; have HB18 := Lib.hid (HB17.out.trans (hb.mono HB17.out.size)); have BH0_18 := Lib.hid (BH0_17.out.under hb BH0_17.out.lt); have BH1_18 := Lib.hid (BH1_17.out.under hb BH1_17.out.lt); have BH3_18 := Lib.hid (BH3_17.out.under hb BH3_17.out.lt); have BP_18 := Lib.hid (BP_17.out.under hb BP_17.out.lt); have BX0_18 := Lib.hid (BX0_17.out.under hb BX0_17.out.lt); have BX1_18 := Lib.hid (BX1_17.out.under hb BX1_17.out.lt); have BX3_18 := Lib.hid (BX3_17.out.under hb BX3_17.out.lt); have BG_18 := Lib.hid (BG_17.out.under hb BG_17.out.lt); have TW_18 := Lib.hid (TW_17.out.under hb); have TY0_18 := Lib.hid (TY0_17.out.under hb); have TY1_18 := Lib.hid (TY1_17.out.under hb); have TY3_18 := Lib.hid (TY3_17.out.under hb); have TZ_18 := Lib.hid (TZ_17.out.under hb); have vX3_0 := BX3_18.out.c0; have vX3_1 := BX3_18.out.c1; have vX3_2 := BX3_18.out.c2; have vX3_3 := BX3_18.out.c3; have vH3_0 := BH3_18.out.c0; have vH3_1 := BH3_18.out.c1; have vH3_2 := BH3_18.out.c2; have vH3_3 := BH3_18.out.c3; clear HC hb))
  clear rX3_0 rX3_1 rX3_2 rX3_3 rH3_0 rH3_1 rH3_2 rH3_3 uX3_0 uX3_1 uX3_2 uX3_3 uH3_0 uH3_1 uH3_2 uH3_3 vX3_0 vX3_1 vX3_2 vX3_3 vH3_0 vH3_1 vH3_2 vH3_3 HB16 BH0_16 BH1_16 BH3_16 BP_16 BX0_16 BX1_16 BX3_16 BG_16 TW_16 TY0_16 TY1_16 TY3_16 TZ_16 HB17 BH0_17 BH1_17 BH3_17 BP_17 BX0_17 BX1_17 BX3_17 BG_17 TW_17 TY0_17 TY1_17 TY3_17 TZ_17
  have rX0_0 := BX0_18.out.c0
  go_wp2_with fail
  refine (markScO ((1 : Int) + ((cntSc t0 : Nat) : Int)) HK0.out t0 a23 _ fpX0 1 TY0_18.out (by decide) (by omega)).mono ?_
  rintro e a24 ⟨k0, rfl, k0p, k0b, ho⟩
  clear rX0_0
  have HB19 := Lib.hid (HB18.out.trans (ho.below HB18.out.size (fun x hx => by have := NUM.out; have := NY0.out x hx; omega)))
  have BH0_19 := Lib.hid (box1_onlyM BH0_18.out ho (fun hm => by have := NUM.out; have := NY0.out _ hm; omega))
  have BH1_19 := Lib.hid (box1_onlyM BH1_18.out ho (fun hm => by have := NUM.out; have := NY0.out _ hm; omega))
  have BH3_19 := Lib.hid (box4_only BH3_18.out ho (fun hm => by have := NUM.out; have := NY0.out _ hm; omega))
  have BP_19 := Lib.hid (box1_onlyM BP_18.out ho (fun hm => by have := NUM.out; have := NY0.out _ hm; omega))
  have BX0_19 := Lib.hid (box1_onlyM BX0_18.out ho (fun hm => by have := NUM.out; have := NY0.out _ hm; omega))
  have BX1_19 := Lib.hid (box1_onlyM BX1_18.out ho (fun hm => by have := NUM.out; have := NY0.out _ hm; omega))
  have BX3_19 := Lib.hid (box4_only BX3_18.out ho (fun hm => by have := NUM.out; have := NY0.out _ hm; omega))
  have BG_19 := Lib.hid (box1_onlyM BG_18.out ho (fun hm => by have := NUM.out; have := NY0.out _ hm; omega))
  have TW_19 := Lib.hid (ODb.onlyM TW_18.out ho (fun b hb hm => by have := NUM.out; have := NW.out b hb; have := NY0.out b hm; omega))
  have TY1_19 := Lib.hid (ODb.onlyM TY1_18.out ho (fun b hb hm => by have := NUM.out; have := NY1.out b hb; have := NY0.out b hm; omega))
  have TY3_19 := Lib.hid (OVa.only TY3_18.out ho (fun b hb hm => by have := NUM.out; have := NY3.out b hb; have := NY0.out b hm; omega))
  have TZ_19 := Lib.hid (ODb.onlyM TZ_18.out ho (fun b hb hm => by have := NUM.out; have := NZ.out b hb; have := NY0.out b hm; omega))
  clear HB18 BH0_18 BH1_18 BH3_18 BP_18 BX0_18 BX1_18 BX3_18 BG_18 TW_18 TY0_18 TY1_18 TY3_18 TZ_18
  clear ho
  have rX1_0 := BX1_19.out.c0
  go_wp2_with fail
  refine (markDbO ((1 : Int) + ((cntSc t0 : Nat) : Int) + ((cntDb t1 : Nat) : Int)) HK1.out t1 a24 _ fpX1 k0 TY1_19.out k0p (by have := k0b; omega)).mono ?_
  rintro e a25 ⟨k1, rfl, k1p, k1b, ho⟩
  clear rX1_0
  have HB20 := Lib.hid (HB19.out.trans (ho.below HB19.out.size (fun x hx => by have := NUM.out; have := NY1.out x hx; omega)))
  have BH0_20 := Lib.hid (box1_onlyM BH0_19.out ho (fun hm => by have := NUM.out; have := NY1.out _ hm; omega))
  have BH1_20 := Lib.hid (box1_onlyM BH1_19.out ho (fun hm => by have := NUM.out; have := NY1.out _ hm; omega))
  have BH3_20 := Lib.hid (box4_only BH3_19.out ho (fun hm => by have := NUM.out; have := NY1.out _ hm; omega))
  have BP_20 := Lib.hid (box1_onlyM BP_19.out ho (fun hm => by have := NUM.out; have := NY1.out _ hm; omega))
  have BX0_20 := Lib.hid (box1_onlyM BX0_19.out ho (fun hm => by have := NUM.out; have := NY1.out _ hm; omega))
  have BX1_20 := Lib.hid (box1_onlyM BX1_19.out ho (fun hm => by have := NUM.out; have := NY1.out _ hm; omega))
  have BX3_20 := Lib.hid (box4_only BX3_19.out ho (fun hm => by have := NUM.out; have := NY1.out _ hm; omega))
  have BG_20 := Lib.hid (box1_onlyM BG_19.out ho (fun hm => by have := NUM.out; have := NY1.out _ hm; omega))
  have TW_20 := Lib.hid (ODb.onlyM TW_19.out ho (fun b hb hm => by have := NUM.out; have := NW.out b hb; have := NY1.out b hm; omega))
  have TY3_20 := Lib.hid (OVa.only TY3_19.out ho (fun b hb hm => by have := NUM.out; have := NY3.out b hb; have := NY1.out b hm; omega))
  have TZ_20 := Lib.hid (ODb.onlyM TZ_19.out ho (fun b hb hm => by have := NUM.out; have := NZ.out b hb; have := NY1.out b hm; omega))
  clear HB19 BH0_19 BH1_19 BH3_19 BP_19 BX0_19 BX1_19 BX3_19 BG_19 TW_19 TY1_19 TY3_19 TZ_19
  clear ho
  have rX3_0 := BX3_20.out.c0
  have rX3_1 := BX3_20.out.c1
  have rX3_2 := BX3_20.out.c2
  have rX3_3 := BX3_20.out.c3
  go_wp2_with fail
  refine (markVaO ((1 : Int) + ((cntSc t0 : Nat) : Int) + ((cntDb t1 : Nat) : Int) + ((Tr.cntV t3 : Nat) : Int)) HK3.out t3 a25 _ fpX3 k1 TY3_20.out k1p (by have := k1b; omega)).mono ?_
  rintro e a26 ⟨k3, rfl, k3p, k3b, ho⟩
  clear rX3_0 rX3_1 rX3_2 rX3_3
  have HB21 := Lib.hid (HB20.out.trans (ho.below HB20.out.size (fun x hx => by have := NUM.out; have := NY3.out x hx; omega)))
  have BH0_21 := Lib.hid (box1_onlyM BH0_20.out ho (fun hm => by have := NUM.out; have := NY3.out _ hm; omega))
  have BH1_21 := Lib.hid (box1_onlyM BH1_20.out ho (fun hm => by have := NUM.out; have := NY3.out _ hm; omega))
  have BH3_21 := Lib.hid (box4_only BH3_20.out ho (fun hm => by have := NUM.out; have := NY3.out _ hm; omega))
  have BP_21 := Lib.hid (box1_onlyM BP_20.out ho (fun hm => by have := NUM.out; have := NY3.out _ hm; omega))
  have BX0_21 := Lib.hid (box1_onlyM BX0_20.out ho (fun hm => by have := NUM.out; have := NY3.out _ hm; omega))
  have BX1_21 := Lib.hid (box1_onlyM BX1_20.out ho (fun hm => by have := NUM.out; have := NY3.out _ hm; omega))
  have BX3_21 := Lib.hid (box4_only BX3_20.out ho (fun hm => by have := NUM.out; have := NY3.out _ hm; omega))
  have BG_21 := Lib.hid (box1_onlyM BG_20.out ho (fun hm => by have := NUM.out; have := NY3.out _ hm; omega))
  have TW_21 := Lib.hid (ODb.onlyM TW_20.out ho (fun b hb hm => by have := NUM.out; have := NW.out b hb; have := NY3.out b hm; omega))
  have TZ_21 := Lib.hid (ODb.onlyM TZ_20.out ho (fun b hb hm => by have := NUM.out; have := NZ.out b hb; have := NY3.out b hm; omega))
  clear HB20 BH0_20 BH1_20 BH3_20 BP_20 BX0_20 BX1_20 BX3_20 BG_20 TW_20 TY3_20 TZ_20
  clear ho
  have k9n : ¬ k3 < 0 := by omega
  have rG_0 := BG_21.out.c0
  have rP_0 := BP_21.out.c0
  have HC := Lib.hid (eqDB_same F a26 _ _ TZ_21.out.reads TW_21.out.reads)
  go_wp2_with fail
  refine HC.out.mono ?_
  rintro e a27 ⟨rfl, hb⟩
  clear rG_0 rP_0
  have HB22 := Lib.hid (HB21.out.trans (hb.mono HB21.out.size))
  have BH0_22 := Lib.hid (BH0_21.out.under hb BH0_21.out.lt)
  have BH1_22 := Lib.hid (BH1_21.out.under hb BH1_21.out.lt)
  have BH3_22 := Lib.hid (BH3_21.out.under hb BH3_21.out.lt)
  have BP_22 := Lib.hid (BP_21.out.under hb BP_21.out.lt)
  have BX0_22 := Lib.hid (BX0_21.out.under hb BX0_21.out.lt)
  have BX1_22 := Lib.hid (BX1_21.out.under hb BX1_21.out.lt)
  have BX3_22 := Lib.hid (BX3_21.out.under hb BX3_21.out.lt)
  have BG_22 := Lib.hid (BG_21.out.under hb BG_21.out.lt)
  have TW_22 := Lib.hid (TW_21.out.under hb)
  have TZ_22 := Lib.hid (TZ_21.out.under hb)
  clear HB21 BH0_21 BH1_21 BH3_21 BP_21 BX0_21 BX1_21 BX3_21 BG_21 TW_21 TZ_21
  clear HC hb
  have rG_0 := BG_22.out.c0
  go_wp2_with fail
  refine (markDb_any F a27 _ fpG 1 TZ_22.out (by decide) HCF.out).mono ?_
  rintro e a28 ⟨Fm, km, rfl, kmp, kmb, hot, hheld, ho⟩
  clear rG_0
  have HB23 := Lib.hid (HB22.out.trans (ho.below HB22.out.size (fun x hx => by have := NUM.out; have := NZ.out x hx; omega)))
  have BH0_23 := Lib.hid (box1_onlyM BH0_22.out ho (fun hm => by have := NUM.out; have := NZ.out _ hm; omega))
  have BH1_23 := Lib.hid (box1_onlyM BH1_22.out ho (fun hm => by have := NUM.out; have := NZ.out _ hm; omega))
  have BH3_23 := Lib.hid (box4_only BH3_22.out ho (fun hm => by have := NUM.out; have := NZ.out _ hm; omega))
  have BP_23 := Lib.hid (box1_onlyM BP_22.out ho (fun hm => by have := NUM.out; have := NZ.out _ hm; omega))
  have BX0_23 := Lib.hid (box1_onlyM BX0_22.out ho (fun hm => by have := NUM.out; have := NZ.out _ hm; omega))
  have BX1_23 := Lib.hid (box1_onlyM BX1_22.out ho (fun hm => by have := NUM.out; have := NZ.out _ hm; omega))
  have BX3_23 := Lib.hid (box4_only BX3_22.out ho (fun hm => by have := NUM.out; have := NZ.out _ hm; omega))
  have BG_23 := Lib.hid (box1_onlyM BG_22.out ho (fun hm => by have := NUM.out; have := NZ.out _ hm; omega))
  have TW_23 := Lib.hid (ODb.onlyM TW_22.out ho (fun b hb hm => by have := NUM.out; have := NW.out b hb; have := NZ.out b hm; omega))
  have TZ_23 := Lib.hid hot
  clear HB22 BH0_22 BH1_22 BH3_22 BP_22 BX0_22 BX1_22 BX3_22 BG_22 TW_22 TZ_22
  have HLD := Lib.hid hheld
  clear ho hot hheld
  have kmn : ¬ km < 0 := by omega
  have rG_0 := BG_23.out.c0
  have HC := Lib.hid (heldDb_any Fm a28 _ 1 km TZ_23.out.reads HLD.out (by decide) kmb)
  go_wp2_with fail
  refine HC.out.mono ?_
  rintro e a29 ⟨rfl, hb⟩
  clear rG_0
  have HB24 := Lib.hid (HB23.out.trans (hb.mono HB23.out.size))
  have BH0_24 := Lib.hid (BH0_23.out.under hb BH0_23.out.lt)
  have BH1_24 := Lib.hid (BH1_23.out.under hb BH1_23.out.lt)
  have BH3_24 := Lib.hid (BH3_23.out.under hb BH3_23.out.lt)
  have BP_24 := Lib.hid (BP_23.out.under hb BP_23.out.lt)
  have BX0_24 := Lib.hid (BX0_23.out.under hb BX0_23.out.lt)
  have BX1_24 := Lib.hid (BX1_23.out.under hb BX1_23.out.lt)
  have BX3_24 := Lib.hid (BX3_23.out.under hb BX3_23.out.lt)
  have BG_24 := Lib.hid (BG_23.out.under hb BG_23.out.lt)
  have TW_24 := Lib.hid (TW_23.out.under hb)
  have TZ_24 := Lib.hid (TZ_23.out.under hb)
  clear HB23 BH0_23 BH1_23 BH3_23 BP_23 BX0_23 BX1_23 BX3_23 BG_23 TW_23 TZ_23
  clear HC hb
  have rH0_0 := BH0_24.out.c0
  have rH1_0 := BH1_24.out.c0
  have rH3_0 := BH3_24.out.c0
  have rH3_1 := BH3_24.out.c1
  have rH3_2 := BH3_24.out.c2
  have rH3_3 := BH3_24.out.c3
  go_wp2_with fail
  clear rH0_0 rH1_0 rH3_0 rH3_1 rH3_2 rH3_3
  obtain ⟨WZ, hWZ⟩ : ∃ WZ, a29.heap.size = WZ := ⟨_, rfl⟩
  have HWZ := Lib.hid hWZ
  clear hWZ
  apply inr_cut (R := fun Q AV0 dV0 AV1 dV1 LV3 lV3 AV3 dV3 AVR dVR fpVR w' => Below WZ a29 w' ∧ Box1 w' Q 37 (.slice AVR f0 dVR) ∧ ODb w' F [.slice AVR f0 dVR] fpVR ∧ (∀ b ∈ fpVR, H + 3 ≤ b ∧ b < w'.heap.size ∧ b ≠ Q) ∧ H + 3 ≤ Q)
  rotate_left 1
  · have hq0 : Below a29.heap.size a29 a29.drew := (Below.refl _ _).drew
    have rrH0_0 : a29.drew.cell? ⟨H, 0, none⟩ = some c0_0 := BH0_24.out.c0
    have rrH1_0 : a29.drew.cell? ⟨H + 1, 0, none⟩ = some c1_0 := BH1_24.out.c0
    have rrH3_0 : a29.drew.cell? ⟨H + 2, 0, none⟩ = some c3_0 := BH3_24.out.c0
    have rrH3_1 : a29.drew.cell? ⟨H + 2, 1, none⟩ = some c3_1 := BH3_24.out.c1
    have rrH3_2 : a29.drew.cell? ⟨H + 2, 2, none⟩ = some c3_2 := BH3_24.out.c2
    have rrH3_3 : a29.drew.cell? ⟨H + 2, 3, none⟩ = some c3_3 := BH3_24.out.c3
    have ltH0 : H < a29.heap.size := BH0_24.out.lt
    have ltH1 : H + 1 < a29.heap.size := BH1_24.out.lt
    have ltH3 : H + 2 < a29.heap.size := BH3_24.out.lt
    have HBI := Lib.hid HB24.out
    have rsH0_0 : a29.cell? ⟨H, 0, none⟩ = some c0_0 := BH0_24.out.c0
    have rsH1_0 : a29.cell? ⟨H + 1, 0, none⟩ = some c1_0 := BH1_24.out.c0
    have rsH3_0 : a29.cell? ⟨H + 2, 0, none⟩ = some c3_0 := BH3_24.out.c0
    have rsH3_1 : a29.cell? ⟨H + 2, 1, none⟩ = some c3_1 := BH3_24.out.c1
    have rsH3_2 : a29.cell? ⟨H + 2, 2, none⟩ = some c3_2 := BH3_24.out.c2
    have rsH3_3 : a29.cell? ⟨H + 2, 3, none⟩ = some c3_3 := BH3_24.out.c3
    go_region_held3 (fun W => W.cell? ⟨H, 0, none⟩ = some c0_0 ∧ W.cell? ⟨H + 1, 0, none⟩ = some c1_0 ∧ W.cell? ⟨H + 2, 0, none⟩ = some c3_0 ∧ W.cell? ⟨H + 2, 1, none⟩ = some c3_1 ∧ W.cell? ⟨H + 2, 2, none⟩ = some c3_2 ∧ W.cell? ⟨H + 2, 3, none⟩ = some c3_3)
      (first | (refine ⟨?_, ?_, ?_, ?_, ?_, ?_⟩ <;> first | assumption | exact (World.cell?_setCell_far _ _ _ _ (World.new_ne _ _ (by assumption))).trans (by assumption)) | go_keep)
      (first
        | (go_at_call 9; refine (TO0.out _ (HBI.out.trans (Below.mono (by first | exact hq0 | exact hq0.alloc hq0.size _) HBI.out.size))).mono ?_; rintro e a30 ⟨AV0, dV0, fpV0, rfl, ho, hf, hb⟩; have hb0 := hb; have hq1 : Below a29.heap.size a29 a30 := (by first | exact hq0.trans (hb.mono hq0.size) | exact (hq0.alloc hq0.size _).trans (hb.mono (hq0.alloc hq0.size _).size)); (try have bx0_1 : Box1 a30 a29.heap.size 37 _ := (Box1.new a29.drew 37 _).under hb (by simp)); have UV0_1 := ho; have qa30_H0_0 := (BH0_24.out.under hq1 ltH0).c0; have qa30_H1_0 := (BH1_24.out.under hq1 ltH1).c0; have qa30_H3_0 := (BH3_24.out.under hq1 ltH3).c0; have qa30_H3_1 := (BH3_24.out.under hq1 ltH3).c1; have qa30_H3_2 := (BH3_24.out.under hq1 ltH3).c2; have qa30_H3_3 := (BH3_24.out.under hq1 ltH3).c3; clear ho hf hb)
        | (go_at_call 10; refine (TO1.out _ (HBI.out.trans (Below.mono (by first | exact hq1 | exact hq1.alloc hq1.size _) HBI.out.size))).mono ?_; rintro e a31 ⟨AV1, dV1, fpV1, rfl, ho, hf, hb⟩; have hb1 := hb; have hq2 : Below a29.heap.size a29 a31 := (by first | exact hq1.trans (hb.mono hq1.size) | exact (hq1.alloc hq1.size _).trans (hb.mono (hq1.alloc hq1.size _).size)); (try have bx0_2 := bx0_1.under hb bx0_1.lt); (try have bx1_2 : Box1 a31 a30.heap.size 37 _ := (Box1.new a30 37 _).under hb (by simp)); have UV0_2 : OSc a31 t0 [.slice AV0 y0_0 dV0] fpV0 := (by first | exact UV0_1.under hb | exact (UV0_1.under ((Below.refl _ _).alloc (Nat.le_refl _) _)).under hb); have UV1_2 := ho; have qa31_H0_0 := (BH0_24.out.under hq2 ltH0).c0; have qa31_H1_0 := (BH1_24.out.under hq2 ltH1).c0; have qa31_H3_0 := (BH3_24.out.under hq2 ltH3).c0; have qa31_H3_1 := (BH3_24.out.under hq2 ltH3).c1; have qa31_H3_2 := (BH3_24.out.under hq2 ltH3).c2; have qa31_H3_3 := (BH3_24.out.under hq2 ltH3).c3; clear ho hf hb)
        | (go_at_call 11; refine (TO3.out _ (HBI.out.trans (Below.mono (by first | exact hq2 | exact hq2.alloc hq2.size _) HBI.out.size))).mono ?_; rintro e a32 ⟨LV3, AV3, lV3, dV3, fpV3, rfl, ho, hf, hb⟩; have hb2 := hb; have hq3 : Below a29.heap.size a29 a32 := (by first | exact hq2.trans (hb.mono hq2.size) | exact (hq2.alloc hq2.size _).trans (hb.mono (hq2.alloc hq2.size _).size)); (try have bx0_3 := bx0_2.under hb bx0_2.lt); (try have bx1_3 := bx1_2.under hb bx1_2.lt); (try have bx2_3 : Box1 a32 a31.heap.size 37 _ := (Box1.new a31 37 _).under hb (by simp)); have UV0_3 : OSc a32 t0 [.slice AV0 y0_0 dV0] fpV0 := (by first | exact UV0_2.under hb | exact (UV0_2.under ((Below.refl _ _).alloc (Nat.le_refl _) _)).under hb); have UV1_3 : ODb a32 t1 [.slice AV1 y1_0 dV1] fpV1 := (by first | exact UV1_2.under hb | exact (UV1_2.under ((Below.refl _ _).alloc (Nat.le_refl _) _)).under hb); have UV3_3 := ho; have qa32_H0_0 := (BH0_24.out.under hq3 ltH0).c0; have qa32_H1_0 := (BH1_24.out.under hq3 ltH1).c0; have qa32_H3_0 := (BH3_24.out.under hq3 ltH3).c0; have qa32_H3_1 := (BH3_24.out.under hq3 ltH3).c1; have qa32_H3_2 := (BH3_24.out.under hq3 ltH3).c2; have qa32_H3_3 := (BH3_24.out.under hq3 ltH3).c3; clear ho hf hb)
        | (go_at_call 12; refine (IMF.out _ [.slice AV0 y0_0 dV0] fpV0 [.slice AV1 y1_0 dV1] fpV1 [.int .i64 y3_0, .int .i64 y3_1, .slice LV3 y3_2 lV3, .slice AV3 y3_3 dV3] fpV3 (by first | exact UV0_3 | exact UV0_3.under ((Below.refl _ _).alloc (Nat.le_refl _) _)) (by first | exact UV1_3 | exact UV1_3.under ((Below.refl _ _).alloc (Nat.le_refl _) _)) (by first | exact UV3_3 | exact UV3_3.under ((Below.refl _ _).alloc (Nat.le_refl _) _))).mono ?_; rintro e a33 ⟨AVR, dVR, fpVR, rfl, ho, hf, hb⟩; have hb3 := hb; have hq4 : Below a29.heap.size a29 a33 := (by first | exact hq3.trans (hb.mono hq3.size) | exact (hq3.alloc hq3.size _).trans (hb.mono (hq3.alloc hq3.size _).size)); (try have bx0_4 := bx0_3.under hb bx0_3.lt); (try have bx1_4 := bx1_3.under hb bx1_3.lt); (try have bx2_4 := bx2_3.under hb bx2_3.lt); (try have bx3_4 : Box1 a33 a32.heap.size 37 _ := (Box1.new a32 37 _).under hb (by simp)); (try have fz0 := bx0_4.free 0); (try have fz1 := bx1_4.free 0); (try have fz2 := bx2_4.free 0); (try have fz3 := bx3_4.free 0); (try have cl0_0 := bx0_4.c0); (try have cl1_0 := bx1_4.c0); (try have cl2_0 := bx2_4.c0); (try have cl3_0 := bx3_4.c0); have qa33_H0_0 := (BH0_24.out.under hq4 ltH0).c0; have qa33_H1_0 := (BH1_24.out.under hq4 ltH1).c0; have qa33_H3_0 := (BH3_24.out.under hq4 ltH3).c0; have qa33_H3_1 := (BH3_24.out.under hq4 ltH3).c1; have qa33_H3_2 := (BH3_24.out.under hq4 ltH3).c2; have qa33_H3_3 := (BH3_24.out.under hq4 ltH3).c3; have hor := ho; have hfr : ∀ b ∈ fpVR, a32.heap.size ≤ b ∧ b < a33.heap.size := (by first | exact hf | (intro b hm; have := hf b hm; simp at this; omega)); have hfr2 := hf; clear ho hf hb))
    all_goals first | refine NoPanic.normal ?_ | skip
    · (obtain ⟨Q, hP⟩ : ∃ Q, a33.heap.size = Q := ⟨_, rfl⟩; rw [hP]; have hH3 : H + 3 ≤ a29.heap.size := (by have := ltH3; omega); have hPs : a29.heap.size ≤ Q := (by have := hq4.size; omega); have hne : ∀ b ∈ fpVR, b ≠ Q := fun b hm => (by have := hfr b hm; omega); exact ⟨rfl, Q, AV0, dV0, AV1, dV1, LV3, lV3, AV3, dV3, AVR, dVR, fpVR, rfl, (by rw [← HWZ.out]; exact hq4.alloc hq4.size _), (by rw [← hP]; exact Box1.new _ _ _), hor.under ((Below.refl _ _).alloc (Nat.le_refl _) _), fun b hm => ⟨by have := hfr b hm; have := hq3.size; omega, by have := hfr b hm; simp; omega, hne b hm⟩, by omega⟩)
    · (obtain ⟨Q, hP⟩ : ∃ Q, a32.heap.size = Q := ⟨_, rfl⟩; have hx0 := bx3_4; have hx := bx3_4; (rw [hP] at hx0 hx); rw [hP]; have hH3 : H + 3 ≤ a29.heap.size := (by have := ltH3; omega); have hPs : a29.heap.size ≤ Q := (by have := hq3.size; omega); have hne : ∀ b ∈ fpVR, b ≠ Q := fun b hm => (by have := hfr2 b hm; have := hx0.lt; have := hb3.size; simp at *; omega); exact ⟨rfl, Q, AV0, dV0, AV1, dV1, LV3, lV3, AV3, dV3, AVR, dVR, fpVR, rfl, (by rw [← HWZ.out]; exact hq4.setCell hPs _), hx.set0 _, ODb.onlyM hor (only_setCell _ _ _) (fun b hm hc => hne b hm (by simpa using hc)), fun b hm => ⟨by have := hfr b hm; have := hq3.size; omega, by have := hfr b hm; simp; omega, hne b hm⟩, by omega⟩)
    · (obtain ⟨Q, hP⟩ : ∃ Q, a31.heap.size = Q := ⟨_, rfl⟩; have hx0 := bx2_3; have hx := bx2_4; (rw [hP] at hx0 hx); rw [hP]; have hH3 : H + 3 ≤ a29.heap.size := (by have := ltH3; omega); have hPs : a29.heap.size ≤ Q := (by have := hq2.size; omega); have hne : ∀ b ∈ fpVR, b ≠ Q := fun b hm => (by have := hfr2 b hm; have := hx0.lt; have := hb2.size; have := hb3.size; simp at *; omega); exact ⟨rfl, Q, AV0, dV0, AV1, dV1, LV3, lV3, AV3, dV3, AVR, dVR, fpVR, rfl, (by rw [← HWZ.out]; exact hq4.setCell hPs _), hx.set0 _, ODb.onlyM hor (only_setCell _ _ _) (fun b hm hc => hne b hm (by simpa using hc)), fun b hm => ⟨by have := hfr b hm; have := hq3.size; omega, by have := hfr b hm; simp; omega, hne b hm⟩, by omega⟩)
    · (obtain ⟨Q, hP⟩ : ∃ Q, a30.heap.size = Q := ⟨_, rfl⟩; have hx0 := bx1_2; have hx := bx1_4; (rw [hP] at hx0 hx); rw [hP]; have hH3 : H + 3 ≤ a29.heap.size := (by have := ltH3; omega); have hPs : a29.heap.size ≤ Q := (by have := hq1.size; omega); have hne : ∀ b ∈ fpVR, b ≠ Q := fun b hm => (by have := hfr2 b hm; have := hx0.lt; have := hb1.size; have := hb2.size; have := hb3.size; simp at *; omega); exact ⟨rfl, Q, AV0, dV0, AV1, dV1, LV3, lV3, AV3, dV3, AVR, dVR, fpVR, rfl, (by rw [← HWZ.out]; exact hq4.setCell hPs _), hx.set0 _, ODb.onlyM hor (only_setCell _ _ _) (fun b hm hc => hne b hm (by simpa using hc)), fun b hm => ⟨by have := hfr b hm; have := hq3.size; omega, by have := hfr b hm; simp; omega, hne b hm⟩, by omega⟩)
    · (obtain ⟨Q, hP⟩ : ∃ Q, a29.heap.size = Q := ⟨_, rfl⟩; have hx0 := bx0_1; have hx := bx0_4; (rw [hP] at hx0 hx); rw [hP]; have hH3 : H + 3 ≤ a29.heap.size := (by have := ltH3; omega); have hPs : a29.heap.size ≤ Q := (by have := hq0.size; omega); have hne : ∀ b ∈ fpVR, b ≠ Q := fun b hm => (by have := hfr2 b hm; have := hx0.lt; have := hb0.size; have := hb1.size; have := hb2.size; have := hb3.size; simp at *; omega); exact ⟨rfl, Q, AV0, dV0, AV1, dV1, LV3, lV3, AV3, dV3, AVR, dVR, fpVR, rfl, (by rw [← HWZ.out]; exact hq4.setCell hPs _), hx.set0 _, ODb.onlyM hor (only_setCell _ _ _) (fun b hm hc => hne b hm (by simpa using hc)), fun b hm => ⟨by have := hfr b hm; have := hq3.size; omega, by have := hfr b hm; simp; omega, hne b hm⟩, by omega⟩)
  rintro Q AV0 dV0 AV1 dV1 LV3 lV3 AV3 dV3 AVR dVR fpVR a34 ⟨hb, hbx, ho, hf, hp⟩
  rw [← HWZ.out] at hb
  clear HWZ
  have HB25 := Lib.hid (HB24.out.trans (hb.mono HB24.out.size))
  have BH0_25 := Lib.hid (BH0_24.out.under hb BH0_24.out.lt)
  have BH1_25 := Lib.hid (BH1_24.out.under hb BH1_24.out.lt)
  have BH3_25 := Lib.hid (BH3_24.out.under hb BH3_24.out.lt)
  have BP_25 := Lib.hid (BP_24.out.under hb BP_24.out.lt)
  have BX0_25 := Lib.hid (BX0_24.out.under hb BX0_24.out.lt)
  have BX1_25 := Lib.hid (BX1_24.out.under hb BX1_24.out.lt)
  have BX3_25 := Lib.hid (BX3_24.out.under hb BX3_24.out.lt)
  have BG_25 := Lib.hid (BG_24.out.under hb BG_24.out.lt)
  have TW_25 := Lib.hid (TW_24.out.under hb)
  have TZ_25 := Lib.hid (TZ_24.out.under hb)
  clear HB24 BH0_24 BH1_24 BH3_24 BP_24 BX0_24 BX1_24 BX3_24 BG_24 TW_24 TZ_24
  have BQ_25 := Lib.hid hbx
  have TQ := Lib.hid ho
  clear ho hf hb hp hbx
  have rQ_0 := BQ_25.out.c0
  have rP_0 := BP_25.out.c0
  have HC := Lib.hid (eqDB_same F a34 _ _ TQ.out.reads TW_25.out.reads)
  go_wp2_with fail
  refine HC.out.mono ?_
  rintro e a35 ⟨rfl, hb⟩
  clear rQ_0 rP_0
  have HB26 := Lib.hid (HB25.out.trans (hb.mono HB25.out.size))
  have BH0_26 := Lib.hid (BH0_25.out.under hb BH0_25.out.lt)
  have BH1_26 := Lib.hid (BH1_25.out.under hb BH1_25.out.lt)
  have BH3_26 := Lib.hid (BH3_25.out.under hb BH3_25.out.lt)
  have BP_26 := Lib.hid (BP_25.out.under hb BP_25.out.lt)
  have BX0_26 := Lib.hid (BX0_25.out.under hb BX0_25.out.lt)
  have BX1_26 := Lib.hid (BX1_25.out.under hb BX1_25.out.lt)
  have BX3_26 := Lib.hid (BX3_25.out.under hb BX3_25.out.lt)
  have BG_26 := Lib.hid (BG_25.out.under hb BG_25.out.lt)
  have BQ_26 := Lib.hid (BQ_25.out.under hb BQ_25.out.lt)
  have TW_26 := Lib.hid (TW_25.out.under hb)
  have TZ_26 := Lib.hid (TZ_25.out.under hb)
  clear HB25 BH0_25 BH1_25 BH3_25 BP_25 BX0_25 BX1_25 BX3_25 BG_25 BQ_25 TW_25 TZ_25
  clear HC hb
  have rG_0 := BG_26.out.c0
  have HC := Lib.hid (heldDb_any Fm a35 _ 1 km TZ_26.out.reads HLD.out (by decide) kmb)
  go_wp2_with fail
  refine HC.out.mono ?_
  rintro e a36 ⟨rfl, hb⟩
  clear rG_0
  have HY : Hid (LawYes w (.returned (.bool true)) a36) := ⟨rfl, HB26.out.trans (hb.mono HB26.out.size)⟩
  clear HC hb
  go_wp2_with fail
  go_ret
  exact HY.out
end Go.Proofs.YtlikmgkjilmjpaaGreat
