/-
  Merged by program: TabLaw.
-/
import Derived.Test.YthcfgpjldhiinaaT30
import Derived.Test.YthcfgpjldhiinaaT24
import Derived.Test.YthcfgpjldhiinaaT40
import Derived.Test.YthcfgpjldhiinaaT26
import Derived.Test.YthcfgpjldhiinaaT41
import Derived.Test.YthcfgpjldhiinaaT43
import Derived.Test.YthcfgpjldhiinaaT23
import Derived.Deep.RegionHeld3

/-
  The walk of laws.FnExactTablesIn. Written by gen-tab-law.py.
-/
namespace Go.Proofs.Ythcfgpjldhiinaa
open Go.RowKit

theorem cnt_wtE (t : Ty) : t.cnt ≤ wt t + 1 := by
  have : t.cnt ≤ t.sum (fun a => wtA a + 1) := by
    refine Tr.ind (m := fun t => t.cnt ≤ t.sum (fun a => wtA a + 1)) (fun a ks ih => ?_) t
    rw [cnt_node, Tr.sum_node]
    have h := sum_le Tr.cnt (Tr.sum fun a => wtA a + 1) ks ih
    have h2 : cntK ks = (ks.map Tr.cnt).sum := rfl
    have h3 : wtA a = a.labels.length + total a.labels := rfl
    omega
  unfold wt
  omega
theorem sum_four {α : Type} (f : α → Nat) (ks : List α) : (ks.map fun t => 4 * f t).sum = 4 * (ks.map f).sum := by
  induction ks with
  | nil => rfl
  | cons k ks ih =>
    rw [List.map_cons, List.sum_cons, ih, List.map_cons, List.sum_cons]
    omega
theorem cntE_wte (t : Te) : t.cntE ≤ 4 * wte t + 4 := by
  have : t.cntE ≤ 4 * t.sum (fun a => wteA a + 1) := by
    refine Tr.ind (m := fun t => t.cntE ≤ 4 * t.sum (fun a => wteA a + 1)) (fun a ks ih => ?_) t
    rw [cntE_node, Tr.sum_node]
    have h := sum_le Tr.cntE (fun t : Te => 4 * t.sum fun a => wteA a + 1) ks ih
    rw [sum_four] at h
    have h2 : cntEK ks = (ks.map Tr.cntE).sum := rfl
    have h3 : wteA a = a.name.size + wt a.type + (a.labels.length + total a.labels) := rfl
    have h4 := cnt_wtE a.type
    omega
  unfold wte
  omega
theorem madeL_own {xs : List ByteArray} {w w' : World} {en : Ending} (h : OwnL xs w en w') : MadeL xs.length (xs.map Value.string) w en w' := by
  obtain ⟨A, c, h1, h2, h3⟩ := h
  exact ⟨A, c, h1, Row.of h2, h3⟩
theorem Row.only {w w' : World} {lo hi : Nat} {A : Option Addr} {n c : Nat} {xs : List Value} {fp : List Nat} (h : Row w lo hi A n c xs) (ho : Only fp w w') (hd : ∀ b ∈ fp, b < lo ∨ hi ≤ b) : Row w' lo hi A n c xs := by
  refine ⟨?_, h.2⟩
  refine ⟨h.1.1, h.1.2.imp id ?_⟩
  rintro ⟨g, cap, cur, hv, hb, hg, rest⟩
  refine ⟨g, cap, cur, hv, hb, ?_, rest⟩
  refine (ho.block g (Array.getElem?_eq_some_iff.1 hg).1 (fun hm => ?_)).trans hg
  have hob : (Value.slice A n c).ownBlock = some g := by rw [hv]; rfl
  have h1 := (h.1.lt g hob).1
  have h2 := h.2 g hob
  have := hd g hm
  omega
theorem box8_turned {w w' : World} {g lo hi : Nat} {t : TypeId} {a0 a1 a2 a3 a4 a5 a6 a7 : Value} (h : Box8 w g t a0 a1 a2 a3 a4 a5 a6 a7) (ht : Turned lo hi w w') (hd : g < lo ∨ hi ≤ g) : Box8 w' g t a0 a1 a2 a3 a4 a5 a6 a7 := by
  obtain ⟨row, hg, hr⟩ := ht
  refine h.grown hg (fun e => ?_)
  have := hr g e.symm
  omega
/-- a term in new memory, its cells told by their contents -/
def MadeE (t : Te) (y0 : Int) (y1 : ByteArray) (y2 y3 : Int) (y4 y5 y6 y7 : Nat) (w : World) (e : Ending) (w' : World) : Prop :=
  ∃ (TL : Option Addr) (tc : Nat) (TA : Option Addr) (td : Nat) (L : Option Addr) (c : Nat) (A : Option Addr) (d : Nat) (fp : List Nat), e = .returned (.agg #[.int .i64 y0, .string y1, .int .i64 y2, .int .i64 y3, .slice TL y4 tc, .slice TA y5 td, .slice L y6 c, .slice A y7 d]) ∧
    OTe w' t [.int .i64 y0, .string y1, .int .i64 y2, .int .i64 y3, .slice TL y4 tc, .slice TA y5 td, .slice L y6 c, .slice A y7 d] fp ∧ (∀ b ∈ fp, w.heap.size ≤ b ∧ b < w'.heap.size) ∧ Below w.heap.size w w'

set_option maxRecDepth 100000 in
set_option maxHeartbeats 8000000 in
theorem tab_law (t : Te) (cs : List Value) (w : World) (h : RTe w t cs) : Calls Try.prog 7 #[.agg cs.toArray] w (LawYes w) := by
  obtain ⟨c0, c1, c2, c3, c4, c5, c6, c7, rfl⟩ := h.eight
  obtain ⟨W1, hW1⟩ : ∃ W1, w.alloc (.cells #[c0, c1, c2, c3, c4, c5, c6, c7] 30) = W1 := ⟨_, rfl⟩
  obtain ⟨H, hH⟩ : ∃ H, w.heap.size = H := ⟨_, rfl⟩
  have hbox : Box8 W1 H 30 c0 c1 c2 c3 c4 c5 c6 c7 := by rw [← hW1, ← hH]; exact Box8.new w _ _ _ _ _ _ _ _ _
  have hb0 : Below w.heap.size w W1 := by rw [← hW1]; exact (Below.refl _ _).alloc (Nat.le_refl _) _
  have HSZ := Lib.hid (szTerm_any t W1 _ 1048576 (h.keep hb0) (by decide) (by decide))
  have HT := Lib.hid (fun W (hB : Below w.heap.size w W) => h.keep hB)
  have HW1 := Lib.hid hW1
  have BH0 := Lib.hid hbox
  have HB0 := Lib.hid hb0
  have HHH := Lib.hid hH
  have rH0 := hbox.c0
  have rH1 := hbox.c1
  have rH2 := hbox.c2
  have rH3 := hbox.c3
  have rH4 := hbox.c4
  have rH5 := hbox.c5
  have rH6 := hbox.c6
  have rH7 := hbox.c7
  clear h hbox hb0 hW1
  go_enter Try.func7, Try.ntmps7
  go_wp2_with fail
  rw [HW1.out]
  go_wp2_with fail
  refine HSZ.out.mono ?_
  rintro e a1 ⟨r, rfl, r1, r2, r3, hb⟩
  clear HSZ rH0 rH1 rH2 rH3 rH4 rH5 rH6 rH7
  have NUH : Hid (w.heap.size = H ∧ H < a1.heap.size) := Lib.hid (by have := hb.size; have := BH0.out.lt; have := HHH.out; omega)
  have HB1 := Lib.hid (HB0.out.trans (hb.mono HB0.out.size))
  have BH1 := Lib.hid (BH0.out.under hb BH0.out.lt)
  clear HB0 BH0
  clear hb HHH
  by_cases hr : r < 0
  · have HY : Hid (LawYes w (.returned (.bool true)) a1) := ⟨rfl, HB1.out⟩
    clear r3
    go_wp2_with fail
    go_ret
    exact HY.out
  have hw : wte t ≤ 1048576 := by have := r3 (by omega); omega
  have hs : t.size ≤ 1048577 := by have := size_wte t; omega
  have hrr : 0 ≤ r := by omega
  have HCY : Hid ((1 : Int) + t.cntE ≤ 1000000000000) := Lib.hid (by have := cntE_wte t; omega)
  obtain ⟨us, hus⟩ : ∃ us, t.tabs = us := ⟨_, rfl⟩
  have hul : us.length ≤ 1048577 := by rw [← hus]; exact Nat.le_trans (tabs_len t) hs
  obtain ⟨y0, hy0⟩ : ∃ y, t.top.kind = y := ⟨_, rfl⟩
  obtain ⟨y1, hy1⟩ : ∃ y, t.top.name = y := ⟨_, rfl⟩
  obtain ⟨y2, hy2⟩ : ∃ y, t.top.num = y := ⟨_, rfl⟩
  obtain ⟨y3, hy3⟩ : ∃ y, t.top.type.top.kind = y := ⟨_, rfl⟩
  obtain ⟨y4, hy4⟩ : ∃ y, t.top.type.top.labels.length = y := ⟨_, rfl⟩
  obtain ⟨y5, hy5⟩ : ∃ y, t.top.type.kids.length = y := ⟨_, rfl⟩
  obtain ⟨y6, hy6⟩ : ∃ y, t.top.labels.length = y := ⟨_, rfl⟩
  obtain ⟨y7, hy7⟩ : ∃ y, t.kids.length = y := ⟨_, rfl⟩
  have TO : Hid (∀ W, Below w.heap.size w W → Calls Try.prog 12 #[.agg #[c0, c1, c2, c3, c4, c5, c6, c7]] W (MadeE t y0 y1 y2 y3 y4 y5 y6 y7 W)) := Lib.hid (fun W hB => by
    refine (toTerm_any t W _ (HT.out W hB) hw).mono ?_
    rintro e w' hm
    unfold MadeTe teCells at hm
    rw [hy0, hy1, hy2, hy3, hy4, hy5, hy6, hy7] at hm
    exact hm)
  have SPF : Hid (∀ (W : World) (cs : List Value) (fp : List Nat), OTe W t cs fp → Calls Try.prog 19 #[.agg cs.toArray] W (MadeL us.length (us.map Value.string) W)) := Lib.hid (fun W cs fp ho => by
    rw [← hus]
    exact (specTabs_any t W cs ho.reads hs).mono fun _ _ h => madeL_own h)
  have IMF : Hid (∀ (W : World) (cs : List Value) (fp : List Nat), OTe W t cs fp → Calls Try.prog 20 #[.agg cs.toArray] W (MadeL us.length (us.map Value.string) W)) := Lib.hid (fun W cs fp ho => by
    rw [← hus]
    exact (implTabs_any t W cs ho.reads hw).mono fun _ _ h => madeL_own h)
  clear r3 hw hs hr r1 r2 HT hy0 hy1 hy2 hy3 hy4 hy5 hy6 hy7 hus
  have rH0 := BH1.out.c0
  have rH1 := BH1.out.c1
  have rH2 := BH1.out.c2
  have rH3 := BH1.out.c3
  have rH4 := BH1.out.c4
  have rH5 := BH1.out.c5
  have rH6 := BH1.out.c6
  have rH7 := BH1.out.c7
  go_wp2_with fail
  refine (TO.out a1 HB1.out).mono ?_
  rintro e a2 ⟨TL2, tc2, TA2, td2, L2, l2, A2, d2, fp2, rfl, ho, hf, hb⟩
  have HC := Lib.hid (SPF.out a2 _ _ ho)
  clear rH0 rH1 rH2 rH3 rH4 rH5 rH6 rH7
  have Na2 : Hid (a1.heap.size ≤ a2.heap.size) := Lib.hid hb.size
  have HB2 := Lib.hid (HB1.out.trans (hb.mono HB1.out.size))
  have BH2 := Lib.hid (BH1.out.under hb BH1.out.lt)
  clear HB1 BH1
  clear ho hf hb
  go_wp2_with fail
  refine (HC.out).mono ?_
  rintro e a3 ⟨AW, cW, rfl, hrow, hb⟩
  have Na3 : Hid (a2.heap.size ≤ a3.heap.size) := Lib.hid hb.size
  have HB3 := Lib.hid (HB2.out.trans (hb.mono HB2.out.size))
  have BH3 := Lib.hid (BH2.out.under hb BH2.out.lt)
  clear HB2 BH2
  have RW3 := Lib.hid hrow
  clear hrow hb HC
  have rH0 := BH3.out.c0
  have rH1 := BH3.out.c1
  have rH2 := BH3.out.c2
  have rH3 := BH3.out.c3
  have rH4 := BH3.out.c4
  have rH5 := BH3.out.c5
  have rH6 := BH3.out.c6
  have rH7 := BH3.out.c7
  go_wp2_with fail
  refine (TO.out a3 HB3.out).mono ?_
  rintro e a4 ⟨TLX, tcX, TAX, tdX, LX, lX, AX, dX, fpX, rfl, ho, hf, hb⟩
  clear rH0 rH1 rH2 rH3 rH4 rH5 rH6 rH7
  have NX : Hid (∀ b ∈ fpX, a3.heap.size ≤ b ∧ b < a4.heap.size) := Lib.hid hf
  have Na4 : Hid (a3.heap.size ≤ a4.heap.size) := Lib.hid hb.size
  have HB4 := Lib.hid (HB3.out.trans (hb.mono HB3.out.size))
  have BH4 := Lib.hid (BH3.out.under hb BH3.out.lt)
  have RW4 := Lib.hid (RW3.out.below hb)
  clear HB3 BH3 RW3
  have TY4 := Lib.hid ho
  clear ho hf hb
  obtain ⟨a5, ha5⟩ : ∃ a5, a4.alloc (.cells #[.int .i64 y0, .string y1, .int .i64 y2, .int .i64 y3, .slice TLX y4 tcX, .slice TAX y5 tdX, .slice LX y6 lX, .slice AX y7 dX] 38) = a5 := ⟨_, rfl⟩
  obtain ⟨X, hX⟩ : ∃ X, a4.heap.size = X := ⟨_, rfl⟩
  have hal : Below a4.heap.size a4 a5 := by rw [← ha5]; exact (Below.refl _ _).alloc (Nat.le_refl _) _
  have hbx : Box8 a5 X 38 (.int .i64 y0) (.string y1) (.int .i64 y2) (.int .i64 y3) (.slice TLX y4 tcX) (.slice TAX y5 tdX) (.slice LX y6 lX) (.slice AX y7 dX) := by rw [← ha5, ← hX]; exact Box8.new a4 _ _ _ _ _ _ _ _ _
  have Na5 : Hid (a4.heap.size ≤ a5.heap.size) := Lib.hid hal.size
  have HB5 := Lib.hid (HB4.out.trans (hal.mono HB4.out.size))
  have BH5 := Lib.hid (BH4.out.under hal BH4.out.lt)
  have RW5 := Lib.hid (RW4.out.below hal)
  have TY5 := Lib.hid (TY4.out.under hal)
  clear HB4 BH4 RW4 TY4
  have BX5 := Lib.hid hbx
  have NUX : Hid (a4.heap.size = X) := Lib.hid hX
  have HWn := Lib.hid ha5
  clear hal hbx ha5
  have rX0 := BX5.out.c0
  have rX1 := BX5.out.c1
  have rX2 := BX5.out.c2
  have rX3 := BX5.out.c3
  have rX4 := BX5.out.c4
  have rX5 := BX5.out.c5
  have rX6 := BX5.out.c6
  have rX7 := BX5.out.c7
  go_wp2_with fail
  rw [HWn.out]
  go_wp2_with fail
  have HC := Lib.hid (IMF.out a5 _ _ TY5.out)
  refine (HC.out).mono ?_
  rintro e a6 ⟨AG, cG, rfl, hrow, hb⟩
  have Na6 : Hid (a5.heap.size ≤ a6.heap.size) := Lib.hid hb.size
  have HB6 := Lib.hid (HB5.out.trans (hb.mono HB5.out.size))
  have BH6 := Lib.hid (BH5.out.under hb BH5.out.lt)
  have BX6 := Lib.hid (BX5.out.under hb BX5.out.lt)
  have RW6 := Lib.hid (RW5.out.below hb)
  have TY6 := Lib.hid (TY5.out.under hb)
  clear HB5 BH5 BX5 RW5 TY5
  have RG6 := Lib.hid hrow
  clear hrow hb HC HWn rX0 rX1 rX2 rX3 rX4 rX5 rX6 rX7
  have HC := Lib.hid (eqL_any AG AW cG cW us a6 RG6.out.sl RW6.out.sl (by omega))
  go_wp2_with fail
  refine HC.out.mono ?_
  rintro e a7 ⟨rfl, hb⟩
  have Na7 : Hid (a6.heap.size ≤ a7.heap.size) := Lib.hid hb.size
  have HB7 := Lib.hid (HB6.out.trans (hb.mono HB6.out.size))
  have BH7 := Lib.hid (BH6.out.under hb BH6.out.lt)
  have BX7 := Lib.hid (BX6.out.under hb BX6.out.lt)
  have RW7 := Lib.hid (RW6.out.below hb)
  have RG7 := Lib.hid (RG6.out.below hb)
  have TY7 := Lib.hid (TY6.out.under hb)
  clear HB6 BH6 BX6 RW6 RG6 TY6
  clear HC hb
  have rX0 := BX7.out.c0
  have rX1 := BX7.out.c1
  have rX2 := BX7.out.c2
  have rX3 := BX7.out.c3
  have rX4 := BX7.out.c4
  have rX5 := BX7.out.c5
  have rX6 := BX7.out.c6
  have rX7 := BX7.out.c7
  have rH0 := BH7.out.c0
  have rH1 := BH7.out.c1
  have rH2 := BH7.out.c2
  have rH3 := BH7.out.c3
  have rH4 := BH7.out.c4
  have rH5 := BH7.out.c5
  have rH6 := BH7.out.c6
  have rH7 := BH7.out.c7
  go_wp2_with fail
  clear rX0 rX1 rX2 rX3 rX4 rX5 rX6 rX7 rH0 rH1 rH2 rH3 rH4 rH5 rH6 rH7
  have HB8 := Lib.hid HB7.out.drew
  have BH8 := Lib.hid (show Box8 a7.drew H 30 c0 c1 c2 c3 c4 c5 c6 c7 from BH7.out)
  have BX8 := Lib.hid (show Box8 a7.drew X 38 (.int .i64 y0) (.string y1) (.int .i64 y2) (.int .i64 y3) (.slice TLX y4 tcX) (.slice TAX y5 tdX) (.slice LX y6 lX) (.slice AX y7 dX) from BX7.out)
  have RW8 := Lib.hid (RW7.out.below (show Below a7.heap.size a7 a7.drew from (Below.refl _ _).drew))
  have RG8 := Lib.hid (RG7.out.below (show Below a7.heap.size a7 a7.drew from (Below.refl _ _).drew))
  have TY8 := Lib.hid (TY7.out.under (show Below a7.heap.size a7 a7.drew from (Below.refl _ _).drew))
  clear HB7 BH7 BX7 RW7 RG7 TY7
  have rX0 := BX8.out.c0
  have rX1 := BX8.out.c1
  have rX2 := BX8.out.c2
  have rX3 := BX8.out.c3
  have rX4 := BX8.out.c4
  have rX5 := BX8.out.c5
  have rX6 := BX8.out.c6
  have rX7 := BX8.out.c7
  have rH0 := BH8.out.c0
  have rH1 := BH8.out.c1
  have rH2 := BH8.out.c2
  have rH3 := BH8.out.c3
  have rH4 := BH8.out.c4
  have rH5 := BH8.out.c5
  have rH6 := BH8.out.c6
  have rH7 := BH8.out.c7
  go_region_held3 (fun W => W.cell? ⟨X, 0, none⟩ = some (.int .i64 y0) ∧ W.cell? ⟨X, 1, none⟩ = some (.string y1) ∧ W.cell? ⟨X, 2, none⟩ = some (.int .i64 y2) ∧ W.cell? ⟨X, 3, none⟩ = some (.int .i64 y3) ∧ W.cell? ⟨X, 4, none⟩ = some (.slice TLX y4 tcX) ∧ W.cell? ⟨X, 5, none⟩ = some (.slice TAX y5 tdX) ∧ W.cell? ⟨X, 6, none⟩ = some (.slice LX y6 lX) ∧ W.cell? ⟨X, 7, none⟩ = some (.slice AX y7 dX) ∧ W.cell? ⟨H, 0, none⟩ = some c0 ∧ W.cell? ⟨H, 1, none⟩ = some c1 ∧ W.cell? ⟨H, 2, none⟩ = some c2 ∧ W.cell? ⟨H, 3, none⟩ = some c3 ∧ W.cell? ⟨H, 4, none⟩ = some c4 ∧ W.cell? ⟨H, 5, none⟩ = some c5 ∧ W.cell? ⟨H, 6, none⟩ = some c6 ∧ W.cell? ⟨H, 7, none⟩ = some c7)
    (first | (refine ⟨?_, ?_, ?_, ?_, ?_, ?_, ?_, ?_, ?_, ?_, ?_, ?_, ?_, ?_, ?_, ?_⟩ <;> assumption) | go_keep)
    (first
      | (go_at_call 12; refine (TO.out a7.drew HB8.out).mono ?_; rintro e a8 ⟨TL8, tc8, TA8, td8, L8, l8, A8, d8, fp8, rfl, ho, hf, hb⟩; have Na8 : Hid (a7.heap.size ≤ a8.heap.size) := Lib.hid hb.size; have HB9 := Lib.hid (HB8.out.trans (hb.mono HB8.out.size)); have BH9 := Lib.hid (BH8.out.under hb BH8.out.lt); have BX9 := Lib.hid (BX8.out.under hb BX8.out.lt); have RW9 := Lib.hid (RW8.out.below hb); have RG9 := Lib.hid (RG8.out.below hb); have TY9 := Lib.hid (TY8.out.under hb); have HC := Lib.hid (eqTerm_same t a8 _ _ TY9.out.reads ho.reads); have uX0 := BX9.out.c0; have uX1 := BX9.out.c1; have uX2 := BX9.out.c2; have uX3 := BX9.out.c3; have uX4 := BX9.out.c4; have uX5 := BX9.out.c5; have uX6 := BX9.out.c6; have uX7 := BX9.out.c7; have uH0 := BH9.out.c0; have uH1 := BH9.out.c1; have uH2 := BH9.out.c2; have uH3 := BH9.out.c3; have uH4 := BH9.out.c4; have uH5 := BH9.out.c5; have uH6 := BH9.out.c6; have uH7 := BH9.out.c7; clear ho hf hb)
      | (go_at_call 14; refine HC.out.mono ?_; rintro e a9 ⟨rfl, hb⟩; have Na9 : Hid (a8.heap.size ≤ a9.heap.size) := Lib.hid hb.size; have HB10 := Lib.hid (HB9.out.trans (hb.mono HB9.out.size)); have BH10 := Lib.hid (BH9.out.under hb BH9.out.lt); have BX10 := Lib.hid (BX9.out.under hb BX9.out.lt); have RW10 := Lib.hid (RW9.out.below hb); have RG10 := Lib.hid (RG9.out.below hb); have TY10 := Lib.hid (TY9.out.under hb); have vX0 := BX10.out.c0; have vX1 := BX10.out.c1; have vX2 := BX10.out.c2; have vX3 := BX10.out.c3; have vX4 := BX10.out.c4; have vX5 := BX10.out.c5; have vX6 := BX10.out.c6; have vX7 := BX10.out.c7; have vH0 := BH10.out.c0; have vH1 := BH10.out.c1; have vH2 := BH10.out.c2; have vH3 := BH10.out.c3; have vH4 := BH10.out.c4; have vH5 := BH10.out.c5; have vH6 := BH10.out.c6; have vH7 := BH10.out.c7; clear HC hb))
  clear rX0 rX1 rX2 rX3 rX4 rX5 rX6 rX7 rH0 rH1 rH2 rH3 rH4 rH5 rH6 rH7 uX0 uX1 uX2 uX3 uX4 uX5 uX6 uX7 uH0 uH1 uH2 uH3 uH4 uH5 uH6 uH7 vX0 vX1 vX2 vX3 vX4 vX5 vX6 vX7 vH0 vH1 vH2 vH3 vH4 vH5 vH6 vH7
  clear HB8 BH8 BX8 RW8 RG8 TY8
  clear HB9 BH9 BX9 RW9 RG9 TY9
  have rX0 := BX10.out.c0
  have rX1 := BX10.out.c1
  have rX2 := BX10.out.c2
  have rX3 := BX10.out.c3
  have rX4 := BX10.out.c4
  have rX5 := BX10.out.c5
  have rX6 := BX10.out.c6
  have rX7 := BX10.out.c7
  go_wp2_with fail
  refine (markTerm_any t a9 _ fpX 1 TY10.out (by decide) HCY.out).mono ?_
  rintro e a10 ⟨tm, k1, rfl, k1p, k1b, _, _, ho⟩
  clear rX0 rX1 rX2 rX3 rX4 rX5 rX6 rX7
  have Na10 : Hid (a9.heap.size ≤ a10.heap.size) := Lib.hid ho.size
  have HB11 := Lib.hid (HB10.out.trans (ho.below HB10.out.size (fun x hx => by have := NUH.out; have := Na2.out; have := Na3.out; have := Na4.out; have := Na5.out; have := NUX.out; have := Na6.out; have := Na7.out; have := Na8.out; have := Na9.out; have := Na10.out; have := NX.out x hx; omega)))
  have BH11 := Lib.hid (box8_only BH10.out ho (fun hm => by have := NUH.out; have := Na2.out; have := Na3.out; have := Na4.out; have := Na5.out; have := NUX.out; have := Na6.out; have := Na7.out; have := Na8.out; have := Na9.out; have := Na10.out; have := NX.out H hm; omega))
  have RW11 := Lib.hid (RW10.out.only ho (fun b hm => by have := NUH.out; have := Na2.out; have := Na3.out; have := Na4.out; have := Na5.out; have := NUX.out; have := Na6.out; have := Na7.out; have := Na8.out; have := Na9.out; have := Na10.out; have := NX.out b hm; omega))
  have RG11 := Lib.hid (RG10.out.only ho (fun b hm => by have := NUH.out; have := Na2.out; have := Na3.out; have := Na4.out; have := Na5.out; have := NUX.out; have := Na6.out; have := Na7.out; have := Na8.out; have := Na9.out; have := Na10.out; have := NX.out b hm; omega))
  clear HB10 BH10 BX10 RW10 RG10 TY10 ho HCY
  have k1n : ¬ k1 < 0 := by omega
  have HC := Lib.hid (eqL_any AG AW cG cW us a10 RG11.out.sl RW11.out.sl (by omega))
  go_wp2_with fail
  refine HC.out.mono ?_
  rintro e a11 ⟨rfl, hb⟩
  have Na11 : Hid (a10.heap.size ≤ a11.heap.size) := Lib.hid hb.size
  have HB12 := Lib.hid (HB11.out.trans (hb.mono HB11.out.size))
  have BH12 := Lib.hid (BH11.out.under hb BH11.out.lt)
  have RW12 := Lib.hid (RW11.out.below hb)
  have RG12 := Lib.hid (RG11.out.below hb)
  clear HB11 BH11 RW11 RG11
  clear HC hb
  have HC := Lib.hid (markL_any _ _ AG us.length cG 1 _ a11 RG12.out (strs_strs us) (by omega) (by omega))
  go_wp2_with fail
  refine HC.out.mono ?_
  rintro e a12 ⟨rfl, hrow, ht⟩
  have Na12 : Hid (a11.heap.size ≤ a12.heap.size) := Lib.hid ht.size
  have HB13 := Lib.hid (below_turned HB12.out ht HB12.out.size (by have := NUH.out; have := Na2.out; have := Na3.out; have := Na4.out; have := Na5.out; have := NUX.out; have := Na6.out; have := Na7.out; have := Na8.out; have := Na9.out; have := Na10.out; have := Na11.out; have := Na12.out; omega))
  have BH13 := Lib.hid (box8_turned BH12.out ht (by have := NUH.out; have := Na2.out; have := Na3.out; have := Na4.out; have := Na5.out; have := NUX.out; have := Na6.out; have := Na7.out; have := Na8.out; have := Na9.out; have := Na10.out; have := Na11.out; have := Na12.out; omega))
  have RW13 := Lib.hid (RW12.out.turned ht (by have := NUH.out; have := Na2.out; have := Na3.out; have := Na4.out; have := Na5.out; have := NUX.out; have := Na6.out; have := Na7.out; have := Na8.out; have := Na9.out; have := Na10.out; have := Na11.out; have := Na12.out; omega))
  have RG13 := Lib.hid hrow
  clear HB12 BH12 RW12 RG12 HC hrow ht
  have k2n : ¬ (1 + (us.length : Int) < 0) := by omega
  have HC := Lib.hid (heldStringS_any AG us.length cG 1 a12 RG13.out.sl (by omega) (by omega))
  go_wp2_with fail
  refine HC.out.mono ?_
  rintro e a13 ⟨rfl, hb⟩
  have Na13 : Hid (a12.heap.size ≤ a13.heap.size) := Lib.hid hb.size
  have HB14 := Lib.hid (HB13.out.trans (hb.mono HB13.out.size))
  have BH14 := Lib.hid (BH13.out.under hb BH13.out.lt)
  have RW14 := Lib.hid (RW13.out.below hb)
  have RG14 := Lib.hid (RG13.out.below hb)
  clear HB13 BH13 RW13 RG13
  clear HC hb
  have rH0 := BH14.out.c0
  have rH1 := BH14.out.c1
  have rH2 := BH14.out.c2
  have rH3 := BH14.out.c3
  have rH4 := BH14.out.c4
  have rH5 := BH14.out.c5
  have rH6 := BH14.out.c6
  have rH7 := BH14.out.c7
  go_wp2_with fail
  refine (TO.out a13 HB14.out).mono ?_
  rintro e a14 ⟨TL14, tc14, TA14, td14, L14, l14, A14, d14, fp14, rfl, ho, hf, hb⟩
  have HC := Lib.hid (IMF.out a14 _ _ ho)
  clear rH0 rH1 rH2 rH3 rH4 rH5 rH6 rH7
  have Na14 : Hid (a13.heap.size ≤ a14.heap.size) := Lib.hid hb.size
  have HB15 := Lib.hid (HB14.out.trans (hb.mono HB14.out.size))
  have BH15 := Lib.hid (BH14.out.under hb BH14.out.lt)
  have RW15 := Lib.hid (RW14.out.below hb)
  have RG15 := Lib.hid (RG14.out.below hb)
  clear HB14 BH14 RW14 RG14
  clear ho hf hb
  go_wp2_with fail
  refine (HC.out).mono ?_
  rintro e a15 ⟨AQ, cQ, rfl, hrow, hb⟩
  have Na15 : Hid (a14.heap.size ≤ a15.heap.size) := Lib.hid hb.size
  have HB16 := Lib.hid (HB15.out.trans (hb.mono HB15.out.size))
  have BH16 := Lib.hid (BH15.out.under hb BH15.out.lt)
  have RW16 := Lib.hid (RW15.out.below hb)
  have RG16 := Lib.hid (RG15.out.below hb)
  clear HB15 BH15 RW15 RG15
  have RQ16 := Lib.hid hrow
  clear hrow hb HC
  have HC := Lib.hid (eqL_any AQ AW cQ cW us a15 RQ16.out.sl RW16.out.sl (by omega))
  go_wp2_with fail
  refine HC.out.mono ?_
  rintro e a16 ⟨rfl, hb⟩
  have Na16 : Hid (a15.heap.size ≤ a16.heap.size) := Lib.hid hb.size
  have HB17 := Lib.hid (HB16.out.trans (hb.mono HB16.out.size))
  have BH17 := Lib.hid (BH16.out.under hb BH16.out.lt)
  have RW17 := Lib.hid (RW16.out.below hb)
  have RG17 := Lib.hid (RG16.out.below hb)
  have RQ17 := Lib.hid (RQ16.out.below hb)
  clear HB16 BH16 RW16 RG16 RQ16
  clear HC hb
  have HC := Lib.hid (heldStringS_any AG us.length cG 1 a16 RG17.out.sl (by omega) (by omega))
  go_wp2_with fail
  refine HC.out.mono ?_
  rintro e a17 ⟨rfl, hb⟩
  have Na17 : Hid (a16.heap.size ≤ a17.heap.size) := Lib.hid hb.size
  have HB18 := Lib.hid (HB17.out.trans (hb.mono HB17.out.size))
  have BH18 := Lib.hid (BH17.out.under hb BH17.out.lt)
  have RW18 := Lib.hid (RW17.out.below hb)
  have RG18 := Lib.hid (RG17.out.below hb)
  have RQ18 := Lib.hid (RQ17.out.below hb)
  clear HB17 BH17 RW17 RG17 RQ17
  clear HC hb
  have HY : Hid (LawYes w (.returned (.bool true)) a17) := ⟨rfl, HB18.out⟩
  clear HB18 BH18 RW18 RG18 RQ18
  go_wp2_with fail
  go_ret
  exact HY.out
end Go.Proofs.Ythcfgpjldhiinaa
