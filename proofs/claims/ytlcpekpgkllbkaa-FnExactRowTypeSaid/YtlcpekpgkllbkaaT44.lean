/-
  Merged by program: RotLaw.
-/
import Derived.Test.YtlcpekpgkllbkaaT22
import Derived.Test.YtlcpekpgkllbkaaT29
import Derived.Test.YtlcpekpgkllbkaaT41
import Derived.Test.YtlcpekpgkllbkaaT43
import Derived.Deep.RegionHeld3

/-
  The walk of laws.FnExactRowType. Written by genlaw.py.
-/
namespace Go.Proofs.Ytlcpekpgkllbkaa
open Go.RowKit

def rotMade1 (t : Sc) (t0 : Nat) (w : World) (e : Ending) (w' : World) : Prop :=
  ∃ (A : Option Addr) (d : Nat) (fp : List Nat), e = .returned (.agg #[.slice A t0 d]) ∧ OSc w' t [.slice A t0 d] fp ∧ (∀ b ∈ fp, w.heap.size ≤ b ∧ b < w'.heap.size) ∧ Below w.heap.size w w' 
def rotMade2 (F : Ty) (f0 : Int) (f1 : Nat) (f2 : Nat) (fb : Bool) (w : World) (e : Ending) (w' : World) : Prop :=
  ∃ (L A : Option Addr) (c d : Nat) (fp : List Nat), e = .returned (.tuple #[.agg #[.int .i64 f0, .slice L f1 c, .slice A f2 d], .bool fb]) ∧ OTy w' F [.int .i64 f0, .slice L f1 c, .slice A f2 d] fp ∧ (∀ b ∈ fp, w.heap.size ≤ b ∧ b < w'.heap.size) ∧ Below w.heap.size w w'
theorem rot_made2 {p : Ty × Bool} {w : World} {e : Ending} {w' : World} (h : MadeP p w e w') : rotMade2 p.1 p.1.top.kind p.1.top.labels.length p.1.kids.length p.2 w e w' := h

set_option maxRecDepth 100000 in
set_option maxHeartbeats 8000000 in
theorem rot_law (t : Sc) (cs : List Value) (x : ByteArray) (w : World) (h : RSc w t cs) (hx : x.size ≤ 9223372036854775807) : Calls Try.prog 4 #[.agg cs.toArray, .string x] w (LawYes w) := by
  obtain ⟨c0, rfl⟩ := h.one
  obtain ⟨W1, hW1⟩ : ∃ W1, w.alloc (.cells #[c0] 24) = W1 := ⟨_, rfl⟩
  obtain ⟨H, hH⟩ : ∃ H, w.heap.size = H := ⟨_, rfl⟩
  have hbox : Box1 W1 H 24 c0 := by rw [← hW1, ← hH]; exact Box1.new w _ _
  have hb0 : Below w.heap.size w W1 := by rw [← hW1]; exact (Below.refl _ _).alloc (Nat.le_refl _) _
  by_cases hbig : 1048576 < x.size
  · have HY : Hid (LawYes w (.returned (.bool true)) W1) := ⟨rfl, hb0⟩
    have HW1 := Lib.hid hW1
    clear h hbox hb0 hW1
    go_enter Try.func4, Try.ntmps4
    go_wp2_with fail
    rw [HW1.out]
    go_ret
    exact HY.out
  have hxx : ¬ (1048576 : Int) < (x.size : Int) := by omega
  have HSZ := Lib.hid (szSchema_any t W1 _ 1048576 (h.keep hb0) (by decide) (by decide))
  have HT := Lib.hid (fun W (hB : Below w.heap.size w W) => h.keep hB)
  have HW1 := Lib.hid hW1
  have BH0 := Lib.hid hbox
  have HB0 := Lib.hid hb0
  have HHH := Lib.hid hH
  have HZ1 : Hid (W1.heap.size = H + 1) := Lib.hid (by rw [← hW1, ← hH]; simp)
  have rH0 := hbox.c0
  clear h hbox hb0 hW1 hbig
  go_enter Try.func4, Try.ntmps4
  go_wp2_with fail
  rw [HW1.out]
  go_wp2_with fail
  refine HSZ.out.mono ?_
  rintro e a1 ⟨r, rfl, r1, r2, r3, hb⟩
  clear HSZ rH0
  have HB1 := Lib.hid (HB0.out.trans (hb.mono HB0.out.size))
  have BH1 := Lib.hid (BH0.out.under hb BH0.out.lt)
  clear HB0 BH0
  have NUM1 : Hid (H < a1.heap.size) := Lib.hid (by have := hb.size; have := HZ1.out; omega)
  clear hb
  by_cases hr : r < 0
  · have HY : Hid (LawYes w (.returned (.bool true)) a1) := ⟨rfl, HB1.out⟩
    clear r3
    go_wp2_with fail
    go_ret
    exact HY.out
  have hw : wSc t ≤ 1048576 := by have := r3 (by omega); omega
  have hrr : 0 ≤ r := by omega
  obtain ⟨F, fb, hF⟩ : ∃ F fb, rowTypeD t x = (F, fb) := ⟨_, _, rfl⟩
  have HCY : Hid ((1 : Int) + cntSc t ≤ 1000000000000) := Lib.hid (by have := cnt_wSc t; omega)
  have HCF : Hid ((1 : Int) + Tr.cnt F ≤ 1000000000000) := Lib.hid (by have hbd := (show F.cnt ≤ 1000000000 from by have h1 := cnt_wtM F; have h2 := rowTypeD_wt t x; rw [hF] at h2; exact by simp only at h2; omega); omega)
  obtain ⟨t0, ht0⟩ : ∃ t0, t.length = t0 := ⟨_, rfl⟩
  obtain ⟨f0, hf0⟩ : ∃ f0, F.top.kind = f0 := ⟨_, rfl⟩
  obtain ⟨f1, hf1⟩ : ∃ f1, F.top.labels.length = f1 := ⟨_, rfl⟩
  obtain ⟨f2, hf2⟩ : ∃ f2, F.kids.length = f2 := ⟨_, rfl⟩
  have TO : Hid (∀ W, Below w.heap.size w W → Calls Try.prog 11 #[.agg #[c0]] W (rotMade1 t t0 W)) := Lib.hid (fun W hB => by
    refine (toSchema_any t W _ (HT.out W hB) hw).mono ?_
    rintro e w' hm
    unfold MadeSc at hm
    rw [ht0] at hm
    exact hm)
  have SPF : Hid (∀ (W : World) (cs : List Value) (fp : List Nat), OSc W t cs fp → Calls Try.prog 14 #[.agg cs.toArray, .string x] W (rotMade2 F f0 f1 f2 fb W)) := Lib.hid (fun W cs fp ho => by
    refine (specRowT_any t x W cs ho.reads hw).mono ?_
    rintro e w' hm
    have hm := rot_made2 hm
    rw [hF] at hm
    simp only [hf0, hf1, hf2] at hm
    exact hm)
  have IMF : Hid (∀ (W : World) (cs : List Value) (fp : List Nat), OSc W t cs fp → Calls Try.prog 15 #[.agg cs.toArray, .string x] W (rotMade2 F f0 f1 f2 fb W)) := Lib.hid (fun W cs fp ho => by
    refine (implRowT_any t x W cs ho.reads hw hx).mono ?_
    rintro e w' hm
    have hm := rot_made2 hm
    rw [hF] at hm
    simp only [hf0, hf1, hf2] at hm
    exact hm)
  clear r3 hw hr r1 r2 HT hF ht0 hf0 hf1 hf2
  have rH0 := BH1.out.c0
  go_wp2_with fail
  refine (TO.out a1 HB1.out).mono ?_
  rintro e a2 ⟨A2, d2, fp2, rfl, ho, hf, hb⟩
  have HC := Lib.hid (SPF.out a2 _ _ ho)
  have NUM2 : Hid (H < a2.heap.size) := Lib.hid (by have := NUM1.out; have := hb.size; omega)
  clear rH0
  have HB2 := Lib.hid (HB1.out.trans (hb.mono HB1.out.size))
  have BH2 := Lib.hid (BH1.out.under hb BH1.out.lt)
  clear HB1 BH1
  clear ho hf hb NUM1
  go_wp2_with fail
  refine HC.out.mono ?_
  rintro e a3 ⟨LW, AW, lW, dW, fpW, rfl, ho, hf, hb⟩
  obtain ⟨a4, ha4⟩ : ∃ a4, a3.alloc (.cells #[.int .i64 f0, .slice LW f1 lW, .slice AW f2 dW] 36) = a4 := ⟨_, rfl⟩
  obtain ⟨P, hP⟩ : ∃ P, a3.heap.size = P := ⟨_, rfl⟩
  have hza4 : a4.heap.size = P + 1 := by rw [← ha4, ← hP]; simp
  have hal : Below a3.heap.size a3 a4 := by rw [← ha4]; exact (Below.refl _ _).alloc (Nat.le_refl _) _
  have hbx : Box3 a4 P 36 (.int .i64 f0) (.slice LW f1 lW) (.slice AW f2 dW) := by rw [← ha4, ← hP]; exact Box3.new a3 _ _ _ _
  have hb' := hb.trans (hal.mono hb.size)
  have HB3 := Lib.hid (HB2.out.trans (hb'.mono HB2.out.size))
  have BH3 := Lib.hid (BH2.out.under hb' BH2.out.lt)
  clear HB2 BH2
  have BP3 := Lib.hid hbx
  have TW3 := Lib.hid (ho.under hal)
  have NW : Hid (∀ b ∈ fpW, H < b ∧ b < P) := Lib.hid (fun b hm => by have := hf b hm; have := NUM2.out; omega)
  have NUM3 : Hid (H < P ∧ P < a4.heap.size) := Lib.hid (by have := NUM2.out; have := hb.size; omega)
  have HWn := Lib.hid ha4
  clear ho hf hb hb' hal hbx hza4 ha4 NUM2
  clear HC
  have rr := BH3.out
  rw [← HWn.out] at rr
  have rH0 := rr.c0
  clear rr
  go_wp2_with fail
  rw [HWn.out]
  refine (TO.out a4 HB3.out).mono ?_
  rintro e a5 ⟨AX, dX, fpX, rfl, ho, hf, hb⟩
  clear rH0
  clear HWn
  obtain ⟨a6, ha6⟩ : ∃ a6, a5.alloc (.cells #[.slice AX t0 dX] 29) = a6 := ⟨_, rfl⟩
  obtain ⟨X, hX⟩ : ∃ X, a5.heap.size = X := ⟨_, rfl⟩
  have hza6 : a6.heap.size = X + 1 := by rw [← ha6, ← hX]; simp
  have hal : Below a5.heap.size a5 a6 := by rw [← ha6]; exact (Below.refl _ _).alloc (Nat.le_refl _) _
  have hbx : Box1 a6 X 29 (.slice AX t0 dX) := by rw [← ha6, ← hX]; exact Box1.new a5 _ _
  have hb' := hb.trans (hal.mono hb.size)
  have HB4 := Lib.hid (HB3.out.trans (hb'.mono HB3.out.size))
  have BH4 := Lib.hid (BH3.out.under hb' BH3.out.lt)
  have BP4 := Lib.hid (BP3.out.under hb' BP3.out.lt)
  have TW4 := Lib.hid (TW3.out.under hb')
  clear HB3 BH3 BP3 TW3
  have BX4 := Lib.hid hbx
  have TY4 := Lib.hid (ho.under hal)
  have NY : Hid (∀ b ∈ fpX, P < b ∧ b < X) := Lib.hid (fun b hm => by have := hf b hm; have := NUM3.out; omega)
  have NUM4 : Hid (H < P ∧ P ≤ X ∧ X < a6.heap.size) := Lib.hid (by have := NUM3.out; have := hb.size; omega)
  have HWn := Lib.hid ha6
  clear ho hf hb hb' hal hbx hza6 ha6 NUM3
  have rr := BX4.out
  rw [← HWn.out] at rr
  have rX0 := rr.c0
  clear rr
  go_wp2_with fail
  rw [HWn.out]
  refine (IMF.out a6 _ _ TY4.out).mono ?_
  rintro e a7 ⟨LG, AG, lG, dG, fpG, rfl, ho, hf, hb⟩
  clear rX0
  clear HWn
  obtain ⟨a8, ha8⟩ : ∃ a8, a7.alloc (.cells #[.int .i64 f0, .slice LG f1 lG, .slice AG f2 dG] 36) = a8 := ⟨_, rfl⟩
  obtain ⟨G, hG⟩ : ∃ G, a7.heap.size = G := ⟨_, rfl⟩
  have hza8 : a8.heap.size = G + 1 := by rw [← ha8, ← hG]; simp
  have hal : Below a7.heap.size a7 a8 := by rw [← ha8]; exact (Below.refl _ _).alloc (Nat.le_refl _) _
  have hbx : Box3 a8 G 36 (.int .i64 f0) (.slice LG f1 lG) (.slice AG f2 dG) := by rw [← ha8, ← hG]; exact Box3.new a7 _ _ _ _
  have hb' := hb.trans (hal.mono hb.size)
  have HB5 := Lib.hid (HB4.out.trans (hb'.mono HB4.out.size))
  have BH5 := Lib.hid (BH4.out.under hb' BH4.out.lt)
  have BP5 := Lib.hid (BP4.out.under hb' BP4.out.lt)
  have BX5 := Lib.hid (BX4.out.under hb' BX4.out.lt)
  have TW5 := Lib.hid (TW4.out.under hb')
  have TY5 := Lib.hid (TY4.out.under hb')
  clear HB4 BH4 BP4 BX4 TW4 TY4
  have BG5 := Lib.hid hbx
  have TZ5 := Lib.hid (ho.under hal)
  have NZ : Hid (∀ b ∈ fpG, X < b ∧ b < G) := Lib.hid (fun b hm => by have := hf b hm; have := NUM4.out; omega)
  have NUM : Hid (w.heap.size = H ∧ H < P ∧ P ≤ X ∧ X < G ∧ G < a8.heap.size) := Lib.hid (by have := HHH.out; have := NUM4.out; have := hb.size; omega)
  have HWn := Lib.hid ha8
  clear ho hf hb hb' hal hbx hza8 ha8 NUM4
  clear HHH HZ1
  have rr := BG5.out
  rw [← HWn.out] at rr
  have rG0 := rr.c0
  have rG1 := rr.c1
  have rG2 := rr.c2
  clear rr
  have rr := BP5.out
  rw [← HWn.out] at rr
  have rP0 := rr.c0
  have rP1 := rr.c1
  have rP2 := rr.c2
  clear rr
  have HC := Lib.hid (eqType_same F a8 _ _ TZ5.out.reads TW5.out.reads)
  go_wp2_with fail
  rw [HWn.out]
  refine HC.out.mono ?_
  rintro e a9 ⟨rfl, hb⟩
  clear rG0 rG1 rG2 rP0 rP1 rP2
  have HB6 := Lib.hid (HB5.out.trans (hb.mono HB5.out.size))
  have BH6 := Lib.hid (BH5.out.under hb BH5.out.lt)
  have BP6 := Lib.hid (BP5.out.under hb BP5.out.lt)
  have BX6 := Lib.hid (BX5.out.under hb BX5.out.lt)
  have BG6 := Lib.hid (BG5.out.under hb BG5.out.lt)
  have TW6 := Lib.hid (TW5.out.under hb)
  have TY6 := Lib.hid (TY5.out.under hb)
  have TZ6 := Lib.hid (TZ5.out.under hb)
  clear HB5 BH5 BP5 BX5 BG5 TW5 TY5 TZ5
  clear HC hb HWn
  have rX0 := BX6.out.c0
  have rH0 := BH6.out.c0
  go_wp2_with fail
  clear rX0 rH0
  have HB7 := Lib.hid HB6.out.drew
  have BH7 := Lib.hid (show Box1 a9.drew H 24 c0 from BH6.out)
  have BP7 := Lib.hid (show Box3 a9.drew P 36 (.int .i64 f0) (.slice LW f1 lW) (.slice AW f2 dW) from BP6.out)
  have BX7 := Lib.hid (show Box1 a9.drew X 29 (.slice AX t0 dX) from BX6.out)
  have BG7 := Lib.hid (show Box3 a9.drew G 36 (.int .i64 f0) (.slice LG f1 lG) (.slice AG f2 dG) from BG6.out)
  have TW7 := Lib.hid (TW6.out.under (show Below a9.heap.size a9 a9.drew from (Below.refl _ _).drew))
  have TY7 := Lib.hid (TY6.out.under (show Below a9.heap.size a9 a9.drew from (Below.refl _ _).drew))
  have TZ7 := Lib.hid (TZ6.out.under (show Below a9.heap.size a9 a9.drew from (Below.refl _ _).drew))
  clear HB6 BH6 BP6 BX6 BG6 TW6 TY6 TZ6
  have rX0 := BX7.out.c0
  have rH0 := BH7.out.c0
  go_region_held3 (fun W => W.cell? ⟨X, 0, none⟩ = some (.slice AX t0 dX) ∧ W.cell? ⟨H, 0, none⟩ = some c0)
    (first | (refine ⟨?_, ?_⟩ <;> assumption) | go_keep)
    (first
      | (go_at_call 11; refine (TO.out a9.drew HB7.out).mono ?_; rintro e a10 ⟨A10, d10, fp10, rfl, ho, hf, hb⟩; have HB8 := Lib.hid (HB7.out.trans (hb.mono HB7.out.size)); have BH8 := Lib.hid (BH7.out.under hb BH7.out.lt); have BP8 := Lib.hid (BP7.out.under hb BP7.out.lt); have BX8 := Lib.hid (BX7.out.under hb BX7.out.lt); have BG8 := Lib.hid (BG7.out.under hb BG7.out.lt); have TW8 := Lib.hid (TW7.out.under hb); have TY8 := Lib.hid (TY7.out.under hb); have TZ8 := Lib.hid (TZ7.out.under hb); have HC := Lib.hid (eqSchema_same t a10 _ _ TY8.out.reads ho.reads); have uX0 := BX8.out.c0; have uH0 := BH8.out.c0; clear ho hf hb)
      | (go_at_call 13; refine HC.out.mono ?_; rintro e a11 ⟨rfl, hb⟩; have HB9 := Lib.hid (HB8.out.trans (hb.mono HB8.out.size)); have BH9 := Lib.hid (BH8.out.under hb BH8.out.lt); have BP9 := Lib.hid (BP8.out.under hb BP8.out.lt); have BX9 := Lib.hid (BX8.out.under hb BX8.out.lt); have BG9 := Lib.hid (BG8.out.under hb BG8.out.lt); have TW9 := Lib.hid (TW8.out.under hb); have TY9 := Lib.hid (TY8.out.under hb); have TZ9 := Lib.hid (TZ8.out.under hb); have vX0 := BX9.out.c0; have vH0 := BH9.out.c0; clear HC hb))
  clear rX0 rH0 uX0 uH0 vX0 vH0 HB7 HB8 BH7 BP7 BX7 BG7 BH8 BP8 BX8 BG8 TW7 TY7 TZ7 TW8 TY8 TZ8
  have rX0 := BX9.out.c0
  go_wp2_with fail
  refine (markSc_any t a11 _ fpX 1 TY9.out (by decide) HCY.out).mono ?_
  rintro e a12 ⟨k1, rfl, k1p, k1b, ho⟩
  clear rX0
  have HB10 := Lib.hid (HB9.out.trans (ho.below HB9.out.size (fun x hx => by have := NUM.out; have := NY.out x hx; omega)))
  have BH10 := Lib.hid (box1_onlyM BH9.out ho (fun hm => by have := NUM.out; have := NY.out H hm; omega))
  have BP10 := Lib.hid (box_only BP9.out ho (fun hm => by have := NUM.out; have := NY.out P hm; omega))
  have BX10 := Lib.hid (box1_onlyM BX9.out ho (fun hm => by have := NUM.out; have := NY.out X hm; omega))
  have BG10 := Lib.hid (box_only BG9.out ho (fun hm => by have := NUM.out; have := NY.out G hm; omega))
  have TW10 := Lib.hid (OTy.only TW9.out ho (fun b hb hm => by have := NUM.out; have := NW.out b hb; have := NY.out b hm; omega))
  have TZ10 := Lib.hid (OTy.only TZ9.out ho (fun b hb hm => by have := NUM.out; have := NZ.out b hb; have := NY.out b hm; omega))
  clear HB9 BH9 BP9 BX9 BG9 TW9 TY9 TZ9
  clear ho
  have k1b : k1 ≤ 1000000000000 := by have := HCY.out; omega
  have k1n : ¬ k1 < 0 := by omega
  have rG0 := BG10.out.c0
  have rG1 := BG10.out.c1
  have rG2 := BG10.out.c2
  have rP0 := BP10.out.c0
  have rP1 := BP10.out.c1
  have rP2 := BP10.out.c2
  have HC := Lib.hid (eqType_same F a12 _ _ TZ10.out.reads TW10.out.reads)
  go_wp2_with fail
  refine HC.out.mono ?_
  rintro e a13 ⟨rfl, hb⟩
  clear rG0 rG1 rG2 rP0 rP1 rP2
  have HB11 := Lib.hid (HB10.out.trans (hb.mono HB10.out.size))
  have BH11 := Lib.hid (BH10.out.under hb BH10.out.lt)
  have BP11 := Lib.hid (BP10.out.under hb BP10.out.lt)
  have BX11 := Lib.hid (BX10.out.under hb BX10.out.lt)
  have BG11 := Lib.hid (BG10.out.under hb BG10.out.lt)
  have TW11 := Lib.hid (TW10.out.under hb)
  have TZ11 := Lib.hid (TZ10.out.under hb)
  clear HB10 BH10 BP10 BX10 BG10 TW10 TZ10
  clear HC hb
  have rG0 := BG11.out.c0
  have rG1 := BG11.out.c1
  have rG2 := BG11.out.c2
  go_wp2_with fail
  refine (markType_any F a13 _ fpG 1 TZ11.out (by decide) HCF.out).mono ?_
  rintro e a14 ⟨Fm, k2, rfl, k2p, k2b, hot, hheld, ho⟩
  clear rG0 rG1 rG2
  have HB12 := Lib.hid (HB11.out.trans (ho.below HB11.out.size (fun x hx => by have := NUM.out; have := NZ.out x hx; omega)))
  have BH12 := Lib.hid (box1_onlyM BH11.out ho (fun hm => by have := NUM.out; have := NZ.out H hm; omega))
  have BP12 := Lib.hid (box_only BP11.out ho (fun hm => by have := NUM.out; have := NZ.out P hm; omega))
  have BX12 := Lib.hid (box1_onlyM BX11.out ho (fun hm => by have := NUM.out; have := NZ.out X hm; omega))
  have BG12 := Lib.hid (box_only BG11.out ho (fun hm => by have := NUM.out; have := NZ.out G hm; omega))
  have TW12 := Lib.hid (OTy.only TW11.out ho (fun b hb hm => by have := NUM.out; have := NW.out b hb; have := NZ.out b hm; omega))
  have TZ12 := Lib.hid hot
  clear HB11 BH11 BP11 BX11 BG11 TW11 TZ11
  have HLD := Lib.hid hheld
  clear ho hot hheld
  have k2n : ¬ k2 < 0 := by omega
  have rG0 := BG12.out.c0
  have rG1 := BG12.out.c1
  have rG2 := BG12.out.c2
  have HC := Lib.hid (heldType_any Fm a14 _ 1 k2 TZ12.out.reads HLD.out (by decide) k2b)
  go_wp2_with fail
  refine HC.out.mono ?_
  rintro e a15 ⟨rfl, hb⟩
  clear rG0 rG1 rG2
  have HB13 := Lib.hid (HB12.out.trans (hb.mono HB12.out.size))
  have BH13 := Lib.hid (BH12.out.under hb BH12.out.lt)
  have BP13 := Lib.hid (BP12.out.under hb BP12.out.lt)
  have BX13 := Lib.hid (BX12.out.under hb BX12.out.lt)
  have BG13 := Lib.hid (BG12.out.under hb BG12.out.lt)
  have TW13 := Lib.hid (TW12.out.under hb)
  have TZ13 := Lib.hid (TZ12.out.under hb)
  clear HB12 BH12 BP12 BX12 BG12 TW12 TZ12
  clear HC hb
  have rH0 := BH13.out.c0
  go_wp2_with fail
  refine (TO.out a15 HB13.out).mono ?_
  rintro e a16 ⟨A16, d16, fp16, rfl, ho, hf, hb⟩
  have HC := Lib.hid (IMF.out a16 _ _ ho)
  clear rH0
  have HB14 := Lib.hid (HB13.out.trans (hb.mono HB13.out.size))
  have BH14 := Lib.hid (BH13.out.under hb BH13.out.lt)
  have BP14 := Lib.hid (BP13.out.under hb BP13.out.lt)
  have BX14 := Lib.hid (BX13.out.under hb BX13.out.lt)
  have BG14 := Lib.hid (BG13.out.under hb BG13.out.lt)
  have TW14 := Lib.hid (TW13.out.under hb)
  have TZ14 := Lib.hid (TZ13.out.under hb)
  clear HB13 BH13 BP13 BX13 BG13 TW13 TZ13
  clear ho hf hb
  go_wp2_with fail
  refine HC.out.mono ?_
  rintro e a17 ⟨LQ, AQ, lQ, dQ, fpQ, rfl, ho, hf, hb⟩
  obtain ⟨a18, ha18⟩ : ∃ a18, a17.alloc (.cells #[.int .i64 f0, .slice LQ f1 lQ, .slice AQ f2 dQ] 36) = a18 := ⟨_, rfl⟩
  obtain ⟨Q, hQ⟩ : ∃ Q, a17.heap.size = Q := ⟨_, rfl⟩
  have hza18 : a18.heap.size = Q + 1 := by rw [← ha18, ← hQ]; simp
  have hal : Below a17.heap.size a17 a18 := by rw [← ha18]; exact (Below.refl _ _).alloc (Nat.le_refl _) _
  have hbx : Box3 a18 Q 36 (.int .i64 f0) (.slice LQ f1 lQ) (.slice AQ f2 dQ) := by rw [← ha18, ← hQ]; exact Box3.new a17 _ _ _ _
  have hb' := hb.trans (hal.mono hb.size)
  have HB15 := Lib.hid (HB14.out.trans (hb'.mono HB14.out.size))
  have BH15 := Lib.hid (BH14.out.under hb' BH14.out.lt)
  have BP15 := Lib.hid (BP14.out.under hb' BP14.out.lt)
  have BX15 := Lib.hid (BX14.out.under hb' BX14.out.lt)
  have BG15 := Lib.hid (BG14.out.under hb' BG14.out.lt)
  have TW15 := Lib.hid (TW14.out.under hb')
  have TZ15 := Lib.hid (TZ14.out.under hb')
  clear HB14 BH14 BP14 BX14 BG14 TW14 TZ14
  have BQ15 := Lib.hid hbx
  have TQ := Lib.hid (ho.under hal)
  have HWn := Lib.hid ha18
  clear ho hf hb hb' hal hbx hza18 ha18 HC
  have HC := Lib.hid (eqType_same F a18 _ _ TQ.out.reads TW15.out.reads)
  have rr := BQ15.out
  rw [← HWn.out] at rr
  have rQ0 := rr.c0
  have rQ1 := rr.c1
  have rQ2 := rr.c2
  clear rr
  have rr := BP15.out
  rw [← HWn.out] at rr
  have rP0 := rr.c0
  have rP1 := rr.c1
  have rP2 := rr.c2
  clear rr
  go_wp2_with fail
  rw [HWn.out]
  refine HC.out.mono ?_
  rintro e a19 ⟨rfl, hb⟩
  clear rQ0 rQ1 rQ2 rP0 rP1 rP2
  have HB16 := Lib.hid (HB15.out.trans (hb.mono HB15.out.size))
  have BH16 := Lib.hid (BH15.out.under hb BH15.out.lt)
  have BP16 := Lib.hid (BP15.out.under hb BP15.out.lt)
  have BX16 := Lib.hid (BX15.out.under hb BX15.out.lt)
  have BG16 := Lib.hid (BG15.out.under hb BG15.out.lt)
  have BQ16 := Lib.hid (BQ15.out.under hb BQ15.out.lt)
  have TW16 := Lib.hid (TW15.out.under hb)
  have TZ16 := Lib.hid (TZ15.out.under hb)
  clear HB15 BH15 BP15 BX15 BG15 BQ15 TW15 TZ15
  clear HC hb HWn
  have rG0 := BG16.out.c0
  have rG1 := BG16.out.c1
  have rG2 := BG16.out.c2
  have HC := Lib.hid (heldType_any Fm a19 _ 1 k2 TZ16.out.reads HLD.out (by decide) k2b)
  go_wp2_with fail
  refine HC.out.mono ?_
  rintro e a20 ⟨rfl, hb⟩
  clear rG0 rG1 rG2
  have HY : Hid (LawYes w (.returned (.bool true)) a20) := ⟨rfl, HB16.out.trans (hb.mono HB16.out.size)⟩
  clear HC hb
  go_wp2_with fail
  go_ret
  exact HY.out
end Go.Proofs.Ytlcpekpgkllbkaa
