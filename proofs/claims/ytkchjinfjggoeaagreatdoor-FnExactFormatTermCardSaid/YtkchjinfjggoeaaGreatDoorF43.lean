/-
  Merged by program: TeTo.
-/
import Derived.Test.YtkchjinfjggoeaaGreatDoorF42
import Derived.Test.YtkchjinfjggoeaaGreatDoorF9
import Derived.Test.YtkchjinfjggoeaaGreatDoorF4
import Derived.Test.YtkchjinfjggoeaaGreatDoorF14
import Derived.WalkKit

/-
  A copy of a value in new memory: 'toTerm', 'toTermS'.
-/
namespace Go.Proofs.YtkchjinfjggoeaaGreatDoor
open Go.RowKit

theorem infoTe : (Tryz.prog.info? 30).map (fun i => (i.zero, i.size, i.bytes)) = some (some (.agg #[.int .i64 0, .string ⟨#[]⟩, .int .i64 0, .int .i64 0, .slice none 0 0, .slice none 0 0, .slice none 0 0, .slice none 0 0]), 8, 136) := by kernel_rfl
def ToTeK (t : Te) : Prop := ∀ (w : World) (cs : List Value), RTe w t cs → wte t ≤ 1048576 → Calls Tryz.prog 16 #[.agg cs.toArray] w (MadeTe t w)

/-- what the loop keeps: the first k places are filled -/
def ToTeInv (ks : List Te) (w : World) (i : Value) (wr : World) : Prop :=
  ∃ (k : Nat) (xs : List Value) (fs : Nat → List Nat), k ≤ ks.length ∧ i = .int .i64 k ∧ wr.ownsRow w.heap.size 30 8 (.slice (some ⟨w.heap.size, 0, none⟩) ks.length ks.length) ks.length xs ∧
    (∀ j t, j < k → ks[j]? = some t → OTe wr t (part8 xs j) (fs j)) ∧ ((List.range k).flatMap fs).Nodup ∧ (∀ j, j < k → ∀ b ∈ fs j, w.heap.size < b ∧ b < wr.heap.size) ∧ Below w.heap.size w wr

/-- a list of types in new memory -/
def MadeTeS (ks : List Te) (w : World) (e : Ending) (w' : World) : Prop :=
  ∃ (A : Option Addr) (d : Nat) (xs : List Value) (fs : Nat → List Nat), e = .returned (.slice A ks.length d) ∧ w'.ownsRow 0 30 8 (.slice A ks.length d) ks.length xs ∧ (∀ j t, ks[j]? = some t → OTe w' t (part8 xs j) (fs j)) ∧
    (blk A ++ (List.range ks.length).flatMap fs).Nodup ∧ (∀ b ∈ blk A ++ (List.range ks.length).flatMap fs, w.heap.size ≤ b ∧ b < w'.heap.size) ∧ Below w.heap.size w w'

set_option maxHeartbeats 400000 in
theorem toteinv_more {ks : List Te} {w wr w2 : World} {k : Nat} {xs : List Value} {fs : Nat → List Nat} {fp : List Nat} {r0 r1 r2 r3 r4 r5 r6 r7 : Value} {i : Value} (hk : k < ks.length) (hi : i = .int .i64 ((k + 1 : Nat) : Int))
    (hown : wr.ownsRow w.heap.size 30 8 (.slice (some ⟨w.heap.size, 0, none⟩) ks.length ks.length) ks.length xs) (hkid : ∀ j t, j < k → ks[j]? = some t → OTe wr t (part8 xs j) (fs j)) (hnd : ((List.range k).flatMap fs).Nodup)
    (hbd : ∀ j, j < k → ∀ b ∈ fs j, w.heap.size < b ∧ b < wr.heap.size) (hb : Below w.heap.size w wr) (hb2 : Below wr.heap.size wr w2) (hot : OTe w2 ks[k] [r0, r1, r2, r3, r4, r5, r6, r7] fp) (hfp : ∀ b ∈ fp, wr.heap.size ≤ b ∧ b < w2.heap.size) :
    ToTeInv ks w i (store8 w2 w.heap.size k r0 r1 r2 r3 r4 r5 r6 r7) := by
  have hxl : xs.length = ks.length * 8 := hown.1
  have hlt : w.heap.size < wr.heap.size := (hown.lt w.heap.size rfl).2
  have ho2 : w2.ownsRow w.heap.size 30 8 (.slice (some ⟨w.heap.size, 0, none⟩) ks.length ks.length) ks.length xs :=
    hown.kept (row := none) ⟨hb2.os, hb2.tape, hb2.output, hb2.size, fun i hi _ => hb2.block i hi⟩ (.inr (by simp [Value.ownBlock]))
  obtain ⟨h3, hg3⟩ := own_store8 ho2 k r0 r1 r2 r3 r4 r5 r6 r7
  have hs2 := hb2.size
  have hs3 := hg3.size
  refine ⟨k + 1, put8 xs k r0 r1 r2 r3 r4 r5 r6 r7, fun j => if j = k then fp else fs j, hk, hi, h3, fun j t hj ht => ?_, ?_, fun j hj b hbm => ?_, (hb.trans (hb2.mono hb.size)).grown hg3 (by omega) (fun q hq => by injection hq with hq; omega)⟩
  · show OTe _ _ _ (if j = k then fp else fs j)
    by_cases e : j = k
    · subst e
      rw [List.getElem?_eq_getElem hk] at ht
      have ht' := Option.some.inj ht
      subst ht'
      rw [if_pos rfl, put8_at xs j r0 r1 r2 r3 r4 r5 r6 r7 (by omega)]
      exact hot.keep hg3 (fun b hbm e => by injection e with e; have := (hfp b hbm).1; omega)
    · rw [if_neg e, put8_other xs k j r0 r1 r2 r3 r4 r5 r6 r7 e]
      exact ((hkid j t (by omega) ht).under hb2).keep hg3 (fun b hbm e => by injection e with e; have := (hbd j (by omega) b hbm).1; omega)
  · rw [flat_more]
    refine List.nodup_append.2 ⟨hnd, ?_, fun a ha b hb' e => ?_⟩
    · exact hot.nodup
    · have h1 := flat_bd hbd a ha
      have h2 := hfp b hb'
      omega
  · change b ∈ (if j = k then fp else fs j) at hbm
    by_cases e : j = k
    · rw [if_pos e] at hbm
      have := hfp b hbm
      omega
    · rw [if_neg e] at hbm
      have := hbd j (by omega) b hbm
      omega

set_option maxHeartbeats 800000 in
set_option maxRecDepth 100000 in
theorem toTermS_of (ks : List Te) (ih : ∀ t ∈ ks, ToTeK t) (w : World) (A : Option Addr) (d : Nat) (hp : RTes w A ks) (hw : wteK ks ≤ 1048576) :
    Calls Tryz.prog 41 #[.slice A ks.length d] w (MadeTeS ks w) := by
  obtain ⟨i0, hi, hz0, hz1, hz2⟩ := info_parts infoTe
  have hl : ks.length ≤ 1048576 := by unfold wteK at hw; omega
  have HP := Lib.hid hp
  have HI := Lib.hid ih
  have HWT := Lib.hid hw
  clear hp ih hw
  go_enter Tryz.func41, Tryz.ntmps41
  go_wp2_with (at_make; refine wpList_make_full _ rfl _ _ 28 rfl w.heap.size 30 i0 (.agg #[.int .i64 0, .string ⟨#[]⟩, .int .i64 0, .int .i64 0, .slice none 0 0, .slice none 0 0, .slice none 0 0, .slice none 0 0]) 8 Tryz.underlying28 hi hz0 hz1 _ _ _ _ ks.length rfl rfl rfl rfl (by rw [hz2]; omega) (by unfold maxLen; omega) (Nat.le_refl _) ?_; intro w0 hown0 hgrow0)
  have hb0 : Below w.heap.size w w0 := (Below.refl _ _).grown hgrow0 (Nat.le_refl _) (fun k hk => by cases hk)
  go_loopw [4] (fun i wr => ToTeInv ks w i wr) (fun i _ => ks.length - (intOf i).toNat)
  case atStart => exact ⟨0, _, fun _ => [], Nat.zero_le _, rfl, hown0, fun j t hj => by omega, by simp, fun j hj => by omega, hb0⟩
  case round =>
    obtain ⟨k, xs, fs, hk, rfl, hown, hkid, hnd, hbd, hb⟩ := hrel
    have HO := Lib.hid hown
    have HK := Lib.hid hkid
    have HN := Lib.hid hnd
    have HBD := Lib.hid hbd
    have HB := Lib.hid hb
    clear hown hkid hnd hbd
    by_cases hlt : k < ks.length
    · obtain ⟨ad, p, c0, c1, c2, c3, c4, c5, c6, c7, rfl, hpe, hrt, q0, q1, q2, q3, q4, q5, q6, q7⟩ := tid_at HP.out hb hlt
      have hwk : wte ks[k] ≤ 1048576 := by
        have h1 := sum_take_succ wte ks k hlt
        have h2 := sum_take_le wte ks (k + 1)
        have h3 := HWT.out
        unfold wteK at h3
        omega
      have HC := Lib.hid (HI.out ks[k] (List.getElem_mem hlt) wr [c0, c1, c2, c3, c4, c5, c6, c7] hrt hwk)
      clear hrt hwk
      go_wp2_with fail
      refine HC.out.mono ?_
      rintro e w2 ⟨TL2, tc2, TA2, td2, L2, l2, A2, d2, fp, rfl, hot, hfp, hb2⟩
      unfold teCells at hot
      generalize ks[k].top.kind = x0 at hot ⊢
      generalize ks[k].top.name = x1 at hot ⊢
      generalize ks[k].top.num = x2 at hot ⊢
      generalize ks[k].top.type.top.kind = x3 at hot ⊢
      generalize ks[k].top.type.top.labels.length = x4 at hot ⊢
      generalize ks[k].top.type.kids.length = x5 at hot ⊢
      generalize ks[k].top.labels.length = x6 at hot ⊢
      generalize ks[k].kids.length = x7 at hot ⊢
      have hxl : xs.length = ks.length * 8 := HO.out.1
      have hgrow2 : wr.grownBy w2 none := ⟨hb2.os, hb2.tape, hb2.output, hb2.size, fun i hi _ => hb2.block i hi⟩
      have ho2 := HO.out.kept hgrow2 (.inr (by simp [Value.ownBlock]))
      have m0 : w2.cell? ⟨w.heap.size, k * 8, none⟩ = some (xs[k * 8]'(by omega)) := by rw [ho2.cellAt _ (by omega)]; exact List.getElem?_eq_getElem _
      have m1 : w2.cell? ⟨w.heap.size, k * 8 + 1, none⟩ = some (xs[k * 8 + 1]'(by omega)) := by rw [ho2.cellAt _ (by omega)]; exact List.getElem?_eq_getElem _
      have m2 : w2.cell? ⟨w.heap.size, k * 8 + 2, none⟩ = some (xs[k * 8 + 2]'(by omega)) := by rw [ho2.cellAt _ (by omega)]; exact List.getElem?_eq_getElem _
      have m3 : w2.cell? ⟨w.heap.size, k * 8 + 3, none⟩ = some (xs[k * 8 + 3]'(by omega)) := by rw [ho2.cellAt _ (by omega)]; exact List.getElem?_eq_getElem _
      have m4 : w2.cell? ⟨w.heap.size, k * 8 + 4, none⟩ = some (xs[k * 8 + 4]'(by omega)) := by rw [ho2.cellAt _ (by omega)]; exact List.getElem?_eq_getElem _
      have m5 : w2.cell? ⟨w.heap.size, k * 8 + 5, none⟩ = some (xs[k * 8 + 5]'(by omega)) := by rw [ho2.cellAt _ (by omega)]; exact List.getElem?_eq_getElem _
      have m6 : w2.cell? ⟨w.heap.size, k * 8 + 6, none⟩ = some (xs[k * 8 + 6]'(by omega)) := by rw [ho2.cellAt _ (by omega)]; exact List.getElem?_eq_getElem _
      have m7 : w2.cell? ⟨w.heap.size, k * 8 + 7, none⟩ = some (xs[k * 8 + 7]'(by omega)) := by rw [ho2.cellAt _ (by omega)]; exact List.getElem?_eq_getElem _
      have f0 := ho2.frozenAt (k * 8)
      have f1 := ho2.frozenAt (k * 8 + 1)
      have f2 := ho2.frozenAt (k * 8 + 2)
      have f3 := ho2.frozenAt (k * 8 + 3)
      have f4 := ho2.frozenAt (k * 8 + 4)
      have f5 := ho2.frozenAt (k * 8 + 5)
      have f6 := ho2.frozenAt (k * 8 + 6)
      have f7 := ho2.frozenAt (k * 8 + 7)
      have HR : Hid (∀ i, i = Value.int .i64 ((k + 1 : Nat) : Int) → ToTeInv ks w i (store8 w2 w.heap.size k (.int .i64 x0) (.string x1) (.int .i64 x2) (.int .i64 x3) (.slice TL2 x4 tc2) (.slice TA2 x5 td2) (.slice L2 x6 l2) (.slice A2 x7 d2))) := fun i hi => toteinv_more hlt hi HO.out HK.out HN.out HBD.out HB.out hb2 hot hfp
      clear hot hfp hb2 ho2 hgrow2 hb
      go_wp2_with fail
      go_roundw
      case rel => exact HR.out _ (by go_num)
      case measure => simp [intOf]; omega
    · have he : k = ks.length := by omega
      subst he
      have HR : Hid (MadeTeS ks w (.returned (.slice (some ⟨w.heap.size, 0, none⟩) ks.length ks.length)) wr) := by
        have hlt := (HO.out.lt w.heap.size rfl).2
        refine ⟨_, _, xs, fs, rfl, ⟨HO.out.1, HO.out.2.imp id fun ⟨g, cap, cur, h1, _, h3⟩ => ⟨g, cap, cur, h1, Nat.zero_le _, h3⟩⟩, fun j t hj => HK.out j t (List.getElem?_eq_some_iff.1 hj).1 hj, ?_, fun b hbm => ?_, hb⟩
        · show (w.heap.size :: _).Nodup
          refine List.nodup_cons.2 ⟨fun hm => ?_, HN.out⟩
          have := flat_bd HBD.out _ hm
          omega
        · rcases List.mem_append.1 hbm with h | h
          · simp [blk] at h
            omega
          · have := flat_bd HBD.out b h
            omega
      clear HO HK HN HBD hb
      go_wp2_with fail
      go_ret
      exact HR.out

set_option maxHeartbeats 3200000 in
set_option maxRecDepth 100000 in
theorem toTerm_any : ∀ t : Te, ToTeK t := by
  refine Tr.ind ?_
  intro a ks ih w cs h hw
  obtain ⟨TL, tc, TA, td, L, c, A, d, rfl, hT, k1, k2, k6, _, hp⟩ := h.out
  rw [wte_node] at hw
  have hl : a.labels.length ≤ 1048576 := by unfold wteA at hw; omega
  have ht : wt a.type ≤ 1048576 := by unfold wteA at hw; omega
  have hk : wteK ks ≤ 1048576 := by omega
  obtain ⟨W1, hW1⟩ : ∃ W1, ((w.alloc (.cells #[.int .i64 a.kind, .string a.name, .int .i64 a.num, .int .i64 a.type.top.kind, .slice TL a.type.top.labels.length tc, .slice TA a.type.kids.length td, .slice L a.labels.length c, .slice A ks.length d] 43)).alloc (.cells #[.int .i64 0, .string ⟨#[]⟩, .int .i64 0, .int .i64 0, .slice none 0 0, .slice none 0 0, .slice none 0 0, .slice none 0 0] 30)).alloc (.cells #[.int .i64 a.kind, .string a.name, .int .i64 a.num, .int .i64 0, .slice none 0 0, .slice none 0 0, .slice none 0 0, .slice none 0 0] 30) = W1 := ⟨_, rfl⟩
  obtain ⟨H, hH⟩ : ∃ H, w.heap.size = H := ⟨_, rfl⟩
  have b0 : Box8 W1 H 43 (.int .i64 a.kind) (.string a.name) (.int .i64 a.num) (.int .i64 a.type.top.kind) (.slice TL a.type.top.labels.length tc) (.slice TA a.type.kids.length td) (.slice L a.labels.length c) (.slice A ks.length d) := by rw [← hW1, ← hH]; exact ((Box8.new w _ _ _ _ _ _ _ _ _).alloc _).alloc _
  have b1 : Box8 W1 (H + 1) 30 (.int .i64 0) (.string ⟨#[]⟩) (.int .i64 0) (.int .i64 0) (.slice none 0 0) (.slice none 0 0) (.slice none 0 0) (.slice none 0 0) := by
    rw [← hW1, ← hH]
    have := (Box8.new (w.alloc (.cells #[.int .i64 a.kind, .string a.name, .int .i64 a.num, .int .i64 a.type.top.kind, .slice TL a.type.top.labels.length tc, .slice TA a.type.kids.length td, .slice L a.labels.length c, .slice A ks.length d] 43)) 30 (.int .i64 0) (.string ⟨#[]⟩) (.int .i64 0) (.int .i64 0) (.slice none 0 0) (.slice none 0 0) (.slice none 0 0) (.slice none 0 0)).alloc (.cells #[.int .i64 a.kind, .string a.name, .int .i64 a.num, .int .i64 0, .slice none 0 0, .slice none 0 0, .slice none 0 0, .slice none 0 0] 30)
    simpa using this
  have b2 : Box8 W1 (H + 1 + 1) 30 (.int .i64 a.kind) (.string a.name) (.int .i64 a.num) (.int .i64 0) (.slice none 0 0) (.slice none 0 0) (.slice none 0 0) (.slice none 0 0) := by
    rw [← hW1, ← hH]
    have := Box8.new ((w.alloc (.cells #[.int .i64 a.kind, .string a.name, .int .i64 a.num, .int .i64 a.type.top.kind, .slice TL a.type.top.labels.length tc, .slice TA a.type.kids.length td, .slice L a.labels.length c, .slice A ks.length d] 43)).alloc (.cells #[.int .i64 0, .string ⟨#[]⟩, .int .i64 0, .int .i64 0, .slice none 0 0, .slice none 0 0, .slice none 0 0, .slice none 0 0] 30)) 30 (.int .i64 a.kind) (.string a.name) (.int .i64 a.num) (.int .i64 0) (.slice none 0 0) (.slice none 0 0) (.slice none 0 0) (.slice none 0 0)
    simpa using this
  have hb1 : Below w.heap.size w W1 := by rw [← hW1]; exact (((Below.refl _ _).alloc (Nat.le_refl _) _).alloc (by simp) _).alloc (by simp; omega) _
  have HTT := Lib.hid (toType_any a.type W1 _ (hT.keep hb1) ht)
  have HW1 := Lib.hid hW1
  have HP := Lib.hid hp
  have HL := Lib.hid k1
  have HB1 := Lib.hid hb1
  have HK := Lib.hid k2
  have HI := Lib.hid ih
  have B0 := Lib.hid b0
  have B1 := Lib.hid b1
  have B2 := Lib.hid b2
  have HH := Lib.hid hH
  clear hp ih k1 k2 h hw hW1 b0 b1 b2 hb1 hT
  go_enter Tryz.func16, Tryz.ntmps16
  go_wp2_with fail
  rw [HW1.out]
  refine HTT.out.mono ?_
  rintro e w2 ⟨TL2, TA2, tc2, td2, fpT, rfl, hoT, hfT, hb2⟩
  have hz1 : H + 1 + 1 < W1.heap.size := B2.out.lt
  have r0 := B0.out.under hb2 (by omega)
  have r1 := B1.out.under hb2 (by omega)
  have r2 := B2.out.under hb2 (by omega)
  have HB2 := Lib.hid (HB1.out.trans (hb2.mono HB1.out.size))
  have e3 := r2.c3
  have e4 := r2.c4
  have e5 := r2.c5
  have e6 := r2.free 3
  have e7 := r2.free 4
  have e8 := r2.free 5
  have e9 := r0.c6
  have R0 := Lib.hid r0
  have R1 := Lib.hid r1
  have R2 := Lib.hid r2
  have HOT := Lib.hid hoT
  have HFT := Lib.hid hfT
  clear r0 r1 r2 hoT hfT hb2 HTT
  go_wp2_with fail
  generalize hW3 : ((w2.setCell ⟨H + 1 + 1, 3, none⟩ (.int .i64 a.type.top.kind)).setCell ⟨H + 1 + 1, 4, none⟩ (.slice TL2 a.type.top.labels.length tc2)).setCell ⟨H + 1 + 1, 5, none⟩ (.slice TA2 a.type.kids.length td2) = W3
  have hz3 : W3.heap.size = w2.heap.size := by rw [← hW3]; simp [World.setCell]
  have hg3 : w2.grownBy W3 (some (H + 1 + 1)) := by rw [← hW3]; exact grown_set (grown_set (grown_set (World.grownBy.refl _ _) _) _) _
  have s0 : Box8 W3 H 43 (.int .i64 a.kind) (.string a.name) (.int .i64 a.num) (.int .i64 a.type.top.kind) (.slice TL a.type.top.labels.length tc) (.slice TA a.type.kids.length td) (.slice L a.labels.length c) (.slice A ks.length d) := by rw [← hW3]; exact ((R0.out.far (by show H ≠ H + 1 + 1; omega) _).far (by show H ≠ H + 1 + 1; omega) _).far (by show H ≠ H + 1 + 1; omega) _
  have s1 : Box8 W3 (H + 1) 30 (.int .i64 0) (.string ⟨#[]⟩) (.int .i64 0) (.int .i64 0) (.slice none 0 0) (.slice none 0 0) (.slice none 0 0) (.slice none 0 0) := by rw [← hW3]; exact ((R1.out.far (by show H + 1 ≠ H + 1 + 1; omega) _).far (by show H + 1 ≠ H + 1 + 1; omega) _).far (by show H + 1 ≠ H + 1 + 1; omega) _
  have s2 : Box8 W3 (H + 1 + 1) 30 (.int .i64 a.kind) (.string a.name) (.int .i64 a.num) (.int .i64 a.type.top.kind) (.slice TL2 a.type.top.labels.length tc2) (.slice TA2 a.type.kids.length td2) (.slice none 0 0) (.slice none 0 0) := by rw [← hW3]; exact ((R2.out.set3 _).set4 _).set5 _
  have hb3 : Below w.heap.size w W3 := HB2.out.grown hg3 HB2.out.size (fun q hq => by injection hq with hq; have := HH.out; omega)
  have o3 : OTy W3 a.type [.int .i64 a.type.top.kind, .slice TL2 a.type.top.labels.length tc2, .slice TA2 a.type.kids.length td2] fpT := HOT.out.keep hg3 (fun b hb e => by injection e with e; have := (HFT.out b hb).1; omega)
  have HB3 := Lib.hid hb3
  have S0 := Lib.hid s0
  have S1 := Lib.hid s1
  have S2 := Lib.hid s2
  have O3 := Lib.hid o3
  have N23 := Lib.hid hz3
  clear hW3 hz3 hg3 s0 s1 s2 hb3 o3 e3 e4 e5 e6 e7 e8 e9
  refine (copyL_any L c a.labels W3 (HL.out.below HB3.out) hl).mono ?_
  rintro e w4 ⟨LL, lc, rfl, rl, hb4⟩
  have hz3 : H + 1 + 1 < W3.heap.size := S2.out.lt
  have r0 := S0.out.under hb4 (by omega)
  have r1 := S1.out.under hb4 (by omega)
  have r2 := S2.out.under hb4 (by omega)
  have RL := Lib.hid rl
  have HB4 := Lib.hid (HB3.out.trans (hb4.mono HB3.out.size))
  have O4 := Lib.hid (O3.out.under hb4)
  have Z34 := Lib.hid hb4.size
  have e1 := r2.c6
  have e2 := r2.free 6
  have e3 := r0.c7
  have T0 := Lib.hid r0
  have T1 := Lib.hid r1
  have T2 := Lib.hid r2
  clear r0 r1 r2 rl hb4
  go_wp2_with fail
  generalize hW5 : w4.setCell ⟨H + 1 + 1, 6, none⟩ (.slice LL a.labels.length lc) = W5
  have hz5 : W5.heap.size = w4.heap.size := by rw [← hW5]; simp [World.setCell]
  have hg5 : w4.grownBy W5 (some (H + 1 + 1)) := by rw [← hW5]; exact grown_set (World.grownBy.refl _ _) _
  have s1 : Box8 W5 (H + 1) 30 (.int .i64 0) (.string ⟨#[]⟩) (.int .i64 0) (.int .i64 0) (.slice none 0 0) (.slice none 0 0) (.slice none 0 0) (.slice none 0 0) := by rw [← hW5]; exact T1.out.far (by show H + 1 ≠ H + 1 + 1; omega) _
  have s2 : Box8 W5 (H + 1 + 1) 30 (.int .i64 a.kind) (.string a.name) (.int .i64 a.num) (.int .i64 a.type.top.kind) (.slice TL2 a.type.top.labels.length tc2) (.slice TA2 a.type.kids.length td2) (.slice LL a.labels.length lc) (.slice none 0 0) := by rw [← hW5]; exact T2.out.set6 _
  have hb5 : Below w.heap.size w W5 := HB4.out.grown hg5 HB4.out.size (fun q hq => by injection hq with hq; have := HH.out; omega)
  have l5 : Row W5 W3.heap.size w4.heap.size LL a.labels.length lc (a.labels.map Value.string) := RL.out.turned (lo' := H + 1 + 1) (hi' := H + 1 + 1 + 1) ⟨some (H + 1 + 1), hg5, fun q hq => by injection hq with hq; omega⟩ (.inr (by omega))
  have o5 : OTy W5 a.type [.int .i64 a.type.top.kind, .slice TL2 a.type.top.labels.length tc2, .slice TA2 a.type.kids.length td2] fpT := O4.out.keep hg5 (fun b hb e => by injection e with e; have := (HFT.out b hb).1; omega)
  have HB5 := Lib.hid hb5
  have V1 := Lib.hid s1
  have V2 := Lib.hid s2
  have L5 := Lib.hid l5
  have O5 := Lib.hid o5
  have N45 := Lib.hid hz5
  clear hW5 hz5 hg5 s1 s2 hb5 l5 o5 e1 e2 e3
  refine (toTermS_of ks HI.out W5 A d (HP.out.keep HB5.out) hk).mono ?_
  rintro e w6 ⟨A7, d7, xs, fs, rfl, ho6, hk6, hn6, hd6, hb6⟩
  have hzz : H + 1 + 1 < W5.heap.size := V2.out.lt
  have t1 := V1.out.under hb6 (by omega)
  have t2 := V2.out.under hb6 (by omega)
  have g0 := t2.c0
  have m0 := t1.c0
  have f0 := t1.free 0
  have g1 := t2.c1
  have m1 := t1.c1
  have f1 := t1.free 1
  have g2 := t2.c2
  have m2 := t1.c2
  have f2 := t1.free 2
  have g3 := t2.c3
  have m3 := t1.c3
  have f3 := t1.free 3
  have g4 := t2.c4
  have m4 := t1.c4
  have f4 := t1.free 4
  have g5 := t2.c5
  have m5 := t1.c5
  have f5 := t1.free 5
  have g6 := t2.c6
  have m6 := t1.c6
  have f6 := t1.free 6
  have g7 := t2.c7
  have m7 := t1.c7
  have f7 := t1.free 7
  have g8 := t2.free 7
  have HO6 := Lib.hid ho6
  have HK6 := Lib.hid hk6
  have HN6 := Lib.hid hn6
  have HD6 := Lib.hid hd6
  have HB6 := Lib.hid hb6
  have X1 := Lib.hid t1
  clear ho6 hk6 hn6 hd6 hb6 t1 t2
  have L6 := Lib.hid (L5.out.below HB6.out)
  have O6 := Lib.hid (O5.out.under HB6.out)
  go_wp2_with fail
  generalize hV : w6.setCell ⟨H + 1 + 1, 7, none⟩ (.slice A7 ks.length d7) = V
  generalize hU : ((((((((V.setCell ⟨H + 1, 0, none⟩ (.int .i64 a.kind)).setCell ⟨H + 1, 1, none⟩ (.string a.name)).setCell ⟨H + 1, 2, none⟩ (.int .i64 a.num)).setCell ⟨H + 1, 3, none⟩ (.int .i64 a.type.top.kind)).setCell ⟨H + 1, 4, none⟩ (.slice TL2 a.type.top.labels.length tc2)).setCell ⟨H + 1, 5, none⟩ (.slice TA2 a.type.kids.length td2)).setCell ⟨H + 1, 6, none⟩ (.slice LL a.labels.length lc)).setCell ⟨H + 1, 7, none⟩ (.slice A7 ks.length d7)) = U
  have hg7 : w6.grownBy V (some (H + 1 + 1)) := by rw [← hV]; exact grown_set (World.grownBy.refl _ _) _
  have hg8 : V.grownBy U (some (H + 1)) := by rw [← hU]; exact grown_set (grown_set (grown_set (grown_set (grown_set (grown_set (grown_set (grown_set (World.grownBy.refl _ _) _) _) _) _) _) _) _) _
  have u1 : Box8 U (H + 1) 30 (.int .i64 a.kind) (.string a.name) (.int .i64 a.num) (.int .i64 a.type.top.kind) (.slice TL2 a.type.top.labels.length tc2) (.slice TA2 a.type.kids.length td2) (.slice LL a.labels.length lc) (.slice A7 ks.length d7) := by
    rw [← hU, ← hV]
    exact ((((((((X1.out.far (by show H + 1 ≠ H + 1 + 1; omega) _).set0 _).set1 _).set2 _).set3 _).set4 _).set5 _).set6 _).set7 _
  have hsz7 := hg7.size
  have hsz8 := hg8.size
  have hww := HH.out
  have hz56 := HB6.out.size
  have hn45 := N45.out
  have hn23 := N23.out
  have hz34 := Z34.out
  have hw13 := RL.out.1
  have hbV := HB5.out.trans (HB6.out.mono HB5.out.size)
  have hbU : Below w.heap.size w U := (hbV.grown hg7 hbV.size (fun q hq => by injection hq with hq; omega)).grown hg8 (by have := hbV.size; omega) (fun q hq => by injection hq with hq; omega)
  have lU := ((L6.out.turned (lo' := H + 1 + 1) (hi' := H + 1 + 1 + 1) ⟨_, hg7, fun q hq => by injection hq with hq; omega⟩ (.inr (by omega))).turned (lo' := H + 1) (hi' := H + 1 + 1) ⟨_, hg8, fun q hq => by injection hq with hq; omega⟩ (.inr (by omega)))
  have oU := (O6.out.keep hg7 (fun b hb e => by injection e with e; have := (HFT.out b hb).1; omega)).keep hg8 (fun b hb e => by injection e with e; have := (HFT.out b hb).1; omega)
  have hTb := HFT.out
  have hLb : ∀ b ∈ blk LL, W3.heap.size ≤ b ∧ b < w4.heap.size := fun b hb => ⟨(lU.1.lt b ((blk_own LL _ lc b).2 hb)).1, lU.2 b ((blk_own LL _ lc b).2 hb)⟩
  have hAb := HD6.out
  have hne : ∀ b ∈ blk A7 ++ (List.range ks.length).flatMap fs, H + 1 + 1 < b := fun b hb => by have := (hAb b hb).1; omega
  have hO : OTe U (.node a ks) [.int .i64 a.kind, .string a.name, .int .i64 a.num, .int .i64 a.type.top.kind, .slice TL2 a.type.top.labels.length tc2, .slice TA2 a.type.kids.length td2, .slice LL a.labels.length lc, .slice A7 ks.length d7] (fpT ++ (blk LL ++ blk A7 ++ (List.range ks.length).flatMap fs)) := by
    refine .node a ks TL2 TA2 LL A7 tc2 td2 lc d7 fpT xs fs HK.out oU (own_mono lU.1 (Nat.zero_le _)) k6 ?_ (fun j t hj => ?_) ?_
    · exact own_keep (own_keep HO6.out hg7 (fun b hb e => by injection e with e; have := hne b (by simp [hb]); omega)) hg8 (fun b hb e => by injection e with e; have := hne b (by simp [hb]); omega)
    · have hin : ∀ b ∈ fs j, H + 1 + 1 < b := fun b hb => hne b (by
        rw [List.mem_append, List.mem_flatMap]
        exact .inr ⟨j, List.mem_range.2 (List.getElem?_eq_some_iff.1 hj).1, hb⟩)
      exact ((HK6.out j t hj).keep hg7 (fun b hb e => by injection e with e; have := hin b hb; omega)).keep hg8 (fun b hb e => by injection e with e; have := hin b hb; omega)
    · refine List.nodup_append.2 ⟨O6.out.nodup, ?_, fun x hx y hy e => ?_⟩
      · rw [List.append_assoc]
        refine List.nodup_append.2 ⟨?_, HN6.out, fun x hx y hy e => ?_⟩
        · cases LL <;> simp [blk]
        · have h1 := hLb x hx
          have h2 := hAb y hy
          omega
      · have h1 := hTb x hx
        rw [List.append_assoc, List.mem_append] at hy
        rcases hy with hy | hy
        · have h2 := hLb y hy
          omega
        · have h2 := hAb y hy
          omega
  have q0 := u1.c0
  have q1 := u1.c1
  have q2 := u1.c2
  have q3 := u1.c3
  have q4 := u1.c4
  have q5 := u1.c5
  have q6 := u1.c6
  have q7 := u1.c7
  have HR : Hid (MadeTe (.node a ks) w (.returned (.agg #[.int .i64 a.kind, .string a.name, .int .i64 a.num, .int .i64 a.type.top.kind, .slice TL2 a.type.top.labels.length tc2, .slice TA2 a.type.kids.length td2, .slice LL a.labels.length lc, .slice A7 ks.length d7])) U) := by
    refine ⟨TL2, tc2, TA2, td2, LL, lc, A7, d7, _, rfl, hO, fun b hb => ?_, hbU⟩
    rw [List.mem_append, List.append_assoc, List.mem_append] at hb
    rcases hb with hb | hb | hb
    · have := hTb b hb; omega
    · have := hLb b hb; omega
    · have := hAb b hb; omega
  clear hO hbU hAb hLb hTb hne lU oU hg7 hg8 hV hU u1
  exact bodyPost_ret (v := .agg #[.int .i64 a.kind, .string a.name, .int .i64 a.num, .int .i64 a.type.top.kind, .slice TL2 a.type.top.labels.length tc2, .slice TA2 a.type.kids.length td2, .slice LL a.labels.length lc, .slice A7 ks.length d7]) (by simp [results, Tryz.results16, go_sem, q0, q1, q2, q3, q4, q5, q6, q7]) rfl HR.out
end Go.Proofs.YtkchjinfjggoeaaGreatDoor
