/-
  Merged by program: VaTo.
-/
import Derived.Test.YtlikmgkjilmjpaaH29
import Derived.Test.YtlikmgkjilmjpaaH30
import Derived.Test.YtlikmgkjilmjpaaH10
import Derived.Test.YtlikmgkjilmjpaaH17
import Derived.WalkKit

/-
  A copy of a value in new memory: 'toValue', 'toValueS'.
-/
namespace Go.Proofs.Ytlikmgkjilmjpaa
open Go.RowKit

theorem infoVa : (Try.prog.info? 30).map (fun i => (i.zero, i.size, i.bytes)) = some (some (.agg #[.int .i64 0, .int .i64 0, .slice none 0 0, .slice none 0 0]), 4, 64) := by kernel_rfl
def ToVK (t : Va) : Prop := ∀ (w : World) (cs : List Value), RVa w t cs → wv t ≤ 1048576 → Calls Try.prog 12 #[.agg cs.toArray] w (MadeV t w)

/-- what the loop keeps: the first k places are filled -/
def ToVInv (ks : List Va) (w : World) (i : Value) (wr : World) : Prop :=
  ∃ (k : Nat) (xs : List Value) (fs : Nat → List Nat), k ≤ ks.length ∧ i = .int .i64 k ∧ wr.ownsRow w.heap.size 30 4 (.slice (some ⟨w.heap.size, 0, none⟩) ks.length ks.length) ks.length xs ∧
    (∀ j t, j < k → ks[j]? = some t → OVa wr t (part4 xs j) (fs j)) ∧ ((List.range k).flatMap fs).Nodup ∧ (∀ j, j < k → ∀ b ∈ fs j, w.heap.size < b ∧ b < wr.heap.size) ∧ Below w.heap.size w wr

/-- a list of types in new memory -/
def MadeVS (ks : List Va) (w : World) (e : Ending) (w' : World) : Prop :=
  ∃ (A : Option Addr) (d : Nat) (xs : List Value) (fs : Nat → List Nat), e = .returned (.slice A ks.length d) ∧ w'.ownsRow 0 30 4 (.slice A ks.length d) ks.length xs ∧ (∀ j t, ks[j]? = some t → OVa w' t (part4 xs j) (fs j)) ∧
    (blk A ++ (List.range ks.length).flatMap fs).Nodup ∧ (∀ b ∈ blk A ++ (List.range ks.length).flatMap fs, w.heap.size ≤ b ∧ b < w'.heap.size) ∧ Below w.heap.size w w'

theorem tovinv_more {ks : List Va} {w wr w2 : World} {k : Nat} {xs : List Value} {fs : Nat → List Nat} {fp : List Nat} {r0 r1 r2 r3 : Value} {i : Value} (hk : k < ks.length) (hi : i = .int .i64 ((k + 1 : Nat) : Int))
    (hown : wr.ownsRow w.heap.size 30 4 (.slice (some ⟨w.heap.size, 0, none⟩) ks.length ks.length) ks.length xs) (hkid : ∀ j t, j < k → ks[j]? = some t → OVa wr t (part4 xs j) (fs j)) (hnd : ((List.range k).flatMap fs).Nodup)
    (hbd : ∀ j, j < k → ∀ b ∈ fs j, w.heap.size < b ∧ b < wr.heap.size) (hb : Below w.heap.size w wr) (hb2 : Below wr.heap.size wr w2) (hot : OVa w2 ks[k] [r0, r1, r2, r3] fp) (hfp : ∀ b ∈ fp, wr.heap.size ≤ b ∧ b < w2.heap.size) :
    ToVInv ks w i (store4 w2 w.heap.size k r0 r1 r2 r3) := by
  have hxl : xs.length = ks.length * 4 := hown.1
  have hlt : w.heap.size < wr.heap.size := (hown.lt w.heap.size rfl).2
  have ho2 : w2.ownsRow w.heap.size 30 4 (.slice (some ⟨w.heap.size, 0, none⟩) ks.length ks.length) ks.length xs :=
    hown.kept (row := none) ⟨hb2.os, hb2.tape, hb2.output, hb2.size, fun i hi _ => hb2.block i hi⟩ (.inr (by simp [Value.ownBlock]))
  obtain ⟨h3, hg3⟩ := own_store4 ho2 k r0 r1 r2 r3
  have hs2 := hb2.size
  have hs3 := hg3.size
  refine ⟨k + 1, put4 xs k r0 r1 r2 r3, fun j => if j = k then fp else fs j, hk, hi, h3, fun j t hj ht => ?_, ?_, fun j hj b hbm => ?_, (hb.trans (hb2.mono hb.size)).grown hg3 (by omega) (fun q hq => by injection hq with hq; omega)⟩
  · show OVa _ _ _ (if j = k then fp else fs j)
    by_cases e : j = k
    · subst e
      rw [List.getElem?_eq_getElem hk] at ht
      injection ht with ht
      subst ht
      rw [if_pos rfl, put4_at xs j r0 r1 r2 r3 (by omega)]
      exact hot.keep hg3 (fun b hbm e => by injection e with e; have := (hfp b hbm).1; omega)
    · rw [if_neg e, put4_other xs k j r0 r1 r2 r3 e]
      exact ((hkid j t (by omega) ht).under hb2).keep hg3 (fun b hbm e => by injection e with e; have := (hbd j (by omega) b hbm).1; omega)
  · rw [flat_more]
    refine List.nodup_append.2 ⟨hnd, ?_, fun a ha b hb' e => ?_⟩
    · exact hot.nodup
    · have h1 := flat_bd hbd a ha
      have h2 := hfp b hb'
      omega
  · change b ∈ (if j = k then fp else fs j) at hbm
    by_cases e : j = k
    · rw [if_pos e] at hbm
      have := hfp b hbm
      omega
    · rw [if_neg e] at hbm
      have := hbd j (by omega) b hbm
      omega

set_option maxHeartbeats 800000 in
set_option maxRecDepth 100000 in
theorem toValueS_of (ks : List Va) (ih : ∀ t ∈ ks, ToVK t) (w : World) (A : Option Addr) (d : Nat) (hp : RVas w A ks) (hw : wvK ks ≤ 1048576) :
    Calls Try.prog 38 #[.slice A ks.length d] w (MadeVS ks w) := by
  obtain ⟨i0, hi, hz0, hz1, hz2⟩ := info_parts infoVa
  have hl : ks.length ≤ 1048576 := by unfold wvK at hw; omega
  have HP := Lib.hid hp
  have HI := Lib.hid ih
  have HWT := Lib.hid hw
  clear hp ih hw
  go_enter Try.func38, Try.ntmps38
  go_wp2_with (at_make; refine wpList_make_full _ rfl _ _ 28 rfl w.heap.size 30 i0 (.agg #[.int .i64 0, .int .i64 0, .slice none 0 0, .slice none 0 0]) 4 Try.underlying28 hi hz0 hz1 _ _ _ _ ks.length rfl rfl rfl rfl (by rw [hz2]; omega) (by unfold maxLen; omega) (Nat.le_refl _) ?_; intro w0 hown0 hgrow0)
  have hb0 : Below w.heap.size w w0 := (Below.refl _ _).grown hgrow0 (Nat.le_refl _) (fun k hk => by cases hk)
  go_loopw [4] (fun i wr => ToVInv ks w i wr) (fun i _ => ks.length - (intOf i).toNat)
  case atStart => exact ⟨0, _, fun _ => [], Nat.zero_le _, rfl, hown0, fun j t hj => by omega, by simp, fun j hj => by omega, hb0⟩
  case round =>
    obtain ⟨k, xs, fs, hk, rfl, hown, hkid, hnd, hbd, hb⟩ := hrel
    have HO := Lib.hid hown
    have HK := Lib.hid hkid
    have HN := Lib.hid hnd
    have HBD := Lib.hid hbd
    have HB := Lib.hid hb
    clear hown hkid hnd hbd
    by_cases hlt : k < ks.length
    · obtain ⟨ad, p, c0, c1, c2, c3, rfl, hpe, hrt, q0, q1, q2, q3⟩ := vid_at HP.out hb hlt
      have hwk : wv ks[k] ≤ 1048576 := by
        have h1 := sum_take_succ wv ks k hlt
        have h2 := sum_take_le wv ks (k + 1)
        have h3 := HWT.out
        unfold wvK at h3
        omega
      have HC := Lib.hid (HI.out ks[k] (List.getElem_mem hlt) wr [c0, c1, c2, c3] hrt hwk)
      clear hrt hwk
      go_wp2_with fail
      refine HC.out.mono ?_
      rintro e w2 ⟨L2, A2, l2, d2, fp, rfl, hot, hfp, hb2⟩
      generalize ks[k].top.kind = x0 at hot ⊢
      generalize ks[k].top.num = x3 at hot ⊢
      generalize ks[k].top.labels.length = x1 at hot ⊢
      generalize ks[k].kids.length = x2 at hot ⊢
      have hxl : xs.length = ks.length * 4 := HO.out.1
      have hgrow2 : wr.grownBy w2 none := ⟨hb2.os, hb2.tape, hb2.output, hb2.size, fun i hi _ => hb2.block i hi⟩
      have ho2 := HO.out.kept hgrow2 (.inr (by simp [Value.ownBlock]))
      have m0 : w2.cell? ⟨w.heap.size, k * 4, none⟩ = some (xs[k * 4]'(by omega)) := by rw [ho2.cellAt _ (by omega)]; exact List.getElem?_eq_getElem _
      have m1 : w2.cell? ⟨w.heap.size, k * 4 + 1, none⟩ = some (xs[k * 4 + 1]'(by omega)) := by rw [ho2.cellAt _ (by omega)]; exact List.getElem?_eq_getElem _
      have m2 : w2.cell? ⟨w.heap.size, k * 4 + 2, none⟩ = some (xs[k * 4 + 2]'(by omega)) := by rw [ho2.cellAt _ (by omega)]; exact List.getElem?_eq_getElem _
      have m3 : w2.cell? ⟨w.heap.size, k * 4 + 3, none⟩ = some (xs[k * 4 + 3]'(by omega)) := by rw [ho2.cellAt _ (by omega)]; exact List.getElem?_eq_getElem _
      have f0 := ho2.frozenAt (k * 4)
      have f1 := ho2.frozenAt (k * 4 + 1)
      have f2 := ho2.frozenAt (k * 4 + 2)
      have f3 := ho2.frozenAt (k * 4 + 3)
      have HR : Hid (∀ i, i = Value.int .i64 ((k + 1 : Nat) : Int) → ToVInv ks w i (store4 w2 w.heap.size k (.int .i64 x0) (.int .i64 x3) (.slice L2 x1 l2) (.slice A2 x2 d2))) := fun i hi => tovinv_more hlt hi HO.out HK.out HN.out HBD.out HB.out hb2 hot hfp
      clear hot hfp hb2 ho2 hgrow2 hb
      go_wp2_with fail
      go_roundw
      case rel => exact HR.out _ (by go_num)
      case measure => simp [intOf]; omega
    · have he : k = ks.length := by omega
      subst he
      have HR : Hid (MadeVS ks w (.returned (.slice (some ⟨w.heap.size, 0, none⟩) ks.length ks.length)) wr) := by
        have hlt := (HO.out.lt w.heap.size rfl).2
        refine ⟨_, _, xs, fs, rfl, ⟨HO.out.1, HO.out.2.imp id fun ⟨g, cap, cur, h1, _, h3⟩ => ⟨g, cap, cur, h1, Nat.zero_le _, h3⟩⟩, fun j t hj => HK.out j t (List.getElem?_eq_some_iff.1 hj).1 hj, ?_, fun b hbm => ?_, hb⟩
        · show (w.heap.size :: _).Nodup
          refine List.nodup_cons.2 ⟨fun hm => ?_, HN.out⟩
          have := flat_bd HBD.out _ hm
          omega
        · rcases List.mem_append.1 hbm with h | h
          · simp [blk] at h
            omega
          · have := flat_bd HBD.out b h
            omega
      clear HO HK HN HBD hb
      go_wp2_with fail
      go_ret
      exact HR.out

set_option maxHeartbeats 1600000 in
set_option maxRecDepth 100000 in
theorem toValue_any : ∀ t : Va, ToVK t := by
  refine Tr.ind ?_
  intro a ks ih w cs h hw
  obtain ⟨L, c, A, d, rfl, k1, k2, k6, hp⟩ := h.out
  rw [wv_node] at hw
  have hl : a.labels.length ≤ 1048576 := by unfold wvA at hw; omega
  have hk : wvK ks ≤ 1048576 := by omega
  obtain ⟨W1, hW1⟩ : ∃ W1, ((w.alloc (.cells #[.int .i64 a.kind, .int .i64 a.num, .slice L a.labels.length c, .slice A ks.length d] 25)).alloc (.cells #[.int .i64 0, .int .i64 0, .slice none 0 0, .slice none 0 0] 30)).alloc (.cells #[.int .i64 a.kind, .int .i64 a.num, .slice none 0 0, .slice none 0 0] 30) = W1 := ⟨_, rfl⟩
  obtain ⟨H, hH⟩ : ∃ H, w.heap.size = H := ⟨_, rfl⟩
  have b0 : Box4 W1 H 25 (.int .i64 a.kind) (.int .i64 a.num) (.slice L a.labels.length c) (.slice A ks.length d) := by rw [← hW1, ← hH]; exact ((Box4.new w _ _ _ _ _).alloc _).alloc _
  have b1 : Box4 W1 (H + 1) 30 (.int .i64 0) (.int .i64 0) (.slice none 0 0) (.slice none 0 0) := by
    rw [← hW1, ← hH]
    have := (Box4.new (w.alloc (.cells #[.int .i64 a.kind, .int .i64 a.num, .slice L a.labels.length c, .slice A ks.length d] 25)) 30 (.int .i64 0) (.int .i64 0) (.slice none 0 0) (.slice none 0 0)).alloc (.cells #[.int .i64 a.kind, .int .i64 a.num, .slice none 0 0, .slice none 0 0] 30)
    simpa using this
  have b2 : Box4 W1 (H + 1 + 1) 30 (.int .i64 a.kind) (.int .i64 a.num) (.slice none 0 0) (.slice none 0 0) := by
    rw [← hW1, ← hH]
    have := Box4.new ((w.alloc (.cells #[.int .i64 a.kind, .int .i64 a.num, .slice L a.labels.length c, .slice A ks.length d] 25)).alloc (.cells #[.int .i64 0, .int .i64 0, .slice none 0 0, .slice none 0 0] 30)) 30 (.int .i64 a.kind) (.int .i64 a.num) (.slice none 0 0) (.slice none 0 0)
    simpa using this
  have hb1 : Below w.heap.size w W1 := by rw [← hW1]; exact (((Below.refl _ _).alloc (Nat.le_refl _) _).alloc (by simp) _).alloc (by simp; omega) _
  have HW1 := Lib.hid hW1
  have HP := Lib.hid hp
  have HL := Lib.hid (k1.below hb1)
  have HB1 := Lib.hid hb1
  have HK := Lib.hid k2
  have HI := Lib.hid ih
  have B0 := Lib.hid b0
  have B1 := Lib.hid b1
  have B2 := Lib.hid b2
  have HH := Lib.hid hH
  clear hp ih k1 k2 h hw hW1 b0 b1 b2 hb1
  go_enter Try.func12, Try.ntmps12
  go_wp2_with fail
  rw [HW1.out]
  refine (copyL_any L c a.labels W1 HL.out hl).mono ?_
  rintro e w3 ⟨LL, lc, rfl, rl, hb3⟩
  have hz3 : H + 1 + 1 < W1.heap.size := B2.out.lt
  have r0 := B0.out.under hb3 (by omega)
  have r1 := B1.out.under hb3 (by omega)
  have r2 := B2.out.under hb3 (by omega)
  have RL := Lib.hid rl
  have HB3 := Lib.hid (HB1.out.trans (hb3.mono HB1.out.size))
  have e1 := r2.c2
  have e2 := r2.free 2
  have e3 := r0.c3
  have R0 := Lib.hid r0
  have R1 := Lib.hid r1
  have R2 := Lib.hid r2
  clear r0 r1 r2 rl hb3
  go_wp2_with fail
  generalize hW4 : w3.setCell ⟨H + 1 + 1, 2, none⟩ (.slice LL a.labels.length lc) = W4
  have hz4 : W4.heap.size = w3.heap.size := by rw [← hW4]; simp [World.setCell]
  have hg4 : w3.grownBy W4 (some (H + 1 + 1)) := by rw [← hW4]; exact grown_set (World.grownBy.refl _ _) _
  have s0 : Box4 W4 H 25 (.int .i64 a.kind) (.int .i64 a.num) (.slice L a.labels.length c) (.slice A ks.length d) := by rw [← hW4]; exact R0.out.far (by show H ≠ H + 1 + 1; omega) _
  have s1 : Box4 W4 (H + 1) 30 (.int .i64 0) (.int .i64 0) (.slice none 0 0) (.slice none 0 0) := by rw [← hW4]; exact R1.out.far (by show H + 1 ≠ H + 1 + 1; omega) _
  have s2 : Box4 W4 (H + 1 + 1) 30 (.int .i64 a.kind) (.int .i64 a.num) (.slice LL a.labels.length lc) (.slice none 0 0) := by rw [← hW4]; exact R2.out.set2 _
  have hb4 : Below w.heap.size w W4 := HB3.out.grown hg4 HB3.out.size (fun q hq => by injection hq with hq; have := HH.out; omega)
  have l4 : Row W4 W1.heap.size w3.heap.size LL a.labels.length lc (a.labels.map Value.string) := RL.out.turned (lo' := H + 1 + 1) (hi' := H + 1 + 1 + 1) ⟨some (H + 1 + 1), hg4, fun q hq => by injection hq with hq; omega⟩ (.inr (by omega))
  have HB4 := Lib.hid hb4
  have S0 := Lib.hid s0
  have S1 := Lib.hid s1
  have S2 := Lib.hid s2
  have L4 := Lib.hid l4
  have N34 := Lib.hid hz4
  clear hW4 hz4 hg4 s0 s1 s2 hb4 l4 e1 e2 e3
  refine (toValueS_of ks HI.out W4 A d (HP.out.keep HB4.out) hk).mono ?_
  rintro e w5 ⟨A5, d5, xs, fs, rfl, ho5, hk5, hn5, hd5, hb5⟩
  have hzz : H + 1 + 1 < W4.heap.size := S2.out.lt
  have t1 := S1.out.under hb5 (by omega)
  have t2 := S2.out.under hb5 (by omega)
  have g0 := t2.c0
  have g1 := t2.c1
  have g2 := t2.c2
  have g10 := t2.c3
  have g3 := t2.free 3
  have g4 := t1.c0
  have g5 := t1.c1
  have g6 := t1.c2
  have g11 := t1.c3
  have g7 := t1.free 0
  have g8 := t1.free 1
  have g9 := t1.free 2
  have g12 := t1.free 3
  have HO5 := Lib.hid ho5
  have HK5 := Lib.hid hk5
  have HN5 := Lib.hid hn5
  have HD5 := Lib.hid hd5
  have HB5 := Lib.hid hb5
  have T1 := Lib.hid t1
  clear ho5 hk5 hn5 hd5 hb5 t1 t2
  have L5 := Lib.hid (L4.out.below HB5.out)
  have T2 := Lib.hid (S2.out.under HB5.out (by omega))
  go_wp2_with fail
  generalize hV : w5.setCell ⟨H + 1 + 1, 3, none⟩ (.slice A5 ks.length d5) = V
  generalize hU : (((V.setCell ⟨H + 1, 0, none⟩ (.int .i64 a.kind)).setCell ⟨H + 1, 1, none⟩ (.int .i64 a.num)).setCell ⟨H + 1, 2, none⟩ (.slice LL a.labels.length lc)).setCell ⟨H + 1, 3, none⟩ (.slice A5 ks.length d5) = U
  have hg5 : w5.grownBy V (some (H + 1 + 1)) := by rw [← hV]; exact grown_set (World.grownBy.refl _ _) _
  have hg6 : V.grownBy U (some (H + 1)) := by rw [← hU]; exact grown_set (grown_set (grown_set (grown_set (World.grownBy.refl _ _) _) _) _) _
  have u1 : Box4 U (H + 1) 30 (.int .i64 a.kind) (.int .i64 a.num) (.slice LL a.labels.length lc) (.slice A5 ks.length d5) := by
    rw [← hU, ← hV]
    exact ((((T1.out.far (by show H + 1 ≠ H + 1 + 1; omega) _).set0 _).set1 _).set2 _).set3 _
  have hsz5 := hg5.size
  have hsz6 := hg6.size
  have hww := HH.out
  have hz15 := HB5.out.size
  have hn34 := N34.out
  have hw13 := RL.out.1
  have hbU : Below w.heap.size w U := ((HB4.out.trans (HB5.out.mono HB4.out.size)).grown hg5 (HB4.out.trans (HB5.out.mono HB4.out.size)).size (fun q hq => by injection hq with hq; omega)).grown hg6 (by have := (HB4.out.trans (HB5.out.mono HB4.out.size)).size; omega) (fun q hq => by injection hq with hq; omega)
  have lU := ((L5.out.turned (lo' := H + 1 + 1) (hi' := H + 1 + 1 + 1) ⟨_, hg5, fun q hq => by injection hq with hq; omega⟩ (.inr (by omega))).turned (lo' := H + 1) (hi' := H + 1 + 1) ⟨_, hg6, fun q hq => by injection hq with hq; omega⟩ (.inr (by omega)))
  have hLb : ∀ b ∈ blk LL, W1.heap.size ≤ b ∧ b < w3.heap.size := fun b hb => ⟨(lU.1.lt b ((blk_own LL _ lc b).2 hb)).1, lU.2 b ((blk_own LL _ lc b).2 hb)⟩
  have hAb := HD5.out
  have hne : ∀ b ∈ blk A5 ++ (List.range ks.length).flatMap fs, H + 1 + 1 < b := fun b hb => by have := (hAb b hb).1; omega
  have hO : OVa U (.node a ks) [.int .i64 a.kind, .int .i64 a.num, .slice LL a.labels.length lc, .slice A5 ks.length d5] (blk LL ++ blk A5 ++ (List.range ks.length).flatMap fs) := by
    refine .node a ks LL A5 lc d5 xs fs HK.out (own_mono lU.1 (Nat.zero_le _)) k6 ?_ (fun j t hj => ?_) ?_
    · exact own_keep (own_keep HO5.out hg5 (fun b hb e => by injection e with e; have := hne b (by simp [hb]); omega)) hg6 (fun b hb e => by injection e with e; have := hne b (by simp [hb]); omega)
    · have hin : ∀ b ∈ fs j, H + 1 + 1 < b := fun b hb => hne b (by
        rw [List.mem_append, List.mem_flatMap]
        exact .inr ⟨j, List.mem_range.2 (List.getElem?_eq_some_iff.1 hj).1, hb⟩)
      exact ((HK5.out j t hj).keep hg5 (fun b hb e => by injection e with e; have := hin b hb; omega)).keep hg6 (fun b hb e => by injection e with e; have := hin b hb; omega)
    · rw [List.append_assoc]
      refine List.nodup_append.2 ⟨?_, HN5.out, fun x hx y hy e => ?_⟩
      · cases LL <;> simp [blk]
      · have h1 := hLb x hx
        have h2 := hAb y hy
        omega
  have q0 := u1.c0
  have q1 := u1.c1
  have q2 := u1.c2
  have q3 := u1.c3
  have HR : Hid (MadeV (.node a ks) w (.returned (.agg #[.int .i64 a.kind, .int .i64 a.num, .slice LL a.labels.length lc, .slice A5 ks.length d5])) U) := by
    refine ⟨LL, A5, lc, d5, _, rfl, hO, fun b hb => ?_, hbU⟩
    rw [List.append_assoc, List.mem_append] at hb
    rcases hb with hb | hb
    · have := hLb b hb; omega
    · have := hAb b hb; omega
  clear hO hbU hAb hLb hne lU hg5 hg6 hV hU u1
  exact bodyPost_ret (v := .agg #[.int .i64 a.kind, .int .i64 a.num, .slice LL a.labels.length lc, .slice A5 ks.length d5]) (by simp [results, Try.results12, go_sem, q0, q1, q2, q3]) rfl HR.out
end Go.Proofs.Ytlikmgkjilmjpaa
