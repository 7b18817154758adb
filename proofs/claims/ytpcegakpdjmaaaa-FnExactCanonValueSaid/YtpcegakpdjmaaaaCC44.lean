/-
  Merged by program: VaHeld, VaEq.
-/
import Derived.Test.YtpcegakpdjmaaaaCC43
import Derived.Test.YtpcegakpdjmaaaaCC2
import Derived.Test.YtpcegakpdjmaaaaCC17
import Derived.Test.YtpcegakpdjmaaaaCC5
import Derived.StillTailTactics

/-
  The walks of the laws' heldValueS, heldValue.
-/
namespace Go.Proofs.Ytpcegakpdjmaaaa
open Go.RowKit

theorem HeldVK.le {k k' : Int} {ks : List Va} (h : HeldVK k ks k') : k ≤ k' := by
  induction h with
  | nil => exact Int.le_refl _
  | cons => omega
theorem HeldVK.split {k k' : Int} {t : Va} {ks : List Va} (h : HeldVK k (t :: ks) k') : ∃ (n : Nat) (cs : List Va) (k1 : Int), t = .node ⟨k, k + 1, marksB (k + 2) n⟩ cs ∧ HeldVK (k + 2 + n) cs k1 ∧ HeldVK k1 ks k' := by
  cases h with
  | cons _ k1 _ n cs _ h1 h2 => exact ⟨n, cs, k1, rfl, h1, h2⟩
theorem HeldVK.done {k k' : Int} (h : HeldVK k [] k') : k = k' := by cases h; rfl
def CountsV (v : Int) (w : World) (e : Ending) (w' : World) : Prop := e = .returned (.int .i64 v) ∧ Below w.heap.size w w'
def HeldVKids (ks : List Va) : Prop := ∀ (w : World) (A : Option Addr) (d : Nat) (k k' : Int), RVas w A ks → HeldVK k ks k' → ks.length ≤ 9223372036854775807 → 0 < k → k' ≤ 1000000000000 → Calls Try.prog 55 #[.slice A ks.length d, .int .i64 k] w (CountsV k' w)

set_option maxRecDepth 100000 in
set_option maxHeartbeats 2000000 in
theorem heldVKids_any (ks : List Va) (ih : ∀ t ∈ ks, HeldVKids t.kids) : HeldVKids ks := by
  intro w A d k0 k' hp hh hl hk0 hkb
  have HI := Lib.hid ih
  have HP := Lib.hid hp
  have HH := Lib.hid hh
  have hk01 := hh.le
  clear ih hp hh
  go_enter Try.func55, Try.ntmps55
  go_wp2_with fail
  go_loopw [1, 5] (fun kv iv wr => ∃ (i : Nat) (k : Int), i ≤ ks.length ∧ iv = .int .i64 i ∧ kv = .int .i64 k ∧ HeldVK k (ks.drop i) k' ∧ 0 < k ∧ Below w.heap.size w wr) (fun _ iv _ => ks.length - (intOf iv).toNat)
  case atStart => exact ⟨0, k0, Nat.zero_le _, rfl, rfl, HH.out, hk0, Below.refl _ _⟩
  case round =>
    obtain ⟨i, k, hi, rfl, rfl, hheld, hk, hb⟩ := hrel
    have hkk := hheld.le
    by_cases hlt : i < ks.length
    · rw [List.drop_eq_getElem_cons hlt] at hheld
      obtain ⟨n, cs, k1, hnode, h1, h2⟩ := hheld.split
      obtain ⟨ad, p, c0, c1, c2, c3, rfl, hpe, hr, q0, q1, q2, q3⟩ := vid_at HP.out hb hlt
      have hK := HI.out ks[i] (List.getElem_mem hlt)
      rw [hnode] at hr hK
      obtain ⟨L, e1, B, d2, he, hsl, _, hcl, hkd⟩ := hr.out
      injection he with x0 he
      injection he with x1 he
      injection he with x2 he
      injection he with x3 _
      have y0 : c0 = .int .i64 k := x0
      have yn : c1 = .int .i64 (k + 1) := x1
      have y1 : c2 = .slice L n e1 := by rw [x2]; show Value.slice L (marksB (k + 2) n).length e1 = _; rw [marksB_len]
      have hsl' : Sl wr L (marks (k + 2) n) := by rw [marks_eq]; exact hsl
      rw [y0] at q0
      rw [yn] at q1
      rw [y1] at q2
      rw [x3] at q3
      have hk1 := h1.le
      have hk2 := h2.le
      have hkn : k + 2 + n ≤ 1000000000000 := by omega
      have hk1b : k1 ≤ 1000000000000 := by omega
      have hk1p : 0 < k1 := by omega
      have HC1 := Lib.hid (heldStringS_any L n e1 (k + 2) wr hsl' (by omega) (by omega))
      have HC2 := Lib.hid (fun (w2 : World) (hb2 : Below wr.heap.size wr w2) => hK w2 B d2 (k + 2 + n) k1 (hkd.keep hb2) h1 hcl (by omega) hk1b)
      have HKP := Lib.hid (fun (w2 : World) (hb2 : Below wr.heap.size wr w2) => (hb2.cell (World.block_lt_of_cell? wr _ q3)).trans q3)
      have H2 := Lib.hid h2
      have HB := Lib.hid hb
      have hk1n : ¬ k1 < 0 := by omega
      have hkk1 : k ≤ 1000000000000 := by omega
      have hkn0 : ¬ k + 2 + (n : Int) < 0 := by omega
      obtain ⟨z, hz⟩ : ∃ z, cs.length = z := ⟨_, rfl⟩
      rw [show (Tr.node (⟨k, k + 1, marksB (k + 2) n⟩ : VaA) cs).kids = cs from rfl] at HC2
      rw [hz] at q3 HC2 HKP
      clear hheld hnode hr hK hsl hkd x0 x1 x2 x3 y0 yn y1 hsl' h1 h2 hb hk1 hk2 hkk hcl hk01 hkb hz
      go_wp2_with fail
      rw [show k + 1 + 1 = k + 2 by omega]
      refine HC1.out.mono ?_
      rintro e w2 ⟨rfl, hb2⟩
      have HB2 := Lib.hid (HB.out.trans (hb2.mono HB.out.size))
      have s2 := HKP.out w2 hb2
      have HC3 := Lib.hid (HC2.out w2 hb2)
      clear hb2 q0 q1 q2 q3 HC1 HC2 HKP
      go_wp2_with fail
      refine HC3.out.mono ?_
      rintro e w3 ⟨rfl, hb3⟩
      have HB3 := Lib.hid (HB2.out.trans (hb3.mono HB2.out.size))
      clear hb3 s2 HC3
      go_wp2_with fail
      go_roundw
      case rel => exact ⟨i + 1, k1, hlt, by go_num, rfl, H2.out, hk1p, HB3.out⟩
      case measure => simp [intOf]; omega
    · have he : i = ks.length := by omega
      have hkv : k = k' := by
        rw [he, List.drop_length] at hheld
        exact hheld.done
      have HF : Hid (CountsV k' w (.returned (.int .i64 k)) wr) := ⟨by rw [hkv], hb⟩
      clear he hkv hheld hb hkk
      go_wp2_with fail
      go_ret
      exact HF.out
theorem heldVTree : ∀ t : Va, HeldVKids t.kids := by
  refine Tr.ind ?_
  intro a ks ih
  exact heldVKids_any ks ih

set_option maxRecDepth 100000 in
set_option maxHeartbeats 1600000 in
theorem heldValue_any (t : Va) (w : World) (cs : List Value) (k k' : Int) (h : RVa w t cs) (hh : HeldVT k t k') (hk : 0 < k) (hkb : k' ≤ 1000000000000) : Calls Try.prog 24 #[.agg cs.toArray, .int .i64 k] w (CountsV k' w) := by
  obtain ⟨n, ks, hnode, hheld⟩ := hh
  have hke := hheld.le
  have hK := heldVTree t
  rw [hnode] at h hK
  obtain ⟨L, c, A, d, rfl, k1, _, k6, hp⟩ := h.out
  have hml := marksB_len k n
  have hsl : Sl w L (marks k n) := by rw [marks_eq]; exact k1
  have hK2 : HeldVKids ks := hK
  show Calls _ _ #[.agg #[.int .i64 t.top.kind, .int .i64 t.top.num, .slice L (marksB k n).length c, .slice A ks.length d], _] _ _
  rw [hml]
  generalize t.top.kind = q
  generalize t.top.num = qn
  obtain ⟨W1, hW1⟩ : ∃ W1, w.alloc (.cells #[.int .i64 q, .int .i64 qn, .slice L n c, .slice A ks.length d] 30) = W1 := ⟨_, rfl⟩
  obtain ⟨H, hH⟩ : ∃ H, w.heap.size = H := ⟨_, rfl⟩
  have b0 : Box4 W1 H 30 (.int .i64 q) (.int .i64 qn) (.slice L n c) (.slice A ks.length d) := by rw [← hW1, ← hH]; exact Box4.new w _ _ _ _ _
  have hb1 : Below w.heap.size w W1 := by rw [← hW1]; exact (Below.refl _ _).alloc (Nat.le_refl _) _
  have HC1 := Lib.hid (heldStringS_any L n c k W1 (hsl.below hb1) hk (by omega))
  have HC2 := Lib.hid (fun (w2 : World) (hb2 : Below w.heap.size w w2) => hK2 w2 A d (k + n) k' (hp.keep hb2) hheld k6 (by omega) hkb)
  have HW1 := Lib.hid hW1
  have HB1 := Lib.hid hb1
  have B1 := Lib.hid b0
  have x1 := b0.c2
  have hkn0 : ¬ k + (n : Int) < 0 := by omega
  have hk0 : ¬ k' < 0 := by omega
  have hkn : k + (n : Int) ≤ 1000000000000 := by omega
  obtain ⟨z, hz⟩ : ∃ z, ks.length = z := ⟨_, rfl⟩
  rw [hz] at HC2 HW1 B1 ⊢
  clear h hnode hheld hK k1 k6 hp hml hsl hK2 hW1 b0 hb1 hke hz
  go_enter Try.func24, Try.ntmps24
  go_wp2_with fail
  rw [HW1.out]
  go_wp2_with fail
  refine HC1.out.mono ?_
  rintro e w2 ⟨rfl, hb2⟩
  have HB2 := Lib.hid (HB1.out.trans (hb2.mono HB1.out.size))
  have s2 := (B1.out.under hb2 B1.out.lt).c3
  have HC3 := Lib.hid (HC2.out w2 HB2.out)
  clear hb2 x1 HC1 HC2
  go_wp2_with fail
  refine HC3.out.mono ?_
  rintro e w3 ⟨rfl, hb3⟩
  have HF : Hid (CountsV k' w (.returned (.int .i64 k')) w3) := ⟨rfl, HB2.out.trans (hb3.mono HB2.out.size)⟩
  clear hb3 s2 HC3
  go_wp2_with fail
  go_ret
  exact HF.out
end Go.Proofs.Ytpcegakpdjmaaaa

/-
  The comparison of a type with itself, wherever the two lie: 'eqValue', 'eqValueS'.
-/
namespace Go.Proofs.Ytpcegakpdjmaaaa
open Go.RowKit

def EqVK (t : Va) : Prop := ∀ (w : World) (cs ds : List Value), RVa w t cs → RVa w t ds → Calls Try.prog 13 #[.agg cs.toArray, .agg ds.toArray] w (LawYes w)

set_option maxHeartbeats 800000 in
set_option maxRecDepth 100000 in
theorem eqValueS_of (ks : List Va) (ih : ∀ t ∈ ks, EqVK t) (w : World) (A B : Option Addr) (c d : Nat) (hA : RVas w A ks) (hB : RVas w B ks) (hl : ks.length ≤ 9223372036854775807) :
    Calls Try.prog 35 #[.slice A ks.length c, .slice B ks.length d] w (LawYes w) := by
  have HA := Lib.hid hA
  have HB := Lib.hid hB
  have HI := Lib.hid ih
  clear hA hB ih
  go_enter Try.func35, Try.ntmps35
  go_wp2_with fail
  go_loopw [5] (fun i wr => ∃ k : Nat, k ≤ ks.length ∧ i = .int .i64 k ∧ Below w.heap.size w wr) (fun i _ => ks.length - (intOf i).toNat)
  case atStart => exact ⟨0, Nat.zero_le _, rfl, Below.refl _ _⟩
  case round =>
    obtain ⟨k, hk, rfl, hb⟩ := hrel
    by_cases hlt : k < ks.length
    · obtain ⟨ad, p, c0, c1, c2, c3, rfl, hpe, hr, q0, q1, q2, q3⟩ := vid_at HA.out hb hlt
      obtain ⟨bd, p', d0, d1, d2, d3, rfl, hpe', hr', q0', q1', q2', q3'⟩ := vid_at HB.out hb hlt
      have HR := Lib.hid hr
      have HR' := Lib.hid hr'
      have HBW := Lib.hid hb
      clear hr hr' hb
      go_wp2_with fail
      go_still_tail 8, (by kernel_rfl)
      change wpList _ _ _ _ _ wr.drew
      have hd : Below wr.heap.size wr wr.drew := (Below.refl _ _).drew
      have HC := Lib.hid (HI.out ks[k] (List.getElem_mem hlt) wr.drew [c0, c1, c2, c3] [d0, d1, d2, d3] (HR.out.keep hd) (HR'.out.keep hd))
      have HB2 := Lib.hid (HBW.out.trans (hd.mono HBW.out.size))
      clear hd
      go_wp2_with fail
      refine HC.out.mono ?_
      rintro e w2 ⟨rfl, hb2⟩
      have HB3 := Lib.hid (HB2.out.trans (hb2.mono HB2.out.size))
      clear hb2
      go_wp2_with fail
      go_roundw
      case rel => exact ⟨k + 1, hlt, by go_num, HB3.out⟩
      case measure => simp [intOf]; omega
    · go_wp2_with fail
      go_ret
      exact ⟨rfl, hb⟩

set_option maxHeartbeats 800000 in
set_option maxRecDepth 100000 in
theorem eqValue_same : ∀ t : Va, EqVK t := by
  refine Tr.ind ?_
  intro a ks ih w cs ds h h'
  obtain ⟨L, c, A, d, rfl, k1, ⟨_, _, _, _, k4, k5⟩, k6, hp⟩ := h.out
  obtain ⟨L', c', A', d', rfl, k1', _, _, hp'⟩ := h'.out
  obtain ⟨W1, hW1⟩ : ∃ W1, (w.alloc (.cells #[.int .i64 a.kind, .int .i64 a.num, .slice L a.labels.length c, .slice A ks.length d] 30)).alloc (.cells #[.int .i64 a.kind, .int .i64 a.num, .slice L' a.labels.length c', .slice A' ks.length d'] 30) = W1 := ⟨_, rfl⟩
  obtain ⟨H, hH⟩ : ∃ H, w.heap.size = H := ⟨_, rfl⟩
  have b0 : Box4 W1 H 30 (.int .i64 a.kind) (.int .i64 a.num) (.slice L a.labels.length c) (.slice A ks.length d) := by rw [← hW1, ← hH]; exact (Box4.new w _ _ _ _ _).alloc _
  have b1 : Box4 W1 (H + 1) 30 (.int .i64 a.kind) (.int .i64 a.num) (.slice L' a.labels.length c') (.slice A' ks.length d') := by
    rw [← hW1, ← hH]
    have := Box4.new (w.alloc (.cells #[.int .i64 a.kind, .int .i64 a.num, .slice L a.labels.length c, .slice A ks.length d] 30)) 30 (.int .i64 a.kind) (.int .i64 a.num) (.slice L' a.labels.length c') (.slice A' ks.length d')
    simpa using this
  have hb1 : Below w.heap.size w W1 := by rw [← hW1]; exact ((Below.refl _ _).alloc (Nat.le_refl _) _).alloc (by simp) _
  have HW1 := Lib.hid hW1
  have HP := Lib.hid (hp.keep hb1)
  have HP' := Lib.hid (hp'.keep hb1)
  have HL := Lib.hid (k1.below hb1)
  have HL' := Lib.hid (k1'.below hb1)
  have HB1 := Lib.hid hb1
  have HI := Lib.hid ih
  have x0 := b0.c0
  have x1 := b0.c1
  have x2 := b0.c2
  have x3 := b0.c3
  have y0 := b1.c0
  have y1 := b1.c1
  have y2 := b1.c2
  have y3 := b1.c3
  have B0 := Lib.hid b0
  have B1 := Lib.hid b1
  clear hp hp' ih k1 k1' k5 h h' hW1 b0 b1 hb1
  go_enter Try.func13, Try.ntmps13
  go_wp2_with fail
  rw [HW1.out]
  refine (eqL_any _ _ _ _ a.labels W1 HL.out HL'.out k4).mono ?_
  rintro e w2 ⟨rfl, hb2⟩
  have hz : H + 1 < W1.heap.size := B1.out.lt
  have z2 := (B0.out.under hb2 (by omega)).c3
  have v2 := (B1.out.under hb2 (by omega)).c3
  have HP2 := Lib.hid (HP.out.keep hb2)
  have HP2' := Lib.hid (HP'.out.keep hb2)
  have HB2 := Lib.hid (HB1.out.trans (hb2.mono HB1.out.size))
  clear hb2 x0 x1 x2 x3 y0 y1 y2 y3
  go_wp2_with fail
  refine (eqValueS_of ks HI.out w2 A A' d d' HP2.out HP2'.out k6).mono ?_
  rintro e w3 ⟨rfl, hb3⟩
  have HB3 := Lib.hid (HB2.out.trans (hb3.mono HB2.out.size))
  clear hb3 z2 v2
  go_wp2_with fail
  go_ret
  exact ⟨rfl, HB3.out⟩
end Go.Proofs.Ytpcegakpdjmaaaa
