/-
  Merged by program: TeSz.
-/
import Derived.Test.YthcfgpjldhiinaaDoorV2
import Derived.Test.YthcfgpjldhiinaaDoorV8
import Derived.Test.YthcfgpjldhiinaaDoorV6

/-
  How great a value is, as the laws reckon it: 'szTerm', 'szTermS'.
-/
namespace Go.Proofs.YthcfgpjldhiinaaDoor
open Go.RowKit

/-- the laws' own types, which mirror the program's -/
def wteA (a : TeA) : Nat := a.name.size + wt a.type + (a.labels.length + total a.labels)
/-- what a value takes of the laws' bound -/
def wte (t : Te) : Nat := t.sum (fun a => wteA a + 1) - 1
def wteK (ks : List Te) : Nat := ks.length + (ks.map wte).sum
theorem wte_pos (t : Te) : 1 ≤ t.sum (fun a => wteA a + 1) := by
  cases t with
  | node a ks => rw [Tr.sum_node]; omega
theorem wte_sum (ks : List Te) : (ks.map (Tr.sum fun a => wteA a + 1)).sum = wteK ks := by
  unfold wteK
  induction ks with
  | nil => rfl
  | cons t r ih =>
    have := wte_pos t
    simp only [List.map_cons, List.sum_cons, List.length_cons, ih]
    unfold wte
    omega
theorem wte_node (a : TeA) (ks : List Te) : wte (.node a ks) = wteA a + wteK ks := by
  unfold wte
  rw [Tr.sum_node, wte_sum]
  omega
theorem size_wte (t : Te) : t.size ≤ wte t + 1 := by
  have : t.size ≤ t.sum (fun a => wteA a + 1) := by
    refine Tr.ind (m := fun t => t.size ≤ t.sum (fun a => wteA a + 1)) (fun a ks ih => ?_) t
    rw [size_nodeE, Tr.sum_node]
    have h := sum_le Tr.size (Tr.sum fun a => wteA a + 1) ks ih
    omega
  unfold wte
  omega

def SzTeK (t : Te) : Prop := ∀ (w : World) (cs : List Value) (left : Int), RTe w t cs → 0 ≤ left → left ≤ 1048576 → Calls Tryd.prog 4 #[.agg cs.toArray, .int .i64 left] w (SzT (wte t) left w)

set_option maxHeartbeats 800000 in
theorem szTermS_of (ks : List Te) (ih : ∀ t ∈ ks, SzTeK t) (w : World) (A : Option Addr) (d : Nat) (left : Int) (hp : RTes w A ks) (hl : ks.length ≤ 9223372036854775807) (h0 : 0 ≤ left) (h1 : left ≤ 1048576) :
    Calls Tryd.prog 11 #[.slice A ks.length d, .int .i64 left] w (SzT (wteK ks) left w) := by
  have HP := Lib.hid hp
  have HI := Lib.hid ih
  clear hp ih
  by_cases hneg : left - ks.length < 0
  · go_enter Tryd.func11, Tryd.ntmps11
    go_wp2_with fail
    go_ret
    exact ⟨-1, rfl, by omega, by omega, by omega, Below.refl _ _⟩
  · go_enter Tryd.func11, Tryd.ntmps11
    go_wp2_with fail
    go_loopw [1, 5] (fun l i wr => ∃ k : Nat, k ≤ ks.length ∧ i = .int .i64 k ∧ ∃ r : Int, l = .int .i64 r ∧ 0 ≤ r ∧ r + ks.length + ((ks.take k).map wte).sum = left ∧ Below w.heap.size w wr) (fun _ i _ => ks.length - (intOf i).toNat)
    case atStart => exact ⟨0, Nat.zero_le _, rfl, _, rfl, by omega, by simp, Below.refl _ _⟩
    case round =>
      obtain ⟨k, hk, rfl, r, rfl, hr0, hr, hb⟩ := hrel
      have hr1 : r ≤ 1048576 := by omega
      have HR := Lib.hid hr
      clear hr
      by_cases hlt : k < ks.length
      · obtain ⟨ad, p, c0, c1, c2, c3, c4, c5, c6, c7, rfl, hpe, hrt, q0, q1, q2, q3, q4, q5, q6, q7⟩ := tid_at HP.out hb hlt
        have hst := sum_take_succ wte ks k hlt
        have hc := HI.out ks[k] (List.getElem_mem hlt) wr [c0, c1, c2, c3, c4, c5, c6, c7] r hrt hr0 hr1
        obtain ⟨m, hm⟩ : ∃ m, wte ks[k] = m := ⟨_, rfl⟩
        rw [hm] at hst hc
        have HC := Lib.hid hc
        have HST := Lib.hid hst
        clear hc hrt hst hm
        go_wp2_with fail
        refine HC.out.mono ?_
        rintro e w2 ⟨r', rfl, hr2, hr3, hr4, hb2⟩
        have HB3 := Lib.hid (hb.trans (hb2.mono hb.size))
        have HR4 := Lib.hid hr4
        clear hr4 hb2
        by_cases hz : r' < 0
        · go_wp2_with fail
          go_ret
          exact ⟨-1, rfl, by omega, by omega, by omega, HB3.out⟩
        · go_wp2_with fail
          go_roundw
          case rel => exact ⟨k + 1, hlt, by go_num, r', rfl, by omega, by have h1 := HR4.out (by omega); have h2 := HR.out; have h3 := HST.out; omega, HB3.out⟩
          case measure => simp [intOf]; omega
      · have he : k = ks.length := by omega
        have HS : Hid (r + wteK ks = left) := by
          have h := HR.out
          rw [he, List.take_length] at h
          show _ = _
          unfold wteK
          omega
        clear he
        go_wp2_with fail
        go_ret
        exact ⟨r, rfl, by have := HR.out; omega, by omega, fun _ => HS.out, hb⟩

set_option maxHeartbeats 1600000 in
set_option maxRecDepth 100000 in
theorem szTerm_any : ∀ t : Te, SzTeK t := by
  refine Tr.ind ?_
  intro a ks ih w cs left h h0 h1
  obtain ⟨TL, tc, TA, td, L, c, A, d, rfl, hT, k1, ⟨_, _, kn, _, _, k4, k5⟩, k6, _, hp⟩ := h.out
  have HN := Lib.hid (wte_node a ks)
  obtain ⟨W1, hW1⟩ : ∃ W1, w.alloc (.cells #[.int .i64 a.kind, .string a.name, .int .i64 a.num, .int .i64 a.type.top.kind, .slice TL a.type.top.labels.length tc, .slice TA a.type.kids.length td, .slice L a.labels.length c, .slice A ks.length d] 28) = W1 := ⟨_, rfl⟩
  obtain ⟨H, hH⟩ : ∃ H, w.heap.size = H := ⟨_, rfl⟩
  have hb0 : Below w.heap.size w W1 := by rw [← hW1]; exact (Below.refl _ _).alloc (Nat.le_refl _) _
  have b0 : Box8 W1 H 28 (.int .i64 a.kind) (.string a.name) (.int .i64 a.num) (.int .i64 a.type.top.kind) (.slice TL a.type.top.labels.length tc) (.slice TA a.type.kids.length td) (.slice L a.labels.length c) (.slice A ks.length d) := by rw [← hW1, ← hH]; exact Box8.new w _ _ _ _ _ _ _ _ _
  have HW1 := Lib.hid hW1
  have B0 := Lib.hid b0
  have HT := Lib.hid (fun r (h0 : 0 ≤ r) (h1 : r ≤ 1048576) => szType_any a.type W1 _ r (hT.keep hb0) h0 h1)
  have HP := Lib.hid hp
  have HL := Lib.hid k1
  have HB0 := Lib.hid hb0
  have HI := Lib.hid ih
  have HX := Lib.hid k5
  have x1 := b0.c1
  have x3 := b0.c3
  have x4 := b0.c4
  have x5 := b0.c5
  clear hp ih hb0 hW1 k1 k5 h hT b0
  generalize a.type.top.kind = g0 at HT B0 HW1 x3 ⊢
  generalize a.type.top.labels.length = g1 at HT B0 HW1 x4 ⊢
  generalize a.type.kids.length = g2 at HT B0 HW1 x5 ⊢
  by_cases hn0 : left - a.name.size < 0
  · have HR : Hid (∀ W, Below w.heap.size w W → SzT (wte (.node a ks)) left w (.returned (.int .i64 (-1))) W) := Lib.hid (fun W hB => ⟨-1, rfl, by omega, by omega, by omega, hB⟩)
    go_enter Tryd.func4, Tryd.ntmps4
    go_wp2_with fail
    rw [HW1.out]
    go_wp2_with fail
    go_ret
    exact HR.out _ HB0.out
  · go_enter Tryd.func4, Tryd.ntmps4
    go_wp2_with fail
    rw [HW1.out]
    go_wp2_with fail
    refine (HT.out (left - a.name.size) (by omega) (by omega)).mono ?_
    rintro e w1 ⟨r, rfl, r1, r2, r3, hb1⟩
    have HR3 := Lib.hid r3
    have HB1 := Lib.hid (HB0.out.trans (hb1.mono HB0.out.size))
    have B1 := Lib.hid (B0.out.under hb1 B0.out.lt)
    have y6 := B1.out.c6
    clear r3 hb1 x1 x3 x4 x5
    by_cases hneg : r < 0
    · go_wp2_with fail
      go_ret
      exact ⟨-1, rfl, by omega, by omega, by omega, HB1.out⟩
    · go_wp2_with fail
      refine (szStringS_any L c a.labels r w1 (HL.out.below HB1.out) k4 HX.out (by omega) (by omega)).mono ?_
      rintro e w' ⟨s, rfl, s1, s2, s3, rfl⟩
      have HS3 := Lib.hid s3
      have y7 := B1.out.c7
      clear s3
      by_cases hneg2 : s < 0
      · go_wp2_with fail
        go_ret
        exact ⟨-1, rfl, by omega, by omega, by omega, HB1.out⟩
      · go_wp2_with fail
        refine (szTermS_of ks HI.out w1 A d s (HP.out.keep HB1.out) k6 (by omega) (by omega)).mono ?_
        rintro e w2 ⟨r', rfl, t1, t2, t3, hb2⟩
        have HT3 := Lib.hid t3
        have HB2 := Lib.hid (HB1.out.trans (hb2.mono HB1.out.size))
        clear t3 hb2
        by_cases hz : r' < 0
        · go_wp2_with fail
          go_ret
          exact ⟨-1, rfl, by omega, by omega, by omega, HB2.out⟩
        · go_wp2_with fail
          go_ret
          refine ⟨r', rfl, by omega, by omega, fun _ => ?_, HB2.out⟩
          have e1 := HR3.out (by omega)
          have e2 := HS3.out (by omega)
          have e3 := HT3.out (by omega)
          rw [HN.out]
          unfold wteA
          omega
end Go.Proofs.YthcfgpjldhiinaaDoor
