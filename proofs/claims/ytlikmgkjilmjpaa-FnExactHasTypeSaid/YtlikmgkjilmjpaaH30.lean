/-
  Merged by program: VaSz.
-/
import Derived.Test.YtlikmgkjilmjpaaH9
import Derived.Test.YtlikmgkjilmjpaaH5

/-
  How great a value is, as the laws reckon it: 'szValue', 'szValueS'.
-/
namespace Go.Proofs.Ytlikmgkjilmjpaa
open Go.RowKit

/-- the laws' own types, which mirror the program's -/
def wvA (a : VaA) : Nat := a.labels.length + total a.labels
/-- what a value takes of the laws' bound -/
def wv (t : Va) : Nat := t.sum (fun a => wvA a + 1) - 1
def wvK (ks : List Va) : Nat := ks.length + (ks.map wv).sum
theorem wv_pos (t : Va) : 1 ≤ t.sum (fun a => wvA a + 1) := by
  cases t with
  | node a ks => rw [Tr.sum_node]; omega
theorem wv_sum (ks : List Va) : (ks.map (Tr.sum fun a => wvA a + 1)).sum = wvK ks := by
  unfold wvK
  induction ks with
  | nil => rfl
  | cons t r ih =>
    have := wv_pos t
    simp only [List.map_cons, List.sum_cons, List.length_cons, ih]
    unfold wv
    omega
theorem wv_node (a : VaA) (ks : List Va) : wv (.node a ks) = wvA a + wvK ks := by
  unfold wv
  rw [Tr.sum_node, wv_sum]
  omega
theorem size_wv (t : Va) : t.size ≤ wv t + 1 := by
  have : t.size ≤ t.sum (fun a => wvA a + 1) := by
    refine Tr.ind (m := fun t => t.size ≤ t.sum (fun a => wvA a + 1)) (fun a ks ih => ?_) t
    rw [size_nodeV, Tr.sum_node]
    have h := sum_le Tr.size (Tr.sum fun a => wvA a + 1) ks ih
    omega
  unfold wv
  omega

/-- where the answer is not negative, what is left over is the rest -/
def SzV (n : Nat) (left : Int) (w : World) (e : Ending) (w' : World) : Prop := ∃ r : Int, e = .returned (.int .i64 r) ∧ r ≤ left ∧ -1 ≤ r ∧ (0 ≤ r → r + n = left) ∧ Below w.heap.size w w'

def SzVK (t : Va) : Prop := ∀ (w : World) (cs : List Value) (left : Int), RVa w t cs → 0 ≤ left → left ≤ 1048576 → Calls Try.prog 10 #[.agg cs.toArray, .int .i64 left] w (SzV (wv t) left w)

set_option maxHeartbeats 800000 in
theorem szValueS_of (ks : List Va) (ih : ∀ t ∈ ks, SzVK t) (w : World) (A : Option Addr) (d : Nat) (left : Int) (hp : RVas w A ks) (hl : ks.length ≤ 9223372036854775807) (h0 : 0 ≤ left) (h1 : left ≤ 1048576) :
    Calls Try.prog 36 #[.slice A ks.length d, .int .i64 left] w (SzV (wvK ks) left w) := by
  have HP := Lib.hid hp
  have HI := Lib.hid ih
  clear hp ih
  by_cases hneg : left - ks.length < 0
  · go_enter Try.func36, Try.ntmps36
    go_wp2_with fail
    go_ret
    exact ⟨-1, rfl, by omega, by omega, by omega, Below.refl _ _⟩
  · go_enter Try.func36, Try.ntmps36
    go_wp2_with fail
    go_loopw [1, 5] (fun l i wr => ∃ k : Nat, k ≤ ks.length ∧ i = .int .i64 k ∧ ∃ r : Int, l = .int .i64 r ∧ 0 ≤ r ∧ r + ks.length + ((ks.take k).map wv).sum = left ∧ Below w.heap.size w wr) (fun _ i _ => ks.length - (intOf i).toNat)
    case atStart => exact ⟨0, Nat.zero_le _, rfl, _, rfl, by omega, by simp, Below.refl _ _⟩
    case round =>
      obtain ⟨k, hk, rfl, r, rfl, hr0, hr, hb⟩ := hrel
      have hr1 : r ≤ 1048576 := by omega
      have HR := Lib.hid hr
      clear hr
      by_cases hlt : k < ks.length
      · obtain ⟨ad, p, c0, c1, c2, c3, rfl, hpe, hrt, q0, q1, q2, q3⟩ := vid_at HP.out hb hlt
        have hst := sum_take_succ wv ks k hlt
        have hc := HI.out ks[k] (List.getElem_mem hlt) wr [c0, c1, c2, c3] r hrt hr0 hr1
        obtain ⟨m, hm⟩ : ∃ m, wv ks[k] = m := ⟨_, rfl⟩
        rw [hm] at hst hc
        have HC := Lib.hid hc
        have HST := Lib.hid hst
        clear hc hrt hst hm
        go_wp2_with fail
        refine HC.out.mono ?_
        rintro e w2 ⟨r', rfl, hr2, hr3, hr4, hb2⟩
        have HB3 := Lib.hid (hb.trans (hb2.mono hb.size))
        have HR4 := Lib.hid hr4
        clear hr4 hb2
        by_cases hz : r' < 0
        · go_wp2_with fail
          go_ret
          exact ⟨-1, rfl, by omega, by omega, by omega, HB3.out⟩
        · go_wp2_with fail
          go_roundw
          case rel => exact ⟨k + 1, hlt, by go_num, r', rfl, by omega, by have h1 := HR4.out (by omega); have h2 := HR.out; have h3 := HST.out; omega, HB3.out⟩
          case measure => simp [intOf]; omega
      · have he : k = ks.length := by omega
        have HS : Hid (r + wvK ks = left) := by
          have h := HR.out
          rw [he, List.take_length] at h
          show _ = _
          unfold wvK
          omega
        clear he
        go_wp2_with fail
        go_ret
        exact ⟨r, rfl, by have := HR.out; omega, by omega, fun _ => HS.out, hb⟩

set_option maxHeartbeats 800000 in
theorem szValue_any : ∀ t : Va, SzVK t := by
  refine Tr.ind ?_
  intro a ks ih w cs left h h0 h1
  obtain ⟨L, c, A, d, rfl, k1, ⟨_, _, _, _, k4, k5⟩, k6, hp⟩ := h.out
  have HN := Lib.hid (wv_node a ks)
  obtain ⟨W1, hW1⟩ : ∃ W1, w.alloc (.cells #[.int .i64 a.kind, .int .i64 a.num, .slice L a.labels.length c, .slice A ks.length d] 25) = W1 := ⟨_, rfl⟩
  have hb0 : Below w.heap.size w W1 := by rw [← hW1]; exact (Below.refl _ _).alloc (Nat.le_refl _) _
  have hbx1 : W1.cell? ⟨w.heap.size, 2, none⟩ = some (.slice L a.labels.length c) := by rw [← hW1]; exact cell_of_row _ _ 2 _ _ _ (heap_alloc_new w _)
  have hbx2 : W1.cell? ⟨w.heap.size, 3, none⟩ = some (.slice A ks.length d) := by rw [← hW1]; exact cell_of_row _ _ 3 _ _ _ (heap_alloc_new w _)
  have HW1 := Lib.hid hW1
  have HP := Lib.hid (hp.keep hb0)
  have HL := Lib.hid (k1.below hb0)
  have HB0 := Lib.hid hb0
  have HI := Lib.hid ih
  have HX := Lib.hid k5
  clear hp ih hb0 hW1 k1 k5 h
  go_enter Try.func10, Try.ntmps10
  go_wp2_with fail
  rw [HW1.out]
  go_wp2_with fail
  refine (szStringS_any L c a.labels left W1 HL.out k4 HX.out h0 h1).mono ?_
  rintro e w' ⟨r, rfl, hr1, hr2, hr3, rfl⟩
  have HR3 := Lib.hid hr3
  clear hr3
  by_cases hneg : r < 0
  · go_wp2_with fail
    go_ret
    exact ⟨-1, rfl, by omega, by omega, by omega, HB0.out⟩
  · go_wp2_with fail
    refine (szValueS_of ks HI.out W1 A d r HP.out k6 (by omega) (by omega)).mono ?_
    rintro e w2 ⟨r', rfl, hs1, hs2, hs3, hb2⟩
    have HS3 := Lib.hid hs3
    have HB2 := Lib.hid (HB0.out.trans (hb2.mono HB0.out.size))
    clear hs3 hb2
    by_cases hz : r' < 0
    · go_wp2_with fail
      go_ret
      exact ⟨-1, rfl, by omega, by omega, by omega, HB2.out⟩
    · go_wp2_with fail
      go_ret
      refine ⟨r', rfl, by omega, by omega, fun _ => ?_, HB2.out⟩
      have e1 := HR3.out (by omega)
      have e2 := HS3.out (by omega)
      rw [HN.out]
      unfold wvA
      omega
end Go.Proofs.Ytlikmgkjilmjpaa
