/-
  Merged by program: VaHasL, JoinA, TySz.
-/
import Derived.Test.YtckoookgjhngkaaDoorFV4
import Derived.Test.YtckoookgjhngkaaDoorFV5
import Derived.Test.YtckoookgjhngkaaDoorFV1
import Derived.Test.YtckoookgjhngkaaDoorProg
import Derived.Test.YtckoookgjhngkaaDoorFV2

/-
  The model's count down by nodes of a value (l5Left).
-/
namespace Go.Proofs.YtckoookgjhngkaaDoor
open Go.RowKit

set_option maxHeartbeats 800000 in
theorem l5Left_any : ∀ (t : Va) (w : World) (cs : List Value) (left : Int), RVa w t cs → 0 ≤ left → left ≤ 1048577 → Calls Tryd.prog 19 #[.agg cs.toArray, .int .i64 left] w (Left t.size left w) := by
  refine Tr.ind ?_
  intro a ks ih w cs left h hl0 hl1
  obtain ⟨L, c, A, d, rfl, k1, k2, k3, hp⟩ := h.out
  rw [size_nodeV]
  obtain ⟨W1, hW1⟩ : ∃ W1, w.alloc (.cells #[.int .i64 a.kind, .int .i64 a.num, .slice L a.labels.length c, .slice A ks.length d] 30) = W1 := ⟨_, rfl⟩
  have hb0 : Below w.heap.size w W1 := by rw [← hW1]; exact (Below.refl _ _).alloc (Nat.le_refl _) _
  obtain ⟨H, hH⟩ : ∃ H, w.heap.size = H := ⟨_, rfl⟩
  have b0 : Box4 W1 H 30 (.int .i64 a.kind) (.int .i64 a.num) (.slice L a.labels.length c) (.slice A ks.length d) := by rw [← hW1, ← hH]; exact Box4.new w _ _ _ _ _
  have HP := Lib.hid hp
  have HI := Lib.hid ih
  have HB0 := Lib.hid hb0
  have B0 := Lib.hid b0
  have HW1 := Lib.hid hW1
  clear hp ih hb0 b0 hW1 k1 k2 h
  go_enter Tryd.func19, Tryd.ntmps19
  go_wp2_with fail
  rw [HW1.out]
  go_loopw [1, 5] (fun l i wr => ∃ (k : Nat) (r : Int), k ≤ ks.length ∧ i = .int .i64 k ∧ l = .int .i64 r ∧ -1 ≤ r ∧ r < left ∧ (0 ≤ r → r + 1 + ((ks.take k).map Tr.size).sum = left) ∧ (r < 0 → left < 1 + (((ks.take k).map Tr.size).sum : Nat)) ∧ Below W1.heap.size W1 wr) (fun _ i _ => ks.length - (intOf i).toNat)
  case atStart => exact ⟨0, _, Nat.zero_le _, rfl, rfl, by omega, by omega, by intro _; simp, by intro _; simp; omega, Below.refl _ _⟩
  case round =>
    obtain ⟨k, r, hk, rfl, rfl, hr1, hr2, hr3, hr4, hb⟩ := hrel
    have hbw := HB0.out.trans (hb.mono HB0.out.size)
    have bk := B0.out.under hb B0.out.lt
    have hbx := bk.c3
    by_cases hlt : k < ks.length
    · by_cases hr0 : 0 ≤ r
      · obtain ⟨ad, p, c0, c1, c2, c3, rfl, hpe, hr, q0, q1, q2, q3⟩ := vid_at HP.out hbw hlt
        have hc := HI.out ks[k] (List.getElem_mem hlt) wr [c0, c1, c2, c3] r hr hr0 (by omega)
        have hst := sum_take_succ Tr.size ks k hlt
        have HC := Lib.hid hc
        have HST := Lib.hid hst
        have HR3 := Lib.hid (hr3 hr0)
        clear hc hr hst bk hr3 hr4
        go_wp2_with fail
        refine HC.out.mono ?_
        rintro e w2 ⟨r2, rfl, hq1, hq2, hq3, hq4, hb2⟩
        have hb3 := hb.trans (hb2.mono hb.size)
        have h3 := HR3.out
        have h4 := HST.out
        have HQ3 : Hid (0 ≤ r2 → r2 + 1 + ((ks.take (k + 1)).map Tr.size).sum = left) := fun h => by have := hq3 h; omega
        have HQ4 : Hid (r2 < 0 → left < 1 + (((ks.take (k + 1)).map Tr.size).sum : Nat)) := fun h => by have := hq4 h; omega
        clear hq3 hq4 h3 h4
        go_wp2_with fail
        go_roundw
        case rel => exact ⟨k + 1, r2, hlt, by go_num, rfl, hq1, by omega, HQ3.out, HQ4.out, hb3⟩
        case measure => simp [intOf]; omega
      · have hle := sum_take_le Tr.size ks k
        have HR : Hid (Left (1 + (ks.map Tr.size).sum) left w (.returned (.int .i64 r)) wr) := ⟨r, rfl, hr1, by omega, fun h => absurd h hr0, fun h => by have := hr4 h; omega, hbw⟩
        clear bk hr3 hr4 hle
        go_wp2_with fail
        go_ret
        exact HR.out
    · have he : k = ks.length := by omega
      have HR : Hid (Left (1 + (ks.map Tr.size).sum) left w (.returned (.int .i64 r)) wr) := by
        rw [he, List.take_length] at hr3 hr4
        exact ⟨r, rfl, hr1, by omega, fun h => by have := hr3 h; omega, fun h => by have := hr4 h; omega, hbw⟩
      clear he bk hr3 hr4
      go_wp2_with fail
      go_ret
      exact HR.out
end Go.Proofs.YtckoookgjhngkaaDoor

/-
  The size of a list of strings, as the laws reckon it: 'szStringS'.
-/
namespace Go.Proofs.YtckoookgjhngkaaDoor
open Go.RowKit

/-- what szStringS leaves: where its answer is not negative, what is left over is the rest -/
def SzPost (n : Nat) (xs : List ByteArray) (left : Int) (w : World) (e : Ending) (w' : World) : Prop :=
  ∃ r : Int, e = .returned (.int .i64 r) ∧ r ≤ left ∧ -1 ≤ r ∧ (0 ≤ r → r + n + total xs = left) ∧ w = w'

set_option maxHeartbeats 400000 in
theorem szStringS_any (A : Option Addr) (c : Nat) (xs : List ByteArray) (left : Int) (w : World) (h : Sl w A (xs.map Value.string)) (hn : xs.length ≤ 9223372036854775807)
    (hx : ∀ x ∈ xs, x.size ≤ 9223372036854775807) (h0 : 0 ≤ left) (h1 : left ≤ 1048576) :
    Calls Tryd.prog 9 #[.slice A xs.length c, .int .i64 left] w (SzPost xs.length xs left w) := by
  go_enter Tryd.func9, Tryd.ntmps9
  by_cases hneg : left - xs.length < 0
  · go_wp2
    go_ret
    exact ⟨-1, rfl, by omega, by omega, by omega, rfl⟩
  · go_wp2
    go_loop [1, 5] (fun l i => ∃ k : Nat, k ≤ xs.length ∧ i = .int .i64 k ∧ ∃ r : Int, l = .int .i64 r ∧ 0 ≤ r ∧ r + xs.length + total (xs.take k) = left) (fun _ i => xs.length - (intOf i).toNat)
    case atStart => exact ⟨0, Nat.zero_le _, rfl, _, rfl, by omega, by simp [total]⟩
    case round =>
      obtain ⟨k, hk, rfl, r, rfl, hr0, hr⟩ := hrel
      by_cases hlt : k < xs.length
      · have hs := total_take_succ xs k xs[k] (List.getElem?_eq_getElem hlt)
        obtain ⟨ad, rfl, hc⟩ := h k (.string xs[k]) (by simp [hlt])
        have hxk := hx xs[k] (List.getElem_mem hlt)
        have HS := Lib.hid hs
        have HR := Lib.hid hr
        clear hs hr
        have hr1 : r ≤ 1048576 := by have := HR.out; omega
        by_cases hz : r - (xs[k].size : Int) < 0
        · go_wp2
          go_ret
          exact ⟨-1, rfl, by omega, by omega, by omega, rfl⟩
        · go_wp2
          go_round
          case rel => exact ⟨k + 1, by omega, by go_num, _, rfl, by omega, by have := HS.out; have := HR.out; omega⟩
          case measure => simp [intOf]; omega
      · have he : k = xs.length := by omega
        have htk : xs.take k = xs := by rw [he]; exact List.take_length
        have HR := Lib.hid hr
        have HT := Lib.hid htk
        clear hr htk he
        go_wp2
        go_ret
        exact ⟨r, rfl, by have := HR.out; omega, by omega, fun _ => by have := HR.out; rw [HT.out] at this; omega, rfl⟩
end Go.Proofs.YtckoookgjhngkaaDoor

/-
  How great a type is, as the laws reckon it: 'szType', 'szTypeS'.
-/
namespace Go.Proofs.YtckoookgjhngkaaDoor
open Go.RowKit

/-- the laws' own types, which mirror the program's -/
def wtA (a : TyA) : Nat := a.labels.length + total a.labels
/-- what a type takes of the laws' bound -/
def wt (t : Ty) : Nat := t.sum (fun a => wtA a + 1) - 1
def wtK (ks : List Ty) : Nat := ks.length + (ks.map wt).sum
theorem wt_pos (t : Ty) : 1 ≤ t.sum (fun a => wtA a + 1) := by
  cases t with
  | node a ks => rw [Tr.sum_node]; omega
theorem wt_sum (ks : List Ty) : (ks.map (Tr.sum fun a => wtA a + 1)).sum = wtK ks := by
  unfold wtK
  induction ks with
  | nil => rfl
  | cons t r ih =>
    have := wt_pos t
    simp only [List.map_cons, List.sum_cons, List.length_cons, ih]
    unfold wt
    omega
theorem wt_node (a : TyA) (ks : List Ty) : wt (.node a ks) = wtA a + wtK ks := by
  unfold wt
  rw [Tr.sum_node, wt_sum]
  omega
theorem sum_le {β : Type} (f g : β → Nat) : ∀ (xs : List β), (∀ x ∈ xs, f x ≤ g x) → (xs.map f).sum ≤ (xs.map g).sum
  | [], _ => by simp
  | x :: r, h => by
    have h1 := h x (by simp)
    have h2 := sum_le f g r (fun y hy => h y (by simp [hy]))
    simp only [List.map_cons, List.sum_cons]
    omega
theorem size_wt (t : Ty) : t.size ≤ wt t + 1 := by
  have : t.size ≤ t.sum (fun a => wtA a + 1) := by
    refine Tr.ind (m := fun t => t.size ≤ t.sum (fun a => wtA a + 1)) (fun a ks ih => ?_) t
    rw [size_node, Tr.sum_node]
    have h := sum_le Tr.size (Tr.sum fun a => wtA a + 1) ks ih
    omega
  unfold wt
  omega

/-- where the answer is not negative, what is left over is the rest -/
def SzT (n : Nat) (left : Int) (w : World) (e : Ending) (w' : World) : Prop := ∃ r : Int, e = .returned (.int .i64 r) ∧ r ≤ left ∧ -1 ≤ r ∧ (0 ≤ r → r + n = left) ∧ Below w.heap.size w w'

end Go.Proofs.YtckoookgjhngkaaDoor
