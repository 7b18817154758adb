/-
  Merged by program: TeFieldsNon, TeLeft, TeDeep, TeSz.
-/
import Derived.Test.YtkchjinfjggoeaaGreatDoorF7
import Derived.Test.YtkchjinfjggoeaaGreatDoorF3
import Derived.Test.YtkchjinfjggoeaaGreatDoorF4
import Derived.Test.YtkchjinfjggoeaaGreatDoorF2
import Derived.Test.YtkchjinfjggoeaaGreatDoorF5

/-
  The model's l7Fields, of a node of the class 'non'. Written by mktefields.py.
-/
namespace Go.Proofs.YtkchjinfjggoeaaGreatDoor
open Go.RowKit

set_option maxRecDepth 100000 in
set_option maxHeartbeats 3200000 in
theorem fields_non {w W1 : World} {p q tk : Int} {s : ByteArray} {TL TA L A : Option Addr} {tl tc ta td l c m d H : Nat} {ar : Int} {nm v lb N : Bool} (hc : FieldCalls W1 p q tk s TL TA L A tl tc ta td l c m d H ar nm v lb)
    (hW1 : w.alloc (.cells #[.int .i64 p, .string s, .int .i64 q, .int .i64 tk, .slice TL tl tc, .slice TA ta td, .slice L l c, .slice A m d] 30) = W1) (hb1 : Below w.heap.size w W1) (hV : N = (nameOk p ar nm (s.toList == []) && (typeOk p v tk tl ta && (labOk p lb l && numOk p q)))) (hnm : nmB p = false) (h4 : p ≠ 4) (h7 : p ≠ 7) (h13 : p ≠ 13) (h5 : p ≠ 5) (h2 : p ≠ 2) (h3 : p ≠ 3) (hH : w.heap.size = H) :
    Calls Tryz.prog 74 #[.agg #[.int .i64 p, .string s, .int .i64 q, .int .i64 tk, .slice TL tl tc, .slice TA ta td, .slice L l c, .slice A m d]] w (Truth N w) := by
  subst hH
  rw [nameOk_un (hnm) (h4)] at hV
  rw [typeOk_no (by unfold tyB; simp [h7, h13])] at hV
  rw [labOk_no (h5)] at hV
  have hM : mostN p = 0 := by unfold mostN; rw [if_neg h2, if_neg h3]
  unfold numOk at hV
  rw [hM] at hV
  have HV := Lib.hid hV
  have HR : Hid (∀ (b : Bool) W, b = N → Below W1.heap.size W1 W → Truth N w (.returned (.bool b)) W) := Lib.hid (fun b W hb hB => ⟨by rw [hb], hb1.trans (hB.mono hb1.size)⟩)
  have HB1 := Lib.hid hb1
  have HC := Lib.hid hc
  have HW1 := Lib.hid hW1
  have bx := hc.box W1 (Below.refl _ _)
  have x0 := bx.c0
  have x1 := bx.c1
  have HNM : Hid (∀ W, Calls Tryz.prog 115 #[.int .i64 p] W (fun e w' => e = .returned (.bool false) ∧ w' = W)) := Lib.hid (fun W => by have h := hc.named W; rw [hnm] at h; exact h)
  have g5 : ¬ p = 5 := h5
  have n5 : (p != 5) = true := by simp [h5]
  have f4 : (p == 4) = false := by simp [h4]
  have f7 : (p == 7) = false := by simp [h7]
  have f13 : (p == 13) = false := by simp [h13]
  have f5 : (p == 5) = false := by simp [h5]
  have f2 : (p == 2) = false := by simp [h2]
  have f3 : (p == 3) = false := by simp [h3]
  clear hc hW1 hb1 hV hM bx hnm h4 h7 h13 h5 h2 h3
  cases nm with
  | true =>
    go_enter Tryz.func74, Tryz.ntmps74
    go_wp2_with fail
    rw [HW1.out]
    go_wp2_with fail
    go_quiet (first | (go_at_call 115; exact Calls.quiet_of_same (HNM.out _)) | (go_at_call 116; exact Calls.quiet_of_same (HC.out.name _)))
    have HF := Lib.hid (HR.out false (W1.drewN nq) (by rw [HV.out]; rfl) (below_drewN (Below.refl _ _) nq))
    go_wp2_with fail
    go_ret
    exact HF.out
  | false =>
    cases nz : (s.toList == []) with
    | false =>
      rw [nz] at HV
      go_enter Tryz.func74, Tryz.ntmps74
      go_wp2_with fail
      rw [HW1.out]
      go_wp2_with fail
      go_quiet (first | (go_at_call 115; exact Calls.quiet_of_same (HNM.out _)) | (go_at_call 116; exact Calls.quiet_of_same (HC.out.name _)))
      have HF := Lib.hid (HR.out false (W1.drewN nq) (by rw [HV.out]; rfl) (below_drewN (Below.refl _ _) nq))
      go_wp2_with fail
      go_ret
      exact HF.out
    | true =>
      rw [nz] at HV
      go_enter Tryz.func74, Tryz.ntmps74
      go_wp2_with fail
      rw [HW1.out]
      go_wp2_with fail
      go_quiet (first | (go_at_call 115; exact Calls.quiet_of_same (HNM.out _)) | (go_at_call 116; exact Calls.quiet_of_same (HC.out.name _)))
      have bx := HC.out.box (W1.drewN nq) (below_drewN (Below.refl _ _) nq)
      have z0 := bx.c0
      have z3 := bx.c3
      have z4 := bx.c4
      have z5 := bx.c5
      have HT := Lib.hid (HC.out.type (W1.drewN nq) (below_drewN (Below.refl _ _) nq))
      have HBW : Hid (Below W1.heap.size W1 (W1.drewN nq)) := Lib.hid (below_drewN (Below.refl _ _) nq)
      clear bx
      go_wp2_with fail
      refine HT.out.mono ?_
      rintro e w4 ⟨rfl, hb4⟩
      have HB4 := Lib.hid (HBW.out.trans (hb4.mono HBW.out.size))
      have by4 := HC.out.box w4 HB4.out
      have y0 := by4.c0
      have y2 := by4.c2
      have y3 := by4.c3
      have y4 := by4.c4
      have y5 := by4.c5
      have y6 := by4.c6
      clear hb4 by4 z0 z3 z4 z5 HT
      cases v with
      | true =>
        have HF := Lib.hid (HR.out false w4 (by rw [HV.out]; rfl) HB4.out)
        go_wp2_with fail
        go_ret
        exact HF.out
      | false =>
        by_cases t0 : tk = 0
        · subst t0
          by_cases t1 : tl = 0
          · subst t1
            by_cases t2 : ta = 0
            · subst t2
              by_cases l0 : l = 0
              · subst l0
                have HIN := Lib.hid (HC.out.inside 0 w4)
                have HE : Hid (∀ b, b = (decide (0 ≤ q) && decide (q ≤ 0)) → Truth N w (.returned (.bool b)) w4) := Lib.hid (fun b hb => HR.out b w4 (by rw [hb, HV.out]; simp) HB4.out)
                generalize (decide (0 ≤ q) && decide (q ≤ 0)) = bb at HIN HE
                go_wp2_with fail
                refine HIN.out.mono ?_
                rintro e w6 ⟨rfl, hw6⟩
                have HF := Lib.hid (HE.out _ rfl)
                rw [← hw6] at HF
                clear hw6
                go_wp2_with fail
                go_ret
                exact HF.out
              · have u6 : (0 : Int) < (l : Int) := by omega
                have HF := Lib.hid (HR.out false w4 (by rw [HV.out]; simp [l0]) HB4.out)
                go_wp2_with fail
                go_ret
                exact HF.out
            · have u2 : (0 : Int) < (ta : Int) := by omega
              have HF := Lib.hid (HR.out false w4 (by rw [HV.out]; simp [t2]) HB4.out)
              go_wp2_with fail
              go_ret
              exact HF.out
          · have u1 : (0 : Int) < (tl : Int) := by omega
            have HF := Lib.hid (HR.out false w4 (by rw [HV.out]; simp [t1]) HB4.out)
            go_wp2_with fail
            go_ret
            exact HF.out
        · have u0 : (tk == 0) = false := by simp [t0]
          have HF := Lib.hid (HR.out false w4 (by rw [HV.out]; simp [t0]) HB4.out)
          go_wp2_with fail
          go_ret
          exact HF.out

end Go.Proofs.YtkchjinfjggoeaaGreatDoor

/-
  The model's count down by nodes of a value (l7Left).
-/
namespace Go.Proofs.YtkchjinfjggoeaaGreatDoor
open Go.RowKit

set_option maxHeartbeats 800000 in
theorem l7Left_any : ∀ (t : Te) (w : World) (cs : List Value) (left : Int), RTe w t cs → 0 ≤ left → left ≤ 1048577 → Calls Tryz.prog 28 #[.agg cs.toArray, .int .i64 left] w (Left t.size left w) := by
  refine Tr.ind ?_
  intro a ks ih w cs left h hl0 hl1
  obtain ⟨TL, tc, TA, td, L, c, A, d, rfl, hT, k1, k2, k6, _, hp⟩ := h.out
  rw [size_nodeE]
  obtain ⟨W1, hW1⟩ : ∃ W1, w.alloc (.cells #[.int .i64 a.kind, .string a.name, .int .i64 a.num, .int .i64 a.type.top.kind, .slice TL a.type.top.labels.length tc, .slice TA a.type.kids.length td, .slice L a.labels.length c, .slice A ks.length d] 30) = W1 := ⟨_, rfl⟩
  have hb0 : Below w.heap.size w W1 := by rw [← hW1]; exact (Below.refl _ _).alloc (Nat.le_refl _) _
  obtain ⟨H, hH⟩ : ∃ H, w.heap.size = H := ⟨_, rfl⟩
  have b0 : Box8 W1 H 30 (.int .i64 a.kind) (.string a.name) (.int .i64 a.num) (.int .i64 a.type.top.kind) (.slice TL a.type.top.labels.length tc) (.slice TA a.type.kids.length td) (.slice L a.labels.length c) (.slice A ks.length d) := by rw [← hW1, ← hH]; exact Box8.new w _ _ _ _ _ _ _ _ _
  have HP := Lib.hid hp
  have HI := Lib.hid ih
  have HB0 := Lib.hid hb0
  have B0 := Lib.hid b0
  have HW1 := Lib.hid hW1
  clear hp ih hb0 b0 hW1 k1 k2 h hT
  go_enter Tryz.func28, Tryz.ntmps28
  go_wp2_with fail
  rw [HW1.out]
  go_loopw [1, 5] (fun l i wr => ∃ (k : Nat) (r : Int), k ≤ ks.length ∧ i = .int .i64 k ∧ l = .int .i64 r ∧ -1 ≤ r ∧ r < left ∧ (0 ≤ r → r + 1 + ((ks.take k).map Tr.size).sum = left) ∧ (r < 0 → left < 1 + (((ks.take k).map Tr.size).sum : Nat)) ∧ Below W1.heap.size W1 wr) (fun _ i _ => ks.length - (intOf i).toNat)
  case atStart => exact ⟨0, _, Nat.zero_le _, rfl, rfl, by omega, by omega, by intro _; simp, by intro _; simp; omega, Below.refl _ _⟩
  case round =>
    obtain ⟨k, r, hk, rfl, rfl, hr1, hr2, hr3, hr4, hb⟩ := hrel
    have hbw := HB0.out.trans (hb.mono HB0.out.size)
    have bk := B0.out.under hb B0.out.lt
    have hbx := bk.c7
    by_cases hlt : k < ks.length
    · by_cases hr0 : 0 ≤ r
      · obtain ⟨ad, p, c0, c1, c2, c3, c4, c5, c6, c7, rfl, hpe, hr, q0, q1, q2, q3, q4, q5, q6, q7⟩ := tid_at HP.out hbw hlt
        have hc := HI.out ks[k] (List.getElem_mem hlt) wr [c0, c1, c2, c3, c4, c5, c6, c7] r hr hr0 (by omega)
        have hst := sum_take_succ Tr.size ks k hlt
        have HC := Lib.hid hc
        have HST := Lib.hid hst
        have HR3 := Lib.hid (hr3 hr0)
        clear hc hr hst bk hr3 hr4
        go_wp2_with fail
        refine HC.out.mono ?_
        rintro e w2 ⟨r2, rfl, hq1, hq2, hq3, hq4, hb2⟩
        have hb3 := hb.trans (hb2.mono hb.size)
        have h3 := HR3.out
        have h4 := HST.out
        have HQ3 : Hid (0 ≤ r2 → r2 + 1 + ((ks.take (k + 1)).map Tr.size).sum = left) := fun h => by have := hq3 h; omega
        have HQ4 : Hid (r2 < 0 → left < 1 + (((ks.take (k + 1)).map Tr.size).sum : Nat)) := fun h => by have := hq4 h; omega
        clear hq3 hq4 h3 h4
        go_wp2_with fail
        go_roundw
        case rel => exact ⟨k + 1, r2, hlt, by go_num, rfl, hq1, by omega, HQ3.out, HQ4.out, hb3⟩
        case measure => simp [intOf]; omega
      · have hle := sum_take_le Tr.size ks k
        have HR : Hid (Left (1 + (ks.map Tr.size).sum) left w (.returned (.int .i64 r)) wr) := ⟨r, rfl, hr1, by omega, fun h => absurd h hr0, fun h => by have := hr4 h; omega, hbw⟩
        clear bk hr3 hr4 hle
        go_wp2_with fail
        go_ret
        exact HR.out
    · have he : k = ks.length := by omega
      have HR : Hid (Left (1 + (ks.map Tr.size).sum) left w (.returned (.int .i64 r)) wr) := by
        rw [he, List.take_length] at hr3 hr4
        exact ⟨r, rfl, hr1, by omega, fun h => by have := hr3 h; omega, fun h => by have := hr4 h; omega, hbw⟩
      clear he bk hr3 hr4
      go_wp2_with fail
      go_ret
      exact HR.out
end Go.Proofs.YtkchjinfjggoeaaGreatDoor

/-
  The model's DepthOfTerm.
-/
namespace Go.Proofs.YtkchjinfjggoeaaGreatDoor
open Go.RowKit

theorem size_nodeG {α : Type} (a : α) (ks : List (Tr α)) : (Tr.node a ks).size = 1 + (ks.map Tr.size).sum := Tr.sum_node _ a ks
theorem kid_size_ltG {α : Type} {a : α} {ks : List (Tr α)} {t : Tr α} (h : t ∈ ks) : t.size < (Tr.node a ks).size := by
  rw [size_nodeG]
  have := kid_sum_le Tr.size h
  omega
theorem deep_le_sizeG {α : Type} : ∀ t : Tr α, t.deep ≤ t.size := by
  refine Tr.ind ?_
  intro a ks ih
  rw [deep_node, size_nodeG]
  have := foldl_max_le (m := (ks.map Tr.size).sum) (ks.map Tr.deep) 0 (Nat.zero_le _) (by
    intro x hx
    obtain ⟨t, ht, rfl⟩ := List.mem_map.1 hx
    exact Nat.le_trans (ih t ht) (kid_sum_le Tr.size ht))
  omega

set_option maxHeartbeats 800000 in
theorem specDepthE_any : ∀ (t : Te) (w : World) (cs : List Value), RTe w t cs → t.size ≤ 1048577 → Calls Tryz.prog 29 #[.agg cs.toArray] w (Counts t.deep w) := by
  refine Tr.ind ?_
  intro a ks ih w cs h hs
  obtain ⟨TL, tc, TA, td, L, c, A, d, rfl, hT, k1, k2, k6, _, hp⟩ := h.out
  have hle := deep_le_sizeG (.node a ks)
  have hkd : ∀ k, k ≤ ks.length → deepTo ks k < 1048577 := by
    intro k hk
    have := foldl_max_le (m := (ks.map Tr.size).sum) ((ks.take k).map Tr.deep) 0 (Nat.zero_le _) (by
      intro x hx
      obtain ⟨t, ht, rfl⟩ := List.mem_map.1 hx
      exact Nat.le_trans (deep_le_sizeG t) (kid_sum_le Tr.size (List.mem_of_mem_take ht)))
    rw [size_nodeE] at hs
    unfold deepTo
    omega
  have hall := deepTo_all a ks
  obtain ⟨W1, hW1⟩ : ∃ W1, w.alloc (.cells #[.int .i64 a.kind, .string a.name, .int .i64 a.num, .int .i64 a.type.top.kind, .slice TL a.type.top.labels.length tc, .slice TA a.type.kids.length td, .slice L a.labels.length c, .slice A ks.length d] 30) = W1 := ⟨_, rfl⟩
  have hb0 : Below w.heap.size w W1 := by rw [← hW1]; exact (Below.refl _ _).alloc (Nat.le_refl _) _
  have hbox : W1.cell? ⟨w.heap.size, 7, none⟩ = some (.slice A ks.length d) := by rw [← hW1]; exact cell_of_row _ _ 7 _ _ _ (heap_alloc_new w _)
  have HP := Lib.hid hp
  have HI := Lib.hid ih
  have HB0 := Lib.hid hb0
  have HBOX := Lib.hid hbox
  have HW1 := Lib.hid hW1
  have HS := Lib.hid hs
  have HKD := Lib.hid hkd
  have HALL := Lib.hid hall
  clear hp ih hb0 hbox hW1 k1 k2 h hkd hall hle hs hT
  go_enter Tryz.func29, Tryz.ntmps29
  go_wp2_with fail
  rw [HW1.out]
  go_loopw [3, 4] (fun n i wr => ∃ k : Nat, k ≤ ks.length ∧ i = .int .i64 k ∧ n = .int .i64 ((deepTo ks k : Nat) : Int) ∧ Below W1.heap.size W1 wr) (fun _ i _ => ks.length - (intOf i).toNat)
  case atStart => exact ⟨0, Nat.zero_le _, rfl, rfl, Below.refl _ _⟩
  case round =>
    obtain ⟨k, hk, rfl, rfl, hb⟩ := hrel
    have hbw := HB0.out.trans (hb.mono HB0.out.size)
    have hbx : wr.cell? ⟨w.heap.size, 7, none⟩ = some (.slice A ks.length d) := (hb.cell (World.block_lt_of_cell? W1 _ HBOX.out)).trans HBOX.out
    by_cases hlt : k < ks.length
    · obtain ⟨ad, p, c0, c1, c2, c3, c4, c5, c6, c7, rfl, hpe, hr, q0, q1, q2, q3, q4, q5, q6, q7⟩ := tid_at HP.out hbw hlt
      have hst := deepTo_succ ks k hlt
      have hd1 := HKD.out k hk
      have hd2 := HKD.out (k + 1) hlt
      have hc := HI.out ks[k] (List.getElem_mem hlt) wr [c0, c1, c2, c3, c4, c5, c6, c7] hr (by have := kid_size_ltG (a := a) (List.getElem_mem hlt); have := HS.out; omega)
      obtain ⟨n, hn⟩ : ∃ n, deepTo ks k = n := ⟨_, rfl⟩
      obtain ⟨m, hm⟩ : ∃ m, ks[k].deep = m := ⟨_, rfl⟩
      rw [hst] at hd2
      rw [hn, hm] at hst hd2
      rw [hn] at hd1
      rw [hm] at hc
      rw [hn]
      have hmx := fun W => l1Max_any (w := W) (a := n) (b := m)
      have HC := Lib.hid hc
      have HST := Lib.hid hst
      have HMX := Lib.hid hmx
      have hmm : m < 1048577 := by omega
      clear hc hr hst hn hm hd2 hmx
      go_wp2_with fail
      refine HC.out.mono ?_
      rintro e w2 ⟨rfl, hb2⟩
      have hb3 := hb.trans (hb2.mono hb.size)
      go_wp2_with fail
      refine (HMX.out w2).mono ?_
      rintro e w3 ⟨rfl, hb4⟩
      have hb5 := hb3.trans (hb4.mono hb3.size)
      go_wp2_with fail
      go_roundw
      case rel => exact ⟨k + 1, hlt, by go_num, by rw [HST.out], hb5⟩
      case measure => simp [intOf]; omega
    · have he : k = ks.length := by omega
      have hd1 := HKD.out k hk
      have HR : Hid (Counts (((Tr.node a ks).deep : Nat) : Int) w (.returned (.int .i64 (((deepTo ks k : Nat) : Int) + 1))) wr) := by
        rw [HALL.out, he]
        exact ⟨by rw [Int.natCast_add]; rfl, hbw⟩
      obtain ⟨n, hn⟩ : ∃ n, deepTo ks k = n := ⟨_, rfl⟩
      rw [hn] at HR hd1 ⊢
      clear he hn
      go_wp2_with fail
      go_ret
      exact HR.out

end Go.Proofs.YtkchjinfjggoeaaGreatDoor

/-
  How great a value is, as the laws reckon it: 'szTerm', 'szTermS'.
-/
namespace Go.Proofs.YtkchjinfjggoeaaGreatDoor
open Go.RowKit

/-- the laws' own types, which mirror the program's -/
def wteA (a : TeA) : Nat := a.name.size + wt a.type + (a.labels.length + total a.labels)
/-- what a value takes of the laws' bound -/
def wte (t : Te) : Nat := t.sum (fun a => wteA a + 1) - 1
def wteK (ks : List Te) : Nat := ks.length + (ks.map wte).sum
theorem wte_pos (t : Te) : 1 ≤ t.sum (fun a => wteA a + 1) := by
  cases t with
  | node a ks => rw [Tr.sum_node]; omega
theorem wte_sum (ks : List Te) : (ks.map (Tr.sum fun a => wteA a + 1)).sum = wteK ks := by
  unfold wteK
  induction ks with
  | nil => rfl
  | cons t r ih =>
    have := wte_pos t
    simp only [List.map_cons, List.sum_cons, List.length_cons, ih]
    unfold wte
    omega
theorem wte_node (a : TeA) (ks : List Te) : wte (.node a ks) = wteA a + wteK ks := by
  unfold wte
  rw [Tr.sum_node, wte_sum]
  omega
theorem size_wte (t : Te) : t.size ≤ wte t + 1 := by
  have : t.size ≤ t.sum (fun a => wteA a + 1) := by
    refine Tr.ind (m := fun t => t.size ≤ t.sum (fun a => wteA a + 1)) (fun a ks ih => ?_) t
    rw [size_nodeE, Tr.sum_node]
    have h := sum_le Tr.size (Tr.sum fun a => wteA a + 1) ks ih
    omega
  unfold wte
  omega

def SzTeK (t : Te) : Prop := ∀ (w : World) (cs : List Value) (left : Int), RTe w t cs → 0 ≤ left → left ≤ 1048576 → Calls Tryz.prog 15 #[.agg cs.toArray, .int .i64 left] w (SzT (wte t) left w)

set_option maxHeartbeats 800000 in
theorem szTermS_of (ks : List Te) (ih : ∀ t ∈ ks, SzTeK t) (w : World) (A : Option Addr) (d : Nat) (left : Int) (hp : RTes w A ks) (hl : ks.length ≤ 9223372036854775807) (h0 : 0 ≤ left) (h1 : left ≤ 1048576) :
    Calls Tryz.prog 38 #[.slice A ks.length d, .int .i64 left] w (SzT (wteK ks) left w) := by
  have HP := Lib.hid hp
  have HI := Lib.hid ih
  clear hp ih
  by_cases hneg : left - ks.length < 0
  · go_enter Tryz.func38, Tryz.ntmps38
    go_wp2_with fail
    go_ret
    exact ⟨-1, rfl, by omega, by omega, by omega, Below.refl _ _⟩
  · go_enter Tryz.func38, Tryz.ntmps38
    go_wp2_with fail
    go_loopw [1, 5] (fun l i wr => ∃ k : Nat, k ≤ ks.length ∧ i = .int .i64 k ∧ ∃ r : Int, l = .int .i64 r ∧ 0 ≤ r ∧ r + ks.length + ((ks.take k).map wte).sum = left ∧ Below w.heap.size w wr) (fun _ i _ => ks.length - (intOf i).toNat)
    case atStart => exact ⟨0, Nat.zero_le _, rfl, _, rfl, by omega, by simp, Below.refl _ _⟩
    case round =>
      obtain ⟨k, hk, rfl, r, rfl, hr0, hr, hb⟩ := hrel
      have hr1 : r ≤ 1048576 := by omega
      have HR := Lib.hid hr
      clear hr
      by_cases hlt : k < ks.length
      · obtain ⟨ad, p, c0, c1, c2, c3, c4, c5, c6, c7, rfl, hpe, hrt, q0, q1, q2, q3, q4, q5, q6, q7⟩ := tid_at HP.out hb hlt
        have hst := sum_take_succ wte ks k hlt
        have hc := HI.out ks[k] (List.getElem_mem hlt) wr [c0, c1, c2, c3, c4, c5, c6, c7] r hrt hr0 hr1
        obtain ⟨m, hm⟩ : ∃ m, wte ks[k] = m := ⟨_, rfl⟩
        rw [hm] at hst hc
        have HC := Lib.hid hc
        have HST := Lib.hid hst
        clear hc hrt hst hm
        go_wp2_with fail
        refine HC.out.mono ?_
        rintro e w2 ⟨r', rfl, hr2, hr3, hr4, hb2⟩
        have HB3 := Lib.hid (hb.trans (hb2.mono hb.size))
        have HR4 := Lib.hid hr4
        clear hr4 hb2
        by_cases hz : r' < 0
        · go_wp2_with fail
          go_ret
          exact ⟨-1, rfl, by omega, by omega, by omega, HB3.out⟩
        · go_wp2_with fail
          go_roundw
          case rel => exact ⟨k + 1, hlt, by go_num, r', rfl, by omega, by have h1 := HR4.out (by omega); have h2 := HR.out; have h3 := HST.out; omega, HB3.out⟩
          case measure => simp [intOf]; omega
      · have he : k = ks.length := by omega
        have HS : Hid (r + wteK ks = left) := by
          have h := HR.out
          rw [he, List.take_length] at h
          show _ = _
          unfold wteK
          omega
        clear he
        go_wp2_with fail
        go_ret
        exact ⟨r, rfl, by have := HR.out; omega, by omega, fun _ => HS.out, hb⟩

set_option maxHeartbeats 1600000 in
set_option maxRecDepth 100000 in
theorem szTerm_any : ∀ t : Te, SzTeK t := by
  refine Tr.ind ?_
  intro a ks ih w cs left h h0 h1
  obtain ⟨TL, tc, TA, td, L, c, A, d, rfl, hT, k1, ⟨_, _, kn, _, _, k4, k5⟩, k6, _, hp⟩ := h.out
  have HN := Lib.hid (wte_node a ks)
  obtain ⟨W1, hW1⟩ : ∃ W1, w.alloc (.cells #[.int .i64 a.kind, .string a.name, .int .i64 a.num, .int .i64 a.type.top.kind, .slice TL a.type.top.labels.length tc, .slice TA a.type.kids.length td, .slice L a.labels.length c, .slice A ks.length d] 43) = W1 := ⟨_, rfl⟩
  obtain ⟨H, hH⟩ : ∃ H, w.heap.size = H := ⟨_, rfl⟩
  have hb0 : Below w.heap.size w W1 := by rw [← hW1]; exact (Below.refl _ _).alloc (Nat.le_refl _) _
  have b0 : Box8 W1 H 43 (.int .i64 a.kind) (.string a.name) (.int .i64 a.num) (.int .i64 a.type.top.kind) (.slice TL a.type.top.labels.length tc) (.slice TA a.type.kids.length td) (.slice L a.labels.length c) (.slice A ks.length d) := by rw [← hW1, ← hH]; exact Box8.new w _ _ _ _ _ _ _ _ _
  have HW1 := Lib.hid hW1
  have B0 := Lib.hid b0
  have HT := Lib.hid (fun r (h0 : 0 ≤ r) (h1 : r ≤ 1048576) => szType_any a.type W1 _ r (hT.keep hb0) h0 h1)
  have HP := Lib.hid hp
  have HL := Lib.hid k1
  have HB0 := Lib.hid hb0
  have HI := Lib.hid ih
  have HX := Lib.hid k5
  have x1 := b0.c1
  have x3 := b0.c3
  have x4 := b0.c4
  have x5 := b0.c5
  clear hp ih hb0 hW1 k1 k5 h hT b0
  generalize a.type.top.kind = g0 at HT B0 HW1 x3 ⊢
  generalize a.type.top.labels.length = g1 at HT B0 HW1 x4 ⊢
  generalize a.type.kids.length = g2 at HT B0 HW1 x5 ⊢
  by_cases hn0 : left - a.name.size < 0
  · have HR : Hid (∀ W, Below w.heap.size w W → SzT (wte (.node a ks)) left w (.returned (.int .i64 (-1))) W) := Lib.hid (fun W hB => ⟨-1, rfl, by omega, by omega, by omega, hB⟩)
    go_enter Tryz.func15, Tryz.ntmps15
    go_wp2_with fail
    rw [HW1.out]
    go_wp2_with fail
    go_ret
    exact HR.out _ HB0.out
  · go_enter Tryz.func15, Tryz.ntmps15
    go_wp2_with fail
    rw [HW1.out]
    go_wp2_with fail
    refine (HT.out (left - a.name.size) (by omega) (by omega)).mono ?_
    rintro e w1 ⟨r, rfl, r1, r2, r3, hb1⟩
    have HR3 := Lib.hid r3
    have HB1 := Lib.hid (HB0.out.trans (hb1.mono HB0.out.size))
    have B1 := Lib.hid (B0.out.under hb1 B0.out.lt)
    have y6 := B1.out.c6
    clear r3 hb1 x1 x3 x4 x5
    by_cases hneg : r < 0
    · go_wp2_with fail
      go_ret
      exact ⟨-1, rfl, by omega, by omega, by omega, HB1.out⟩
    · go_wp2_with fail
      refine (szStringS_any L c a.labels r w1 (HL.out.below HB1.out) k4 HX.out (by omega) (by omega)).mono ?_
      rintro e w' ⟨s, rfl, s1, s2, s3, rfl⟩
      have HS3 := Lib.hid s3
      have y7 := B1.out.c7
      clear s3
      by_cases hneg2 : s < 0
      · go_wp2_with fail
        go_ret
        exact ⟨-1, rfl, by omega, by omega, by omega, HB1.out⟩
      · go_wp2_with fail
        refine (szTermS_of ks HI.out w1 A d s (HP.out.keep HB1.out) k6 (by omega) (by omega)).mono ?_
        rintro e w2 ⟨r', rfl, t1, t2, t3, hb2⟩
        have HT3 := Lib.hid t3
        have HB2 := Lib.hid (HB1.out.trans (hb2.mono HB1.out.size))
        clear t3 hb2
        by_cases hz : r' < 0
        · go_wp2_with fail
          go_ret
          exact ⟨-1, rfl, by omega, by omega, by omega, HB2.out⟩
        · go_wp2_with fail
          go_ret
          refine ⟨r', rfl, by omega, by omega, fun _ => ?_, HB2.out⟩
          have e1 := HR3.out (by omega)
          have e2 := HS3.out (by omega)
          have e3 := HT3.out (by omega)
          rw [HN.out]
          unfold wteA
          omega
end Go.Proofs.YtkchjinfjggoeaaGreatDoor
