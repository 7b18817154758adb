/-
  Merged by program: TyValid, TyRow.
-/
import Derived.Test.YtlcpekpgkllbkaaD24

/-
  The model's IsValidType, IsData.
-/
namespace Go.Proofs.Ytlcpekpgkllbkaa
open Go.RowKit

theorem RTy.three {w : World} {t : Ty} {cs : List Value} (h : RTy w t cs) : ∃ c0 c1 c2, cs = [c0, c1, c2] := by
  have hl : cs.length = 3 := Reads.len h
  match cs, hl with
  | [a, b, c], _ => exact ⟨a, b, c, rfl⟩
/-- an argument that is boxed: its box, and the world with the box in it -/
theorem boxed {w : World} {t : Ty} {cs : List Value} (h : RTy w t cs) : ∃ c0 c1 c2 W1 H, cs = [c0, c1, c2] ∧ w.heap.size = H ∧ w.alloc (.cells #[c0, c1, c2] 36) = W1 ∧ Box3 W1 H 36 c0 c1 c2 ∧ Below w.heap.size w W1 := by
  obtain ⟨c0, c1, c2, rfl⟩ := h.three
  exact ⟨c0, c1, c2, _, _, rfl, rfl, rfl, Box3.new w _ _ _ _, (Below.refl _ _).alloc (Nat.le_refl _) _⟩

def validB (t : Ty) : Bool := decide (t.size ≤ 24) && (decide (t.deep ≤ 7) && t.form)

set_option maxHeartbeats 800000 in
theorem specValid_any (t : Ty) (w : World) (cs : List Value) (h : RTy w t cs) (hw : wt t ≤ 1048576) : Calls Try.prog 76 #[.agg cs.toArray] w (Truth (validB t) w) := by
  have hz := size_wt t
  obtain ⟨c0, c1, c2, W1, H, rfl, hH, hW1, hbox, hb0⟩ := boxed h
  have HD := Lib.hid (fun W (hB : Below w.heap.size w W) => specDepth_any t W _ (h.keep hB) (by omega))
  have HF := Lib.hid (fun W (hB : Below w.heap.size w W) => l3Form_any t W _ (h.keep hB) hw)
  have HL := Lib.hid (l3Left_any t W1 _ 24 (h.keep hb0) (by omega) (by omega))
  have hdz : t.deep ≤ 1048577 := Nat.le_trans (deep_le_size t) (by omega)
  have HDZ := Lib.hid hdz
  have HW1 := Lib.hid hW1
  have B0 := Lib.hid hbox
  have HB0 := Lib.hid hb0
  have x0 := hbox.c0
  have x1 := hbox.c1
  have x2 := hbox.c2
  clear h hw hz hdz hW1 hbox hb0
  go_enter Try.func76, Try.ntmps76
  go_wp2_with fail
  rw [HW1.out]
  go_wp2_with fail
  refine HL.out.mono ?_
  rintro e w1 ⟨r, rfl, r1, r2, r3, r4, hb1⟩
  have HB1 := Lib.hid (HB0.out.trans (hb1.mono HB0.out.size))
  have B1 := Lib.hid (B0.out.under hb1 B0.out.lt)
  clear x0 x1 x2
  by_cases hr : 0 ≤ r
  · have hsz : t.size ≤ 24 := by have := r3 hr; omega
    have HV : Hid (validB t = (decide (t.deep ≤ 7) && t.form)) := Lib.hid (by unfold validB; simp [hsz])
    have HC := Lib.hid (HD.out w1 HB1.out)
    have x0 := B1.out.c0
    have x1 := B1.out.c1
    have x2 := B1.out.c2
    clear hsz hb1 r3 r4
    have hdz := HDZ.out
    obtain ⟨dp, hdp⟩ : ∃ dp, t.deep = dp := ⟨_, rfl⟩
    rw [hdp] at HV HC hdz
    clear hdp
    go_wp2_with fail
    refine HC.out.mono ?_
    rintro e w2 ⟨rfl, hb2⟩
    have HB2 := Lib.hid (HB1.out.trans (hb2.mono HB1.out.size))
    have B2 := Lib.hid (B1.out.under hb2 B1.out.lt)
    clear x0 x1 x2
    by_cases hd : dp ≤ 7
    · have HV2 : Hid (validB t = t.form) := Lib.hid (by rw [HV.out]; simp [hd])
      have HG := Lib.hid (HF.out w2 HB2.out)
      have x0 := B2.out.c0
      have x1 := B2.out.c1
      have x2 := B2.out.c2
      clear hb2
      go_wp2_with fail
      refine HG.out.mono ?_
      rintro e w3 ⟨rfl, hb3⟩
      have HR := Lib.hid (truth_iff HV2.out (HB2.out.trans (hb3.mono HB2.out.size)))
      clear hb3
      go_wp2_with fail
      go_ret
      exact HR.out
    · have HR := Lib.hid (truth_iff (a := validB t) (b := false) (by rw [HV.out]; simp [hd]) HB2.out)
      clear hb2
      go_wp2_with fail
      go_ret
      exact HR.out
  · have HR := Lib.hid (truth_iff (a := validB t) (b := false) (by unfold validB; have := r4 (by omega); simp; omega) HB1.out)
    clear hb1 r3 r4
    go_wp2_with fail
    go_ret
    exact HR.out

def dataB (t : Ty) : Bool := validB t && !(Tr.has 5 t)
end Go.Proofs.Ytlcpekpgkllbkaa

/-
  The model's IsRow.
-/
namespace Go.Proofs.Ytlcpekpgkllbkaa
open Go.RowKit

def baseB (t : Ty) : Bool := decide (t.top.kind = 1) || decide (t.top.kind = 2)
def rowB (t : Ty) : Bool := validB t && (decide (t.top.kind = 3) && t.kids.all baseB)

theorem l3Base_any (t : Ty) (w : World) (cs : List Value) (h : RTy w t cs) : Calls Try.prog 77 #[.agg cs.toArray] w (Truth (baseB t) w) := by
  obtain ⟨a, ks⟩ := t
  obtain ⟨L, c, A, d, rfl, k1, k2, k3, k4, k5, k6, hp⟩ := h.out
  clear h hp k1 k5
  have hR : ∀ (b : Bool) (cs : Array Value), (decide (a.kind = 1) || decide (a.kind = 2)) = b → Truth (baseB (.node a ks)) w (.returned (.bool b)) (w.alloc (.cells cs 36)) := fun b _ hb => truth_iff hb ((Below.refl _ _).alloc (Nat.le_refl _) _)
  have HR := Lib.hid hR
  clear hR
  go_enter Try.func77, Try.ntmps77
  have HR1 := Lib.hid (fun cs => HR.out (a.kind == 1 || a.kind == 2) cs rfl)
  clear HR
  by_cases h1 : a.kind = 1
  · have h1b : (a.kind == 1) = true := by simp [h1]
    rw [h1b] at HR1
    clear h1b
    go_wp2_with fail
    go_ret
    exact HR1.out _
  · go_wp2_with fail
    go_ret
    exact HR1.out _

set_option maxHeartbeats 800000 in
theorem specRow_any (t : Ty) (w : World) (cs : List Value) (h : RTy w t cs) (hw : wt t ≤ 1048576) : Calls Try.prog 38 #[.agg cs.toArray] w (Truth (rowB t) w) := by
  obtain ⟨a, ks⟩ := t
  obtain ⟨L, c, A, d, rfl, k1, k2, k3, k4, k5, k6, hp⟩ := h.out
  obtain ⟨W1, hW1⟩ : ∃ W1, w.alloc (.cells #[.int .i64 a.kind, .slice L a.labels.length c, .slice A ks.length d] 36) = W1 := ⟨_, rfl⟩
  have hb0 : Below w.heap.size w W1 := by rw [← hW1]; exact (Below.refl _ _).alloc (Nat.le_refl _) _
  obtain ⟨H, hH⟩ : ∃ H, w.heap.size = H := ⟨_, rfl⟩
  have b0 : Box3 W1 H 36 (.int .i64 a.kind) (.slice L a.labels.length c) (.slice A ks.length d) := by rw [← hW1, ← hH]; exact Box3.new w _ _ _ _
  have HV := Lib.hid (specValid_any (.node a ks) W1 _ (h.keep hb0) hw)
  have HW1 := Lib.hid hW1
  have HP := Lib.hid hp
  have B0 := Lib.hid b0
  have HB0 := Lib.hid hb0
  have x0 := b0.c0
  have x1 := b0.c1
  have x2 := b0.c2
  clear h hw hW1 b0 hb0 hp k1 k5
  go_enter Try.func38, Try.ntmps38
  go_wp2_with fail
  rw [HW1.out]
  go_wp2_with fail
  refine HV.out.mono ?_
  rintro e w1 ⟨rfl, hb1⟩
  have HB1 := Lib.hid (HB0.out.trans (hb1.mono HB0.out.size))
  have b1 := B0.out.under hb1 B0.out.lt
  have B1 := Lib.hid b1
  clear hb1 x0 x1 x2
  have x0 := b1.c0
  clear b1
  cases hv : validB (.node a ks)
  · have HR := Lib.hid (truth_iff (a := rowB (.node a ks)) (b := false) (by unfold rowB; rw [hv]; rfl) HB1.out)
    clear hv
    go_wp2_with fail
    go_ret
    exact HR.out
  · by_cases h3 : a.kind = 3
    · have HE : Hid (rowB (.node a ks) = ks.all baseB) := Lib.hid (by unfold rowB; rw [hv]; simp [Tr.top, Tr.kids, h3])
      clear hv
      go_wp2_with fail
      go_loopw [3] (fun i wr => ∃ k : Nat, k ≤ ks.length ∧ i = .int .i64 k ∧ AllTo baseB ks k ∧ Below w1.heap.size w1 wr) (fun i _ => ks.length - (intOf i).toNat)
      case atStart => exact ⟨0, Nat.zero_le _, rfl, allTo_zero _ _, Below.refl _ _⟩
      case round =>
        obtain ⟨k, hk, rfl, hno, hb⟩ := hrel
        have hbw := HB1.out.trans (hb.mono HB1.out.size)
        have bk := B1.out.under hb B1.out.lt
        have hbx := bk.c2
        clear bk
        by_cases hlt : k < ks.length
        · obtain ⟨ad, p, c0, c1, c2, rfl, hpe, hr, q0, q1, q2⟩ := kid_at HP.out hbw hlt
          have HC := Lib.hid (l3Base_any ks[k] wr [c0, c1, c2] hr)
          have HN := Lib.hid hno
          have HBW := Lib.hid hbw
          clear hr hno
          go_wp2_with fail
          refine HC.out.mono ?_
          rintro e w2 ⟨rfl, hb2⟩
          have hb3 := hb.trans (hb2.mono hb.size)
          have HB4 := Lib.hid (HBW.out.trans (hb2.mono HBW.out.size))
          cases hf : baseB ks[k]
          · have HR := Lib.hid (truth_iff (a := rowB (.node a ks)) (b := false) (by rw [HE.out, all_not hlt hf]) HB4.out)
            clear hf
            go_wp2_with fail
            go_ret
            exact HR.out
          · have HN2 := Lib.hid (allTo_succ HN.out hlt hf)
            clear hf
            go_wp2_with fail
            go_roundw
            case rel => exact ⟨k + 1, hlt, by go_num, HN2.out, hb3⟩
            case measure => simp [intOf]; omega
        · have he : k = ks.length := by omega
          have HR := Lib.hid (truth_iff (a := rowB (.node a ks)) (b := true) (by rw [HE.out]; exact allTo_all (he ▸ hno)) hbw)
          clear he hno
          go_wp2_with fail
          go_ret
          exact HR.out
    · have HR := Lib.hid (truth_iff (a := rowB (.node a ks)) (b := false) (by unfold rowB; simp [Tr.top, h3]) HB1.out)
      clear hv
      go_wp2_with fail
      go_ret
      exact HR.out
end Go.Proofs.Ytlcpekpgkllbkaa
