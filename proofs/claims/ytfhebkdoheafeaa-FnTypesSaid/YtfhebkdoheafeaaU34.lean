/-
  Merged by program: Valid, TyRow, Scalar.
-/
import Derived.Test.YtfhebkdoheafeaaU32
import Derived.Test.YtfhebkdoheafeaaU33
import Derived.Test.YtfhebkdoheafeaaU13

/-
  The program's IsValidType, IsData.
-/
namespace Go.Proofs.Ytfhebkdoheafeaa
open Go.RowKit

theorem valid_iff (t : Ty) : (withinB t && wellB t true) = validB t := by
  unfold withinB wellB validB
  cases t.form <;> simp
theorem data_iff (t : Ty) : (withinB t && wellB t false) = dataB t := by
  unfold withinB wellB dataB validB
  cases t.form <;> cases Tr.has 5 t <;> simp

set_option maxRecDepth 100000 in
set_option maxHeartbeats 800000 in
theorem implValid_any (t : Ty) (w : World) (cs : List Value) (h : RTy w t cs) (hw : wt t ≤ 1048576) : Calls Try.prog 17 #[.agg cs.toArray] w (Truth (validB t) w) := by
  have hz := size_wt t
  obtain ⟨c0, c1, c2, W1, H, rfl, hH, hW1, hbox, hb0⟩ := boxed h
  have HC := Lib.hid (implWithin_any t W1 _ (h.keep hb0) (by omega))
  have HD := Lib.hid (fun W (hB : Below w.heap.size w W) => well_any t W _ true (h.keep hB) hw)
  have HE := Lib.hid (valid_iff t)
  have HW1 := Lib.hid hW1
  have HB1 := Lib.hid hb0
  have B1 := Lib.hid hbox
  have x0 := hbox.c0
  have x1 := hbox.c1
  have x2 := hbox.c2
  clear h hw hz hb0 hbox hW1
  go_enter Try.func17, Try.ntmps17
  go_wp2_with fail
  rw [HW1.out]
  go_wp2_with fail
  refine HC.out.mono ?_
  rintro e w2 ⟨rfl, hb2⟩
  have HB2 := Lib.hid (HB1.out.trans (hb2.mono HB1.out.size))
  have B2 := Lib.hid (B1.out.under hb2 B1.out.lt)
  clear x0 x1 x2 hb2 HC
  generalize withinB t = a at HE ⊢
  cases a with
  | false =>
    have HF : Hid (Truth (validB t) w (.returned (.bool false)) w2) := by rw [← HE.out]; exact ⟨rfl, HB2.out⟩
    go_wp2_with fail
    go_ret
    exact HF.out
  | true =>
    have HC := Lib.hid (HD.out w2 HB2.out)
    have HG : Hid (wellB t true = validB t) := by rw [← HE.out]; exact rfl
    have x0 := B2.out.c0
    have x1 := B2.out.c1
    have x2 := B2.out.c2
    clear HE HD
    go_wp2_with fail
    refine HC.out.mono ?_
    rintro e w3 ⟨rfl, hb3⟩
    have HF : Hid (Truth (validB t) w (.returned (.bool (wellB t true))) w3) := ⟨by rw [HG.out], HB2.out.trans (hb3.mono HB2.out.size)⟩
    clear hb3 HG HC
    generalize wellB t true = b at HF ⊢
    go_wp2_with fail
    go_ret
    exact HF.out

set_option maxRecDepth 100000 in
set_option maxHeartbeats 800000 in
theorem implData_any (t : Ty) (w : World) (cs : List Value) (h : RTy w t cs) (hw : wt t ≤ 1048576) : Calls Try.prog 19 #[.agg cs.toArray] w (Truth (dataB t) w) := by
  have hz := size_wt t
  obtain ⟨c0, c1, c2, W1, H, rfl, hH, hW1, hbox, hb0⟩ := boxed h
  have HC := Lib.hid (implWithin_any t W1 _ (h.keep hb0) (by omega))
  have HD := Lib.hid (fun W (hB : Below w.heap.size w W) => well_any t W _ false (h.keep hB) hw)
  have HE := Lib.hid (data_iff t)
  have HW1 := Lib.hid hW1
  have HB1 := Lib.hid hb0
  have B1 := Lib.hid hbox
  have x0 := hbox.c0
  have x1 := hbox.c1
  have x2 := hbox.c2
  clear h hw hz hb0 hbox hW1
  go_enter Try.func19, Try.ntmps19
  go_wp2_with fail
  rw [HW1.out]
  go_wp2_with fail
  refine HC.out.mono ?_
  rintro e w2 ⟨rfl, hb2⟩
  have HB2 := Lib.hid (HB1.out.trans (hb2.mono HB1.out.size))
  have B2 := Lib.hid (B1.out.under hb2 B1.out.lt)
  clear x0 x1 x2 hb2 HC
  generalize withinB t = a at HE ⊢
  cases a with
  | false =>
    have HF : Hid (Truth (dataB t) w (.returned (.bool false)) w2) := by rw [← HE.out]; exact ⟨rfl, HB2.out⟩
    go_wp2_with fail
    go_ret
    exact HF.out
  | true =>
    have HC := Lib.hid (HD.out w2 HB2.out)
    have HG : Hid (wellB t false = dataB t) := by rw [← HE.out]; exact rfl
    have x0 := B2.out.c0
    have x1 := B2.out.c1
    have x2 := B2.out.c2
    clear HE HD
    go_wp2_with fail
    refine HC.out.mono ?_
    rintro e w3 ⟨rfl, hb3⟩
    have HF : Hid (Truth (dataB t) w (.returned (.bool (wellB t false))) w3) := ⟨by rw [HG.out], HB2.out.trans (hb3.mono HB2.out.size)⟩
    clear hb3 HG HC
    generalize wellB t false = b at HF ⊢
    go_wp2_with fail
    go_ret
    exact HF.out
end Go.Proofs.Ytfhebkdoheafeaa

/-
  The model's IsRow.
-/
namespace Go.Proofs.Ytfhebkdoheafeaa
open Go.RowKit

def baseB (t : Ty) : Bool := decide (t.top.kind = 1) || decide (t.top.kind = 2)
def rowB (t : Ty) : Bool := validB t && (decide (t.top.kind = 3) && t.kids.all baseB)

theorem l3Base_any (t : Ty) (w : World) (cs : List Value) (h : RTy w t cs) : Calls Try.prog 57 #[.agg cs.toArray] w (Truth (baseB t) w) := by
  obtain ⟨a, ks⟩ := t
  obtain ⟨L, c, A, d, rfl, k1, k2, k3, k4, k5, k6, hp⟩ := h.out
  clear h hp k1 k5
  have hR : ∀ (b : Bool) (cs : Array Value), (decide (a.kind = 1) || decide (a.kind = 2)) = b → Truth (baseB (.node a ks)) w (.returned (.bool b)) (w.alloc (.cells cs 27)) := fun b _ hb => truth_iff hb ((Below.refl _ _).alloc (Nat.le_refl _) _)
  have HR := Lib.hid hR
  clear hR
  go_enter Try.func57, Try.ntmps57
  have HR1 := Lib.hid (fun cs => HR.out (a.kind == 1 || a.kind == 2) cs rfl)
  clear HR
  by_cases h1 : a.kind = 1
  · have h1b : (a.kind == 1) = true := by simp [h1]
    rw [h1b] at HR1
    clear h1b
    go_wp2_with fail
    go_ret
    exact HR1.out _
  · go_wp2_with fail
    go_ret
    exact HR1.out _

set_option maxHeartbeats 800000 in
theorem specRow_any (t : Ty) (w : World) (cs : List Value) (h : RTy w t cs) (hw : wt t ≤ 1048576) : Calls Try.prog 27 #[.agg cs.toArray] w (Truth (rowB t) w) := by
  obtain ⟨a, ks⟩ := t
  obtain ⟨L, c, A, d, rfl, k1, k2, k3, k4, k5, k6, hp⟩ := h.out
  obtain ⟨W1, hW1⟩ : ∃ W1, w.alloc (.cells #[.int .i64 a.kind, .slice L a.labels.length c, .slice A ks.length d] 27) = W1 := ⟨_, rfl⟩
  have hb0 : Below w.heap.size w W1 := by rw [← hW1]; exact (Below.refl _ _).alloc (Nat.le_refl _) _
  obtain ⟨H, hH⟩ : ∃ H, w.heap.size = H := ⟨_, rfl⟩
  have b0 : Box3 W1 H 27 (.int .i64 a.kind) (.slice L a.labels.length c) (.slice A ks.length d) := by rw [← hW1, ← hH]; exact Box3.new w _ _ _ _
  have HV := Lib.hid (specValid_any (.node a ks) W1 _ (h.keep hb0) hw)
  have HW1 := Lib.hid hW1
  have HP := Lib.hid hp
  have B0 := Lib.hid b0
  have HB0 := Lib.hid hb0
  have x0 := b0.c0
  have x1 := b0.c1
  have x2 := b0.c2
  clear h hw hW1 b0 hb0 hp k1 k5
  go_enter Try.func27, Try.ntmps27
  go_wp2_with fail
  rw [HW1.out]
  go_wp2_with fail
  refine HV.out.mono ?_
  rintro e w1 ⟨rfl, hb1⟩
  have HB1 := Lib.hid (HB0.out.trans (hb1.mono HB0.out.size))
  have b1 := B0.out.under hb1 B0.out.lt
  have B1 := Lib.hid b1
  clear hb1 x0 x1 x2
  have x0 := b1.c0
  clear b1
  cases hv : validB (.node a ks)
  · have HR := Lib.hid (truth_iff (a := rowB (.node a ks)) (b := false) (by unfold rowB; rw [hv]; rfl) HB1.out)
    clear hv
    go_wp2_with fail
    go_ret
    exact HR.out
  · by_cases h3 : a.kind = 3
    · have HE : Hid (rowB (.node a ks) = ks.all baseB) := Lib.hid (by unfold rowB; rw [hv]; simp [Tr.top, Tr.kids, h3])
      clear hv
      go_wp2_with fail
      go_loopw [3] (fun i wr => ∃ k : Nat, k ≤ ks.length ∧ i = .int .i64 k ∧ AllTo baseB ks k ∧ Below w1.heap.size w1 wr) (fun i _ => ks.length - (intOf i).toNat)
      case atStart => exact ⟨0, Nat.zero_le _, rfl, allTo_zero _ _, Below.refl _ _⟩
      case round =>
        obtain ⟨k, hk, rfl, hno, hb⟩ := hrel
        have hbw := HB1.out.trans (hb.mono HB1.out.size)
        have bk := B1.out.under hb B1.out.lt
        have hbx := bk.c2
        clear bk
        by_cases hlt : k < ks.length
        · obtain ⟨ad, p, c0, c1, c2, rfl, hpe, hr, q0, q1, q2⟩ := kid_at HP.out hbw hlt
          have HC := Lib.hid (l3Base_any ks[k] wr [c0, c1, c2] hr)
          have HN := Lib.hid hno
          have HBW := Lib.hid hbw
          clear hr hno
          go_wp2_with fail
          refine HC.out.mono ?_
          rintro e w2 ⟨rfl, hb2⟩
          have hb3 := hb.trans (hb2.mono hb.size)
          have HB4 := Lib.hid (HBW.out.trans (hb2.mono HBW.out.size))
          cases hf : baseB ks[k]
          · have HR := Lib.hid (truth_iff (a := rowB (.node a ks)) (b := false) (by rw [HE.out, all_not hlt hf]) HB4.out)
            clear hf
            go_wp2_with fail
            go_ret
            exact HR.out
          · have HN2 := Lib.hid (allTo_succ HN.out hlt hf)
            clear hf
            go_wp2_with fail
            go_roundw
            case rel => exact ⟨k + 1, hlt, by go_num, HN2.out, hb3⟩
            case measure => simp [intOf]; omega
        · have he : k = ks.length := by omega
          have HR := Lib.hid (truth_iff (a := rowB (.node a ks)) (b := true) (by rw [HE.out]; exact allTo_all (he ▸ hno)) hbw)
          clear he hno
          go_wp2_with fail
          go_ret
          exact HR.out
    · have HR := Lib.hid (truth_iff (a := rowB (.node a ks)) (b := false) (by unfold rowB; simp [Tr.top, h3]) HB1.out)
      clear hv
      go_wp2_with fail
      go_ret
      exact HR.out
end Go.Proofs.Ytfhebkdoheafeaa

/-
  The program's CountBags: a bag among the nodes of a level; its IsRow.
-/
namespace Go.Proofs.Ytfhebkdoheafeaa
open Go.RowKit

theorem kind_cases (q : Int) : (q = 1 ∨ q = 2 ∨ q = 3 ∨ q = 4 ∨ q = 5) ∨ kindT q = 89 := by
  by_cases h1 : q = 1
  · exact .inl (.inl h1)
  by_cases h2 : q = 2
  · exact .inl (.inr (.inl h2))
  by_cases h3 : q = 3
  · exact .inl (.inr (.inr (.inl h3)))
  by_cases h4 : q = 4
  · exact .inl (.inr (.inr (.inr (.inl h4))))
  by_cases h5 : q = 5
  · exact .inl (.inr (.inr (.inr (.inr h5))))
  · exact .inr (by unfold kindT; simp [h1, h2, h3, h4, h5])
theorem kind_none {q : Int} (h : kindT q = 89) : q ≠ 1 ∧ q ≠ 2 ∧ q ≠ 3 ∧ q ≠ 4 ∧ q ≠ 5 := by
  refine ⟨?_, ?_, ?_, ?_, ?_⟩ <;> (rintro rfl; revert h; decide)

set_option maxRecDepth 100000 in
set_option maxHeartbeats 1600000 in
theorem isScalar_of (q : Int) (c1 c2 : Value) (w : World) : Calls Try.prog 56 #[.agg #[.int .i64 q, c1, c2]] w (Truth (decide (q = 1) || decide (q = 2)) w) := by
  obtain ⟨W1, hW1⟩ : ∃ W1, w.alloc (.cells #[.int .i64 q, c1, c2] 27) = W1 := ⟨_, rfl⟩
  obtain ⟨H, hH⟩ : ∃ H, w.heap.size = H := ⟨_, rfl⟩
  have hb1 : Below w.heap.size w W1 := by rw [← hW1]; exact (Below.refl _ _).alloc (Nat.le_refl _) _
  have hbox : Box3 W1 H 27 (.int .i64 q) c1 c2 := by rw [← hW1, ← hH]; exact Box3.new w _ _ _ _
  have HK := Lib.hid (kind_of q c1 c2 W1)
  have HW1 := Lib.hid hW1
  have HB1 := Lib.hid hb1
  have x0 := hbox.c0
  have x1 := hbox.c1
  have x2 := hbox.c2
  have hcs := kind_cases q
  clear hbox hW1 hb1
  unfold KindIs at HK
  rcases hcs with (rfl | rfl | rfl | rfl | rfl) | hk
  · have a1 := as_int_1
    have a2 := as_bool_1
    rw [show kindT 1 = 86 from rfl] at HK
    have HF : Hid (∀ w2, Below w.heap.size w w2 → Truth (decide ((1 : Int) = 1) || decide ((1 : Int) = 2)) w (.returned (.bool true)) w2) := fun w2 hb => ⟨rfl, hb⟩
    go_enter Try.func56, Try.ntmps56
    go_wp2_with fail
    rw [HW1.out]
    go_wp2_with fail
    refine HK.out.mono ?_
    rintro e w2 ⟨rfl, hb2⟩
    have HG := Lib.hid (HF.out w2 (HB1.out.trans (hb2.mono HB1.out.size)))
    clear x0 x1 x2 hb2 HF HK
    go_wp2_with fail
    go_ret
    exact HG.out
  · have a1 := as_int_2
    have a2 := as_bool_2
    rw [show kindT 2 = 87 from rfl] at HK
    have HF : Hid (∀ w2, Below w.heap.size w w2 → Truth (decide ((2 : Int) = 1) || decide ((2 : Int) = 2)) w (.returned (.bool true)) w2) := fun w2 hb => ⟨rfl, hb⟩
    go_enter Try.func56, Try.ntmps56
    go_wp2_with fail
    rw [HW1.out]
    go_wp2_with fail
    refine HK.out.mono ?_
    rintro e w2 ⟨rfl, hb2⟩
    have HG := Lib.hid (HF.out w2 (HB1.out.trans (hb2.mono HB1.out.size)))
    clear x0 x1 x2 hb2 HF HK
    go_wp2_with fail
    go_ret
    exact HG.out
  · have a1 := as_int_3
    have a2 := as_bool_3
    rw [show kindT 3 = 64 from rfl] at HK
    have HF : Hid (∀ w2, Below w.heap.size w w2 → Truth (decide ((3 : Int) = 1) || decide ((3 : Int) = 2)) w (.returned (.bool false)) w2) := fun w2 hb => ⟨rfl, hb⟩
    go_enter Try.func56, Try.ntmps56
    go_wp2_with fail
    rw [HW1.out]
    go_wp2_with fail
    refine HK.out.mono ?_
    rintro e w2 ⟨rfl, hb2⟩
    have HG := Lib.hid (HF.out w2 (HB1.out.trans (hb2.mono HB1.out.size)))
    clear x0 x1 x2 hb2 HF HK
    go_wp2_with fail
    go_ret
    exact HG.out
  · have a1 := as_int_4
    have a2 := as_bool_4
    rw [show kindT 4 = 53 from rfl] at HK
    have HF : Hid (∀ w2, Below w.heap.size w w2 → Truth (decide ((4 : Int) = 1) || decide ((4 : Int) = 2)) w (.returned (.bool false)) w2) := fun w2 hb => ⟨rfl, hb⟩
    go_enter Try.func56, Try.ntmps56
    go_wp2_with fail
    rw [HW1.out]
    go_wp2_with fail
    refine HK.out.mono ?_
    rintro e w2 ⟨rfl, hb2⟩
    have HG := Lib.hid (HF.out w2 (HB1.out.trans (hb2.mono HB1.out.size)))
    clear x0 x1 x2 hb2 HF HK
    go_wp2_with fail
    go_ret
    exact HG.out
  · have a1 := as_int_5
    have a2 := as_bool_5
    rw [show kindT 5 = 88 from rfl] at HK
    have HF : Hid (∀ w2, Below w.heap.size w w2 → Truth (decide ((5 : Int) = 1) || decide ((5 : Int) = 2)) w (.returned (.bool false)) w2) := fun w2 hb => ⟨rfl, hb⟩
    go_enter Try.func56, Try.ntmps56
    go_wp2_with fail
    rw [HW1.out]
    go_wp2_with fail
    refine HK.out.mono ?_
    rintro e w2 ⟨rfl, hb2⟩
    have HG := Lib.hid (HF.out w2 (HB1.out.trans (hb2.mono HB1.out.size)))
    clear x0 x1 x2 hb2 HF HK
    go_wp2_with fail
    go_ret
    exact HG.out
  · have a1 := as_int_6
    have a2 := as_bool_6
    obtain ⟨h1, h2, _, _, _⟩ := kind_none hk
    rw [hk] at HK
    have HF : Hid (∀ w2, Below w.heap.size w w2 → Truth (decide (q = 1) || decide (q = 2)) w (.returned (.bool false)) w2) := fun w2 hb => ⟨by simp [h1, h2], hb⟩
    clear h1 h2 hk
    go_enter Try.func56, Try.ntmps56
    go_wp2_with fail
    rw [HW1.out]
    go_wp2_with fail
    refine HK.out.mono ?_
    rintro e w2 ⟨rfl, hb2⟩
    have HG := Lib.hid (HF.out w2 (HB1.out.trans (hb2.mono HB1.out.size)))
    clear x0 x1 x2 hb2 HF HK
    go_wp2_with fail
    go_ret
    exact HG.out

theorem scalar_any (t : Ty) (w : World) (cs : List Value) (h : RTy w t cs) : Calls Try.prog 56 #[.agg cs.toArray] w (Truth (baseB t) w) := by
  obtain ⟨a, ks⟩ := t
  obtain ⟨L, c, A, d, rfl, _⟩ := h.out
  exact isScalar_of a.kind _ _ w

set_option maxRecDepth 100000 in
set_option maxHeartbeats 1600000 in
theorem everyScalar_any (ks : List Ty) (w : World) (A : Option Addr) (d : Nat) (hp : RKids w A ks) (hl : ks.length ≤ 9223372036854775807) :
    Calls Try.prog 55 #[.slice A ks.length d, .func (.func 56) #[] #[]] w (Truth (ks.all baseB) w) := by
  have HP := Lib.hid hp
  clear hp
  go_enter Try.func55, Try.ntmps55
  go_wp2_with fail
  go_loopw [9] (fun i wr => ∃ k : Nat, k ≤ ks.length ∧ i = .int .i64 k ∧ AllTo baseB ks k ∧ Below w.heap.size w wr) (fun i _ => ks.length - (intOf i).toNat)
  case atStart => exact ⟨0, Nat.zero_le _, rfl, allTo_zero _ _, Below.refl _ _⟩
  case round =>
    obtain ⟨k, hk, rfl, hto, hb⟩ := hrel
    have HTO := Lib.hid hto
    have HB := Lib.hid hb
    clear hto hb
    by_cases hlt : k < ks.length
    · obtain ⟨ad, p, c0, c1, c2, rfl, hpe, hr, q0, q1, q2⟩ := kid_at HP.out HB.out hlt
      obtain ⟨d0, d1, d2, d3, d4, d5, d6, he⟩ := hr.shape
      injection he with e0 he
      injection he with e1 he
      injection he with e2 _
      subst e0 e1 e2
      obtain ⟨W5, hW5⟩ : ∃ W5, wr.alloc (.cells #[.int .i64 d0, .slice d1 d2 d3, .slice d4 d5 d6] 27) = W5 := ⟨_, rfl⟩
      have hb5 : Below wr.heap.size wr W5 := by rw [← hW5]; exact (Below.refl _ _).alloc (Nat.le_refl _) _
      have HC := Lib.hid (scalar_any ks[k] W5 _ (hr.keep hb5))
      have HW5 := Lib.hid hW5
      have HB5 := Lib.hid (HB.out.trans (hb5.mono HB.out.size))
      have hx5 := Box3.new wr 27 (.int .i64 d0) (.slice d1 d2 d3) (.slice d4 d5 d6)
      rw [hW5] at hx5
      have y0 := hx5.c0
      have y1 := hx5.c1
      have y2 := hx5.c2
      have HS := Lib.hid (fun hf => allTo_succ (f := baseB) HTO.out hlt hf)
      have HN := Lib.hid (fun hf => all_not (f := baseB) hlt hf)
      obtain ⟨v, hv⟩ : ∃ v, baseB ks[k] = v := ⟨_, rfl⟩
      rw [hv] at HS HN HC
      clear hr hb5 hW5 hx5 hv
      go_wp2_with fail
      rw [HW5.out]
      go_wp2_with fail
      refine HC.out.mono ?_
      rintro e w6 ⟨rfl, hb6⟩
      have HB6 := Lib.hid (HB5.out.trans (hb6.mono HB5.out.size))
      clear hb6 y0 y1 y2 HC
      cases v with
      | false =>
        have HF : Hid (Truth (ks.all baseB) w (.returned (.bool false)) w6) := by rw [HN.out rfl]; exact ⟨rfl, HB6.out⟩
        go_wp2_with fail
        go_ret
        exact HF.out
      | true =>
        have HT := Lib.hid (HS.out rfl)
        clear HS HN
        go_wp2_with fail
        go_roundw
        case rel => exact ⟨k + 1, hlt, by go_num, HT.out, HB6.out⟩
        case measure => simp [intOf]; omega
    · have he : k = ks.length := by omega
      have HF : Hid (Truth (ks.all baseB) w (.returned (.bool true)) wr) := by
        rw [allTo_all (by rw [← he]; exact HTO.out)]
        exact ⟨rfl, HB.out⟩
      clear he
      go_wp2_with fail
      go_ret
      exact HF.out
end Go.Proofs.Ytfhebkdoheafeaa
