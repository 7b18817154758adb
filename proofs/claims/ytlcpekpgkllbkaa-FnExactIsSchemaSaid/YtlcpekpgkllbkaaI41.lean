/-
  Merged by program: LimT, ValidE, Valid, Scalar.
-/
import Derived.Test.YtlcpekpgkllbkaaI39
import Derived.Test.YtlcpekpgkllbkaaI40
import Derived.Test.YtlcpekpgkllbkaaI25
import Derived.Test.YtlcpekpgkllbkaaI33

/-
  The program's isWithinLimits (over nodes).
-/
namespace Go.Proofs.Ytlcpekpgkllbkaa
open Go.RowKit Go.Shelf

def withinB (t : Ty) : Bool := decide (t.size ≤ 24) && decide (t.deep ≤ 7)
set_option maxRecDepth 100000 in
set_option maxHeartbeats 800000 in
theorem implWithin_any (t : Ty) (w : World) (cs : List Value) (h : RTy w t cs) (hs : t.size ≤ 1048577) : Calls Try.prog 127 #[.agg cs.toArray] w (Truth (withinB t) w) := by
  obtain ⟨c0, c1, c2, rfl⟩ := h.three
  obtain ⟨W1, hW1⟩ : ∃ W1, w.alloc (.cells #[c0, c1, c2] 36) = W1 := ⟨_, rfl⟩
  obtain ⟨H, hH⟩ : ∃ H, w.heap.size = H := ⟨_, rfl⟩
  have hb1 : Below w.heap.size w W1 := by rw [← hW1]; exact (Below.refl _ _).alloc (Nat.le_refl _) _
  have hbx : Box3 W1 H 36 c0 c1 c2 := by rw [← hW1, ← hH]; exact Box3.new w _ _ _ _
  have HI := Lib.hid (nodesOfT_any W1 t W1 _ (h.keep hb1) (Below.refl _ _) hs)
  have HN : Hid ((t.pre 1).length = t.size) := Lib.hid (pre_len t 1)
  have HD : Hid (topTo t (t.pre 1).length = t.deep) := Lib.hid (topTo_all t)
  have HS := Lib.hid hs
  have HW1 := Lib.hid hW1
  have HB1 := Lib.hid hb1
  have x0 := hbx.c0
  have x1 := hbx.c1
  have x2 := hbx.c2
  clear h hs hW1 hb1 hbx
  go_enter Try.func127, Try.ntmps127
  go_wp2_with fail
  rw [HW1.out]
  go_wp2_with fail
  refine HI.out.mono ?_
  rintro e w2 hi
  obtain ⟨lb, rfl, hb2, hg⟩ := hi.gives (Nat.le_refl _)
  have HC := Lib.hid (withinT_any _ lb (enters_of Try.func146 (by kernel_rfl) rfl) w2 (t.pre 1).length 24 7 (depAt t) (topTo t) (by rw [HN.out]; exact HS.out) (by decide) (topTo_zero t) (fun k hk => topTo_dep t k hk) (fun k _ => topTo_mono t k) (fun W hW => (hg W hW).weaken fun _ _ h => h.dep))
  rw [HN.out] at HC
  have HB2 := Lib.hid (HB1.out.trans (hb2.mono HB1.out.size))
  have HE : Hid (withB t.size 24 (topTo t (t.pre 1).length) 7 = withinB t) := Lib.hid (by rw [HD.out]; rfl)
  rw [HN.out] at HE
  rw [HE.out] at HC
  clear hi hb2 hg x0 x1 x2
  go_wp2_with fail
  refine HC.out.mono ?_
  rintro e w3 ⟨rfl, hb3⟩
  have HF : Hid (Truth (withinB t) w (.returned (.bool (withinB t))) w3) := Lib.hid ⟨rfl, HB2.out.trans (hb3.mono HB2.out.size)⟩
  clear hb3
  go_wp2_with fail
  go_ret
  exact HF.out
end Go.Proofs.Ytlcpekpgkllbkaa

/-
  Within the limits and well made: valid, or a data type.
-/
namespace Go.Proofs.Ytlcpekpgkllbkaa
open Go.RowKit

theorem valid_iff (t : Ty) : (withinB t && wellB t true) = validB t := by
  unfold withinB wellB validB
  cases t.form <;> simp
theorem data_iff (t : Ty) : (withinB t && wellB t false) = dataB t := by
  unfold withinB wellB dataB validB
  cases t.form <;> cases Tr.has 5 t <;> simp
end Go.Proofs.Ytlcpekpgkllbkaa

/-
  The program's IsValidType, IsData.
-/
namespace Go.Proofs.Ytlcpekpgkllbkaa
open Go.RowKit

set_option maxRecDepth 100000 in
set_option maxHeartbeats 800000 in
theorem implValid_any (t : Ty) (w : World) (cs : List Value) (h : RTy w t cs) (hw : wt t ≤ 1048576) : Calls Try.prog 106 #[.agg cs.toArray] w (Truth (validB t) w) := by
  have hz := size_wt t
  obtain ⟨c0, c1, c2, W1, H, rfl, hH, hW1, hbox, hb0⟩ := boxed h
  have HC := Lib.hid (implWithin_any t W1 _ (h.keep hb0) (by omega))
  have HD := Lib.hid (fun W (hB : Below w.heap.size w W) => well_any t W _ true (h.keep hB) hw)
  have HE := Lib.hid (valid_iff t)
  have HW1 := Lib.hid hW1
  have HB1 := Lib.hid hb0
  have B1 := Lib.hid hbox
  have x0 := hbox.c0
  have x1 := hbox.c1
  have x2 := hbox.c2
  clear h hw hz hb0 hbox hW1
  go_enter Try.func106, Try.ntmps106
  go_wp2_with fail
  rw [HW1.out]
  go_wp2_with fail
  refine HC.out.mono ?_
  rintro e w2 ⟨rfl, hb2⟩
  have HB2 := Lib.hid (HB1.out.trans (hb2.mono HB1.out.size))
  have B2 := Lib.hid (B1.out.under hb2 B1.out.lt)
  clear x0 x1 x2 hb2 HC
  generalize withinB t = a at HE ⊢
  cases a with
  | false =>
    have HF : Hid (Truth (validB t) w (.returned (.bool false)) w2) := by rw [← HE.out]; exact ⟨rfl, HB2.out⟩
    go_wp2_with fail
    go_ret
    exact HF.out
  | true =>
    have HC := Lib.hid (HD.out w2 HB2.out)
    have HG : Hid (wellB t true = validB t) := by rw [← HE.out]; exact rfl
    have x0 := B2.out.c0
    have x1 := B2.out.c1
    have x2 := B2.out.c2
    clear HE HD
    go_wp2_with fail
    refine HC.out.mono ?_
    rintro e w3 ⟨rfl, hb3⟩
    have HF : Hid (Truth (validB t) w (.returned (.bool (wellB t true))) w3) := ⟨by rw [HG.out], HB2.out.trans (hb3.mono HB2.out.size)⟩
    clear hb3 HG HC
    generalize wellB t true = b at HF ⊢
    go_wp2_with fail
    go_ret
    exact HF.out

end Go.Proofs.Ytlcpekpgkllbkaa

/-
  The program's CountBags: a bag among the nodes of a level; its IsRow.
-/
namespace Go.Proofs.Ytlcpekpgkllbkaa
open Go.RowKit

theorem kind_cases (q : Int) : (q = 1 ∨ q = 2 ∨ q = 3 ∨ q = 4 ∨ q = 5) ∨ kindT q = 160 := by
  by_cases h1 : q = 1
  · exact .inl (.inl h1)
  by_cases h2 : q = 2
  · exact .inl (.inr (.inl h2))
  by_cases h3 : q = 3
  · exact .inl (.inr (.inr (.inl h3)))
  by_cases h4 : q = 4
  · exact .inl (.inr (.inr (.inr (.inl h4))))
  by_cases h5 : q = 5
  · exact .inl (.inr (.inr (.inr (.inr h5))))
  · exact .inr (by unfold kindT; simp [h1, h2, h3, h4, h5])
theorem kind_none {q : Int} (h : kindT q = 160) : q ≠ 1 ∧ q ≠ 2 ∧ q ≠ 3 ∧ q ≠ 4 ∧ q ≠ 5 := by
  refine ⟨?_, ?_, ?_, ?_, ?_⟩ <;> (rintro rfl; revert h; decide)

set_option maxRecDepth 100000 in
set_option maxHeartbeats 1600000 in
theorem isScalar_of (q : Int) (c1 c2 : Value) (w : World) : Calls Try.prog 108 #[.agg #[.int .i64 q, c1, c2]] w (Truth (decide (q = 1) || decide (q = 2)) w) := by
  obtain ⟨W1, hW1⟩ : ∃ W1, w.alloc (.cells #[.int .i64 q, c1, c2] 36) = W1 := ⟨_, rfl⟩
  obtain ⟨H, hH⟩ : ∃ H, w.heap.size = H := ⟨_, rfl⟩
  have hb1 : Below w.heap.size w W1 := by rw [← hW1]; exact (Below.refl _ _).alloc (Nat.le_refl _) _
  have hbox : Box3 W1 H 36 (.int .i64 q) c1 c2 := by rw [← hW1, ← hH]; exact Box3.new w _ _ _ _
  have HK := Lib.hid (kind_of q c1 c2 W1)
  have HW1 := Lib.hid hW1
  have HB1 := Lib.hid hb1
  have x0 := hbox.c0
  have x1 := hbox.c1
  have x2 := hbox.c2
  have hcs := kind_cases q
  clear hbox hW1 hb1
  unfold KindIs at HK
  rcases hcs with (rfl | rfl | rfl | rfl | rfl) | hk
  · have a1 := as_int_1
    have a2 := as_bool_1
    rw [show kindT 1 = 156 from rfl] at HK
    have HF : Hid (∀ w2, Below w.heap.size w w2 → Truth (decide ((1 : Int) = 1) || decide ((1 : Int) = 2)) w (.returned (.bool true)) w2) := fun w2 hb => ⟨rfl, hb⟩
    go_enter Try.func108, Try.ntmps108
    go_wp2_with fail
    rw [HW1.out]
    go_wp2_with fail
    refine HK.out.mono ?_
    rintro e w2 ⟨rfl, hb2⟩
    have HG := Lib.hid (HF.out w2 (HB1.out.trans (hb2.mono HB1.out.size)))
    clear x0 x1 x2 hb2 HF HK
    go_wp2_with fail
    go_ret
    exact HG.out
  · have a1 := as_int_2
    have a2 := as_bool_2
    rw [show kindT 2 = 157 from rfl] at HK
    have HF : Hid (∀ w2, Below w.heap.size w w2 → Truth (decide ((2 : Int) = 1) || decide ((2 : Int) = 2)) w (.returned (.bool true)) w2) := fun w2 hb => ⟨rfl, hb⟩
    go_enter Try.func108, Try.ntmps108
    go_wp2_with fail
    rw [HW1.out]
    go_wp2_with fail
    refine HK.out.mono ?_
    rintro e w2 ⟨rfl, hb2⟩
    have HG := Lib.hid (HF.out w2 (HB1.out.trans (hb2.mono HB1.out.size)))
    clear x0 x1 x2 hb2 HF HK
    go_wp2_with fail
    go_ret
    exact HG.out
  · have a1 := as_int_3
    have a2 := as_bool_3
    rw [show kindT 3 = 135 from rfl] at HK
    have HF : Hid (∀ w2, Below w.heap.size w w2 → Truth (decide ((3 : Int) = 1) || decide ((3 : Int) = 2)) w (.returned (.bool false)) w2) := fun w2 hb => ⟨rfl, hb⟩
    go_enter Try.func108, Try.ntmps108
    go_wp2_with fail
    rw [HW1.out]
    go_wp2_with fail
    refine HK.out.mono ?_
    rintro e w2 ⟨rfl, hb2⟩
    have HG := Lib.hid (HF.out w2 (HB1.out.trans (hb2.mono HB1.out.size)))
    clear x0 x1 x2 hb2 HF HK
    go_wp2_with fail
    go_ret
    exact HG.out
  · have a1 := as_int_4
    have a2 := as_bool_4
    rw [show kindT 4 = 158 from rfl] at HK
    have HF : Hid (∀ w2, Below w.heap.size w w2 → Truth (decide ((4 : Int) = 1) || decide ((4 : Int) = 2)) w (.returned (.bool false)) w2) := fun w2 hb => ⟨rfl, hb⟩
    go_enter Try.func108, Try.ntmps108
    go_wp2_with fail
    rw [HW1.out]
    go_wp2_with fail
    refine HK.out.mono ?_
    rintro e w2 ⟨rfl, hb2⟩
    have HG := Lib.hid (HF.out w2 (HB1.out.trans (hb2.mono HB1.out.size)))
    clear x0 x1 x2 hb2 HF HK
    go_wp2_with fail
    go_ret
    exact HG.out
  · have a1 := as_int_5
    have a2 := as_bool_5
    rw [show kindT 5 = 159 from rfl] at HK
    have HF : Hid (∀ w2, Below w.heap.size w w2 → Truth (decide ((5 : Int) = 1) || decide ((5 : Int) = 2)) w (.returned (.bool false)) w2) := fun w2 hb => ⟨rfl, hb⟩
    go_enter Try.func108, Try.ntmps108
    go_wp2_with fail
    rw [HW1.out]
    go_wp2_with fail
    refine HK.out.mono ?_
    rintro e w2 ⟨rfl, hb2⟩
    have HG := Lib.hid (HF.out w2 (HB1.out.trans (hb2.mono HB1.out.size)))
    clear x0 x1 x2 hb2 HF HK
    go_wp2_with fail
    go_ret
    exact HG.out
  · have a1 := as_int_6
    have a2 := as_bool_6
    obtain ⟨h1, h2, _, _, _⟩ := kind_none hk
    rw [hk] at HK
    have HF : Hid (∀ w2, Below w.heap.size w w2 → Truth (decide (q = 1) || decide (q = 2)) w (.returned (.bool false)) w2) := fun w2 hb => ⟨by simp [h1, h2], hb⟩
    clear h1 h2 hk
    go_enter Try.func108, Try.ntmps108
    go_wp2_with fail
    rw [HW1.out]
    go_wp2_with fail
    refine HK.out.mono ?_
    rintro e w2 ⟨rfl, hb2⟩
    have HG := Lib.hid (HF.out w2 (HB1.out.trans (hb2.mono HB1.out.size)))
    clear x0 x1 x2 hb2 HF HK
    go_wp2_with fail
    go_ret
    exact HG.out

theorem scalar_any (t : Ty) (w : World) (cs : List Value) (h : RTy w t cs) : Calls Try.prog 108 #[.agg cs.toArray] w (Truth (baseB t) w) := by
  obtain ⟨a, ks⟩ := t
  obtain ⟨L, c, A, d, rfl, _⟩ := h.out
  exact isScalar_of a.kind _ _ w

set_option maxRecDepth 100000 in
set_option maxHeartbeats 1600000 in
theorem everyScalar_any (ks : List Ty) (w : World) (A : Option Addr) (d : Nat) (hp : RKids w A ks) (hl : ks.length ≤ 9223372036854775807) :
    Calls Try.prog 107 #[.slice A ks.length d, .func (.func 108) #[] #[]] w (Truth (ks.all baseB) w) := by
  have HP := Lib.hid hp
  clear hp
  go_enter Try.func107, Try.ntmps107
  go_wp2_with fail
  go_loopw [9] (fun i wr => ∃ k : Nat, k ≤ ks.length ∧ i = .int .i64 k ∧ AllTo baseB ks k ∧ Below w.heap.size w wr) (fun i _ => ks.length - (intOf i).toNat)
  case atStart => exact ⟨0, Nat.zero_le _, rfl, allTo_zero _ _, Below.refl _ _⟩
  case round =>
    obtain ⟨k, hk, rfl, hto, hb⟩ := hrel
    have HTO := Lib.hid hto
    have HB := Lib.hid hb
    clear hto hb
    by_cases hlt : k < ks.length
    · obtain ⟨ad, p, c0, c1, c2, rfl, hpe, hr, q0, q1, q2⟩ := kid_at HP.out HB.out hlt
      obtain ⟨d0, d1, d2, d3, d4, d5, d6, he⟩ := hr.shape
      injection he with e0 he
      injection he with e1 he
      injection he with e2 _
      subst e0 e1 e2
      obtain ⟨W5, hW5⟩ : ∃ W5, wr.alloc (.cells #[.int .i64 d0, .slice d1 d2 d3, .slice d4 d5 d6] 36) = W5 := ⟨_, rfl⟩
      have hb5 : Below wr.heap.size wr W5 := by rw [← hW5]; exact (Below.refl _ _).alloc (Nat.le_refl _) _
      have HC := Lib.hid (scalar_any ks[k] W5 _ (hr.keep hb5))
      have HW5 := Lib.hid hW5
      have HB5 := Lib.hid (HB.out.trans (hb5.mono HB.out.size))
      have hx5 := Box3.new wr 36 (.int .i64 d0) (.slice d1 d2 d3) (.slice d4 d5 d6)
      rw [hW5] at hx5
      have y0 := hx5.c0
      have y1 := hx5.c1
      have y2 := hx5.c2
      have HS := Lib.hid (fun hf => allTo_succ (f := baseB) HTO.out hlt hf)
      have HN := Lib.hid (fun hf => all_not (f := baseB) hlt hf)
      obtain ⟨v, hv⟩ : ∃ v, baseB ks[k] = v := ⟨_, rfl⟩
      rw [hv] at HS HN HC
      clear hr hb5 hW5 hx5 hv
      go_wp2_with fail
      rw [HW5.out]
      go_wp2_with fail
      refine HC.out.mono ?_
      rintro e w6 ⟨rfl, hb6⟩
      have HB6 := Lib.hid (HB5.out.trans (hb6.mono HB5.out.size))
      clear hb6 y0 y1 y2 HC
      cases v with
      | false =>
        have HF : Hid (Truth (ks.all baseB) w (.returned (.bool false)) w6) := by rw [HN.out rfl]; exact ⟨rfl, HB6.out⟩
        go_wp2_with fail
        go_ret
        exact HF.out
      | true =>
        have HT := Lib.hid (HS.out rfl)
        clear HS HN
        go_wp2_with fail
        go_roundw
        case rel => exact ⟨k + 1, hlt, by go_num, HT.out, HB6.out⟩
        case measure => simp [intOf]; omega
    · have he : k = ks.length := by omega
      have HF : Hid (Truth (ks.all baseB) w (.returned (.bool true)) wr) := by
        rw [allTo_all (by rw [← he]; exact HTO.out)]
        exact ⟨rfl, HB.out⟩
      clear he
      go_wp2_with fail
      go_ret
      exact HF.out
end Go.Proofs.Ytlcpekpgkllbkaa
