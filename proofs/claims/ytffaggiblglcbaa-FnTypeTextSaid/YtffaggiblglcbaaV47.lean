/-
  Merged by program: EqI, Big.
-/
import Derived.Test.YtffaggiblglcbaaV46
import Derived.Test.YtffaggiblglcbaaV30
import Derived.Deep.RegionHeld3
import Derived.Deep.CutRange
import Derived.Test.YtffaggiblglcbaaV1
import Derived.Test.YtffaggiblglcbaaProg

/-
  The program's EqualType.
-/
namespace Go.Proofs.Ytffaggiblglcbaa
open Go.RowKit

/-- the levels of both down to the k-th were alike -/
def EqInv (w0 : World) (t s : Ty) (k : Nat) (p q : Value) (wr : World) : Prop :=
  k ≤ t.deep ∧ (lev [t] k).length = (lev [s] k).length ∧ (lev [t] k = lev [s] k → t = s) ∧ (∃ A c, p = .slice A (lev [t] k).length c ∧ RowL w0 wr A (lev [t] k)) ∧ (∃ B d, q = .slice B (lev [s] k).length d ∧ RowL w0 wr B (lev [s] k)) ∧ Below w0.heap.size w0 wr

theorem rowL_one {w0 w : World} {t : Ty} {ty : TypeId} {c0 c1 c2 : Value} (hr : RTy w0 t [c0, c1, c2]) : RowL w0 (w.alloc (.cells #[c0, c1, c2] ty)) (some ⟨w.heap.size, 0, none⟩) [t] := by
  refine ⟨[c0, c1, c2], rfl, ?_, ?_⟩
  · intro j u hj
    match j, hj with
    | 0, hj => simp at hj; subst hj; exact ⟨_, rfl, by simp [Addr.add]⟩
    | 1, hj => simp at hj; subst hj; exact ⟨_, rfl, by simp [Addr.add]⟩
    | 2, hj => simp at hj; subst hj; exact ⟨_, rfl, by simp [Addr.add]⟩
    | j + 3, hj => simp at hj
  · intro j s hj
    match j, hj with
    | 0, hj =>
      have e : t = s := by simpa using hj
      subst e
      exact hr
    | j + 1, hj => simp at hj

set_option maxHeartbeats 2000000 in
set_option maxRecDepth 100000 in
theorem implEq_any (t s : Ty) (w : World) (cs ds : List Value) (h : RTy w t cs) (h' : RTy w s ds) (hs : t.size ≤ 1048577) (hs' : s.size ≤ 1048577) :
    Calls Try.prog 12 #[.agg cs.toArray, .agg ds.toArray] w (Truth (same t s) w) := by
  obtain ⟨a0, a1, a2, rfl, _⟩ := h.three'
  obtain ⟨d0, d1, d2, rfl, _⟩ := h'.three'
  obtain ⟨W1, hW1⟩ : ∃ W1, (w.alloc (.cells #[a0, a1, a2] 27)).alloc (.cells #[d0, d1, d2] 27) = W1 := ⟨_, rfl⟩
  obtain ⟨H, hH⟩ : ∃ H, w.heap.size = H := ⟨_, rfl⟩
  have b0 : Box3 W1 H 27 a0 a1 a2 := by rw [← hW1, ← hH]; exact (Box3.new w _ _ _ _).alloc _
  have b1 : Box3 W1 (H + 1) 27 d0 d1 d2 := by
    rw [← hW1, ← hH]
    have := Box3.new (w.alloc (.cells #[a0, a1, a2] 27)) 27 d0 d1 d2
    simpa using this
  have hb1 : Below w.heap.size w W1 := by rw [← hW1]; exact ((Below.refl _ _).alloc (Nat.le_refl _) _).alloc (by simp) _
  have HW1 := Lib.hid hW1
  have HB1 := Lib.hid hb1
  have B0 := Lib.hid b0
  have B1 := Lib.hid b1
  have x0 := b0.c0
  have x1 := b0.c1
  have x2 := b0.c2
  have y0 := b1.c0
  have y1 := b1.c1
  have y2 := b1.c2
  clear hW1 hb1 b0 b1
  go_enter Try.func12, Try.ntmps12
  go_wp2_with fail
  rw [HW1.out]
  have e1 : EqInv w t s 0 (.slice (some ⟨W1.heap.size, 0, none⟩) 1 1) (.slice (some ⟨W1.heap.size + 1, 0, none⟩) 1 1) ((W1.alloc (.cells #[a0, a1, a2] 27)).alloc (.cells #[d0, d1, d2] 27)).drew := by
    have r1 := (rowL_one (w := W1) (ty := 27) h).under (w' := ((W1.alloc (.cells #[a0, a1, a2] 27)).alloc (.cells #[d0, d1, d2] 27)).drew) ((Below.refl _ _).alloc (Nat.le_refl _) _).drew
    have r2 := (rowL_one (w := W1.alloc (.cells #[a0, a1, a2] 27)) (ty := 27) h').under (w' := ((W1.alloc (.cells #[a0, a1, a2] 27)).alloc (.cells #[d0, d1, d2] 27)).drew) (Below.refl _ _).drew
    simp only [World.size_alloc] at r2
    exact ⟨Nat.zero_le _, rfl, fun e => by simpa [lev] using e, ⟨_, _, rfl, r1⟩, ⟨_, _, rfl, r2⟩, ((HB1.out.alloc HB1.out.size _).alloc (by have := HB1.out.size; simp; omega) _).drew⟩
  have e2 : EqInv w t s 0 (.slice (some ⟨W1.heap.size + 1, 0, none⟩) 1 1) (.slice (some ⟨W1.heap.size, 0, none⟩) 1 1) ((W1.alloc (.cells #[d0, d1, d2] 27)).alloc (.cells #[a0, a1, a2] 27)).drew := by
    have r2 := (rowL_one (w := W1) (ty := 27) h').under (w' := ((W1.alloc (.cells #[d0, d1, d2] 27)).alloc (.cells #[a0, a1, a2] 27)).drew) ((Below.refl _ _).alloc (Nat.le_refl _) _).drew
    have r1 := (rowL_one (w := W1.alloc (.cells #[d0, d1, d2] 27)) (ty := 27) h).under (w' := ((W1.alloc (.cells #[d0, d1, d2] 27)).alloc (.cells #[a0, a1, a2] 27)).drew) (Below.refl _ _).drew
    simp only [World.size_alloc] at r1
    exact ⟨Nat.zero_le _, rfl, fun e => by simpa [lev] using e, ⟨_, _, rfl, r1⟩, ⟨_, _, rfl, r2⟩, ((HB1.out.alloc HB1.out.size _).alloc (by have := HB1.out.size; simp; omega) _).drew⟩
  have E1 := Lib.hid e1
  have E2 := Lib.hid e2
  have HS := Lib.hid hs
  have HS' := Lib.hid hs'
  clear e1 e2 h h' hs hs'
  have n0 := World.new_ne W1 _ x0
  have n1 := World.new_ne W1 _ x1
  have n2 := World.new_ne W1 _ x2
  have m0 := World.new_ne W1 _ y0
  have m1 := World.new_ne W1 _ y1
  have m2 := World.new_ne W1 _ y2
  go_cut [5, 6] from 7 to 11 (fun p q wx => EqInv w t s 0 p q wx)
  case first =>
    go_region_held3 (fun W => W.cell? ⟨H, 0, none⟩ = some a0 ∧ W.cell? ⟨H, 1, none⟩ = some a1 ∧ W.cell? ⟨H, 2, none⟩ = some a2 ∧ W.cell? ⟨H + 1, 0, none⟩ = some d0 ∧ W.cell? ⟨H + 1, 1, none⟩ = some d1 ∧ W.cell? ⟨H + 1, 2, none⟩ = some d2)
      (first | (refine ⟨?_, ?_, ?_, ?_, ?_, ?_⟩ <;> assumption) | go_keep) (fail)
    all_goals go_wp2_with fail
    all_goals go_meet
    all_goals first | exact E1.out | exact E2.out
  case rest =>
    clear n0 n1 n2 m0 m1 m2 x0 x1 x2 y0 y1 y2 E1 E2 B0 B1
    have HCUT := Lib.hid hcut
    clear hcut
    go_wp2_with fail
    go_loopw [5, 6] (fun p q wr => ∃ k, EqInv w t s k p q wr) (fun p q wr => Classical.epsilon (Least fun m => ∃ k, EqInv w t s k p q wr ∧ m = t.deep - k))
    case atStart => exact ⟨0, HCUT.out⟩
    case round =>
      obtain ⟨p, hp0⟩ : ∃ p, u5 = p := ⟨_, rfl⟩
      obtain ⟨q, hq0⟩ : ∃ q, u6 = q := ⟨_, rfl⟩
      rw [hp0, hq0] at hrel ⊢
      obtain ⟨k0, hk0⟩ := hrel
      have hle := least_at (Q := fun m => ∃ k, EqInv w t s k p q wr ∧ m = t.deep - k) ⟨k0, hk0, rfl⟩
      obtain ⟨μ, hμ⟩ : ∃ μ, Classical.epsilon (Least fun m => ∃ k, EqInv w t s k p q wr ∧ m = t.deep - k) = μ := ⟨_, rfl⟩
      rw [hμ] at hle
      obtain ⟨⟨k, ⟨hk, hlen, hinj, ⟨A, c, rfl, hrow⟩, ⟨B, d, rfl, hrow'⟩, hb⟩, hmu⟩, _⟩ := hle
      clear hk0 k0
      have HMU := Lib.hid hμ
      have HME := Lib.hid hmu
      clear hμ hmu hp0 hq0
      have hsz := lev_sizes t k
      have hsz' := lev_sizes s k
      by_cases hlt : k < t.deep
      · have hp := lev_pos hlt
        have hll : (lev [t] k).length ≤ 9223372036854775807 := by have := len_le_sizes (lev [t] k); have := HS.out; omega
        have HC := Lib.hid (eqFunc_any w (lev [t] k) (lev [s] k) wr A B c d hrow hrow' hb hll)
        have HNO : Hid (alikeB (lev [t] k) (lev [s] k) = false → same t s = false) := Lib.hid (fun hal => same_no (fun e => by
          subst e
          rw [alike_yes (alike_of_eq _)] at hal
          cases hal))
        have HNX : Hid (alikeB (lev [t] k) (lev [s] k) = true → (lev [t] (k + 1)).length = (lev [s] (k + 1)).length ∧ (lev [t] (k + 1) = lev [s] (k + 1) → t = s)) := Lib.hid (fun hal => by
          obtain ⟨h1, h2⟩ := alike_next (alike_iff.1 hal)
          exact ⟨h1, fun e => hinj (h2 e)⟩)
        have HA1 := Lib.hid (fun W (hB : Below wr.heap.size wr W) => args_any w (lev [t] k) W A c (hrow.under hB) (hb.trans (hB.mono hb.size)) (by have := HS.out; omega))
        have HA2 := Lib.hid (fun W (hB : Below wr.heap.size wr W) => args_any w (lev [s] k) W B d (hrow'.under hB) (hb.trans (hB.mono hb.size)) (by have := HS'.out; omega))
        have HB := Lib.hid hb
        rw [← hlen] at HC HA2 HMU ⊢
        clear hrow hrow' hb hinj hsz hsz' hlen
        generalize hm : (lev [t] k).length = m at hp HC HA1 HA2 HMU ⊢
        clear hm
        go_wp2_with fail
        refine HC.out.mono ?_
        rintro e w2 ⟨rfl, hb2⟩
        have HB2 := Lib.hid hb2
        have HBW2 := Lib.hid (HB.out.trans (hb2.mono HB.out.size))
        clear hb2 HC
        generalize alikeB (lev [t] k) (lev [s] k) = al at HNO HNX ⊢
        cases al with
        | false =>
          have HF : Hid (Truth (same t s) w (.returned (.bool false)) w2) := by rw [HNO.out rfl]; exact ⟨rfl, HBW2.out⟩
          clear HNO HNX HMU
          go_wp2_with fail
          go_ret
          exact HF.out
        | true =>
          have HX := Lib.hid (HNX.out rfl)
          have HC := Lib.hid (HA1.out w2 HB2.out)
          clear HNO HNX
          go_wp2_with fail
          refine HC.out.mono ?_
          rintro e w3 ⟨A3, c3, rfl, hr3, _, hb3⟩
          have HR3 := Lib.hid hr3
          have HB3 := Lib.hid (HB2.out.trans (hb3.mono HB2.out.size))
          have HC2 := Lib.hid (HA2.out w3 HB3.out)
          clear hr3 hb3 HC
          go_wp2_with fail
          refine HC2.out.mono ?_
          rintro e w4 ⟨B4, d4, rfl, hr4, _, hb4⟩
          have HF : Hid (EqInv w t s (k + 1) (.slice A3 (nextL (lev [t] k)).length c3) (.slice B4 (nextL (lev [s] k)).length d4) w4) :=
            ⟨hlt, HX.out.1, HX.out.2, ⟨A3, c3, rfl, HR3.out.under hb4⟩, ⟨B4, d4, rfl, hr4⟩, (HB.out.trans (HB3.out.mono HB.out.size)).trans (hb4.mono (by have := HB.out.size; have := HB3.out.size; omega))⟩
          clear hr4 hb4 HC2
          generalize (nextL (lev [t] k)).length = z1 at HF ⊢
          generalize (nextL (lev [s] k)).length = z2 at HF ⊢
          go_wp2_with fail
          go_roundw
          case rel => exact ⟨k + 1, HF.out⟩
          case measure =>
            rw [HMU.out]
            have h5 := (least_at (Q := fun m => ∃ k, EqInv w t s k (.slice A3 z1 c3) (.slice B4 z2 d4) w4 ∧ m = t.deep - k) ⟨k + 1, HF.out, rfl⟩).2 _ ⟨k + 1, HF.out, rfl⟩
            have := HME.out
            omega
      · have he : k = t.deep := by omega
        have hnil : lev [t] k = [] := lev_end (by omega)
        have hnil' : lev [s] k = [] := List.eq_nil_of_length_eq_zero (by rw [← hlen, hnil]; rfl)
        have HF : Hid (Truth (same t s) w (.returned (.bool true)) wr) := by rw [same_yes (hinj (by rw [hnil, hnil']))]; exact ⟨rfl, hb⟩
        rw [hnil, hnil']
        clear he hnil hnil' hrow hrow' hinj hb HMU HME
        go_wp2_with fail
        go_ret
        exact HF.out
end Go.Proofs.Ytffaggiblglcbaa

/-
  The laws' own bound on a draw: 'big'.
-/
namespace Go.Proofs.Ytffaggiblglcbaa
open Go.RowKit

theorem big_any (A : Option Addr) (n cap : Nat) (w : World) : Calls Try.prog 6 #[.slice A n cap] w (fun e w' => e = .returned (.bool (decide (1048576 < (n : Int)))) ∧ w = w') := by
  go_enter Try.func6, Try.ntmps6
  go_wp2_with fail
  go_ret
  exact ⟨rfl, rfl⟩
end Go.Proofs.Ytffaggiblglcbaa
