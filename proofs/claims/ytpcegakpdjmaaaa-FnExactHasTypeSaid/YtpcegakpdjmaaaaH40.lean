/-
  Merged by program: LevLim.
-/
import Derived.Test.YtpcegakpdjmaaaaH36
import Derived.Test.YtpcegakpdjmaaaaH9

/-
  The program's isWithinLimits.
-/
namespace Go.Proofs.Ytpcegakpdjmaaaa
open Go.RowKit Go.Shelf

attribute [local go_sem] Oper.semAt_some

def withinB (t : Ty) : Bool := decide (t.size ≤ 24) && decide (t.deep ≤ 7)

/-- between two rounds -/
def LimI (t : Ty) (w : World) (H k : Nat) (W : World) : Prop :=
  Boxed W (H + 2) 3 (.int .i64 ((upTo List.length [t] k : Nat) : Int)) ∧ Boxed W (H + 3) 3 (.int .i64 (k : Int)) ∧ Boxed W (H + 1) 4 (.bool false) ∧ Below w.heap.size w W ∧ upTo List.length [t] k ≤ 24 ∧ k ≤ 7
/-- a round has left -/
def LimX (t : Ty) (w : World) (H k : Nat) (W : World) : Prop :=
  Boxed W (H + 1) 4 (.bool false) ∧ Below w.heap.size w W ∧ (24 < upTo List.length [t] k ∨ 7 < k)

set_option maxRecDepth 100000 in
set_option maxHeartbeats 2000000 in
theorem implWithin_any (t : Ty) (w : World) (cs : List Value) (h : RTy w t cs) (hs : t.size ≤ 1048577) : Calls Try.prog 62 #[.agg cs.toArray] w (Truth (withinB t) w) := by
  obtain ⟨c0, c1, c2, rfl, _⟩ := h.three'
  obtain ⟨H, hH⟩ : ∃ H, w.heap.size = H := ⟨_, rfl⟩
  obtain ⟨W0, hW0⟩ : ∃ W0, (((w.alloc (.cells #[c0, c1, c2] 41)).alloc (.cells #[.bool false] 4)).alloc (.cells #[.int .i64 0] 3)).alloc (.cells #[.int .i64 0] 3) = W0 := ⟨_, rfl⟩
  obtain ⟨W2, hW2⟩ : ∃ W2, W0.alloc (.cells #[c0, c1, c2] 41) = W2 := ⟨_, rfl⟩
  have hz0 : W0.heap.size = H + 4 := by rw [← hW0, ← hH]; simp
  have hz2 : W2.heap.size = H + 5 := by rw [← hW2]; simp; omega
  have hb0 : Below w.heap.size w W0 := by rw [← hW0]; exact ((((Below.refl _ _).alloc (Nat.le_refl _) _).alloc (by simp) _).alloc (by simp; omega) _).alloc (by simp; omega) _
  have hb2 : Below w.heap.size w W2 := by rw [← hW2]; exact hb0.alloc hb0.size _
  have hbx : Box3 W2 (H + 4) 41 c0 c1 c2 := by rw [← hW2, ← hz0]; exact Box3.new W0 _ _ _ _
  have hr0 : Boxed W2 (H + 1) 4 (.bool false) := by
    rw [← hW2, ← hW0, ← hH]
    have := (((Boxed.new (w.alloc (.cells #[c0, c1, c2] 41)) 4 (.bool false)).alloc (.cells #[.int .i64 0] 3)).alloc (.cells #[.int .i64 0] 3)).alloc (.cells #[c0, c1, c2] 41)
    simpa using this
  have hi0 : Boxed W2 (H + 2) 3 (.int .i64 0) := by
    rw [← hW2, ← hW0, ← hH]
    have := ((Boxed.new ((w.alloc (.cells #[c0, c1, c2] 41)).alloc (.cells #[.bool false] 4)) 3 (.int .i64 0)).alloc (.cells #[.int .i64 0] 3)).alloc (.cells #[c0, c1, c2] 41)
    simpa using this
  have hi1 : Boxed W2 (H + 3) 3 (.int .i64 0) := by
    rw [← hW2, ← hW0, ← hH]
    have := (Boxed.new (((w.alloc (.cells #[c0, c1, c2] 41)).alloc (.cells #[.bool false] 4)).alloc (.cells #[.int .i64 0] 3)) 3 (.int .i64 0)).alloc (.cells #[c0, c1, c2] 41)
    simpa using this
  have hI0 : LimI t w H 0 W2 := ⟨hi0, hi1, hr0, hb2, Nat.zero_le _, Nat.zero_le _⟩
  have hL := levels_any W0 c0 c1 c2
  rw [hz0] at hL
  have HL := Lib.hid hL
  have HW0 := Lib.hid hW0
  have HW2 := Lib.hid hW2
  have HB2 := Lib.hid hb2
  have HI0 := Lib.hid hI0
  have HH := Lib.hid hH
  have HZ2 := Lib.hid hz2
  have HT := Lib.hid h
  have HS := Lib.hid hs
  have HBX := Lib.hid hbx
  clear hL hW0 hW2 hb0 hb2 hI0 hi0 hi1 hr0 hH hz0 hz2 h hs hbx
  refine (callsIn_wide (n := 9)).1 ?_
  refine callsIn_of_wp_marks Try.func62 rfl trivial ?_ rfl
  simp only [Try.ntmps62, List.size_toArray, List.length_cons, List.length_nil, Nat.reduceAdd, Nat.reduceSub, Array.replicate_succ, Array.replicate_zero, List.push_toArray, List.append_toArray, List.nil_append, List.cons_append]
  gi_wp2_with (refine ⟨trivial, ?_⟩; gi_at_call 82; rw [HW0.out]; refine (callsIn_wide.2 HL.out).mono ?_; rintro e W3 ⟨rfl, rfl⟩; rw [HW2.out])
  have hDz := HZ2.out
  have hHz := HH.out
  refine wpIn_gives rfl (by decide) (gf := 98) (lb := #[.pointer (some ⟨H + 4, 0, none⟩)]) rfl trivial (enters_of Try.func98 (by kernel_rfl) rfl)
    (N := t.deep) (Rd := LevRd w t (W2.heap.size + 2)) (lo := w.heap.size) (by omega) (fun W hW hz => ?gives) (fun k v A C hr hk => hr.apart hk)
    (LimI t w H) (LimX t w H) (fun k A C hi hb => ?keepI) (fun k A C hi hb => ?keepX) HI0.out
    (fun v => { tmps := #[.agg #[c0, c1, c2], .pointer (some ⟨H, 0, none⟩), .pointer (some ⟨H + 1, 0, none⟩), .pointer (some ⟨H + 2, 0, none⟩), .pointer (some ⟨H + 3, 0, none⟩), v, .agg #[c0, c1, c2], .func (.func 98) #[] #[.pointer (some ⟨H + 4, 0, none⟩)], v, undef, undef, undef, undef, undef, undef, undef, undef, undef, undef, undef, undef], defers := [] }) ?assign ?body ?done ?stop
  case gives =>
    have hg := levels1_gives w t c0 c1 c2 HT.out HS.out (9 - 1) (H + 4) (by decide) W (HB2.out.trans (hW.mono (by omega))) ((hW.block _ (by omega)).trans HBX.out)
    rw [hz] at hg
    exact hg
  case keepI =>
    exact ⟨boxed_below hi.1 hb (by omega), boxed_below hi.2.1 hb (by omega), boxed_below hi.2.2.1 hb (by omega), hi.2.2.2.1.trans (hb.mono (by omega)), hi.2.2.2.2⟩
  case keepX =>
    exact ⟨boxed_below hi.1 hb (by omega), hi.2.1.trans (hb.mono (by omega)), hi.2.2⟩
  case assign =>
    intro l v W K hK
    gi_wp2
    exact hK
  case body =>
    rintro l k v W hk ⟨hi1, hi2, hi3, hB, hq24, hk7⟩ ⟨A, c, rfl, hA, hrow⟩
    have hq : upTo List.length [t] (k + 1) = upTo List.length [t] k + (lev [t] k).length := rfl
    have hle := upTo_size [t] (k + 1)
    rw [sizes_one, hq] at hle
    have hSS := HS.out
    obtain ⟨q, hqq⟩ : ∃ q, upTo List.length [t] k = q := ⟨_, rfl⟩
    obtain ⟨m, hmm⟩ : ∃ m, (lev [t] k).length = m := ⟨_, rfl⟩
    rw [hqq, hmm] at hle hq
    rw [hqq] at hi1
    rw [hmm]
    have hqm : q + m ≤ 1048577 := by omega
    have HQ := Lib.hid hq
    have I1 := Lib.hid hi1
    have I2 := Lib.hid hi2
    have I3 := Lib.hid hi3
    have HB := Lib.hid hB
    obtain ⟨V', hV'⟩ : ∃ V', (W.setCell ⟨H + 2, 0, none⟩ (.int .i64 ((q : Int) + (m : Int)))).setCell ⟨H + 3, 0, none⟩ (.int .i64 ((k : Int) + 1)) = V' := ⟨_, rfl⟩
    have u1 : Boxed V' (H + 2) 3 (.int .i64 ((q + m : Nat) : Int)) := by rw [← hV', Int.natCast_add]; exact (hi1.set _).other (by omega) _
    have u2 : Boxed V' (H + 3) 3 (.int .i64 ((k + 1 : Nat) : Int)) := by rw [← hV', Int.natCast_add]; exact (hi2.other (by omega) _).set _
    have u3 : Boxed V' (H + 1) 4 (.bool false) := by rw [← hV']; exact (hi3.other (by omega) _).other (by omega) _
    have hap : Apart w.heap.size W2.heap.size W V' := by
      rw [← hV']
      exact (Apart.set W (by show w.heap.size ≤ H + 2; omega) (by show H + 2 < W2.heap.size; omega) _).trans (Apart.set _ (by show w.heap.size ≤ H + 3; omega) (by show H + 3 < W2.heap.size; omega) _)
    have hbv : Below w.heap.size w V' := by rw [← hV']; exact (hB.setCell (p := ⟨H + 2, 0, none⟩) (by show w.heap.size ≤ H + 2; omega) _).setCell (p := ⟨H + 3, 0, none⟩) (by show w.heap.size ≤ H + 3; omega) _
    have HIN : Hid (q + m ≤ 24 → k + 1 ≤ 7 → Apart w.heap.size W2.heap.size W V' ∧ LimI t w H (k + 1) V') := fun h1 h2 => by
      refine ⟨hap, ?_, u2, u3, hbv, ?_, h2⟩
      · rw [HQ.out]; exact u1
      · rw [HQ.out]; exact h1
    have HOUT : Hid ((24 < q + m ∨ 7 < k + 1) → Apart w.heap.size W2.heap.size W (V'.setCell ⟨H + 1, 0, none⟩ (.bool false)) ∧ LimX t w H (k + 1) (V'.setCell ⟨H + 1, 0, none⟩ (.bool false))) := fun h1 => by
      refine ⟨hap.trans (Apart.set _ (by show w.heap.size ≤ H + 1; omega) (by show H + 1 < W2.heap.size; omega) _), u3.set _, hbv.setCell (p := ⟨H + 1, 0, none⟩) (by show w.heap.size ≤ H + 1; omega) _, ?_⟩
      rw [HQ.out]; exact h1
    rw [← hV'] at HIN HOUT
    have a1 := hi1.cell
    have a2 := hi1.frozen
    have b1 := hi2.cell
    have b2 := hi2.frozen
    have d1 := hi3.cell
    have d2 := hi3.frozen
    clear hq hqq hmm hle hi1 hi2 hi3 hA hrow hB u1 u2 u3 hap hbv hV' hq24
    by_cases h1 : (24 : Int) < (q : Int) + (m : Int)
    · have HF := Lib.hid (HOUT.out (.inl (by omega)))
      clear HIN HOUT
      gi_wp2
      exact HF.out
    · by_cases h2 : (7 : Int) < (k : Int) + 1
      · have HF := Lib.hid (HOUT.out (.inr (by omega)))
        clear HIN HOUT
        gi_wp2
        first | exact HF.out | (have e := HF.out; rw [hDz, hHz] at e; exact e)
      · have HF := Lib.hid (HIN.out (by omega) (by omega))
        clear HIN HOUT
        gi_wp2
        first | exact HF.out | (have e := HF.out; rw [hDz, hHz] at e; exact e)
  case done =>
    rintro W ⟨hi1, hi2, hi3, hB, hq24, hk7⟩ hK
    rw [upTo_size_all] at hq24
    have hTrue : withinB t = true := by unfold withinB; simp [hq24, hk7]
    have hc := hi3.cell
    have hf := hi3.frozen
    have H3 := Lib.hid (hi3.set (.bool true))
    have HB := Lib.hid hB
    have hD : (W.setCell ⟨H + 1, 0, none⟩ (.bool true)).heap[W2.heap.size]? = some (.deferred (some [])) := (Below.heap_setCell _ _ _ _ (by show W2.heap.size ≠ H + 1; omega)).trans hK
    have HD := Lib.hid hD
    have HT2 := Lib.hid hTrue
    clear hi1 hi2 hi3 hB hq24 hk7 hTrue hD
    gi_wp2
    refine ⟨by simp, .inl ⟨_, _, rfl, run_takeDeferred HD.out, ?_⟩⟩
    have hb4 := (boxed_below H3.out (below_put (B := W2.heap.size) _ (l := W2.heap.size) (o := .deferred none) (Nat.le_refl _)) (by omega)).cell
    refine ⟨.bool true, ?_, by rw [HT2.out], (HB.out.setCell (p := ⟨H + 1, 0, none⟩) (by show w.heap.size ≤ H + 1; omega) _).trans (below_put _ (by omega))⟩
    simp [results, Try.f62, go_sem, hHz, hb4]
  case stop =>
    rintro k W hk ⟨hi3, hB, hor⟩ hK
    have hFalse : withinB t = false := by
      have h1 := upTo_mono List.length [t] hk
      rw [upTo_size_all] at h1
      unfold withinB
      rcases hor with h | h
      · rw [decide_eq_false (by omega)]; rfl
      · rw [decide_eq_false (p := t.deep ≤ 7) (by omega), Bool.and_false]
    have hb4 := (boxed_below hi3 (below_put (B := W2.heap.size) _ (l := W2.heap.size) (o := .deferred none) (Nat.le_refl _)) (by omega)).cell
    have HB := Lib.hid hB
    have HT2 := Lib.hid hFalse
    have HC4 := Lib.hid hb4
    clear hi3 hB hor hFalse hb4
    gi_wp2
    refine ⟨by simp, .inl ⟨_, _, rfl, run_takeDeferred hK, ?_⟩⟩
    have hb4 := HC4.out
    refine ⟨.bool false, ?_, by rw [HT2.out], HB.out.trans (below_put _ (by omega))⟩
    simp [results, Try.f62, go_sem, hHz, hb4]
end Go.Proofs.Ytpcegakpdjmaaaa
