/-
  Merged by program: ValLim.
-/
import Derived.Test.YtlikmgkjilmjpaaH33
import Derived.Test.YtlikmgkjilmjpaaH4

/-
  The program's isWithinMaxValue.
-/
namespace Go.Proofs.Ytlikmgkjilmjpaa
open Go.RowKit Go.Shelf

attribute [local go_sem] Oper.semAt_some

/-- between two rounds: H + 1 holds the answer, H + 2 how many nodes were given, H + 3 the value -/
def LimV (w : World) (H M : Nat) (S : Stk) (F : Nat → Prop) (W : World) : Prop :=
  F = (fun b => b = H + 1 ∨ b = H + 2) ∧ H + 2 < W.heap.size ∧ Below w.heap.size w W ∧ StkR w (H + 3) S W ∧ Boxed W (H + 1) 4 (.bool false) ∧ ∃ q, q + sizesS S = M ∧ q ≤ 2000 ∧ Boxed W (H + 2) 3 (.int .i64 (q : Int))
/-- a round has left -/
def LimVX (w : World) (H M : Nat) (W : World) : Prop := H + 2 < W.heap.size ∧ Below w.heap.size w W ∧ Boxed W (H + 1) 4 (.bool false) ∧ 2000 < M
theorem LimV.keep {w : World} {H M : Nat} {S : Stk} {F : Nat → Prop} {lo : Nat} (hw : w.heap.size ≤ H) (hlo : H + 4 ≤ lo) {A B : World} (h : LimV w H M S F A) (hH : Held (fun i => i < lo ∨ F i) A B) : LimV w H M S F B := by
  obtain ⟨rfl, h1, h2, h3, h4, q, h5, h6, h7⟩ := h
  refine ⟨rfl, Nat.lt_of_lt_of_le h1 hH.size, h2.trans (hH.below h2.size fun i hi => .inl (by omega)), h3.held hH fun b hb => .inl (by omega), ?_, q, h5, h6, ?_⟩
  · exact (hH.block (H + 1) (by omega) (.inl (by omega))).trans h4
  · exact (hH.block (H + 2) (by omega) (.inl (by omega))).trans h7
theorem LimVX.keep {w : World} {H M D : Nat} (hD : H + 1 ≠ D) (hD' : w.heap.size ≤ D) {A B : World} (h : LimVX w H M A) (hH : Held (fun i => i ≠ D) A B) : LimVX w H M B := by
  obtain ⟨h1, h2, h3, h4⟩ := h
  refine ⟨Nat.lt_of_lt_of_le h1 hH.size, h2.trans (hH.below h2.size fun i hi => by show i ≠ D; omega), ?_, h4⟩
  exact (hH.block (H + 1) (by omega) hD).trans h3

set_option maxRecDepth 100000 in
set_option maxHeartbeats 2000000 in
theorem implMaxV_any (t : Va) (w : World) (cs : List Value) (h : RVa w t cs) (hs : t.size ≤ 1048577) : Calls Try.prog 48 #[.agg cs.toArray] w (Truth (decide (t.size ≤ 2000)) w) := by
  obtain ⟨c0, c1, c2, c3, rfl⟩ := h.four
  obtain ⟨H, hH⟩ : ∃ H, w.heap.size = H := ⟨_, rfl⟩
  obtain ⟨W0, hW0⟩ : ∃ W0, ((((w.alloc (.cells #[c0, c1, c2, c3] 30)).alloc (.cells #[.bool false] 4)).alloc (.cells #[.int .i64 0] 3)).alloc (.cells #[c0, c1, c2, c3] 30)) = W0 := ⟨_, rfl⟩
  obtain ⟨W2, hW2⟩ : ∃ W2, (W0.alloc (.cells #[.slice (some ⟨H + 3, 0, none⟩) 1 1] 28)).alloc (.cells #[.func (.func 54) #[] #[]] 75) = W2 := ⟨_, rfl⟩
  have hz0 : W0.heap.size = H + 4 := by rw [← hW0, ← hH]; simp
  have hz2 : W2.heap.size = H + 6 := by rw [← hW2]; simp; omega
  have hb0 : Below w.heap.size w W0 := by rw [← hW0]; exact ((((Below.refl _ _).alloc (Nat.le_refl _) _).alloc (by simp) _).alloc (by simp; omega) _).alloc (by simp; omega) _
  have hb2 : Below w.heap.size w W2 := by rw [← hW2]; exact (hb0.alloc hb0.size _).alloc (by have := hb0.size; simp; omega) _
  have hbx : Boxed W2 (H + 4) 28 (.slice (some ⟨H + 3, 0, none⟩) 1 1) := by rw [← hW2, ← hz0]; exact (Boxed.new W0 _ _).alloc _
  have hbf : Boxed W2 (H + 5) 75 (.func (.func 54) #[] #[]) := by
    rw [← hW2, show H + 5 = W0.heap.size + 1 by omega]
    have := Boxed.new (W0.alloc (.cells #[.slice (some ⟨H + 3, 0, none⟩) 1 1] 28)) 75 (.func (.func 54) #[] #[])
    rw [World.size_alloc] at this
    exact this
  have hrow : Box4 W2 (H + 3) 30 c0 c1 c2 c3 := by
    rw [← hW2, ← hW0, ← hH]
    have := (Box4.new (((w.alloc (.cells #[c0, c1, c2, c3] 30)).alloc (.cells #[.bool false] 4)).alloc (.cells #[.int .i64 0] 3)) 30 c0 c1 c2 c3).alloc (.cells #[.slice (some ⟨w.heap.size + 3, 0, none⟩) 1 1] 28)
    simpa using this.alloc (.cells #[.func (.func 54) #[] #[]] 75)
  have hr0 : Boxed W2 (H + 1) 4 (.bool false) := by
    rw [← hW2, ← hW0, ← hH]
    have := (((Boxed.new (w.alloc (.cells #[c0, c1, c2, c3] 30)) 4 (.bool false)).alloc (.cells #[.int .i64 0] 3)).alloc (.cells #[c0, c1, c2, c3] 30)).alloc (.cells #[.slice (some ⟨w.heap.size + 3, 0, none⟩) 1 1] 28)
    simpa using this.alloc (.cells #[.func (.func 54) #[] #[]] 75)
  have hi0 : Boxed W2 (H + 2) 3 (.int .i64 0) := by
    rw [← hW2, ← hW0, ← hH]
    have := ((Boxed.new ((w.alloc (.cells #[c0, c1, c2, c3] 30)).alloc (.cells #[.bool false] 4)) 3 (.int .i64 0)).alloc (.cells #[c0, c1, c2, c3] 30)).alloc (.cells #[.slice (some ⟨w.heap.size + 3, 0, none⟩) 1 1] 28)
    simpa using this.alloc (.cells #[.func (.func 54) #[] #[]] 75)
  have hI0 : LimV w H t.size [([t], .slice (some ⟨H + 3, 0, none⟩) 1 1)] (fun b => b = H + 1 ∨ b = H + 2) W2 :=
    ⟨rfl, by omega, hb2, stkR_one h hrow, hr0, 0, by simp [sizesS, sizesV_one], by omega, hi0⟩
  have hL := valueLists_any W0 (some ⟨H + 3, 0, none⟩) 1 1
  rw [hz0] at hL
  have HL := Lib.hid hL
  have HW0 := Lib.hid hW0
  have HW2 := Lib.hid hW2
  have HB2 := Lib.hid hb2
  have HI0 := Lib.hid hI0
  have HH := Lib.hid hH
  have HZ2 := Lib.hid hz2
  have HT := Lib.hid h
  have HS := Lib.hid hs
  have HBX := Lib.hid hbx
  have HBF := Lib.hid hbf
  clear hL hW0 hW2 hb0 hb2 hI0 hi0 hr0 hH hz0 hz2 h hs hbx hbf hrow
  refine (callsIn_wide (n := 9)).1 ?_
  refine callsIn_of_wp_marks Try.func48 rfl trivial ?_ rfl
  simp only [Try.ntmps48, List.size_toArray, List.length_cons, List.length_nil, Nat.reduceAdd, Nat.reduceSub, Array.replicate_succ, Array.replicate_zero, List.push_toArray, List.append_toArray, List.nil_append, List.cons_append]
  have hHz := HH.out
  gi_wp2_with (refine ⟨trivial, ?_⟩; gi_at_call 39; rw [HW0.out]; refine (callsIn_wide.2 HL.out).mono ?_; rintro e W3 ⟨rfl, rfl⟩; rw [HW2.out])
  have hDz := HZ2.out
  refine wpIn_givesV (n := 9) (w := W2) rfl (by decide) (gf := 99) (lb := #[.pointer (some ⟨H + 4, 0, none⟩), .pointer (some ⟨H + 5, 0, none⟩)]) rfl trivial (enters_of Try.func99 (by kernel_rfl) rfl)
    (S0 := [([t], .slice (some ⟨H + 3, 0, none⟩) 1 1)]) (lo := H + 6) (Keep := fun q => q = H + 5) (by omega) (fun b hb => by omega) (fun W hW hz => ?gives)
    (LimV w H t.size) (LimVX w H t.size) (fun S F A C hi hh => hi.keep (by omega) (by omega) hh) (fun S F A hi b hb => by obtain ⟨rfl, h1, _⟩ := hi; have e : b = H + 1 ∨ b = H + 2 := hb; exact ⟨fun hk => by omega, by omega⟩) (fun A C hx hh => hx.keep (by omega) (by omega) hh) _ HI0.out
    (fun v => { tmps := #[.agg #[c0, c1, c2, c3], .pointer (some ⟨H, 0, none⟩), .pointer (some ⟨H + 1, 0, none⟩), .pointer (some ⟨H + 2, 0, none⟩), v, .agg #[c0, c1, c2, c3], .slice (some ⟨H + 3, 0, none⟩) 1 1, .func (.func 99) #[] #[.pointer (some ⟨H + 4, 0, none⟩), .pointer (some ⟨H + 5, 0, none⟩)], v, undef, undef, undef, undef, undef, undef], defers := [] }) ?assign ?body ?done ?stop
  case gives =>
    refine valueLists1_gives [t] _ 1 (H + 6) (9 - 1) (H + 4) (by decide) W (by have := hW.size; omega) (fun q => q = H + 5) rfl ((hW.block _ (by omega)).trans HBX.out) ((hW.block _ (by omega)).trans HBF.out) ?_
    have hss := HS.out
    rw [wS_cons]
    show 2 * sizesV [t] + 1 + wS [] ≤ _
    rw [sizesV_one]
    simp [wS]
    omega
  case assign =>
    intro l v W K hK
    gi_wp2
    exact hK
  case body =>
    rintro l ts s S F W ⟨rfl, hC, hB, hR, hbf, q, hq, hq2, hi⟩ _ _ _
    obtain ⟨A, c, hse, hts, _⟩ := hR _ (List.mem_cons_self ..)
    simp only at hse hts
    subst hse
    have hpush := sizesS_push ts (fun _ => undef) S (.slice A ts.length c)
    have hqm : q + ts.length ≤ 1048577 := by have := HS.out; omega
    obtain ⟨m, hmm⟩ : ∃ m, ts.length = m := ⟨_, rfl⟩
    have hc := hi.cell
    have hf := hi.frozen
    have hc1 := hbf.cell
    have hf1 := hbf.frozen
    have HF : Hid (q + m ≤ 2000 → ∀ v, v = Value.int .i64 ((q + m : Nat) : Int) → givesPostV (H + 6) (LimV w H t.size) (LimVX w H t.size) ts (.slice A m c) S (fun b => b = H + 1 ∨ b = H + 2) W .normal { tmps := #[], defers := [] } (W.setCell ⟨H + 2, 0, none⟩ v)) := by
      rintro hle v rfl
      have hset : Held (fun i => ¬ (i = H + 1 ∨ i = H + 2)) W (W.setCell ⟨H + 2, 0, none⟩ (.int .i64 ((q + m : Nat) : Int))) := Held.set W (fun h => h (.inr rfl)) _
      have hB' : Below w.heap.size w (W.setCell ⟨H + 2, 0, none⟩ (.int .i64 ((q + m : Nat) : Int))) := hB.setCell (p := ⟨H + 2, 0, none⟩) (by show w.heap.size ≤ H + 2; omega) _
      obtain ⟨As, hrow, hst⟩ := stkR_next (lo := H + 6) (F := fun b => b = H + 1 ∨ b = H + 2) (hR.held hset (fun b hb => by omega)) hB' (by omega) (by omega)
      rw [hmm] at hrow
      refine ⟨hset, As, fun b => b = H + 1 ∨ b = H + 2, fun b hb => .inl hb, hrow, rfl, by simpa [World.setCell] using hC, hB', hst, hbf.other (by omega) _, q + m, ?_, hle, hi.set _⟩
      have := sizesS_push ts As S (.slice A ts.length c)
      omega
    have HX : Hid (2000 < q + m → ∀ v, givesPostV (H + 6) (LimV w H t.size) (LimVX w H t.size) ts (.slice A m c) S (fun b => b = H + 1 ∨ b = H + 2) W .ret { tmps := #[], defers := [] } ((W.setCell ⟨H + 2, 0, none⟩ v).setCell ⟨H + 1, 0, none⟩ (.bool false))) := by
      intro hlt v
      refine ⟨(Held.set W (fun h => h (.inr rfl)) _).trans (Held.set _ (fun h => h (.inl rfl)) _), by simpa [World.setCell] using hC, ?_, ?_, by omega⟩
      · exact (hB.setCell (p := ⟨H + 2, 0, none⟩) (by show w.heap.size ≤ H + 2; omega) _).setCell (p := ⟨H + 1, 0, none⟩) (by show w.heap.size ≤ H + 1; omega) _
      · exact (hbf.other (by omega) _).set _
    rw [hmm] at hqm ⊢
    clear hi hR hq hpush hB hmm hts hbf
    by_cases hgt : (2000 : Int) < (q : Int) + (m : Int)
    · have HX2 := Lib.hid (HX.out (by omega))
      clear HX HF
      gi_wp2
      exact HX2.out _
    · have HF2 := Lib.hid (HF.out (by omega))
      clear HX HF
      gi_wp2
      exact HF2.out (.int .i64 ((q : Int) + (m : Int))) (by go_num)
  case done =>
    rintro F W ⟨rfl, hC, hB, hR, hbf, q, hq, hq2, hi⟩ hK
    have hqe : q = t.size := by simpa [sizesS] using hq
    have hTrue : decide (t.size ≤ 2000) = true := decide_eq_true (by omega)
    have hc := hbf.cell
    have hf := hbf.frozen
    have H3 := Lib.hid (hbf.set (.bool true))
    have HB := Lib.hid hB
    have hD : (W.setCell ⟨H + 1, 0, none⟩ (.bool true)).heap[W2.heap.size]? = some (.deferred (some [])) := (Below.heap_setCell _ _ _ _ (by show W2.heap.size ≠ H + 1; omega)).trans hK
    have HD := Lib.hid hD
    have HT2 := Lib.hid hTrue
    clear hi hR hq hB hbf hq2 hqe hTrue hD
    gi_wp2
    refine ⟨by simp, .inl ⟨_, _, rfl, run_takeDeferred HD.out, ?_⟩⟩
    have hb4 := (boxed_below H3.out (below_put (B := W2.heap.size) _ (l := W2.heap.size) (o := .deferred none) (Nat.le_refl _)) (by omega)).cell
    refine ⟨.bool true, ?_, by rw [HT2.out], (HB.out.setCell (p := ⟨H + 1, 0, none⟩) (by show w.heap.size ≤ H + 1; omega) _).trans (below_put _ (by omega))⟩
    simp [results, Try.f48, go_sem, hb4]
  case stop =>
    rintro W ⟨hC, hB, hbf, hor⟩ hK
    have hFalse : decide (t.size ≤ 2000) = false := decide_eq_false (by omega)
    have hb4 := (boxed_below hbf (below_put (B := W2.heap.size) _ (l := W2.heap.size) (o := .deferred none) (Nat.le_refl _)) (by omega)).cell
    have HB := Lib.hid hB
    have HT2 := Lib.hid hFalse
    have HC4 := Lib.hid hb4
    clear hbf hB hor hFalse hb4
    gi_wp2
    refine ⟨by simp, .inl ⟨_, _, rfl, run_takeDeferred hK, ?_⟩⟩
    have hb4 := HC4.out
    refine ⟨.bool false, ?_, by rw [HT2.out], HB.out.trans (below_put _ (by omega))⟩
    simp [results, Try.f48, go_sem, hb4]
end Go.Proofs.Ytlikmgkjilmjpaa
