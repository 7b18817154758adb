/-
  Merged by program: LevSize, ValSize.
-/
import Derived.Test.YtpcegakpdjmaaaaH30
import Derived.Test.YtpcegakpdjmaaaaH35
import Derived.Test.YtpcegakpdjmaaaaH10

/-
  The program's SizeOfType and DepthOfType.
-/
namespace Go.Proofs.Ytpcegakpdjmaaaa
open Go.RowKit Go.Shelf

attribute [local go_sem] Oper.semAt_some

def FnAt (p : Nat) (c0 c1 c2 : Value) (w : World) (e : Ending) (w' : World) : Prop := e = .returned (.func (.func 98) #[] #[.pointer (some ⟨p, 0, none⟩)]) ∧ w' = w.alloc (.cells #[c0, c1, c2] 41)
theorem levels_any (w : World) (c0 c1 c2 : Value) : Calls Try.prog 82 #[.agg #[c0, c1, c2]] w (FnAt w.heap.size c0 c1 c2 w) := by
  have hR : Hid (FnAt w.heap.size c0 c1 c2 w (.returned (.func (.func 98) #[] #[.pointer (some ⟨w.heap.size, 0, none⟩)])) (w.alloc (.cells #[c0, c1, c2] 41))) := ⟨rfl, rfl⟩
  go_enter Try.func82, Try.ntmps82
  go_wp2_with fail
  go_ret
  exact hR.out

/-- a variable holds a number; what was there is as it was -/
def CountI (w : World) (B : Nat) (q : Nat) (W : World) : Prop := Boxed W B 3 (.int .i64 (q : Int)) ∧ Below w.heap.size w W
theorem boxed_below {A C : World} {B D : Nat} {ty : TypeId} {v : Value} (h : Boxed A B ty v) (hb : Below D A C) (hB : B < D) : Boxed C B ty v := (hb.block B hB).trans h
theorem CountI.under {w A C : World} {B q D : Nat} (h : CountI w B q A) (hb : Below D A C) (hB : B < D) (hw : w.heap.size ≤ D) : CountI w B q C :=
  ⟨boxed_below h.1 hb hB, h.2.trans (hb.mono hw)⟩
theorem CountI.set {w W : World} {B q m : Nat} (h : CountI w B q W) (hB : w.heap.size ≤ B) : CountI w B m (W.setCell ⟨B, 0, none⟩ (.int .i64 (m : Int))) :=
  ⟨h.1.set _, h.2.setCell (p := ⟨B, 0, none⟩) hB _⟩

end Go.Proofs.Ytpcegakpdjmaaaa

/-
  The program's SizeOfValue.
-/
namespace Go.Proofs.Ytpcegakpdjmaaaa
open Go.RowKit Go.Shelf

attribute [local go_sem] Oper.semAt_some

/-- between two rounds: the variable at C holds how many nodes were given -/
def CntV (w : World) (G C M : Nat) (S : Stk) (F : Nat → Prop) (W : World) : Prop :=
  F = (fun b => b = C) ∧ C < W.heap.size ∧ Below w.heap.size w W ∧ StkR w G S W ∧ ∃ q, q + sizesS S = M ∧ Boxed W C 3 (.int .i64 (q : Int))
theorem CntV.keep {w : World} {G C M : Nat} {S : Stk} {F : Nat → Prop} {lo : Nat} (hlo : w.heap.size ≤ lo) (hG : G < lo) {A B : World} (h : CntV w G C M S F A) (hH : Held (fun i => i < lo ∨ F i) A B) : CntV w G C M S F B := by
  obtain ⟨rfl, h1, h2, h3, q, h4, h5⟩ := h
  refine ⟨rfl, Nat.lt_of_lt_of_le h1 hH.size, h2.trans (hH.below h2.size fun i hi => .inl (by omega)), h3.held hH fun b hb => .inl (by omega), q, h4, ?_⟩
  exact (hH.block C h1 (.inr rfl)).trans h5

set_option maxRecDepth 100000 in
set_option maxHeartbeats 2000000 in
theorem implSizeV_any (t : Va) (w : World) (cs : List Value) (h : RVa w t cs) (hs : t.size ≤ 1048577) : Calls Try.prog 12 #[.agg cs.toArray] w (Counts t.size w) := by
  obtain ⟨c0, c1, c2, c3, rfl⟩ := h.four
  obtain ⟨H, hH⟩ : ∃ H, w.heap.size = H := ⟨_, rfl⟩
  obtain ⟨W0, hW0⟩ : ∃ W0, (((w.alloc (.cells #[c0, c1, c2, c3] 30)).alloc (.cells #[.int .i64 0] 3)).alloc (.cells #[c0, c1, c2, c3] 30)) = W0 := ⟨_, rfl⟩
  obtain ⟨W2, hW2⟩ : ∃ W2, W0.alloc (.cells #[.slice (some ⟨H + 2, 0, none⟩) 1 1] 28) = W2 := ⟨_, rfl⟩
  have hz0 : W0.heap.size = H + 3 := by rw [← hW0, ← hH]; simp
  have hz2 : W2.heap.size = H + 4 := by rw [← hW2]; simp; omega
  have hb0 : Below w.heap.size w W0 := by rw [← hW0]; exact (((Below.refl _ _).alloc (Nat.le_refl _) _).alloc (by simp) _).alloc (by simp; omega) _
  have hb2 : Below w.heap.size w W2 := by rw [← hW2]; exact hb0.alloc hb0.size _
  have hbx : Boxed W2 (H + 3) 28 (.slice (some ⟨H + 2, 0, none⟩) 1 1) := by rw [← hW2, ← hz0]; exact Boxed.new W0 _ _
  have hrow : Box4 W2 (H + 2) 30 c0 c1 c2 c3 := by
    rw [← hW2, ← hW0, ← hH]
    have := (Box4.new ((w.alloc (.cells #[c0, c1, c2, c3] 30)).alloc (.cells #[.int .i64 0] 3)) 30 c0 c1 c2 c3).alloc (.cells #[.slice (some ⟨w.heap.size + 2, 0, none⟩) 1 1] 28)
    simpa using this
  have hi0 : Boxed W2 (H + 1) 3 (.int .i64 0) := by
    rw [← hW2, ← hW0, ← hH]
    have := ((Boxed.new (w.alloc (.cells #[c0, c1, c2, c3] 30)) 3 (.int .i64 0)).alloc (.cells #[c0, c1, c2, c3] 30)).alloc (.cells #[.slice (some ⟨w.heap.size + 2, 0, none⟩) 1 1] 28)
    simpa using this
  have hI0 : CntV w (H + 2) (H + 1) t.size [([t], .slice (some ⟨H + 2, 0, none⟩) 1 1)] (fun b => b = H + 1) W2 :=
    ⟨rfl, by omega, hb2, stkR_one h hrow, 0, by simp [sizesS, sizesV_one], hi0⟩
  have hL := valueLists_any W0 (some ⟨H + 2, 0, none⟩) 1 1
  rw [hz0] at hL
  have HL := Lib.hid hL
  have HW0 := Lib.hid hW0
  have HW2 := Lib.hid hW2
  have HB2 := Lib.hid hb2
  have HI0 := Lib.hid hI0
  have HH := Lib.hid hH
  have HZ2 := Lib.hid hz2
  have HT := Lib.hid h
  have HS := Lib.hid hs
  have HBX := Lib.hid hbx
  clear hL hW0 hW2 hb0 hb2 hI0 hi0 hH hz0 hz2 h hs hbx hrow
  refine (callsIn_wide (n := 9)).1 ?_
  refine callsIn_of_wp_marks Try.func12 rfl trivial ?_ rfl
  simp only [Try.ntmps12, List.size_toArray, List.length_cons, List.length_nil, Nat.reduceAdd, Nat.reduceSub, Array.replicate_succ, Array.replicate_zero, List.push_toArray, List.append_toArray, List.nil_append, List.cons_append]
  have hHz := HH.out
  gi_wp2_with (refine ⟨trivial, ?_⟩; gi_at_call 33; rw [HW0.out]; refine (callsIn_wide.2 HL.out).mono ?_; rintro e W3 ⟨rfl, rfl⟩; rw [HW2.out])
  have hDz := HZ2.out
  refine wpIn_givesV (n := 9) (w := W2) rfl (by decide) (gf := 57) (lb := #[.pointer (some ⟨H + 3, 0, none⟩)]) rfl trivial (enters_of Try.func57 (by kernel_rfl) rfl)
    (S0 := [([t], .slice (some ⟨H + 2, 0, none⟩) 1 1)]) (lo := H + 4) (by omega) (fun W hW hz => ?gives)
    (CntV w (H + 2) (H + 1) t.size) (fun _ => False) (fun S F A C hi hh => hi.keep (by omega) (by omega) hh) (fun S F A hi b hb => by obtain ⟨rfl, h1, _⟩ := hi; have e : b = H + 1 := hb; omega) (fun _ _ hf _ => hf) _ HI0.out
    (fun v => { tmps := #[.agg #[c0, c1, c2, c3], .pointer (some ⟨H, 0, none⟩), .int .i64 0, .pointer (some ⟨H + 1, 0, none⟩), v, .agg #[c0, c1, c2, c3], .slice (some ⟨H + 2, 0, none⟩) 1 1, .func (.func 57) #[] #[.pointer (some ⟨H + 3, 0, none⟩)], v, undef, undef, undef, undef, undef], defers := [] }) ?assign ?body ?done ?stop
  case gives =>
    refine valueLists1_gives [t] _ 1 (H + 4) (9 - 1) (H + 3) (by decide) W (by have := hW.size; omega) ((hW.block _ (by omega)).trans HBX.out) ?_
    have hss := HS.out
    rw [wS_cons]
    show 2 * sizesV [t] + 1 + wS [] ≤ _
    rw [sizesV_one]
    simp [wS]
    omega
  case assign =>
    intro l v W K hK
    gi_wp2
    exact hK
  case body =>
    rintro l ts s S F W ⟨rfl, hC, hB, hR, q, hq, hi⟩ _ _ _
    obtain ⟨A, c, hse, hts, _⟩ := hR _ (List.mem_cons_self ..)
    simp only at hse hts
    subst hse
    have hpush := sizesS_push ts (fun _ => undef) S (.slice A ts.length c)
    have hqm : q + ts.length ≤ 1048577 := by have := HS.out; omega
    obtain ⟨m, hmm⟩ : ∃ m, ts.length = m := ⟨_, rfl⟩
    have hc := hi.cell
    have hf := hi.frozen
    have HF : Hid (∀ v, v = Value.int .i64 ((q + m : Nat) : Int) → givesPostV (H + 4) (CntV w (H + 2) (H + 1) t.size) (fun _ => False) ts (.slice A m c) S (fun b => b = H + 1) W .normal { tmps := #[], defers := [] } (W.setCell ⟨H + 1, 0, none⟩ v)) := by
      rintro v rfl
      have hset : Held (fun i => ¬ i = H + 1) W (W.setCell ⟨H + 1, 0, none⟩ (.int .i64 ((q + m : Nat) : Int))) := Held.set W (fun h => h rfl) _
      have hB' : Below w.heap.size w (W.setCell ⟨H + 1, 0, none⟩ (.int .i64 ((q + m : Nat) : Int))) := hB.setCell (p := ⟨H + 1, 0, none⟩) (by show w.heap.size ≤ H + 1; omega) _
      obtain ⟨As, hrow, hst⟩ := stkR_next (lo := H + 4) (F := fun b => b = H + 1) (hR.held hset (fun b hb => by omega)) hB' (by omega) (by omega)
      rw [hmm] at hrow
      refine ⟨hset, As, fun b => b = H + 1, fun b hb => .inl hb, hrow, rfl, by simpa [World.setCell] using hC, hB', hst, q + m, ?_, hi.set _⟩
      have := sizesS_push ts As S (.slice A ts.length c)
      omega
    rw [hmm] at hqm ⊢
    clear hi hR hq hpush hB hmm hts
    gi_wp2
    exact HF.out (.int .i64 ((q : Int) + (m : Int))) (by go_num)
  case done =>
    rintro F W ⟨rfl, hC, hB, hR, q, hq, hi⟩ hK
    have hqe : q = t.size := by simpa [sizesS] using hq
    subst hqe
    have hc := hi.cell
    have HB := Lib.hid hB
    clear hi hR hq hB
    gi_wp2
    refine ⟨by simp, .inl ⟨_, _, rfl, run_takeDeferred hK, ?_⟩⟩
    exact ⟨_, results_tmp rfl _ _ _, rfl, HB.out.trans (below_put W (by omega))⟩
  case stop =>
    intro W hf
    exact hf.elim
end Go.Proofs.Ytpcegakpdjmaaaa
