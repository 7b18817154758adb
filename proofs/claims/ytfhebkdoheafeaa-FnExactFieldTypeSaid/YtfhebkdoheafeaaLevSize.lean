/-
  The program's SizeOfType and DepthOfType.
-/
import Derived.Test.YtfhebkdoheafeaaLevSeq
namespace Go.Proofs.Ytfhebkdoheafeaa
open Go.RowKit Go.Shelf

attribute [local go_sem] Oper.semAt_some

def FnAt (p : Nat) (c0 c1 c2 : Value) (w : World) (e : Ending) (w' : World) : Prop := e = .returned (.func (.func 78) #[] #[.pointer (some ⟨p, 0, none⟩)]) ∧ w' = w.alloc (.cells #[c0, c1, c2] 27)
theorem levels_any (w : World) (c0 c1 c2 : Value) : Calls Try.prog 40 #[.agg #[c0, c1, c2]] w (FnAt w.heap.size c0 c1 c2 w) := by
  have hR : Hid (FnAt w.heap.size c0 c1 c2 w (.returned (.func (.func 78) #[] #[.pointer (some ⟨w.heap.size, 0, none⟩)])) (w.alloc (.cells #[c0, c1, c2] 27))) := ⟨rfl, rfl⟩
  go_enter Try.func40, Try.ntmps40
  go_wp2_with fail
  go_ret
  exact hR.out

/-- a variable holds a number; what was there is as it was -/
def CountI (w : World) (B : Nat) (q : Nat) (W : World) : Prop := Boxed W B 3 (.int .i64 (q : Int)) ∧ Below w.heap.size w W
theorem boxed_below {A C : World} {B D : Nat} {ty : TypeId} {v : Value} (h : Boxed A B ty v) (hb : Below D A C) (hB : B < D) : Boxed C B ty v := (hb.block B hB).trans h
theorem CountI.under {w A C : World} {B q D : Nat} (h : CountI w B q A) (hb : Below D A C) (hB : B < D) (hw : w.heap.size ≤ D) : CountI w B q C :=
  ⟨boxed_below h.1 hb hB, h.2.trans (hb.mono hw)⟩
theorem CountI.set {w W : World} {B q m : Nat} (h : CountI w B q W) (hB : w.heap.size ≤ B) : CountI w B m (W.setCell ⟨B, 0, none⟩ (.int .i64 (m : Int))) :=
  ⟨h.1.set _, h.2.setCell (p := ⟨B, 0, none⟩) hB _⟩

set_option maxRecDepth 100000 in
set_option maxHeartbeats 2000000 in
theorem implSize_any (t : Ty) (w : World) (cs : List Value) (h : RTy w t cs) (hs : t.size ≤ 1048577) : Calls Try.prog 14 #[.agg cs.toArray] w (Counts t.size w) := by
  obtain ⟨c0, c1, c2, rfl, _⟩ := h.three'
  obtain ⟨H, hH⟩ : ∃ H, w.heap.size = H := ⟨_, rfl⟩
  obtain ⟨W0, hW0⟩ : ∃ W0, (w.alloc (.cells #[c0, c1, c2] 27)).alloc (.cells #[.int .i64 0] 3) = W0 := ⟨_, rfl⟩
  obtain ⟨W2, hW2⟩ : ∃ W2, W0.alloc (.cells #[c0, c1, c2] 27) = W2 := ⟨_, rfl⟩
  have hz0 : W0.heap.size = H + 2 := by rw [← hW0, ← hH]; simp
  have hz2 : W2.heap.size = H + 3 := by rw [← hW2]; simp; omega
  have hb0 : Below w.heap.size w W0 := by rw [← hW0]; exact ((Below.refl _ _).alloc (Nat.le_refl _) _).alloc (by simp) _
  have hb2 : Below w.heap.size w W2 := by rw [← hW2]; exact hb0.alloc hb0.size _
  have hbx : Box3 W2 (H + 2) 27 c0 c1 c2 := by rw [← hW2, ← hz0]; exact Box3.new W0 _ _ _ _
  have hi0 : Boxed W0 (H + 1) 3 (.int .i64 0) := by rw [← hW0, ← hH]; have := Boxed.new (w.alloc (.cells #[c0, c1, c2] 27)) 3 (.int .i64 0); simpa using this
  have hI0 : CountI w (H + 1) (upTo List.length [t] 0) W2 := ⟨by rw [← hW2]; exact hi0.alloc _, hb2⟩
  have hL := levels_any W0 c0 c1 c2
  rw [hz0] at hL
  have HL := Lib.hid hL
  have HW0 := Lib.hid hW0
  have HW2 := Lib.hid hW2
  have HB2 := Lib.hid hb2
  have HI0 := Lib.hid hI0
  have HH := Lib.hid hH
  have HZ2 := Lib.hid hz2
  have HT := Lib.hid h
  have HS := Lib.hid hs
  have HBX := Lib.hid hbx
  clear hL hW0 hW2 hb0 hb2 hI0 hi0 hH hz0 hz2 h hs hbx
  refine (callsIn_wide (n := 9)).1 ?_
  refine callsIn_of_wp_marks Try.func14 rfl trivial ?_ rfl
  simp only [Try.ntmps14, List.size_toArray, List.length_cons, List.length_nil, Nat.reduceAdd, Nat.reduceSub, Array.replicate_succ, Array.replicate_zero, List.push_toArray, List.append_toArray, List.nil_append, List.cons_append]
  gi_wp2_with (refine ⟨trivial, ?_⟩; gi_at_call 40; rw [HW0.out]; refine (callsIn_wide.2 HL.out).mono ?_; rintro e W3 ⟨rfl, rfl⟩; rw [HW2.out])
  have hDz := HZ2.out
  have hHz := HH.out
  refine wpIn_gives rfl (by decide) (gf := 78) (lb := #[.pointer (some ⟨H + 2, 0, none⟩)]) rfl trivial (enters_of Try.func78 (by kernel_rfl) rfl)
    (N := t.deep) (Rd := LevRd w t (W2.heap.size + 2)) (lo := w.heap.size) (by omega) (fun W hW hz => ?gives) (fun k v A C hr hk => hr.apart hk)
    (fun k W => CountI w (H + 1) (upTo List.length [t] k) W) (fun _ _ => False) (fun k A C hi hb => hi.under hb (by omega) (by omega)) (fun _ _ _ hf _ => hf) HI0.out
    (fun v => { tmps := #[.agg #[c0, c1, c2], .pointer (some ⟨H, 0, none⟩), .int .i64 0, .pointer (some ⟨H + 1, 0, none⟩), v, .agg #[c0, c1, c2], .func (.func 78) #[] #[.pointer (some ⟨H + 2, 0, none⟩)], v, undef, undef, undef, undef, undef], defers := [] }) ?assign ?body ?done ?stop
  case gives =>
    have hg := levels1_gives w t c0 c1 c2 HT.out HS.out (9 - 1) (H + 2) (by decide) W (HB2.out.trans (hW.mono (by omega))) ((hW.block _ (by omega)).trans HBX.out)
    rw [hz] at hg
    exact hg
  case assign =>
    intro l v W K hK
    gi_wp2
    exact hK
  case body =>
    rintro l k v W hk hi ⟨A, c, rfl, hA, hrow⟩
    have hq : upTo List.length [t] (k + 1) = upTo List.length [t] k + (lev [t] k).length := rfl
    have hle := upTo_size [t] (k + 1)
    rw [sizes_one, hq] at hle
    have hSS := HS.out
    obtain ⟨q, hqq⟩ : ∃ q, upTo List.length [t] k = q := ⟨_, rfl⟩
    obtain ⟨m, hmm⟩ : ∃ m, (lev [t] k).length = m := ⟨_, rfl⟩
    rw [hqq, hmm] at hle hq
    rw [hqq] at hi
    rw [hmm]
    have hqm : q + m ≤ 1048577 := by omega
    have HQ := Lib.hid hq
    have HI := Lib.hid hi
    have hc := hi.1.cell
    have hf := hi.1.frozen
    have HF : Hid (∀ v, v = Value.int .i64 ((q + m : Nat) : Int) → Apart w.heap.size W2.heap.size W (W.setCell ⟨H + 1, 0, none⟩ v) ∧ CountI w (H + 1) (upTo List.length [t] (k + 1)) (W.setCell ⟨H + 1, 0, none⟩ v)) := by
      rintro v rfl
      refine ⟨Apart.set W (by show w.heap.size ≤ H + 1; omega) (by show H + 1 < W2.heap.size; omega) _, ?_⟩
      rw [HQ.out]
      exact HI.out.set (by omega)
    clear hq hqq hmm hle hi hA hrow
    gi_wp2
    exact HF.out _ (by go_num)
  case done =>
    intro W hi hK
    rw [upTo_size_all] at hi
    have hc := hi.1.cell
    have HI := Lib.hid hi
    clear hi
    gi_wp2
    refine ⟨by simp, .inl ⟨_, _, rfl, run_takeDeferred hK, ?_⟩⟩
    exact ⟨_, results_tmp rfl _ _ _, rfl, HI.out.2.trans (below_put W (by omega))⟩
  case stop =>
    intro k W _ hf
    exact hf.elim
set_option maxRecDepth 100000 in
set_option maxHeartbeats 2000000 in
theorem implDepth_any (t : Ty) (w : World) (cs : List Value) (h : RTy w t cs) (hs : t.size ≤ 1048577) : Calls Try.prog 16 #[.agg cs.toArray] w (Counts t.deep w) := by
  obtain ⟨c0, c1, c2, rfl, _⟩ := h.three'
  obtain ⟨H, hH⟩ : ∃ H, w.heap.size = H := ⟨_, rfl⟩
  obtain ⟨W0, hW0⟩ : ∃ W0, (w.alloc (.cells #[c0, c1, c2] 27)).alloc (.cells #[.int .i64 0] 3) = W0 := ⟨_, rfl⟩
  obtain ⟨W2, hW2⟩ : ∃ W2, W0.alloc (.cells #[c0, c1, c2] 27) = W2 := ⟨_, rfl⟩
  have hz0 : W0.heap.size = H + 2 := by rw [← hW0, ← hH]; simp
  have hz2 : W2.heap.size = H + 3 := by rw [← hW2]; simp; omega
  have hb0 : Below w.heap.size w W0 := by rw [← hW0]; exact ((Below.refl _ _).alloc (Nat.le_refl _) _).alloc (by simp) _
  have hb2 : Below w.heap.size w W2 := by rw [← hW2]; exact hb0.alloc hb0.size _
  have hbx : Box3 W2 (H + 2) 27 c0 c1 c2 := by rw [← hW2, ← hz0]; exact Box3.new W0 _ _ _ _
  have hi0 : Boxed W0 (H + 1) 3 (.int .i64 0) := by rw [← hW0, ← hH]; have := Boxed.new (w.alloc (.cells #[c0, c1, c2] 27)) 3 (.int .i64 0); simpa using this
  have hI0 : CountI w (H + 1) (0) W2 := ⟨by rw [← hW2]; exact hi0.alloc _, hb2⟩
  have hL := levels_any W0 c0 c1 c2
  rw [hz0] at hL
  have HL := Lib.hid hL
  have HW0 := Lib.hid hW0
  have HW2 := Lib.hid hW2
  have HB2 := Lib.hid hb2
  have HI0 := Lib.hid hI0
  have HH := Lib.hid hH
  have HZ2 := Lib.hid hz2
  have HT := Lib.hid h
  have HS := Lib.hid hs
  have HBX := Lib.hid hbx
  clear hL hW0 hW2 hb0 hb2 hI0 hi0 hH hz0 hz2 h hs hbx
  refine (callsIn_wide (n := 9)).1 ?_
  refine callsIn_of_wp_marks Try.func16 rfl trivial ?_ rfl
  simp only [Try.ntmps16, List.size_toArray, List.length_cons, List.length_nil, Nat.reduceAdd, Nat.reduceSub, Array.replicate_succ, Array.replicate_zero, List.push_toArray, List.append_toArray, List.nil_append, List.cons_append]
  gi_wp2_with (refine ⟨trivial, ?_⟩; gi_at_call 40; rw [HW0.out]; refine (callsIn_wide.2 HL.out).mono ?_; rintro e W3 ⟨rfl, rfl⟩; rw [HW2.out])
  have hDz := HZ2.out
  have hHz := HH.out
  refine wpIn_gives rfl (by decide) (gf := 78) (lb := #[.pointer (some ⟨H + 2, 0, none⟩)]) rfl trivial (enters_of Try.func78 (by kernel_rfl) rfl)
    (N := t.deep) (Rd := LevRd w t (W2.heap.size + 2)) (lo := w.heap.size) (by omega) (fun W hW hz => ?gives) (fun k v A C hr hk => hr.apart hk)
    (fun k W => CountI w (H + 1) k W) (fun _ _ => False) (fun k A C hi hb => hi.under hb (by omega) (by omega)) (fun _ _ _ hf _ => hf) HI0.out
    (fun v => { tmps := #[.agg #[c0, c1, c2], .pointer (some ⟨H, 0, none⟩), .int .i64 0, .pointer (some ⟨H + 1, 0, none⟩), .agg #[c0, c1, c2], .func (.func 78) #[] #[.pointer (some ⟨H + 2, 0, none⟩)], v, undef, undef, undef], defers := [] }) ?assign ?body ?done ?stop
  case gives =>
    have hg := levels1_gives w t c0 c1 c2 HT.out HS.out (9 - 1) (H + 2) (by decide) W (HB2.out.trans (hW.mono (by omega))) ((hW.block _ (by omega)).trans HBX.out)
    rw [hz] at hg
    exact hg
  case assign =>
    intro l v W K hK
    gi_wp2
    rw [hHz]
    exact hK
  case body =>
    rintro l k v W hk hi _
    have hle := deep_le_size t
    have hSS := HS.out
    have hqm : k + 1 ≤ 1048577 := by omega
    have HI := Lib.hid hi
    have hc := hi.1.cell
    have hf := hi.1.frozen
    have HF : Hid (∀ v, v = Value.int .i64 ((k + 1 : Nat) : Int) → Apart w.heap.size W2.heap.size W (W.setCell ⟨H + 1, 0, none⟩ v) ∧ CountI w (H + 1) (k + 1) (W.setCell ⟨H + 1, 0, none⟩ v)) := by
      rintro v rfl
      exact ⟨Apart.set W (by show w.heap.size ≤ H + 1; omega) (by show H + 1 < W2.heap.size; omega) _, HI.out.set (by omega)⟩
    clear hle hi
    gi_wp2
    exact HF.out _ (by go_num)
  case done =>
    intro W hi hK
    have hc := hi.1.cell
    have HI := Lib.hid hi
    clear hi
    gi_wp2
    refine ⟨by simp, .inl ⟨_, _, rfl, run_takeDeferred hK, ?_⟩⟩
    exact ⟨_, results_tmp rfl _ _ _, rfl, HI.out.2.trans (below_put W (by omega))⟩
  case stop =>
    intro k W _ hf
    exact hf.elim
end Go.Proofs.Ytfhebkdoheafeaa
