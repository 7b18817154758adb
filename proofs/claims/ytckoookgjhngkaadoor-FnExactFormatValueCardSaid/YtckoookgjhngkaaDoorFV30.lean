/-
  Merged by program: Coll.
-/
import Derived.Test.YtckoookgjhngkaaDoorFV24
import Derived.Test.YtckoookgjhngkaaDoorFV29
import Derived.Test.YtckoookgjhngkaaDoorFV12
import Derived.Test.YtckoookgjhngkaaDoorFV19
import Derived.Test.YtckoookgjhngkaaDoorFV16
import Derived.WalkSmall
import Derived.OwnWalkIn
import Derived.Maps.OwnIn
import Derived.Maps.AppendAt

/-
  The library's slices.AppendSeq and slices.Collect over strings, against an iterator that reads memory of its own between two rounds.
-/
namespace Go.Proofs.YtckoookgjhngkaaDoor
open Go.RowKit Go.Shelf

attribute [local go_sem] Oper.semAt_some

/-- texts in new memory: nil where there is none -/
def TextsNew (ps : List (List UInt8)) (w : World) (e : Ending) (w' : World) : Prop :=
  ∃ V lc, e = .returned (.slice V ps.length lc) ∧ w'.ownsRow w.heap.size 9 1 (.slice V ps.length lc) ps.length (strsV ps) ∧ Below w.heap.size w w'

/-- between two rounds: what has come lies in a row of the call's own, in the box H -/
def CollI (w : World) (ps : List (List UInt8)) (H k : Nat) (F : Nat → Prop) (W : World) : Prop :=
  k ≤ ps.length ∧ H < W.heap.size ∧ Below w.heap.size w W ∧ ∃ A c, F = (fun b => b = H ∨ (Value.slice A k c).ownBlock = some b) ∧ Boxed W H 22 (.slice A k c) ∧ W.ownsRow w.heap.size 9 1 (.slice A k c) k (strsV (ps.take k)) ∧ (Value.slice A k c).ownBlock ≠ some H
theorem CollI.keep {w : World} {ps : List (List UInt8)} {H k : Nat} {F : Nat → Prop} {A B : World} (h : CollI w ps H k F A) (hh : Held (fun i => i < w.heap.size ∨ F i) A B) : CollI w ps H k F B := by
  obtain ⟨h1, h2, h3, V, c, rfl, h4, h5, h6⟩ := h
  refine ⟨h1, Nat.lt_of_lt_of_le h2 hh.size, h3.trans (hh.below h3.size fun i hi => .inl hi), V, c, rfl, ?_, own_held h5 fun g hg => ?_, h6⟩
  · exact (hh.block H h2 (.inr (.inl rfl))).trans h4
  · exact hh.block g (h5.lt g hg).2 (.inr (.inr hg))
theorem infoS : (Tryd.prog.info? 9).map (fun i => (i.zero, i.size, i.bytes)) = some (some (.string ⟨#[]⟩), 1, 16) := by kernel_rfl

/-- what the iterator gives: the texts, one by one -/
def TextAt (ps : List (List UInt8)) (k : Nat) (v : Value) : Prop := ∃ x, ps[k]? = some x ∧ v = .string (bs x)

set_option maxRecDepth 100000 in
set_option maxHeartbeats 2000000 in
theorem appendSeq_any (g : Nat) (lb : Array Value) (eg : ∀ args w, (callFunc g args).run Tryd.prog w = .ok (.enter g args) w) (w : World) (ps : List (List UInt8)) (hn : ps.length ≤ 1048576)
    (hg : ∀ W, Below w.heap.size w W → GivesF Fence.wide (9 - 1) Tryd.prog g lb ps.length (TextAt ps) w.heap.size W) :
    Calls Tryd.prog 49 #[.slice none 0 0, .func (.func g) #[] lb] w (TextsNew ps w) := by
  obtain ⟨i0, hi, hz0, hz1, hz2⟩ := info_parts infoS
  obtain ⟨H, hH⟩ : ∃ H, w.heap.size = H := ⟨_, rfl⟩
  obtain ⟨W1, hW1⟩ : ∃ W1, w.alloc (.cells #[.slice none 0 0] 22) = W1 := ⟨_, rfl⟩
  have hz1' : W1.heap.size = H + 1 := by rw [← hW1, ← hH]; simp
  have hb1 : Below w.heap.size w W1 := by rw [← hW1]; exact (Below.refl _ _).alloc (Nat.le_refl _) _
  have hI0 : CollI w ps H 0 (fun b => b = H ∨ (Value.slice none 0 0).ownBlock = some b) W1 := by
    refine ⟨Nat.zero_le _, by omega, hb1, none, 0, rfl, ?_, ?_, by simp [Value.ownBlock]⟩
    · rw [← hW1, ← hH]; exact Boxed.new w _ _
    · exact World.ownsRow_nil _ _ _ _
  have HG := Lib.hid hg
  have HI0 := Lib.hid hI0
  have HW1 := Lib.hid hW1
  have HB1 := Lib.hid hb1
  have HZ1 := Lib.hid hz1'
  have HH := Lib.hid hH
  clear hg hI0 hW1 hb1 hz1' hH
  refine (callsIn_wide (n := 9)).1 ?_
  refine callsIn_of_wp_marks Tryd.func49 rfl trivial ?_ rfl
  simp only [Tryd.ntmps49, List.size_toArray, List.length_cons, List.length_nil, Nat.reduceAdd, Nat.reduceSub, Array.replicate_succ, Array.replicate_zero, List.push_toArray, List.append_toArray, List.nil_append, List.cons_append]
  have hHz := HH.out
  gi_wp2
  rw [HW1.out]
  have hDz := HZ1.out
  refine wpIn_givesF (n := 9) (w := W1) rfl (by decide) (gf := g) (lb := lb) rfl trivial eg (M := ps.length) (Rd := TextAt ps) (lo := w.heap.size) (by omega) (fun W hW hz => HG.out W (HB1.out.trans (hW.mono HB1.out.size)))
    (CollI w ps H) (fun _ => False) (fun k F A C hi hh => hi.keep hh) (fun k F A hi b hb => ?bnd) (fun _ _ hf _ => hf) _ HI0.out
    (fun v => { tmps := #[.slice none 0 0, .func (.func g) #[] lb, .pointer (some ⟨H, 0, none⟩), undef, .slice none 0 0, v, .func (.func g) #[] lb, v, undef, undef, undef, undef, undef], defers := [] }) ?assign ?body ?done ?stop
  case bnd =>
    obtain ⟨h1, h2, h3, V, c, rfl, h4, h5, h6⟩ := hi
    rcases hb with rfl | hb
    · exact ⟨by omega, h2⟩
    · exact h5.lt b hb
  case assign =>
    intro l v W K hK
    gi_wp2
    exact hK
  case body =>
    rintro l k s F W hk ⟨h1, h2, h3, V, c, rfl, h4, h5, h6⟩ ⟨x, hx, rfl⟩ _ _ _
    have hc := h4.cell
    have hown := h5.alloc (.cells #[.string (bs x)] 9)
    have hcl := cell_one_at W (.string (bs x)) 9
    have hle : w.heap.size ≤ W.heap.size := h3.size
    have HF : Hid (∀ v' w4, w4.ownsRow w.heap.size 9 1 v' (k + 1) (strsV (ps.take k) ++ [.string (bs x)]) → (W.alloc (.cells #[.string (bs x)] 9)).grownBy w4 (Value.slice V k c).ownBlock →
        (v'.ownBlock = (Value.slice V k c).ownBlock ∨ v'.ownBlock = some (W.heap.size + 1)) → ∃ V' c', v' = .slice V' (k + 1) c' ∧ Boxed w4 H 22 (.slice V k c) ∧ givesPostF (CollI w ps H) (fun _ => False) k (fun b => b = H ∨ (Value.slice V k c).ownBlock = some b) W .normal { tmps := #[], defers := [] } (w4.setCell ⟨H, 0, none⟩ (.slice V' (k + 1) c'))) := by
      intro v' w4 hown4 hg4 hor
      obtain ⟨V', c', rfl⟩ := own_is hown4
      have hal : Below W.heap.size W (W.alloc (.cells #[.string (bs x)] 9)) := (Below.refl _ _).alloc (Nat.le_refl _) _
      have hsz := hg4.size
      simp only [World.size_alloc] at hsz
      have hb4 : Boxed w4 H 22 (.slice V k c) := by
        have h0 := h4.alloc (.cells #[.string (bs x)] 9)
        exact (hg4.block H h0.lt (fun e => h6 e.symm)).trans h0
      have hneH : (Value.slice V' (k + 1) c').ownBlock ≠ some H := by
        rcases hor with h | h
        · rw [h]; exact h6
        · rw [h]; intro e; injection e with e; omega
      refine ⟨V', c', rfl, hb4, ?_, fun b => b = H ∨ (Value.slice V' (k + 1) c').ownBlock = some b, ?_, hk, ?_, ?_, V', c', rfl, hb4.set _, ?_, hneH⟩
      · refine (Held.of_below hal fun i hi _ => hi).trans ((Held.grown hg4 fun q hq hn => hn (.inr hq)).trans (Held.set w4 (fun h => h (.inl rfl)) _))
      · rintro b (h | h)
        · exact .inl (.inl h)
        · rcases hor with e | e
          · exact .inl (.inr (e ▸ h))
          · rw [e] at h; injection h with h; exact .inr (by omega)
      · simp [World.setCell]; omega
      · refine ((h3.alloc hle _).grown hg4 (by simp; omega) fun q hq => (h5.lt q hq).1).setCell (p := ⟨H, 0, none⟩) (by show w.heap.size ≤ H; omega) _
      · have e : strsV (ps.take (k + 1)) = strsV (ps.take k) ++ [.string (bs x)] := by
          rw [List.take_add_one, hx]
          simp [strsV]
        rw [e]
        exact own_held hown4 fun q hq => Below.heap_setCell _ _ _ _ (fun e => hneH (by rw [hq, e]))
    have hHlt := h2
    clear h3 h4 h5 h6 hx
    have HO := Lib.hid hown
    have HCL := Lib.hid hcl
    clear hown hcl
    gi_wp2_with (gi_at_builtin; refine wpListIn_append_own_at _ rfl _ _ 22 rfl w.heap.size 9 i0 (.string ⟨#[]⟩) 1 16 Tryd.underlying22 hi hz0 hz1 hz2 rfl (by decide) (.slice V k c) k (strsV (ps.take k)) rfl HO.out ⟨W.heap.size, 0, none⟩ 1 1 [.string (bs x)] rfl rfl HCL.out (by simp [Value.oneCell']) (by unfold maxLen; omega) (by omega) (by simp; omega) ?_; intro v' w4 hown4 hg4 _ hor4; obtain ⟨V', c', rfl, hb4, hpost⟩ := HF.out v' w4 hown4 hg4 (by simpa using hor4); have hc4 := hb4.cell; have hf4 := hb4.frozen; have HP := Lib.hid hpost; clear hown4 hg4 hor4 hb4 hpost)
    exact HP.out
  case done =>
    rintro F W ⟨h1, h2, h3, V, c, rfl, h4, h5, h6⟩ hK
    have hc := h4.cell
    have hown : (W.putObj W1.heap.size (.deferred none)).ownsRow w.heap.size 9 1 (.slice V ps.length c) ps.length (strsV ps) := by
      rw [List.take_length] at h5
      refine own_held h5 fun q hq => World.putObj_heap_other ?_
      intro e
      rcases h5.2 with ⟨e1, _⟩ | ⟨g', cap, cur, e1, _, e2, _⟩
      · rw [e1] at hq; simp [Value.ownBlock] at hq
      · rw [e1] at hq
        have : g' = q := by simpa [Value.ownBlock] using hq
        rw [this, e, hK] at e2
        cases e2
    have HR : Hid (TextsNew ps w (.returned (.slice V ps.length c)) (W.putObj W1.heap.size (.deferred none))) := Lib.hid ⟨V, c, rfl, hown, h3.trans (below_put W (by omega))⟩
    clear h3 h4 h5 h6 hown
    gi_wp2
    refine ⟨by simp, .inl ⟨_, _, rfl, run_takeDeferred hK, ?_⟩⟩
    refine ⟨_, results_tmp (show (Tryd.f49).results = #[ResultVar.tmp 4] from rfl) _ _ _, ?_⟩
    exact HR.out
  case stop =>
    intro W hf
    exact hf.elim

theorem collect_any (g : Nat) (lb : Array Value) (eg : ∀ args w, (callFunc g args).run Tryd.prog w = .ok (.enter g args) w) (w : World) (ps : List (List UInt8)) (hn : ps.length ≤ 1048576)
    (hg : ∀ W, Below w.heap.size w W → GivesF Fence.wide (9 - 1) Tryd.prog g lb ps.length (TextAt ps) w.heap.size W) :
    Calls Tryd.prog 39 #[.func (.func g) #[] lb] w (TextsNew ps w) := by
  have HC := Lib.hid (appendSeq_any g lb eg w ps hn hg)
  clear hg
  go_enter Tryd.func39, Tryd.ntmps39
  go_wp2_with fail
  refine HC.out.mono ?_
  rintro e w1 ⟨V, lc, rfl, h1, h2⟩
  have HR : Hid (TextsNew ps w (.returned (.slice V ps.length lc)) w1) := Lib.hid ⟨V, lc, rfl, h1, h2⟩
  clear h1 h2 HC
  go_wp2_with fail
  go_ret
  exact HR.out
end Go.Proofs.YtckoookgjhngkaaDoor
