/-
  The program's countNodes and greatestDepth over impl.Term, whatever the iterator gives. Written by wip/tools/mkcnt.py.
-/
import Derived.Test.YthcfgpjldhiinaaNodC
namespace Go.Proofs.Ythcfgpjldhiinaa
open Go.RowKit Go.Shelf

attribute [local go_sem] Oper.semAt_some

set_option maxRecDepth 100000 in
set_option maxHeartbeats 1600000 in
theorem countE_any (gf : Nat) (lb : Array Value) (eg : ∀ args w, (callFunc gf args).run Try.prog w = .ok (.enter gf args) w) (w : World) (N : Nat) (ds : Nat → Nat) (hN : N ≤ 1048577)
    (hg : ∀ W, Below w.heap.size w W → GivesN Fence.wide (9 - 1) Try.prog gf lb N (DRd ds) (fun _ => True) (fun b => b < w.heap.size) W) : Calls Try.prog 31 #[.func (.func gf) #[] lb] w (Counts N w) := by
  obtain ⟨H, hH⟩ : ∃ H, w.heap.size = H := ⟨_, rfl⟩
  obtain ⟨W1, hW1⟩ : ∃ W1, w.alloc (.cells #[.int .i64 0] 3) = W1 := ⟨_, rfl⟩
  have hz1 : W1.heap.size = H + 1 := by rw [← hW1, ← hH]; simp
  have hb1 : Below w.heap.size w W1 := by rw [← hW1]; exact (Below.refl _ _).alloc (Nat.le_refl _) _
  have hI0 : NumI w H (fun k => k) N 0 (fun b => b = H) W1 := ⟨Nat.zero_le _, rfl, by rw [← hW1, ← hH]; exact Boxed.new w _ _, hb1⟩
  have HG := Lib.hid hg
  have HI0 := Lib.hid hI0
  have HW1 := Lib.hid hW1
  have HB1 := Lib.hid hb1
  have HZ1 := Lib.hid hz1
  have HH := Lib.hid hH
  have HN := Lib.hid hN
  clear hg hI0 hW1 hb1 hz1 hH hN
  refine (callsIn_wide (n := 9)).1 ?_
  refine callsIn_of_wp_marks Try.func31 rfl trivial ?_ rfl
  simp only [Try.ntmps31, List.size_toArray, List.length_cons, List.length_nil, Nat.reduceAdd, Nat.reduceSub, Array.replicate_succ, Array.replicate_zero, List.push_toArray, List.append_toArray, List.nil_append, List.cons_append]
  have hHz := HH.out
  gi_wp2
  rw [HW1.out]
  have hDz := HZ1.out
  refine wpIn_givesN (n := 9) (w := W1) rfl (by decide) (gf := gf) (lb := lb) rfl trivial eg (M := N) (Rd := DRd ds) (On := fun _ => True) (Keep := fun b => b < w.heap.size) (fun _ _ h => h.size) (fun b hb => by omega) (fun W hW hz => HG.out W (HB1.out.trans (hW.mono HB1.out.size)))
    (NumI w H (fun k => k) N) (fun _ => False) (fun k F A C hi hh => hi.keep hh) (fun k F A hi b hb => hi.bnd hHz b hb) (fun _ _ hf _ => hf) _ HI0.out
    (fun v => { tmps := #[.func (.func gf) #[] lb, undef, .int .i64 0, .pointer (some ⟨H, 0, none⟩), .func (.func gf) #[] lb, v.getD 0 undef, v.getD 1 undef, undef, undef, undef], defers := [] }) ?assign ?body ?done ?stop
  case assign =>
    rintro l k v W K ⟨u, rfl⟩ hK
    gi_wp2
    simpa using hK
  case body =>
    rintro l k s F W hk ⟨h1, rfl, h3, h4⟩ ⟨u, rfl⟩ _ _ _
    have hc := h3.cell
    have hf := h3.frozen
    have hNN := HN.out
    have HF : Hid (∀ v, v = Value.int .i64 ((k + 1 : Nat) : Int) → givesPostN (fun _ => True) (NumI w H (fun k => k) N) (fun _ => False) k (fun b => b = H) W .normal { tmps := #[], defers := [] } (W.setCell ⟨H, 0, none⟩ v)) := Lib.hid (by
      rintro v rfl
      exact ⟨trivial, Held.set W (fun h => h rfl) _, fun b => b = H, fun b hb => .inl hb, hk, rfl, h3.set _, h4.setCell (p := ⟨H, 0, none⟩) (by show w.heap.size ≤ H; omega) _⟩)
    clear h1 h3 h4
    gi_wp2
    exact HF.out _ (by go_num)
  case done =>
    rintro F W ⟨h1, rfl, h3, h4⟩ hK
    have hc := h3.cell
    have H4 := Lib.hid h4
    clear h1 h3 h4
    gi_wp2
    have hK2 := hK
    rw [hDz] at hK2
    refine ⟨by simp, .inl ⟨_, _, rfl, by first | exact run_takeDeferred hK | exact run_takeDeferred hK2, ?_⟩⟩
    exact ⟨_, results_tmp (show (Try.f31).results = #[ResultVar.tmp 2] from rfl) _ _ _, rfl, H4.out.trans (below_put W (by omega))⟩
  case stop =>
    intro W hf
    exact hf.elim

set_option maxRecDepth 100000 in
set_option maxHeartbeats 1600000 in
theorem greatE_any (gf : Nat) (lb : Array Value) (eg : ∀ args w, (callFunc gf args).run Try.prog w = .ok (.enter gf args) w) (w : World) (N : Nat) (ds mx : Nat → Nat) (h0 : mx 0 = 0) (hmx : ∀ k, k < N → mx (k + 1) = max (mx k) (ds k))
    (hg : ∀ W, Below w.heap.size w W → GivesN Fence.wide (9 - 1) Try.prog gf lb N (DRd ds) (fun _ => True) (fun b => b < w.heap.size) W) : Calls Try.prog 36 #[.func (.func gf) #[] lb] w (Counts (mx N) w) := by
  obtain ⟨H, hH⟩ : ∃ H, w.heap.size = H := ⟨_, rfl⟩
  obtain ⟨W1, hW1⟩ : ∃ W1, w.alloc (.cells #[.int .i64 0] 3) = W1 := ⟨_, rfl⟩
  have hz1 : W1.heap.size = H + 1 := by rw [← hW1, ← hH]; simp
  have hb1 : Below w.heap.size w W1 := by rw [← hW1]; exact (Below.refl _ _).alloc (Nat.le_refl _) _
  have hI0 : NumI w H mx N 0 (fun b => b = H) W1 := ⟨Nat.zero_le _, rfl, by rw [h0, ← hW1, ← hH]; exact Boxed.new w _ _, hb1⟩
  have HG := Lib.hid hg
  have HM := Lib.hid hmx
  have HI0 := Lib.hid hI0
  have HW1 := Lib.hid hW1
  have HB1 := Lib.hid hb1
  have HZ1 := Lib.hid hz1
  have HH := Lib.hid hH
  clear hg hI0 hW1 hb1 hz1 hH hmx h0
  refine (callsIn_wide (n := 9)).1 ?_
  refine callsIn_of_wp_marks Try.func36 rfl trivial ?_ rfl
  simp only [Try.ntmps36, List.size_toArray, List.length_cons, List.length_nil, Nat.reduceAdd, Nat.reduceSub, Array.replicate_succ, Array.replicate_zero, List.push_toArray, List.append_toArray, List.nil_append, List.cons_append]
  have hHz := HH.out
  gi_wp2
  rw [HW1.out]
  have hDz := HZ1.out
  refine wpIn_givesN (n := 9) (w := W1) rfl (by decide) (gf := gf) (lb := lb) rfl trivial eg (M := N) (Rd := DRd ds) (On := fun _ => True) (Keep := fun b => b < w.heap.size) (fun _ _ h => h.size) (fun b hb => by omega) (fun W hW hz => HG.out W (HB1.out.trans (hW.mono HB1.out.size)))
    (NumI w H mx N) (fun _ => False) (fun k F A C hi hh => hi.keep hh) (fun k F A hi b hb => hi.bnd hHz b hb) (fun _ _ hf _ => hf) _ HI0.out
    (fun v => { tmps := #[.func (.func gf) #[] lb, undef, .int .i64 0, .pointer (some ⟨H, 0, none⟩), v.getD 0 undef, .func (.func gf) #[] lb, v.getD 0 undef, v.getD 1 undef, undef, undef, undef, undef], defers := [] }) ?assign ?body ?done ?stop
  case assign =>
    rintro l k v W K ⟨u, rfl⟩ hK
    gi_wp2
    simpa using hK
  case body =>
    rintro l k s F W hk ⟨h1, rfl, h3, h4⟩ ⟨u, rfl⟩ _ _ _
    have hc := h3.cell
    have hf := h3.frozen
    have HF : Hid (∀ v, v = Value.int .i64 ((mx (k + 1) : Nat) : Int) → givesPostN (fun _ => True) (NumI w H mx N) (fun _ => False) k (fun b => b = H) W .normal { tmps := #[], defers := [] } (W.setCell ⟨H, 0, none⟩ v)) := Lib.hid (by
      rintro v rfl
      exact ⟨trivial, Held.set W (fun h => h rfl) _, fun b => b = H, fun b hb => .inl hb, hk, rfl, h3.set _, h4.setCell (p := ⟨H, 0, none⟩) (by show w.heap.size ≤ H; omega) _⟩)
    have hm := HM.out k hk
    generalize mx (k + 1) = m1 at HF hm
    generalize mx k = m0 at hc hm h3
    generalize ds k = dk at hm ⊢
    clear h1 h3 h4
    rcases Nat.lt_trichotomy m0 dk with h | h | h
    · rw [Nat.max_eq_right (by omega)] at hm
      gi_wp2
      exact HF.out _ (by rw [hm])
    · subst h
      rw [Nat.max_self] at hm
      gi_wp2
      exact HF.out _ (by rw [hm])
    · rw [Nat.max_eq_left (by omega)] at hm
      gi_wp2
      exact HF.out _ (by rw [hm])
  case done =>
    rintro F W ⟨h1, rfl, h3, h4⟩ hK
    have hc := h3.cell
    have H4 := Lib.hid h4
    clear h1 h3 h4
    gi_wp2
    have hK2 := hK
    rw [hDz] at hK2
    refine ⟨by simp, .inl ⟨_, _, rfl, by first | exact run_takeDeferred hK | exact run_takeDeferred hK2, ?_⟩⟩
    exact ⟨_, results_tmp (show (Try.f36).results = #[ResultVar.tmp 2] from rfl) _ _ _, rfl, H4.out.trans (below_put W (by omega))⟩
  case stop =>
    intro W hf
    exact hf.elim
end Go.Proofs.Ythcfgpjldhiinaa
