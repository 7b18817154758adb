/-
  Merged by program: WitTI, LimT, ValidE, ValidD.
-/
import Derived.Test.YtlikmgkjilmjpaaH39
import Derived.Test.YtlikmgkjilmjpaaH4
import Derived.Test.YtlikmgkjilmjpaaH9
import Derived.Test.YtlikmgkjilmjpaaH36

/-
  The program's isWithin over impl.Type, whatever the iterator gives. Written by wip/tools/mkwit.py.
-/
namespace Go.Proofs.Ytlikmgkjilmjpaa
open Go.RowKit Go.Shelf

attribute [local go_sem] Oper.semAt_some

def withB (N ms top md : Nat) : Bool := decide (N ≤ ms) && decide (top ≤ md)
def WitI (w : World) (H ms md N : Nat) (mx : Nat → Nat) (k : Nat) (F : Nat → Prop) (W : World) : Prop :=
  F = (fun q => q = H + 2 ∨ q = H + 3) ∧ Boxed W H 3 (.int .i64 (ms : Int)) ∧ Boxed W (H + 1) 3 (.int .i64 (md : Int)) ∧ Boxed W (H + 2) 4 (.bool false) ∧ Boxed W (H + 3) 3 (.int .i64 (k : Int)) ∧ Below w.heap.size w W ∧ k ≤ ms ∧ mx k ≤ md ∧ k ≤ N
theorem WitI.keep {w A C : World} {H ms md N k D : Nat} {mx : Nat → Nat} {F : Nat → Prop} (h : WitI w H ms md N mx k F A) (hh : Held (fun i => i < D ∨ F i) A C) (hD : w.heap.size ≤ D) (hHD : H + 3 < D) : WitI w H ms md N mx k F C := by
  obtain ⟨rfl, h1, h2, h3, h4, h5, h6⟩ := h
  exact ⟨rfl, (hh.block _ h1.lt (.inl (by omega))).trans h1, (hh.block _ h2.lt (.inl (by omega))).trans h2, (hh.block _ h3.lt (.inr (.inl rfl))).trans h3, (hh.block _ h4.lt (.inr (.inr rfl))).trans h4, h5.trans (hh.below h5.size fun i hi => .inl (by omega)), h6⟩
def WitX (w : World) (H : Nat) (r : Bool) (W : World) : Prop := Boxed W (H + 2) 4 (.bool false) ∧ Below w.heap.size w W ∧ r = false

set_option maxRecDepth 100000 in
set_option maxHeartbeats 2000000 in
theorem withinT_any (gf : Nat) (lb : Array Value) (eg : ∀ args w, (callFunc gf args).run Try.prog w = .ok (.enter gf args) w) (w : World) (N ms md : Nat) (ds mx : Nat → Nat) (hN : N ≤ 1048577) (hms : ms ≤ 1048576) (h0 : mx 0 = 0) (hmx : ∀ k, k < N → mx (k + 1) = max (mx k) (ds k)) (hmono : ∀ k, k ≤ N → mx k ≤ mx N)
    (hg : ∀ W, Below w.heap.size w W → GivesN Fence.wide (9 - 1) Try.prog gf lb N (DRd ds) (fun _ => True) (fun b => b < w.heap.size) W) : Calls Try.prog 100 #[.func (.func gf) #[] lb, .int .i64 (ms : Int), .int .i64 (md : Int)] w (Truth (withB N ms (mx N) md) w) := by
  obtain ⟨H, hH⟩ : ∃ H, w.heap.size = H := ⟨_, rfl⟩
  obtain ⟨W1, hW1⟩ : ∃ W1, (((w.alloc (.cells #[.int .i64 (ms : Int)] 3)).alloc (.cells #[.int .i64 (md : Int)] 3)).alloc (.cells #[.bool false] 4)).alloc (.cells #[.int .i64 0] 3) = W1 := ⟨_, rfl⟩
  have hz1 : W1.heap.size = H + 4 := by rw [← hW1, ← hH]; simp
  have hb1 : Below w.heap.size w W1 := by rw [← hW1]; exact ((((Below.refl _ _).alloc (Nat.le_refl _) _).alloc (by simp) _).alloc (by simp; omega) _).alloc (by simp; omega) _
  have y0 : Boxed W1 H 3 (.int .i64 (ms : Int)) := by rw [← hW1, ← hH]; exact (((Boxed.new w 3 (.int .i64 (ms : Int))).alloc _).alloc _).alloc _
  have y1 : Boxed W1 (H + 1) 3 (.int .i64 (md : Int)) := by
    rw [← hW1, ← hH]
    have := ((Boxed.new (w.alloc (.cells #[.int .i64 (ms : Int)] 3)) 3 (.int .i64 (md : Int))).alloc (.cells #[.bool false] 4)).alloc (.cells #[.int .i64 0] 3)
    rw [World.size_alloc] at this
    exact this
  have y2 : Boxed W1 (H + 2) 4 (.bool false) := by
    rw [← hW1, ← hH]
    have := (Boxed.new ((w.alloc (.cells #[.int .i64 (ms : Int)] 3)).alloc (.cells #[.int .i64 (md : Int)] 3)) 4 (.bool false)).alloc (.cells #[.int .i64 0] 3)
    rw [World.size_alloc, World.size_alloc] at this
    exact this
  have y3 : Boxed W1 (H + 3) 3 (.int .i64 ((0 : Nat) : Int)) := by
    rw [← hW1, ← hH]
    have := Boxed.new (((w.alloc (.cells #[.int .i64 (ms : Int)] 3)).alloc (.cells #[.int .i64 (md : Int)] 3)).alloc (.cells #[.bool false] 4)) 3 (.int .i64 0)
    rw [World.size_alloc, World.size_alloc, World.size_alloc] at this
    exact this
  have hI0 : WitI w H ms md N mx 0 (fun q => q = H + 2 ∨ q = H + 3) W1 := ⟨rfl, y0, y1, y2, y3, hb1, Nat.zero_le _, by rw [h0]; exact Nat.zero_le _, Nat.zero_le _⟩
  have HG := Lib.hid hg
  have HM := Lib.hid hmx
  have HMO := Lib.hid hmono
  have HI0 := Lib.hid hI0
  have HW1 := Lib.hid hW1
  have HB1 := Lib.hid hb1
  have HZ1 := Lib.hid hz1
  have HH := Lib.hid hH
  have HN := Lib.hid hN
  clear hg hI0 hW1 hb1 hz1 hH hmx h0 hmono hN y0 y1 y2 y3
  refine (callsIn_wide (n := 9)).1 ?_
  refine callsIn_of_wp_marks Try.func100 rfl trivial ?_ rfl
  simp only [Try.ntmps100, List.size_toArray, List.length_cons, List.length_nil, Nat.reduceAdd, Nat.reduceSub, Array.replicate_succ, Array.replicate_zero, List.push_toArray, List.append_toArray, List.nil_append, List.cons_append]
  have hHz := HH.out
  gi_wp2
  rw [HW1.out]
  have hDz := HZ1.out
  refine wpIn_givesN (n := 9) (w := W1) rfl (by decide) (gf := gf) (lb := lb) rfl trivial eg (M := N) (Rd := DRd ds) (On := fun _ => True) (Keep := fun b => b < w.heap.size) (fun _ _ h => h.size) (fun b hb => by omega) (fun W hW hz => HG.out W (HB1.out.trans (hW.mono HB1.out.size)))
    (WitI w H ms md N mx) (WitX w H (withB N ms (mx N) md)) (fun k F A C hi hh => hi.keep hh (by omega) (by omega)) (fun k F A hi q hq => ?bnd) (fun A C hx hh => ?keepX) _ HI0.out
    (fun v => { tmps := #[.func (.func gf) #[] lb, .int .i64 (ms : Int), .int .i64 (md : Int), undef, .pointer (some ⟨H, 0, none⟩), .pointer (some ⟨H + 1, 0, none⟩), .pointer (some ⟨H + 2, 0, none⟩), .pointer (some ⟨H + 3, 0, none⟩), v.getD 0 undef, .func (.func gf) #[] lb, v.getD 0 undef, v.getD 1 undef, undef, undef, undef, undef, undef, undef, undef, undef, undef, undef], defers := [] }) ?assign ?body ?done ?stop
  case bnd =>
    obtain ⟨rfl, _, _, h3, h4, _⟩ := hi
    have h3 := h3.lt
    have h4 := h4.lt
    rcases hq with rfl | rfl
    · exact ⟨by omega, h3⟩
    · exact ⟨by omega, h4⟩
  case keepX =>
    exact ⟨(hh.block _ hx.1.lt (by omega)).trans hx.1, hx.2.1.trans (hh.below hx.2.1.size fun i hi => by omega), hx.2.2⟩
  case assign =>
    rintro l k v W K ⟨u, rfl⟩ hK
    gi_wp2
    simpa using hK
  case body =>
    rintro l k s F W hk ⟨rfl, h1, h2, h3, h4, h5, h6, h7, h8⟩ ⟨u, rfl⟩ _ _ _
    have hm := HM.out k hk
    have hNN := HN.out
    have hmo := HMO.out (k + 1) hk
    obtain ⟨V', hV'⟩ : ∃ V', W.setCell ⟨H + 3, 0, none⟩ (.int .i64 ((k : Int) + 1)) = V' := ⟨_, rfl⟩
    have u1 : Boxed V' (H + 3) 3 (.int .i64 ((k + 1 : Nat) : Int)) := by rw [← hV', Int.natCast_add]; exact h4.set _
    have u2 : Boxed V' (H + 2) 4 (.bool false) := by rw [← hV']; exact h3.other (by omega) _
    have u3 : Boxed V' H 3 (.int .i64 (ms : Int)) := by rw [← hV']; exact h1.other (by omega) _
    have u4 : Boxed V' (H + 1) 3 (.int .i64 (md : Int)) := by rw [← hV']; exact h2.other (by omega) _
    have hap : Held (fun i => ¬ (i = H + 2 ∨ i = H + 3)) W V' := by rw [← hV']; exact Held.set W (fun h => h (.inr rfl)) _
    have hbv : Below w.heap.size w V' := by rw [← hV']; exact h5.setCell (p := ⟨H + 3, 0, none⟩) (by show w.heap.size ≤ H + 3; omega) _
    have HIN : Hid (k + 1 ≤ ms → ds k ≤ md → givesPostN (fun _ => True) (WitI w H ms md N mx) (WitX w H (withB N ms (mx N) md)) k (fun q => q = H + 2 ∨ q = H + 3) W .normal { tmps := #[], defers := [] } V') := Lib.hid (fun g1 g2 =>
      ⟨trivial, hap, _, fun b hb => .inl hb, rfl, u3, u4, u2, u1, hbv, g1, by rw [hm]; exact Nat.max_le.2 ⟨h7, g2⟩, hk⟩)
    have HOUT : Hid ((ms < k + 1 ∨ md < ds k) → givesPostN (fun _ => True) (WitI w H ms md N mx) (WitX w H (withB N ms (mx N) md)) k (fun q => q = H + 2 ∨ q = H + 3) W .ret { tmps := #[], defers := [] } (V'.setCell ⟨H + 2, 0, none⟩ (.bool false))) := Lib.hid (fun g => by
      refine ⟨hap.trans (Held.set _ (fun h => h (.inl rfl)) _), u2.set _, hbv.setCell (p := ⟨H + 2, 0, none⟩) (by show w.heap.size ≤ H + 2; omega) _, ?_⟩
      unfold withB
      rcases g with g | g
      · rw [decide_eq_false (by omega)]; rfl
      · have : md < mx N := by have := Nat.le_max_right (mx k) (ds k); omega
        rw [decide_eq_false (p := mx N ≤ md) (by omega), Bool.and_false])
    rw [← hV'] at HIN HOUT
    have a1 := h1.cell
    have a2 := h2.cell
    have a3 := h3.cell
    have f3 := h3.frozen
    have a4 := h4.cell
    have f4 := h4.frozen
    generalize ds k = dk at HIN HOUT ⊢
    clear h1 h2 h3 h4 h5 h7 h8 u1 u2 u3 u4 hap hbv hV' hm hmo
    by_cases g1 : (ms : Int) < (k : Int) + 1
    · have HF := Lib.hid (HOUT.out (.inl (by omega)))
      clear HIN HOUT
      gi_wp2
      exact HF.out
    · by_cases g2 : (md : Int) < (dk : Int)
      · have HF := Lib.hid (HOUT.out (.inr (by omega)))
        clear HIN HOUT
        gi_wp2
        exact HF.out
      · have HF := Lib.hid (HIN.out (by omega) (by omega))
        clear HIN HOUT
        gi_wp2
        exact HF.out
  case done =>
    rintro F W ⟨rfl, h1, h2, h3, h4, h5, h6, h7, h8⟩ hK
    have hTrue : withB N ms (mx N) md = true := by unfold withB; simp [h6, h7]
    have hc := h3.cell
    have hf := h3.frozen
    have H3 := Lib.hid (h3.set (.bool true))
    have HB := Lib.hid h5
    have hD : (W.setCell ⟨H + 2, 0, none⟩ (.bool true)).heap[W1.heap.size]? = some (.deferred (some [])) := (Below.heap_setCell _ _ _ _ (by show W1.heap.size ≠ H + 2; omega)).trans hK
    have HD := Lib.hid hD
    have HT2 := Lib.hid hTrue
    clear h1 h2 h3 h4 h5 h6 h7 h8 hTrue hD hK
    gi_wp2
    refine ⟨by simp, .inl ⟨_, _, rfl, run_takeDeferred HD.out, ?_⟩⟩
    have hbx4 : Boxed ((W.setCell ⟨H + 2, 0, none⟩ (.bool true)).putObj W1.heap.size (.deferred none)) (H + 2) 4 (.bool true) := (World.putObj_heap_other (by omega)).trans H3.out
    have hb4 := hbx4.cell
    refine ⟨.bool true, ?_, by rw [HT2.out], (HB.out.setCell (p := ⟨H + 2, 0, none⟩) (by show w.heap.size ≤ H + 2; omega) _).trans (below_put _ (by omega))⟩
    simp [results, Try.f100, go_sem, hb4]
  case stop =>
    rintro W ⟨h1, h3, hne⟩ hK
    have hbx4 : Boxed (W.putObj W1.heap.size (.deferred none)) (H + 2) 4 (.bool false) := (World.putObj_heap_other (by omega)).trans h1
    have hb4 := hbx4.cell
    clear hbx4
    have HB := Lib.hid h3
    have HT2 := Lib.hid hne
    have HC4 := Lib.hid hb4
    clear h1 h3 hne hb4
    gi_wp2
    refine ⟨by simp, .inl ⟨_, _, rfl, run_takeDeferred hK, ?_⟩⟩
    have hb4 := HC4.out
    refine ⟨.bool false, ?_, by rw [HT2.out], HB.out.trans (below_put _ (by omega))⟩
    simp [results, Try.f100, go_sem, hb4]
end Go.Proofs.Ytlikmgkjilmjpaa

/-
  The program's isWithinLimits (over nodes).
-/
namespace Go.Proofs.Ytlikmgkjilmjpaa
open Go.RowKit Go.Shelf

def withinB (t : Ty) : Bool := decide (t.size ≤ 24) && decide (t.deep ≤ 7)
set_option maxRecDepth 100000 in
set_option maxHeartbeats 800000 in
theorem implWithin_any (t : Ty) (w : World) (cs : List Value) (h : RTy w t cs) (hs : t.size ≤ 1048577) : Calls Try.prog 76 #[.agg cs.toArray] w (Truth (withinB t) w) := by
  obtain ⟨c0, c1, c2, rfl⟩ := h.three
  obtain ⟨W1, hW1⟩ : ∃ W1, w.alloc (.cells #[c0, c1, c2] 41) = W1 := ⟨_, rfl⟩
  obtain ⟨H, hH⟩ : ∃ H, w.heap.size = H := ⟨_, rfl⟩
  have hb1 : Below w.heap.size w W1 := by rw [← hW1]; exact (Below.refl _ _).alloc (Nat.le_refl _) _
  have hbx : Box3 W1 H 41 c0 c1 c2 := by rw [← hW1, ← hH]; exact Box3.new w _ _ _ _
  have HI := Lib.hid (nodesOfT_any W1 t W1 _ (h.keep hb1) (Below.refl _ _) hs)
  have HN : Hid ((t.pre 1).length = t.size) := Lib.hid (pre_len t 1)
  have HD : Hid (topTo t (t.pre 1).length = t.deep) := Lib.hid (topTo_all t)
  have HS := Lib.hid hs
  have HW1 := Lib.hid hW1
  have HB1 := Lib.hid hb1
  have x0 := hbx.c0
  have x1 := hbx.c1
  have x2 := hbx.c2
  clear h hs hW1 hb1 hbx
  go_enter Try.func76, Try.ntmps76
  go_wp2_with fail
  rw [HW1.out]
  go_wp2_with fail
  refine HI.out.mono ?_
  rintro e w2 hi
  obtain ⟨lb, rfl, hb2, hg⟩ := hi.gives (Nat.le_refl _)
  have HC := Lib.hid (withinT_any _ lb (enters_of Try.func128 (by kernel_rfl) rfl) w2 (t.pre 1).length 24 7 (depAt t) (topTo t) (by rw [HN.out]; exact HS.out) (by decide) (topTo_zero t) (fun k hk => topTo_dep t k hk) (fun k _ => topTo_mono t k) (fun W hW => (hg W hW).weaken fun _ _ h => h.dep))
  rw [HN.out] at HC
  have HB2 := Lib.hid (HB1.out.trans (hb2.mono HB1.out.size))
  have HE : Hid (withB t.size 24 (topTo t (t.pre 1).length) 7 = withinB t) := Lib.hid (by rw [HD.out]; rfl)
  rw [HN.out] at HE
  rw [HE.out] at HC
  clear hi hb2 hg x0 x1 x2
  go_wp2_with fail
  refine HC.out.mono ?_
  rintro e w3 ⟨rfl, hb3⟩
  have HF : Hid (Truth (withinB t) w (.returned (.bool (withinB t))) w3) := Lib.hid ⟨rfl, HB2.out.trans (hb3.mono HB2.out.size)⟩
  clear hb3
  go_wp2_with fail
  go_ret
  exact HF.out
end Go.Proofs.Ytlikmgkjilmjpaa

/-
  Within the limits and well made: valid, or a data type.
-/
namespace Go.Proofs.Ytlikmgkjilmjpaa
open Go.RowKit

theorem valid_iff (t : Ty) : (withinB t && wellB t true) = validB t := by
  unfold withinB wellB validB
  cases t.form <;> simp
theorem data_iff (t : Ty) : (withinB t && wellB t false) = dataB t := by
  unfold withinB wellB dataB validB
  cases t.form <;> cases Tr.has 5 t <;> simp
end Go.Proofs.Ytlikmgkjilmjpaa

/-
  The program's IsData.
-/
namespace Go.Proofs.Ytlikmgkjilmjpaa
open Go.RowKit
set_option maxRecDepth 100000 in
set_option maxHeartbeats 800000 in
theorem implData_any (t : Ty) (w : World) (cs : List Value) (h : RTy w t cs) (hw : wt t ≤ 1048576) : Calls Try.prog 47 #[.agg cs.toArray] w (Truth (dataB t) w) := by
  have hz := size_wt t
  obtain ⟨c0, c1, c2, W1, H, rfl, hH, hW1, hbox, hb0⟩ := boxed h
  have HC := Lib.hid (implWithin_any t W1 _ (h.keep hb0) (by omega))
  have HD := Lib.hid (fun W (hB : Below w.heap.size w W) => well_any t W _ false (h.keep hB) hw)
  have HE := Lib.hid (data_iff t)
  have HW1 := Lib.hid hW1
  have HB1 := Lib.hid hb0
  have B1 := Lib.hid hbox
  have x0 := hbox.c0
  have x1 := hbox.c1
  have x2 := hbox.c2
  clear h hw hz hb0 hbox hW1
  go_enter Try.func47, Try.ntmps47
  go_wp2_with fail
  rw [HW1.out]
  go_wp2_with fail
  refine HC.out.mono ?_
  rintro e w2 ⟨rfl, hb2⟩
  have HB2 := Lib.hid (HB1.out.trans (hb2.mono HB1.out.size))
  have B2 := Lib.hid (B1.out.under hb2 B1.out.lt)
  clear x0 x1 x2 hb2 HC
  generalize withinB t = a at HE ⊢
  cases a with
  | false =>
    have HF : Hid (Truth (dataB t) w (.returned (.bool false)) w2) := by rw [← HE.out]; exact ⟨rfl, HB2.out⟩
    go_wp2_with fail
    go_ret
    exact HF.out
  | true =>
    have HC := Lib.hid (HD.out w2 HB2.out)
    have HG : Hid (wellB t false = dataB t) := by rw [← HE.out]; exact rfl
    have x0 := B2.out.c0
    have x1 := B2.out.c1
    have x2 := B2.out.c2
    clear HE HD
    go_wp2_with fail
    refine HC.out.mono ?_
    rintro e w3 ⟨rfl, hb3⟩
    have HF : Hid (Truth (dataB t) w (.returned (.bool (wellB t false))) w3) := ⟨by rw [HG.out], HB2.out.trans (hb3.mono HB2.out.size)⟩
    clear hb3 HG HC
    generalize wellB t false = b at HF ⊢
    go_wp2_with fail
    go_ret
    exact HF.out
end Go.Proofs.Ytlikmgkjilmjpaa
