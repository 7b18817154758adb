/-
  Merged by program: AreTI.
-/
import Derived.Test.YtlcpekpgkllbkaaQ38
import Derived.Test.YtlcpekpgkllbkaaQ39
import Derived.Test.YtlcpekpgkllbkaaQ27
import Derived.Test.YtlcpekpgkllbkaaQ40

/-
  The program's areEqual over impl.Type, and EqualType. Written by wip/tools/mkare.py.
-/
namespace Go.Proofs.Ytlcpekpgkllbkaa
open Go.RowKit Go.Shelf

attribute [local go_sem] Oper.semAt_some

theorem nodeB_iff (x y : Ty) : nodeB x y = true ↔ x.top = y.top ∧ x.kids.length = y.kids.length := by
  unfold nodeB
  rw [Bool.and_eq_true, Bool.and_eq_true, decide_eq_true_iff, decide_eq_true_iff, same_iff]
  constructor
  · rintro ⟨h1, h2, h3⟩
    refine ⟨?_, h3⟩
    cases hx : x.top
    cases hy : y.top
    rw [hx, hy] at h1 h2
    simp only at h1 h2
    rw [h1, h2]
  · rintro ⟨h1, h2⟩
    exact ⟨by rw [h1], by rw [h1], h2⟩
def PairsAtT (c0 c1 c2 d0 d1 d2 : Value) (w : World) (e : Ending) (w' : World) : Prop :=
  e = .returned (.func (.func 138) #[] #[.pointer (some ⟨w.heap.size, 0, none⟩), .pointer (some ⟨w.heap.size + 1, 0, none⟩), .pointer (some ⟨w.heap.size + 2, 0, none⟩)]) ∧ w' = ((w.alloc (.cells #[c0, c1, c2] 36)).alloc (.cells #[d0, d1, d2] 36)).alloc (.cells #[.func (.func 84) #[] #[]] 114)
set_option maxHeartbeats 800000 in
theorem pairsT_any (c0 c1 c2 d0 d1 d2 : Value) (w : World) : Calls Try.prog 132 #[.agg #[c0, c1, c2], .agg #[d0, d1, d2], .func (.func 84) #[] #[]] w (PairsAtT c0 c1 c2 d0 d1 d2 w) := by
  have hR : Hid (PairsAtT c0 c1 c2 d0 d1 d2 w (.returned (.func (.func 138) #[] #[.pointer (some ⟨w.heap.size, 0, none⟩), .pointer (some ⟨w.heap.size + 1, 0, none⟩), .pointer (some ⟨w.heap.size + 2, 0, none⟩)])) (((w.alloc (.cells #[c0, c1, c2] 36)).alloc (.cells #[d0, d1, d2] 36)).alloc (.cells #[.func (.func 84) #[] #[]] 114))) := ⟨rfl, rfl⟩
  go_enter Try.func132, Try.ntmps132
  go_wp2_with fail
  go_ret
  exact hR.out
/-- between two rounds: all pairs so far are alike -/
def AreIT (a b : Ty) (w : World) (H k : Nat) (F : Nat → Prop) (W : World) : Prop :=
  F = (fun q => q = H + 3) ∧ Boxed W (H + 3) 4 (.bool false) ∧ Boxed W (H + 2) 39 (.func (.func 117) #[] #[]) ∧ Below w.heap.size w W ∧ ∀ j p, j < k → (pre2 a b)[j]? = some p → nodeB p.1 p.2 = true
theorem AreIT.keep {a b : Ty} {w A C : World} {H k D : Nat} {F : Nat → Prop} (h : AreIT a b w H k F A) (hh : Held (fun i => i < D ∨ F i) A C) (hD : w.heap.size ≤ D) (hHD : H + 3 < D) : AreIT a b w H k F C := by
  obtain ⟨rfl, h1, h2, h3, h4⟩ := h
  exact ⟨rfl, (hh.block _ h1.lt (.inr rfl)).trans h1, (hh.block _ h2.lt (.inl (by omega))).trans h2, h3.trans (hh.below h3.size fun i hi => .inl (by omega)), h4⟩
/-- a pair was not alike -/
def AreXT (a b : Ty) (w : World) (H : Nat) (W : World) : Prop := Boxed W (H + 3) 4 (.bool false) ∧ Below w.heap.size w W ∧ a ≠ b
def Asg2T (v : Array Value) (q : Nat) (W : World) : Prop := ∃ cs ds, v = #[.agg cs, .agg ds] ∧ W.heap[q]? = some (.cells cs 36) ∧ W.heap[q + 1]? = some (.cells ds 36)
theorem Asg2T.held {v : Array Value} {q : Nat} {A C : World} (h : Asg2T v q A) (hh : Held (fun i => q ≤ i) A C) : Asg2T v q C := by
  obtain ⟨cs, ds, h1, h2, h3⟩ := h
  exact ⟨cs, ds, h1, (hh.block q (Array.getElem?_eq_some_iff.1 h2).1 (Nat.le_refl _)).trans h2, (hh.block _ (Array.getElem?_eq_some_iff.1 h3).1 (Nat.le_succ _)).trans h3⟩

set_option maxRecDepth 100000 in
set_option maxHeartbeats 4000000 in
theorem areT_any (a b : Ty) (w : World) (cs ds : List Value) (h : RTy w a cs) (h' : RTy w b ds) (hs : a.size ≤ 1048577) : Calls Try.prog 116 #[.agg cs.toArray, .agg ds.toArray, .func (.func 84) #[] #[], .func (.func 117) #[] #[]] w (Truth (same a b) w) := by
  obtain ⟨c0, c1, c2, rfl⟩ := h.three
  obtain ⟨d0, d1, d2, rfl⟩ := h'.three
  obtain ⟨H, hH⟩ : ∃ H, w.heap.size = H := ⟨_, rfl⟩
  obtain ⟨W1, hW1⟩ : ∃ W1, (((w.alloc (.cells #[c0, c1, c2] 36)).alloc (.cells #[d0, d1, d2] 36)).alloc (.cells #[.func (.func 117) #[] #[]] 39)).alloc (.cells #[.bool false] 4) = W1 := ⟨_, rfl⟩
  have hz1 : W1.heap.size = H + 4 := by rw [← hW1, ← hH]; simp
  have hb1 : Below w.heap.size w W1 := by rw [← hW1]; exact ((((Below.refl _ _).alloc (Nat.le_refl _) _).alloc (by simp) _).alloc (by simp; omega) _).alloc (by simp; omega) _
  have hxa : Box3 W1 H 36 c0 c1 c2 := by rw [← hW1, ← hH]; exact (((Box3.new w 36 c0 c1 c2).alloc _).alloc _).alloc _
  have hxb : Box3 W1 (H + 1) 36 d0 d1 d2 := by
    rw [← hW1, ← hH]
    have := ((Box3.new (w.alloc (.cells #[c0, c1, c2] 36)) 36 d0 d1 d2).alloc (.cells #[.func (.func 117) #[] #[]] 39)).alloc (.cells #[.bool false] 4)
    rw [World.size_alloc] at this
    exact this
  have hxq : Boxed W1 (H + 2) 39 (.func (.func 117) #[] #[]) := by
    rw [← hW1, ← hH]
    have := (Boxed.new ((w.alloc (.cells #[c0, c1, c2] 36)).alloc (.cells #[d0, d1, d2] 36)) 39 (.func (.func 117) #[] #[])).alloc (.cells #[.bool false] 4)
    rw [World.size_alloc, World.size_alloc] at this
    exact this
  have hxr : Boxed W1 (H + 3) 4 (.bool false) := by
    rw [← hW1, ← hH]
    have := Boxed.new (((w.alloc (.cells #[c0, c1, c2] 36)).alloc (.cells #[d0, d1, d2] 36)).alloc (.cells #[.func (.func 117) #[] #[]] 39)) 4 (.bool false)
    rw [World.size_alloc, World.size_alloc, World.size_alloc] at this
    exact this
  have HP := Lib.hid (pairsT_any c0 c1 c2 d0 d1 d2 W1)
  obtain ⟨W3, hW3⟩ : ∃ W3, ((W1.alloc (.cells #[c0, c1, c2] 36)).alloc (.cells #[d0, d1, d2] 36)).alloc (.cells #[.func (.func 84) #[] #[]] 114) = W3 := ⟨_, rfl⟩
  have hz3 : W3.heap.size = H + 7 := by rw [← hW3]; simp; omega
  have hb3 : Below W1.heap.size W1 W3 := by rw [← hW3]; exact (((Below.refl _ _).alloc (Nat.le_refl _) _).alloc (by simp) _).alloc (by simp; omega) _
  have hya : Box3 W3 (H + 4) 36 c0 c1 c2 := by
    rw [← hW3, ← hz1]
    exact ((Box3.new W1 36 c0 c1 c2).alloc _).alloc _
  have hyb : Box3 W3 (H + 4 + 1) 36 d0 d1 d2 := by
    rw [← hW3, ← hz1]
    have := (Box3.new (W1.alloc (.cells #[c0, c1, c2] 36)) 36 d0 d1 d2).alloc (.cells #[.func (.func 84) #[] #[]] 114)
    rw [World.size_alloc] at this
    exact this
  have hyf : Boxed W3 (H + 4 + 2) 114 (.func (.func 84) #[] #[]) := by
    rw [← hW3, ← hz1]
    have := Boxed.new ((W1.alloc (.cells #[c0, c1, c2] 36)).alloc (.cells #[d0, d1, d2] 36)) 114 (.func (.func 84) #[] #[])
    rw [World.size_alloc, World.size_alloc] at this
    exact this
  have hb13 : Below w.heap.size w W3 := hb1.trans (hb3.mono hb1.size)
  have hI0 : AreIT a b w H 0 (fun q => q = H + 3) W3 := ⟨rfl, (hb3.block _ (by omega)).trans hxr, (hb3.block _ (by omega)).trans hxq, hb13, fun j p hj => by omega⟩
  obtain ⟨Keep, hKeep⟩ : ∃ Keep : Nat → Prop, Keep = fun q => q < w.heap.size ∨ q = H + 4 ∨ q = H + 4 + 1 ∨ q = H + 4 + 2 := ⟨_, rfl⟩
  have hkW : ∀ q, Keep q → q < W3.heap.size := by rw [hKeep]; rintro q (h | h | h | h) <;> omega
  have HG : Hid (∀ W, Below W3.heap.size W3 W → GivesN Fence.wide (9 - 1) Try.prog 138 #[.pointer (some ⟨H + 4, 0, none⟩), .pointer (some ⟨H + 4 + 1, 0, none⟩), .pointer (some ⟨H + 4 + 2, 0, none⟩)] (pre2 a b).length (PRdN (RTy w) a b) (POn a b) Keep W) := Lib.hid (fun W hW =>
    pairs1T_gives w a b c0 c1 c2 d0 d1 d2 h h' hs (9 - 1) (H + 4) (by decide) Keep (fun q hq => by rw [hKeep]; exact .inl hq) (by rw [hKeep]; exact .inr (.inr (.inr rfl))) W (fun q hq => by have := hkW q hq; have := hW.size; omega)
      (hb13.trans (hW.mono hb13.size)) ((hW.block _ (by omega)).trans hya) ((hW.block _ (by omega)).trans hyb) ((hW.block _ (by omega)).trans hyf))
  have HKW := Lib.hid hkW
  have HKE := Lib.hid hKeep
  have HI0 := Lib.hid hI0
  have HW1 := Lib.hid hW1
  have HW3 := Lib.hid hW3
  have HZ1 := Lib.hid hz1
  have HZ3 := Lib.hid hz3
  have HH := Lib.hid hH
  have x0 := hxa.c0
  have x1 := hxa.c1
  have x2 := hxa.c2
  have y0 := hxb.c0
  have y1 := hxb.c1
  have y2 := hxb.c2
  clear h h' hs hW1 hz1 hb1 hxa hxb hxq hxr hW3 hz3 hb3 hya hyb hyf hb13 hI0 hKeep hkW hH
  refine (callsIn_wide (n := 9)).1 ?_
  refine callsIn_of_wp_marks Try.func116 rfl trivial ?_ rfl
  simp only [Try.ntmps116, List.size_toArray, List.length_cons, List.length_nil, Nat.reduceAdd, Nat.reduceSub, Array.replicate_succ, Array.replicate_zero, List.push_toArray, List.append_toArray, List.nil_append, List.cons_append]
  have hHz := HH.out
  gi_wp2
  rw [HW1.out]
  gi_wp2_with (refine ⟨trivial, ?_⟩; gi_at_call 132; refine (callsIn_wide.2 HP.out).mono ?_; rintro e w3 ⟨rfl, hw3⟩; rw [HW3.out] at hw3; subst hw3; rw [HZ1.out])
  have hz3 := HZ3.out
  have hz1 := HZ1.out
  refine wpIn_givesA (n := 9) (w := w3) rfl (by decide) (gf := 138) (lb := #[.pointer (some ⟨H + 4, 0, none⟩), .pointer (some ⟨H + 4 + 1, 0, none⟩), .pointer (some ⟨H + 4 + 2, 0, none⟩)]) rfl trivial (enters_of Try.func138 (by kernel_rfl) rfl)
    (M := (pre2 a b).length) (Rd := PRdN (RTy w) a b) (On := POn a b) (Keep := Keep) (fun _ _ h => h.size) HKW.out (fun W hW hz => HG.out W hW)
    (AreIT a b w H) (AreXT a b w H) (fun k F A C hi hh => hi.keep hh (by omega) (by omega)) (fun k F A hi q hq => ?bnd) (fun A C hx hh => ?keepX) _ HI0.out
    (fun v q => { tmps := #[.agg #[c0, c1, c2], .agg #[d0, d1, d2], .func (.func 84) #[] #[], .func (.func 117) #[] #[], .pointer (some ⟨H, 0, none⟩), .pointer (some ⟨H + 1, 0, none⟩), undef, .pointer (some ⟨H + 2, 0, none⟩), .pointer (some ⟨H + 3, 0, none⟩), .pointer (some ⟨q, 0, none⟩), .pointer (some ⟨q + 1, 0, none⟩), .agg #[c0, c1, c2], .agg #[d0, d1, d2], .func (.func 84) #[] #[], .func (.func 138) #[] #[.pointer (some ⟨H + 4, 0, none⟩), .pointer (some ⟨H + 4 + 1, 0, none⟩), .pointer (some ⟨H + 4 + 2, 0, none⟩)], v.getD 0 undef, v.getD 1 undef, undef, undef, undef, undef, undef], defers := [] }) Asg2T (fun _ _ _ _ h hh => h.held hh) ?assign ?body ?done ?stop
  case bnd =>
    obtain ⟨rfl, h1, _⟩ := hi
    have e : q = H + 3 := hq
    subst e
    rw [HKE.out]
    exact ⟨by omega, h1.lt⟩
  case keepX =>
    exact ⟨(hh.block _ hx.1.lt (by omega)).trans hx.1, hx.2.1.trans (hh.below hx.2.1.size fun i hi => by omega), hx.2.2⟩
  case assign =>
    rintro l k v W K ⟨x, y, cx, cy, hat, rfl, hrx, hry⟩ hK
    obtain ⟨e0, e1, e2, rfl⟩ := hrx.three
    obtain ⟨f0, f1, f2, rfl⟩ := hry.three
    obtain ⟨A', d', rfl, _⟩ := rd_kidsT hrx
    obtain ⟨B', b', rfl, _⟩ := rd_kidsT hry
    obtain ⟨ek, eL, el, elc, rfl, rfl⟩ := rd_shapeT hrx
    obtain ⟨jk, jL, jl, jlc, rfl, rfl⟩ := rd_shapeT hry
    have hal : Below W.heap.size W ((W.alloc (.cells #[.int .i64 ek, .slice eL el elc, .slice A' x.kids.length d'] 36)).alloc (.cells #[.int .i64 jk, .slice jL jl jlc, .slice B' y.kids.length b'] 36)) := ((Below.refl _ _).alloc (Nat.le_refl _) _).alloc (by simp) _
    have hn2 := World.alloc_heap_new (W.alloc (.cells #[.int .i64 ek, .slice eL el elc, .slice A' x.kids.length d'] 36)) (.cells #[.int .i64 jk, .slice jL jl jlc, .slice B' y.kids.length b'] 36)
    rw [World.size_alloc] at hn2
    have hn1 := ((Below.refl _ (W.alloc (.cells #[.int .i64 ek, .slice eL el elc, .slice A' x.kids.length d'] 36))).alloc (Nat.le_refl _) (.cells #[.int .i64 jk, .slice jL jl jlc, .slice B' y.kids.length b'] 36)).block W.heap.size (by simp)
    have HK := Lib.hid (hK _ ⟨_, _, rfl, hn1.trans (World.alloc_heap_new W (.cells #[.int .i64 ek, .slice eL el elc, .slice A' x.kids.length d'] 36)), hn2⟩ hal)
    clear hK hrx hry hat hal hn1 hn2
    gi_wp2
    simpa using HK.out
  case body =>
    rintro l k s F W q hk ⟨rfl, h1, h2, h3, h4⟩ ⟨x, y, cx, cy, hat, rfl, hrx, hry⟩ ⟨cs', ds', eq1, hc1, hc2⟩ hq1 hq2 _ _ _
    have e2 : cx.toArray = cs' ∧ cy.toArray = ds' := by
      simp only [Array.mk.injEq, List.cons.injEq, Value.agg.injEq, and_true] at eq1
      exact eq1
    obtain ⟨rfl, rfl⟩ := e2
    have HN := Lib.hid (node_any x y W _ _ (hrx.keep h3) (hry.keep h3))
    obtain ⟨e0, e1, e2, rfl⟩ := hrx.three
    obtain ⟨f0, f1, f2, rfl⟩ := hry.three
    have bx : Box3 W q 36 e0 e1 e2 := hc1
    have by0 : Box3 W (q + 1) 36 f0 f1 f2 := hc2
    have x0 := bx.c0
    have x1 := bx.c1
    have x2 := bx.c2
    have y0 := by0.c0
    have y1 := by0.c1
    have y2 := by0.c2
    have hq := h2.cell
    obtain ⟨r, hr⟩ : ∃ r, nodeB x y = r := ⟨_, rfl⟩
    rw [hr] at HN
    have HI : Hid (r = true → ∀ W', Below W.heap.size W W' → givesPostN (POn a b) (AreIT a b w H) (AreXT a b w H) k (fun q => q = H + 3) W .normal { tmps := #[], defers := [] } W') := Lib.hid (by
      rintro rfl W' hb'
      refine ⟨fun x' y' hat' => ?_, Held.of_below hb' fun i hi _ => hi, fun q => q = H + 3, fun q hq => .inl hq, rfl, (hb'.block _ h1.lt).trans h1, (hb'.block _ h2.lt).trans h2, h3.trans (hb'.mono h3.size), fun j p hj hp => ?_⟩
      · rw [hat] at hat'
        injection hat' with hat'
        injection hat' with e1 e2
        subst e1 e2
        exact ((nodeB_iff _ _).1 hr).2
      · by_cases e : j = k
        · subst e
          rw [hat] at hp
          injection hp with hp
          rw [← hp]
          exact hr
        · exact h4 j p (by omega) hp)
    have HX : Hid (r = false → ∀ W', Below W.heap.size W W' → givesPostN (POn a b) (AreIT a b w H) (AreXT a b w H) k (fun q => q = H + 3) W .ret { tmps := #[], defers := [] } (W'.setCell ⟨H + 3, 0, none⟩ (.bool false))) := Lib.hid (by
      rintro rfl W' hb'
      have hbx : Boxed W' (H + 3) 4 (.bool false) := (hb'.block _ h1.lt).trans h1
      refine ⟨(Held.of_below hb' fun i hi _ => hi).trans (Held.set _ (fun h => h rfl) _), hbx.set _, (h3.trans (hb'.mono h3.size)).setCell (p := ⟨H + 3, 0, none⟩) (by show w.heap.size ≤ H + 3; omega) _, fun e => ?_⟩
      have h5 := (nodeB_iff x y).2 ((pre2_same a b).1 e _ (List.mem_of_getElem? hat))
      rw [hr] at h5
      cases h5)
    have HFR : Hid (∀ W', Below W.heap.size W W' → Boxed W' (H + 3) 4 (.bool false)) := Lib.hid (fun W' hb' => (hb'.block _ h1.lt).trans h1)
    clear h1 h2 h3 h4 hat hrx hry hc1 hc2 bx by0 hr eq1 hk
    cases r with
    | true =>
      gi_wp2_with (refine ⟨trivial, ?_⟩; gi_at_call 117; refine (CallsIn.inRound l (callsIn_wide.2 HN.out)).mono ?_; rintro e W' ⟨rfl, hb'⟩; have HF2 := Lib.hid (HI.out rfl W' hb'); clear hb')
      exact HF2.out
    | false =>
      gi_wp2_with (refine ⟨trivial, ?_⟩; gi_at_call 117; refine (CallsIn.inRound l (callsIn_wide.2 HN.out)).mono ?_; rintro e W' ⟨rfl, hb'⟩; have HF2 := Lib.hid (HX.out rfl W' hb'); have hbx' := HFR.out W' hb'; have hc1 := hbx'.cell; have hf1 := hbx'.frozen; clear hb' hbx')
      exact HF2.out
  case done =>
    rintro F W ⟨rfl, h1, h2, h3, h4⟩ hK
    have hTrue : same a b = true := same_yes ((pre2_same a b).2 fun p hp => by
      obtain ⟨j, hj, e⟩ := List.getElem_of_mem hp
      exact (nodeB_iff _ _).1 (h4 j p hj (by rw [List.getElem?_eq_getElem hj, e])))
    have hc := h1.cell
    have hf := h1.frozen
    have H3 := Lib.hid (h1.set (.bool true))
    have HB := Lib.hid h3
    have hD : (W.setCell ⟨H + 3, 0, none⟩ (.bool true)).heap[w3.heap.size]? = some (.deferred (some [])) := (Below.heap_setCell _ _ _ _ (by show w3.heap.size ≠ H + 3; omega)).trans hK
    have HD := Lib.hid hD
    have HT2 := Lib.hid hTrue
    clear h1 h2 h3 h4 hTrue hD hK
    gi_wp2
    refine ⟨by simp, .inl ⟨_, _, rfl, run_takeDeferred HD.out, ?_⟩⟩
    have hbx4 : Boxed ((W.setCell ⟨H + 3, 0, none⟩ (.bool true)).putObj w3.heap.size (.deferred none)) (H + 3) 4 (.bool true) := (World.putObj_heap_other (by omega)).trans H3.out
    have hb4 := hbx4.cell
    refine ⟨.bool true, ?_, by rw [HT2.out], (HB.out.setCell (p := ⟨H + 3, 0, none⟩) (by show w.heap.size ≤ H + 3; omega) _).trans (below_put _ (by omega))⟩
    simp [results, Try.f116, go_sem, hb4]
  case stop =>
    rintro W ⟨h1, h3, hne⟩ hK
    have hbx4 : Boxed (W.putObj w3.heap.size (.deferred none)) (H + 3) 4 (.bool false) := (World.putObj_heap_other (by omega)).trans h1
    have hb4 := hbx4.cell
    clear hbx4
    have HB := Lib.hid h3
    have HT2 := Lib.hid (same_no hne)
    have HC4 := Lib.hid hb4
    clear h1 h3 hne hb4
    gi_wp2
    refine ⟨by simp, .inl ⟨_, _, rfl, run_takeDeferred hK, ?_⟩⟩
    have hb4 := HC4.out
    refine ⟨.bool false, ?_, by rw [HT2.out], HB.out.trans (below_put _ (by omega))⟩
    simp [results, Try.f116, go_sem, hb4]

set_option maxHeartbeats 800000 in
theorem implEqualType_any (a b : Ty) (w : World) (cs ds : List Value) (h : RTy w a cs) (h' : RTy w b ds) (hs : a.size ≤ 1048577) : Calls Try.prog 93 #[.agg cs.toArray, .agg ds.toArray] w (Truth (same a b) w) := by
  obtain ⟨c0, c1, c2, rfl⟩ := h.three
  obtain ⟨d0, d1, d2, rfl⟩ := h'.three
  obtain ⟨H, hH⟩ : ∃ H, w.heap.size = H := ⟨_, rfl⟩
  obtain ⟨W1, hW1⟩ : ∃ W1, (w.alloc (.cells #[c0, c1, c2] 36)).alloc (.cells #[d0, d1, d2] 36) = W1 := ⟨_, rfl⟩
  have hb1 : Below w.heap.size w W1 := by rw [← hW1]; exact ((Below.refl _ _).alloc (Nat.le_refl _) _).alloc (by simp) _
  have hxa : Box3 W1 H 36 c0 c1 c2 := by rw [← hW1, ← hH]; exact (Box3.new w 36 c0 c1 c2).alloc _
  have hxb : Box3 W1 (H + 1) 36 d0 d1 d2 := by
    rw [← hW1, ← hH]
    have := Box3.new (w.alloc (.cells #[c0, c1, c2] 36)) 36 d0 d1 d2
    rw [World.size_alloc] at this
    exact this
  have HA := Lib.hid (areT_any a b W1 _ _ (h.keep hb1) (h'.keep hb1) hs)
  obtain ⟨r, hr⟩ : ∃ r, same a b = r := ⟨_, rfl⟩
  rw [hr] at HA ⊢
  have HW1 := Lib.hid hW1
  have HB1 := Lib.hid hb1
  have x0 := hxa.c0
  have x1 := hxa.c1
  have x2 := hxa.c2
  have y0 := hxb.c0
  have y1 := hxb.c1
  have y2 := hxb.c2
  clear h h' hs hW1 hb1 hxa hxb hr
  go_enter Try.func93, Try.ntmps93
  go_wp2_with fail
  rw [HW1.out]
  go_wp2_with fail
  refine HA.out.mono ?_
  rintro e w2 ⟨rfl, hb2⟩
  have HF : Hid (Truth r w (.returned (.bool r)) w2) := Lib.hid ⟨rfl, HB1.out.trans (hb2.mono HB1.out.size)⟩
  clear hb2
  go_wp2_with fail
  go_ret
  exact HF.out
end Go.Proofs.Ytlcpekpgkllbkaa
