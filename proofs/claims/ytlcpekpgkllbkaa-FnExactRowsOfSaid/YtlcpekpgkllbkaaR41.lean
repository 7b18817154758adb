/-
  Merged by program: CmpP, VaShp.
-/
import Derived.Test.YtlcpekpgkllbkaaR38
import Derived.Test.YtlcpekpgkllbkaaR27
import Derived.Test.YtlcpekpgkllbkaaR39
import Derived.Test.YtlcpekpgkllbkaaR40
import Derived.Test.YtlcpekpgkllbkaaR7

/-
  The program's CompareValues over pairs of nodes. Written by wip/tools/mkcmpp.py.
-/
namespace Go.Proofs.Ytlcpekpgkllbkaa
open Go.RowKit Go.Shelf

attribute [local go_sem] Oper.semAt_some

/-- an answer that is a number -/
def NumB (n : Int) (w : World) (e : Ending) (w' : World) : Prop := e = .returned (.int .i64 n) ∧ Below w.heap.size w w'
def PairsAtV (c0 c1 c2 c3 d0 d1 d2 d3 : Value) (w : World) (e : Ending) (w' : World) : Prop :=
  e = .returned (.func (.func 139) #[] #[.pointer (some ⟨w.heap.size, 0, none⟩), .pointer (some ⟨w.heap.size + 1, 0, none⟩), .pointer (some ⟨w.heap.size + 2, 0, none⟩)]) ∧ w' = ((w.alloc (.cells #[c0, c1, c2, c3] 92)).alloc (.cells #[d0, d1, d2, d3] 92)).alloc (.cells #[.func (.func 115) #[] #[]] 149)
set_option maxHeartbeats 800000 in
theorem pairsV_any (c0 c1 c2 c3 d0 d1 d2 d3 : Value) (w : World) : Calls Try.prog 134 #[.agg #[c0, c1, c2, c3], .agg #[d0, d1, d2, d3], .func (.func 115) #[] #[]] w (PairsAtV c0 c1 c2 c3 d0 d1 d2 d3 w) := by
  have hR : Hid (PairsAtV c0 c1 c2 c3 d0 d1 d2 d3 w (.returned (.func (.func 139) #[] #[.pointer (some ⟨w.heap.size, 0, none⟩), .pointer (some ⟨w.heap.size + 1, 0, none⟩), .pointer (some ⟨w.heap.size + 2, 0, none⟩)])) (((w.alloc (.cells #[c0, c1, c2, c3] 92)).alloc (.cells #[d0, d1, d2, d3] 92)).alloc (.cells #[.func (.func 115) #[] #[]] 149))) := ⟨rfl, rfl⟩
  go_enter Try.func134, Try.ntmps134
  go_wp2_with fail
  go_ret
  exact hR.out
/-- between two rounds: all pairs so far are alike -/
def CmpPI (a b : Va) (w : World) (H k : Nat) (F : Nat → Prop) (W : World) : Prop :=
  F = (fun q => q = H + 2) ∧ Boxed W (H + 2) 3 (.int .i64 0) ∧ Below w.heap.size w W ∧ ∀ j p, j < k → (pre2 a b)[j]? = some p → ndC p = 0
theorem CmpPI.keep {a b : Va} {w A C : World} {H k D : Nat} {F : Nat → Prop} (h : CmpPI a b w H k F A) (hh : Held (fun i => i < D ∨ F i) A C) (hD : w.heap.size ≤ D) : CmpPI a b w H k F C := by
  obtain ⟨rfl, h1, h3, h4⟩ := h
  exact ⟨rfl, (hh.block _ h1.lt (.inr rfl)).trans h1, h3.trans (hh.below h3.size fun i hi => .inl (by omega)), h4⟩
/-- a pair was not alike -/
def CmpPX (a b : Va) (w : World) (H : Nat) (W : World) : Prop := Boxed W (H + 2) 3 (.int .i64 (cmpV a b)) ∧ Below w.heap.size w W
def AsgP2 (v : Array Value) (q : Nat) (W : World) : Prop := ∃ cs ds, v = #[.agg cs, .agg ds] ∧ W.heap[q]? = some (.cells cs 92) ∧ W.heap[q + 1]? = some (.cells ds 92)
theorem AsgP2.held {v : Array Value} {q : Nat} {A C : World} (h : AsgP2 v q A) (hh : Held (fun i => q ≤ i) A C) : AsgP2 v q C := by
  obtain ⟨cs, ds, h1, h2, h3⟩ := h
  exact ⟨cs, ds, h1, (hh.block q (Array.getElem?_eq_some_iff.1 h2).1 (Nat.le_refl _)).trans h2, (hh.block _ (Array.getElem?_eq_some_iff.1 h3).1 (Nat.le_succ _)).trans h3⟩

set_option maxRecDepth 100000 in
set_option maxHeartbeats 4000000 in
theorem implCmpP_any (a b : Va) (w : World) (cs ds : List Value) (h : RVa w a cs) (h' : RVa w b ds) (hs : a.size ≤ 1048577) : Calls Try.prog 119 #[.agg cs.toArray, .agg ds.toArray] w (NumB (cmpV a b) w) := by
  obtain ⟨c0, c1, c2, c3, rfl⟩ := h.four
  obtain ⟨d0, d1, d2, d3, rfl⟩ := h'.four
  obtain ⟨H, hH⟩ : ∃ H, w.heap.size = H := ⟨_, rfl⟩
  obtain ⟨W1, hW1⟩ : ∃ W1, ((w.alloc (.cells #[c0, c1, c2, c3] 92)).alloc (.cells #[d0, d1, d2, d3] 92)).alloc (.cells #[.int .i64 0] 3) = W1 := ⟨_, rfl⟩
  have hz1 : W1.heap.size = H + 3 := by rw [← hW1, ← hH]; simp
  have hb1 : Below w.heap.size w W1 := by rw [← hW1]; exact (((Below.refl _ _).alloc (Nat.le_refl _) _).alloc (by simp) _).alloc (by simp; omega) _
  have hxa : Box4 W1 H 92 c0 c1 c2 c3 := by rw [← hW1, ← hH]; exact ((Box4.new w 92 c0 c1 c2 c3).alloc _).alloc _
  have hxb : Box4 W1 (H + 1) 92 d0 d1 d2 d3 := by
    rw [← hW1, ← hH]
    have := (Box4.new (w.alloc (.cells #[c0, c1, c2, c3] 92)) 92 d0 d1 d2 d3).alloc (.cells #[.int .i64 0] 3)
    rw [World.size_alloc] at this
    exact this
  have hxr : Boxed W1 (H + 2) 3 (.int .i64 0) := by
    rw [← hW1, ← hH]
    have := Boxed.new ((w.alloc (.cells #[c0, c1, c2, c3] 92)).alloc (.cells #[d0, d1, d2, d3] 92)) 3 (.int .i64 0)
    rw [World.size_alloc, World.size_alloc] at this
    exact this
  have HP := Lib.hid (pairsV_any c0 c1 c2 c3 d0 d1 d2 d3 W1)
  obtain ⟨W3, hW3⟩ : ∃ W3, ((W1.alloc (.cells #[c0, c1, c2, c3] 92)).alloc (.cells #[d0, d1, d2, d3] 92)).alloc (.cells #[.func (.func 115) #[] #[]] 149) = W3 := ⟨_, rfl⟩
  have hz3 : W3.heap.size = H + 6 := by rw [← hW3]; simp; omega
  have hb3 : Below W1.heap.size W1 W3 := by rw [← hW3]; exact (((Below.refl _ _).alloc (Nat.le_refl _) _).alloc (by simp) _).alloc (by simp; omega) _
  have hya : Box4 W3 (H + 3) 92 c0 c1 c2 c3 := by
    rw [← hW3, ← hz1]
    exact ((Box4.new W1 92 c0 c1 c2 c3).alloc _).alloc _
  have hyb : Box4 W3 (H + 3 + 1) 92 d0 d1 d2 d3 := by
    rw [← hW3, ← hz1]
    have := (Box4.new (W1.alloc (.cells #[c0, c1, c2, c3] 92)) 92 d0 d1 d2 d3).alloc (.cells #[.func (.func 115) #[] #[]] 149)
    rw [World.size_alloc] at this
    exact this
  have hyf : Boxed W3 (H + 3 + 2) 149 (.func (.func 115) #[] #[]) := by
    rw [← hW3, ← hz1]
    have := Boxed.new ((W1.alloc (.cells #[c0, c1, c2, c3] 92)).alloc (.cells #[d0, d1, d2, d3] 92)) 149 (.func (.func 115) #[] #[])
    rw [World.size_alloc, World.size_alloc] at this
    exact this
  have hb13 : Below w.heap.size w W3 := hb1.trans (hb3.mono hb1.size)
  have hI0 : CmpPI a b w H 0 (fun q => q = H + 2) W3 := ⟨rfl, (hb3.block _ (by omega)).trans hxr, hb13, fun j p hj => by omega⟩
  obtain ⟨Keep, hKeep⟩ : ∃ Keep : Nat → Prop, Keep = fun q => q < w.heap.size ∨ q = H + 3 ∨ q = H + 3 + 1 ∨ q = H + 3 + 2 := ⟨_, rfl⟩
  have hkW : ∀ q, Keep q → q < W3.heap.size := by rw [hKeep]; rintro q (h | h | h | h) <;> omega
  have HG : Hid (∀ W, Below W3.heap.size W3 W → GivesN Fence.wide (9 - 1) Try.prog 139 #[.pointer (some ⟨H + 3, 0, none⟩), .pointer (some ⟨H + 3 + 1, 0, none⟩), .pointer (some ⟨H + 3 + 2, 0, none⟩)] (pre2 a b).length (PRdN (RVa w) a b) (POn a b) Keep W) := Lib.hid (fun W hW =>
    pairs1V_gives w a b c0 c1 c2 c3 d0 d1 d2 d3 h h' hs (9 - 1) (H + 3) (by decide) Keep (fun q hq => by rw [hKeep]; exact .inl hq) (by rw [hKeep]; exact .inr (.inr (.inr rfl))) W (fun q hq => by have := hkW q hq; have := hW.size; omega)
      (hb13.trans (hW.mono hb13.size)) ((hW.block _ (by omega)).trans hya) ((hW.block _ (by omega)).trans hyb) ((hW.block _ (by omega)).trans hyf))
  have HKW := Lib.hid hkW
  have HKE := Lib.hid hKeep
  have HI0 := Lib.hid hI0
  have HW1 := Lib.hid hW1
  have HW3 := Lib.hid hW3
  have HZ1 := Lib.hid hz1
  have HZ3 := Lib.hid hz3
  have HH := Lib.hid hH
  have x0 := hxa.c0
  have x1 := hxa.c1
  have x2 := hxa.c2
  have x3 := hxa.c3
  have y0 := hxb.c0
  have y1 := hxb.c1
  have y2 := hxb.c2
  have y3 := hxb.c3
  clear h h' hs hW1 hz1 hb1 hxa hxb hxr hW3 hz3 hb3 hya hyb hyf hb13 hI0 hKeep hkW hH
  refine (callsIn_wide (n := 9)).1 ?_
  refine callsIn_of_wp_marks Try.func119 rfl trivial ?_ rfl
  simp only [Try.ntmps119, List.size_toArray, List.length_cons, List.length_nil, Nat.reduceAdd, Nat.reduceSub, Array.replicate_succ, Array.replicate_zero, List.push_toArray, List.append_toArray, List.nil_append, List.cons_append]
  have hHz := HH.out
  gi_wp2
  rw [HW1.out]
  gi_wp2_with (refine ⟨trivial, ?_⟩; gi_at_call 134; refine (callsIn_wide.2 HP.out).mono ?_; rintro e w3 ⟨rfl, hw3⟩; rw [HW3.out] at hw3; subst hw3; rw [HZ1.out])
  have hz3 := HZ3.out
  have hz1 := HZ1.out
  refine wpIn_givesA (n := 9) (w := w3) rfl (by decide) (gf := 139) (lb := #[.pointer (some ⟨H + 3, 0, none⟩), .pointer (some ⟨H + 3 + 1, 0, none⟩), .pointer (some ⟨H + 3 + 2, 0, none⟩)]) rfl trivial (enters_of Try.func139 (by kernel_rfl) rfl)
    (M := (pre2 a b).length) (Rd := PRdN (RVa w) a b) (On := POn a b) (Keep := Keep) (fun _ _ h => h.size) HKW.out (fun W hW hz => HG.out W hW)
    (CmpPI a b w H) (CmpPX a b w H) (fun k F A C hi hh => hi.keep hh (by omega)) (fun k F A hi q hq => ?bnd) (fun A C hx hh => ?keepX) _ HI0.out
    (fun v q => { tmps := #[.agg #[c0, c1, c2, c3], .agg #[d0, d1, d2, d3], .pointer (some ⟨H, 0, none⟩), .pointer (some ⟨H + 1, 0, none⟩), .pointer (some ⟨H + 2, 0, none⟩), .pointer (some ⟨q, 0, none⟩), .pointer (some ⟨q + 1, 0, none⟩), undef, .agg #[c0, c1, c2, c3], .agg #[d0, d1, d2, d3], .func (.func 139) #[] #[.pointer (some ⟨H + 3, 0, none⟩), .pointer (some ⟨H + 3 + 1, 0, none⟩), .pointer (some ⟨H + 3 + 2, 0, none⟩)], v.getD 0 undef, v.getD 1 undef, undef, undef, undef, undef, undef, undef], defers := [] }) AsgP2 (fun _ _ _ _ h hh => h.held hh) ?assign ?body ?done ?stop
  case bnd =>
    obtain ⟨rfl, h1, _⟩ := hi
    have e : q = H + 2 := hq
    subst e
    rw [HKE.out]
    exact ⟨by omega, h1.lt⟩
  case keepX =>
    exact ⟨(hh.block _ hx.1.lt (by omega)).trans hx.1, hx.2.trans (hh.below hx.2.size fun i hi => by omega)⟩
  case assign =>
    rintro l k v W K ⟨x, y, cx, cy, hat, rfl, hrx, hry⟩ hK
    obtain ⟨e0, e1, e2, e3, rfl⟩ := hrx.four
    obtain ⟨f0, f1, f2, f3, rfl⟩ := hry.four
    obtain ⟨A', d', rfl, _⟩ := rd_kidsV hrx
    obtain ⟨B', b', rfl, _⟩ := rd_kidsV hry
    obtain ⟨ek, en, eL, el, elc, rfl, rfl, rfl⟩ := rd_shapeV hrx
    obtain ⟨jk, jn, jL, jl, jlc, rfl, rfl, rfl⟩ := rd_shapeV hry
    have hal : Below W.heap.size W ((W.alloc (.cells #[.int .i64 ek, .int .i64 en, .slice eL el elc, .slice A' x.kids.length d'] 92)).alloc (.cells #[.int .i64 jk, .int .i64 jn, .slice jL jl jlc, .slice B' y.kids.length b'] 92)) := ((Below.refl _ _).alloc (Nat.le_refl _) _).alloc (by simp) _
    have hn2 := World.alloc_heap_new (W.alloc (.cells #[.int .i64 ek, .int .i64 en, .slice eL el elc, .slice A' x.kids.length d'] 92)) (.cells #[.int .i64 jk, .int .i64 jn, .slice jL jl jlc, .slice B' y.kids.length b'] 92)
    rw [World.size_alloc] at hn2
    have hn1 := ((Below.refl _ (W.alloc (.cells #[.int .i64 ek, .int .i64 en, .slice eL el elc, .slice A' x.kids.length d'] 92))).alloc (Nat.le_refl _) (.cells #[.int .i64 jk, .int .i64 jn, .slice jL jl jlc, .slice B' y.kids.length b'] 92)).block W.heap.size (by simp)
    have HK := Lib.hid (hK _ ⟨_, _, rfl, hn1.trans (World.alloc_heap_new W (.cells #[.int .i64 ek, .int .i64 en, .slice eL el elc, .slice A' x.kids.length d'] 92)), hn2⟩ hal)
    clear hK hrx hry hat hal hn1 hn2
    gi_wp2
    simpa using HK.out
  case body =>
    rintro l k s F W q hk ⟨rfl, h1, h3, h4⟩ ⟨x, y, cx, cy, hat, rfl, hrx, hry⟩ ⟨cs', ds', eq1, hc1, hc2⟩ hq1 hq2 _ _ _
    have e2 : cx.toArray = cs' ∧ cy.toArray = ds' := by
      simp only [Array.mk.injEq, List.cons.injEq, Value.agg.injEq, and_true] at eq1
      exact eq1
    obtain ⟨rfl, rfl⟩ := e2
    have HN := Lib.hid (cmpNode_any x y W _ _ (hrx.keep h3) (hry.keep h3))
    obtain ⟨e0, e1, e2, e3, rfl⟩ := hrx.four
    obtain ⟨f0, f1, f2, f3, rfl⟩ := hry.four
    have bx : Box4 W q 92 e0 e1 e2 e3 := hc1
    have by0 : Box4 W (q + 1) 92 f0 f1 f2 f3 := hc2
    have x0 := bx.c0
    have x1 := bx.c1
    have x2 := bx.c2
    have x3 := bx.c3
    have y0 := by0.c0
    have y1 := by0.c1
    have y2 := by0.c2
    have y3 := by0.c3
    obtain ⟨r, hr⟩ : ∃ r, nodeC x.top x.kids.length y.top y.kids.length = r := ⟨_, rfl⟩
    have hnd : ndC (x, y) = r := hr
    rw [hr] at HN
    have HI : Hid (r = 0 → ∀ W', Below W.heap.size W W' → givesPostN (POn a b) (CmpPI a b w H) (CmpPX a b w H) k (fun q => q = H + 2) W .normal { tmps := #[], defers := [] } W') := Lib.hid (by
      rintro rfl W' hb'
      refine ⟨fun x' y' hat' => ?_, Held.of_below hb' fun i hi _ => hi, fun q => q = H + 2, fun q hq => .inl hq, rfl, (hb'.block _ h1.lt).trans h1, h3.trans (hb'.mono h3.size), fun j p hj hp => ?_⟩
      · rw [hat] at hat'
        injection hat' with hat'
        injection hat' with e1 e2
        subst e1 e2
        exact ndC_len hnd
      · by_cases e : j = k
        · subst e
          rw [hat] at hp
          injection hp with hp
          rw [← hp]
          exact hnd
        · exact h4 j p (by omega) hp)
    have HX : Hid (r ≠ 0 → ∀ W', Below W.heap.size W W' → givesPostN (POn a b) (CmpPI a b w H) (CmpPX a b w H) k (fun q => q = H + 2) W .ret { tmps := #[], defers := [] } (W'.setCell ⟨H + 2, 0, none⟩ (.int .i64 r))) := Lib.hid (by
      intro hr0 W' hb'
      have hbx : Boxed W' (H + 2) 3 (.int .i64 0) := (hb'.block _ h1.lt).trans h1
      have hcv : cmpV a b = r := by rw [← hnd]; exact cmpV_at h4 hat (by rw [hnd]; exact hr0)
      refine ⟨(Held.of_below hb' fun i hi _ => hi).trans (Held.set _ (fun h => h rfl) _), ?_, (h3.trans (hb'.mono h3.size)).setCell (p := ⟨H + 2, 0, none⟩) (by show w.heap.size ≤ H + 2; omega) _⟩
      rw [hcv]
      exact hbx.set _)
    have HFR : Hid (∀ W', Below W.heap.size W W' → Boxed W' (H + 2) 3 (.int .i64 0)) := Lib.hid (fun W' hb' => (hb'.block _ h1.lt).trans h1)
    clear h1 h3 h4 hat hrx hry hc1 hc2 bx by0 hr eq1 hk hnd
    by_cases hr0 : r = 0
    · have HI2 := Lib.hid (HI.out hr0)
      subst hr0
      gi_wp2_with (refine ⟨trivial, ?_⟩; gi_at_call 135; refine (CallsIn.inRound l (callsIn_wide.2 HN.out)).mono ?_; rintro e W' ⟨rfl, hb'⟩; have HF2 := Lib.hid (HI2.out W' hb'.below); clear hb')
      exact HF2.out
    · have HX2 := Lib.hid (HX.out hr0)
      have hrf : (r == 0) = false := by simp [hr0]
      gi_wp2_with (refine ⟨trivial, ?_⟩; gi_at_call 135; refine (CallsIn.inRound l (callsIn_wide.2 HN.out)).mono ?_; rintro e W' ⟨rfl, hb'⟩; have HF2 := Lib.hid (HX2.out W' hb'.below); have hbx' := HFR.out W' hb'.below; have hc1 := hbx'.cell; have hf1 := hbx'.frozen; clear hb' hbx')
      exact HF2.out
  case done =>
    rintro F W ⟨rfl, h1, h3, h4⟩ hK
    have hZero : cmpV a b = 0 := cmpV_all fun p hp => by
      obtain ⟨j, hj, e⟩ := List.getElem_of_mem hp
      exact h4 j p hj (by rw [List.getElem?_eq_getElem hj, e])
    have hc := h1.cell
    have hf := h1.frozen
    have H3 := Lib.hid (h1.set (.int .i64 0))
    have HB := Lib.hid h3
    have hD : (W.setCell ⟨H + 2, 0, none⟩ (.int .i64 0)).heap[w3.heap.size]? = some (.deferred (some [])) := (Below.heap_setCell _ _ _ _ (by show w3.heap.size ≠ H + 2; omega)).trans hK
    have HD := Lib.hid hD
    have HT2 := Lib.hid hZero
    clear h1 h3 h4 hZero hD hK
    gi_wp2
    refine ⟨by simp, .inl ⟨_, _, rfl, run_takeDeferred HD.out, ?_⟩⟩
    have hbx4 : Boxed ((W.setCell ⟨H + 2, 0, none⟩ (.int .i64 0)).putObj w3.heap.size (.deferred none)) (H + 2) 3 (.int .i64 0) := (World.putObj_heap_other (by omega)).trans H3.out
    have hb4 := hbx4.cell
    refine ⟨.int .i64 0, ?_, by rw [HT2.out], (HB.out.setCell (p := ⟨H + 2, 0, none⟩) (by show w.heap.size ≤ H + 2; omega) _).trans (below_put _ (by omega))⟩
    simp [results, Try.f119, go_sem, hb4]
  case stop =>
    rintro W ⟨h1, h3⟩ hK
    have hbx4 : Boxed (W.putObj w3.heap.size (.deferred none)) (H + 2) 3 (.int .i64 (cmpV a b)) := (World.putObj_heap_other (by omega)).trans h1
    have hb4 := hbx4.cell
    clear hbx4
    have HB := Lib.hid h3
    have HC4 := Lib.hid hb4
    clear h1 h3 hb4
    gi_wp2
    refine ⟨by simp, .inl ⟨_, _, rfl, run_takeDeferred hK, ?_⟩⟩
    have hb4 := HC4.out
    refine ⟨.int .i64 (cmpV a b), ?_, rfl, HB.out.trans (below_put _ (by omega))⟩
    simp [results, Try.f119, go_sem, hb4]
end Go.Proofs.Ytlcpekpgkllbkaa

/-
  The shape of a value's cells. Hangs on no program.
-/
namespace Go.Proofs.Ytlcpekpgkllbkaa
open Go.RowKit

theorem RVa.shape {w : World} {v : Va} {c0 c1 c2 c3 : Value} (h : RVa w v [c0, c1, c2, c3]) : ∃ p q L l c A m d, c0 = .int .i64 p ∧ c1 = .int .i64 q ∧ c2 = .slice L l c ∧ c3 = .slice A m d := by
  obtain ⟨L, c, A, d, he, _⟩ := h.open
  injection he with e0 he
  injection he with e1 he
  injection he with e2 he
  injection he with e3 _
  exact ⟨_, _, _, _, _, _, _, _, e0, e1, e2, e3⟩
end Go.Proofs.Ytlcpekpgkllbkaa
