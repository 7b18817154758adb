/-
  Merged by program: MadE.
-/
import Derived.Test.YtkchjinfjggoeaaGreatDoorF36
import Derived.Test.YtkchjinfjggoeaaGreatDoorF39
import Derived.Test.YtkchjinfjggoeaaGreatDoorF34

/-
  The program's isMadeOfTermNodes, IsValidTerm. Written by wip/tools/mktni.py.
-/
namespace Go.Proofs.YtkchjinfjggoeaaGreatDoor
open Go.RowKit Go.Shelf

attribute [local go_sem] Oper.semAt_some

/-- what lies in the round's variable -/
def AsgM (v : Array Value) (b : Nat) (W : World) : Prop := ∃ cs, v.getD 1 undef = .agg cs ∧ W.heap[b]? = some (.cells cs 30)
theorem AsgM.held {v : Array Value} {b : Nat} {A C : World} (h : AsgM v b A) (hh : Held (fun i => b ≤ i) A C) : AsgM v b C := by
  obtain ⟨cs, h1, h2⟩ := h
  exact ⟨cs, h1, (hh.block b (Array.getElem?_eq_some_iff.1 h2).1 (Nat.le_refl _)).trans h2⟩
def MadI (t : Te) (w : World) (H k : Nat) (F : Nat → Prop) (W : World) : Prop :=
  F = (fun q => q = H + 1) ∧ Boxed W (H + 1) 4 (.bool false) ∧ Below w.heap.size w W ∧ ∀ j p, j < k → (t.pre 1)[j]? = some p → nodeE p.2.top p.2.kids.length = true
theorem MadI.keep {t : Te} {w A C : World} {H k D : Nat} {F : Nat → Prop} (h : MadI t w H k F A) (hh : Held (fun i => i < D ∨ F i) A C) (hD : w.heap.size ≤ D) : MadI t w H k F C := by
  obtain ⟨rfl, h1, h2, h3⟩ := h
  exact ⟨rfl, (hh.block _ h1.lt (.inr rfl)).trans h1, h2.trans (hh.below h2.size fun i hi => .inl (by omega)), h3⟩
def MadX (t : Te) (w : World) (H : Nat) (W : World) : Prop := Boxed W (H + 1) 4 (.bool false) ∧ Below w.heap.size w W ∧ t.formE = false

set_option maxRecDepth 100000 in
set_option maxHeartbeats 4000000 in
theorem made_any (t : Te) (w : World) (cs : List Value) (h : RTe w t cs) (hw : wte t ≤ 1048576) (htab : ArOk w) : Calls Tryz.prog 59 #[.agg cs.toArray] w (Truth t.formE w) := by
  have hs : t.size ≤ 1048577 := by have := size_wte t; omega
  obtain ⟨c0, c1, c2, c3, c4, c5, c6, c7, rfl⟩ := h.eight
  obtain ⟨H, hH⟩ : ∃ H, w.heap.size = H := ⟨_, rfl⟩
  obtain ⟨W2, hW2⟩ : ∃ W2, (w.alloc (.cells #[c0, c1, c2, c3, c4, c5, c6, c7] 30)).alloc (.cells #[.bool false] 4) = W2 := ⟨_, rfl⟩
  have hy2 : W2.heap.size = H + 2 := by rw [← hW2, ← hH]; simp
  have hb2 : Below w.heap.size w W2 := by rw [← hW2]; exact ((Below.refl _ _).alloc (Nat.le_refl _) _).alloc (by simp) _
  have hbx : Box8 W2 H 30 c0 c1 c2 c3 c4 c5 c6 c7 := by rw [← hW2, ← hH]; exact (Box8.new w 30 c0 c1 c2 c3 c4 c5 c6 c7).alloc _
  have hbt : Boxed W2 (H + 1) 4 (.bool false) := by
    rw [← hW2, ← hH]
    have := Boxed.new (w.alloc (.cells #[c0, c1, c2, c3, c4, c5, c6, c7] 30)) 4 (.bool false)
    rw [World.size_alloc] at this
    exact this
  have HI := Lib.hid (nodesOfE_any w t W2 _ h hb2 hs)
  have HFE : Hid (t.formE = ((t.pre 1).all fun p => nodeE p.2.top p.2.kids.length)) := Lib.hid (formE_pre t 1)
  have HWN : Hid (∀ p ∈ t.pre 1, wte p.2 ≤ 1048576) := Lib.hid (fun p hp => Nat.le_trans (wte_node_mem t 1 p hp) hw)
  have HTAB := Lib.hid htab
  have HW2 := Lib.hid hW2
  have HB2 := Lib.hid hb2
  have HBT := Lib.hid hbt
  have HZ2 := Lib.hid hy2
  have HH := Lib.hid hH
  have x0 := hbx.c0
  have x1 := hbx.c1
  have x2 := hbx.c2
  have x3 := hbx.c3
  have x4 := hbx.c4
  have x5 := hbx.c5
  have x6 := hbx.c6
  have x7 := hbx.c7
  clear h hw hs htab hW2 hb2 hy2 hbx hbt hH
  refine (callsIn_wide (n := 9)).1 ?_
  refine callsIn_of_wp_marks Tryz.func59 rfl trivial ?_ rfl
  simp only [Tryz.ntmps59, List.size_toArray, List.length_cons, List.length_nil, Nat.reduceAdd, Nat.reduceSub, Array.replicate_succ, Array.replicate_zero, List.push_toArray, List.append_toArray, List.nil_append, List.cons_append]
  have hHz := HH.out
  gi_wp2
  rw [HW2.out]
  gi_wp2_with (refine ⟨trivial, ?_⟩; gi_at_call 58; refine (callsIn_wide.2 HI.out).mono ?_; rintro e W3 ⟨Bx, rfl, hb3, hx1, hx2, hg⟩)
  have hy2 := HZ2.out
  obtain ⟨Keep, hKeep⟩ : ∃ Keep : Nat → Prop, Keep = fun b => b < w.heap.size ∨ b = Bx ∨ b = Bx + 1 := ⟨_, rfl⟩
  have hsz3 := hb3.size
  have hkW : ∀ b, Keep b → b < W3.heap.size := by rw [hKeep]; rintro b (h | h | h) <;> omega
  have hI0 : MadI t w H 0 (fun q => q = H + 1) W3 := ⟨rfl, (hb3.block _ (by omega)).trans HBT.out, HB2.out.trans (hb3.mono HB2.out.size), fun j p hj => by omega⟩
  have HG := Lib.hid hg
  have HI0 := Lib.hid hI0
  have HKW := Lib.hid hkW
  have HKE := Lib.hid hKeep
  clear hg hI0 hkW hKeep hb3 x0 x1 x2 x3 x4 x5 x6 x7
  refine wpIn_givesA (n := 9) (w := W3) rfl (by decide) (gf := 131) (lb := #[.pointer (some ⟨Bx, 0, none⟩), .pointer (some ⟨Bx + 1, 0, none⟩)]) rfl trivial (enters_of Tryz.func131 (by kernel_rfl) rfl)
    (M := (t.pre 1).length) (Rd := NRd (RTe w) t) (On := fun _ => True) (Keep := Keep) (fun _ _ h => h.size) HKW.out
    (fun W hW hz => HG.out _ Keep W (by decide) (fun b hb => by rw [HKE.out]; exact .inl hb) (by rw [HKE.out]; exact .inr (.inl rfl)) (by rw [HKE.out]; exact .inr (.inr rfl)) (fun b hb => by have := HKW.out b hb; have := hW.size; omega) (Held.of_below hW fun i hi _ => hi))
    (MadI t w H) (MadX t w H) (fun k F A C hi hh => hi.keep hh (by omega)) (fun k F A hi b hb => ?bnd) (fun A C hx hh => ?keepX) _ HI0.out
    (fun v b => { tmps := #[.agg #[c0, c1, c2, c3, c4, c5, c6, c7], .pointer (some ⟨H, 0, none⟩), .pointer (some ⟨H + 1, 0, none⟩), undef, .pointer (some ⟨b, 0, none⟩), .agg #[c0, c1, c2, c3, c4, c5, c6, c7], .func (.func 131) #[] #[.pointer (some ⟨Bx, 0, none⟩), .pointer (some ⟨Bx + 1, 0, none⟩)], v.getD 0 undef, v.getD 1 undef, undef, undef, undef], defers := [] }) AsgM (fun _ _ _ _ h hh => h.held hh) ?assign ?body ?done ?stop
  case bnd =>
    obtain ⟨rfl, h1, _⟩ := hi
    have e : b = H + 1 := hb
    subst e
    rw [HKE.out]
    exact ⟨by omega, h1.lt⟩
  case keepX =>
    exact ⟨(hh.block _ hx.1.lt (by omega)).trans hx.1, hx.2.1.trans (hh.below hx.2.1.size fun i hi => by omega), hx.2.2⟩
  case assign =>
    rintro l k v W K ⟨d, x, cs, hat, rfl, hr⟩ hK
    obtain ⟨q0, q1, q2, q3, q4, q5, q6, q7, rfl⟩ := hr.eight
    obtain ⟨k0, s0, n0, tk, TL, tl, tc, TA, ta, td, L, ll, lc, A, m, dd, rfl, rfl, rfl, rfl, rfl, rfl, rfl, rfl⟩ := hr.shape
    have HK := Lib.hid (hK _ ⟨_, rfl, World.alloc_heap_new W (.cells #[.int .i64 k0, .string s0, .int .i64 n0, .int .i64 tk, .slice TL tl tc, .slice TA ta td, .slice L ll lc, .slice A m dd] 30)⟩ ((Below.refl _ _).alloc (Nat.le_refl _) _))
    clear hK hr hat
    gi_wp2
    simpa using HK.out
  case body =>
    rintro l k s F W b hk ⟨rfl, h1, h2, h3⟩ ⟨d, x, cs, hat, rfl, hr⟩ ⟨cs', eq1, hcell⟩ hb1 hb2 hFb _ _
    have e2 : cs.toArray = cs' := by injection eq1
    subst e2
    have HN := Lib.hid (termNode_any x W _ (hr.keep h2) (HWN.out _ (List.mem_of_getElem? hat)) (HTAB.out.keep h2))
    obtain ⟨q0, q1, q2, q3, q4, q5, q6, q7, rfl⟩ := hr.eight
    have bx : Box8 W b 30 q0 q1 q2 q3 q4 q5 q6 q7 := hcell
    have y0 := bx.c0
    have y1 := bx.c1
    have y2 := bx.c2
    have y3 := bx.c3
    have y4 := bx.c4
    have y5 := bx.c5
    have y6 := bx.c6
    have y7 := bx.c7
    obtain ⟨r, hrr⟩ : ∃ r, nodeE x.top x.kids.length = r := ⟨_, rfl⟩
    rw [hrr] at HN
    have HI2 : Hid (r = true → ∀ W', Below W.heap.size W W' → givesPostN (fun _ => True) (MadI t w H) (MadX t w H) k (fun q => q = H + 1) W .normal { tmps := #[], defers := [] } W') := Lib.hid (by
      rintro rfl W' hb'
      refine ⟨trivial, Held.of_below hb' fun i hi _ => hi, fun q => q = H + 1, fun q hq => .inl hq, rfl, (hb'.block _ h1.lt).trans h1, h2.trans (hb'.mono h2.size), fun j p hj hp => ?_⟩
      by_cases e : j = k
      · subst e
        rw [hat] at hp
        injection hp with hp
        rw [← hp]
        exact hrr
      · exact h3 j p (by omega) hp)
    have HX : Hid (r = false → ∀ W', Below W.heap.size W W' → givesPostN (fun _ => True) (MadI t w H) (MadX t w H) k (fun q => q = H + 1) W .ret { tmps := #[], defers := [] } (W'.setCell ⟨H + 1, 0, none⟩ (.bool false))) := Lib.hid (by
      rintro rfl W' hb'
      have hbx : Boxed W' (H + 1) 4 (.bool false) := (hb'.block _ h1.lt).trans h1
      refine ⟨(Held.of_below hb' fun i hi _ => hi).trans (Held.set _ (fun h => h rfl) _), hbx.set _, (h2.trans (hb'.mono h2.size)).setCell (p := ⟨H + 1, 0, none⟩) (by show w.heap.size ≤ H + 1; omega) _, ?_⟩
      rw [HFE.out]
      rw [List.all_eq_false]
      exact ⟨_, List.mem_of_getElem? hat, by simp [hrr]⟩)
    have HFR : Hid (∀ W', Below W.heap.size W W' → Boxed W' (H + 1) 4 (.bool false)) := Lib.hid (fun W' hb' => (hb'.block _ h1.lt).trans h1)
    clear h1 h2 h3 hat hr hcell bx hrr eq1 hk
    cases r with
    | true =>
      gi_wp2_with (refine ⟨trivial, ?_⟩; gi_at_call 97; refine (CallsIn.inRound l (callsIn_wide.2 HN.out)).mono ?_; rintro e W' ⟨rfl, hb'⟩; have HF2 := Lib.hid (HI2.out rfl W' hb'); clear hb')
      exact HF2.out
    | false =>
      gi_wp2_with (refine ⟨trivial, ?_⟩; gi_at_call 97; refine (CallsIn.inRound l (callsIn_wide.2 HN.out)).mono ?_; rintro e W' ⟨rfl, hb'⟩; have HF2 := Lib.hid (HX.out rfl W' hb'); have hbx' := HFR.out W' hb'; have hc1 := hbx'.cell; have hf1 := hbx'.frozen; clear hb' hbx')
      exact HF2.out
  case done =>
    rintro F W ⟨rfl, h1, h2, h3⟩ hK
    have hTrue : t.formE = true := by
      rw [HFE.out, List.all_eq_true]
      intro p hp
      obtain ⟨j, hj, e⟩ := List.getElem_of_mem hp
      exact h3 j p hj (by rw [List.getElem?_eq_getElem hj, e])
    have hc := h1.cell
    have hf := h1.frozen
    have H3 := Lib.hid (h1.set (.bool true))
    have HB := Lib.hid h2
    have hD : (W.setCell ⟨H + 1, 0, none⟩ (.bool true)).heap[W3.heap.size]? = some (.deferred (some [])) := (Below.heap_setCell _ _ _ _ (by show W3.heap.size ≠ H + 1; omega)).trans hK
    have HD := Lib.hid hD
    have HT2 := Lib.hid hTrue
    clear h1 h2 h3 hTrue hD hK
    gi_wp2
    refine ⟨by simp, .inl ⟨_, _, rfl, run_takeDeferred HD.out, ?_⟩⟩
    have hbx4 : Boxed ((W.setCell ⟨H + 1, 0, none⟩ (.bool true)).putObj W3.heap.size (.deferred none)) (H + 1) 4 (.bool true) := (World.putObj_heap_other (by omega)).trans H3.out
    have hb4 := hbx4.cell
    refine ⟨.bool true, ?_, by rw [HT2.out], (HB.out.setCell (p := ⟨H + 1, 0, none⟩) (by show w.heap.size ≤ H + 1; omega) _).trans (below_put _ (by omega))⟩
    simp [results, Tryz.f59, go_sem, hb4]
  case stop =>
    rintro W ⟨h1, h3, hne⟩ hK
    have hbx4 : Boxed (W.putObj W3.heap.size (.deferred none)) (H + 1) 4 (.bool false) := (World.putObj_heap_other (by omega)).trans h1
    have hb4 := hbx4.cell
    clear hbx4
    have HB := Lib.hid h3
    have HT2 := Lib.hid hne
    have HC4 := Lib.hid hb4
    clear h1 h3 hne hb4
    gi_wp2
    refine ⟨by simp, .inl ⟨_, _, rfl, run_takeDeferred hK, ?_⟩⟩
    have hb4 := HC4.out
    refine ⟨.bool false, ?_, by rw [HT2.out], HB.out.trans (below_put _ (by omega))⟩
    simp [results, Tryz.f59, go_sem, hb4]

theorem validE_split (t : Te) : validE t = (withB t.size 60 t.deep 16 && t.formE) := by
  unfold validE withB
  rw [Bool.and_assoc]
set_option maxRecDepth 100000 in
set_option maxHeartbeats 1600000 in
theorem implValidE_any (t : Te) (w : World) (cs : List Value) (h : RTe w t cs) (hw : wte t ≤ 1048576) (htab : ArOk w) : Calls Tryz.prog 22 #[.agg cs.toArray] w (Truth (validE t) w) := by
  have hs : t.size ≤ 1048577 := by have := size_wte t; omega
  obtain ⟨c0, c1, c2, c3, c4, c5, c6, c7, rfl⟩ := h.eight
  obtain ⟨W1, hW1⟩ : ∃ W1, w.alloc (.cells #[c0, c1, c2, c3, c4, c5, c6, c7] 30) = W1 := ⟨_, rfl⟩
  obtain ⟨H, hH⟩ : ∃ H, w.heap.size = H := ⟨_, rfl⟩
  have hb1 : Below w.heap.size w W1 := by rw [← hW1]; exact (Below.refl _ _).alloc (Nat.le_refl _) _
  have hbx : Box8 W1 H 30 c0 c1 c2 c3 c4 c5 c6 c7 := by rw [← hW1, ← hH]; exact Box8.new w _ _ _ _ _ _ _ _ _
  have HI := Lib.hid (nodesOfE_any W1 t W1 _ (h.keep hb1) (Below.refl _ _) hs)
  have HM := Lib.hid (fun W (hB : Below w.heap.size w W) => made_any t W _ (h.keep hB) hw (htab.keep hB))
  have HN : Hid ((t.pre 1).length = t.size) := Lib.hid (pre_len t 1)
  have HD : Hid (topTo t (t.pre 1).length = t.deep) := Lib.hid (topTo_all t)
  have HS := Lib.hid hs
  have HE := Lib.hid (validE_split t)
  have HW1 := Lib.hid hW1
  have HB1 := Lib.hid hb1
  have B1 := Lib.hid hbx
  have x0 := hbx.c0
  have x1 := hbx.c1
  have x2 := hbx.c2
  have x3 := hbx.c3
  have x4 := hbx.c4
  have x5 := hbx.c5
  have x6 := hbx.c6
  have x7 := hbx.c7
  clear h hs hw htab hW1 hb1 hbx
  go_enter Tryz.func22, Tryz.ntmps22
  go_wp2_with fail
  rw [HW1.out]
  go_wp2_with fail
  refine HI.out.mono ?_
  rintro e w2 hi
  obtain ⟨lb, rfl, hb2, hg⟩ := hi.gives (Nat.le_refl _)
  have HC := Lib.hid (withinE_any _ lb (enters_of Tryz.func131 (by kernel_rfl) rfl) w2 (t.pre 1).length 60 16 (depAt t) (topTo t) (by rw [HN.out]; exact HS.out) (by decide) (topTo_zero t) (fun k hk => topTo_dep t k hk) (fun k _ => topTo_mono t k) (fun W hW => (hg W hW).weaken fun _ _ h => h.dep))
  rw [HD.out, HN.out] at HC
  have HB2 := Lib.hid (HB1.out.trans (hb2.mono HB1.out.size))
  have B2 := Lib.hid (B1.out.under hb2 B1.out.lt)
  generalize withB t.size 60 t.deep 16 = b at HC HE
  clear hi hb2 hg x0 x1 x2 x3 x4 x5 x6 x7
  cases b with
  | false =>
    go_wp2_with fail
    refine HC.out.mono ?_
    rintro e w3 ⟨rfl, hb3⟩
    have HF : Hid (Truth (validE t) w (.returned (.bool false)) w3) := Lib.hid ⟨by rw [HE.out]; rfl, HB2.out.trans (hb3.mono HB2.out.size)⟩
    clear hb3
    go_wp2_with fail
    go_ret
    exact HF.out
  | true =>
    go_wp2_with fail
    refine HC.out.mono ?_
    rintro e w3 ⟨rfl, hb3⟩
    have HB3 := Lib.hid (HB2.out.trans (hb3.mono HB2.out.size))
    have B3 := Lib.hid (B2.out.under hb3 B2.out.lt)
    have x0 := B3.out.c0
    have x1 := B3.out.c1
    have x2 := B3.out.c2
    have x3 := B3.out.c3
    have x4 := B3.out.c4
    have x5 := B3.out.c5
    have x6 := B3.out.c6
    have x7 := B3.out.c7
    clear hb3
    go_wp2_with fail
    refine (HM.out w3 HB3.out).mono ?_
    rintro e w4 ⟨rfl, hb4⟩
    have HF : Hid (Truth (validE t) w (.returned (.bool t.formE)) w4) := Lib.hid ⟨by rw [HE.out]; rfl, HB3.out.trans (hb4.mono HB3.out.size)⟩
    clear hb4 x0 x1 x2 x3 x4 x5 x6 x7
    generalize t.formE = b at HF ⊢
    go_wp2_with fail
    go_ret
    exact HF.out
end Go.Proofs.YtkchjinfjggoeaaGreatDoor
