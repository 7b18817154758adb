/-
  Merged by program: IsvI.
-/
import Derived.Test.YtckoookgjhngkaaDoorFV36
import Derived.Test.YtckoookgjhngkaaDoorFV39

/-
  The program's IsValue.
-/
namespace Go.Proofs.YtckoookgjhngkaaDoor
open Go.RowKit Go.Shelf

attribute [local go_sem] Oper.semAt_some

def formL (ts : List Va) : Bool := ts.all Tr.formV
def formS (S : Stk) : Bool := S.all fun p => formL p.1
theorem formV_top (t : Va) : t.formV = (formL t.kids && nodeT' t) := by
  cases t with
  | node a ks => exact formV_node a ks
theorem formS_cons (p : List Va × Value) (S : Stk) : formS (p :: S) = (formL p.1 && formS S) := by simp [formS]
theorem formS_pushTo (ts : List Va) (As : Nat → Value) (S : Stk) : ∀ k, k ≤ ts.length → formS (pushTo ts As S k) = ((ts.take k).all (fun t => formL t.kids) && formS S)
  | 0, _ => by simp [pushTo]
  | k + 1, hk => by
    have hk' : k < ts.length := hk
    have ih := formS_pushTo ts As S k (by omega)
    rw [pushTo_more hk', List.take_add_one, List.getElem?_eq_getElem hk', List.all_append]
    split
    · rename_i h0
      have e : ts[k].kids = [] := List.eq_nil_of_length_eq_zero h0
      rw [ih]
      simp [formL, e]
    · rw [formS_cons, ih]
      simp only [Option.toList_some, List.all_cons, List.all_nil, Bool.and_true]
      cases formL ts[k].kids <;> simp
theorem formL_parts (ts : List Va) : formL ts = (ts.all nodeT' && ts.all (fun t => formL t.kids)) := by
  unfold formL
  induction ts with
  | nil => rfl
  | cons t ts ih =>
    rw [List.all_cons, List.all_cons, List.all_cons, ih, formV_top]
    unfold formL
    cases t.kids.all Tr.formV <;> cases nodeT' t <;> simp
theorem formS_push (ts : List Va) (As : Nat → Value) (S : Stk) (s : Value) : formS ((ts, s) :: S) = (ts.all nodeT' && formS (pushAll ts As S)) := by
  have h := formS_pushTo ts As S ts.length (Nat.le_refl _)
  rw [List.take_length] at h
  unfold pushAll
  rw [h, formS_cons, formL_parts, Bool.and_assoc]
/-- the values of the stack are not too great -/
def wvS (S : Stk) : Prop := ∀ p ∈ S, ∀ t ∈ p.1, wv t ≤ 1048576
theorem wvS_push {ts : List Va} {As : Nat → Value} {S : Stk} {s : Value} (h : wvS ((ts, s) :: S)) : wvS (pushAll ts As S) := by
  intro p hp t ht
  rcases mem_pushTo hp with hm | ⟨j, hj, rfl⟩
  · exact h p (by simp [hm]) t ht
  · have h1 := h (ts, s) (by simp) ts[j] (List.getElem_mem hj)
    cases hx : ts[j] with
    | node a ks =>
      rw [hx] at h1 ht
      exact Nat.le_trans (kid_wv_le ht) h1
theorem RowLV.rvas {w W : World} {A : Option Addr} {ts : List Va} (h : RowLV w W A ts) (hb : Below w.heap.size w W) : RVas W A ts := by
  obtain ⟨ps, hp⟩ := h
  refine ⟨ps, fun j t hj => ?_⟩
  obtain ⟨h1, h2⟩ := hp j t hj
  exact ⟨h1.keep hb, h2⟩

/-- between two rounds: H + 1 holds the answer, G the value -/
def IsvR (w : World) (H G : Nat) (N : Bool) (S : Stk) (F : Nat → Prop) (W : World) : Prop :=
  F = (fun b => b = H + 1) ∧ H + 1 < W.heap.size ∧ Below w.heap.size w W ∧ StkR w G S W ∧ Boxed W (H + 1) 4 (.bool false) ∧ wvS S ∧ N = formS S
/-- a round has left -/
def IsvX (w : World) (H : Nat) (N : Bool) (W : World) : Prop := H + 1 < W.heap.size ∧ Below w.heap.size w W ∧ Boxed W (H + 1) 4 (.bool false) ∧ N = false
theorem IsvR.keep {w : World} {H G : Nat} {N : Bool} {S : Stk} {F : Nat → Prop} {lo : Nat} (hw : w.heap.size ≤ lo) (hH : H + 1 < lo) (hG : G < lo) {A B : World} (h : IsvR w H G N S F A) (hh : Held (fun i => i < lo ∨ F i) A B) : IsvR w H G N S F B := by
  obtain ⟨rfl, h1, h2, h3, h4, h5, h6⟩ := h
  refine ⟨rfl, Nat.lt_of_lt_of_le h1 hh.size, h2.trans (hh.below h2.size fun i hi => .inl (by omega)), h3.held hh fun b hb => .inl (by omega), ?_, h5, h6⟩
  exact (hh.block (H + 1) (by omega) (.inl (by omega))).trans h4
theorem IsvX.keep {w : World} {H D : Nat} {N : Bool} (hD : H + 1 ≠ D) (hD' : w.heap.size ≤ D) {A B : World} (h : IsvX w H N A) (hH : Held (fun i => i ≠ D) A B) : IsvX w H N B := by
  obtain ⟨h1, h2, h3, h4⟩ := h
  refine ⟨Nat.lt_of_lt_of_le h1 hH.size, h2.trans (hH.below h2.size fun i hi => by show i ≠ D; omega), ?_, h4⟩
  exact (hH.block (H + 1) (by omega) hD).trans h3

set_option maxRecDepth 100000 in
set_option maxHeartbeats 2000000 in
theorem implIsV_any (t : Va) (w : World) (cs : List Value) (h : RVa w t cs) (hw : wv t ≤ 1048576) (hs : t.size ≤ 1048577) : Calls Tryd.prog 15 #[.agg cs.toArray] w (Truth (isvB t) w) := by
  obtain ⟨c0, c1, c2, c3, rfl⟩ := h.four
  obtain ⟨H, hH⟩ : ∃ H, w.heap.size = H := ⟨_, rfl⟩
  obtain ⟨W1, hW1⟩ : ∃ W1, ((w.alloc (.cells #[c0, c1, c2, c3] 30)).alloc (.cells #[.bool false] 4)) = W1 := ⟨_, rfl⟩
  have hz1 : W1.heap.size = H + 2 := by rw [← hW1, ← hH]; simp
  have hb1 : Below w.heap.size w W1 := by rw [← hW1]; exact ((Below.refl _ _).alloc (Nat.le_refl _) _).alloc (by simp) _
  have hv1 : Box4 W1 H 30 c0 c1 c2 c3 := by rw [← hW1, ← hH]; exact (Box4.new w 30 c0 c1 c2 c3).alloc _
  have hr1 : Boxed W1 (H + 1) 4 (.bool false) := by
    rw [← hW1, ← hH]
    have := Boxed.new (w.alloc (.cells #[c0, c1, c2, c3] 30)) 4 (.bool false)
    simpa using this
  have hM := implMaxV_any t W1 _ (h.keep hb1) hs
  have hV : isvB t = (decide (t.size ≤ 2000) && t.formV) := rfl
  obtain ⟨N, hN⟩ : ∃ N, isvB t = N := ⟨_, rfl⟩
  rw [hN] at hV ⊢
  have HV := Lib.hid hV
  have HM := Lib.hid hM
  have HW1 := Lib.hid hW1
  have HB1 := Lib.hid hb1
  have V1 := Lib.hid hv1
  have R1 := Lib.hid hr1
  have HH := Lib.hid hH
  have HZ1 := Lib.hid hz1
  have HT := Lib.hid h
  have HS := Lib.hid hs
  have HWV := Lib.hid hw
  have x0 := hv1.c0
  have x1 := hv1.c1
  have x2 := hv1.c2
  have x3 := hv1.c3
  clear hM hW1 hb1 hv1 hr1 hH hz1 h hs hw hN hV
  refine (callsIn_wide (n := 9)).1 ?_
  refine callsIn_of_wp_marks Tryd.func15 rfl trivial ?_ rfl
  simp only [Tryd.ntmps15, List.size_toArray, List.length_cons, List.length_nil, Nat.reduceAdd, Nat.reduceSub, Array.replicate_succ, Array.replicate_zero, List.push_toArray, List.append_toArray, List.nil_append, List.cons_append]
  have hHz := HH.out
  by_cases hsz : t.size ≤ 2000
  · rw [decide_eq_true hsz] at HM HV
    have HNF : Hid (N = t.formV) := by rw [Bool.true_and] at HV; exact HV
    clear hsz HV
    have HG : Hid (∀ W2, Below W1.heap.size W1 W2 → ∃ W3 W4, W2.alloc (.cells #[c0, c1, c2, c3] 30) = W3 ∧ W3.alloc (.cells #[.slice (some ⟨W2.heap.size, 0, none⟩) 1 1] 28) = W4 ∧ W4.heap.size = W2.heap.size + 2 ∧
        Calls Tryd.prog 24 #[.slice (some ⟨W2.heap.size, 0, none⟩) 1 1] W3 (FnAtV (W2.heap.size + 1) (.slice (some ⟨W2.heap.size, 0, none⟩) 1 1) W3) ∧
        Boxed W4 (W2.heap.size + 1) 28 (.slice (some ⟨W2.heap.size, 0, none⟩) 1 1) ∧ H + 2 ≤ W2.heap.size ∧ Below w.heap.size w W4 ∧
        IsvR w H W2.heap.size N [([t], .slice (some ⟨W2.heap.size, 0, none⟩) 1 1)] (fun b => b = H + 1) W4) := by
      intro W2 hb2
      refine ⟨_, _, rfl, rfl, by simp, ?_, ?_, ?_, ?_, ?_⟩
      · have := valueLists_any (W2.alloc (.cells #[c0, c1, c2, c3] 30)) (some ⟨W2.heap.size, 0, none⟩) 1 1
        rw [World.size_alloc] at this
        exact this
      · have := Boxed.new (W2.alloc (.cells #[c0, c1, c2, c3] 30)) 28 (.slice (some ⟨W2.heap.size, 0, none⟩) 1 1)
        rw [World.size_alloc] at this
        exact this
      · have := hb2.size; have := HZ1.out; omega
      · exact ((HB1.out.trans (hb2.mono HB1.out.size)).alloc (HB1.out.trans (hb2.mono HB1.out.size)).size _).alloc (by have := (HB1.out.trans (hb2.mono HB1.out.size)).size; simp; omega) _
      · have h1 := hb2.size
        have h2 := HZ1.out
        refine ⟨rfl, by simp; omega, ((HB1.out.trans (hb2.mono HB1.out.size)).alloc (HB1.out.trans (hb2.mono HB1.out.size)).size _).alloc (by have := (HB1.out.trans (hb2.mono HB1.out.size)).size; simp; omega) _, stkR_one HT.out ((Box4.new W2 30 c0 c1 c2 c3).alloc _), ?_, ?_, ?_⟩
        · exact ((boxed_below R1.out hb2 (by omega)).alloc _).alloc _
        · intro p hp s hs
          simp at hp
          subst hp
          simp at hs
          subst hs
          exact HWV.out
        · show N = _
          rw [HNF.out]
          simp [formS, formL]
    gi_wp2_with (first
      | (refine ⟨trivial, ?_⟩; gi_at_call 23; rw [HW1.out]; refine (callsIn_wide.2 HM.out).mono ?_; rintro e W2 ⟨rfl, hb2⟩; obtain ⟨W3, W4, hW3, hW4, hz4, hC, hbx, hz2, hB4, hI⟩ := HG.out W2 hb2; have B2 := V1.out.under hb2 V1.out.lt; have y0 := B2.c0; have y1 := B2.c1; have y2 := B2.c2; have y3 := B2.c3; have HW3 := Lib.hid hW3; have HW4 := Lib.hid hW4; have HC := Lib.hid hC; have HBX := Lib.hid hbx; have HB4 := Lib.hid hB4; have HI := Lib.hid hI; have HZ4 := Lib.hid hz4; have HZ2 := Lib.hid hz2; clear hW3 hW4 hC hbx hB4 hI hz4 hz2 B2 hb2 x0 x1 x2 x3)
      | (refine ⟨trivial, ?_⟩; gi_at_call 24; rw [HW3.out]; refine (callsIn_wide.2 HC.out).mono ?_; rintro e W5 ⟨rfl, rfl⟩; rw [HW4.out]))
    obtain ⟨G, hG⟩ : ∃ G, W2.heap.size = G := ⟨_, rfl⟩
    have hDz := HZ4.out
    have hz2 := HZ2.out
    rw [hG] at HI HBX hDz hz2 ⊢
    clear y0 y1 y2 y3
    refine wpIn_givesV (n := 9) (w := W4) rfl (by decide) (gf := 32) (lb := #[.pointer (some ⟨G + 1, 0, none⟩)]) rfl trivial (enters_of Tryd.func32 (by kernel_rfl) rfl)
      (S0 := [([t], .slice (some ⟨G, 0, none⟩) 1 1)]) (lo := G + 2) (by omega) (fun W hW hz => ?gives)
      (IsvR w H G N) (IsvX w H N) (fun S F A C hi hh => hi.keep (by omega) (by omega) (by omega) hh) (fun S F A hi b hb => by obtain ⟨rfl, h1, _⟩ := hi; have e : b = H + 1 := hb; omega) (fun A C hx hh => hx.keep (by omega) (by omega) hh) _ HI.out
      (fun v => { tmps := #[.agg #[c0, c1, c2, c3], .pointer (some ⟨H, 0, none⟩), .pointer (some ⟨H + 1, 0, none⟩), v, .agg #[c0, c1, c2, c3], .bool true, .bool false, .agg #[c0, c1, c2, c3], .slice (some ⟨G, 0, none⟩) 1 1, .func (.func 32) #[] #[.pointer (some ⟨G + 1, 0, none⟩)], v, undef, undef, undef], defers := [] }) ?assign ?body ?done ?stop
    case gives =>
      refine valueLists1_gives [t] _ 1 (G + 2) (9 - 1) (G + 1) (by decide) W (by have := hW.size; omega) ((hW.block _ (by omega)).trans HBX.out) ?_
      have hss := HS.out
      rw [wS_cons]
      show 2 * sizesV [t] + 1 + wS [] ≤ _
      rw [sizesV_one]
      simp [wS]
      omega
    case assign =>
      intro l v W K hK
      gi_wp2
      exact hK
    case body =>
      rintro l ts s S F W ⟨rfl, hC, hB, hR, hbf, hwv, hNN⟩ _ _ _
      obtain ⟨A, c, hse, hts, hrow, _⟩ := hR _ (List.mem_cons_self ..)
      simp only at hse hts
      subst hse
      have HEV := Lib.hid (everyNode_any ts W A c (hrow.rvas hB) (fun t ht => hwv _ (List.mem_cons_self ..) t ht) hts)
      have hpush := fun As => formS_push ts As S (.slice A ts.length c)
      obtain ⟨m, hmm⟩ : ∃ m, ts.length = m := ⟨_, rfl⟩
      have HF : Hid (ts.all nodeT' = true → ∀ W', Below W.heap.size W W' → givesPostV (G + 2) (IsvR w H G N) (IsvX w H N) ts (.slice A m c) S (fun b => b = H + 1) W .normal { tmps := #[], defers := [] } W') := by
        intro hyes W' hb'
        have hset : Held (fun i => ¬ i = H + 1) W W' := Held.of_below hb' fun i hi _ => hi
        have hB' : Below w.heap.size w W' := hB.trans (hb'.mono hB.size)
        obtain ⟨As, hrow, hst⟩ := stkR_next (lo := G + 2) (F := fun b => b = H + 1) (hR.held (Held.of_below hb' fun i hi _ => hi) (fun b hb => hb)) hB' (by omega) (by omega)
        rw [hmm] at hrow
        refine ⟨hset, As, fun b => b = H + 1, fun b hb => .inl hb, hrow, rfl, Nat.lt_of_lt_of_le hC hb'.size, hB', hst, boxed_below hbf hb' hC, wvS_push hwv, ?_⟩
        rw [hNN, hpush As, hyes, Bool.true_and]
      have HX : Hid (ts.all nodeT' = false → ∀ W', Below W.heap.size W W' → givesPostV (G + 2) (IsvR w H G N) (IsvX w H N) ts (.slice A m c) S (fun b => b = H + 1) W .ret { tmps := #[], defers := [] } (W'.setCell ⟨H + 1, 0, none⟩ (.bool false))) := by
        intro hno W' hb'
        have hB' : Below w.heap.size w W' := hB.trans (hb'.mono hB.size)
        refine ⟨(Held.of_below hb' fun i hi _ => hi).trans (Held.set _ (fun h => h rfl) _), by have := hb'.size; simp [World.setCell]; omega, hB'.setCell (p := ⟨H + 1, 0, none⟩) (by show w.heap.size ≤ H + 1; omega) _, (boxed_below hbf hb' hC).set _, ?_⟩
        rw [hNN, hpush (fun _ => undef), hno, Bool.false_and]
      have HFR : Hid (∀ W', Below W.heap.size W W' → Boxed W' (H + 1) 4 (.bool false)) := fun W' hb' => boxed_below hbf hb' hC
      rw [hmm] at HEV ⊢
      obtain ⟨b, hbv⟩ : ∃ b, ts.all nodeT' = b := ⟨_, rfl⟩
      rw [hbv] at HEV HF HX
      clear hbv hR hpush hB hmm hts hbf hwv hNN hrow hC
      cases b with
      | true =>
        gi_wp2_with (refine ⟨trivial, ?_⟩; gi_at_call 25; refine (CallsIn.inRound l (callsIn_wide.2 HEV.out)).mono ?_; rintro e W' ⟨rfl, hb'⟩; have HF2 := Lib.hid (HF.out rfl W' hb'); clear hb')
        exact HF2.out
      | false =>
        gi_wp2_with (refine ⟨trivial, ?_⟩; gi_at_call 25; refine (CallsIn.inRound l (callsIn_wide.2 HEV.out)).mono ?_; rintro e W' ⟨rfl, hb'⟩; have HF2 := Lib.hid (HX.out rfl W' hb'); have hbx' := HFR.out W' hb'; have hc1 := hbx'.cell; have hf1 := hbx'.frozen; clear hb' hbx')
        exact HF2.out
    case done =>
      rintro F W ⟨rfl, hC, hB, hR, hbf, hwv, hNN⟩ hK
      have hTrue : N = true := by rw [hNN]; rfl
      have hc := hbf.cell
      have hf := hbf.frozen
      have H3 := Lib.hid (hbf.set (.bool true))
      have HB := Lib.hid hB
      have hD : (W.setCell ⟨H + 1, 0, none⟩ (.bool true)).heap[W4.heap.size]? = some (.deferred (some [])) := (Below.heap_setCell _ _ _ _ (by show W4.heap.size ≠ H + 1; omega)).trans hK
      have HD := Lib.hid hD
      have HT2 := Lib.hid hTrue
      clear hR hB hbf hwv hNN hTrue hD
      gi_wp2
      refine ⟨by simp, .inl ⟨_, _, rfl, run_takeDeferred HD.out, ?_⟩⟩
      have hb4 := (boxed_below H3.out (below_put (B := W4.heap.size) _ (l := W4.heap.size) (o := .deferred none) (Nat.le_refl _)) (by omega)).cell
      refine ⟨.bool true, ?_, by rw [HT2.out], (HB.out.setCell (p := ⟨H + 1, 0, none⟩) (by show w.heap.size ≤ H + 1; omega) _).trans (below_put _ (by omega))⟩
      simp [results, Tryd.f15, go_sem, hb4]
    case stop =>
      rintro W ⟨hC, hB, hbf, hor⟩ hK
      have hb4 := (boxed_below hbf (below_put (B := W4.heap.size) _ (l := W4.heap.size) (o := .deferred none) (Nat.le_refl _)) (by omega)).cell
      have HB := Lib.hid hB
      have HT2 := Lib.hid hor
      have HC4 := Lib.hid hb4
      clear hbf hB hor hb4
      gi_wp2
      refine ⟨by simp, .inl ⟨_, _, rfl, run_takeDeferred hK, ?_⟩⟩
      have hb4 := HC4.out
      refine ⟨.bool false, ?_, by rw [HT2.out], HB.out.trans (below_put _ (by omega))⟩
      simp [results, Tryd.f15, go_sem, hb4]
  · rw [decide_eq_false hsz] at HM HV
    have HNF : Hid (N = false) := by rw [Bool.false_and] at HV; exact HV
    clear hsz HV
    have HFR : Hid (∀ W2, Below W1.heap.size W1 W2 → Boxed W2 (H + 1) 4 (.bool false)) := fun W2 hb2 => boxed_below R1.out hb2 (by have := HZ1.out; omega)
    gi_wp2_with (refine ⟨trivial, ?_⟩; gi_at_call 23; rw [HW1.out]; refine (callsIn_wide.2 HM.out).mono ?_; rintro e W2 ⟨rfl, hb2⟩; have hbx2 := HFR.out W2 hb2; have hc1 := hbx2.cell; have hf1 := hbx2.frozen; have HB2 := Lib.hid (HB1.out.trans (hb2.mono HB1.out.size)); have H3 := Lib.hid (hbx2.set (.bool false)); clear hb2 hbx2)
    have hc3 := H3.out.cell
    refine ⟨.bool false, ?_, by rw [HNF.out], HB2.out.setCell (p := ⟨H + 1, 0, none⟩) (by show w.heap.size ≤ H + 1; omega) _⟩
    simp [results, Tryd.f15, go_sem, hc3]
end Go.Proofs.YtckoookgjhngkaaDoor
