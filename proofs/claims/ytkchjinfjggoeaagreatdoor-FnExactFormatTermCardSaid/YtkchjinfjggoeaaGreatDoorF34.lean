/-
  Merged by program: SeqA, SEq, EqNode.
-/
import Derived.Test.YtkchjinfjggoeaaGreatDoorF27
import Derived.Test.YtkchjinfjggoeaaGreatDoorF32
import Derived.Deep.RegionHeld3

/-
  A range over a function as in SeqN, whose values are stored into variables of the round (Asg says what lies there). Hangs on no program.
-/
namespace Go.Proofs.YtkchjinfjggoeaaGreatDoor
open Go.RowKit

section
variable {N : Fence} {n : Nat} {P : Program}
theorem wpIn_givesA {g : Operand} {p0 : Array Tmp} {assign body : Code} {Q : Exit → Act → World → Prop} {a : Act} {w : World}
    (hro : N.round = none) (h1 : 1 ≤ n) {gf : Nat} {lb : Array Value} (hg : a.eval g = .func (.func gf) #[] lb) (hFg : N.fn gf) (eg : ∀ args w, (callFunc gf args).run P w = .ok (.enter gf args) w)
    {M : Nat} {Rd : Nat → Array Value → Prop} {On Keep : Nat → Prop} (hsz : ∀ k v, Rd k v → v.size = p0.size) (hkeep : ∀ b, Keep b → b < w.heap.size)
    (hgives : ∀ W, Below w.heap.size w W → W.heap.size = w.heap.size + 2 → GivesN N (n - 1) P gf lb M Rd On Keep W)
    (I : Nat → (Nat → Prop) → World → Prop) (Ix : World → Prop) (hI : ∀ k F A C, I k F A → Held (fun i => i < w.heap.size ∨ F i) A C → I k F C) (hB : ∀ k F A, I k F A → ∀ b, F b → ¬ Keep b ∧ b < A.heap.size)
    (hIx : ∀ A C, Ix A → Held (fun i => i ≠ w.heap.size + 1) A C → Ix C) (F0 : Nat → Prop) (h0 : I 0 F0 w) (a₁ : Array Value → Nat → Act) (Asg : Array Value → Nat → World → Prop) (hAsg : ∀ v b A C, Asg v b A → Held (fun i => b ≤ i) A C → Asg v b C)
    (hassign : ∀ (l k : Nat) (v : Array Value) (W : World) (K : Act → World → Prop), Rd k v → (∀ Wa, Asg v W.heap.size Wa → Below W.heap.size W Wa → K (a₁ v W.heap.size) Wa) →
      assign.wpIn (N.inRound l) (n - 1 - 1) P (Exit.then K (fun _ _ _ => False)) { tmps := (p0.zip v).foldl (fun tmps (t, u) => tmps.setIfInBounds t u) a.tmps, defers := [] } W)
    (hbody : ∀ (l k : Nat) (s : Array Value) (F : Nat → Prop) (W : World) (b : Nat), k < M → I k F W → Rd k s → Asg s b W → w.heap.size + 2 ≤ b → b ≤ W.heap.size → (∀ i, F i → i < b) → ¬ F w.heap.size → ¬ F (w.heap.size + 1) → body.wpIn (N.inRound l) (n - 1 - 1) P (givesPostN On I Ix k F W) (a₁ s b) W)
    (hdone : ∀ F W, I M F W → W.heap[w.heap.size]? = some (.deferred (some [])) → Q .normal { a with defers := { target := .collected w.heap.size, args := #[] } :: a.defers } W)
    (hstop : ∀ W, Ix W → W.heap[w.heap.size]? = some (.deferred (some [])) → Code.ret.wpIn N n P Q { a with defers := { target := .collected w.heap.size, args := #[] } :: a.defers } W) :
    (Code.rangeFunc g p0 assign body).wpIn N n P Q a w := by
  refine wpIn_rangeFunc ?_
  intro fn hfn
  rw [hro]
  -- the loop's record, in each of its states
  obtain ⟨R, hR⟩ : ∃ R : LoopState → Option Code → Loop, R = fun st pe => { state := st, pending := pe, fn, tmps := a.tmps, params := p0, assign, body, defers := w.heap.size } := ⟨_, rfl⟩
  obtain ⟨D, hD⟩ : ∃ D, w.heap.size = D := ⟨_, rfl⟩
  obtain ⟨W1, hW1⟩ : ∃ W1, (w.alloc (.deferred (some []))).alloc (.loop (R .ready none)) = W1 := ⟨_, rfl⟩
  have hb1 : Below D w W1 := by rw [← hW1, ← hD]; exact ((Below.refl _ w).alloc (Nat.le_refl _) _).alloc (by simp) _
  have hz1 : W1.heap.size = D + 2 := by rw [← hW1, ← hD]; simp
  have hrec : W1.heap[D + 1]? = some (.loop (R .ready none)) := by
    rw [← hW1, ← hD]; have := World.alloc_heap_new (w.alloc (.deferred (some []))) (.loop (R .ready none)); rwa [World.size_alloc] at this
  have hdef : W1.heap[D]? = some (.deferred (some [])) := by
    rw [← hW1, ← hD]; exact (Below.heap_alloc _ _ _ (by simp)).trans (World.alloc_heap_new w _)
  have hGV := hgives W1 (by rw [hD]; exact hb1) (by rw [hD]; exact hz1)
  have hent := run_enterLoop_outer (P := P) (w := w) fn a.tmps p0 assign body
  have hRe : (.loop { state := .ready, pending := none, fn, tmps := a.tmps, params := p0, assign, body, defers := w.heap.size } : Obj) = .loop (R .ready none) := by rw [hR]
  rw [hRe, hW1, hD] at hent
  have hF0 := hB _ _ _ h0
  rw [hD] at hkeep hI hIx hbody hdone hstop hF0
  refine ⟨D + 1, [{ target := .collected D, args := #[] }], W1, { target := .fn (.func gf) lb, args := #[.func (.yield (D + 1)) #[] #[]] }, W1, gf, #[.func (.yield (D + 1)) #[] #[]] ++ lb, W1, hent, ?_, ?_, ?_, fun _ => h1, ?_⟩
  · simp only [resolve, hg]
    simp [go_sem]
  · intro f' hf'; simp [Target.leads] at hf'; subst hf'; exact hFg
  · simp [invoke, go_sem, eg]
  -- what the rounds keep: the client's own, and the loop's record
  obtain ⟨J, hJd⟩ : ∃ J : Nat → (Nat → Prop) → World → Prop, J = fun S F W => ∃ G : Nat → Prop, (∀ b, F b ↔ (G b ∨ b = D ∨ b = D + 1)) ∧ ¬ G D ∧ ¬ G (D + 1) ∧ D + 2 ≤ W.heap.size ∧ I S G W ∧ W.heap[D + 1]? = some (.loop (R .ready none)) ∧ W.heap[D]? = some (.deferred (some [])) := ⟨_, rfl⟩
  refine (hGV (D + 1) J (fun W => Ix W ∧ W.heap[D + 1]? = some (.loop (R .done (some .ret))) ∧ W.heap[D]? = some (.deferred (some []))) ?_ ?_ ?_ ?_).mono ?_
  · rw [hJd]
    rintro S F A C ⟨G, hG, g1, g2, hz, hi, hl, hd⟩ hb
    exact ⟨G, hG, g1, g2, Nat.le_trans hz hb.size, hI _ _ _ _ hi (hb.mono fun i _ h => h.imp (fun h => by rw [hz1]; omega) fun h => (hG i).2 (.inl h)), (hb.block _ (by omega) (.inr ((hG _).2 (.inr (.inr rfl))))).trans hl, (hb.block _ (by omega) (.inr ((hG _).2 (.inr (.inl rfl))))).trans hd⟩
  · rw [hJd]
    rintro S F A ⟨G, hG, g1, g2, hz, hi, hl, hd⟩ b hb
    rcases (hG b).1 hb with h | h | h
    · exact hB _ _ _ hi b h
    · subst h; exact ⟨fun h => by have := hkeep _ h; omega, by omega⟩
    · subst h; exact ⟨fun h => by have := hkeep _ h; omega, by omega⟩
  · rw [hJd]
    rintro k s F W hkM ⟨G, hG, g1, g2, hz, hi, hl, hd⟩ hrd
    have hlt : D + 1 < W.heap.size := by omega
    have hy : (Instr.yield (D + 1) s).run P W = .ok (.round (D + 1) fn ((p0.zip s).foldl (fun tmps (t, u) => tmps.setIfInBounds t u) a.tmps) assign body) W := by
      rw [run_yield (P := P) (args := s) hl (by rw [hR]; exact hsz k s hrd), hR]
    refine ⟨fn, _, assign, body, hy, roundIn_of_wpIn hfn (hassign _ k s W _ hrd fun Wa hasg hba => ?_)⟩
    have hla : Wa.heap[D + 1]? = some (.loop (R .ready none)) := (hba.block _ hlt).trans hl
    have hda : Wa.heap[D]? = some (.deferred (some [])) := (hba.block _ (by omega)).trans hd
    have hsa := hba.size
    refine ⟨_, run_beginRound hla (by rw [hR]), ?_⟩
    clear hy
    obtain ⟨W2, hW2⟩ : ∃ W2, Wa.putObj (D + 1) (.loop { R .ready none with state := .busy }) = W2 := ⟨_, rfl⟩
    have hl2 : W2.heap[D + 1]? = some (.loop { R .ready none with state := .busy }) := by rw [← hW2]; exact World.putObj_heap_same (by omega)
    have hd2 : W2.heap[D]? = some (.deferred (some [])) := by rw [← hW2]; exact (World.putObj_heap_other (by omega)).trans hda
    have hz2 : W2.heap.size = Wa.heap.size := by rw [← hW2]; simp
    have hap : ∀ K : Nat → Prop, ¬ K (D + 1) → Held K Wa W2 := fun K hK => by rw [← hW2]; exact Held.put Wa hK
    have hall : ∀ K : Nat → Prop, Held K W Wa := fun K => Held.of_below hba fun i hi _ => hi
    have hnot : ¬ (D + 1 < D ∨ G (D + 1)) := fun h => h.elim (fun h => by omega) g2
    rw [hW2]
    refine wpIn_mono (hbody _ k s G W2 W.heap.size hkM (hI _ _ _ _ hi ((hall _).trans (hap _ hnot))) hrd (hAsg _ _ _ _ hasg (hap _ (by omega))) (by omega) (by omega) (fun i hgi => (hB _ _ _ hi i hgi).2) g1 g2) ?_
    rintro e a3 W3 hp
    have fin : ∀ (jump : Option Code), Held (fun i => ¬ G i) W2 W3 → (Instr.endRound (D + 1) jump).run P W3 = .ok (.bool jump.isNone) (W3.putObj (D + 1) (.loop (R (if jump.isNone then .ready else .done) jump))) ∧
        (W3.putObj (D + 1) (.loop (R (if jump.isNone then .ready else .done) jump))).heap[D + 1]? = some (.loop (R (if jump.isNone then .ready else .done) jump)) ∧
        (W3.putObj (D + 1) (.loop (R (if jump.isNone then .ready else .done) jump))).heap[D]? = some (.deferred (some [])) := by
      intro jump h3
      have hlt2 : D + 1 < W2.heap.size := (Array.getElem?_eq_some_iff.1 hl2).1
      have hl3 := (h3.block (D + 1) hlt2 g2).trans hl2
      have hr3 := run_endRound (P := P) jump hl3
      rw [hR] at hr3 ⊢
      exact ⟨hr3, World.putObj_heap_same (Array.getElem?_eq_some_iff.1 hl3).1, (World.putObj_heap_other (by omega)).trans ((h3.block D (by omega) g1).trans hd2)⟩
    cases e with
    | normal =>
      obtain ⟨hon, h3, G', hG', hi3⟩ := hp
      obtain ⟨hr, hl4, hd4⟩ := fin none h3
      have n1 : ¬ G' D := fun h => (hG' D h).elim g1 (fun h => by omega)
      have n2 : ¬ G' (D + 1) := fun h => (hG' (D + 1) h).elim g2 (fun h => by omega)
      have hnot' : ¬ (D + 1 < D ∨ G' (D + 1)) := fun h => h.elim (fun h => by omega) n2
      have hz3 := h3.size
      refine ⟨_, _, hr, .inl ⟨rfl, hon, ?_, fun b => G' b ∨ b = D ∨ b = D + 1, fun b hb => ?_, G', fun b => Iff.rfl, n1, n2, by simp; omega, hI _ _ _ _ hi3 (Held.put W3 hnot'), hl4, hd4⟩⟩
      · refine ((hall _).trans (hap _ (fun h => h ((hG _).2 (.inr (.inr rfl)))))).trans ((h3.mono (fun i _ h => fun hg => h ((hG i).2 (.inl hg)))).trans (Held.put W3 (fun h => h ((hG _).2 (.inr (.inr rfl))))))
      · rcases hb with h | h | h
        · rcases hG' b h with h | h
          · exact .inl ((hG b).2 (.inl h))
          · exact .inr (by omega)
        · exact .inl ((hG b).2 (.inr (.inl h)))
        · exact .inl ((hG b).2 (.inr (.inr h)))
    | ret =>
      obtain ⟨h3, hi3⟩ := hp
      obtain ⟨hr, hl4, hd4⟩ := fin (some .ret) h3
      exact ⟨_, _, hr, .inr ⟨rfl, hIx _ _ hi3 (Held.put W3 (fun h => h rfl)), hl4, hd4⟩⟩
    | exit _ => exact hp.elim
    | goto _ => exact hp.elim
    | panic _ => exact hp.elim
    | outgrown => exact hp.elim
  · rw [hJd]
    refine ⟨fun b => F0 b ∨ b = D ∨ b = D + 1, F0, fun b => Iff.rfl, fun h => by have := (hF0 _ h).2; omega, fun h => by have := (hF0 _ h).2; omega, by omega, hI _ _ _ _ h0 (Held.of_below hb1 (fun i hi _ => by omega)), hrec, hdef⟩
  · rw [hJd]
    rintro e W2 ⟨⟨v, rfl⟩, (⟨F, G, hG, g1, g2, hz, hi, hl, hd⟩ | ⟨hi, hl, hd⟩)⟩
    · exact ⟨none, _, by have := run_endLoop (P := P) hl (by rw [hR]; simp); rw [hR] at this; exact this, by rw [hD]; exact hdone G _ (hI _ _ _ _ hi (Held.put W2 (fun h => h.elim (fun h => by omega) g2))) ((World.putObj_heap_other (by omega)).trans hd)⟩
    · exact ⟨some .ret, _, by have := run_endLoop (P := P) hl (by rw [hR]; simp); rw [hR] at this; exact this, by rw [hD]; exact hstop _ (hIx _ _ hi (Held.put W2 (fun h => h rfl))) ((World.putObj_heap_other (by omega)).trans hd)⟩
end
end Go.Proofs.YtkchjinfjggoeaaGreatDoor

/-
  The library's slices.Equal at lists of strings.
-/
namespace Go.Proofs.YtkchjinfjggoeaaGreatDoor
open Go.RowKit

set_option maxHeartbeats 800000 in
set_option maxRecDepth 100000 in
theorem sEq_any (A B : Option Addr) (c d : Nat) (xs ys : List ByteArray) (w : World) (hA : Sl w A (xs.map Value.string)) (hB : Sl w B (ys.map Value.string)) (hn : xs.length ≤ 9223372036854775807) :
    Calls Tryz.prog 78 #[.slice A xs.length c, .slice B ys.length d] w (Tells (same xs ys) w) := by
  by_cases hl : xs.length = ys.length
  · have HL := Lib.hid hl
    rw [← hl]
    clear hl
    go_enter Tryz.func78, Tryz.ntmps78
    go_wp2_with fail
    go_loopw [13] (fun i wr => ∃ k : Nat, k ≤ xs.length ∧ i = .int .i64 k ∧ EqTo xs ys k ∧ ∃ n, wr = w.drewN n) (fun i _ => xs.length - (intOf i).toNat)
    case atStart => exact ⟨0, Nat.zero_le _, rfl, eqTo_zero _ _, 0, rfl⟩
    case round =>
      obtain ⟨k, hk, rfl, hno, n, rfl⟩ := hrel
      by_cases hlt : k < xs.length
      · have hlt2 : k < ys.length := by have := HL.out; omega
        obtain ⟨ad, rfl, hc⟩ := hA k (.string xs[k]) (by simp [hlt])
        obtain ⟨bd, rfl, hd⟩ := hB k (.string ys[k]) (by simp [hlt2])
        by_cases hx : xs[k] = ys[k]
        · have HN := Lib.hid (eqTo_succ hno hlt hlt2 hx)
          rw [← hx] at hd
          clear hx hno
          go_wp2
          go_quiet (fail)
          go_wp2
          go_roundw
          case rel => exact ⟨k + 1, by omega, by go_num, HN.out, _, rfl⟩
          case measure => simp [intOf]; omega
        · have HR := Lib.hid (same_no (ne_at hlt hlt2 hx))
          have hb := (Lib.bytes_beq_false_iff xs[k] ys[k]).2 hx
          clear hx hno
          go_wp2
          go_quiet (fail)
          go_wp2
          go_ret
          exact ⟨ret_bool HR.out.symm, _, World.drewN_drewN _ _ _⟩
      · have he : k = xs.length := by omega
        have HR := Lib.hid (same_yes (eqTo_all (he ▸ hno) HL.out))
        clear he hno
        go_wp2_with fail
        go_ret
        exact ⟨ret_bool HR.out.symm, n, rfl⟩
  · have HR := Lib.hid (same_no (x := xs) (y := ys) (fun e => hl (by rw [e])))
    go_enter Tryz.func78, Tryz.ntmps78
    go_wp2_with fail
    go_ret
    exact ⟨ret_bool HR.out.symm, 0, rfl⟩
end Go.Proofs.YtkchjinfjggoeaaGreatDoor

/-
  The program's isEqualNode.
-/
namespace Go.Proofs.YtkchjinfjggoeaaGreatDoor
open Go.RowKit

/-- are two nodes alike: their kinds, labels, and how many parts they have? -/
noncomputable def nodeB (t s : Ty) : Bool := decide (t.top.kind = s.top.kind) && (same t.top.labels s.top.labels && decide (t.kids.length = s.kids.length))

set_option maxHeartbeats 1600000 in
set_option maxRecDepth 100000 in
theorem node_any (t s : Ty) (w : World) (cs ds : List Value) (h : RTy w t cs) (h' : RTy w s ds) : Calls Tryz.prog 123 #[.agg cs.toArray, .agg ds.toArray] w (Truth (nodeB t s) w) := by
  obtain ⟨a, ks⟩ := t
  obtain ⟨b, js⟩ := s
  obtain ⟨L, c, A, d, rfl, k1, _, _, k4, _, k6, _⟩ := h.out
  obtain ⟨M, c', B, d', rfl, j1, _, _, j4, _, j6, _⟩ := h'.out
  obtain ⟨W1, hW1⟩ : ∃ W1, (w.alloc (.cells #[.int .i64 a.kind, .slice L a.labels.length c, .slice A ks.length d] 27)).alloc (.cells #[.int .i64 b.kind, .slice M b.labels.length c', .slice B js.length d'] 27) = W1 := ⟨_, rfl⟩
  obtain ⟨H, hH⟩ : ∃ H, w.heap.size = H := ⟨_, rfl⟩
  have b0 : Box3 W1 H 27 (.int .i64 a.kind) (.slice L a.labels.length c) (.slice A ks.length d) := by rw [← hW1, ← hH]; exact (Box3.new w _ _ _ _).alloc _
  have b1 : Box3 W1 (H + 1) 27 (.int .i64 b.kind) (.slice M b.labels.length c') (.slice B js.length d') := by
    rw [← hW1, ← hH]
    have := Box3.new (w.alloc (.cells #[.int .i64 a.kind, .slice L a.labels.length c, .slice A ks.length d] 27)) 27 (.int .i64 b.kind) (.slice M b.labels.length c') (.slice B js.length d')
    simpa using this
  have hb1 : Below w.heap.size w W1 := by rw [← hW1]; exact ((Below.refl _ _).alloc (Nat.le_refl _) _).alloc (by simp) _
  have HC := Lib.hid (sEq_any L M c c' a.labels b.labels W1 (k1.below hb1) (j1.below hb1) k4)
  have hnode : nodeB (.node a ks) (.node b js) = (decide (a.kind = b.kind) && (same a.labels b.labels && decide (ks.length = js.length))) := rfl
  generalize hnb : nodeB (.node a ks) (.node b js) = r at hnode ⊢
  generalize a.labels.length = n1 at HC hW1 b0 k4 ⊢
  generalize b.labels.length = n2 at HC hW1 b1 j4 ⊢
  generalize same a.labels b.labels = sl at HC hnode
  generalize ks.length = m1 at hW1 b0 hnode k6 ⊢
  generalize js.length = m2 at hW1 b1 hnode j6 ⊢
  generalize a.kind = q1 at hW1 b0 hnode ⊢
  generalize b.kind = q2 at hW1 b1 hnode ⊢
  have HW1 := Lib.hid hW1
  have HB1 := Lib.hid hb1
  have B0 := Lib.hid b0
  have B1 := Lib.hid b1
  have HN := Lib.hid hnode
  have x0 : W1.cell? ⟨H, 0, none⟩ = some (.int .i64 q1) := b0.c0
  have x1 : W1.cell? ⟨H, 1, none⟩ = some (.slice L n1 c) := b0.c1
  have x2 : W1.cell? ⟨H, 2, none⟩ = some (.slice A m1 d) := b0.c2
  have y0 : W1.cell? ⟨H + 1, 0, none⟩ = some (.int .i64 q2) := b1.c0
  have y1 : W1.cell? ⟨H + 1, 1, none⟩ = some (.slice M n2 c') := b1.c1
  have y2 : W1.cell? ⟨H + 1, 2, none⟩ = some (.slice B m2 d') := b1.c2
  clear h h' k1 j1 hW1 hb1 b0 b1 hnode hnb
  by_cases hk : q1 = q2
  · have ek : (q1 == q2) = true := beq_iff_eq.2 hk
    have HN2 : Hid (r = (sl && decide (m1 = m2))) := Lib.hid (by rw [HN.out, decide_eq_true hk, Bool.true_and])
    clear hk HN
    cases sl with
    | false =>
      have HF : Hid (∀ i, Truth r w (.returned (.bool false)) (World.drewN W1 i)) := fun i => ⟨by rw [HN2.out]; rfl, below_drewN HB1.out i⟩
      clear HN2
      go_enter Tryz.func123, Tryz.ntmps123
      go_wp2_with fail
      rw [HW1.out]
      refine HC.out.mono ?_
      rintro e w2 ⟨rfl, i, rfl⟩
      have u2 : (World.drewN W1 i).cell? ⟨H, 2, none⟩ = some (.slice A m1 d) := B0.out.c2
      have v2 : (World.drewN W1 i).cell? ⟨H + 1, 2, none⟩ = some (.slice B m2 d') := B1.out.c2
      go_wp2_with fail
      go_ret
      exact HF.out _
    | true =>
      have HE : Hid (r = ((m1 : Int) == (m2 : Int))) := Lib.hid (by
        rw [HN2.out, Bool.true_and]
        by_cases h : m1 = m2
        · subst h; simp
        · have h' : (m1 : Int) ≠ (m2 : Int) := by omega
          rw [decide_eq_false h, beq_eq_false_iff_ne.2 h'])
      have HF : Hid (∀ i, Truth r w (.returned (.bool ((m1 : Int) == (m2 : Int)))) (World.drewN W1 i)) := fun i => ⟨by rw [HE.out], below_drewN HB1.out i⟩
      clear HN2 HE
      go_enter Tryz.func123, Tryz.ntmps123
      go_wp2_with fail
      rw [HW1.out]
      refine HC.out.mono ?_
      rintro e w2 ⟨rfl, i, rfl⟩
      have u2 : (World.drewN W1 i).cell? ⟨H, 2, none⟩ = some (.slice A m1 d) := B0.out.c2
      have v2 : (World.drewN W1 i).cell? ⟨H + 1, 2, none⟩ = some (.slice B m2 d') := B1.out.c2
      go_wp2_with fail
      go_ret
      exact HF.out _
  · have ek : (q1 == q2) = false := beq_eq_false_iff_ne.2 hk
    have HF : Hid (Truth r w (.returned (.bool false)) W1) := Lib.hid ⟨by rw [HN.out, decide_eq_false hk]; rfl, HB1.out⟩
    clear hk HN HC
    go_enter Tryz.func123, Tryz.ntmps123
    go_wp2_with fail
    rw [HW1.out]
    go_wp2_with fail
    go_ret
    exact HF.out
end Go.Proofs.YtkchjinfjggoeaaGreatDoor
