/-
  Merged by program: Stk.
-/
import Derived.Test.YtlikmgkjilmjpaaH24
import Derived.Test.YtlikmgkjilmjpaaH9

/-
  A range over a function that walks trees by a stack of lists: the iterator gives the topmost list, and what the round made of it is read behind the round. The round may write into blocks of its own. Hangs on no program.
-/
namespace Go.Proofs.Ytlikmgkjilmjpaa
open Go.RowKit

/-- lists of values that are yet to be given, the next one first, each with the slice in which it lies -/
abbrev Stk := List (List Va × Value)
def sizesV (ks : List Va) : Nat := (ks.map Tr.size).sum
def wS (S : Stk) : Nat := (S.map fun p => 2 * sizesV p.1 + 1).sum
/-- the parts of the first k values are put on top -/
def pushTo (ts : List Va) (As : Nat → Value) (S : Stk) : Nat → Stk
  | 0 => S
  | k + 1 => match ts[k]? with
    | some t => if t.kids.length = 0 then pushTo ts As S k else (t.kids, As k) :: pushTo ts As S k
    | none => pushTo ts As S k
def pushAll (ts : List Va) (As : Nat → Value) (S : Stk) : Stk := pushTo ts As S ts.length
theorem pushTo_more {ts : List Va} {As : Nat → Value} {S : Stk} {k : Nat} (hk : k < ts.length) : pushTo ts As S (k + 1) = if ts[k].kids.length = 0 then pushTo ts As S k else (ts[k].kids, As k) :: pushTo ts As S k := by
  show (match ts[k]? with | some t => _ | none => _) = _
  rw [List.getElem?_eq_getElem hk]
theorem sizesV_kids (t : Va) : sizesV t.kids + 1 = t.size := by
  cases t with
  | node a ks => rw [size_nodeV]; show (ks.map Tr.size).sum + 1 = _; omega
theorem wS_cons (p : List Va × Value) (S : Stk) : wS (p :: S) = 2 * sizesV p.1 + 1 + wS S := by simp [wS]
theorem wS_pushTo (ts : List Va) (As : Nat → Value) (S : Stk) : ∀ k, k ≤ ts.length → wS (pushTo ts As S k) + k ≤ wS S + 2 * sizesV (ts.take k)
  | 0, _ => by simp [pushTo, sizesV]
  | k + 1, hk => by
    have ih := wS_pushTo ts As S k (by omega)
    have hk' : k < ts.length := by omega
    have h1 := sum_take_succ Tr.size ts k hk'
    have h2 := sizesV_kids ts[k]
    have h3 : sizesV (ts.take (k + 1)) = sizesV (ts.take k) + ts[k].size := h1
    rw [pushTo_more hk']
    split
    · omega
    · rw [wS_cons]
      show 2 * sizesV ts[k].kids + 1 + _ + _ ≤ _
      omega
theorem wS_push (ts : List Va) (As : Nat → Value) (S : Stk) (s : Value) : wS (pushAll ts As S) + ts.length + 1 ≤ wS ((ts, s) :: S) := by
  have h := wS_pushTo ts As S ts.length (Nat.le_refl _)
  rw [List.take_length] at h
  unfold pushAll
  have : wS ((ts, s) :: S) = 2 * sizesV ts + 1 + wS S := wS_cons _ _
  omega
theorem wS_len (S : Stk) : S.length ≤ wS S := by
  unfold wS
  induction S with
  | nil => simp
  | cons p S ih => simp only [List.map_cons, List.sum_cons, List.length_cons]; omega

/-- the slice s has a value's cells in each of its places, with the parts' slices As; it lies below lo or in a block of F -/
def RowC (lo : Nat) (F : Nat → Prop) (w : World) (s : Value) (ts : List Va) (As : Nat → Value) : Prop :=
  ∃ A c, s = .slice A ts.length c ∧ ts.length ≤ 9223372036854775807 ∧ (∀ j t, ts[j]? = some t → ∃ ad c0 c1 L l c A' c', A = some ad ∧ (ad.block < lo ∨ F ad.block) ∧ As j = .slice A' t.kids.length c' ∧ w.cell? (ad.add (j * 4)) = some (.int .i64 c0) ∧ w.cell? (ad.add (j * 4 + 1)) = some (.int .i64 c1) ∧ w.cell? (ad.add (j * 4 + 2)) = some (.slice L l c) ∧ w.cell? (ad.add (j * 4 + 3)) = some (As j))

/-- the iterator's contract: all lists of the stack, and what comes of them -/
def GivesV (N : Fence) (n : Nat) (P : Program) (g : Nat) (lb : Array Value) (S0 : Stk) (lo : Nat) (Keep : Nat → Prop) (W : World) : Prop :=
  ∀ (l : Nat) (J : Stk → (Nat → Prop) → World → Prop) (Jx : World → Prop), (∀ S F A C, J S F A → Held (fun i => i < lo ∨ F i) A C → J S F C) → (∀ S F A, J S F A → ∀ b, F b → ¬ Keep b ∧ b < A.heap.size) →
    (∀ ts s S F W1, J ((ts, s) :: S) F W1 → YieldAt N (n - 1) P l #[s] W1 fun e W' =>
      (e = .returned (.bool true) ∧ Held (fun i => ¬ F i) W1 W' ∧ ∃ As F', (∀ b, F' b → F b ∨ W1.heap.size ≤ b) ∧ RowC lo F' W' s ts As ∧ J (pushAll ts As S) F' W') ∨ (e = .returned (.bool false) ∧ Jx W')) →
    (∃ F, J S0 F W) → CallsIn N n P g (#[.func (.yield l) #[] #[]] ++ lb) W fun e W' => (∃ v, e = .returned v) ∧ ((∃ F, J [] F W') ∨ Jx W')

/-- how a round's body is left -/
def givesPostV (lo : Nat) (I : Stk → (Nat → Prop) → World → Prop) (Ix : World → Prop) (ts : List Va) (s : Value) (S : Stk) (F : Nat → Prop) (W : World) : Exit → Act → World → Prop
  | .normal, _, W' => Held (fun i => ¬ F i) W W' ∧ ∃ As F', (∀ b, F' b → F b ∨ W.heap.size ≤ b) ∧ RowC lo F' W' s ts As ∧ I (pushAll ts As S) F' W'
  | .ret, _, W' => Held (fun i => ¬ F i) W W' ∧ Ix W'
  | .exit _, _, _ => False
  | .goto _, _, _ => False
  | .panic _, _, _ => False
  | .outgrown, _, _ => False

theorem RowC.more {lo : Nat} {F F' : Nat → Prop} {w : World} {s : Value} {ts : List Va} {As : Nat → Value} (h : RowC lo F w s ts As) (hF : ∀ b, F b → F' b) : RowC lo F' w s ts As := by
  obtain ⟨A, c, h1, h2, h3⟩ := h
  refine ⟨A, c, h1, h2, fun j t hj => ?_⟩
  obtain ⟨ad, c0, c1, L, l, c2, A', c', k1, k2, k3⟩ := h3 j t hj
  exact ⟨ad, c0, c1, L, l, c2, A', c', k1, k2.imp id (hF _), k3⟩
theorem addr_blk (a : Addr) (j : Nat) : (a.add j).block = a.block := by unfold Addr.add; split <;> rfl
theorem RowC.held {lo : Nat} {F : Nat → Prop} {w w' : World} {s : Value} {ts : List Va} {As : Nat → Value} (h : RowC lo F w s ts As) (hH : Held (fun i => i < lo ∨ F i) w w') : RowC lo F w' s ts As := by
  obtain ⟨A, c, h1, h2, h3⟩ := h
  refine ⟨A, c, h1, h2, fun j t hj => ?_⟩
  obtain ⟨ad, c0, c1, L, l, c2, A', c', k1, k2, k3, q0, q1, q2, q3⟩ := h3 j t hj
  exact ⟨ad, c0, c1, L, l, c2, A', c', k1, k2, k3, hH.cell (by rw [addr_blk]; exact k2) q0, hH.cell (by rw [addr_blk]; exact k2) q1, hH.cell (by rw [addr_blk]; exact k2) q2, hH.cell (by rw [addr_blk]; exact k2) q3⟩

section
variable {N : Fence} {n : Nat} {P : Program}
theorem wpIn_givesV {g : Operand} {p0 : Tmp} {assign body : Code} {Q : Exit → Act → World → Prop} {a : Act} {w : World}
    (hro : N.round = none) (h1 : 1 ≤ n) {gf : Nat} {lb : Array Value} (hg : a.eval g = .func (.func gf) #[] lb) (hFg : N.fn gf) (eg : ∀ args w, (callFunc gf args).run P w = .ok (.enter gf args) w)
    {S0 : Stk} {lo : Nat} {Keep : Nat → Prop} (hlo : lo ≤ w.heap.size) (hkeep : ∀ b, Keep b → b < w.heap.size)
    (hgives : ∀ W, Below w.heap.size w W → W.heap.size = w.heap.size + 2 → GivesV N (n - 1) P gf lb S0 lo Keep W)
    (I : Stk → (Nat → Prop) → World → Prop) (Ix : World → Prop) (hI : ∀ S F A C, I S F A → Held (fun i => i < lo ∨ F i) A C → I S F C) (hB : ∀ S F A, I S F A → ∀ b, F b → ¬ Keep b ∧ b < A.heap.size)
    (hIx : ∀ A C, Ix A → Held (fun i => i ≠ w.heap.size + 1) A C → Ix C) (F0 : Nat → Prop) (h0 : I S0 F0 w) (a₁ : Value → Act)
    (hassign : ∀ (l : Nat) (v : Value) (W : World) (K : Act → World → Prop), K (a₁ v) W →
      assign.wpIn (N.inRound l) (n - 1 - 1) P (Exit.then K (fun _ _ _ => False)) { tmps := a.tmps.setIfInBounds p0 v, defers := [] } W)
    (hbody : ∀ (l : Nat) (ts : List Va) (s : Value) (S : Stk) (F : Nat → Prop) (W : World), I ((ts, s) :: S) F W → w.heap.size + 2 ≤ W.heap.size → ¬ F w.heap.size → ¬ F (w.heap.size + 1) → body.wpIn (N.inRound l) (n - 1 - 1) P (givesPostV lo I Ix ts s S F W) (a₁ s) W)
    (hdone : ∀ F W, I [] F W → W.heap[w.heap.size]? = some (.deferred (some [])) → Q .normal { a with defers := { target := .collected w.heap.size, args := #[] } :: a.defers } W)
    (hstop : ∀ W, Ix W → W.heap[w.heap.size]? = some (.deferred (some [])) → Code.ret.wpIn N n P Q { a with defers := { target := .collected w.heap.size, args := #[] } :: a.defers } W) :
    (Code.rangeFunc g #[p0] assign body).wpIn N n P Q a w := by
  refine wpIn_rangeFunc ?_
  intro fn hfn
  rw [hro]
  -- the loop's record, in each of its states
  obtain ⟨R, hR⟩ : ∃ R : LoopState → Option Code → Loop, R = fun st pe => { state := st, pending := pe, fn, tmps := a.tmps, params := #[p0], assign, body, defers := w.heap.size } := ⟨_, rfl⟩
  obtain ⟨D, hD⟩ : ∃ D, w.heap.size = D := ⟨_, rfl⟩
  obtain ⟨W1, hW1⟩ : ∃ W1, (w.alloc (.deferred (some []))).alloc (.loop (R .ready none)) = W1 := ⟨_, rfl⟩
  have hb1 : Below D w W1 := by rw [← hW1, ← hD]; exact ((Below.refl _ w).alloc (Nat.le_refl _) _).alloc (by simp) _
  have hz1 : W1.heap.size = D + 2 := by rw [← hW1, ← hD]; simp
  have hrec : W1.heap[D + 1]? = some (.loop (R .ready none)) := by
    rw [← hW1, ← hD]; have := World.alloc_heap_new (w.alloc (.deferred (some []))) (.loop (R .ready none)); rwa [World.size_alloc] at this
  have hdef : W1.heap[D]? = some (.deferred (some [])) := by
    rw [← hW1, ← hD]; exact (Below.heap_alloc _ _ _ (by simp)).trans (World.alloc_heap_new w _)
  have hGV := hgives W1 (by rw [hD]; exact hb1) (by rw [hD]; exact hz1)
  have hent := run_enterLoop_outer (P := P) (w := w) fn a.tmps #[p0] assign body
  have hRe : (.loop { state := .ready, pending := none, fn, tmps := a.tmps, params := #[p0], assign, body, defers := w.heap.size } : Obj) = .loop (R .ready none) := by rw [hR]
  rw [hRe, hW1, hD] at hent
  have hF0 := hB _ _ _ h0
  rw [hD] at hlo hkeep hIx hbody hdone hstop hF0
  refine ⟨D + 1, [{ target := .collected D, args := #[] }], W1, { target := .fn (.func gf) lb, args := #[.func (.yield (D + 1)) #[] #[]] }, W1, gf, #[.func (.yield (D + 1)) #[] #[]] ++ lb, W1, hent, ?_, ?_, ?_, fun _ => h1, ?_⟩
  · simp only [resolve, hg]
    simp [go_sem]
  · intro f' hf'; simp [Target.leads] at hf'; subst hf'; exact hFg
  · simp [invoke, go_sem, eg]
  -- what the rounds keep: the client's own, and the loop's record
  obtain ⟨J, hJd⟩ : ∃ J : Stk → (Nat → Prop) → World → Prop, J = fun S F W => ∃ G : Nat → Prop, (∀ b, F b ↔ (G b ∨ b = D ∨ b = D + 1)) ∧ ¬ G D ∧ ¬ G (D + 1) ∧ D + 2 ≤ W.heap.size ∧ I S G W ∧ W.heap[D + 1]? = some (.loop (R .ready none)) ∧ W.heap[D]? = some (.deferred (some [])) := ⟨_, rfl⟩
  refine (hGV (D + 1) J (fun W => Ix W ∧ W.heap[D + 1]? = some (.loop (R .done (some .ret))) ∧ W.heap[D]? = some (.deferred (some []))) ?_ ?_ ?_ ?_).mono ?_
  · rw [hJd]
    rintro S F A C ⟨G, hG, g1, g2, hz, hi, hl, hd⟩ hb
    exact ⟨G, hG, g1, g2, Nat.le_trans hz hb.size, hI _ _ _ _ hi (hb.mono fun i _ h => h.imp id fun h => (hG i).2 (.inl h)), (hb.block _ (by omega) (.inr ((hG _).2 (.inr (.inr rfl))))).trans hl, (hb.block _ (by omega) (.inr ((hG _).2 (.inr (.inl rfl))))).trans hd⟩
  · rw [hJd]
    rintro S F A ⟨G, hG, g1, g2, hz, hi, hl, hd⟩ b hb
    rcases (hG b).1 hb with h | h | h
    · exact hB _ _ _ hi b h
    · subst h; exact ⟨fun h => by have := hkeep _ h; omega, by omega⟩
    · subst h; exact ⟨fun h => by have := hkeep _ h; omega, by omega⟩
  · rw [hJd]
    rintro ts s S F W ⟨G, hG, g1, g2, hz, hi, hl, hd⟩
    have hlt : D + 1 < W.heap.size := by omega
    have hy : (Instr.yield (D + 1) #[s]).run P W = .ok (.round (D + 1) fn (a.tmps.setIfInBounds p0 s) assign body) W := by
      rw [run_yield (P := P) (args := #[s]) hl (by rw [hR]; rfl), hR]
      simp
    refine ⟨fn, _, assign, body, hy, roundIn_of_wpIn hfn (hassign _ s W _ ?_)⟩
    refine ⟨_, run_beginRound hl (by rw [hR]), ?_⟩
    clear hy
    obtain ⟨W2, hW2⟩ : ∃ W2, W.putObj (D + 1) (.loop { R .ready none with state := .busy }) = W2 := ⟨_, rfl⟩
    have hl2 : W2.heap[D + 1]? = some (.loop { R .ready none with state := .busy }) := by rw [← hW2]; exact World.putObj_heap_same hlt
    have hd2 : W2.heap[D]? = some (.deferred (some [])) := by rw [← hW2]; exact (World.putObj_heap_other (by omega)).trans hd
    have hz2 : W2.heap.size = W.heap.size := by rw [← hW2]; simp
    have hap : ∀ K : Nat → Prop, ¬ K (D + 1) → Held K W W2 := fun K hK => by rw [← hW2]; exact Held.put W hK
    have hnot : ¬ (D + 1 < lo ∨ G (D + 1)) := fun h => h.elim (fun h => by omega) g2
    rw [hW2]
    refine wpIn_mono (hbody _ ts s S G W2 (hI _ _ _ _ hi (hap _ hnot)) (by omega) g1 g2) ?_
    rintro e a3 W3 hp
    have fin : ∀ (jump : Option Code), Held (fun i => ¬ G i) W2 W3 → (Instr.endRound (D + 1) jump).run P W3 = .ok (.bool jump.isNone) (W3.putObj (D + 1) (.loop (R (if jump.isNone then .ready else .done) jump))) ∧
        (W3.putObj (D + 1) (.loop (R (if jump.isNone then .ready else .done) jump))).heap[D + 1]? = some (.loop (R (if jump.isNone then .ready else .done) jump)) ∧
        (W3.putObj (D + 1) (.loop (R (if jump.isNone then .ready else .done) jump))).heap[D]? = some (.deferred (some [])) := by
      intro jump h3
      have hlt2 : D + 1 < W2.heap.size := (Array.getElem?_eq_some_iff.1 hl2).1
      have hl3 := (h3.block (D + 1) hlt2 g2).trans hl2
      have hr3 := run_endRound (P := P) jump hl3
      rw [hR] at hr3 ⊢
      exact ⟨hr3, World.putObj_heap_same (Array.getElem?_eq_some_iff.1 hl3).1, (World.putObj_heap_other (by omega)).trans ((h3.block D (by omega) g1).trans hd2)⟩
    cases e with
    | normal =>
      obtain ⟨h3, As, G', hG', hrow, hi3⟩ := hp
      obtain ⟨hr, hl4, hd4⟩ := fin none h3
      have n1 : ¬ G' D := fun h => (hG' D h).elim g1 (fun h => by omega)
      have n2 : ¬ G' (D + 1) := fun h => (hG' (D + 1) h).elim g2 (fun h => by omega)
      have hnot' : ¬ (D + 1 < lo ∨ G' (D + 1)) := fun h => h.elim (fun h => by omega) n2
      have hz3 := h3.size
      refine ⟨_, _, hr, .inl ⟨rfl, ?_, As, fun b => G' b ∨ b = D ∨ b = D + 1, fun b hb => ?_, ?_, G', fun b => Iff.rfl, n1, n2, by simp; omega, hI _ _ _ _ hi3 (Held.put W3 hnot'), hl4, hd4⟩⟩
      · refine (hap _ (fun h => h ((hG _).2 (.inr (.inr rfl))))).trans ((h3.mono (fun i _ h => fun hg => h ((hG i).2 (.inl hg)))).trans (Held.put W3 (fun h => h ((hG _).2 (.inr (.inr rfl))))))
      · rcases hb with h | h | h
        · rcases hG' b h with h | h
          · exact .inl ((hG b).2 (.inl h))
          · exact .inr (by omega)
        · exact .inl ((hG b).2 (.inr (.inl h)))
        · exact .inl ((hG b).2 (.inr (.inr h)))
      · exact (hrow.held (Held.put W3 hnot')).more (fun b h => .inl h)
    | ret =>
      obtain ⟨h3, hi3⟩ := hp
      obtain ⟨hr, hl4, hd4⟩ := fin (some .ret) h3
      exact ⟨_, _, hr, .inr ⟨rfl, hIx _ _ hi3 (Held.put W3 (fun h => h rfl)), hl4, hd4⟩⟩
    | exit _ => exact hp.elim
    | goto _ => exact hp.elim
    | panic _ => exact hp.elim
    | outgrown => exact hp.elim
  · rw [hJd]
    refine ⟨fun b => F0 b ∨ b = D ∨ b = D + 1, F0, fun b => Iff.rfl, fun h => by have := (hF0 _ h).2; omega, fun h => by have := (hF0 _ h).2; omega, by omega, hI _ _ _ _ h0 (Held.of_below hb1 (fun i hi _ => by omega)), hrec, hdef⟩
  · rw [hJd]
    rintro e W2 ⟨⟨v, rfl⟩, (⟨F, G, hG, g1, g2, hz, hi, hl, hd⟩ | ⟨hi, hl, hd⟩)⟩
    · exact ⟨none, _, by have := run_endLoop (P := P) hl (by rw [hR]; simp); rw [hR] at this; exact this, by rw [hD]; exact hdone G _ (hI _ _ _ _ hi (Held.put W2 (fun h => h.elim (fun h => by omega) g2))) ((World.putObj_heap_other (by omega)).trans hd)⟩
    · exact ⟨some .ret, _, by have := run_endLoop (P := P) hl (by rw [hR]; simp); rw [hR] at this; exact this, by rw [hD]; exact hstop _ (hIx _ _ hi (Held.put W2 (fun h => h rfl))) ((World.putObj_heap_other (by omega)).trans hd)⟩
end
end Go.Proofs.Ytlikmgkjilmjpaa
