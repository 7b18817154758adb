/-
  Merged by program: Seq, Held.
-/
import Derived.RangeFuncNested
import Derived.RangeFuncBound
import Derived.RangeFuncCalls
import Derived.RangeFuncLeaves
import Derived.Below

/-
  A range over a function, where the iterator gives a value at each round of which something is known in that round's world, and reads memory of its own between two rounds. Hangs on no program.
-/
namespace Go.Proofs.Ytlikmgkjilmjpaa
open Go.RowKit

/-- outside of the blocks from lo to hi the world is as it was -/
structure Apart (lo hi : Nat) (w w' : World) : Prop where
  os : w'.os = w.os
  tape : w'.tape = w.tape
  output : w'.output = w.output
  size : w.heap.size ≤ w'.heap.size
  block : ∀ i, i < w.heap.size → (i < lo ∨ hi ≤ i) → w'.heap[i]? = w.heap[i]?
section
variable {lo hi : Nat} {a b c : World}
theorem Apart.refl (lo hi : Nat) (w : World) : Apart lo hi w w := ⟨rfl, rfl, rfl, Nat.le_refl _, fun _ _ _ => rfl⟩
theorem Apart.trans (h : Apart lo hi a b) (k : Apart lo hi b c) : Apart lo hi a c :=
  ⟨k.os.trans h.os, k.tape.trans h.tape, k.output.trans h.output, Nat.le_trans h.size k.size, fun i hi' hd => (k.block i (Nat.lt_of_lt_of_le hi' h.size) hd).trans (h.block i hi' hd)⟩
theorem Apart.wider {lo' hi' : Nat} (h : Apart lo hi a b) (h1 : lo' ≤ lo) (h2 : hi ≤ hi') : Apart lo' hi' a b :=
  ⟨h.os, h.tape, h.output, h.size, fun i hi' hd => h.block i hi' (by omega)⟩
theorem Apart.of_below (h : Below a.heap.size a b) : Apart lo hi a b := ⟨h.os, h.tape, h.output, h.size, fun i hi' _ => h.block i hi'⟩
theorem Apart.below (h : Apart lo hi a b) (hl : lo ≤ a.heap.size) : Below lo a b := ⟨h.os, h.tape, h.output, h.size, fun i hi' => h.block i (by omega) (.inl hi')⟩
theorem Apart.put (w : World) {l : Nat} {o : Obj} (h1 : lo ≤ l) (h2 : l < hi) : Apart lo hi w (w.putObj l o) :=
  ⟨rfl, rfl, rfl, by simp, fun i _ hd => World.putObj_heap_other (by omega)⟩
theorem Apart.set (w : World) {p : Addr} (h1 : lo ≤ p.block) (h2 : p.block < hi) (u : Value) : Apart lo hi w (w.setCell p u) :=
  ⟨rfl, rfl, rfl, by simp [World.setCell], fun i _ hd => Below.heap_setCell _ _ _ _ (by omega)⟩
end
theorem below_put {B : Nat} (w : World) {l : Nat} {o : Obj} (h : B ≤ l) : Below B w (w.putObj l o) :=
  ⟨rfl, rfl, rfl, by simp, fun k hk => World.putObj_heap_other (by omega)⟩

/-- the iterator's contract: N values, of the k-th of which Rd k says what is known -/
def Gives (F : Fence) (n : Nat) (P : Program) (g : Nat) (lb : Array Value) (N : Nat) (Rd : Nat → Value → World → Prop) (lo : Nat) (W : World) : Prop :=
  ∀ (l : Nat) (J Jx : Nat → World → Prop), (∀ k A C, J k A → Below W.heap.size A C → J k C) →
    (∀ k v W1, k < N → J k W1 → Rd k v W1 → YieldAt F (n - 1) P l #[v] W1 fun e W' =>
      (e = .returned (.bool true) ∧ J (k + 1) W' ∧ Apart lo W.heap.size W1 W') ∨ (e = .returned (.bool false) ∧ Jx (k + 1) W')) →
    J 0 W → CallsIn F n P g (#[.func (.yield l) #[] #[]] ++ lb) W fun e W' => (∃ v, e = .returned v) ∧ (J N W' ∨ ∃ k, k ≤ N ∧ Jx k W')

/-- how a round's body is left -/
def givesPost (lo D : Nat) (I Ix : Nat → World → Prop) (k : Nat) (W : World) : Exit → Act → World → Prop
  | .normal, _, W' => Apart lo D W W' ∧ I (k + 1) W'
  | .ret, _, W' => Apart lo D W W' ∧ Ix (k + 1) W'
  | .exit _, _, _ => False
  | .goto _, _, _ => False
  | .panic _, _, _ => False
  | .outgrown, _, _ => False

section
variable {F : Fence} {n : Nat} {P : Program}
theorem wpIn_gives {g : Operand} {p0 : Tmp} {assign body : Code} {Q : Exit → Act → World → Prop} {a : Act} {w : World}
    (hro : F.round = none) (h1 : 1 ≤ n) {gf : Nat} {lb : Array Value} (hg : a.eval g = .func (.func gf) #[] lb) (hFg : F.fn gf) (eg : ∀ args w, (callFunc gf args).run P w = .ok (.enter gf args) w)
    {N : Nat} {Rd : Nat → Value → World → Prop} {lo : Nat} (hlo : lo ≤ w.heap.size)
    (hgives : ∀ W, Below w.heap.size w W → W.heap.size = w.heap.size + 2 → Gives F (n - 1) P gf lb N Rd lo W)
    (hRd : ∀ k v A C, Rd k v A → Apart lo (w.heap.size + 2) A C → Rd k v C)
    (I Ix : Nat → World → Prop) (hI : ∀ k A C, I k A → Below w.heap.size A C → I k C) (hIx : ∀ k A C, Ix k A → Below w.heap.size A C → Ix k C) (h0 : I 0 w) (a₁ : Value → Act)
    (hassign : ∀ (l : Nat) (v : Value) (W : World) (K : Act → World → Prop), K (a₁ v) W →
      assign.wpIn (F.inRound l) (n - 1 - 1) P (Exit.then K (fun _ _ _ => False)) { tmps := a.tmps.setIfInBounds p0 v, defers := [] } W)
    (hbody : ∀ (l k : Nat) (v : Value) (W : World), k < N → I k W → Rd k v W → body.wpIn (F.inRound l) (n - 1 - 1) P (givesPost lo w.heap.size I Ix k W) (a₁ v) W)
    (hdone : ∀ W, I N W → W.heap[w.heap.size]? = some (.deferred (some [])) → Q .normal { a with defers := { target := .collected w.heap.size, args := #[] } :: a.defers } W)
    (hstop : ∀ k W, k ≤ N → Ix k W → W.heap[w.heap.size]? = some (.deferred (some [])) → Code.ret.wpIn F n P Q { a with defers := { target := .collected w.heap.size, args := #[] } :: a.defers } W) :
    (Code.rangeFunc g #[p0] assign body).wpIn F n P Q a w := by
  refine wpIn_rangeFunc ?_
  intro fn hfn
  rw [hro]
  -- the loop's record, in each of its states
  obtain ⟨R, hR⟩ : ∃ R : LoopState → Option Code → Loop, R = fun st pe => { state := st, pending := pe, fn, tmps := a.tmps, params := #[p0], assign, body, defers := w.heap.size } := ⟨_, rfl⟩
  obtain ⟨D, hD⟩ : ∃ D, w.heap.size = D := ⟨_, rfl⟩
  obtain ⟨W1, hW1⟩ : ∃ W1, (w.alloc (.deferred (some []))).alloc (.loop (R .ready none)) = W1 := ⟨_, rfl⟩
  have hb1 : Below D w W1 := by rw [← hW1, ← hD]; exact ((Below.refl _ w).alloc (Nat.le_refl _) _).alloc (by simp) _
  have hz1 : W1.heap.size = D + 2 := by rw [← hW1, ← hD]; simp
  have hrec : W1.heap[D + 1]? = some (.loop (R .ready none)) := by
    rw [← hW1, ← hD]; have := World.alloc_heap_new (w.alloc (.deferred (some []))) (.loop (R .ready none)); rwa [World.size_alloc] at this
  have hdef : W1.heap[D]? = some (.deferred (some [])) := by
    rw [← hW1, ← hD]; exact (Below.heap_alloc _ _ _ (by simp)).trans (World.alloc_heap_new w _)
  have hGV := hgives W1 (by rw [hD]; exact hb1) (by rw [hD]; exact hz1)
  have hent := run_enterLoop_outer (P := P) (w := w) fn a.tmps #[p0] assign body
  have hRe : (.loop { state := .ready, pending := none, fn, tmps := a.tmps, params := #[p0], assign, body, defers := w.heap.size } : Obj) = .loop (R .ready none) := by rw [hR]
  rw [hRe, hW1, hD] at hent
  rw [hD] at hlo hI hIx hRd hbody hdone hstop
  refine ⟨D + 1, [{ target := .collected D, args := #[] }], W1, { target := .fn (.func gf) lb, args := #[.func (.yield (D + 1)) #[] #[]] }, W1, gf, #[.func (.yield (D + 1)) #[] #[]] ++ lb, W1, hent, ?_, ?_, ?_, fun _ => h1, ?_⟩
  · simp only [resolve, hg]
    simp [go_sem]
  · intro f' hf'; simp [Target.leads] at hf'; subst hf'; exact hFg
  · simp [invoke, go_sem, eg]
  refine (hGV (D + 1) (fun k W => I k W ∧ W.heap[D + 1]? = some (.loop (R .ready none)) ∧ W.heap[D]? = some (.deferred (some [])))
    (fun k W => Ix k W ∧ W.heap[D + 1]? = some (.loop (R .done (some .ret))) ∧ W.heap[D]? = some (.deferred (some []))) (fun k A C h hb => ?_) ?_ ⟨hI _ _ _ h0 hb1, hrec, hdef⟩).mono ?_
  · rw [hz1] at hb
    exact ⟨hI _ _ _ h.1 (hb.mono (by omega)), (hb.block _ (by omega)).trans h.2.1, (hb.block _ (by omega)).trans h.2.2⟩
  · rintro k v W hk ⟨hi, hl, hd⟩ hrd
    rw [hz1]
    have hlt : D + 1 < W.heap.size := (Array.getElem?_eq_some_iff.1 hl).1
    have hy : (Instr.yield (D + 1) #[v]).run P W = .ok (.round (D + 1) fn (a.tmps.setIfInBounds p0 v) assign body) W := by
      rw [run_yield (P := P) (args := #[v]) hl (by rw [hR]; rfl), hR]
      simp
    refine ⟨fn, _, assign, body, hy, roundIn_of_wpIn hfn (hassign _ v W _ ?_)⟩
    refine ⟨_, run_beginRound hl (by rw [hR]), ?_⟩
    clear hy
    obtain ⟨W2, hW2⟩ : ∃ W2, W.putObj (D + 1) (.loop { R .ready none with state := .busy }) = W2 := ⟨_, rfl⟩
    have hl2 : W2.heap[D + 1]? = some (.loop { R .ready none with state := .busy }) := by rw [← hW2]; exact World.putObj_heap_same hlt
    have hd2 : W2.heap[D]? = some (.deferred (some [])) := by rw [← hW2]; exact (World.putObj_heap_other (by omega)).trans hd
    have hap : Apart lo (D + 2) W W2 := by rw [← hW2]; exact Apart.put W (by omega) (by omega)
    have hbe : Below D W W2 := by rw [← hW2]; exact below_put W (by omega)
    rw [hW2]
    refine wpIn_mono (hbody _ k v W2 hk (hI _ _ _ hi hbe) (hRd _ _ _ _ hrd hap)) ?_
    rintro e a3 W3 hp
    have fin : ∀ (jump : Option Code), Apart lo D W2 W3 → (Instr.endRound (D + 1) jump).run P W3 = .ok (.bool jump.isNone) (W3.putObj (D + 1) (.loop (R (if jump.isNone then .ready else .done) jump))) ∧
        (W3.putObj (D + 1) (.loop (R (if jump.isNone then .ready else .done) jump))).heap[D + 1]? = some (.loop (R (if jump.isNone then .ready else .done) jump)) ∧
        (W3.putObj (D + 1) (.loop (R (if jump.isNone then .ready else .done) jump))).heap[D]? = some (.deferred (some [])) := by
      intro jump h3
      have hlt2 : D + 1 < W2.heap.size := (Array.getElem?_eq_some_iff.1 hl2).1
      have hl3 := (h3.block (D + 1) hlt2 (.inr (by omega))).trans hl2
      have hr3 := run_endRound (P := P) jump hl3
      rw [hR] at hr3 ⊢
      exact ⟨hr3, World.putObj_heap_same (Array.getElem?_eq_some_iff.1 hl3).1, (World.putObj_heap_other (by omega)).trans ((h3.block D (by omega) (.inr (Nat.le_refl _))).trans hd2)⟩
    cases e with
    | normal =>
      obtain ⟨h3, hi3⟩ := hp
      obtain ⟨hr, hl4, hd4⟩ := fin none h3
      exact ⟨_, _, hr, .inl ⟨rfl, ⟨hI _ _ _ hi3 (below_put W3 (by omega)), hl4, hd4⟩, (hap.trans (h3.wider (Nat.le_refl _) (by omega))).trans (Apart.put W3 (by omega) (by omega))⟩⟩
    | ret =>
      obtain ⟨h3, hi3⟩ := hp
      obtain ⟨hr, hl4, hd4⟩ := fin (some .ret) h3
      exact ⟨_, _, hr, .inr ⟨rfl, hIx _ _ _ hi3 (below_put W3 (by omega)), hl4, hd4⟩⟩
    | exit _ => exact hp.elim
    | goto _ => exact hp.elim
    | panic _ => exact hp.elim
    | outgrown => exact hp.elim
  · rintro e W2 ⟨⟨v, rfl⟩, (⟨hi, hl, hd⟩ | ⟨k, hk, hi, hl, hd⟩)⟩
    · exact ⟨none, _, by have := run_endLoop (P := P) hl (by rw [hR]; simp); rw [hR] at this; exact this, by rw [hD]; exact hdone _ (hI _ _ _ hi (below_put W2 (by omega))) ((World.putObj_heap_other (by omega)).trans hd)⟩
    · exact ⟨some .ret, _, by have := run_endLoop (P := P) hl (by rw [hR]; simp); rw [hR] at this; exact this, by rw [hD]; exact hstop k _ hk (hIx _ _ _ hi (below_put W2 (by omega))) ((World.putObj_heap_other (by omega)).trans hd)⟩
end
end Go.Proofs.Ytlikmgkjilmjpaa

/-
  Worlds in which the blocks of a set are as they were. Hangs on no program.
-/
namespace Go.Proofs.Ytlikmgkjilmjpaa
open Go.RowKit

/-- the blocks of which K holds are as they were -/
structure Held (K : Nat → Prop) (w w' : World) : Prop where
  os : w'.os = w.os
  tape : w'.tape = w.tape
  output : w'.output = w.output
  size : w.heap.size ≤ w'.heap.size
  block : ∀ i, i < w.heap.size → K i → w'.heap[i]? = w.heap[i]?
section
variable {K L : Nat → Prop} {a b c : World}
theorem Held.refl (K : Nat → Prop) (w : World) : Held K w w := ⟨rfl, rfl, rfl, Nat.le_refl _, fun _ _ _ => rfl⟩
theorem Held.trans (h : Held K a b) (k : Held K b c) : Held K a c :=
  ⟨k.os.trans h.os, k.tape.trans h.tape, k.output.trans h.output, Nat.le_trans h.size k.size, fun i hi hd => (k.block i (Nat.lt_of_lt_of_le hi h.size) hd).trans (h.block i hi hd)⟩
theorem Held.mono (h : Held K a b) (hk : ∀ i, i < a.heap.size → L i → K i) : Held L a b := ⟨h.os, h.tape, h.output, h.size, fun i hi hd => h.block i hi (hk i hi hd)⟩
theorem Held.of_below {B : Nat} (h : Below B a b) (hk : ∀ i, i < a.heap.size → K i → i < B) : Held K a b := ⟨h.os, h.tape, h.output, h.size, fun i hi hd => h.block i (hk i hi hd)⟩
theorem Held.below {B : Nat} (h : Held K a b) (hB : B ≤ a.heap.size) (hk : ∀ i, i < B → K i) : Below B a b := ⟨h.os, h.tape, h.output, h.size, fun i hi => h.block i (by omega) (hk i hi)⟩
theorem Held.put (w : World) {l : Nat} {o : Obj} (h : ¬ K l) : Held K w (w.putObj l o) :=
  ⟨rfl, rfl, rfl, by simp, fun i _ hd => World.putObj_heap_other (fun e => h (by rw [← e]; exact hd))⟩
theorem Held.set (w : World) {p : Addr} (h : ¬ K p.block) (u : Value) : Held K w (w.setCell p u) :=
  ⟨rfl, rfl, rfl, by simp [World.setCell], fun i _ hd => Below.heap_setCell _ _ _ _ (fun e => h (by rw [← e]; exact hd))⟩
theorem Held.grown {row : Option Nat} (h : a.grownBy b row) (hk : ∀ g, row = some g → ¬ K g) : Held K a b :=
  ⟨h.os, h.tape, h.output, h.size, fun i hi hd => h.block i hi (fun e => hk i e.symm hd)⟩
theorem Held.cell (h : Held K a b) {p : Addr} {u : Value} (hp : K p.block) (hc : a.cell? p = some u) : b.cell? p = some u :=
  (World.cell?_of_block (h.block _ (World.block_lt_of_cell? a _ hc) hp)).trans hc
end
end Go.Proofs.Ytlikmgkjilmjpaa
