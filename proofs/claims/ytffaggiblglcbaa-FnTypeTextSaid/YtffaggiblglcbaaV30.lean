/-
  Merged by program: Seq, LevSeq, LevSize.
-/
import Derived.RangeFuncNested
import Derived.RangeFuncBound
import Derived.RangeFuncCalls
import Derived.RangeFuncLeaves
import Derived.Below
import Derived.Test.YtffaggiblglcbaaV29
import Derived.Shelf.Abstract
import Derived.Shelf.RegionOpen
import Derived.WalkKit
import Derived.OwnWalkIn
import Derived.TacticsInMore
import Derived.LoopNIn
import Derived.LoopIn

/-
  A range over a function, where the iterator gives a value at each round of which something is known in that round's world, and reads memory of its own between two rounds. Hangs on no program.
-/
namespace Go.Proofs.Ytffaggiblglcbaa
open Go.RowKit

/-- outside of the blocks from lo to hi the world is as it was -/
structure Apart (lo hi : Nat) (w w' : World) : Prop where
  os : w'.os = w.os
  tape : w'.tape = w.tape
  output : w'.output = w.output
  size : w.heap.size ≤ w'.heap.size
  block : ∀ i, i < w.heap.size → (i < lo ∨ hi ≤ i) → w'.heap[i]? = w.heap[i]?
section
variable {lo hi : Nat} {a b c : World}
theorem Apart.refl (lo hi : Nat) (w : World) : Apart lo hi w w := ⟨rfl, rfl, rfl, Nat.le_refl _, fun _ _ _ => rfl⟩
theorem Apart.trans (h : Apart lo hi a b) (k : Apart lo hi b c) : Apart lo hi a c :=
  ⟨k.os.trans h.os, k.tape.trans h.tape, k.output.trans h.output, Nat.le_trans h.size k.size, fun i hi' hd => (k.block i (Nat.lt_of_lt_of_le hi' h.size) hd).trans (h.block i hi' hd)⟩
theorem Apart.wider {lo' hi' : Nat} (h : Apart lo hi a b) (h1 : lo' ≤ lo) (h2 : hi ≤ hi') : Apart lo' hi' a b :=
  ⟨h.os, h.tape, h.output, h.size, fun i hi' hd => h.block i hi' (by omega)⟩
theorem Apart.of_below (h : Below a.heap.size a b) : Apart lo hi a b := ⟨h.os, h.tape, h.output, h.size, fun i hi' _ => h.block i hi'⟩
theorem Apart.below (h : Apart lo hi a b) (hl : lo ≤ a.heap.size) : Below lo a b := ⟨h.os, h.tape, h.output, h.size, fun i hi' => h.block i (by omega) (.inl hi')⟩
theorem Apart.put (w : World) {l : Nat} {o : Obj} (h1 : lo ≤ l) (h2 : l < hi) : Apart lo hi w (w.putObj l o) :=
  ⟨rfl, rfl, rfl, by simp, fun i _ hd => World.putObj_heap_other (by omega)⟩
theorem Apart.set (w : World) {p : Addr} (h1 : lo ≤ p.block) (h2 : p.block < hi) (u : Value) : Apart lo hi w (w.setCell p u) :=
  ⟨rfl, rfl, rfl, by simp [World.setCell], fun i _ hd => Below.heap_setCell _ _ _ _ (by omega)⟩
end
theorem below_put {B : Nat} (w : World) {l : Nat} {o : Obj} (h : B ≤ l) : Below B w (w.putObj l o) :=
  ⟨rfl, rfl, rfl, by simp, fun k hk => World.putObj_heap_other (by omega)⟩

/-- the iterator's contract: N values, of the k-th of which Rd k says what is known -/
def Gives (F : Fence) (n : Nat) (P : Program) (g : Nat) (lb : Array Value) (N : Nat) (Rd : Nat → Value → World → Prop) (lo : Nat) (W : World) : Prop :=
  ∀ (l : Nat) (J Jx : Nat → World → Prop), (∀ k A C, J k A → Below W.heap.size A C → J k C) →
    (∀ k v W1, k < N → J k W1 → Rd k v W1 → YieldAt F (n - 1) P l #[v] W1 fun e W' =>
      (e = .returned (.bool true) ∧ J (k + 1) W' ∧ Apart lo W.heap.size W1 W') ∨ (e = .returned (.bool false) ∧ Jx (k + 1) W')) →
    J 0 W → CallsIn F n P g (#[.func (.yield l) #[] #[]] ++ lb) W fun e W' => (∃ v, e = .returned v) ∧ (J N W' ∨ ∃ k, k ≤ N ∧ Jx k W')

/-- how a round's body is left -/
def givesPost (lo D : Nat) (I Ix : Nat → World → Prop) (k : Nat) (W : World) : Exit → Act → World → Prop
  | .normal, _, W' => Apart lo D W W' ∧ I (k + 1) W'
  | .ret, _, W' => Apart lo D W W' ∧ Ix (k + 1) W'
  | .exit _, _, _ => False
  | .goto _, _, _ => False
  | .panic _, _, _ => False
  | .outgrown, _, _ => False

section
variable {F : Fence} {n : Nat} {P : Program}
theorem wpIn_gives {g : Operand} {p0 : Tmp} {assign body : Code} {Q : Exit → Act → World → Prop} {a : Act} {w : World}
    (hro : F.round = none) (h1 : 1 ≤ n) {gf : Nat} {lb : Array Value} (hg : a.eval g = .func (.func gf) #[] lb) (hFg : F.fn gf) (eg : ∀ args w, (callFunc gf args).run P w = .ok (.enter gf args) w)
    {N : Nat} {Rd : Nat → Value → World → Prop} {lo : Nat} (hlo : lo ≤ w.heap.size)
    (hgives : ∀ W, Below w.heap.size w W → W.heap.size = w.heap.size + 2 → Gives F (n - 1) P gf lb N Rd lo W)
    (hRd : ∀ k v A C, Rd k v A → Apart lo (w.heap.size + 2) A C → Rd k v C)
    (I Ix : Nat → World → Prop) (hI : ∀ k A C, I k A → Below w.heap.size A C → I k C) (hIx : ∀ k A C, Ix k A → Below w.heap.size A C → Ix k C) (h0 : I 0 w) (a₁ : Value → Act)
    (hassign : ∀ (l : Nat) (v : Value) (W : World) (K : Act → World → Prop), K (a₁ v) W →
      assign.wpIn (F.inRound l) (n - 1 - 1) P (Exit.then K (fun _ _ _ => False)) { tmps := a.tmps.setIfInBounds p0 v, defers := [] } W)
    (hbody : ∀ (l k : Nat) (v : Value) (W : World), k < N → I k W → Rd k v W → body.wpIn (F.inRound l) (n - 1 - 1) P (givesPost lo w.heap.size I Ix k W) (a₁ v) W)
    (hdone : ∀ W, I N W → W.heap[w.heap.size]? = some (.deferred (some [])) → Q .normal { a with defers := { target := .collected w.heap.size, args := #[] } :: a.defers } W)
    (hstop : ∀ k W, k ≤ N → Ix k W → W.heap[w.heap.size]? = some (.deferred (some [])) → Code.ret.wpIn F n P Q { a with defers := { target := .collected w.heap.size, args := #[] } :: a.defers } W) :
    (Code.rangeFunc g #[p0] assign body).wpIn F n P Q a w := by
  refine wpIn_rangeFunc ?_
  intro fn hfn
  rw [hro]
  -- the loop's record, in each of its states
  obtain ⟨R, hR⟩ : ∃ R : LoopState → Option Code → Loop, R = fun st pe => { state := st, pending := pe, fn, tmps := a.tmps, params := #[p0], assign, body, defers := w.heap.size } := ⟨_, rfl⟩
  obtain ⟨D, hD⟩ : ∃ D, w.heap.size = D := ⟨_, rfl⟩
  obtain ⟨W1, hW1⟩ : ∃ W1, (w.alloc (.deferred (some []))).alloc (.loop (R .ready none)) = W1 := ⟨_, rfl⟩
  have hb1 : Below D w W1 := by rw [← hW1, ← hD]; exact ((Below.refl _ w).alloc (Nat.le_refl _) _).alloc (by simp) _
  have hz1 : W1.heap.size = D + 2 := by rw [← hW1, ← hD]; simp
  have hrec : W1.heap[D + 1]? = some (.loop (R .ready none)) := by
    rw [← hW1, ← hD]; have := World.alloc_heap_new (w.alloc (.deferred (some []))) (.loop (R .ready none)); rwa [World.size_alloc] at this
  have hdef : W1.heap[D]? = some (.deferred (some [])) := by
    rw [← hW1, ← hD]; exact (Below.heap_alloc _ _ _ (by simp)).trans (World.alloc_heap_new w _)
  have hGV := hgives W1 (by rw [hD]; exact hb1) (by rw [hD]; exact hz1)
  have hent := run_enterLoop_outer (P := P) (w := w) fn a.tmps #[p0] assign body
  have hRe : (.loop { state := .ready, pending := none, fn, tmps := a.tmps, params := #[p0], assign, body, defers := w.heap.size } : Obj) = .loop (R .ready none) := by rw [hR]
  rw [hRe, hW1, hD] at hent
  rw [hD] at hlo hI hIx hRd hbody hdone hstop
  refine ⟨D + 1, [{ target := .collected D, args := #[] }], W1, { target := .fn (.func gf) lb, args := #[.func (.yield (D + 1)) #[] #[]] }, W1, gf, #[.func (.yield (D + 1)) #[] #[]] ++ lb, W1, hent, ?_, ?_, ?_, fun _ => h1, ?_⟩
  · simp only [resolve, hg]
    simp [go_sem]
  · intro f' hf'; simp [Target.leads] at hf'; subst hf'; exact hFg
  · simp [invoke, go_sem, eg]
  refine (hGV (D + 1) (fun k W => I k W ∧ W.heap[D + 1]? = some (.loop (R .ready none)) ∧ W.heap[D]? = some (.deferred (some [])))
    (fun k W => Ix k W ∧ W.heap[D + 1]? = some (.loop (R .done (some .ret))) ∧ W.heap[D]? = some (.deferred (some []))) (fun k A C h hb => ?_) ?_ ⟨hI _ _ _ h0 hb1, hrec, hdef⟩).mono ?_
  · rw [hz1] at hb
    exact ⟨hI _ _ _ h.1 (hb.mono (by omega)), (hb.block _ (by omega)).trans h.2.1, (hb.block _ (by omega)).trans h.2.2⟩
  · rintro k v W hk ⟨hi, hl, hd⟩ hrd
    rw [hz1]
    have hlt : D + 1 < W.heap.size := (Array.getElem?_eq_some_iff.1 hl).1
    have hy : (Instr.yield (D + 1) #[v]).run P W = .ok (.round (D + 1) fn (a.tmps.setIfInBounds p0 v) assign body) W := by
      rw [run_yield (P := P) (args := #[v]) hl (by rw [hR]; rfl), hR]
      simp
    refine ⟨fn, _, assign, body, hy, roundIn_of_wpIn hfn (hassign _ v W _ ?_)⟩
    refine ⟨_, run_beginRound hl (by rw [hR]), ?_⟩
    clear hy
    obtain ⟨W2, hW2⟩ : ∃ W2, W.putObj (D + 1) (.loop { R .ready none with state := .busy }) = W2 := ⟨_, rfl⟩
    have hl2 : W2.heap[D + 1]? = some (.loop { R .ready none with state := .busy }) := by rw [← hW2]; exact World.putObj_heap_same hlt
    have hd2 : W2.heap[D]? = some (.deferred (some [])) := by rw [← hW2]; exact (World.putObj_heap_other (by omega)).trans hd
    have hap : Apart lo (D + 2) W W2 := by rw [← hW2]; exact Apart.put W (by omega) (by omega)
    have hbe : Below D W W2 := by rw [← hW2]; exact below_put W (by omega)
    rw [hW2]
    refine wpIn_mono (hbody _ k v W2 hk (hI _ _ _ hi hbe) (hRd _ _ _ _ hrd hap)) ?_
    rintro e a3 W3 hp
    have fin : ∀ (jump : Option Code), Apart lo D W2 W3 → (Instr.endRound (D + 1) jump).run P W3 = .ok (.bool jump.isNone) (W3.putObj (D + 1) (.loop (R (if jump.isNone then .ready else .done) jump))) ∧
        (W3.putObj (D + 1) (.loop (R (if jump.isNone then .ready else .done) jump))).heap[D + 1]? = some (.loop (R (if jump.isNone then .ready else .done) jump)) ∧
        (W3.putObj (D + 1) (.loop (R (if jump.isNone then .ready else .done) jump))).heap[D]? = some (.deferred (some [])) := by
      intro jump h3
      have hlt2 : D + 1 < W2.heap.size := (Array.getElem?_eq_some_iff.1 hl2).1
      have hl3 := (h3.block (D + 1) hlt2 (.inr (by omega))).trans hl2
      have hr3 := run_endRound (P := P) jump hl3
      rw [hR] at hr3 ⊢
      exact ⟨hr3, World.putObj_heap_same (Array.getElem?_eq_some_iff.1 hl3).1, (World.putObj_heap_other (by omega)).trans ((h3.block D (by omega) (.inr (Nat.le_refl _))).trans hd2)⟩
    cases e with
    | normal =>
      obtain ⟨h3, hi3⟩ := hp
      obtain ⟨hr, hl4, hd4⟩ := fin none h3
      exact ⟨_, _, hr, .inl ⟨rfl, ⟨hI _ _ _ hi3 (below_put W3 (by omega)), hl4, hd4⟩, (hap.trans (h3.wider (Nat.le_refl _) (by omega))).trans (Apart.put W3 (by omega) (by omega))⟩⟩
    | ret =>
      obtain ⟨h3, hi3⟩ := hp
      obtain ⟨hr, hl4, hd4⟩ := fin (some .ret) h3
      exact ⟨_, _, hr, .inr ⟨rfl, hIx _ _ _ hi3 (below_put W3 (by omega)), hl4, hd4⟩⟩
    | exit _ => exact hp.elim
    | goto _ => exact hp.elim
    | panic _ => exact hp.elim
    | outgrown => exact hp.elim
  · rintro e W2 ⟨⟨v, rfl⟩, (⟨hi, hl, hd⟩ | ⟨k, hk, hi, hl, hd⟩)⟩
    · exact ⟨none, _, by have := run_endLoop (P := P) hl (by rw [hR]; simp); rw [hR] at this; exact this, by rw [hD]; exact hdone _ (hI _ _ _ hi (below_put W2 (by omega))) ((World.putObj_heap_other (by omega)).trans hd)⟩
    · exact ⟨some .ret, _, by have := run_endLoop (P := P) hl (by rw [hR]; simp); rw [hR] at this; exact this, by rw [hD]; exact hstop k _ hk (hIx _ _ _ hi (below_put W2 (by omega))) ((World.putObj_heap_other (by omega)).trans hd)⟩
end
end Go.Proofs.Ytffaggiblglcbaa

/-
  The program's 'levels': what its iterator gives.
-/
namespace Go.Proofs.Ytffaggiblglcbaa
open Go.RowKit Go.Shelf

attribute [local go_sem] Oper.semAt_some

def Least (Q : Nat → Prop) (n : Nat) : Prop := Q n ∧ ∀ m, Q m → n ≤ m
theorem least_ex {Q : Nat → Prop} (h : ∃ n, Q n) : ∃ n, Least Q n := by
  obtain ⟨n, hn⟩ := h
  induction n using Nat.strongRecOn with
  | _ n ih =>
    by_cases h : ∃ m, m < n ∧ Q m
    · obtain ⟨m, hm, hq⟩ := h
      exact ih m hm hq
    · exact ⟨n, hn, fun m hm => Nat.le_of_not_lt fun hlt => h ⟨m, hlt, hm⟩⟩
theorem least_at {Q : Nat → Prop} {m : Nat} (h : Q m) : Least Q (Classical.epsilon (Least Q)) := Classical.epsilon_spec (least_ex ⟨m, h⟩)

/-- what is known of the k-th value -/
def LevRd (w0 : World) (t : Ty) (B k : Nat) (v : Value) (w : World) : Prop := ∃ A c, v = .slice A (lev [t] k).length c ∧ (∀ b ∈ blk A, B ≤ b) ∧ RowL w0 w A (lev [t] k)
theorem addr_block (a : Addr) (j : Nat) : (a.add j).block = a.block := by unfold Addr.add; split <;> rfl
theorem RowL.apart {w0 a b : World} {A : Option Addr} {ks : List Ty} {lo hi : Nat} (h : RowL w0 a A ks) (hA : ∀ b ∈ blk A, hi ≤ b) (k : Apart lo hi a b) : RowL w0 b A ks := by
  obtain ⟨xs, h1, h2, h3⟩ := h
  refine ⟨xs, h1, fun j u hj => ?_, h3⟩
  obtain ⟨ad, rfl, hc⟩ := h2 j u hj
  refine ⟨ad, rfl, (World.cell?_of_block (k.block _ (World.block_lt_of_cell? _ _ hc) (.inr ?_))).trans hc⟩
  rw [addr_block]
  exact hA _ (by simp [blk])
theorem LevRd.apart {w0 a b : World} {t : Ty} {lo B k : Nat} {v : Value} (h : LevRd w0 t B k v a) (hk : Apart lo B a b) : LevRd w0 t B k v b := by
  obtain ⟨A, c, rfl, h1, h2⟩ := h
  exact ⟨A, c, rfl, h1, h2.apart h1 hk⟩

/-- what the loop of levels keeps -/
def LevInv (w0 : World) (t : Ty) (B : Nat) (J : Nat → World → Prop) (k : Nat) (p : Value) (wr : World) : Prop :=
  k ≤ t.deep ∧ LevRd w0 t B k p wr ∧ Below w0.heap.size w0 wr ∧ B ≤ wr.heap.size ∧ J k wr

set_option maxRecDepth 100000 in
set_option maxHeartbeats 2000000 in
theorem levels1_gives (w0 : World) (t : Ty) (c0 c1 c2 : Value) (hr : RTy w0 t [c0, c1, c2]) (hs : t.size ≤ 1048577) (n Bx : Nat) (hn : 2 ≤ n) (W : World) (hw : Below w0.heap.size w0 W) (hbox : Box3 W Bx 27 c0 c1 c2) :
    Gives Fence.wide n Try.prog 83 #[.pointer (some ⟨Bx, 0, none⟩)] t.deep (LevRd w0 t W.heap.size) w0.heap.size W := by
  intro l J Jx hJ hY h0
  have x0 := hbox.c0
  have x1 := hbox.c1
  have x2 := hbox.c2
  have h1 : 1 ≤ n := by omega
  refine callsIn_of_wp Try.func83 rfl trivial ?_ rfl
  simp only [Try.ntmps83, List.size_toArray, List.length_cons, List.length_nil, Nat.reduceAdd, Nat.reduceSub, Array.replicate_succ, Array.replicate_zero, List.push_toArray, List.append_toArray, List.nil_append, List.cons_append]
  have H0 : Hid (LevInv w0 t W.heap.size J 0 (.slice (some ⟨W.heap.size, 0, none⟩) 1 1) (W.alloc (.cells #[c0, c1, c2] 27))) := by
    refine ⟨Nat.zero_le _, ⟨_, 1, rfl, by simp [blk], [c0, c1, c2], rfl, ?_, ?_⟩, hw.alloc hw.size _, by simp, hJ _ _ _ h0 ((Below.refl _ _).alloc (Nat.le_refl _) _)⟩
    · intro j u hj
      match j, hj with
      | 0, hj => simp at hj; subst hj; exact ⟨_, rfl, by simp [Addr.add]⟩
      | 1, hj => simp at hj; subst hj; exact ⟨_, rfl, by simp [Addr.add]⟩
      | 2, hj => simp at hj; subst hj; exact ⟨_, rfl, by simp [Addr.add]⟩
      | j + 3, hj => simp at hj
    · intro j s hj
      match j, hj with
      | 0, hj =>
        have e : t = s := by simpa [lev] using hj
        subst e
        exact hr
      | j + 1, hj => simp [lev] at hj
  have HS := Lib.hid hs
  have HJ := Lib.hid hJ
  have HY := Lib.hid hY
  clear hs hJ hY h0 hr
  gi_wp2
  gi_loopw [3] (fun p wr => ∃ k, LevInv w0 t W.heap.size J k p wr) (fun p wr => Classical.epsilon (Least fun m => ∃ k, LevInv w0 t W.heap.size J k p wr ∧ m = t.deep - k))
  case atStart => exact ⟨0, H0.out⟩
  case round =>
    obtain ⟨p, hp0⟩ : ∃ p, u3 = p := ⟨_, rfl⟩
    rw [hp0] at hrel ⊢
    obtain ⟨k0, hk0⟩ := hrel
    have hle := least_at (Q := fun m => ∃ k, LevInv w0 t W.heap.size J k p wr ∧ m = t.deep - k) ⟨k0, hk0, rfl⟩
    obtain ⟨μ, hμ⟩ : ∃ μ, Classical.epsilon (Least fun m => ∃ k, LevInv w0 t W.heap.size J k p wr ∧ m = t.deep - k) = μ := ⟨_, rfl⟩
    rw [hμ] at hle
    obtain ⟨⟨k, ⟨hk, ⟨A, c, rfl, hA, hrow⟩, hb, hB, hJk⟩, hmu⟩, _⟩ := hle
    clear hk0 k0
    have HMU := Lib.hid hμ
    have HME := Lib.hid hmu
    clear hμ hmu
    by_cases hlt : k < t.deep
    · have hp := lev_pos hlt
      have hyy := HY.out k (.slice A (lev [t] k).length c) wr hlt hJk ⟨A, c, rfl, hA, hrow⟩
      obtain ⟨fn, tmps, assign, body, hy, hR⟩ := hyy
      have HN : Hid (∀ W3, Apart w0.heap.size W.heap.size wr W3 → J (k + 1) W3 → Calls Try.prog 31 #[.slice A (lev [t] k).length c] W3 (fun e w' => ∃ p', e = .returned p' ∧ LevInv w0 t W.heap.size J (k + 1) p' w')) := by
        intro W3 hap hj3
        have hb3 := hb.trans (hap.below hb.size)
        refine (args_any w0 (lev [t] k) W3 A c (hrow.apart hA hap) hb3 (Nat.le_trans (lev_sizes t k) HS.out)).mono ?_
        rintro e w' ⟨A', c', rfl, hr', hA', hb'⟩
        have hs3 := hap.size
        exact ⟨_, rfl, hlt, ⟨A', c', rfl, fun b hm => by have := hA' b hm; omega, hr'⟩, hb3.trans (hb'.mono hb3.size), by have := hb'.size; omega, HJ.out _ _ _ hj3 (hb'.mono (by omega))⟩
      clear hrow hb hJk
      generalize (lev [t] k).length = m at hp hy HN HMU ⊢
      gi_wp2
      refine hR.mono ?_
      rintro e W3 (⟨rfl, hJ3, hk3⟩ | ⟨rfl, hJx3⟩)
      · have HC := Lib.hid (HN.out W3 hk3 hJ3)
        clear hJ3 hk3
        gi_wp2_with (refine ⟨trivial, ?_⟩; gi_at_call 31; refine (callsIn_wide.2 HC.out).mono ?_; rintro e W4 ⟨p4, rfl, h4⟩; have H4 := Lib.hid h4; clear h4)
        go_roundw
        case rel => exact ⟨k + 1, H4.out⟩
        case measure =>
          rw [HMU.out]
          have h5 := (least_at (Q := fun m => ∃ k, LevInv w0 t W.heap.size J k p4 W4 ∧ m = t.deep - k) ⟨k + 1, H4.out, rfl⟩).2 _ ⟨k + 1, H4.out, rfl⟩
          have := HME.out
          omega
      · gi_wp2
        refine bodyPost_ret (results_none rfl _ _ _) rfl ?_
        exact ⟨⟨_, rfl⟩, .inr ⟨k + 1, hlt, hJx3⟩⟩
    · have he : k = t.deep := by omega
      rw [he] at hJk ⊢
      rw [lev_end (Nat.le_refl _)]
      gi_wp2
      go_end0
      exact ⟨⟨_, rfl⟩, .inl hJk⟩
end Go.Proofs.Ytffaggiblglcbaa

/-
  The program's SizeOfType and DepthOfType.
-/
namespace Go.Proofs.Ytffaggiblglcbaa
open Go.RowKit Go.Shelf

attribute [local go_sem] Oper.semAt_some

def FnAt (p : Nat) (c0 c1 c2 : Value) (w : World) (e : Ending) (w' : World) : Prop := e = .returned (.func (.func 83) #[] #[.pointer (some ⟨p, 0, none⟩)]) ∧ w' = w.alloc (.cells #[c0, c1, c2] 27)
theorem levels_any (w : World) (c0 c1 c2 : Value) : Calls Try.prog 76 #[.agg #[c0, c1, c2]] w (FnAt w.heap.size c0 c1 c2 w) := by
  have hR : Hid (FnAt w.heap.size c0 c1 c2 w (.returned (.func (.func 83) #[] #[.pointer (some ⟨w.heap.size, 0, none⟩)])) (w.alloc (.cells #[c0, c1, c2] 27))) := ⟨rfl, rfl⟩
  go_enter Try.func76, Try.ntmps76
  go_wp2_with fail
  go_ret
  exact hR.out

/-- a variable holds a number; what was there is as it was -/
def CountI (w : World) (B : Nat) (q : Nat) (W : World) : Prop := Boxed W B 3 (.int .i64 (q : Int)) ∧ Below w.heap.size w W
theorem boxed_below {A C : World} {B D : Nat} {ty : TypeId} {v : Value} (h : Boxed A B ty v) (hb : Below D A C) (hB : B < D) : Boxed C B ty v := (hb.block B hB).trans h
theorem CountI.under {w A C : World} {B q D : Nat} (h : CountI w B q A) (hb : Below D A C) (hB : B < D) (hw : w.heap.size ≤ D) : CountI w B q C :=
  ⟨boxed_below h.1 hb hB, h.2.trans (hb.mono hw)⟩
theorem CountI.set {w W : World} {B q m : Nat} (h : CountI w B q W) (hB : w.heap.size ≤ B) : CountI w B m (W.setCell ⟨B, 0, none⟩ (.int .i64 (m : Int))) :=
  ⟨h.1.set _, h.2.setCell (p := ⟨B, 0, none⟩) hB _⟩

end Go.Proofs.Ytffaggiblglcbaa
