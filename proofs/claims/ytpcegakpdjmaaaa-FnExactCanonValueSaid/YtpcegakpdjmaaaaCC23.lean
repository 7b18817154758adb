/-
  Merged by program: BackV.
-/
import Derived.Test.YtpcegakpdjmaaaaCC22

/-
  A range over the library's slices.Backward, at a list of lists of values: two loop variables; the body goes on.
-/
namespace Go.Proofs.Ytpcegakpdjmaaaa
open Go.RowKit Go.Shelf

/-- the iterator's contract: the elements from the last to the first; what it reads is there at each of them -/
def GivesB (N : Fence) (n : Nat) (P : Program) (g : Nat) (lb : Array Value) (n0 : Nat) (vs : Nat → Value) (Rd : World → Prop) (W : World) : Prop :=
  ∀ (l : Nat) (J : Nat → World → Prop), (∀ k W1, J k W1 → Rd W1) → (∀ k W1, k < n0 → J (k + 1) W1 → YieldAt N (n - 1) P l #[.int .i64 (k : Int), vs k] W1 fun e W' => e = .returned (.bool true) ∧ J k W') →
    J n0 W → CallsIn N n P g (#[.func (.yield l) #[] #[]] ++ lb) W fun e W' => (∃ v, e = .returned v) ∧ J 0 W'

/-- how a round's body is left -/
def givesPostB (D : Nat) (I : World → Prop) (W : World) : Exit → Act → World → Prop
  | .normal, _, W' => Held (fun i => i = D ∨ i = D + 1) W W' ∧ I W'
  | .ret, _, _ => False
  | .exit _, _, _ => False
  | .goto _, _, _ => False
  | .panic _, _, _ => False
  | .outgrown, _, _ => False

section
variable {N : Fence} {n : Nat} {P : Program}
theorem wpIn_givesB {g : Operand} {p0 p1 : Tmp} {assign body : Code} {Q : Exit → Act → World → Prop} {a : Act} {w : World}
    (hro : N.round = none) (h1 : 1 ≤ n) {gf : Nat} {lb : Array Value} (hg : a.eval g = .func (.func gf) #[] lb) (hFg : N.fn gf) (eg : ∀ args w, (callFunc gf args).run P w = .ok (.enter gf args) w)
    {n0 : Nat} {vs : Nat → Value} {Rd : World → Prop}
    (hgives : ∀ W, Below w.heap.size w W → W.heap.size = w.heap.size + 2 → GivesB N (n - 1) P gf lb n0 vs Rd W)
    (I : Nat → World → Prop) (hI : ∀ k A C, I k A → Held (fun i => i ≠ w.heap.size ∧ i ≠ w.heap.size + 1) A C → I k C) (hRd : ∀ k A, I k A → Rd A) (h0 : I n0 w) (a₁ : Nat → Value → Act)
    (hassign : ∀ (l k : Nat) (v : Value) (W : World) (K : Act → World → Prop), K (a₁ k v) W →
      assign.wpIn (N.inRound l) (n - 1 - 1) P (Exit.then K (fun _ _ _ => False)) { tmps := (a.tmps.setIfInBounds p0 (.int .i64 (k : Int))).setIfInBounds p1 v, defers := [] } W)
    (hbody : ∀ (l k : Nat) (W : World), k < n0 → I (k + 1) W → w.heap.size + 2 ≤ W.heap.size → body.wpIn (N.inRound l) (n - 1 - 1) P (givesPostB w.heap.size (I k) W) (a₁ k (vs k)) W)
    (hdone : ∀ W, I 0 W → W.heap[w.heap.size]? = some (.deferred (some [])) → Q .normal { a with defers := { target := .collected w.heap.size, args := #[] } :: a.defers } W) :
    (Code.rangeFunc g #[p0, p1] assign body).wpIn N n P Q a w := by
  refine wpIn_rangeFunc ?_
  intro fn hfn
  rw [hro]
  obtain ⟨R, hR⟩ : ∃ R : LoopState → Option Code → Loop, R = fun st pe => { state := st, pending := pe, fn, tmps := a.tmps, params := #[p0, p1], assign, body, defers := w.heap.size } := ⟨_, rfl⟩
  obtain ⟨D, hD⟩ : ∃ D, w.heap.size = D := ⟨_, rfl⟩
  obtain ⟨W1, hW1⟩ : ∃ W1, (w.alloc (.deferred (some []))).alloc (.loop (R .ready none)) = W1 := ⟨_, rfl⟩
  have hb1 : Below D w W1 := by rw [← hW1, ← hD]; exact ((Below.refl _ w).alloc (Nat.le_refl _) _).alloc (by simp) _
  have hz1 : W1.heap.size = D + 2 := by rw [← hW1, ← hD]; simp
  have hrec : W1.heap[D + 1]? = some (.loop (R .ready none)) := by
    rw [← hW1, ← hD]; have := World.alloc_heap_new (w.alloc (.deferred (some []))) (.loop (R .ready none)); rwa [World.size_alloc] at this
  have hdef : W1.heap[D]? = some (.deferred (some [])) := by
    rw [← hW1, ← hD]; exact (Below.heap_alloc _ _ _ (by simp)).trans (World.alloc_heap_new w _)
  have hGV := hgives W1 (by rw [hD]; exact hb1) (by rw [hD]; exact hz1)
  have hent := run_enterLoop_outer (P := P) (w := w) fn a.tmps #[p0, p1] assign body
  have hRe : (.loop { state := .ready, pending := none, fn, tmps := a.tmps, params := #[p0, p1], assign, body, defers := w.heap.size } : Obj) = .loop (R .ready none) := by rw [hR]
  rw [hRe, hW1, hD] at hent
  rw [hD] at hI hbody hdone
  refine ⟨D + 1, [{ target := .collected D, args := #[] }], W1, { target := .fn (.func gf) lb, args := #[.func (.yield (D + 1)) #[] #[]] }, W1, gf, #[.func (.yield (D + 1)) #[] #[]] ++ lb, W1, hent, ?_, ?_, ?_, fun _ => h1, ?_⟩
  · simp only [resolve, hg]
    simp [go_sem]
  · intro f' hf'; simp [Target.leads] at hf'; subst hf'; exact hFg
  · simp [invoke, go_sem, eg]
  obtain ⟨J, hJd⟩ : ∃ J : Nat → World → Prop, J = fun k W => D + 2 ≤ W.heap.size ∧ I k W ∧ W.heap[D + 1]? = some (.loop (R .ready none)) ∧ W.heap[D]? = some (.deferred (some [])) := ⟨_, rfl⟩
  refine (hGV (D + 1) J ?_ ?_ ?_).mono ?_
  · rw [hJd]
    rintro k W ⟨_, hi, _⟩
    exact hRd _ _ hi
  · rw [hJd]
    rintro k W hk ⟨hz, hi, hl, hd⟩
    have hlt : D + 1 < W.heap.size := by omega
    have hy : (Instr.yield (D + 1) #[.int .i64 (k : Int), vs k]).run P W = .ok (.round (D + 1) fn ((a.tmps.setIfInBounds p0 (.int .i64 (k : Int))).setIfInBounds p1 (vs k)) assign body) W := by
      rw [run_yield (P := P) (args := #[.int .i64 (k : Int), vs k]) hl (by rw [hR]; rfl), hR]
      simp
    refine ⟨fn, _, assign, body, hy, roundIn_of_wpIn hfn (hassign _ k (vs k) W _ ?_)⟩
    refine ⟨_, run_beginRound hl (by rw [hR]), ?_⟩
    clear hy
    obtain ⟨W2, hW2⟩ : ∃ W2, W.putObj (D + 1) (.loop { R .ready none with state := .busy }) = W2 := ⟨_, rfl⟩
    have hl2 : W2.heap[D + 1]? = some (.loop { R .ready none with state := .busy }) := by rw [← hW2]; exact World.putObj_heap_same hlt
    have hd2 : W2.heap[D]? = some (.deferred (some [])) := by rw [← hW2]; exact (World.putObj_heap_other (by omega)).trans hd
    have hz2 : W2.heap.size = W.heap.size := by rw [← hW2]; simp
    have hap : Held (fun i => i ≠ D ∧ i ≠ D + 1) W W2 := by rw [← hW2]; exact Held.put W (fun h => h.2 rfl)
    rw [hW2]
    refine wpIn_mono (hbody _ k W2 hk (hI _ _ _ hi hap) (by omega)) ?_
    rintro e a3 W3 hp
    cases e with
    | normal =>
      obtain ⟨h3, hi3⟩ := hp
      have hl3 := (h3.block (D + 1) (by omega) (.inr rfl)).trans hl2
      have hd3 := (h3.block D (by omega) (.inl rfl)).trans hd2
      have hr3 := run_endRound (P := P) none hl3
      rw [hR] at hr3
      have hlt3 : D + 1 < W3.heap.size := (Array.getElem?_eq_some_iff.1 hl3).1
      have hput : Held (fun i => i ≠ D ∧ i ≠ D + 1) W3 (W3.putObj (D + 1) (.loop (R .ready none))) := Held.put W3 (fun h => h.2 rfl)
      rw [hR] at hput
      refine ⟨_, _, hr3, rfl, ?_, hI _ _ _ hi3 hput, ?_, (World.putObj_heap_other (by omega)).trans hd3⟩
      · simp; omega
      · rw [hR]; exact World.putObj_heap_same hlt3
    | ret => exact hp.elim
    | exit _ => exact hp.elim
    | goto _ => exact hp.elim
    | panic _ => exact hp.elim
    | outgrown => exact hp.elim
  · rw [hJd]
    exact ⟨by omega, hI _ _ _ h0 (Held.of_below hb1 (fun i hi _ => by omega)), hrec, hdef⟩
  · rw [hJd]
    rintro e W2 ⟨⟨v, rfl⟩, hz, hi, hl, hd⟩
    exact ⟨none, _, by have := run_endLoop (P := P) hl (by rw [hR]; simp); rw [hR] at this; exact this, by rw [hD]; exact hdone _ (hI _ _ _ hi (Held.put W2 (fun h => h.2 rfl))) ((World.putObj_heap_other (by omega)).trans hd)⟩
end

def FnAtB (p : Nat) (s : Value) (w : World) (e : Ending) (w' : World) : Prop := e = .returned (.func (.func 75) #[] #[.pointer (some ⟨p, 0, none⟩)]) ∧ w' = w.alloc (.cells #[s] 69)
theorem backward_any (w : World) (A : Option Addr) (n c : Nat) : Calls Try.prog 50 #[.slice A n c] w (FnAtB w.heap.size (.slice A n c) w) := by
  have HR : Hid (FnAtB w.heap.size (.slice A n c) w (.returned (.func (.func 75) #[] #[.pointer (some ⟨w.heap.size, 0, none⟩)])) (w.alloc (.cells #[.slice A n c] 69))) := ⟨rfl, rfl⟩
  go_enter Try.func50, Try.ntmps50
  go_wp2_with fail
  go_ret
  exact HR.out

/-- what the iterator reads -/
def RdB (Bx : Nat) (V : Option Addr) (c : Nat) (B : List Value) (W : World) : Prop := Boxed W Bx 69 (.slice V B.length c) ∧ W.ownsRow 0 28 1 (.slice V B.length c) B.length B

set_option maxRecDepth 100000 in
set_option maxHeartbeats 2000000 in
theorem backward1_gives (n Bx : Nat) (hn : 2 ≤ n) (V : Option Addr) (c : Nat) (B : List Value) (hB : B.length ≤ 1048577) (W : World) :
    GivesB Fence.wide n Try.prog 75 #[.pointer (some ⟨Bx, 0, none⟩)] B.length (fun k => B.getD k undef) (RdB Bx V c B) W := by
  intro l J hRd hY h0
  have h1 : 1 ≤ n := by omega
  obtain ⟨m, hm⟩ : ∃ m, B.length = m := ⟨_, rfl⟩
  have hbox := (hRd _ _ h0).1
  have x0 := hbox.cell
  rw [hm] at x0 hB hY h0
  refine callsIn_of_wp Try.func75 rfl trivial ?_ rfl
  simp only [Try.ntmps75, List.size_toArray, List.length_cons, List.length_nil, Nat.reduceAdd, Nat.reduceSub, Array.replicate_succ, Array.replicate_zero, List.push_toArray, List.append_toArray, List.nil_append, List.cons_append]
  have HRD := Lib.hid hRd
  have HY := Lib.hid hY
  have H0 := Lib.hid h0
  have HM := Lib.hid hm
  clear hRd hY h0 hbox hm
  gi_wp2
  gi_loopw [3] (fun i wr => ∃ k : Nat, k ≤ m ∧ i = .int .i64 ((k : Int) - 1) ∧ J k wr) (fun i _ => (intOf i + 1).toNat)
  case atStart => exact ⟨m, Nat.le_refl _, by go_num, H0.out⟩
  case round =>
    obtain ⟨k, hk, rfl, hj⟩ := hrel
    clear x0
    match k, hk, hj with
    | 0, _, hj =>
      have HJ := Lib.hid hj
      clear hj
      gi_wp2
      go_end0
      exact ⟨⟨_, rfl⟩, HJ.out⟩
    | k + 1, hk, hj =>
      obtain ⟨hbx, hrow⟩ := HRD.out _ _ hj
      have hkl : k < B.length := by rw [HM.out]; omega
      obtain ⟨g, rfl⟩ := own_some hrow (by omega)
      have x0 := hbx.cell
      have y0 : wr.cell? ⟨g, k, none⟩ = some (B.getD k undef) := by
        rw [hrow.cellAt k (by omega), List.getElem?_eq_getElem hkl, List.getD_eq_getElem?_getD, List.getElem?_eq_getElem hkl, Option.getD_some]
      have e1 : (((k + 1 : Nat) : Int) - 1) = (k : Int) := by omega
      rw [HM.out] at x0
      have HYS := HY.out k wr (by omega) hj
      obtain ⟨fn, tmps, assign, body, hy, hR⟩ := HYS
      clear hbx hrow hj
      rw [e1]
      generalize B.getD k undef = bv at y0 hy hR ⊢
      gi_wp2
      refine hR.mono ?_
      rintro e W3 ⟨rfl, hj3⟩
      have HJ3 := Lib.hid hj3
      clear hj3 hR x0 y0
      gi_wp2
      go_roundw
      case rel => exact ⟨k, by omega, by go_num, HJ3.out⟩
      case measure => simp [intOf]
end Go.Proofs.Ytpcegakpdjmaaaa
