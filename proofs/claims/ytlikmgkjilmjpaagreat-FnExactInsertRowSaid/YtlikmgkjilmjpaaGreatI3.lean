/-
  Merged by program: Seq, Held, TySz, Box.
-/
import Derived.RangeFuncNested
import Derived.RangeFuncBound
import Derived.RangeFuncCalls
import Derived.RangeFuncLeaves
import Derived.Below
import Derived.Test.YtlikmgkjilmjpaaGreatI1
import Derived.Laws.Rows

/-
  A range over a function, where the iterator gives a value at each round of which something is known in that round's world, and reads memory of its own between two rounds. Hangs on no program.
-/
namespace Go.Proofs.YtlikmgkjilmjpaaGreat
open Go.RowKit

/-- outside of the blocks from lo to hi the world is as it was -/
structure Apart (lo hi : Nat) (w w' : World) : Prop where
  os : w'.os = w.os
  tape : w'.tape = w.tape
  output : w'.output = w.output
  size : w.heap.size ≤ w'.heap.size
  block : ∀ i, i < w.heap.size → (i < lo ∨ hi ≤ i) → w'.heap[i]? = w.heap[i]?
section
variable {lo hi : Nat} {a b c : World}
theorem Apart.refl (lo hi : Nat) (w : World) : Apart lo hi w w := ⟨rfl, rfl, rfl, Nat.le_refl _, fun _ _ _ => rfl⟩
theorem Apart.trans (h : Apart lo hi a b) (k : Apart lo hi b c) : Apart lo hi a c :=
  ⟨k.os.trans h.os, k.tape.trans h.tape, k.output.trans h.output, Nat.le_trans h.size k.size, fun i hi' hd => (k.block i (Nat.lt_of_lt_of_le hi' h.size) hd).trans (h.block i hi' hd)⟩
theorem Apart.wider {lo' hi' : Nat} (h : Apart lo hi a b) (h1 : lo' ≤ lo) (h2 : hi ≤ hi') : Apart lo' hi' a b :=
  ⟨h.os, h.tape, h.output, h.size, fun i hi' hd => h.block i hi' (by omega)⟩
theorem Apart.of_below (h : Below a.heap.size a b) : Apart lo hi a b := ⟨h.os, h.tape, h.output, h.size, fun i hi' _ => h.block i hi'⟩
theorem Apart.below (h : Apart lo hi a b) (hl : lo ≤ a.heap.size) : Below lo a b := ⟨h.os, h.tape, h.output, h.size, fun i hi' => h.block i (by omega) (.inl hi')⟩
theorem Apart.put (w : World) {l : Nat} {o : Obj} (h1 : lo ≤ l) (h2 : l < hi) : Apart lo hi w (w.putObj l o) :=
  ⟨rfl, rfl, rfl, by simp, fun i _ hd => World.putObj_heap_other (by omega)⟩
theorem Apart.set (w : World) {p : Addr} (h1 : lo ≤ p.block) (h2 : p.block < hi) (u : Value) : Apart lo hi w (w.setCell p u) :=
  ⟨rfl, rfl, rfl, by simp [World.setCell], fun i _ hd => Below.heap_setCell _ _ _ _ (by omega)⟩
end
theorem below_put {B : Nat} (w : World) {l : Nat} {o : Obj} (h : B ≤ l) : Below B w (w.putObj l o) :=
  ⟨rfl, rfl, rfl, by simp, fun k hk => World.putObj_heap_other (by omega)⟩

/-- the iterator's contract: N values, of the k-th of which Rd k says what is known -/
def Gives (F : Fence) (n : Nat) (P : Program) (g : Nat) (lb : Array Value) (N : Nat) (Rd : Nat → Value → World → Prop) (lo : Nat) (W : World) : Prop :=
  ∀ (l : Nat) (J Jx : Nat → World → Prop), (∀ k A C, J k A → Below W.heap.size A C → J k C) →
    (∀ k v W1, k < N → J k W1 → Rd k v W1 → YieldAt F (n - 1) P l #[v] W1 fun e W' =>
      (e = .returned (.bool true) ∧ J (k + 1) W' ∧ Apart lo W.heap.size W1 W') ∨ (e = .returned (.bool false) ∧ Jx (k + 1) W')) →
    J 0 W → CallsIn F n P g (#[.func (.yield l) #[] #[]] ++ lb) W fun e W' => (∃ v, e = .returned v) ∧ (J N W' ∨ ∃ k, k ≤ N ∧ Jx k W')

/-- how a round's body is left -/
def givesPost (lo D : Nat) (I Ix : Nat → World → Prop) (k : Nat) (W : World) : Exit → Act → World → Prop
  | .normal, _, W' => Apart lo D W W' ∧ I (k + 1) W'
  | .ret, _, W' => Apart lo D W W' ∧ Ix (k + 1) W'
  | .exit _, _, _ => False
  | .goto _, _, _ => False
  | .panic _, _, _ => False
  | .outgrown, _, _ => False

section
variable {F : Fence} {n : Nat} {P : Program}
theorem wpIn_gives {g : Operand} {p0 : Tmp} {assign body : Code} {Q : Exit → Act → World → Prop} {a : Act} {w : World}
    (hro : F.round = none) (h1 : 1 ≤ n) {gf : Nat} {lb : Array Value} (hg : a.eval g = .func (.func gf) #[] lb) (hFg : F.fn gf) (eg : ∀ args w, (callFunc gf args).run P w = .ok (.enter gf args) w)
    {N : Nat} {Rd : Nat → Value → World → Prop} {lo : Nat} (hlo : lo ≤ w.heap.size)
    (hgives : ∀ W, Below w.heap.size w W → W.heap.size = w.heap.size + 2 → Gives F (n - 1) P gf lb N Rd lo W)
    (hRd : ∀ k v A C, Rd k v A → Apart lo (w.heap.size + 2) A C → Rd k v C)
    (I Ix : Nat → World → Prop) (hI : ∀ k A C, I k A → Below w.heap.size A C → I k C) (hIx : ∀ k A C, Ix k A → Below w.heap.size A C → Ix k C) (h0 : I 0 w) (a₁ : Value → Act)
    (hassign : ∀ (l : Nat) (v : Value) (W : World) (K : Act → World → Prop), K (a₁ v) W →
      assign.wpIn (F.inRound l) (n - 1 - 1) P (Exit.then K (fun _ _ _ => False)) { tmps := a.tmps.setIfInBounds p0 v, defers := [] } W)
    (hbody : ∀ (l k : Nat) (v : Value) (W : World), k < N → I k W → Rd k v W → body.wpIn (F.inRound l) (n - 1 - 1) P (givesPost lo w.heap.size I Ix k W) (a₁ v) W)
    (hdone : ∀ W, I N W → W.heap[w.heap.size]? = some (.deferred (some [])) → Q .normal { a with defers := { target := .collected w.heap.size, args := #[] } :: a.defers } W)
    (hstop : ∀ k W, k ≤ N → Ix k W → W.heap[w.heap.size]? = some (.deferred (some [])) → Code.ret.wpIn F n P Q { a with defers := { target := .collected w.heap.size, args := #[] } :: a.defers } W) :
    (Code.rangeFunc g #[p0] assign body).wpIn F n P Q a w := by
  refine wpIn_rangeFunc ?_
  intro fn hfn
  rw [hro]
  -- the loop's record, in each of its states
  obtain ⟨R, hR⟩ : ∃ R : LoopState → Option Code → Loop, R = fun st pe => { state := st, pending := pe, fn, tmps := a.tmps, params := #[p0], assign, body, defers := w.heap.size } := ⟨_, rfl⟩
  obtain ⟨D, hD⟩ : ∃ D, w.heap.size = D := ⟨_, rfl⟩
  obtain ⟨W1, hW1⟩ : ∃ W1, (w.alloc (.deferred (some []))).alloc (.loop (R .ready none)) = W1 := ⟨_, rfl⟩
  have hb1 : Below D w W1 := by rw [← hW1, ← hD]; exact ((Below.refl _ w).alloc (Nat.le_refl _) _).alloc (by simp) _
  have hz1 : W1.heap.size = D + 2 := by rw [← hW1, ← hD]; simp
  have hrec : W1.heap[D + 1]? = some (.loop (R .ready none)) := by
    rw [← hW1, ← hD]; have := World.alloc_heap_new (w.alloc (.deferred (some []))) (.loop (R .ready none)); rwa [World.size_alloc] at this
  have hdef : W1.heap[D]? = some (.deferred (some [])) := by
    rw [← hW1, ← hD]; exact (Below.heap_alloc _ _ _ (by simp)).trans (World.alloc_heap_new w _)
  have hGV := hgives W1 (by rw [hD]; exact hb1) (by rw [hD]; exact hz1)
  have hent := run_enterLoop_outer (P := P) (w := w) fn a.tmps #[p0] assign body
  have hRe : (.loop { state := .ready, pending := none, fn, tmps := a.tmps, params := #[p0], assign, body, defers := w.heap.size } : Obj) = .loop (R .ready none) := by rw [hR]
  rw [hRe, hW1, hD] at hent
  rw [hD] at hlo hI hIx hRd hbody hdone hstop
  refine ⟨D + 1, [{ target := .collected D, args := #[] }], W1, { target := .fn (.func gf) lb, args := #[.func (.yield (D + 1)) #[] #[]] }, W1, gf, #[.func (.yield (D + 1)) #[] #[]] ++ lb, W1, hent, ?_, ?_, ?_, fun _ => h1, ?_⟩
  · simp only [resolve, hg]
    simp [go_sem]
  · intro f' hf'; simp [Target.leads] at hf'; subst hf'; exact hFg
  · simp [invoke, go_sem, eg]
  refine (hGV (D + 1) (fun k W => I k W ∧ W.heap[D + 1]? = some (.loop (R .ready none)) ∧ W.heap[D]? = some (.deferred (some [])))
    (fun k W => Ix k W ∧ W.heap[D + 1]? = some (.loop (R .done (some .ret))) ∧ W.heap[D]? = some (.deferred (some []))) (fun k A C h hb => ?_) ?_ ⟨hI _ _ _ h0 hb1, hrec, hdef⟩).mono ?_
  · rw [hz1] at hb
    exact ⟨hI _ _ _ h.1 (hb.mono (by omega)), (hb.block _ (by omega)).trans h.2.1, (hb.block _ (by omega)).trans h.2.2⟩
  · rintro k v W hk ⟨hi, hl, hd⟩ hrd
    rw [hz1]
    have hlt : D + 1 < W.heap.size := (Array.getElem?_eq_some_iff.1 hl).1
    have hy : (Instr.yield (D + 1) #[v]).run P W = .ok (.round (D + 1) fn (a.tmps.setIfInBounds p0 v) assign body) W := by
      rw [run_yield (P := P) (args := #[v]) hl (by rw [hR]; rfl), hR]
      simp
    refine ⟨fn, _, assign, body, hy, roundIn_of_wpIn hfn (hassign _ v W _ ?_)⟩
    refine ⟨_, run_beginRound hl (by rw [hR]), ?_⟩
    clear hy
    obtain ⟨W2, hW2⟩ : ∃ W2, W.putObj (D + 1) (.loop { R .ready none with state := .busy }) = W2 := ⟨_, rfl⟩
    have hl2 : W2.heap[D + 1]? = some (.loop { R .ready none with state := .busy }) := by rw [← hW2]; exact World.putObj_heap_same hlt
    have hd2 : W2.heap[D]? = some (.deferred (some [])) := by rw [← hW2]; exact (World.putObj_heap_other (by omega)).trans hd
    have hap : Apart lo (D + 2) W W2 := by rw [← hW2]; exact Apart.put W (by omega) (by omega)
    have hbe : Below D W W2 := by rw [← hW2]; exact below_put W (by omega)
    rw [hW2]
    refine wpIn_mono (hbody _ k v W2 hk (hI _ _ _ hi hbe) (hRd _ _ _ _ hrd hap)) ?_
    rintro e a3 W3 hp
    have fin : ∀ (jump : Option Code), Apart lo D W2 W3 → (Instr.endRound (D + 1) jump).run P W3 = .ok (.bool jump.isNone) (W3.putObj (D + 1) (.loop (R (if jump.isNone then .ready else .done) jump))) ∧
        (W3.putObj (D + 1) (.loop (R (if jump.isNone then .ready else .done) jump))).heap[D + 1]? = some (.loop (R (if jump.isNone then .ready else .done) jump)) ∧
        (W3.putObj (D + 1) (.loop (R (if jump.isNone then .ready else .done) jump))).heap[D]? = some (.deferred (some [])) := by
      intro jump h3
      have hlt2 : D + 1 < W2.heap.size := (Array.getElem?_eq_some_iff.1 hl2).1
      have hl3 := (h3.block (D + 1) hlt2 (.inr (by omega))).trans hl2
      have hr3 := run_endRound (P := P) jump hl3
      rw [hR] at hr3 ⊢
      exact ⟨hr3, World.putObj_heap_same (Array.getElem?_eq_some_iff.1 hl3).1, (World.putObj_heap_other (by omega)).trans ((h3.block D (by omega) (.inr (Nat.le_refl _))).trans hd2)⟩
    cases e with
    | normal =>
      obtain ⟨h3, hi3⟩ := hp
      obtain ⟨hr, hl4, hd4⟩ := fin none h3
      exact ⟨_, _, hr, .inl ⟨rfl, ⟨hI _ _ _ hi3 (below_put W3 (by omega)), hl4, hd4⟩, (hap.trans (h3.wider (Nat.le_refl _) (by omega))).trans (Apart.put W3 (by omega) (by omega))⟩⟩
    | ret =>
      obtain ⟨h3, hi3⟩ := hp
      obtain ⟨hr, hl4, hd4⟩ := fin (some .ret) h3
      exact ⟨_, _, hr, .inr ⟨rfl, hIx _ _ _ hi3 (below_put W3 (by omega)), hl4, hd4⟩⟩
    | exit _ => exact hp.elim
    | goto _ => exact hp.elim
    | panic _ => exact hp.elim
    | outgrown => exact hp.elim
  · rintro e W2 ⟨⟨v, rfl⟩, (⟨hi, hl, hd⟩ | ⟨k, hk, hi, hl, hd⟩)⟩
    · exact ⟨none, _, by have := run_endLoop (P := P) hl (by rw [hR]; simp); rw [hR] at this; exact this, by rw [hD]; exact hdone _ (hI _ _ _ hi (below_put W2 (by omega))) ((World.putObj_heap_other (by omega)).trans hd)⟩
    · exact ⟨some .ret, _, by have := run_endLoop (P := P) hl (by rw [hR]; simp); rw [hR] at this; exact this, by rw [hD]; exact hstop k _ hk (hIx _ _ _ hi (below_put W2 (by omega))) ((World.putObj_heap_other (by omega)).trans hd)⟩
end
end Go.Proofs.YtlikmgkjilmjpaaGreat

/-
  Worlds in which the blocks of a set are as they were. Hangs on no program.
-/
namespace Go.Proofs.YtlikmgkjilmjpaaGreat
open Go.RowKit

/-- the blocks of which K holds are as they were -/
structure Held (K : Nat → Prop) (w w' : World) : Prop where
  os : w'.os = w.os
  tape : w'.tape = w.tape
  output : w'.output = w.output
  size : w.heap.size ≤ w'.heap.size
  block : ∀ i, i < w.heap.size → K i → w'.heap[i]? = w.heap[i]?
section
variable {K L : Nat → Prop} {a b c : World}
theorem Held.refl (K : Nat → Prop) (w : World) : Held K w w := ⟨rfl, rfl, rfl, Nat.le_refl _, fun _ _ _ => rfl⟩
theorem Held.trans (h : Held K a b) (k : Held K b c) : Held K a c :=
  ⟨k.os.trans h.os, k.tape.trans h.tape, k.output.trans h.output, Nat.le_trans h.size k.size, fun i hi hd => (k.block i (Nat.lt_of_lt_of_le hi h.size) hd).trans (h.block i hi hd)⟩
theorem Held.mono (h : Held K a b) (hk : ∀ i, i < a.heap.size → L i → K i) : Held L a b := ⟨h.os, h.tape, h.output, h.size, fun i hi hd => h.block i hi (hk i hi hd)⟩
theorem Held.of_below {B : Nat} (h : Below B a b) (hk : ∀ i, i < a.heap.size → K i → i < B) : Held K a b := ⟨h.os, h.tape, h.output, h.size, fun i hi hd => h.block i (hk i hi hd)⟩
theorem Held.below {B : Nat} (h : Held K a b) (hB : B ≤ a.heap.size) (hk : ∀ i, i < B → K i) : Below B a b := ⟨h.os, h.tape, h.output, h.size, fun i hi => h.block i (by omega) (hk i hi)⟩
theorem Held.put (w : World) {l : Nat} {o : Obj} (h : ¬ K l) : Held K w (w.putObj l o) :=
  ⟨rfl, rfl, rfl, by simp, fun i _ hd => World.putObj_heap_other (fun e => h (by rw [← e]; exact hd))⟩
theorem Held.set (w : World) {p : Addr} (h : ¬ K p.block) (u : Value) : Held K w (w.setCell p u) :=
  ⟨rfl, rfl, rfl, by simp [World.setCell], fun i _ hd => Below.heap_setCell _ _ _ _ (fun e => h (by rw [← e]; exact hd))⟩
theorem Held.grown {row : Option Nat} (h : a.grownBy b row) (hk : ∀ g, row = some g → ¬ K g) : Held K a b :=
  ⟨h.os, h.tape, h.output, h.size, fun i hi hd => h.block i hi (fun e => hk i e.symm hd)⟩
theorem Held.cell (h : Held K a b) {p : Addr} {u : Value} (hp : K p.block) (hc : a.cell? p = some u) : b.cell? p = some u :=
  (World.cell?_of_block (h.block _ (World.block_lt_of_cell? a _ hc) hp)).trans hc
end
end Go.Proofs.YtlikmgkjilmjpaaGreat

/-
  How great a type is, as the laws reckon it: 'szType', 'szTypeS'.
-/
namespace Go.Proofs.YtlikmgkjilmjpaaGreat
open Go.RowKit

/-- the laws' own types, which mirror the program's -/
def wtA (a : TyA) : Nat := a.labels.length + total a.labels
/-- what a type takes of the laws' bound -/
def wt (t : Ty) : Nat := t.sum (fun a => wtA a + 1) - 1
def wtK (ks : List Ty) : Nat := ks.length + (ks.map wt).sum
theorem wt_pos (t : Ty) : 1 ≤ t.sum (fun a => wtA a + 1) := by
  cases t with
  | node a ks => rw [Tr.sum_node]; omega
theorem wt_sum (ks : List Ty) : (ks.map (Tr.sum fun a => wtA a + 1)).sum = wtK ks := by
  unfold wtK
  induction ks with
  | nil => rfl
  | cons t r ih =>
    have := wt_pos t
    simp only [List.map_cons, List.sum_cons, List.length_cons, ih]
    unfold wt
    omega
theorem wt_node (a : TyA) (ks : List Ty) : wt (.node a ks) = wtA a + wtK ks := by
  unfold wt
  rw [Tr.sum_node, wt_sum]
  omega
theorem sum_le {β : Type} (f g : β → Nat) : ∀ (xs : List β), (∀ x ∈ xs, f x ≤ g x) → (xs.map f).sum ≤ (xs.map g).sum
  | [], _ => by simp
  | x :: r, h => by
    have h1 := h x (by simp)
    have h2 := sum_le f g r (fun y hy => h y (by simp [hy]))
    simp only [List.map_cons, List.sum_cons]
    omega
theorem size_wt (t : Ty) : t.size ≤ wt t + 1 := by
  have : t.size ≤ t.sum (fun a => wtA a + 1) := by
    refine Tr.ind (m := fun t => t.size ≤ t.sum (fun a => wtA a + 1)) (fun a ks ih => ?_) t
    rw [size_node, Tr.sum_node]
    have h := sum_le Tr.size (Tr.sum fun a => wtA a + 1) ks ih
    omega
  unfold wt
  omega

/-- where the answer is not negative, what is left over is the rest -/
def SzT (n : Nat) (left : Int) (w : World) (e : Ending) (w' : World) : Prop := ∃ r : Int, e = .returned (.int .i64 r) ∧ r ≤ left ∧ -1 ≤ r ∧ (0 ≤ r → r + n = left) ∧ Below w.heap.size w w'

def SzK (t : Ty) : Prop := ∀ (w : World) (cs : List Value) (left : Int), RTy w t cs → 0 ≤ left → left ≤ 1048576 → Calls Tryz.prog 66 #[.agg cs.toArray, .int .i64 left] w (SzT (wt t) left w)

set_option maxHeartbeats 800000 in
theorem szTypeS_of (ks : List Ty) (ih : ∀ t ∈ ks, SzK t) (w : World) (A : Option Addr) (d : Nat) (left : Int) (hp : RKids w A ks) (hl : ks.length ≤ 9223372036854775807) (h0 : 0 ≤ left) (h1 : left ≤ 1048576) :
    Calls Tryz.prog 81 #[.slice A ks.length d, .int .i64 left] w (SzT (wtK ks) left w) := by
  have HP := Lib.hid hp
  have HI := Lib.hid ih
  clear hp ih
  by_cases hneg : left - ks.length < 0
  · go_enter Tryz.func81, Tryz.ntmps81
    go_wp2_with fail
    go_ret
    exact ⟨-1, rfl, by omega, by omega, by omega, Below.refl _ _⟩
  · go_enter Tryz.func81, Tryz.ntmps81
    go_wp2_with fail
    go_loopw [1, 5] (fun l i wr => ∃ k : Nat, k ≤ ks.length ∧ i = .int .i64 k ∧ ∃ r : Int, l = .int .i64 r ∧ 0 ≤ r ∧ r + ks.length + ((ks.take k).map wt).sum = left ∧ Below w.heap.size w wr) (fun _ i _ => ks.length - (intOf i).toNat)
    case atStart => exact ⟨0, Nat.zero_le _, rfl, _, rfl, by omega, by simp, Below.refl _ _⟩
    case round =>
      obtain ⟨k, hk, rfl, r, rfl, hr0, hr, hb⟩ := hrel
      have hr1 : r ≤ 1048576 := by omega
      have HR := Lib.hid hr
      clear hr
      by_cases hlt : k < ks.length
      · obtain ⟨ad, p, c0, c1, c2, rfl, hpe, hrt, q0, q1, q2⟩ := kid_at HP.out hb hlt
        have hst := sum_take_succ wt ks k hlt
        have hc := HI.out ks[k] (List.getElem_mem hlt) wr [c0, c1, c2] r hrt hr0 hr1
        obtain ⟨m, hm⟩ : ∃ m, wt ks[k] = m := ⟨_, rfl⟩
        rw [hm] at hst hc
        have HC := Lib.hid hc
        have HST := Lib.hid hst
        clear hc hrt hst hm
        go_wp2_with fail
        refine HC.out.mono ?_
        rintro e w2 ⟨r', rfl, hr2, hr3, hr4, hb2⟩
        have HB3 := Lib.hid (hb.trans (hb2.mono hb.size))
        have HR4 := Lib.hid hr4
        clear hr4 hb2
        by_cases hz : r' < 0
        · go_wp2_with fail
          go_ret
          exact ⟨-1, rfl, by omega, by omega, by omega, HB3.out⟩
        · go_wp2_with fail
          go_roundw
          case rel => exact ⟨k + 1, hlt, by go_num, r', rfl, by omega, by have h1 := HR4.out (by omega); have h2 := HR.out; have h3 := HST.out; omega, HB3.out⟩
          case measure => simp [intOf]; omega
      · have he : k = ks.length := by omega
        have HS : Hid (r + wtK ks = left) := by
          have h := HR.out
          rw [he, List.take_length] at h
          show _ = _
          unfold wtK
          omega
        clear he
        go_wp2_with fail
        go_ret
        exact ⟨r, rfl, by have := HR.out; omega, by omega, fun _ => HS.out, hb⟩

set_option maxHeartbeats 800000 in
theorem szType_any : ∀ t : Ty, SzK t := by
  refine Tr.ind ?_
  intro a ks ih w cs left h h0 h1
  obtain ⟨L, c, A, d, rfl, k1, k2, k3, k4, k5, k6, hp⟩ := h.out
  have HN := Lib.hid (wt_node a ks)
  obtain ⟨W1, hW1⟩ : ∃ W1, w.alloc (.cells #[.int .i64 a.kind, .slice L a.labels.length c, .slice A ks.length d] 86) = W1 := ⟨_, rfl⟩
  have hb0 : Below w.heap.size w W1 := by rw [← hW1]; exact (Below.refl _ _).alloc (Nat.le_refl _) _
  have hbx1 : W1.cell? ⟨w.heap.size, 1, none⟩ = some (.slice L a.labels.length c) := by rw [← hW1]; exact cell_of_row _ _ 1 _ _ _ (heap_alloc_new w _)
  have hbx2 : W1.cell? ⟨w.heap.size, 2, none⟩ = some (.slice A ks.length d) := by rw [← hW1]; exact cell_of_row _ _ 2 _ _ _ (heap_alloc_new w _)
  have HW1 := Lib.hid hW1
  have HP := Lib.hid (hp.keep hb0)
  have HL := Lib.hid (k1.below hb0)
  have HB0 := Lib.hid hb0
  have HI := Lib.hid ih
  have HX := Lib.hid k5
  clear hp ih hb0 hW1 k1 k5 h
  go_enter Tryz.func66, Tryz.ntmps66
  go_wp2_with fail
  rw [HW1.out]
  go_wp2_with fail
  refine (szStringS_any L c a.labels left W1 HL.out k4 HX.out h0 h1).mono ?_
  rintro e w' ⟨r, rfl, hr1, hr2, hr3, rfl⟩
  have HR3 := Lib.hid hr3
  clear hr3
  by_cases hneg : r < 0
  · go_wp2_with fail
    go_ret
    exact ⟨-1, rfl, by omega, by omega, by omega, HB0.out⟩
  · go_wp2_with fail
    refine (szTypeS_of ks HI.out W1 A d r HP.out k6 (by omega) (by omega)).mono ?_
    rintro e w2 ⟨r', rfl, hs1, hs2, hs3, hb2⟩
    have HS3 := Lib.hid hs3
    have HB2 := Lib.hid (HB0.out.trans (hb2.mono HB0.out.size))
    clear hs3 hb2
    by_cases hz : r' < 0
    · go_wp2_with fail
      go_ret
      exact ⟨-1, rfl, by omega, by omega, by omega, HB2.out⟩
    · go_wp2_with fail
      go_ret
      refine ⟨r', rfl, by omega, by omega, fun _ => ?_, HB2.out⟩
      have e1 := HR3.out (by omega)
      have e2 := HS3.out (by omega)
      rw [HN.out]
      unfold wtA
      omega
end Go.Proofs.YtlikmgkjilmjpaaGreat

/-
  A block of three cells that is known whole (a struct that was boxed, declared, or is a result). Hangs on no program.
-/
namespace Go.Proofs.YtlikmgkjilmjpaaGreat
open Go.RowKit

def Box3 (w : World) (g : Nat) (t : TypeId) (a b c : Value) : Prop := w.heap[g]? = some (.cells #[a, b, c] t (0, 0))
section
variable {w w' : World} {g : Nat} {t : TypeId} {a b c : Value}
theorem Box3.new (w : World) (t : TypeId) (a b c : Value) : Box3 (w.alloc (.cells #[a, b, c] t)) w.heap.size t a b c := heap_alloc_new w _
theorem Box3.lt (h : Box3 w g t a b c) : g < w.heap.size := (Array.getElem?_eq_some_iff.1 h).1
theorem Box3.c0 (h : Box3 w g t a b c) : w.cell? ⟨g, 0, none⟩ = some a := cell_of_row w g 0 _ t (0, 0) h
theorem Box3.c1 (h : Box3 w g t a b c) : w.cell? ⟨g, 1, none⟩ = some b := cell_of_row w g 1 _ t (0, 0) h
theorem Box3.c2 (h : Box3 w g t a b c) : w.cell? ⟨g, 2, none⟩ = some c := cell_of_row w g 2 _ t (0, 0) h
theorem Box3.free (h : Box3 w g t a b c) (i : Nat) : w.frozen? ⟨g, i, none⟩ = false := frozen_of_row w g i _ t h
theorem Box3.under (h : Box3 w g t a b c) {B : Nat} (hb : Below B w w') (hg : g < B) : Box3 w' g t a b c := (hb.block g hg).trans h
theorem Box3.alloc (h : Box3 w g t a b c) (o : Obj) : Box3 (w.alloc o) g t a b c := ((((Below.refl _ _).alloc (Nat.le_refl _) o : Below w.heap.size w (w.alloc o))).block g h.lt).trans h
theorem Box3.far (h : Box3 w g t a b c) {p : Addr} (hp : g ≠ p.block) (u : Value) : Box3 (w.setCell p u) g t a b c := (Below.heap_setCell w p u g hp).trans h
theorem Box3.set0 (h : Box3 w g t a b c) (u : Value) : Box3 (w.setCell ⟨g, 0, none⟩ u) g t u b c := heap_setCell_same w g 0 _ t u h
theorem Box3.set1 (h : Box3 w g t a b c) (u : Value) : Box3 (w.setCell ⟨g, 1, none⟩ u) g t a u c := heap_setCell_same w g 1 _ t u h
theorem Box3.set2 (h : Box3 w g t a b c) (u : Value) : Box3 (w.setCell ⟨g, 2, none⟩ u) g t a b u := heap_setCell_same w g 2 _ t u h
end
end Go.Proofs.YtlikmgkjilmjpaaGreat
