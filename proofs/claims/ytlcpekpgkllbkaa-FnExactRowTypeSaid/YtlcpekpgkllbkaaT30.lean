/-
  Merged by program: Seen, Plc, SeqN.
-/
import Derived.Test.YtlcpekpgkllbkaaT26
import Derived.Test.YtlcpekpgkllbkaaProg
import Derived.Maps.OwnSet
import Derived.WalkKit
import Derived.Test.YtlcpekpgkllbkaaT4

/-
  The program's map of the texts that it has met, told by the list of them: a look-up, a store.
-/
namespace Go.Proofs.Ytlcpekpgkllbkaa
open Go.RowKit Go.Maps

theorem keyStr : Keyed Try.prog 9 := string_keyed Try.underlying9
theorem zeroBool (w : World) : (zeroValue 4).run Try.prog w = .ok (.bool false) w := by kernel_rfl
def lit (s : ByteArray) : Lit := .string s.data.toList
theorem lit_inj {a b : ByteArray} (h : lit a = lit b) : a = b := by
  injection h with h
  exact ByteArray.ext (Array.toList_inj.1 h)
theorem lit_key {s : ByteArray} (h : s.size ≤ maxLen) : keyOf Try.prog 9 (.string s) = some (lit s) := WideMaps.keyOf_string_mk Try.underlying9 h

/-- the block is a map that holds true at just the texts of the list -/
def Seen (w : World) (b n : Nat) (o : List ByteArray) : Prop :=
  ∃ D : DataW Unit, w.ownsMap Try.prog 9 (plainElem Try.prog 4) b n D ∧ IsMap D ∧ (∀ s ∈ o, D.atKey (lit s) (.lit (.bool false)) = .lit (.bool true)) ∧ ∀ s, ¬ s ∈ o → D.atKey (lit s) (.lit (.bool false)) = .lit (.bool false)
theorem Seen.made (w : World) : Seen (w.alloc (.map #[] 0)) w.heap.size 0 [] :=
  ⟨.map [], World.ownsMap_made _ _ _ _, isMap_empty, fun s h => by simp at h, fun s _ => rfl⟩
theorem Seen.mono {w : World} {b n n' : Nat} {o : List ByteArray} (h : Seen w b n o) (hn : n ≤ n') : Seen w b n' o := by
  obtain ⟨D, h1, h2⟩ := h
  exact ⟨D, h1.mono hn, h2⟩
theorem Seen.kept {w w' : World} {b n : Nat} {o : List ByteArray} {row : Option Nat} (h : Seen w b n o) (hg : w.grownBy w' row) (hne : some b ≠ row) : Seen w' b n o := by
  obtain ⟨D, h1, h2⟩ := h
  exact ⟨D, h1.kept hg hne, h2⟩
theorem Seen.lt {w : World} {b n : Nat} {o : List ByteArray} (h : Seen w b n o) : b < w.heap.size := by
  obtain ⟨D, h1, _⟩ := h
  exact h1.lt
theorem Seen.below {w w' : World} {b n : Nat} {o : List ByteArray} (h : Seen w b n o) (hb : Below w.heap.size w w') : Seen w' b n o :=
  h.kept (row := none) ⟨hb.os, hb.tape, hb.output, hb.size, fun i hi _ => hb.block i hi⟩ (by simp)
set_option maxRecDepth 100000 in
theorem plainElem_bool_inv {v : Value} {z : DataW Unit × List MemPlace} (h : plainElem Try.prog 4 v = some z) : ∃ x, v = .bool x ∧ z = (.lit (.bool x), []) := by
  unfold plainElem at h
  rw [Try.underlying4] at h
  cases v <;> simp at h
  exact ⟨_, rfl, h.symm⟩
theorem Seen.put {w : World} {b n : Nat} {o : List ByteArray} {D : DataW Unit} (h1 : IsMap D) (h3 : ∀ s ∈ o, D.atKey (lit s) (.lit (.bool false)) = .lit (.bool true)) (h4 : ∀ s, ¬ s ∈ o → D.atKey (lit s) (.lit (.bool false)) = .lit (.bool false)) {s : ByteArray}
    (h : w.ownsMap Try.prog 9 (plainElem Try.prog 4) b n (D.put (lit s) (.lit (.bool true)))) : Seen w b n (o ++ [s]) := by
  refine ⟨_, h, h1.put _ _, fun y hy => ?_, fun y hy => ?_⟩
  · by_cases e : y = s
    · subst e
      exact atKey_put_same (k := lit y) h1 trivial _ _
    · rw [atKey_put_other (fun e' => e (lit_inj e'))]
      exact h3 y (by simpa [e] using hy)
  · have e : y ≠ s := fun e => hy (by simp [e])
    rw [atKey_put_other (fun e' => e (lit_inj e'))]
    exact h4 y (fun hm => hy (by simp [hm]))
end Go.Proofs.Ytlcpekpgkllbkaa

/-
  The program's map of the places of names: each name's first place from k on.
-/
namespace Go.Proofs.Ytlcpekpgkllbkaa
open Go.RowKit Go.Maps

/-- the first place of a text -/
def idxN : List ByteArray → ByteArray → Option Nat
  | [], _ => none
  | n :: ns, s => if n = s then some 0 else (idxN ns s).map (· + 1)
def plc (ns : List ByteArray) (k : Nat) (s : ByteArray) : Option Nat := (idxN (ns.drop k) s).map (· + k)
theorem plc_end (ns : List ByteArray) (s : ByteArray) : plc ns ns.length s = none := by unfold plc; rw [List.drop_length]; rfl
theorem plc_zero (ns : List ByteArray) (s : ByteArray) : plc ns 0 s = idxN ns s := by
  unfold plc
  rw [List.drop_zero]
  cases idxN ns s <;> rfl
theorem plc_step {ns : List ByteArray} {k : Nat} (hk : k < ns.length) (s : ByteArray) : plc ns k s = if ns[k] = s then some k else plc ns (k + 1) s := by
  unfold plc
  rw [List.drop_eq_getElem_cons hk, idxN]
  split
  · simp
  · rw [Option.map_map]
    congr 1
    funext x
    show x + 1 + k = x + (k + 1)
    omega
theorem idxN_find {β : Type} (t : List (ByteArray × β)) (nm : ByteArray) : (∀ j, idxN (t.map fun d => d.1) nm = some j → ∃ h : j < t.length, t[j].1 = nm ∧ t.find? (fun d => decide (d.1 = nm)) = some t[j]) ∧ (idxN (t.map fun d => d.1) nm = none → t.find? (fun d => decide (d.1 = nm)) = none) := by
  induction t with
  | nil => exact ⟨fun j h => by simp [idxN] at h, fun _ => rfl⟩
  | cons d t ih =>
    rw [List.map_cons, idxN]
    by_cases e : d.1 = nm
    · rw [if_pos e, List.find?_cons_of_pos (by simp [e])]
      refine ⟨fun j h => ?_, fun h => by cases h⟩
      injection h with h
      subst h
      exact ⟨by simp, e, rfl⟩
    · rw [if_neg e, List.find?_cons_of_neg (by simp [e])]
      refine ⟨fun j h => ?_, fun h => ?_⟩
      · cases hi : idxN (t.map fun d => d.1) nm with
        | none => rw [hi] at h; cases h
        | some i =>
          rw [hi] at h
          injection h with h
          subst h
          obtain ⟨h1, h2, h3⟩ := ih.1 i hi
          exact ⟨by simpa using h1, by simpa using h2, by rw [h3]; simp⟩
      · cases hi : idxN (t.map fun d => d.1) nm with
        | none => exact ih.2 hi
        | some i => rw [hi] at h; cases h

theorem zeroInt (w : World) : (zeroValue 3).run Try.prog w = .ok (.int .i64 0) w := by kernel_rfl
theorem wf_nat (k : Nat) (h : k ≤ 1048576) : (Lit.int .i64 (k : Int)).wf = true := by
  show (decide (IntKind.i64.min ≤ (k : Int)) && decide ((k : Int) ≤ IntKind.i64.max)) = true
  rw [decide_eq_true (show IntKind.i64.min ≤ (k : Int) by show (-9223372036854775808 : Int) ≤ _; omega), decide_eq_true (show (k : Int) ≤ IntKind.i64.max by show _ ≤ (9223372036854775807 : Int); omega)]
  rfl
def PlcAt (D : DataW Unit) (s : ByteArray) (o : Option Nat) : Prop :=
  match o with
  | some j => ∀ z, D.atKey (lit s) z = .lit (.int .i64 (j : Int))
  | none => ∀ z, D.atKey (lit s) z = z
/-- the block is a map from the names' texts to their first places from k on -/
def Plc (w : World) (b n : Nat) (ns : List ByteArray) (k : Nat) : Prop :=
  ∃ D : DataW Unit, w.ownsMap Try.prog 9 (plainElem Try.prog 3) b n D ∧ IsMap D ∧ ∀ s, PlcAt D s (plc ns k s)
theorem Plc.made (w : World) (ns : List ByteArray) : Plc (w.alloc (.map #[] 0)) w.heap.size 0 ns ns.length :=
  ⟨.map [], World.ownsMap_made _ _ _ _, isMap_empty, fun s => by rw [plc_end]; exact fun z => rfl⟩
theorem Plc.at {w w' : World} {b n : Nat} {ns : List ByteArray} {k : Nat} (h : Plc w b n ns k) (he : w'.heap[b]? = w.heap[b]?) : Plc w' b n ns k := by
  obtain ⟨D, ⟨es, clock, hb, F, hs, hD⟩, h2⟩ := h
  exact ⟨D, ⟨es, clock, he.trans hb, F, hs, hD⟩, h2⟩
theorem Plc.lt {w : World} {b n : Nat} {ns : List ByteArray} {k : Nat} (h : Plc w b n ns k) : b < w.heap.size := by
  obtain ⟨D, h1, _⟩ := h
  exact h1.lt
set_option maxRecDepth 100000 in
theorem Plc.step {w : World} {b n : Nat} {ns : List ByteArray} {k : Nat} (h : Plc w b n ns (k + 1)) (hk : k < ns.length) (hl : ns.length ≤ 1048576) (hn : n < maxLen) {s : ByteArray} (hs : ns[k] = s) (hsz : s.size ≤ maxLen) :
    ∃ w', (Instr.mapUpdate 74 (.map (some b)) (.string s) (.int .i64 (k : Int))).run Try.prog w = .ok () w' ∧ Plc w' b (n + 1) ns k ∧ w.grownBy w' (some b) := by
  obtain ⟨D, h1, h2, h3⟩ := h
  obtain ⟨w', hrun, hown, hg⟩ := h1.update keyStr Try.underlying74 hn (lit_key hsz) (plainElem_int (a := (k : Int)) Try.underlying3 (wf_nat k (by omega)))
  refine ⟨w', hrun, ⟨_, hown, h2.put _ _, fun y => ?_⟩, hg⟩
  rw [plc_step hk]
  by_cases e : ns[k] = y
  · rw [if_pos e]
    have e2 : s = y := hs.symm.trans e
    subst e2
    exact fun z => atKey_put_same (k := lit s) h2 trivial _ _
  · rw [if_neg e]
    have hne : lit y ≠ lit s := fun e' => e (by rw [hs, lit_inj e'])
    have h4 := h3 y
    unfold PlcAt at h4 ⊢
    split
    · rename_i j hj
      rw [hj] at h4
      exact fun z => by rw [atKey_put_other hne]; exact h4 z
    · rename_i hj
      rw [hj] at h4
      exact fun z => by rw [atKey_put_other hne]; exact h4 z
set_option maxRecDepth 100000 in
/-- a look-up that asks whether there is one -/
theorem Plc.look {w : World} {b n : Nat} {ns : List ByteArray} {k : Nat} (h : Plc w b n ns k) {s : ByteArray} (hs : s.size ≤ maxLen) :
    ∃ c, (Instr.lookup 74 (.map (some b)) (.string s) true).run Try.prog w = .ok (.tuple #[.int .i64 c, .bool (plc ns k s).isSome]) w ∧ ∀ j, plc ns k s = some j → c = (j : Int) := by
  obtain ⟨D, h1, _, h3⟩ := h
  obtain ⟨v, ps, hrun, hv⟩ := h1.look_ok keyStr Try.underlying74 (zeroInt w) (plainElem_int (a := 0) Try.underlying3 (by decide)) (lit_key hs)
  obtain ⟨c, rfl, hc, _⟩ := plainElem_int_inv Try.underlying3 hv
  simp only [Prod.mk.injEq] at hc
  have h4 := h3 s
  unfold PlcAt at h4
  cases hp : plc ns k s with
  | none =>
    rw [hp] at h4
    rw [has_false_of_atKey h4] at hrun
    exact ⟨c, hrun, fun j hj => by cases hj⟩
  | some j =>
    rw [hp] at h4
    simp only at h4
    rw [has_true_of_atKey h4] at hrun
    refine ⟨c, hrun, fun j' hj => ?_⟩
    injection hj with hj
    subst hj
    rw [h4] at hc
    have := hc.1
    simp only [DataW.lit.injEq, Lit.int.injEq, true_and] at this
    exact this.symm
end Go.Proofs.Ytlcpekpgkllbkaa

/-
  A range over a function that gives M tuples of values, of the k-th of which Rd k says what is known; a round may write blocks of the client's own (F). Hangs on no program.
-/
namespace Go.Proofs.Ytlcpekpgkllbkaa
open Go.RowKit

/-- the iterator's contract -/
def GivesN (N : Fence) (n : Nat) (P : Program) (g : Nat) (lb : Array Value) (M : Nat) (Rd : Nat → Array Value → Prop) (On Keep : Nat → Prop) (W : World) : Prop :=
  ∀ (l : Nat) (J : Nat → (Nat → Prop) → World → Prop) (Jx : World → Prop), (∀ k F A C, J k F A → Held (fun i => i < W.heap.size ∨ F i) A C → J k F C) → (∀ k F A, J k F A → ∀ b, F b → ¬ Keep b ∧ b < A.heap.size) →
    (∀ k v F W1, k < M → J k F W1 → Rd k v → YieldAt N (n - 1) P l v W1 fun e W' =>
      (e = .returned (.bool true) ∧ On k ∧ Held (fun i => ¬ F i) W1 W' ∧ ∃ F', (∀ b, F' b → F b ∨ W1.heap.size ≤ b) ∧ J (k + 1) F' W') ∨ (e = .returned (.bool false) ∧ Jx W')) →
    (∃ F, J 0 F W) → CallsIn N n P g (#[.func (.yield l) #[] #[]] ++ lb) W fun e W' => (∃ v, e = .returned v) ∧ ((∃ F, J M F W') ∨ Jx W')

/-- how a round's body is left -/
def givesPostN (On : Nat → Prop) (I : Nat → (Nat → Prop) → World → Prop) (Ix : World → Prop) (k : Nat) (F : Nat → Prop) (W : World) : Exit → Act → World → Prop
  | .normal, _, W' => On k ∧ Held (fun i => ¬ F i) W W' ∧ ∃ F', (∀ b, F' b → F b ∨ W.heap.size ≤ b) ∧ I (k + 1) F' W'
  | .ret, _, W' => Held (fun i => ¬ F i) W W' ∧ Ix W'
  | .exit _, _, _ => False
  | .goto _, _, _ => False
  | .panic _, _, _ => False
  | .outgrown, _, _ => False

section
variable {N : Fence} {n : Nat} {P : Program}
theorem wpIn_givesN {g : Operand} {p0 : Array Tmp} {assign body : Code} {Q : Exit → Act → World → Prop} {a : Act} {w : World}
    (hro : N.round = none) (h1 : 1 ≤ n) {gf : Nat} {lb : Array Value} (hg : a.eval g = .func (.func gf) #[] lb) (hFg : N.fn gf) (eg : ∀ args w, (callFunc gf args).run P w = .ok (.enter gf args) w)
    {M : Nat} {Rd : Nat → Array Value → Prop} {On Keep : Nat → Prop} (hsz : ∀ k v, Rd k v → v.size = p0.size) (hkeep : ∀ b, Keep b → b < w.heap.size)
    (hgives : ∀ W, Below w.heap.size w W → W.heap.size = w.heap.size + 2 → GivesN N (n - 1) P gf lb M Rd On Keep W)
    (I : Nat → (Nat → Prop) → World → Prop) (Ix : World → Prop) (hI : ∀ k F A C, I k F A → Held (fun i => i < w.heap.size ∨ F i) A C → I k F C) (hB : ∀ k F A, I k F A → ∀ b, F b → ¬ Keep b ∧ b < A.heap.size)
    (hIx : ∀ A C, Ix A → Held (fun i => i ≠ w.heap.size + 1) A C → Ix C) (F0 : Nat → Prop) (h0 : I 0 F0 w) (a₁ : Array Value → Act)
    (hassign : ∀ (l k : Nat) (v : Array Value) (W : World) (K : Act → World → Prop), Rd k v → K (a₁ v) W →
      assign.wpIn (N.inRound l) (n - 1 - 1) P (Exit.then K (fun _ _ _ => False)) { tmps := (p0.zip v).foldl (fun tmps (t, u) => tmps.setIfInBounds t u) a.tmps, defers := [] } W)
    (hbody : ∀ (l k : Nat) (s : Array Value) (F : Nat → Prop) (W : World), k < M → I k F W → Rd k s → w.heap.size + 2 ≤ W.heap.size → ¬ F w.heap.size → ¬ F (w.heap.size + 1) → body.wpIn (N.inRound l) (n - 1 - 1) P (givesPostN On I Ix k F W) (a₁ s) W)
    (hdone : ∀ F W, I M F W → W.heap[w.heap.size]? = some (.deferred (some [])) → Q .normal { a with defers := { target := .collected w.heap.size, args := #[] } :: a.defers } W)
    (hstop : ∀ W, Ix W → W.heap[w.heap.size]? = some (.deferred (some [])) → Code.ret.wpIn N n P Q { a with defers := { target := .collected w.heap.size, args := #[] } :: a.defers } W) :
    (Code.rangeFunc g p0 assign body).wpIn N n P Q a w := by
  refine wpIn_rangeFunc ?_
  intro fn hfn
  rw [hro]
  -- the loop's record, in each of its states
  obtain ⟨R, hR⟩ : ∃ R : LoopState → Option Code → Loop, R = fun st pe => { state := st, pending := pe, fn, tmps := a.tmps, params := p0, assign, body, defers := w.heap.size } := ⟨_, rfl⟩
  obtain ⟨D, hD⟩ : ∃ D, w.heap.size = D := ⟨_, rfl⟩
  obtain ⟨W1, hW1⟩ : ∃ W1, (w.alloc (.deferred (some []))).alloc (.loop (R .ready none)) = W1 := ⟨_, rfl⟩
  have hb1 : Below D w W1 := by rw [← hW1, ← hD]; exact ((Below.refl _ w).alloc (Nat.le_refl _) _).alloc (by simp) _
  have hz1 : W1.heap.size = D + 2 := by rw [← hW1, ← hD]; simp
  have hrec : W1.heap[D + 1]? = some (.loop (R .ready none)) := by
    rw [← hW1, ← hD]; have := World.alloc_heap_new (w.alloc (.deferred (some []))) (.loop (R .ready none)); rwa [World.size_alloc] at this
  have hdef : W1.heap[D]? = some (.deferred (some [])) := by
    rw [← hW1, ← hD]; exact (Below.heap_alloc _ _ _ (by simp)).trans (World.alloc_heap_new w _)
  have hGV := hgives W1 (by rw [hD]; exact hb1) (by rw [hD]; exact hz1)
  have hent := run_enterLoop_outer (P := P) (w := w) fn a.tmps p0 assign body
  have hRe : (.loop { state := .ready, pending := none, fn, tmps := a.tmps, params := p0, assign, body, defers := w.heap.size } : Obj) = .loop (R .ready none) := by rw [hR]
  rw [hRe, hW1, hD] at hent
  have hF0 := hB _ _ _ h0
  rw [hD] at hkeep hI hIx hbody hdone hstop hF0
  refine ⟨D + 1, [{ target := .collected D, args := #[] }], W1, { target := .fn (.func gf) lb, args := #[.func (.yield (D + 1)) #[] #[]] }, W1, gf, #[.func (.yield (D + 1)) #[] #[]] ++ lb, W1, hent, ?_, ?_, ?_, fun _ => h1, ?_⟩
  · simp only [resolve, hg]
    simp [go_sem]
  · intro f' hf'; simp [Target.leads] at hf'; subst hf'; exact hFg
  · simp [invoke, go_sem, eg]
  -- what the rounds keep: the client's own, and the loop's record
  obtain ⟨J, hJd⟩ : ∃ J : Nat → (Nat → Prop) → World → Prop, J = fun S F W => ∃ G : Nat → Prop, (∀ b, F b ↔ (G b ∨ b = D ∨ b = D + 1)) ∧ ¬ G D ∧ ¬ G (D + 1) ∧ D + 2 ≤ W.heap.size ∧ I S G W ∧ W.heap[D + 1]? = some (.loop (R .ready none)) ∧ W.heap[D]? = some (.deferred (some [])) := ⟨_, rfl⟩
  refine (hGV (D + 1) J (fun W => Ix W ∧ W.heap[D + 1]? = some (.loop (R .done (some .ret))) ∧ W.heap[D]? = some (.deferred (some []))) ?_ ?_ ?_ ?_).mono ?_
  · rw [hJd]
    rintro S F A C ⟨G, hG, g1, g2, hz, hi, hl, hd⟩ hb
    exact ⟨G, hG, g1, g2, Nat.le_trans hz hb.size, hI _ _ _ _ hi (hb.mono fun i _ h => h.imp (fun h => by rw [hz1]; omega) fun h => (hG i).2 (.inl h)), (hb.block _ (by omega) (.inr ((hG _).2 (.inr (.inr rfl))))).trans hl, (hb.block _ (by omega) (.inr ((hG _).2 (.inr (.inl rfl))))).trans hd⟩
  · rw [hJd]
    rintro S F A ⟨G, hG, g1, g2, hz, hi, hl, hd⟩ b hb
    rcases (hG b).1 hb with h | h | h
    · exact hB _ _ _ hi b h
    · subst h; exact ⟨fun h => by have := hkeep _ h; omega, by omega⟩
    · subst h; exact ⟨fun h => by have := hkeep _ h; omega, by omega⟩
  · rw [hJd]
    rintro k s F W hkM ⟨G, hG, g1, g2, hz, hi, hl, hd⟩ hrd
    have hlt : D + 1 < W.heap.size := by omega
    have hy : (Instr.yield (D + 1) s).run P W = .ok (.round (D + 1) fn ((p0.zip s).foldl (fun tmps (t, u) => tmps.setIfInBounds t u) a.tmps) assign body) W := by
      rw [run_yield (P := P) (args := s) hl (by rw [hR]; exact hsz k s hrd), hR]
    refine ⟨fn, _, assign, body, hy, roundIn_of_wpIn hfn (hassign _ k s W _ hrd ?_)⟩
    refine ⟨_, run_beginRound hl (by rw [hR]), ?_⟩
    clear hy
    obtain ⟨W2, hW2⟩ : ∃ W2, W.putObj (D + 1) (.loop { R .ready none with state := .busy }) = W2 := ⟨_, rfl⟩
    have hl2 : W2.heap[D + 1]? = some (.loop { R .ready none with state := .busy }) := by rw [← hW2]; exact World.putObj_heap_same hlt
    have hd2 : W2.heap[D]? = some (.deferred (some [])) := by rw [← hW2]; exact (World.putObj_heap_other (by omega)).trans hd
    have hz2 : W2.heap.size = W.heap.size := by rw [← hW2]; simp
    have hap : ∀ K : Nat → Prop, ¬ K (D + 1) → Held K W W2 := fun K hK => by rw [← hW2]; exact Held.put W hK
    have hnot : ¬ (D + 1 < D ∨ G (D + 1)) := fun h => h.elim (fun h => by omega) g2
    rw [hW2]
    refine wpIn_mono (hbody _ k s G W2 hkM (hI _ _ _ _ hi (hap _ hnot)) hrd (by omega) g1 g2) ?_
    rintro e a3 W3 hp
    have fin : ∀ (jump : Option Code), Held (fun i => ¬ G i) W2 W3 → (Instr.endRound (D + 1) jump).run P W3 = .ok (.bool jump.isNone) (W3.putObj (D + 1) (.loop (R (if jump.isNone then .ready else .done) jump))) ∧
        (W3.putObj (D + 1) (.loop (R (if jump.isNone then .ready else .done) jump))).heap[D + 1]? = some (.loop (R (if jump.isNone then .ready else .done) jump)) ∧
        (W3.putObj (D + 1) (.loop (R (if jump.isNone then .ready else .done) jump))).heap[D]? = some (.deferred (some [])) := by
      intro jump h3
      have hlt2 : D + 1 < W2.heap.size := (Array.getElem?_eq_some_iff.1 hl2).1
      have hl3 := (h3.block (D + 1) hlt2 g2).trans hl2
      have hr3 := run_endRound (P := P) jump hl3
      rw [hR] at hr3 ⊢
      exact ⟨hr3, World.putObj_heap_same (Array.getElem?_eq_some_iff.1 hl3).1, (World.putObj_heap_other (by omega)).trans ((h3.block D (by omega) g1).trans hd2)⟩
    cases e with
    | normal =>
      obtain ⟨hon, h3, G', hG', hi3⟩ := hp
      obtain ⟨hr, hl4, hd4⟩ := fin none h3
      have n1 : ¬ G' D := fun h => (hG' D h).elim g1 (fun h => by omega)
      have n2 : ¬ G' (D + 1) := fun h => (hG' (D + 1) h).elim g2 (fun h => by omega)
      have hnot' : ¬ (D + 1 < D ∨ G' (D + 1)) := fun h => h.elim (fun h => by omega) n2
      have hz3 := h3.size
      refine ⟨_, _, hr, .inl ⟨rfl, hon, ?_, fun b => G' b ∨ b = D ∨ b = D + 1, fun b hb => ?_, G', fun b => Iff.rfl, n1, n2, by simp; omega, hI _ _ _ _ hi3 (Held.put W3 hnot'), hl4, hd4⟩⟩
      · refine (hap _ (fun h => h ((hG _).2 (.inr (.inr rfl))))).trans ((h3.mono (fun i _ h => fun hg => h ((hG i).2 (.inl hg)))).trans (Held.put W3 (fun h => h ((hG _).2 (.inr (.inr rfl))))))
      · rcases hb with h | h | h
        · rcases hG' b h with h | h
          · exact .inl ((hG b).2 (.inl h))
          · exact .inr (by omega)
        · exact .inl ((hG b).2 (.inr (.inl h)))
        · exact .inl ((hG b).2 (.inr (.inr h)))
    | ret =>
      obtain ⟨h3, hi3⟩ := hp
      obtain ⟨hr, hl4, hd4⟩ := fin (some .ret) h3
      exact ⟨_, _, hr, .inr ⟨rfl, hIx _ _ hi3 (Held.put W3 (fun h => h rfl)), hl4, hd4⟩⟩
    | exit _ => exact hp.elim
    | goto _ => exact hp.elim
    | panic _ => exact hp.elim
    | outgrown => exact hp.elim
  · rw [hJd]
    refine ⟨fun b => F0 b ∨ b = D ∨ b = D + 1, F0, fun b => Iff.rfl, fun h => by have := (hF0 _ h).2; omega, fun h => by have := (hF0 _ h).2; omega, by omega, hI _ _ _ _ h0 (Held.of_below hb1 (fun i hi _ => by omega)), hrec, hdef⟩
  · rw [hJd]
    rintro e W2 ⟨⟨v, rfl⟩, (⟨F, G, hG, g1, g2, hz, hi, hl, hd⟩ | ⟨hi, hl, hd⟩)⟩
    · exact ⟨none, _, by have := run_endLoop (P := P) hl (by rw [hR]; simp); rw [hR] at this; exact this, by rw [hD]; exact hdone G _ (hI _ _ _ _ hi (Held.put W2 (fun h => h.elim (fun h => by omega) g2))) ((World.putObj_heap_other (by omega)).trans hd)⟩
    · exact ⟨some .ret, _, by have := run_endLoop (P := P) hl (by rw [hR]; simp); rw [hR] at this; exact this, by rw [hD]; exact hstop _ (hIx _ _ hi (Held.put W2 (fun h => h rfl))) ((World.putObj_heap_other (by omega)).trans hd)⟩
end
end Go.Proofs.Ytlcpekpgkllbkaa
