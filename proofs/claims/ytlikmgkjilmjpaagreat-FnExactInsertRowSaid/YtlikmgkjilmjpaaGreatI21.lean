/-
  Merged by program: AppF, Pre, PreD, SeqN, Least.
-/
import Derived.Test.YtlikmgkjilmjpaaGreatI1
import Derived.Maps.OwnIn
import Derived.Test.YtlikmgkjilmjpaaGreatI7
import Derived.Test.YtlikmgkjilmjpaaGreatI3

/-
  'append' onto nil, from a source that reads as a list of cells: a row of the call's own in new memory, or nil. Hangs on no program.
-/
namespace Go.Proofs.YtlikmgkjilmjpaaGreat
open Go.RowKit

section
variable {P : Program}
theorem run_append_fresh (w : World) (t ty e : TypeId) (i : TypeInfo) (z : Value) (size bytes : Nat) (ht : P.underlying t = some (.slice e)) (hi : P.info? e = some i) (hz : i.zero = some z) (hsize : i.size = size) (hby : i.bytes = bytes) (hzs : z.cells.size = size) (hsz : 0 < size)
    (A : Option Addr) (m c : Nat) (news : List Value) (hl : news.length = m * size) (hnews : Sl w A news) (h1 : ∀ u ∈ news, u.oneCell' = true) (h63 : m ≤ maxLen) (hbytes : m * bytes ≤ 140737488355328) :
    ∃ v' w', (Builtin.append_ #[t, t] ty #[.slice none 0 0, .slice A m c]).run P w = .ok v' w' ∧ w'.ownsRow 0 e size v' m news ∧ w.grownBy w' none ∧ (m = 0 → v' = .slice none 0 0) ∧ (∀ b, v'.ownBlock = some b → b = w.heap.size) := by
  have hnil : w.ownsRow 0 e size (.slice none 0 0) 0 [] := ⟨by simp, .inl ⟨rfl, rfl⟩⟩
  cases A with
  | none =>
    have hn : news = [] := by
      cases news with
      | nil => rfl
      | cons u r =>
        obtain ⟨ad, e, _⟩ := hnews 0 u rfl
        cases e
    subst hn
    have hm : m = 0 := by
      rcases Nat.eq_zero_or_pos m with h | h
      · exact h
      · have := Nat.mul_pos h hsz
        simp only [List.length_nil] at hl
        omega
    subst hm
    refine ⟨.slice none 0 0, w, ?_, hnil, World.grownBy.refl w _, fun _ => rfl, fun b hb => by cases hb⟩
    simp [Builtin.append_, run_underlying ht, sizeOf, typeInfo, hi, Builtin.lenOf, Builtin.firstCells]
  | some ad =>
    have hc : ∀ j u, news[j]? = some u → w.cell? (ad.add j) = some u := by
      intro j u hj
      obtain ⟨ad', e, hcc⟩ := hnews j u hj
      injection e with e
      subst e
      exact hcc
    obtain ⟨v', w', h2, h3, h4, h5, h6⟩ := run_append_own_at (P := P) w 0 t ty e i z size bytes ht hi hz hsize hby hzs hsz (.slice none 0 0) 0 [] hnil ad m c news hl hc h1 (by omega) (by rw [Nat.zero_add]; exact hbytes) (Nat.zero_le _)
    refine ⟨v', w', h2, by simpa using h3, h4, fun hm => h5.2 ⟨rfl, hm⟩, fun b hb => ?_⟩
    rcases h6 with h | h
    · rw [h] at hb; cases hb
    · rw [h] at hb; injection hb with hb; exact hb.symm

theorem wpListIn_append_fresh {F : Fence} {nF : Nat} {w : World} {ops : Array Oper} {rest : List Oper} {o : Oper} {a : Act} {Q : Exit → Act → World → Prop} (hgd : o.guard = none) (s x : Operand) (t : TypeId)
    (ho : o.op = .call { callee := .builtin .append, args := #[s, x], argTypes := #[t, t] })
    (e : TypeId) (i : TypeInfo) (z : Value) (size bytes : Nat) (ht : P.underlying t = some (.slice e)) (hi : P.info? e = some i) (hz : i.zero = some z) (hsize : i.size = size) (hby : i.bytes = bytes) (hzs : z.cells.size = size) (hsz : 0 < size)
    (hs : a.eval s = .slice none 0 0) (A : Option Addr) (m c : Nat) (news : List Value) (hx : a.eval x = .slice A m c) (hl : news.length = m * size) (hnews : Sl w A news) (h1 : ∀ u ∈ news, u.oneCell' = true) (h63 : m ≤ maxLen) (hbytes : m * bytes ≤ 140737488355328)
    (h : ∀ v' w', w'.ownsRow 0 e size v' m news → w.grownBy w' none → (m = 0 → v' = .slice none 0 0) → (∀ b, v'.ownBlock = some b → b = w.heap.size) → wpListIn F nF P ops Q rest (a.put o.dst v') w') :
    wpListIn F nF P ops Q (o :: rest) a w := by
  refine wpListIn_plain hgd fun K hK => ?_
  obtain ⟨v', w', hr, h2, h3, h4, h5⟩ := run_append_fresh (P := P) w t o.type e i z size bytes ht hi hz hsize hby hzs hsz A m c news hl hnews h1 h63 hbytes
  unfold Oper.wpIn
  refine ⟨by simp [Oper.about, ho, resolve, Target.leads, Sem.run_pure], ?_⟩
  rw [Oper.semAt_plain F _ _ (by rw [ho]; intro c hc'; cases hc')]
  simp [execOp, ho, resolve, invoke, builtin, hs, hx, hr, Result.andThen]
  exact hK _ _ (h v' w' h2 h3 h4 h5)
end
end Go.Proofs.YtlikmgkjilmjpaaGreat

/-
  Trees in the order in which a node stands before those below it. Hangs on no program.
-/
namespace Go.Proofs.YtlikmgkjilmjpaaGreat
open Go.RowKit

section
variable {α : Type}
/-- the nodes with their depths, each before those below -/
def Tr.pre : Tr α → Nat → List (Nat × Tr α)
  | .node a ks, d => (d, .node a ks) :: (ks.attach.map fun ⟨t, _⟩ => t.pre (d + 1)).flatten
def preL (d : Nat) (ts : List (Tr α)) : List (Nat × Tr α) := (ts.map fun t => t.pre d).flatten
theorem pre_node (a : α) (ks : List (Tr α)) (d : Nat) : (Tr.node a ks).pre d = (d, .node a ks) :: preL (d + 1) ks := by
  rw [Tr.pre]
  unfold preL
  congr 2
  exact List.attach_map_val (l := ks) (f := fun t => t.pre (d + 1)) ▸ rfl
theorem pre_top (t : Tr α) (d : Nat) : t.pre d = (d, t) :: preL (d + 1) t.kids := by
  cases t with
  | node a ks => exact pre_node a ks d
theorem preL_nil (d : Nat) : preL d ([] : List (Tr α)) = [] := rfl
theorem preL_cons (d : Nat) (t : Tr α) (ts : List (Tr α)) : preL d (t :: ts) = t.pre d ++ preL d ts := rfl
theorem preL_one (d : Nat) (t : Tr α) : preL d [t] = t.pre d := by rw [preL_cons, preL_nil, List.append_nil]
/-- lists that are yet to be walked, the next one first, with the slice in which each lies and the depth -/
abbrev NStk (α : Type) := List (List (Tr α) × Value × Nat)
def preS (S : NStk α) : List (Nat × Tr α) := (S.map fun p => preL p.2.2 p.1).flatten
theorem preS_cons (p : List (Tr α) × Value × Nat) (S : NStk α) : preS (p :: S) = preL p.2.2 p.1 ++ preS S := rfl
theorem preS_step (x : Tr α) (xs : List (Tr α)) (s : Value) (d : Nat) (S : NStk α) : preS ((x :: xs, s, d) :: S) = (d, x) :: (preL (d + 1) x.kids ++ (preL d xs ++ preS S)) := by
  rw [preS_cons, preL_cons, pre_top]
  simp
theorem pre_pos (t : Tr α) (d : Nat) : 0 < (t.pre d).length := by rw [pre_top]; simp
theorem preL_len (d : Nat) : ∀ ts : List (Tr α), ts.length ≤ (preL d ts).length
  | [] => Nat.le_refl _
  | t :: ts => by
    have := preL_len d ts
    have := pre_pos t d
    rw [preL_cons, List.length_append, List.length_cons]
    omega
theorem preS_len (S : NStk α) (h : ∀ p ∈ S, 0 < p.1.length) : S.length ≤ (preS S).length := by
  induction S with
  | nil => simp
  | cons p S ih =>
    have := ih fun q hq => h q (List.mem_cons_of_mem _ hq)
    have := h p (List.mem_cons_self ..)
    have := preL_len p.2.2 p.1
    rw [preS_cons, List.length_append, List.length_cons]
    omega
/-- what a sum over the tree is -/
theorem pre_sum (f : α → Nat) : ∀ (t : Tr α) (d : Nat), ((t.pre d).map fun p => f p.2.top).sum = t.sum f := by
  refine Tr.ind ?_
  intro a ks ih d
  rw [pre_node, Tr.sum_node, List.map_cons, List.sum_cons]
  congr 1
  have h : ∀ ts : List (Tr α), (∀ t ∈ ts, t ∈ ks) → ((preL (d + 1) ts).map fun p => f p.2.top).sum = (ts.map (Tr.sum f)).sum := by
    intro ts
    induction ts with
    | nil => intro _; rfl
    | cons t ts iht =>
      intro hm
      rw [preL_cons, List.map_append, List.sum_append, iht (fun x hx => hm x (by simp [hx])), ih t (hm t (by simp)) (d + 1), List.map_cons, List.sum_cons]
  exact h ks fun _ h => h
theorem pre_len (t : Tr α) (d : Nat) : (t.pre d).length = t.sum fun _ => 1 := by
  rw [← pre_sum (fun _ => 1) t d, List.map_const', List.sum_replicate_nat]
  simp
end
end Go.Proofs.YtlikmgkjilmjpaaGreat

/-
  The depth of a tree is the greatest of those of its nodes.
-/
namespace Go.Proofs.YtlikmgkjilmjpaaGreat
open Go.RowKit

section
variable {α : Type}
theorem le_foldl_max : ∀ (xs : List Nat) (a : Nat), a ≤ xs.foldl max a ∧ ∀ x ∈ xs, x ≤ xs.foldl max a
  | [], a => ⟨Nat.le_refl _, fun x h => by cases h⟩
  | y :: xs, a => by
    have ⟨h1, h2⟩ := le_foldl_max xs (max a y)
    refine ⟨Nat.le_trans (Nat.le_max_left _ _) h1, fun x hx => ?_⟩
    rcases List.mem_cons.1 hx with rfl | hx
    · exact Nat.le_trans (Nat.le_max_right _ _) h1
    · exact h2 x hx
theorem foldl_max_is : ∀ (xs : List Nat) (a : Nat), xs.foldl max a = a ∨ ∃ x ∈ xs, xs.foldl max a = x
  | [], a => .inl rfl
  | y :: xs, a => by
    rcases foldl_max_is xs (max a y) with h | ⟨x, hx, h⟩
    · rw [List.foldl_cons, h]
      rcases Nat.le_total a y with k | k
      · exact .inr ⟨y, by simp, Nat.max_eq_right k⟩
      · exact .inl (Nat.max_eq_left k)
    · exact .inr ⟨x, List.mem_cons_of_mem _ hx, h⟩
theorem deep_pos (t : Tr α) : 1 ≤ t.deep := by
  cases t with
  | node a ks => rw [deep_node]; omega
theorem pre_deep : ∀ (t : Tr α) (d : Nat), (∀ p ∈ t.pre d, d ≤ p.1 ∧ p.1 + 1 ≤ d + t.deep) ∧ ∃ p ∈ t.pre d, p.1 + 1 = d + t.deep := by
  refine Tr.ind ?_
  intro a ks ih d
  rw [pre_node, deep_node]
  constructor
  · intro p hp
    rcases List.mem_cons.1 hp with rfl | hp
    · exact ⟨Nat.le_refl _, by show d + 1 ≤ _; omega⟩
    · unfold preL at hp
      obtain ⟨l, hl, hp⟩ := List.mem_flatten.1 hp
      obtain ⟨t, ht, rfl⟩ := List.mem_map.1 hl
      have h1 := (ih t ht (d + 1)).1 p hp
      have h2 := (le_foldl_max (ks.map Tr.deep) 0).2 t.deep (List.mem_map_of_mem ht)
      omega
  · rcases foldl_max_is (ks.map Tr.deep) 0 with h | ⟨x, hx, h⟩
    · refine ⟨(d, .node a ks), List.mem_cons_self .., ?_⟩
      show d + 1 = _
      omega
    · obtain ⟨t, ht, rfl⟩ := List.mem_map.1 hx
      obtain ⟨p, hp, e⟩ := (ih t ht (d + 1)).2
      refine ⟨p, List.mem_cons_of_mem _ ?_, by omega⟩
      unfold preL
      exact List.mem_flatten.2 ⟨_, List.mem_map_of_mem ht, hp⟩
theorem deep_le_sizeN (t : Tr α) : t.deep ≤ t.size := by
  have h2 : ∀ (t : Tr α), t.deep ≤ t.size := by
    refine Tr.ind ?_
    intro a ks ih
    rw [deep_node]
    have e : (Tr.node a ks).size = 1 + (ks.map Tr.size).sum := Tr.sum_node _ a ks
    rw [e]
    have := foldl_max_le (m := (ks.map Tr.size).sum) (ks.map Tr.deep) 0 (Nat.zero_le _) (by
      intro x hx
      obtain ⟨t, ht, rfl⟩ := List.mem_map.1 hx
      exact Nat.le_trans (ih t ht) (kid_sum_le Tr.size ht))
    omega
  exact h2 t
/-- the greatest depth among the first k nodes -/
def topTo (t : Tr α) (k : Nat) : Nat := (((t.pre 1).take k).map Prod.fst).foldl max 0
theorem topTo_zero (t : Tr α) : topTo t 0 = 0 := rfl
theorem topTo_succ (t : Tr α) {k : Nat} {p : Nat × Tr α} (h : (t.pre 1)[k]? = some p) : topTo t (k + 1) = max (topTo t k) p.1 := by
  unfold topTo
  rw [List.take_add_one, h, List.map_append, List.foldl_append]
  rfl
theorem topTo_le (t : Tr α) (k : Nat) : topTo t k ≤ t.deep := by
  unfold topTo
  refine foldl_max_le _ _ (Nat.zero_le _) fun x hx => ?_
  obtain ⟨p, hp, rfl⟩ := List.mem_map.1 hx
  have := ((pre_deep t 1).1 p (List.mem_of_mem_take hp)).2
  omega
theorem topTo_all (t : Tr α) : topTo t (t.pre 1).length = t.deep := by
  have h1 := topTo_le t (t.pre 1).length
  obtain ⟨p, hp, e⟩ := (pre_deep t 1).2
  have h2 : p.1 ≤ topTo t (t.pre 1).length := by
    unfold topTo
    rw [List.take_length]
    exact (le_foldl_max _ 0).2 _ (List.mem_map_of_mem hp)
  omega
end
end Go.Proofs.YtlikmgkjilmjpaaGreat

/-
  A range over a function that gives M tuples of values, of the k-th of which Rd k says what is known; a round may write blocks of the client's own (F). Hangs on no program.
-/
namespace Go.Proofs.YtlikmgkjilmjpaaGreat
open Go.RowKit

/-- the iterator's contract -/
def GivesN (N : Fence) (n : Nat) (P : Program) (g : Nat) (lb : Array Value) (M : Nat) (Rd : Nat → Array Value → Prop) (On Keep : Nat → Prop) (W : World) : Prop :=
  ∀ (l : Nat) (J : Nat → (Nat → Prop) → World → Prop) (Jx : World → Prop), (∀ k F A C, J k F A → Held (fun i => i < W.heap.size ∨ F i) A C → J k F C) → (∀ k F A, J k F A → ∀ b, F b → ¬ Keep b ∧ b < A.heap.size) →
    (∀ k v F W1, k < M → J k F W1 → Rd k v → YieldAt N (n - 1) P l v W1 fun e W' =>
      (e = .returned (.bool true) ∧ On k ∧ Held (fun i => ¬ F i) W1 W' ∧ ∃ F', (∀ b, F' b → F b ∨ W1.heap.size ≤ b) ∧ J (k + 1) F' W') ∨ (e = .returned (.bool false) ∧ Jx W')) →
    (∃ F, J 0 F W) → CallsIn N n P g (#[.func (.yield l) #[] #[]] ++ lb) W fun e W' => (∃ v, e = .returned v) ∧ ((∃ F, J M F W') ∨ Jx W')

/-- how a round's body is left -/
def givesPostN (On : Nat → Prop) (I : Nat → (Nat → Prop) → World → Prop) (Ix : World → Prop) (k : Nat) (F : Nat → Prop) (W : World) : Exit → Act → World → Prop
  | .normal, _, W' => On k ∧ Held (fun i => ¬ F i) W W' ∧ ∃ F', (∀ b, F' b → F b ∨ W.heap.size ≤ b) ∧ I (k + 1) F' W'
  | .ret, _, W' => Held (fun i => ¬ F i) W W' ∧ Ix W'
  | .exit _, _, _ => False
  | .goto _, _, _ => False
  | .panic _, _, _ => False
  | .outgrown, _, _ => False

section
variable {N : Fence} {n : Nat} {P : Program}
theorem wpIn_givesN {g : Operand} {p0 : Array Tmp} {assign body : Code} {Q : Exit → Act → World → Prop} {a : Act} {w : World}
    (hro : N.round = none) (h1 : 1 ≤ n) {gf : Nat} {lb : Array Value} (hg : a.eval g = .func (.func gf) #[] lb) (hFg : N.fn gf) (eg : ∀ args w, (callFunc gf args).run P w = .ok (.enter gf args) w)
    {M : Nat} {Rd : Nat → Array Value → Prop} {On Keep : Nat → Prop} (hsz : ∀ k v, Rd k v → v.size = p0.size) (hkeep : ∀ b, Keep b → b < w.heap.size)
    (hgives : ∀ W, Below w.heap.size w W → W.heap.size = w.heap.size + 2 → GivesN N (n - 1) P gf lb M Rd On Keep W)
    (I : Nat → (Nat → Prop) → World → Prop) (Ix : World → Prop) (hI : ∀ k F A C, I k F A → Held (fun i => i < w.heap.size ∨ F i) A C → I k F C) (hB : ∀ k F A, I k F A → ∀ b, F b → ¬ Keep b ∧ b < A.heap.size)
    (hIx : ∀ A C, Ix A → Held (fun i => i ≠ w.heap.size + 1) A C → Ix C) (F0 : Nat → Prop) (h0 : I 0 F0 w) (a₁ : Array Value → Act)
    (hassign : ∀ (l k : Nat) (v : Array Value) (W : World) (K : Act → World → Prop), Rd k v → K (a₁ v) W →
      assign.wpIn (N.inRound l) (n - 1 - 1) P (Exit.then K (fun _ _ _ => False)) { tmps := (p0.zip v).foldl (fun tmps (t, u) => tmps.setIfInBounds t u) a.tmps, defers := [] } W)
    (hbody : ∀ (l k : Nat) (s : Array Value) (F : Nat → Prop) (W : World), k < M → I k F W → Rd k s → w.heap.size + 2 ≤ W.heap.size → ¬ F w.heap.size → ¬ F (w.heap.size + 1) → body.wpIn (N.inRound l) (n - 1 - 1) P (givesPostN On I Ix k F W) (a₁ s) W)
    (hdone : ∀ F W, I M F W → W.heap[w.heap.size]? = some (.deferred (some [])) → Q .normal { a with defers := { target := .collected w.heap.size, args := #[] } :: a.defers } W)
    (hstop : ∀ W, Ix W → W.heap[w.heap.size]? = some (.deferred (some [])) → Code.ret.wpIn N n P Q { a with defers := { target := .collected w.heap.size, args := #[] } :: a.defers } W) :
    (Code.rangeFunc g p0 assign body).wpIn N n P Q a w := by
  refine wpIn_rangeFunc ?_
  intro fn hfn
  rw [hro]
  -- the loop's record, in each of its states
  obtain ⟨R, hR⟩ : ∃ R : LoopState → Option Code → Loop, R = fun st pe => { state := st, pending := pe, fn, tmps := a.tmps, params := p0, assign, body, defers := w.heap.size } := ⟨_, rfl⟩
  obtain ⟨D, hD⟩ : ∃ D, w.heap.size = D := ⟨_, rfl⟩
  obtain ⟨W1, hW1⟩ : ∃ W1, (w.alloc (.deferred (some []))).alloc (.loop (R .ready none)) = W1 := ⟨_, rfl⟩
  have hb1 : Below D w W1 := by rw [← hW1, ← hD]; exact ((Below.refl _ w).alloc (Nat.le_refl _) _).alloc (by simp) _
  have hz1 : W1.heap.size = D + 2 := by rw [← hW1, ← hD]; simp
  have hrec : W1.heap[D + 1]? = some (.loop (R .ready none)) := by
    rw [← hW1, ← hD]; have := World.alloc_heap_new (w.alloc (.deferred (some []))) (.loop (R .ready none)); rwa [World.size_alloc] at this
  have hdef : W1.heap[D]? = some (.deferred (some [])) := by
    rw [← hW1, ← hD]; exact (Below.heap_alloc _ _ _ (by simp)).trans (World.alloc_heap_new w _)
  have hGV := hgives W1 (by rw [hD]; exact hb1) (by rw [hD]; exact hz1)
  have hent := run_enterLoop_outer (P := P) (w := w) fn a.tmps p0 assign body
  have hRe : (.loop { state := .ready, pending := none, fn, tmps := a.tmps, params := p0, assign, body, defers := w.heap.size } : Obj) = .loop (R .ready none) := by rw [hR]
  rw [hRe, hW1, hD] at hent
  have hF0 := hB _ _ _ h0
  rw [hD] at hkeep hI hIx hbody hdone hstop hF0
  refine ⟨D + 1, [{ target := .collected D, args := #[] }], W1, { target := .fn (.func gf) lb, args := #[.func (.yield (D + 1)) #[] #[]] }, W1, gf, #[.func (.yield (D + 1)) #[] #[]] ++ lb, W1, hent, ?_, ?_, ?_, fun _ => h1, ?_⟩
  · simp only [resolve, hg]
    simp [go_sem]
  · intro f' hf'; simp [Target.leads] at hf'; subst hf'; exact hFg
  · simp [invoke, go_sem, eg]
  -- what the rounds keep: the client's own, and the loop's record
  obtain ⟨J, hJd⟩ : ∃ J : Nat → (Nat → Prop) → World → Prop, J = fun S F W => ∃ G : Nat → Prop, (∀ b, F b ↔ (G b ∨ b = D ∨ b = D + 1)) ∧ ¬ G D ∧ ¬ G (D + 1) ∧ D + 2 ≤ W.heap.size ∧ I S G W ∧ W.heap[D + 1]? = some (.loop (R .ready none)) ∧ W.heap[D]? = some (.deferred (some [])) := ⟨_, rfl⟩
  refine (hGV (D + 1) J (fun W => Ix W ∧ W.heap[D + 1]? = some (.loop (R .done (some .ret))) ∧ W.heap[D]? = some (.deferred (some []))) ?_ ?_ ?_ ?_).mono ?_
  · rw [hJd]
    rintro S F A C ⟨G, hG, g1, g2, hz, hi, hl, hd⟩ hb
    exact ⟨G, hG, g1, g2, Nat.le_trans hz hb.size, hI _ _ _ _ hi (hb.mono fun i _ h => h.imp (fun h => by rw [hz1]; omega) fun h => (hG i).2 (.inl h)), (hb.block _ (by omega) (.inr ((hG _).2 (.inr (.inr rfl))))).trans hl, (hb.block _ (by omega) (.inr ((hG _).2 (.inr (.inl rfl))))).trans hd⟩
  · rw [hJd]
    rintro S F A ⟨G, hG, g1, g2, hz, hi, hl, hd⟩ b hb
    rcases (hG b).1 hb with h | h | h
    · exact hB _ _ _ hi b h
    · subst h; exact ⟨fun h => by have := hkeep _ h; omega, by omega⟩
    · subst h; exact ⟨fun h => by have := hkeep _ h; omega, by omega⟩
  · rw [hJd]
    rintro k s F W hkM ⟨G, hG, g1, g2, hz, hi, hl, hd⟩ hrd
    have hlt : D + 1 < W.heap.size := by omega
    have hy : (Instr.yield (D + 1) s).run P W = .ok (.round (D + 1) fn ((p0.zip s).foldl (fun tmps (t, u) => tmps.setIfInBounds t u) a.tmps) assign body) W := by
      rw [run_yield (P := P) (args := s) hl (by rw [hR]; exact hsz k s hrd), hR]
    refine ⟨fn, _, assign, body, hy, roundIn_of_wpIn hfn (hassign _ k s W _ hrd ?_)⟩
    refine ⟨_, run_beginRound hl (by rw [hR]), ?_⟩
    clear hy
    obtain ⟨W2, hW2⟩ : ∃ W2, W.putObj (D + 1) (.loop { R .ready none with state := .busy }) = W2 := ⟨_, rfl⟩
    have hl2 : W2.heap[D + 1]? = some (.loop { R .ready none with state := .busy }) := by rw [← hW2]; exact World.putObj_heap_same hlt
    have hd2 : W2.heap[D]? = some (.deferred (some [])) := by rw [← hW2]; exact (World.putObj_heap_other (by omega)).trans hd
    have hz2 : W2.heap.size = W.heap.size := by rw [← hW2]; simp
    have hap : ∀ K : Nat → Prop, ¬ K (D + 1) → Held K W W2 := fun K hK => by rw [← hW2]; exact Held.put W hK
    have hnot : ¬ (D + 1 < D ∨ G (D + 1)) := fun h => h.elim (fun h => by omega) g2
    rw [hW2]
    refine wpIn_mono (hbody _ k s G W2 hkM (hI _ _ _ _ hi (hap _ hnot)) hrd (by omega) g1 g2) ?_
    rintro e a3 W3 hp
    have fin : ∀ (jump : Option Code), Held (fun i => ¬ G i) W2 W3 → (Instr.endRound (D + 1) jump).run P W3 = .ok (.bool jump.isNone) (W3.putObj (D + 1) (.loop (R (if jump.isNone then .ready else .done) jump))) ∧
        (W3.putObj (D + 1) (.loop (R (if jump.isNone then .ready else .done) jump))).heap[D + 1]? = some (.loop (R (if jump.isNone then .ready else .done) jump)) ∧
        (W3.putObj (D + 1) (.loop (R (if jump.isNone then .ready else .done) jump))).heap[D]? = some (.deferred (some [])) := by
      intro jump h3
      have hlt2 : D + 1 < W2.heap.size := (Array.getElem?_eq_some_iff.1 hl2).1
      have hl3 := (h3.block (D + 1) hlt2 g2).trans hl2
      have hr3 := run_endRound (P := P) jump hl3
      rw [hR] at hr3 ⊢
      exact ⟨hr3, World.putObj_heap_same (Array.getElem?_eq_some_iff.1 hl3).1, (World.putObj_heap_other (by omega)).trans ((h3.block D (by omega) g1).trans hd2)⟩
    cases e with
    | normal =>
      obtain ⟨hon, h3, G', hG', hi3⟩ := hp
      obtain ⟨hr, hl4, hd4⟩ := fin none h3
      have n1 : ¬ G' D := fun h => (hG' D h).elim g1 (fun h => by omega)
      have n2 : ¬ G' (D + 1) := fun h => (hG' (D + 1) h).elim g2 (fun h => by omega)
      have hnot' : ¬ (D + 1 < D ∨ G' (D + 1)) := fun h => h.elim (fun h => by omega) n2
      have hz3 := h3.size
      refine ⟨_, _, hr, .inl ⟨rfl, hon, ?_, fun b => G' b ∨ b = D ∨ b = D + 1, fun b hb => ?_, G', fun b => Iff.rfl, n1, n2, by simp; omega, hI _ _ _ _ hi3 (Held.put W3 hnot'), hl4, hd4⟩⟩
      · refine (hap _ (fun h => h ((hG _).2 (.inr (.inr rfl))))).trans ((h3.mono (fun i _ h => fun hg => h ((hG i).2 (.inl hg)))).trans (Held.put W3 (fun h => h ((hG _).2 (.inr (.inr rfl))))))
      · rcases hb with h | h | h
        · rcases hG' b h with h | h
          · exact .inl ((hG b).2 (.inl h))
          · exact .inr (by omega)
        · exact .inl ((hG b).2 (.inr (.inl h)))
        · exact .inl ((hG b).2 (.inr (.inr h)))
    | ret =>
      obtain ⟨h3, hi3⟩ := hp
      obtain ⟨hr, hl4, hd4⟩ := fin (some .ret) h3
      exact ⟨_, _, hr, .inr ⟨rfl, hIx _ _ hi3 (Held.put W3 (fun h => h rfl)), hl4, hd4⟩⟩
    | exit _ => exact hp.elim
    | goto _ => exact hp.elim
    | panic _ => exact hp.elim
    | outgrown => exact hp.elim
  · rw [hJd]
    refine ⟨fun b => F0 b ∨ b = D ∨ b = D + 1, F0, fun b => Iff.rfl, fun h => by have := (hF0 _ h).2; omega, fun h => by have := (hF0 _ h).2; omega, by omega, hI _ _ _ _ h0 (Held.of_below hb1 (fun i hi _ => by omega)), hrec, hdef⟩
  · rw [hJd]
    rintro e W2 ⟨⟨v, rfl⟩, (⟨F, G, hG, g1, g2, hz, hi, hl, hd⟩ | ⟨hi, hl, hd⟩)⟩
    · exact ⟨none, _, by have := run_endLoop (P := P) hl (by rw [hR]; simp); rw [hR] at this; exact this, by rw [hD]; exact hdone G _ (hI _ _ _ _ hi (Held.put W2 (fun h => h.elim (fun h => by omega) g2))) ((World.putObj_heap_other (by omega)).trans hd)⟩
    · exact ⟨some .ret, _, by have := run_endLoop (P := P) hl (by rw [hR]; simp); rw [hR] at this; exact this, by rw [hD]; exact hstop _ (hIx _ _ hi (Held.put W2 (fun h => h rfl))) ((World.putObj_heap_other (by omega)).trans hd)⟩
end
end Go.Proofs.YtlikmgkjilmjpaaGreat

/-
  The least number of which a property holds: a loop's measure that hangs on what exists. Hangs on no program.
-/
namespace Go.Proofs.YtlikmgkjilmjpaaGreat
open Go.RowKit

def Least (Q : Nat → Prop) (n : Nat) : Prop := Q n ∧ ∀ m, Q m → n ≤ m
theorem least_ex {Q : Nat → Prop} (h : ∃ n, Q n) : ∃ n, Least Q n := by
  obtain ⟨n, hn⟩ := h
  induction n using Nat.strongRecOn with
  | _ n ih =>
    by_cases h : ∃ m, m < n ∧ Q m
    · obtain ⟨m, hm, hq⟩ := h
      exact ih m hm hq
    · exact ⟨n, hn, fun m hm => Nat.le_of_not_lt fun hlt => h ⟨m, hlt, hm⟩⟩
theorem least_at {Q : Nat → Prop} {m : Nat} (h : Q m) : Least Q (Classical.epsilon (Least Q)) := Classical.epsilon_spec (least_ex ⟨m, h⟩)
theorem addr_block (a : Addr) (j : Nat) : (a.add j).block = a.block := by unfold Addr.add; split <;> rfl
end Go.Proofs.YtlikmgkjilmjpaaGreat
