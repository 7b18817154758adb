/-
  Merged by program: Pre2C, Lays.
-/
import Derived.Test.YtlcpekpgkllbkaaD34
import Derived.Test.YtlcpekpgkllbkaaD28
import Derived.Test.YtlcpekpgkllbkaaD2
import Derived.Test.YtlcpekpgkllbkaaD11
import Derived.Maps.AppendAt
import Derived.Shelf.SlSortCmp.InsertionK

/-
  Two values compared node by node in the order of the walk by pairs. Hangs on no program.
-/
namespace Go.Proofs.Ytlcpekpgkllbkaa
open Go.RowKit

/-- the first pair of nodes that is not alike decides -/
def ndC (p : Va × Va) : Int := nodeC p.1.top p.1.kids.length p.2.top p.2.kids.length
def fstC : List (Va × Va) → Int
  | [] => 0
  | p :: ps => orC (ndC p) (fstC ps)
theorem orC_nil2 (a : Int) : orC a 0 = a := by unfold orC; split <;> simp_all
theorem orC_ass (a b c : Int) : orC (orC a b) c = orC a (orC b c) := by
  unfold orC
  by_cases h : a = 0
  · simp [h]
  · simp [h]
theorem fstC_app (ps qs : List (Va × Va)) : fstC (ps ++ qs) = orC (fstC ps) (fstC qs) := by
  induction ps with
  | nil => rfl
  | cons p ps ih => rw [List.cons_append, fstC, ih, fstC, orC_ass]
theorem ndC_len {x y : Va} (h : ndC (x, y) = 0) : x.kids.length = y.kids.length := by
  unfold ndC nodeC at h
  exact (keyV_inj ((ordKey.zero _ _).1 h)).2
theorem fstC_pre2 : ∀ x y : Va, fstC (pre2 x y) = cmpV x y := by
  refine Tr.ind ?_
  intro a ks ih y
  obtain ⟨b, ls⟩ := y
  have hL : ∀ (ts us : List Va), (∀ t ∈ ts, t ∈ ks) → ts.length = us.length → fstC (pairL ts us) = lexC cmpV ts us := by
    intro ts
    induction ts with
    | nil =>
      intro us _ hl
      match us, hl with
      | [], _ => rfl
    | cons t ts iht =>
      intro us hm hl
      match us, hl with
      | u :: us, hl =>
        rw [pairL_cons, fstC_app, ih t (hm t (by simp)) u, iht us (fun z hz => hm z (by simp [hz])) (by simpa using hl)]
        rfl
  rw [pre2_top, fstC, cmpV_node]
  show orC (nodeC a ks.length b ls.length) (fstC (pairL ks ls)) = _
  by_cases h0 : nodeC a ks.length b ls.length = 0
  · rw [hL ks ls (fun _ h => h) (ndC_len (x := .node a ks) (y := .node b ls) h0)]
  · unfold orC
    rw [if_neg h0, if_neg h0]
/-- up to k all is alike, the k-th pair is not -/
theorem cmpV_at {x y : Va} {k : Nat} {p : Va × Va} (h : ∀ j q, j < k → (pre2 x y)[j]? = some q → ndC q = 0) (hk : (pre2 x y)[k]? = some p) (hp : ndC p ≠ 0) : cmpV x y = ndC p := by
  rw [← fstC_pre2]
  generalize pre2 x y = ps at h hk
  induction ps generalizing k with
  | nil => simp at hk
  | cons q ps ih =>
    cases k with
    | zero =>
      simp at hk
      subst hk
      rw [fstC]
      unfold orC
      rw [if_neg hp]
    | succ k =>
      rw [fstC, h 0 q (by omega) rfl]
      exact ih (k := k) (fun j r hj hr => h (j + 1) r (by omega) (by simpa using hr)) (by simpa using hk)
theorem cmpV_all {x y : Va} (h : ∀ q ∈ pre2 x y, ndC q = 0) : cmpV x y = 0 := by
  rw [← fstC_pre2]
  generalize pre2 x y = ps at h
  induction ps with
  | nil => rfl
  | cons q ps ih =>
    rw [fstC, h q (by simp)]
    exact ih fun r hr => h r (by simp [hr])
end Go.Proofs.Ytlcpekpgkllbkaa

/-
  A call that leaves old blocks alone and only ever draws on: what the library's sort asks of a comparison. Hangs on no program.
-/
namespace Go.Proofs.Ytlcpekpgkllbkaa
open Go.RowKit

theorem ask_drawn {α : Type} : ∀ (k : Ask α) (w : World), w.drawn ≤ (w.ask k).2.drawn := by
  intro k
  induction k with
  | done a => intro w; exact Nat.le_refl _
  | ask what range k ih =>
    intro w
    rw [World.ask]
    split
    · exact ih _ _
    · exact Nat.le_trans (Nat.le_succ w.drawn) (ih _ { w with drawn := w.drawn + 1 })
theorem sys_drawn (w : World) (c : Sys) : w.drawn ≤ (w.sys c).2.drawn := by
  have h := ask_drawn (Kernel.perform c w.os) w
  unfold World.sys
  split
  · exact Nat.le_refl _
  · next e => rw [e] at h; exact h
theorem viewStore_drawn {P : Program} {w : World} {at_ : Addr} {u : TypeId} {k : Addr} {v : Value} {b : Bool} {r : World × List Addr} (h : w.viewStore P at_ u k v b = .ok r) : r.1.drawn = w.drawn := by
  unfold World.viewStore at h
  simp only [bind, Except.bind, pure, Except.pure] at h
  repeat' split at h
  all_goals first | (cases h; done) | (cases h; rfl)
theorem farStore_drawn {P : Program} {w : World} {a : Addr} {v : Value} {b : Bool} {r : World × List Addr} (h : w.farStore P a v b = .ok r) : r.1.drawn = w.drawn := by
  unfold World.farStore at h
  split at h
  · split at h
    · next hv => cases h; exact viewStore_drawn hv
    · cases h
  · cases h
theorem store_case {α : Type} {P : Program} {k : Sem α} (ih : ∀ (w : World) (r : α) (w' : World), k.run P w = .ok r w' → w.drawn ≤ w'.drawn) {w : World} {a : Addr} {v : Value} {b : Bool} {H : Halt} {r : α} {w' : World}
    (h : (match w.cell? a with | some _ => if w.frozen? a then (Result.halt H w : Result α) else k.run P (w.setCell a v) | none => match w.farStore P a v b with | .ok (w, _) => k.run P w | .error h => .halt h w) = .ok r w') : w.drawn ≤ w'.drawn := by
  split at h
  · split at h
    · cases h
    · exact ih (w.setCell a v) _ _ h
  · split at h
    · next w2 l e =>
      have h1 := farStore_drawn e
      have h2 := ih _ _ _ h
      simp only at h1
      omega
    · cases h
/-- a run draws on -/
theorem run_drawn {α : Type} {P : Program} : ∀ (m : Sem α) (w : World) (r : α) (w' : World), m.run P w = .ok r w' → w.drawn ≤ w'.drawn := by
  intro m
  induction m with
  | pure a => intro w r w' h; cases h; exact Nat.le_refl _
  | load m a k ih =>
    intro w r w' h
    rw [Sem.run] at h
    split at h
    · exact ih _ _ _ _ h
    · split at h
      · exact ih _ _ _ _ h
      · cases h
  | store m a v k ih =>
    intro w r w' h
    cases v <;> first | exact store_case ih h | cases h
  | new o k ih => intro w r w' h; exact ih w.heap.size { w with heap := w.heap.push o } r w' h
  | shape r k ih => intro w r w' h; exact ih _ _ _ _ h
  | freeze a n k ih =>
    intro w r w' h
    have := ih _ _ _ h
    unfold World.freeze at this
    split at this <;> exact this
  | frozen a k ih => intro w r w' h; exact ih _ _ _ _ h
  | getObj r k ih =>
    intro w r w' h
    rw [Sem.run] at h
    split at h
    · cases h
    · exact ih _ _ _ _ h
    · cases h
  | setObj q o k ih =>
    intro w r w' h
    rw [Sem.run] at h
    split at h
    · cases h
    · exact ih { w with heap := w.heap.setIfInBounds q o } _ _ h
    · cases h
  | choose q k ih =>
    intro w r w' h
    rw [Sem.run] at h
    split at h
    · exact ih _ _ _ _ h
    · exact Nat.le_trans (Nat.le_succ w.drawn) (ih _ _ _ _ h)
  | sys c k ih => intro w r w' h; exact Nat.le_trans (sys_drawn w c) (ih _ _ _ _ h)
  | program k ih => intro w r w' h; exact ih _ _ _ _ h
  | mark m k ih => intro w r w' h; exact ih _ _ _ h
  | halt h => intro w r w' h; cases h

/-- old blocks are as they were; the draws went on -/
structure Lays (w w' : World) : Prop where
  below : Below w.heap.size w w'
  drawn : w.drawn ≤ w'.drawn
section
variable {a w w' : World}
theorem Lays.refl (w : World) : Lays w w := ⟨Below.refl _ _, Nat.le_refl _⟩
theorem Lays.trans {b : World} (h : Lays w a) (k : Lays a b) : Lays w b := ⟨h.below.trans (k.below.mono h.below.size), Nat.le_trans h.drawn k.drawn⟩
theorem Lays.alloc (h : Lays w a) (o : Obj) : Lays w (a.alloc o) := ⟨h.below.alloc h.below.size o, h.drawn⟩
theorem Lays.drew (h : Lays w a) : Lays w a.drew := ⟨h.below.drew, Nat.le_trans h.drawn (Nat.le_succ _)⟩
theorem Lays.drewN (h : Lays w a) (n : Nat) : Lays w (a.drewN n) := ⟨below_drewN h.below n, Nat.le_trans h.drawn (Nat.le_add_right _ _)⟩
theorem Lays.setCell (h : Lays w a) {p : Addr} (hp : w.heap.size ≤ p.block) (u : Value) : Lays w (a.setCell p u) := ⟨h.below.setCell hp u, h.drawn⟩
theorem Lays.grown {row : Option Nat} (h : Lays w a) (hg : a.grownBy w' row) (hd : a.drawn ≤ w'.drawn) (hr : ∀ g, row = some g → w.heap.size ≤ g) : Lays w w' :=
  ⟨h.below.grown hg h.below.size hr, Nat.le_trans h.drawn hd⟩
theorem Lays.eq (h : Lays w w') : ∃ q os', w' = Sort.grow (w.drewN q) os' := by
  refine ⟨w'.drawn - w.drawn, w'.heap.extract w.heap.size w'.heap.size, ?_⟩
  obtain ⟨⟨h1, h2, h3, h4, h5⟩, h6⟩ := h
  cases w'
  unfold Sort.grow World.drewN
  simp only at *
  congr 1
  · apply Array.ext_getElem?
    intro i
    rcases Nat.lt_or_ge i w.heap.size with hi | hi
    · rw [h5 i hi, Array.getElem?_append_left hi]
    · rw [Array.getElem?_append_right hi, Array.getElem?_extract]
      split
      · congr 1; omega
      · rw [Array.getElem?_eq_none (by omega)]
  · omega
/-- an append onto a row of the call's own: also, that the draws went on -/
theorem wpList_append_lays {P : Program} (w : World) {ops : Array Oper} {rest : List Oper} {o : Oper} {a : Act} {Q : Exit → Act → World → Prop} (hgd : o.guard = none) (s x : Operand) (t : TypeId)
    (ho : o.op = .call { callee := .builtin .append, args := #[s, x], argTypes := #[t, t] })
    (base : Nat) (e : TypeId) (i : TypeInfo) (z : Value) (size bytes : Nat) (ht : P.underlying t = some (.slice e)) (hi : P.info? e = some i) (hz : i.zero = some z) (hsize : i.size = size) (hby : i.bytes = bytes) (hzs : z.cells.size = size) (hsz : 0 < size)
    (v : Value) (n : Nat) (xs : List Value) (hs : a.eval s = v) (hown : w.ownsRow base e size v n xs) (ad : Addr) (m c : Nat) (news : List Value) (hx : a.eval x = .slice (some ad) m c) (hl : news.length = m * size)
    (hnews : ∀ j u, news[j]? = some u → w.cell? (ad.add j) = some u) (h1 : ∀ u ∈ news, u.oneCell' = true) (h63 : n + m ≤ maxLen) (hbytes : (n + m) * bytes ≤ 140737488355328) (hbase : base ≤ w.heap.size)
    (h : ∀ v' w', w'.ownsRow base e size v' (n + m) (xs ++ news) → w.grownBy w' v.ownBlock → w.drawn ≤ w'.drawn → wpList P ops Q rest (a.put o.dst v') w') : wpList P ops Q (o :: rest) a w := by
  obtain ⟨v', w', hr, h2, h3, _, h4⟩ := run_append_own_at (P := P) w base t o.type e i z size bytes ht hi hz hsize hby hzs hsz v n xs hown ad m c news hl hnews h1 h63 hbytes hbase
  exact Lib.wpList_append_run w hgd s x t t ho _ _ hs hx v' w' hr (h v' w' h2 h3 (run_drawn _ _ _ _ hr))
/-- .. as a step of a region that draws its order -/
theorem step_append_lays {P : Program} {ops : Array Oper} {o : Oper} {a : Act} {w : World} {K : Act → World → Prop} {Q : Exit → Act → World → Prop} {E : Prop} (hgd : o.guard = none) (s x : Operand) (t : TypeId)
    (ho : o.op = .call { callee := .builtin .append, args := #[s, x], argTypes := #[t, t] })
    (base : Nat) (e : TypeId) (i : TypeInfo) (z : Value) (size bytes : Nat) (ht : P.underlying t = some (.slice e)) (hi : P.info? e = some i) (hz : i.zero = some z) (hsize : i.size = size) (hby : i.bytes = bytes) (hzs : z.cells.size = size) (hsz : 0 < size)
    (v : Value) (n : Nat) (xs : List Value) (hs : a.eval s = v) (hown : w.ownsRow base e size v n xs) (ad : Addr) (m c : Nat) (news : List Value) (hx : a.eval x = .slice (some ad) m c) (hl : news.length = m * size)
    (hnews : ∀ j u, news[j]? = some u → w.cell? (ad.add j) = some u) (h1 : ∀ u ∈ news, u.oneCell' = true) (h63 : n + m ≤ maxLen) (hbytes : (n + m) * bytes ≤ 140737488355328) (hbase : base ≤ w.heap.size)
    (h : ∀ v' w', w'.ownsRow base e size v' (n + m) (xs ++ news) → w.grownBy w' v.ownBlock → w.drawn ≤ w'.drawn → K (a.put o.dst v') w') : if Region.wanted o (yielded ops a.tmps) = true then Oper.wp P o a w K Q else E := by
  obtain ⟨v', w', hr, h2, h3, _, h4⟩ := run_append_own_at (P := P) w base t o.type e i z size bytes ht hi hz hsize hby hzs hsz v n xs hown ad m c news hl hnews h1 h63 hbytes hbase
  have hw : Region.wanted o (yielded ops a.tmps) = true := by simp [Region.wanted, hgd]
  rw [if_pos hw]
  exact Lib.wp_append_run w s x t t ho _ _ hs hx v' w' hr (h v' w' h2 h3 (run_drawn _ _ _ _ hr))
end
end Go.Proofs.Ytlcpekpgkllbkaa
