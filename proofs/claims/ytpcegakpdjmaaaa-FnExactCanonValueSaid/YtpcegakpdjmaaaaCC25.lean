/-
  Merged by program: Lays.
-/
import Derived.Test.YtpcegakpdjmaaaaCC3
import Derived.Test.YtpcegakpdjmaaaaCC2
import Derived.Maps.AppendAt
import Derived.Shelf.SlSortCmp.InsertionK

/-
  A call that leaves old blocks alone and only ever draws on: what the library's sort asks of a comparison. Hangs on no program.
-/
namespace Go.Proofs.Ytpcegakpdjmaaaa
open Go.RowKit

theorem ask_drawn {α : Type} : ∀ (k : Ask α) (w : World), w.drawn ≤ (w.ask k).2.drawn := by
  intro k
  induction k with
  | done a => intro w; exact Nat.le_refl _
  | ask what range k ih =>
    intro w
    rw [World.ask]
    split
    · exact ih _ _
    · exact Nat.le_trans (Nat.le_succ w.drawn) (ih _ { w with drawn := w.drawn + 1 })
theorem sys_drawn (w : World) (c : Sys) : w.drawn ≤ (w.sys c).2.drawn := by
  have h := ask_drawn (Kernel.perform c w.os) w
  unfold World.sys
  split
  · exact Nat.le_refl _
  · next e => rw [e] at h; exact h
theorem viewStore_drawn {P : Program} {w : World} {at_ : Addr} {u : TypeId} {k : Addr} {v : Value} {b : Bool} {r : World × List Addr} (h : w.viewStore P at_ u k v b = .ok r) : r.1.drawn = w.drawn := by
  unfold World.viewStore at h
  simp only [bind, Except.bind, pure, Except.pure] at h
  repeat' split at h
  all_goals first | (cases h; done) | (cases h; rfl)
theorem farStore_drawn {P : Program} {w : World} {a : Addr} {v : Value} {b : Bool} {r : World × List Addr} (h : w.farStore P a v b = .ok r) : r.1.drawn = w.drawn := by
  unfold World.farStore at h
  split at h
  · split at h
    · next hv => cases h; exact viewStore_drawn hv
    · cases h
  · cases h
theorem store_case {α : Type} {P : Program} {k : Sem α} (ih : ∀ (w : World) (r : α) (w' : World), k.run P w = .ok r w' → w.drawn ≤ w'.drawn) {w : World} {a : Addr} {v : Value} {b : Bool} {H : Halt} {r : α} {w' : World}
    (h : (match w.cell? a with | some _ => if w.frozen? a then (Result.halt H w : Result α) else k.run P (w.setCell a v) | none => match w.farStore P a v b with | .ok (w, _) => k.run P w | .error h => .halt h w) = .ok r w') : w.drawn ≤ w'.drawn := by
  split at h
  · split at h
    · cases h
    · exact ih (w.setCell a v) _ _ h
  · split at h
    · next w2 l e =>
      have h1 := farStore_drawn e
      have h2 := ih _ _ _ h
      simp only at h1
      omega
    · cases h
/-- a run draws on -/
theorem run_drawn {α : Type} {P : Program} : ∀ (m : Sem α) (w : World) (r : α) (w' : World), m.run P w = .ok r w' → w.drawn ≤ w'.drawn := by
  intro m
  induction m with
  | pure a => intro w r w' h; cases h; exact Nat.le_refl _
  | load m a k ih =>
    intro w r w' h
    rw [Sem.run] at h
    split at h
    · exact ih _ _ _ _ h
    · split at h
      · exact ih _ _ _ _ h
      · cases h
  | store m a v k ih =>
    intro w r w' h
    cases v <;> first | exact store_case ih h | cases h
  | new o k ih => intro w r w' h; exact ih w.heap.size { w with heap := w.heap.push o } r w' h
  | shape r k ih => intro w r w' h; exact ih _ _ _ _ h
  | freeze a n k ih =>
    intro w r w' h
    have := ih _ _ _ h
    unfold World.freeze at this
    split at this <;> exact this
  | frozen a k ih => intro w r w' h; exact ih _ _ _ _ h
  | getObj r k ih =>
    intro w r w' h
    rw [Sem.run] at h
    split at h
    · cases h
    · exact ih _ _ _ _ h
    · cases h
  | setObj q o k ih =>
    intro w r w' h
    rw [Sem.run] at h
    split at h
    · cases h
    · exact ih { w with heap := w.heap.setIfInBounds q o } _ _ h
    · cases h
  | choose q k ih =>
    intro w r w' h
    rw [Sem.run] at h
    split at h
    · exact ih _ _ _ _ h
    · exact Nat.le_trans (Nat.le_succ w.drawn) (ih _ _ _ _ h)
  | sys c k ih => intro w r w' h; exact Nat.le_trans (sys_drawn w c) (ih _ _ _ _ h)
  | program k ih => intro w r w' h; exact ih _ _ _ _ h
  | mark m k ih => intro w r w' h; exact ih _ _ _ h
  | halt h => intro w r w' h; cases h

/-- old blocks are as they were; the draws went on -/
structure Lays (w w' : World) : Prop where
  below : Below w.heap.size w w'
  drawn : w.drawn ≤ w'.drawn
section
variable {a w w' : World}
theorem Lays.refl (w : World) : Lays w w := ⟨Below.refl _ _, Nat.le_refl _⟩
theorem Lays.trans {b : World} (h : Lays w a) (k : Lays a b) : Lays w b := ⟨h.below.trans (k.below.mono h.below.size), Nat.le_trans h.drawn k.drawn⟩
theorem Lays.alloc (h : Lays w a) (o : Obj) : Lays w (a.alloc o) := ⟨h.below.alloc h.below.size o, h.drawn⟩
theorem Lays.drew (h : Lays w a) : Lays w a.drew := ⟨h.below.drew, Nat.le_trans h.drawn (Nat.le_succ _)⟩
theorem Lays.drewN (h : Lays w a) (n : Nat) : Lays w (a.drewN n) := ⟨below_drewN h.below n, Nat.le_trans h.drawn (Nat.le_add_right _ _)⟩
theorem Lays.setCell (h : Lays w a) {p : Addr} (hp : w.heap.size ≤ p.block) (u : Value) : Lays w (a.setCell p u) := ⟨h.below.setCell hp u, h.drawn⟩
theorem Lays.grown {row : Option Nat} (h : Lays w a) (hg : a.grownBy w' row) (hd : a.drawn ≤ w'.drawn) (hr : ∀ g, row = some g → w.heap.size ≤ g) : Lays w w' :=
  ⟨h.below.grown hg h.below.size hr, Nat.le_trans h.drawn hd⟩
theorem Lays.eq (h : Lays w w') : ∃ q os', w' = Sort.grow (w.drewN q) os' := by
  refine ⟨w'.drawn - w.drawn, w'.heap.extract w.heap.size w'.heap.size, ?_⟩
  obtain ⟨⟨h1, h2, h3, h4, h5⟩, h6⟩ := h
  cases w'
  unfold Sort.grow World.drewN
  simp only at *
  congr 1
  · apply Array.ext_getElem?
    intro i
    rcases Nat.lt_or_ge i w.heap.size with hi | hi
    · rw [h5 i hi, Array.getElem?_append_left hi]
    · rw [Array.getElem?_append_right hi, Array.getElem?_extract]
      split
      · congr 1; omega
      · rw [Array.getElem?_eq_none (by omega)]
  · omega
/-- an append onto a row of the call's own: also, that the draws went on -/
theorem wpList_append_lays {P : Program} (w : World) {ops : Array Oper} {rest : List Oper} {o : Oper} {a : Act} {Q : Exit → Act → World → Prop} (hgd : o.guard = none) (s x : Operand) (t : TypeId)
    (ho : o.op = .call { callee := .builtin .append, args := #[s, x], argTypes := #[t, t] })
    (base : Nat) (e : TypeId) (i : TypeInfo) (z : Value) (size bytes : Nat) (ht : P.underlying t = some (.slice e)) (hi : P.info? e = some i) (hz : i.zero = some z) (hsize : i.size = size) (hby : i.bytes = bytes) (hzs : z.cells.size = size) (hsz : 0 < size)
    (v : Value) (n : Nat) (xs : List Value) (hs : a.eval s = v) (hown : w.ownsRow base e size v n xs) (ad : Addr) (m c : Nat) (news : List Value) (hx : a.eval x = .slice (some ad) m c) (hl : news.length = m * size)
    (hnews : ∀ j u, news[j]? = some u → w.cell? (ad.add j) = some u) (h1 : ∀ u ∈ news, u.oneCell' = true) (h63 : n + m ≤ maxLen) (hbytes : (n + m) * bytes ≤ 140737488355328) (hbase : base ≤ w.heap.size)
    (h : ∀ v' w', w'.ownsRow base e size v' (n + m) (xs ++ news) → w.grownBy w' v.ownBlock → w.drawn ≤ w'.drawn → wpList P ops Q rest (a.put o.dst v') w') : wpList P ops Q (o :: rest) a w := by
  obtain ⟨v', w', hr, h2, h3, _, h4⟩ := run_append_own_at (P := P) w base t o.type e i z size bytes ht hi hz hsize hby hzs hsz v n xs hown ad m c news hl hnews h1 h63 hbytes hbase
  exact Lib.wpList_append_run w hgd s x t t ho _ _ hs hx v' w' hr (h v' w' h2 h3 (run_drawn _ _ _ _ hr))
/-- .. as a step of a region that draws its order -/
theorem step_append_lays {P : Program} {ops : Array Oper} {o : Oper} {a : Act} {w : World} {K : Act → World → Prop} {Q : Exit → Act → World → Prop} {E : Prop} (hgd : o.guard = none) (s x : Operand) (t : TypeId)
    (ho : o.op = .call { callee := .builtin .append, args := #[s, x], argTypes := #[t, t] })
    (base : Nat) (e : TypeId) (i : TypeInfo) (z : Value) (size bytes : Nat) (ht : P.underlying t = some (.slice e)) (hi : P.info? e = some i) (hz : i.zero = some z) (hsize : i.size = size) (hby : i.bytes = bytes) (hzs : z.cells.size = size) (hsz : 0 < size)
    (v : Value) (n : Nat) (xs : List Value) (hs : a.eval s = v) (hown : w.ownsRow base e size v n xs) (ad : Addr) (m c : Nat) (news : List Value) (hx : a.eval x = .slice (some ad) m c) (hl : news.length = m * size)
    (hnews : ∀ j u, news[j]? = some u → w.cell? (ad.add j) = some u) (h1 : ∀ u ∈ news, u.oneCell' = true) (h63 : n + m ≤ maxLen) (hbytes : (n + m) * bytes ≤ 140737488355328) (hbase : base ≤ w.heap.size)
    (h : ∀ v' w', w'.ownsRow base e size v' (n + m) (xs ++ news) → w.grownBy w' v.ownBlock → w.drawn ≤ w'.drawn → K (a.put o.dst v') w') : if Region.wanted o (yielded ops a.tmps) = true then Oper.wp P o a w K Q else E := by
  obtain ⟨v', w', hr, h2, h3, _, h4⟩ := run_append_own_at (P := P) w base t o.type e i z size bytes ht hi hz hsize hby hzs hsz v n xs hown ad m c news hl hnews h1 h63 hbytes hbase
  have hw : Region.wanted o (yielded ops a.tmps) = true := by simp [Region.wanted, hgd]
  rw [if_pos hw]
  exact Lib.wp_append_run w s x t t ho _ _ hs hx v' w' hr (h v' w' h2 h3 (run_drawn _ _ _ _ hr))
end
end Go.Proofs.Ytpcegakpdjmaaaa
