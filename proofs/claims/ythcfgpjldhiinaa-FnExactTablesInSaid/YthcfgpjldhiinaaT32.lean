/-
  Merged by program: CopyG.
-/
import Derived.Test.YthcfgpjldhiinaaT31
import Derived.Test.YthcfgpjldhiinaaT17
import Derived.Deep.RegionLaw

/-
  Steps that appends in regions share; small facts on blocks. Hangs on no program.
-/
namespace Go.Proofs.Ythcfgpjldhiinaa
open Go.RowKit

theorem nodup3 {L A F : List Nat} : (L ++ A ++ F).Nodup ↔ L.Nodup ∧ A.Nodup ∧ F.Nodup ∧ (∀ x ∈ L, x ∉ A) ∧ (∀ x ∈ L, x ∉ F) ∧ (∀ x ∈ A, x ∉ F) := by
  rw [List.nodup_append, List.nodup_append]
  constructor
  · rintro ⟨⟨h1, h2, h3⟩, h4, h5⟩
    exact ⟨h1, h2, h4, fun x hx hy => h3 x hx x hy rfl, fun x hx hy => h5 x (by simp [hx]) x hy rfl, fun x hx hy => h5 x (by simp [hx]) x hy rfl⟩
  · rintro ⟨h1, h2, h3, h4, h5, h6⟩
    refine ⟨⟨h1, h2, fun x hx y hy e => h4 x hx (e ▸ hy)⟩, h3, fun x hx y hy e => ?_⟩
    subst e
    rcases List.mem_append.1 hx with hx | hx
    · exact h5 x hx hy
    · exact h6 x hx hy
theorem blk_nodup (A : Option Addr) : (blk A).Nodup := by cases A <;> simp [blk]
theorem own_shape3 {w : World} {base size : Nat} {e : TypeId} {v : Value} {n : Nat} {xs : List Value} (h : w.ownsRow base e size v n xs) : ∃ A c, v = .slice A n c := by
  rcases h.2 with ⟨rfl, rfl⟩ | ⟨g, cap, cur, rfl, _⟩
  · exact ⟨none, 0, rfl⟩
  · exact ⟨_, cap, rfl⟩
theorem own_zero {w : World} {base size : Nat} {e : TypeId} {v : Value} {n : Nat} {xs : List Value} (h : w.ownsRow base e size v n xs) : w.ownsRow 0 e size v n xs :=
  ⟨h.1, h.2.imp id fun ⟨g, cap, cur, h1, _, h3⟩ => ⟨g, cap, cur, h1, Nat.zero_le _, h3⟩⟩
theorem kid_le_sum {β : Type} (f : β → Nat) {ks : List β} {t : β} (h : t ∈ ks) : f t ≤ (ks.map f).sum := by
  induction ks with
  | nil => cases h
  | cons x xs ih =>
    rcases List.mem_cons.1 h with rfl | h
    · simp
    · have := ih h; simp; omega
/-- an append onto a row of the call's own that is empty, as a step of a region that draws its order -/
theorem step_append_new {P : Program} {ops : Array Oper} {o : Oper} {a : Act} {w : World} {K : Act → World → Prop} {Q : Exit → Act → World → Prop} {E : Prop} (hgd : o.guard = none) (s x : Operand) (t : TypeId)
    (ho : o.op = .call { callee := .builtin .append, args := #[s, x], argTypes := #[t, t] })
    (base : Nat) (e : TypeId) (i : TypeInfo) (z : Value) (bytes : Nat) (ht : P.underlying t = some (.slice e)) (hi : P.info? e = some i) (hz : i.zero = some z) (hsize : i.size = 1) (hby : i.bytes = bytes) (hzs : z.cells.size = 1)
    (v : Value) (hs : a.eval s = v) (hown : w.ownsRow base e 1 v 0 []) (A : Option Addr) (m c : Nat) (news : List Value) (hx : a.eval x = .slice A m c) (hl : news.length = m) (hnews : Sl w A news) (h1 : ∀ u ∈ news, u.oneCell' = true)
    (h63 : m ≤ maxLen) (hbytes : m * bytes ≤ 140737488355328) (hbase : base ≤ w.heap.size)
    (h : ∀ LL lc w', w'.ownsRow base e 1 (.slice LL m lc) m news → w.grownBy w' v.ownBlock → (∀ b ∈ blk LL, v.ownBlock = some b ∨ b = w.heap.size) → K (a.put o.dst (.slice LL m lc)) w') :
    if Region.wanted o (yielded ops a.tmps) = true then Oper.wp P o a w K Q else E := by
  obtain ⟨v', w', hr, h2, h3, h4⟩ := run_append_sl w base t o.type e i z bytes ht hi hz hsize hby hzs v 0 [] hown A m c news hl hnews h1 (by omega) (by rw [Nat.zero_add]; exact hbytes) hbase
  rw [Nat.zero_add, List.nil_append] at h2
  obtain ⟨LL, lc, rfl⟩ := own_shape h2
  have hw : Region.wanted o (yielded ops a.tmps) = true := by simp [Region.wanted, hgd]
  rw [if_pos hw]
  refine Lib.wp_append_run w s x t t ho _ _ hs hx _ w' hr (h LL lc w' h2 h3 fun b hb => ?_)
  have e := (blk_own LL m lc b).2 hb
  rcases h4 with h4 | h4
  · rw [h4] at e; exact .inl e
  · rw [h4] at e; injection e with e; exact .inr e.symm

/-- an append onto a row of the call's own, as a step of a region that draws its order: elements of any size -/
theorem step_append_at {P : Program} {ops : Array Oper} {o : Oper} {a : Act} {w : World} {K : Act → World → Prop} {Q : Exit → Act → World → Prop} {E : Prop} (hgd : o.guard = none) (s x : Operand) (t : TypeId)
    (ho : o.op = .call { callee := .builtin .append, args := #[s, x], argTypes := #[t, t] })
    (base : Nat) (e : TypeId) (i : TypeInfo) (z : Value) (size bytes : Nat) (ht : P.underlying t = some (.slice e)) (hi : P.info? e = some i) (hz : i.zero = some z) (hsize : i.size = size) (hby : i.bytes = bytes) (hzs : z.cells.size = size) (hsz : 0 < size)
    (v : Value) (n : Nat) (xs : List Value) (hs : a.eval s = v) (hown : w.ownsRow base e size v n xs) (ad : Addr) (m c : Nat) (news : List Value) (hx : a.eval x = .slice (some ad) m c) (hl : news.length = m * size)
    (hnews : ∀ j u, news[j]? = some u → w.cell? (ad.add j) = some u) (h1 : ∀ u ∈ news, u.oneCell' = true) (h63 : n + m ≤ maxLen) (hbytes : (n + m) * bytes ≤ 140737488355328) (hbase : base ≤ w.heap.size)
    (h : ∀ A4 d4 w4, w4.ownsRow base e size (.slice A4 (n + m) d4) (n + m) (xs ++ news) → w.grownBy w4 v.ownBlock → ((Value.slice A4 (n + m) d4).ownBlock = v.ownBlock ∨ (Value.slice A4 (n + m) d4).ownBlock = some w.heap.size) → K (a.put o.dst (.slice A4 (n + m) d4)) w4) :
    if Region.wanted o (yielded ops a.tmps) = true then Oper.wp P o a w K Q else E := by
  obtain ⟨v', w', hr, h2, h3, _, h4⟩ := run_append_own_at (P := P) w base t o.type e i z size bytes ht hi hz hsize hby hzs hsz v n xs hown ad m c news hl hnews h1 h63 hbytes hbase
  obtain ⟨A4, d4, rfl⟩ := own_shape3 h2
  have hw : Region.wanted o (yielded ops a.tmps) = true := by simp [Region.wanted, hgd]
  rw [if_pos hw]
  exact Lib.wp_append_run w s x t t ho _ _ hs hx _ w' hr (h A4 d4 w' h2 h3 h4)
end Go.Proofs.Ythcfgpjldhiinaa
