/-
  Merged by program: Lays, CmpN, NodD.
-/
import Derived.Test.YtlcpekpgkllbkaaR2
import Derived.Test.YtlcpekpgkllbkaaR7
import Derived.Maps.AppendAt
import Derived.Shelf.SlSortCmp.InsertionK
import Derived.Test.YtlcpekpgkllbkaaR39
import Derived.Test.YtlcpekpgkllbkaaR20
import Derived.Deep.RegionHeld3

/-
  A call that leaves old blocks alone and only ever draws on: what the library's sort asks of a comparison. Hangs on no program.
-/
namespace Go.Proofs.Ytlcpekpgkllbkaa
open Go.RowKit

theorem ask_drawn {α : Type} : ∀ (k : Ask α) (w : World), w.drawn ≤ (w.ask k).2.drawn := by
  intro k
  induction k with
  | done a => intro w; exact Nat.le_refl _
  | ask what range k ih =>
    intro w
    rw [World.ask]
    split
    · exact ih _ _
    · exact Nat.le_trans (Nat.le_succ w.drawn) (ih _ { w with drawn := w.drawn + 1 })
theorem sys_drawn (w : World) (c : Sys) : w.drawn ≤ (w.sys c).2.drawn := by
  have h := ask_drawn (Kernel.perform c w.os) w
  unfold World.sys
  split
  · exact Nat.le_refl _
  · next e => rw [e] at h; exact h
theorem viewStore_drawn {P : Program} {w : World} {at_ : Addr} {u : TypeId} {k : Addr} {v : Value} {b : Bool} {r : World × List Addr} (h : w.viewStore P at_ u k v b = .ok r) : r.1.drawn = w.drawn := by
  unfold World.viewStore at h
  simp only [bind, Except.bind, pure, Except.pure] at h
  repeat' split at h
  all_goals first | (cases h; done) | (cases h; rfl)
theorem farStore_drawn {P : Program} {w : World} {a : Addr} {v : Value} {b : Bool} {r : World × List Addr} (h : w.farStore P a v b = .ok r) : r.1.drawn = w.drawn := by
  unfold World.farStore at h
  split at h
  · split at h
    · next hv => cases h; exact viewStore_drawn hv
    · cases h
  · cases h
theorem store_case {α : Type} {P : Program} {k : Sem α} (ih : ∀ (w : World) (r : α) (w' : World), k.run P w = .ok r w' → w.drawn ≤ w'.drawn) {w : World} {a : Addr} {v : Value} {b : Bool} {H : Halt} {r : α} {w' : World}
    (h : (match w.cell? a with | some _ => if w.frozen? a then (Result.halt H w : Result α) else k.run P (w.setCell a v) | none => match w.farStore P a v b with | .ok (w, _) => k.run P w | .error h => .halt h w) = .ok r w') : w.drawn ≤ w'.drawn := by
  split at h
  · split at h
    · cases h
    · exact ih (w.setCell a v) _ _ h
  · split at h
    · next w2 l e =>
      have h1 := farStore_drawn e
      have h2 := ih _ _ _ h
      simp only at h1
      omega
    · cases h
/-- a run draws on -/
theorem run_drawn {α : Type} {P : Program} : ∀ (m : Sem α) (w : World) (r : α) (w' : World), m.run P w = .ok r w' → w.drawn ≤ w'.drawn := by
  intro m
  induction m with
  | pure a => intro w r w' h; cases h; exact Nat.le_refl _
  | load m a k ih =>
    intro w r w' h
    rw [Sem.run] at h
    split at h
    · exact ih _ _ _ _ h
    · split at h
      · exact ih _ _ _ _ h
      · cases h
  | store m a v k ih =>
    intro w r w' h
    cases v <;> first | exact store_case ih h | cases h
  | new o k ih => intro w r w' h; exact ih w.heap.size { w with heap := w.heap.push o } r w' h
  | shape r k ih => intro w r w' h; exact ih _ _ _ _ h
  | freeze a n k ih =>
    intro w r w' h
    have := ih _ _ _ h
    unfold World.freeze at this
    split at this <;> exact this
  | frozen a k ih => intro w r w' h; exact ih _ _ _ _ h
  | getObj r k ih =>
    intro w r w' h
    rw [Sem.run] at h
    split at h
    · cases h
    · exact ih _ _ _ _ h
    · cases h
  | setObj q o k ih =>
    intro w r w' h
    rw [Sem.run] at h
    split at h
    · cases h
    · exact ih { w with heap := w.heap.setIfInBounds q o } _ _ h
    · cases h
  | choose q k ih =>
    intro w r w' h
    rw [Sem.run] at h
    split at h
    · exact ih _ _ _ _ h
    · exact Nat.le_trans (Nat.le_succ w.drawn) (ih _ _ _ _ h)
  | sys c k ih => intro w r w' h; exact Nat.le_trans (sys_drawn w c) (ih _ _ _ _ h)
  | program k ih => intro w r w' h; exact ih _ _ _ _ h
  | mark m k ih => intro w r w' h; exact ih _ _ _ h
  | halt h => intro w r w' h; cases h

/-- old blocks are as they were; the draws went on -/
structure Lays (w w' : World) : Prop where
  below : Below w.heap.size w w'
  drawn : w.drawn ≤ w'.drawn
section
variable {a w w' : World}
theorem Lays.refl (w : World) : Lays w w := ⟨Below.refl _ _, Nat.le_refl _⟩
theorem Lays.trans {b : World} (h : Lays w a) (k : Lays a b) : Lays w b := ⟨h.below.trans (k.below.mono h.below.size), Nat.le_trans h.drawn k.drawn⟩
theorem Lays.alloc (h : Lays w a) (o : Obj) : Lays w (a.alloc o) := ⟨h.below.alloc h.below.size o, h.drawn⟩
theorem Lays.drew (h : Lays w a) : Lays w a.drew := ⟨h.below.drew, Nat.le_trans h.drawn (Nat.le_succ _)⟩
theorem Lays.drewN (h : Lays w a) (n : Nat) : Lays w (a.drewN n) := ⟨below_drewN h.below n, Nat.le_trans h.drawn (Nat.le_add_right _ _)⟩
theorem Lays.setCell (h : Lays w a) {p : Addr} (hp : w.heap.size ≤ p.block) (u : Value) : Lays w (a.setCell p u) := ⟨h.below.setCell hp u, h.drawn⟩
theorem Lays.grown {row : Option Nat} (h : Lays w a) (hg : a.grownBy w' row) (hd : a.drawn ≤ w'.drawn) (hr : ∀ g, row = some g → w.heap.size ≤ g) : Lays w w' :=
  ⟨h.below.grown hg h.below.size hr, Nat.le_trans h.drawn hd⟩
theorem Lays.eq (h : Lays w w') : ∃ q os', w' = Sort.grow (w.drewN q) os' := by
  refine ⟨w'.drawn - w.drawn, w'.heap.extract w.heap.size w'.heap.size, ?_⟩
  obtain ⟨⟨h1, h2, h3, h4, h5⟩, h6⟩ := h
  cases w'
  unfold Sort.grow World.drewN
  simp only at *
  congr 1
  · apply Array.ext_getElem?
    intro i
    rcases Nat.lt_or_ge i w.heap.size with hi | hi
    · rw [h5 i hi, Array.getElem?_append_left hi]
    · rw [Array.getElem?_append_right hi, Array.getElem?_extract]
      split
      · congr 1; omega
      · rw [Array.getElem?_eq_none (by omega)]
  · omega
/-- an append onto a row of the call's own: also, that the draws went on -/
theorem wpList_append_lays {P : Program} (w : World) {ops : Array Oper} {rest : List Oper} {o : Oper} {a : Act} {Q : Exit → Act → World → Prop} (hgd : o.guard = none) (s x : Operand) (t : TypeId)
    (ho : o.op = .call { callee := .builtin .append, args := #[s, x], argTypes := #[t, t] })
    (base : Nat) (e : TypeId) (i : TypeInfo) (z : Value) (size bytes : Nat) (ht : P.underlying t = some (.slice e)) (hi : P.info? e = some i) (hz : i.zero = some z) (hsize : i.size = size) (hby : i.bytes = bytes) (hzs : z.cells.size = size) (hsz : 0 < size)
    (v : Value) (n : Nat) (xs : List Value) (hs : a.eval s = v) (hown : w.ownsRow base e size v n xs) (ad : Addr) (m c : Nat) (news : List Value) (hx : a.eval x = .slice (some ad) m c) (hl : news.length = m * size)
    (hnews : ∀ j u, news[j]? = some u → w.cell? (ad.add j) = some u) (h1 : ∀ u ∈ news, u.oneCell' = true) (h63 : n + m ≤ maxLen) (hbytes : (n + m) * bytes ≤ 140737488355328) (hbase : base ≤ w.heap.size)
    (h : ∀ v' w', w'.ownsRow base e size v' (n + m) (xs ++ news) → w.grownBy w' v.ownBlock → w.drawn ≤ w'.drawn → wpList P ops Q rest (a.put o.dst v') w') : wpList P ops Q (o :: rest) a w := by
  obtain ⟨v', w', hr, h2, h3, _, h4⟩ := run_append_own_at (P := P) w base t o.type e i z size bytes ht hi hz hsize hby hzs hsz v n xs hown ad m c news hl hnews h1 h63 hbytes hbase
  exact Lib.wpList_append_run w hgd s x t t ho _ _ hs hx v' w' hr (h v' w' h2 h3 (run_drawn _ _ _ _ hr))
/-- .. as a step of a region that draws its order -/
theorem step_append_lays {P : Program} {ops : Array Oper} {o : Oper} {a : Act} {w : World} {K : Act → World → Prop} {Q : Exit → Act → World → Prop} {E : Prop} (hgd : o.guard = none) (s x : Operand) (t : TypeId)
    (ho : o.op = .call { callee := .builtin .append, args := #[s, x], argTypes := #[t, t] })
    (base : Nat) (e : TypeId) (i : TypeInfo) (z : Value) (size bytes : Nat) (ht : P.underlying t = some (.slice e)) (hi : P.info? e = some i) (hz : i.zero = some z) (hsize : i.size = size) (hby : i.bytes = bytes) (hzs : z.cells.size = size) (hsz : 0 < size)
    (v : Value) (n : Nat) (xs : List Value) (hs : a.eval s = v) (hown : w.ownsRow base e size v n xs) (ad : Addr) (m c : Nat) (news : List Value) (hx : a.eval x = .slice (some ad) m c) (hl : news.length = m * size)
    (hnews : ∀ j u, news[j]? = some u → w.cell? (ad.add j) = some u) (h1 : ∀ u ∈ news, u.oneCell' = true) (h63 : n + m ≤ maxLen) (hbytes : (n + m) * bytes ≤ 140737488355328) (hbase : base ≤ w.heap.size)
    (h : ∀ v' w', w'.ownsRow base e size v' (n + m) (xs ++ news) → w.grownBy w' v.ownBlock → w.drawn ≤ w'.drawn → K (a.put o.dst v') w') : if Region.wanted o (yielded ops a.tmps) = true then Oper.wp P o a w K Q else E := by
  obtain ⟨v', w', hr, h2, h3, _, h4⟩ := run_append_own_at (P := P) w base t o.type e i z size bytes ht hi hz hsize hby hzs hsz v n xs hown ad m c news hl hnews h1 h63 hbytes hbase
  have hw : Region.wanted o (yielded ops a.tmps) = true := by simp [Region.wanted, hgd]
  rw [if_pos hw]
  exact Lib.wp_append_run w s x t t ho _ _ hs hx v' w' hr (h v' w' h2 h3 (run_drawn _ _ _ _ hr))
end
end Go.Proofs.Ytlcpekpgkllbkaa

/-
  The program's compareNodes, and what it calls of Go's library: cmp.Compare, cmp.Or, slices.Compare.
-/
namespace Go.Proofs.Ytlcpekpgkllbkaa
open Go.RowKit

def Fls (w : World) (e : Ending) (w' : World) : Prop := e = .returned (.bool false) ∧ w' = w
theorem nanInt_any (n : Int) (w : World) : Calls Try.prog 144 #[.int .i64 n] w (Fls w) := by
  go_enter Try.func144, Try.ntmps144
  go_wp2_with fail
  go_ret
  exact ⟨rfl, rfl⟩
theorem nanStr_any (s : ByteArray) (w : World) : Calls Try.prog 147 #[.string s] w (Fls w) := by
  go_enter Try.func147, Try.ntmps147
  go_wp2_with fail
  go_ret
  exact ⟨rfl, rfl⟩
theorem cmpInt_any (a b : Int) (w : World) : Calls Try.prog 141 #[.int .i64 a, .int .i64 b] w (Num (numC a b) w) := by
  have HA := Lib.hid (nanInt_any a w)
  have HB := Lib.hid (nanInt_any b w)
  by_cases h1 : a < b
  · have hN : numC a b = -1 := by unfold numC; rw [if_pos h1]
    have HR : Hid (Num (numC a b) w (.returned (.int .i64 (-1))) w) := ⟨by rw [hN], rfl⟩
    clear hN
    go_enter Try.func141, Try.ntmps141
    go_wp2_with fail
    refine HA.out.mono ?_
    rintro e w' ⟨rfl, rfl⟩
    go_wp2_with fail
    refine HB.out.mono ?_
    rintro e w' ⟨rfl, rfl⟩
    go_wp2_with fail
    go_ret
    exact HR.out
  · by_cases h2 : b < a
    · have hN : numC a b = 1 := by unfold numC; rw [if_neg h1, if_pos h2]
      have HR : Hid (Num (numC a b) w (.returned (.int .i64 1)) w) := ⟨by rw [hN], rfl⟩
      clear hN
      go_enter Try.func141, Try.ntmps141
      go_wp2_with fail
      refine HA.out.mono ?_
      rintro e w' ⟨rfl, rfl⟩
      go_wp2_with fail
      refine HB.out.mono ?_
      rintro e w' ⟨rfl, rfl⟩
      go_wp2_with fail
      go_ret
      exact HR.out
    · have hN : numC a b = 0 := by unfold numC; rw [if_neg h1, if_neg h2]
      have HR : Hid (Num (numC a b) w (.returned (.int .i64 0)) w) := ⟨by rw [hN], rfl⟩
      clear hN
      go_enter Try.func141, Try.ntmps141
      go_wp2_with fail
      refine HA.out.mono ?_
      rintro e w' ⟨rfl, rfl⟩
      go_wp2_with fail
      refine HB.out.mono ?_
      rintro e w' ⟨rfl, rfl⟩
      go_wp2_with fail
      go_ret
      exact HR.out
theorem cmpStr_any (a b : ByteArray) (w : World) : Calls Try.prog 145 #[.string a, .string b] w (Num (strC a b) w) := by
  have HA := Lib.hid (nanStr_any a w)
  have HB := Lib.hid (nanStr_any b w)
  have hN : strC a b = if ltB a b = true then -1 else if ltB b a = true then 1 else 0 := rfl
  unfold ltB at hN
  have HR : Hid (Num (strC a b) w (.returned (.int .i64 (strC a b))) w) := ⟨rfl, rfl⟩
  rw [hN] at HR ⊢
  clear hN
  by_cases h1 : Op.bytesLess a.toList b.toList = true
  · simp only [h1, if_true] at HR ⊢
    go_enter Try.func145, Try.ntmps145
    go_wp2_with fail
    refine HA.out.mono ?_
    rintro e w' ⟨rfl, rfl⟩
    go_wp2_with fail
    refine HB.out.mono ?_
    rintro e w' ⟨rfl, rfl⟩
    go_wp2_with fail
    go_ret
    exact HR.out
  · have h1' : Op.bytesLess a.toList b.toList = false := by simpa using h1
    by_cases h2 : Op.bytesLess b.toList a.toList = true
    · simp only [h1', h2, if_true] at HR ⊢
      have hq := gtr_run 9 a b h2
      go_enter Try.func145, Try.ntmps145
      go_wp2_with fail
      refine HA.out.mono ?_
      rintro e w' ⟨rfl, rfl⟩
      go_wp2_with fail
      refine HB.out.mono ?_
      rintro e w' ⟨rfl, rfl⟩
      go_wp2_with fail
      go_ret
      exact HR.out
    · have h2' : Op.bytesLess b.toList a.toList = false := by simpa using h2
      simp only [h1', h2'] at HR ⊢
      have hq := gtr_run 9 a b h2'
      go_enter Try.func145, Try.ntmps145
      go_wp2_with fail
      refine HA.out.mono ?_
      rintro e w' ⟨rfl, rfl⟩
      go_wp2_with fail
      refine HB.out.mono ?_
      rintro e w' ⟨rfl, rfl⟩
      go_wp2_with fail
      go_ret
      exact HR.out

def firstC : List Int → Int
  | [] => 0
  | x :: xs => orC x (firstC xs)
theorem firstC_skip (xs : List Int) : ∀ k, (∀ j, j < k → xs.getD j 0 = 0) → firstC xs = firstC (xs.drop k)
  | 0, _ => rfl
  | k + 1, h => by
    rw [firstC_skip xs k fun j hj => h j (by omega)]
    by_cases hk : k < xs.length
    · rw [List.drop_eq_getElem_cons hk]
      have := h k (by omega)
      simp [List.getD, hk] at this
      simp [firstC, orC, this]
    · rw [List.drop_eq_nil_of_le (by omega), List.drop_eq_nil_of_le (by omega)]
set_option maxHeartbeats 800000 in
theorem cmpOr_any (A : Option Addr) (c : Nat) (xs : List Int) (w : World) (h : Sl w A (xs.map (Value.int .i64))) (hn : xs.length ≤ 1048576) : Calls Try.prog 140 #[.slice A xs.length c] w (Num (firstC xs) w) := by
  have HS := Lib.hid h
  clear h
  go_enter Try.func140, Try.ntmps140
  go_wp2_with fail
  go_loopw [8] (fun i wr => ∃ k : Nat, i = .int .i64 (k : Int) ∧ k ≤ xs.length ∧ (∀ j, j < k → xs.getD j 0 = 0) ∧ wr = w) (fun i _ => xs.length - (intOf i).toNat)
  case atStart => exact ⟨0, rfl, Nat.zero_le _, fun j hj => by omega, rfl⟩
  case round =>
    obtain ⟨k, rfl, hk, hz, rfl⟩ := hrel
    have HZ := Lib.hid hz
    clear hz
    by_cases hlt : k < xs.length
    · obtain ⟨ad, rfl, hc⟩ := HS.out k (.int .i64 (xs[k]'hlt)) (by simp [hlt])
      obtain ⟨x, hx⟩ : ∃ x, xs[k] = x := ⟨_, rfl⟩
      rw [hx] at hc
      by_cases h0 : x = 0
      · have HX : Hid (∀ j, j < k + 1 → xs.getD j 0 = 0) := fun j hj => by
          rcases Nat.lt_or_ge j k with h | h
          · exact HZ.out j h
          · have : j = k := by omega
            subst this
            simp [List.getD, hlt, hx, h0]
        clear hx
        go_wp2_with fail
        go_roundw
        case rel => exact ⟨k + 1, by go_num, hlt, HX.out, trivial⟩
        case measure => simp [intOf]; omega
      · have hN : firstC xs = x := by
          rw [firstC_skip xs k HZ.out, List.drop_eq_getElem_cons hlt, hx]
          simp [firstC, orC, h0]
        have HR : Hid (Num (firstC xs) wr (.returned (.int .i64 x)) wr) := ⟨by rw [hN], rfl⟩
        clear hN hx
        go_wp2_with fail
        go_ret
        exact HR.out
    · have hN : firstC xs = 0 := by
        rw [firstC_skip xs k HZ.out, List.drop_eq_nil_of_le (by omega)]
        rfl
      have HR : Hid (Num (firstC xs) wr (.returned (.int .i64 0)) wr) := ⟨by rw [hN], rfl⟩
      clear hN
      go_wp2_with fail
      go_ret
      exact HR.out
end Go.Proofs.Ytlcpekpgkllbkaa

/-
  slices.Compare of labels, and compareNodes.
-/
namespace Go.Proofs.Ytlcpekpgkllbkaa
open Go.RowKit

theorem lexC_step {xs ys : List ByteArray} {k : Nat} (h1 : k < xs.length) (h2 : k < ys.length) : lexC strC (xs.drop k) (ys.drop k) = orC (strC xs[k] ys[k]) (lexC strC (xs.drop (k + 1)) (ys.drop (k + 1))) := by
  rw [List.drop_eq_getElem_cons h1, List.drop_eq_getElem_cons h2, lexC]
set_option maxHeartbeats 800000 in
theorem cmpLab_any (A B : Option Addr) (c d : Nat) (xs ys : List ByteArray) (w : World) (h : Sl w A (xs.map Value.string)) (h' : Sl w B (ys.map Value.string)) (hn : xs.length ≤ 9223372036854775807) :
    Calls Try.prog 142 #[.slice A xs.length c, .slice B ys.length d] w (Num (lexC strC xs ys) w) := by
  have HX := Lib.hid h
  have HY := Lib.hid h'
  clear h h'
  obtain ⟨N, hN⟩ : ∃ N, lexC strC xs ys = N := ⟨_, rfl⟩
  rw [hN]
  go_enter Try.func142, Try.ntmps142
  go_wp2_with fail
  go_loopw [11] (fun i wr => ∃ k : Nat, i = .int .i64 (k : Int) ∧ k ≤ xs.length ∧ k ≤ ys.length ∧ lexC strC (xs.drop k) (ys.drop k) = N ∧ wr = w) (fun i _ => xs.length - (intOf i).toNat)
  case atStart => exact ⟨0, rfl, Nat.zero_le _, Nat.zero_le _, hN, rfl⟩
  case round =>
    obtain ⟨k, rfl, hk, hk', hz, rfl⟩ := hrel
    have HZ := Lib.hid hz
    clear hz hN
    by_cases hlt : k < xs.length
    · obtain ⟨ad, rfl, hc⟩ := HX.out k (.string (xs[k]'hlt)) (by simp [hlt])
      by_cases hlt' : k < ys.length
      · obtain ⟨bd, rfl, hc'⟩ := HY.out k (.string (ys[k]'hlt')) (by simp [hlt'])
        have hs := lexC_step hlt hlt'
        have HC := Lib.hid (cmpStr_any xs[k] ys[k] wr)
        obtain ⟨q, hq⟩ : ∃ q, strC xs[k] ys[k] = q := ⟨_, rfl⟩
        rw [HZ.out, hq] at hs
        rw [hq] at HC
        have hsg : Sgn q := by rw [← hq]; exact strC_sgn _ _
        have hq1 : -1 ≤ q ∧ q ≤ 1 := by unfold Sgn at hsg; omega
        clear hq hsg
        by_cases h0 : q = 0
        · have HS : Hid (lexC strC (xs.drop (k + 1)) (ys.drop (k + 1)) = N) := by
            show _ = _
            rw [hs, h0]; rfl
          subst h0
          clear hs
          go_wp2_with fail
          refine HC.out.mono ?_
          rintro e w' ⟨rfl, rfl⟩
          go_wp2_with fail
          go_roundw
          case rel => exact ⟨k + 1, by go_num, hlt, hlt', HS.out, trivial⟩
          case measure => simp [intOf]; omega
        · have HR : Hid (Num N wr (.returned (.int .i64 q)) wr) := ⟨by rw [hs]; unfold orC; rw [if_neg h0], rfl⟩
          clear hs
          go_wp2_with fail
          refine HC.out.mono ?_
          rintro e w' ⟨rfl, rfl⟩
          go_wp2_with fail
          go_ret
          exact HR.out
      · have hN : N = 1 := by
          have e : ys.drop k = [] := List.drop_eq_nil_of_le (by omega)
          rw [← HZ.out, e, List.drop_eq_getElem_cons hlt]
          rfl
        subst hN
        go_wp2_with fail
        go_ret
        exact ⟨rfl, rfl⟩
    · by_cases hlt' : xs.length < ys.length
      · have hN : N = -1 := by
          rw [← HZ.out, List.drop_eq_nil_of_le (by omega), List.drop_eq_getElem_cons (by omega : k < ys.length)]
          rfl
        subst hN
        go_wp2_with fail
        go_ret
        exact ⟨rfl, rfl⟩
      · have hN : N = 0 := by
          rw [← HZ.out, List.drop_eq_nil_of_le (by omega), List.drop_eq_nil_of_le (by omega)]
          rfl
        subst hN
        go_wp2_with fail
        go_ret
        exact ⟨rfl, rfl⟩

theorem sl_lit4 (w : World) (a b c d : Int) (t : TypeId) : Sl (w.alloc (.cells #[.int .i64 a, .int .i64 b, .int .i64 c, .int .i64 d] t)) (some ⟨w.heap.size, 0, none⟩) ([a, b, c, d].map (Value.int .i64)) := by
  intro j u hj
  have hx := Box4.new w t (.int .i64 a) (.int .i64 b) (.int .i64 c) (.int .i64 d)
  match j, hj with
  | 0, hj => simp at hj; subst hj; exact ⟨_, rfl, hx.c0⟩
  | 1, hj => simp at hj; subst hj; exact ⟨_, rfl, hx.c1⟩
  | 2, hj => simp at hj; subst hj; exact ⟨_, rfl, hx.c2⟩
  | 3, hj => simp at hj; subst hj; exact ⟨_, rfl, hx.c3⟩
  | j + 4, hj => simp at hj
/-- an answer that is a number; new blocks and draws at most -/
def NumL (n : Int) (w : World) (e : Ending) (w' : World) : Prop := e = .returned (.int .i64 n) ∧ Lays w w'
set_option maxRecDepth 100000 in
set_option maxHeartbeats 2000000 in
theorem cmpNode_any (a b : Va) (w : World) (cs ds : List Value) (h : RVa w a cs) (h' : RVa w b ds) : Calls Try.prog 135 #[.agg cs.toArray, .agg ds.toArray] w (NumL (nodeC a.top a.kids.length b.top b.kids.length) w) := by
  obtain ⟨L, c, A, d, rfl, k1, k2, k3, _⟩ := h.open
  obtain ⟨L', c', A', d', rfl, k1', k2', k3', _⟩ := h'.open
  obtain ⟨W1, hW1⟩ : ∃ W1, (w.alloc (.cells #[.int .i64 a.top.kind, .int .i64 a.top.num, .slice L a.top.labels.length c, .slice A a.kids.length d] 92)).alloc (.cells #[.int .i64 b.top.kind, .int .i64 b.top.num, .slice L' b.top.labels.length c', .slice A' b.kids.length d'] 92) = W1 := ⟨_, rfl⟩
  obtain ⟨H, hH⟩ : ∃ H, w.heap.size = H := ⟨_, rfl⟩
  have b0 : Box4 W1 H 92 (.int .i64 a.top.kind) (.int .i64 a.top.num) (.slice L a.top.labels.length c) (.slice A a.kids.length d) := by rw [← hW1, ← hH]; exact (Box4.new w _ _ _ _ _).alloc _
  have b1 : Box4 W1 (H + 1) 92 (.int .i64 b.top.kind) (.int .i64 b.top.num) (.slice L' b.top.labels.length c') (.slice A' b.kids.length d') := by
    rw [← hW1, ← hH]
    have := Box4.new (w.alloc (.cells #[.int .i64 a.top.kind, .int .i64 a.top.num, .slice L a.top.labels.length c, .slice A a.kids.length d] 92)) 92 (.int .i64 b.top.kind) (.int .i64 b.top.num) (.slice L' b.top.labels.length c') (.slice A' b.kids.length d')
    simpa using this
  have hl1 : Lays w W1 := by rw [← hW1]; exact ((Lays.refl w).alloc _).alloc _
  have HL1 := Lib.hid hl1
  have HW1 := Lib.hid hW1
  have HLab := Lib.hid (cmpLab_any L L' c c' a.top.labels b.top.labels W1.drew ((k1.below hl1.below).drew) ((k1'.below hl1.below).drew) k2.2.2.2.2.1)
  have hN : nodeC a.top a.kids.length b.top b.kids.length = firstC [numC a.top.kind b.top.kind, numC a.top.num b.top.num, numC a.kids.length b.kids.length, lexC strC a.top.labels b.top.labels] := by
    have e : ∀ x, orC x 0 = x := fun x => by unfold orC; split <;> simp_all
    show orC _ (orC _ (orC _ _)) = orC _ (orC _ (orC _ (orC _ 0)))
    rw [e]
    rfl
  rw [hN]
  obtain ⟨m, hm⟩ : ∃ m, a.kids.length = m := ⟨_, rfl⟩
  obtain ⟨n, hn⟩ : ∃ n, b.kids.length = n := ⟨_, rfl⟩
  obtain ⟨p, hp⟩ : ∃ p, a.top.labels.length = p := ⟨_, rfl⟩
  obtain ⟨q, hq⟩ : ∃ q, b.top.labels.length = q := ⟨_, rfl⟩
  obtain ⟨e0, he0⟩ : ∃ x, a.top.kind = x := ⟨_, rfl⟩
  obtain ⟨e1, he1⟩ : ∃ x, a.top.num = x := ⟨_, rfl⟩
  obtain ⟨f0, hf0⟩ : ∃ x, b.top.kind = x := ⟨_, rfl⟩
  obtain ⟨f1, hf1⟩ : ∃ x, b.top.num = x := ⟨_, rfl⟩
  obtain ⟨r, hr⟩ : ∃ x, lexC strC a.top.labels b.top.labels = x := ⟨_, rfl⟩
  rw [hp, hq, hr] at HLab
  rw [he0, he1, hp, hm] at b0 HW1 ⊢
  rw [hf0, hf1, hq, hn] at b1 HW1 ⊢
  rw [hr]
  have hm' : m ≤ 9223372036854775807 := by omega
  have hn' : n ≤ 9223372036854775807 := by omega
  have x0 := b0.c0
  have x1 := b0.c1
  have x2 := b0.c2
  have x3 := b0.c3
  have y0 := b1.c0
  have y1 := b1.c1
  have y2 := b1.c2
  have y3 := b1.c3
  clear hN hm hn hp hq he0 he1 hf0 hf1 hr h h' k1 k1' k2 k2' k3 k3' hW1 hl1 b0 b1
  have HOR := Lib.hid (cmpOr_any (some ⟨W1.heap.size, 0, none⟩) 4 [numC e0 f0, numC e1 f1, numC m n, r] (W1.drew.alloc (.cells #[.int .i64 (numC e0 f0), .int .i64 (numC e1 f1), .int .i64 (numC m n), .int .i64 r] 3)) (sl_lit4 W1.drew _ _ _ _ _) (by simp))
  have HPO : Hid (NumL (firstC [numC e0 f0, numC e1 f1, numC m n, r]) w (.returned (.int .i64 (firstC [numC e0 f0, numC e1 f1, numC m n, r]))) (W1.drew.alloc (.cells #[.int .i64 (numC e0 f0), .int .i64 (numC e1 f1), .int .i64 (numC m n), .int .i64 r] 3))) := ⟨rfl, HL1.out.drew.alloc _⟩
  go_enter Try.func135, Try.ntmps135
  go_wp2_with fail
  rw [HW1.out]
  go_region_held3 (fun W => W.cell? ⟨H, 0, none⟩ = some (.int .i64 e0) ∧ W.cell? ⟨H, 1, none⟩ = some (.int .i64 e1) ∧ W.cell? ⟨H, 2, none⟩ = some (.slice L p c) ∧ W.cell? ⟨H, 3, none⟩ = some (.slice A m d) ∧ W.cell? ⟨H + 1, 0, none⟩ = some (.int .i64 f0) ∧ W.cell? ⟨H + 1, 1, none⟩ = some (.int .i64 f1) ∧ W.cell? ⟨H + 1, 2, none⟩ = some (.slice L' q c') ∧ W.cell? ⟨H + 1, 3, none⟩ = some (.slice A' n d'))
    (first | (refine ⟨?_, ?_, ?_, ?_, ?_, ?_, ?_, ?_⟩ <;> assumption) | go_keep)
    (first
      | (go_at_call 141; refine (cmpInt_any _ _ _).mono ?_; rintro e w' ⟨rfl, rfl⟩)
      | (go_at_call 142; refine HLab.out.mono ?_; rintro e w' ⟨rfl, rfl⟩)
      | (go_at_call 140; refine HOR.out.mono ?_; rintro e w' ⟨rfl, rfl⟩))
  go_wp2_with fail
  go_ret
  exact HPO.out
end Go.Proofs.Ytlcpekpgkllbkaa
