/-
  Merged by program: KdA.
-/
import Derived.Test.YtlcpekpgkllbkaaT6
import Derived.Test.YtlcpekpgkllbkaaT8
import Derived.Lib.Props

/-
  A list of a kind that grows by append. Hangs on no program.
-/
namespace Go.Proofs.Ytlcpekpgkllbkaa
open Go.RowKit
/-- an append onto a row of the call's own, elements of any size -/
theorem wpList_append_at {P : Program} (w : World) {ops : Array Oper} {rest : List Oper} {o : Oper} {a : Act} {Q : Exit → Act → World → Prop} (hgd : o.guard = none) (s x : Operand) (t : TypeId)
    (ho : o.op = .call { callee := .builtin .append, args := #[s, x], argTypes := #[t, t] })
    (base : Nat) (e : TypeId) (i : TypeInfo) (z : Value) (size bytes : Nat) (ht : P.underlying t = some (.slice e)) (hi : P.info? e = some i) (hz : i.zero = some z) (hsize : i.size = size) (hby : i.bytes = bytes) (hzs : z.cells.size = size) (hsz : 0 < size)
    (v : Value) (n : Nat) (xs : List Value) (hs : a.eval s = v) (hown : w.ownsRow base e size v n xs) (ad : Addr) (m c : Nat) (news : List Value) (hx : a.eval x = .slice (some ad) m c) (hl : news.length = m * size)
    (hnews : ∀ j u, news[j]? = some u → w.cell? (ad.add j) = some u) (h1 : ∀ u ∈ news, u.oneCell' = true) (h63 : n + m ≤ maxLen) (hbytes : (n + m) * bytes ≤ 140737488355328) (hbase : base ≤ w.heap.size)
    (h : ∀ A4 d4 w4, w4.ownsRow base e size (.slice A4 (n + m) d4) (n + m) (xs ++ news) → w.grownBy w4 v.ownBlock → ((Value.slice A4 (n + m) d4).ownBlock = v.ownBlock ∨ (Value.slice A4 (n + m) d4).ownBlock = some w.heap.size) → wpList P ops Q rest (a.put o.dst (.slice A4 (n + m) d4)) w4) : wpList P ops Q (o :: rest) a w := by
  obtain ⟨v', w', hr, h2, h3, _, h4⟩ := run_append_own_at (P := P) w base t o.type e i z size bytes ht hi hz hsize hby hzs hsz v n xs hown ad m c news hl hnews h1 h63 hbytes hbase
  obtain ⟨A4, d4, rfl⟩ := own_shape3 h2
  exact Lib.wpList_append_run w hgd s x t t ho _ _ hs hx _ w' hr (h A4 d4 w' h2 h3 h4)
section
variable {α : Type}

/-- as OL, its parts named -/
def OLc (a : Kd α) (e : TypeId) (w : World) (xs : List α) (A : Option Addr) (d : Nat) (cells : List Value) (fs : Nat → List Nat) (fp : List Nat) : Prop :=
  xs.length ≤ 9223372036854775807 ∧ w.ownsRow 0 e a.n (.slice A xs.length d) xs.length cells ∧ (∀ (j : Nat) (x : α), xs[j]? = some x → a.O w x (partK a.n cells j) (fs j)) ∧ fp = blk A ++ (List.range xs.length).flatMap fs ∧ fp.Nodup
theorem OLc.ol {a : Kd α} {e : TypeId} {w : World} {xs : List α} {A : Option Addr} {d : Nat} {cells : List Value} {fs : Nat → List Nat} {fp : List Nat} (h : OLc a e w xs A d cells fs fp) : OL a e w xs (.slice A xs.length d) fp := ⟨A, d, cells, fs, rfl, h⟩
theorem OL.parts {a : Kd α} {e : TypeId} {w : World} {xs : List α} {A : Option Addr} {n d : Nat} {fp : List Nat} (h : OL a e w xs (.slice A n d) fp) : n = xs.length ∧ ∃ cells fs, OLc a e w xs A d cells fs fp := by
  obtain ⟨A', d', cells, fs, e1, h⟩ := h
  injection e1 with e1 e2 e3
  subst e1 e2 e3
  exact ⟨rfl, cells, fs, h⟩
theorem ol_nil (a : Kd α) (e : TypeId) (w : World) : OLc a e w [] none 0 [] (fun _ => []) [] :=
  ⟨by simp, ⟨by simp, .inl ⟨rfl, rfl⟩⟩, fun j x hj => by simp at hj, rfl, by simp⟩
/-- no element, in a block made for it -/
theorem ol_made (a : Kd α) (e : TypeId) (w : World) {base : Nat} {A : Option Addr} {d : Nat} (h : w.ownsRow base e a.n (.slice A 0 d) 0 []) : OLc a e w [] A d [] (fun _ => []) (blk A) :=
  ⟨by simp, own_zero h, fun j x hj => by simp at hj, by simp, blk_nodup A⟩
theorem partK_app {β : Type} {n : Nat} {xs rs : List β} {k j : Nat} (hl : xs.length = k * n) (hj : j < k) : partK n (xs ++ rs) j = partK n xs j := by
  apply List.ext_getElem?
  intro i
  by_cases hi : i < n
  · rw [partK_get _ _ _ _ hi, partK_get _ _ _ _ hi]
    have : j * n + n ≤ k * n := by
      have := Nat.mul_le_mul_right n (show j + 1 ≤ k from hj)
      rw [Nat.succ_mul] at this
      exact this
    rw [List.getElem?_append_left (by omega)]
  · unfold partK
    rw [List.getElem?_take_eq_none (by omega), List.getElem?_take_eq_none (by omega)]
theorem partK_end {β : Type} {n : Nat} {xs rs : List β} {k : Nat} (hl : xs.length = k * n) (hr : rs.length = n) : partK n (xs ++ rs) k = rs := by
  unfold partK
  rw [List.drop_append_of_le_length (by omega), List.drop_eq_nil_of_le (by omega), List.nil_append, List.take_of_length_le (by omega)]
theorem grown_none {w w' : World} (hb : Below w.heap.size w w') : w.grownBy w' none := ⟨hb.os, hb.tape, hb.output, hb.size, fun i hi _ => hb.block i hi⟩
theorem Held.of_grown {w w' : World} {row : Option Nat} (h : w.grownBy w' row) : Held (fun b => some b ≠ row) w w' := ⟨h.os, h.tape, h.output, h.size, fun i hi hd => h.block i hi hd⟩
theorem Held.all {w w' : World} {K : Nat → Prop} (h : Below w.heap.size w w') : Held (fun b => b < w.heap.size ∨ K b) w w' := ⟨h.os, h.tape, h.output, h.size, fun i hi _ => h.block i hi⟩
theorem OLc.held {a : Kd α} {e : TypeId} {w w' : World} {xs : List α} {A : Option Addr} {d : Nat} {cells : List Value} {fs : Nat → List Nat} {fp : List Nat} {K : Nat → Prop} (h : OLc a e w xs A d cells fs fp) (hH : Held K w w') (hK : ∀ b ∈ fp, K b) : OLc a e w' xs A d cells fs fp := by
  obtain ⟨h1, h2, h3, rfl, h5⟩ := h
  refine ⟨h1, own_heldK h2 hH fun b hb => hK b (by simp [hb]), fun j x hj => a.held (h3 j x hj) hH fun b hb => hK b ?_, rfl, h5⟩
  rw [List.mem_append, List.mem_flatMap]
  exact .inr ⟨j, List.mem_range.2 (List.getElem?_eq_some_iff.1 hj).1, hb⟩
theorem OLc.under {a : Kd α} {e : TypeId} {w w' : World} {xs : List α} {A : Option Addr} {d : Nat} {cells : List Value} {fs : Nat → List Nat} {fp : List Nat} (h : OLc a e w xs A d cells fs fp) (hb : Below w.heap.size w w') : OLc a e w' xs A d cells fs fp :=
  h.held (K := fun _ => True) ⟨hb.os, hb.tape, hb.output, hb.size, fun i hi _ => hb.block i hi⟩ fun _ _ => trivial
theorem OLc.row {a : Kd α} {e : TypeId} {w : World} {xs : List α} {A : Option Addr} {d : Nat} {cells : List Value} {fs : Nat → List Nat} {fp : List Nat} (h : OLc a e w xs A d cells fs fp) : w.ownsRow 0 e a.n (.slice A xs.length d) xs.length cells := h.2.1
theorem OLc.lt {a : Kd α} {e : TypeId} {w : World} {xs : List α} {A : Option Addr} {d : Nat} {cells : List Value} {fs : Nat → List Nat} {fp : List Nat} (h : OLc a e w xs A d cells fs fp) : ∀ b ∈ blk A, b < w.heap.size := fun b hb => (h.2.1.lt b ((blk_own A _ d b).2 hb)).2
/-- one more element: it lies in w3, the row of its cells was appended (w4) -/
theorem olc_append {a : Kd α} {e : TypeId} {w3 w4 : World} {xs : List α} {x : α} {A A' : Option Addr} {d d' : Nat} {cells rs : List Value} {fs : Nat → List Nat} {fp fx : List Nat} (h : OLc a e w3 xs A d cells fs fp) (hn : xs.length + 1 ≤ 9223372036854775807)
    (hx : a.O w3 x rs fx) (hdis : ∀ b ∈ fx, b ∉ fp) (hxl : ∀ b ∈ fx, b < w3.heap.size) (hfl : ∀ b ∈ fp, b < w3.heap.size) (hown : w4.ownsRow 0 e a.n (.slice A' (xs.length + 1) d') (xs.length + 1) (cells ++ rs)) (hgr : w3.grownBy w4 (Value.slice A xs.length d).ownBlock)
    (hor : (Value.slice A' (xs.length + 1) d').ownBlock = (Value.slice A xs.length d).ownBlock ∨ (Value.slice A' (xs.length + 1) d').ownBlock = some w3.heap.size) :
    ∃ fs' fp', OLc a e w4 (xs ++ [x]) A' d' (cells ++ rs) fs' fp' ∧ ∀ b ∈ fp', (b ∈ fp ∨ b ∈ fx ∨ b = w3.heap.size) ∧ b < w4.heap.size := by
  obtain ⟨h1, h2, h3, rfl, h5⟩ := h
  have hcl : cells.length = xs.length * a.n := h2.1
  have hrl : rs.length = a.n := a.len (a.reads hx)
  have hs4 := hgr.size
  obtain ⟨nA, nF, dAF⟩ := List.nodup_append.1 h5
  have hA' : ∀ b ∈ blk A', b ∈ blk A ∨ b = w3.heap.size := by
    intro b hm
    have e1 := (blk_own A' (xs.length + 1) d' b).2 hm
    rcases hor with h | h
    · rw [h] at e1; exact .inl ((blk_own A _ d b).1 e1)
    · rw [h] at e1; injection e1 with e1; exact .inr e1.symm
  have notrow : ∀ b, b ∉ blk A → some b ≠ (Value.slice A xs.length d).ownBlock := fun b hm e1 => hm ((blk_own A _ d b).1 e1.symm)
  have hfj : ∀ j, j < xs.length → ∀ b ∈ fs j, b ∈ (List.range xs.length).flatMap fs := fun j hj b hm => List.mem_flatMap.2 ⟨j, List.mem_range.2 hj, hm⟩
  have hfx : ∀ b ∈ fx, b ∉ blk A ∧ b ∉ (List.range xs.length).flatMap fs := fun b hb => ⟨fun h => hdis b hb (by simp [h]), fun h => hdis b hb (List.mem_append.2 (.inr h))⟩
  have hH := Held.of_grown hgr
  refine ⟨fun j => if j = xs.length then fx else fs j, blk A' ++ ((List.range xs.length).flatMap fs ++ fx), ⟨by rw [List.length_append]; exact hn, by rw [List.length_append]; exact hown, fun j y hj => ?_, ?_, ?_⟩, ?_⟩
  · by_cases ej : j = xs.length
    · subst ej
      rw [List.getElem?_append_right (Nat.le_refl _), Nat.sub_self] at hj
      obtain rfl : x = y := by simpa using hj
      show a.O _ _ _ (if xs.length = xs.length then fx else fs xs.length)
      rw [if_pos rfl, partK_end hcl hrl]
      exact a.held hx hH fun b hb => notrow b (hfx b hb).1
    · have hjl : j < xs.length := by
        have := (List.getElem?_eq_some_iff.1 hj).1
        rw [List.length_append] at this
        have e2 : [x].length = 1 := rfl
        omega
      rw [List.getElem?_append_left hjl] at hj
      show a.O _ _ _ (if j = xs.length then fx else fs j)
      rw [if_neg ej, partK_app hcl hjl]
      exact a.held (h3 j y hj) hH fun b hb => notrow b (fun hA => dAF b hA b (hfj j hjl b hb) rfl)
  · rw [List.length_append, show [x].length = 1 from rfl, flat_more]
  · refine List.nodup_append.2 ⟨blk_nodup _, List.nodup_append.2 ⟨nF, a.nodup hx, fun p hp q hq e1 => ?_⟩, fun p hp q hq e1 => ?_⟩
    · subst e1; exact (hfx p hq).2 hp
    · subst e1
      rcases hA' p hp with h | h
      · rcases List.mem_append.1 hq with h' | h'
        · exact dAF p h p h' rfl
        · exact (hfx p h').1 h
      · rcases List.mem_append.1 hq with h' | h'
        · have := hfl p (List.mem_append.2 (.inr h')); omega
        · have := hxl p h'; omega
  · intro b hb
    rcases List.mem_append.1 hb with h | h
    · have h6 := (hown.lt b ((blk_own A' _ d' b).2 h)).2
      rcases hA' b h with h' | h'
      · exact ⟨.inl (by simp [h']), h6⟩
      · exact ⟨.inr (.inr h'), h6⟩
    · rcases List.mem_append.1 h with h' | h'
      · have := hfl b (List.mem_append.2 (.inr h')); exact ⟨.inl (List.mem_append.2 (.inr h')), by omega⟩
      · have := hxl b h'; exact ⟨.inr (.inl h'), by omega⟩
/-- what a loop that appends keeps: the first k elements, in blocks from w on -/
def ApInv (a : Kd α) (e : TypeId) (xs : List α) (w : World) (v i : Value) (wr : World) : Prop :=
  ∃ (k : Nat) (A : Option Addr) (d : Nat) (cells : List Value) (fs : Nat → List Nat) (fp : List Nat), k ≤ xs.length ∧ i = .int .i64 (k : Int) ∧ v = .slice A k d ∧ OLc a e wr (xs.take k) A d cells fs fp ∧ (∀ b ∈ fp, w.heap.size ≤ b ∧ b < wr.heap.size) ∧ Below w.heap.size w wr
theorem apinv_zero (a : Kd α) (e : TypeId) (xs : List α) {w wr : World} {A : Option Addr} {d : Nat} {base : Nat} (h : wr.ownsRow base e a.n (.slice A 0 d) 0 []) (hbs : w.heap.size ≤ base) (hb : Below w.heap.size w wr) : ApInv a e xs w (.slice A 0 d) (.int .i64 0) wr :=
  ⟨0, A, d, [], fun _ => [], blk A, Nat.zero_le _, rfl, rfl, ol_made a e wr h, fun b hm => by have := h.lt b ((blk_own A 0 d b).2 hm); omega, hb⟩
/-- .. one more: made in w2 from wr on, its cells laid in a block (w3), appended (w4) -/
theorem apinv_more {a : Kd α} {e : TypeId} {xs : List α} {w wr w2 w4 : World} {k : Nat} {A A' : Option Addr} {d d' : Nat} {cells rs : List Value} {fs : Nat → List Nat} {fp fx : List Nat} {i : Value} (hk : k < xs.length) (hmax : xs.length ≤ 9223372036854775807) (hi : i = .int .i64 ((k + 1 : Nat) : Int))
    (h : OLc a e wr (xs.take k) A d cells fs fp) (hfp : ∀ b ∈ fp, w.heap.size ≤ b ∧ b < wr.heap.size) (hb : Below w.heap.size w wr) (hb2 : Below wr.heap.size wr w2) (hx : a.O w2 xs[k] rs fx) (hfx : ∀ b ∈ fx, wr.heap.size ≤ b ∧ b < w2.heap.size) (o : Obj)
    (hown : w4.ownsRow 0 e a.n (.slice A' (k + 1) d') (k + 1) (cells ++ rs)) (hgr : (w2.alloc o).grownBy w4 (Value.slice A k d).ownBlock)
    (hor : (Value.slice A' (k + 1) d').ownBlock = (Value.slice A k d).ownBlock ∨ (Value.slice A' (k + 1) d').ownBlock = some (w2.alloc o).heap.size) : ApInv a e xs w (.slice A' (k + 1) d') i w4 := by
  have hlen : (xs.take k).length = k := by rw [List.length_take]; omega
  have hs2 := hb2.size
  have hsw := hb.size
  have hs3 : (w2.alloc o).heap.size = w2.heap.size + 1 := by simp
  have hb3 : Below wr.heap.size wr (w2.alloc o) := hb2.alloc hs2 _
  have hs4 := hgr.size
  have h3 : OLc a e (w2.alloc o) (xs.take k) A d cells fs fp := h.under hb3
  have hx3 : a.O (w2.alloc o) xs[k] rs fx := a.under hx ((Below.refl _ _).alloc (Nat.le_refl _) _)
  obtain ⟨fs', fp', h4, hf4⟩ := olc_append (A' := A') (d' := d') h3 (by rw [hlen]; omega) hx3 (fun b hb1 hb2 => by have := hfx b hb1; have := hfp b hb2; omega) (fun b hb1 => by have := hfx b hb1; omega) (fun b hb1 => by have := hfp b hb1; omega) (by rw [hlen]; exact hown) (by rw [hlen]; exact hgr) (by rw [hlen]; exact hor)
  have htk : xs.take k ++ [xs[k]] = xs.take (k + 1) := by rw [List.take_add_one, List.getElem?_eq_getElem hk]; rfl
  rw [htk] at h4
  have hgb : ∀ b, (Value.slice A k d).ownBlock = some b → w.heap.size ≤ b := fun b hm => by
    have hbm : b ∈ blk A := (blk_own A k d b).1 hm
    exact (hfp b (by rw [h.2.2.2.1]; simp [hbm])).1
  refine ⟨k + 1, A', d', _, fs', fp', hk, hi, rfl, h4, fun b hm => ?_, ((hb.trans (hb3.mono hsw)).grown hgr (by omega) hgb)⟩
  obtain ⟨h5, h6⟩ := hf4 b hm
  rcases h5 with h5 | h5 | h5
  · have := hfp b h5; omega
  · have := hfx b h5; omega
  · omega
theorem apinv_done {a : Kd α} {e : TypeId} {xs : List α} {w wr : World} {A : Option Addr} {d : Nat} {cells : List Value} {fs : Nat → List Nat} {fp : List Nat} (h : OLc a e wr (xs.take xs.length) A d cells fs fp) (hfp : ∀ b ∈ fp, w.heap.size ≤ b ∧ b < wr.heap.size) (hb : Below w.heap.size w wr) : MadeL' a e xs w (.returned (.slice A xs.length d)) wr := by
  rw [List.take_length] at h
  exact ⟨A, d, fp, rfl, h.ol, hfp, hb⟩
end
end Go.Proofs.Ytlcpekpgkllbkaa
