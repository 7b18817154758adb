/-
  Merged by program: TabS, TabN, KdF.
-/
import Derived.Test.YtlikmgkjilmjpaaGreatI19
import Derived.Test.YtlikmgkjilmjpaaGreatI6
import Derived.Test.YtlikmgkjilmjpaaGreatI9
import Derived.Test.YtlikmgkjilmjpaaGreatI8

/-
  The model's l9Table: the place of a table in a database.
-/
namespace Go.Proofs.YtlikmgkjilmjpaaGreat
open Go.RowKit

/-- n is the place of the first element with the name, -1 if there is none -/
def AtD {α : Type} (xs : List (ByteArray × α)) (nm : ByteArray) (n : Int) : Prop := (n = -1 ∧ xs.find? (fun d => decide (d.1 = nm)) = none) ∨ ∃ k : Nat, ∃ h : k < xs.length, n = (k : Int) ∧ xs[k].1 = nm ∧ xs.find? (fun d => decide (d.1 = nm)) = some xs[k]
def NoneAt {α : Type} (xs : List (ByteArray × α)) (nm : ByteArray) (k : Nat) : Prop := ∀ (j : Nat) (h : j < xs.length), j < k → xs[j].1 ≠ nm
theorem noneAt_zero {α : Type} (xs : List (ByteArray × α)) (nm : ByteArray) : NoneAt xs nm 0 := fun j _ h => by omega
theorem noneAt_more {α : Type} {xs : List (ByteArray × α)} {nm : ByteArray} {k : Nat} (h : NoneAt xs nm k) (hk : k < xs.length) (hn : xs[k].1 ≠ nm) : NoneAt xs nm (k + 1) := fun j hj hlt => by
  by_cases e : j = k
  · subst e; exact hn
  · exact h j hj (by omega)
theorem atD_none {α : Type} {xs : List (ByteArray × α)} {nm : ByteArray} (h : NoneAt xs nm xs.length) : xs.find? (fun d => decide (d.1 = nm)) = none := by
  rw [List.find?_eq_none]
  intro d hd
  obtain ⟨j, hj, rfl⟩ := List.getElem_of_mem hd
  have := h j hj hj
  simpa using this
theorem atD_some {α : Type} {xs : List (ByteArray × α)} {nm : ByteArray} {k : Nat} (h : NoneAt xs nm k) (hk : k < xs.length) (hn : xs[k].1 = nm) : xs.find? (fun d => decide (d.1 = nm)) = some xs[k] := by
  rw [List.find?_eq_some_iff_getElem]
  refine ⟨by simp [hn], k, hk, rfl, fun j hj => ?_⟩
  have := h j (by omega) hj
  simpa using this
def NumAt (t : Db) (nm : ByteArray) (w : World) (e : Ending) (w' : World) : Prop := ∃ n : Int, e = .returned (.int .i64 n) ∧ AtD t nm n ∧ Below w.heap.size w w'

set_option maxRecDepth 100000 in
set_option maxHeartbeats 1600000 in
theorem l9Table_any (t : Db) (nm : ByteArray) (w : World) (cs : List Value) (h : RDb w t cs) : Calls Tryz.prog 27 #[.agg cs.toArray, .string nm] w (NumAt t nm w) := by
  obtain ⟨A, c, rfl, hl, _, hp⟩ := h.open
  obtain ⟨W1, hW1⟩ : ∃ W1, w.alloc (.cells #[.slice A t.length c] 37) = W1 := ⟨_, rfl⟩
  obtain ⟨H, hH⟩ : ∃ H, w.heap.size = H := ⟨_, rfl⟩
  have b0 : Box1 W1 H 37 (.slice A t.length c) := by rw [← hW1, ← hH]; exact Box1.new w _ _
  have hb1 : Below w.heap.size w W1 := by rw [← hW1]; exact (Below.refl _ _).alloc (Nat.le_refl _) _
  have HA := Lib.hid (fun (W : World) (hB : Below W1.heap.size W1 W) => b0.under hB b0.lt)
  have HB1 := Lib.hid hb1
  have HP := Lib.hid (hp.keep hb1)
  have HW1 := Lib.hid hW1
  have x0 := b0.c0
  have HI0 : Hid (∃ k : Nat, k ≤ t.length ∧ Value.int .i64 0 = .int .i64 (k : Int) ∧ NoneAt t nm k ∧ Below W1.heap.size W1 W1) := Lib.hid ⟨0, Nat.zero_le _, rfl, noneAt_zero _ _, Below.refl _ _⟩
  clear h hp hW1 b0 hb1
  go_enter Tryz.func27, Tryz.ntmps27
  go_wp2_with fail
  rw [HW1.out]
  go_wp2_with fail
  go_loopw [5] (fun i wr => ∃ k : Nat, k ≤ t.length ∧ i = .int .i64 (k : Int) ∧ NoneAt t nm k ∧ Below W1.heap.size W1 wr) (fun i _ => t.length - (intOf i).toNat)
  case atStart => exact HI0.out
  case round =>
    obtain ⟨k, hk, rfl, hno, hb⟩ := hrel
    clear x0
    have x0 := (HA.out wr hb).c0
    by_cases hlt : k < t.length
    · obtain ⟨ad, p, c0, c1, rfl, hpe, hr, q0, q1⟩ := rl_at2 kDd_n HP.out hb hlt
      obtain ⟨TB, tb, te, hcs, hs, hy⟩ := kDd_open hr
      simp only [List.cons.injEq, and_true] at hcs
      obtain ⟨rfl, rfl⟩ := hcs
      have HBW := Lib.hid (HB1.out.trans (hb.mono HB1.out.size))
      by_cases hn : t[k].1 = nm
      · have HR : Hid (NumAt t nm w (.returned (.int .i64 (k : Int))) wr) := Lib.hid ⟨(k : Int), rfl, .inr ⟨k, hlt, rfl, hn, atD_some hno hlt hn⟩, HBW.out⟩
        rw [hn] at q0
        clear hr hs hy hno hk hn
        go_wp2_with fail
        go_ret
        exact HR.out
      · have HR : Hid (∃ j : Nat, j ≤ t.length ∧ Value.int .i64 ((k : Int) + 1) = .int .i64 (j : Int) ∧ NoneAt t nm j ∧ Below W1.heap.size W1 wr) := Lib.hid ⟨k + 1, hlt, by simp, noneAt_more hno hlt hn, hb⟩
        have f1 := str_neS hn
        generalize t[k].1 = nk at q0 f1
        clear hr hs hy hno hk hn hb
        go_wp2_with fail
        go_roundw
        case rel => exact HR.out
        case measure => simp [intOf]; omega
    · have he : k = t.length := by omega
      subst he
      have HR : Hid (NumAt t nm w (.returned (.int .i64 (-1))) wr) := Lib.hid ⟨-1, rfl, .inl ⟨rfl, atD_none hno⟩, HB1.out.trans (hb.mono HB1.out.size)⟩
      clear hno hb hk
      go_wp2_with fail
      go_ret
      exact HR.out
end Go.Proofs.YtlikmgkjilmjpaaGreat

/-
  The model's l9Table: the first place of a name.
-/
namespace Go.Proofs.YtlikmgkjilmjpaaGreat
open Go.RowKit

theorem idxN_at {β : Type} {nm : ByteArray} : ∀ (t : List (ByteArray × β)) (k : Nat) (h : k < t.length), NoneAt t nm k → t[k].1 = nm → idxN (t.map fun d => d.1) nm = some k
  | [], k, h, _, _ => by simp at h
  | d :: t, 0, _, _, hn => by
    rw [List.map_cons, idxN, if_pos (by simpa using hn)]
  | d :: t, k + 1, h, hno, hn => by
    have h0 : d.1 ≠ nm := hno 0 (by simp) (by omega)
    rw [List.map_cons, idxN, if_neg h0, idxN_at t k (by simpa using h) (fun j hj hlt => hno (j + 1) (by simpa using hj) (by omega)) (by simpa using hn)]
    rfl
theorem idxN_no {β : Type} {nm : ByteArray} {t : List (ByteArray × β)} (h : NoneAt t nm t.length) : idxN (t.map fun d => d.1) nm = none := by
  cases hi : idxN (t.map fun d => d.1) nm with
  | none => rfl
  | some j =>
    obtain ⟨hj, hn, _⟩ := (idxN_find t nm).1 j hi
    exact absurd hn (h j hj hj)
def NumIx (t : Db) (nm : ByteArray) (w : World) (e : Ending) (w' : World) : Prop := ∃ n : Int, e = .returned (.int .i64 n) ∧ ((n = -1 ∧ idxN (t.map fun d => d.1) nm = none) ∨ ∃ k : Nat, k < t.length ∧ n = (k : Int) ∧ idxN (t.map fun d => d.1) nm = some k) ∧ Below w.heap.size w w'
set_option maxRecDepth 100000 in
set_option maxHeartbeats 1600000 in
theorem l9TableN_any (t : Db) (nm : ByteArray) (w : World) (cs : List Value) (h : RDb w t cs) : Calls Tryz.prog 27 #[.agg cs.toArray, .string nm] w (NumIx t nm w) := by
  obtain ⟨A, c, rfl, hl, _, hp⟩ := h.open
  obtain ⟨W1, hW1⟩ : ∃ W1, w.alloc (.cells #[.slice A t.length c] 37) = W1 := ⟨_, rfl⟩
  obtain ⟨H, hH⟩ : ∃ H, w.heap.size = H := ⟨_, rfl⟩
  have b0 : Box1 W1 H 37 (.slice A t.length c) := by rw [← hW1, ← hH]; exact Box1.new w _ _
  have hb1 : Below w.heap.size w W1 := by rw [← hW1]; exact (Below.refl _ _).alloc (Nat.le_refl _) _
  have HA := Lib.hid (fun (W : World) (hB : Below W1.heap.size W1 W) => b0.under hB b0.lt)
  have HB1 := Lib.hid hb1
  have HP := Lib.hid (hp.keep hb1)
  have HW1 := Lib.hid hW1
  have x0 := b0.c0
  have HI0 : Hid (∃ k : Nat, k ≤ t.length ∧ Value.int .i64 0 = .int .i64 (k : Int) ∧ NoneAt t nm k ∧ Below W1.heap.size W1 W1) := Lib.hid ⟨0, Nat.zero_le _, rfl, noneAt_zero _ _, Below.refl _ _⟩
  clear h hp hW1 b0 hb1
  go_enter Tryz.func27, Tryz.ntmps27
  go_wp2_with fail
  rw [HW1.out]
  go_wp2_with fail
  go_loopw [5] (fun i wr => ∃ k : Nat, k ≤ t.length ∧ i = .int .i64 (k : Int) ∧ NoneAt t nm k ∧ Below W1.heap.size W1 wr) (fun i _ => t.length - (intOf i).toNat)
  case atStart => exact HI0.out
  case round =>
    obtain ⟨k, hk, rfl, hno, hb⟩ := hrel
    clear x0
    have x0 := (HA.out wr hb).c0
    by_cases hlt : k < t.length
    · obtain ⟨ad, p, c0, c1, rfl, hpe, hr, q0, q1⟩ := rl_at2 kDd_n HP.out hb hlt
      obtain ⟨TB, tb, te, hcs, hs, hy⟩ := kDd_open hr
      simp only [List.cons.injEq, and_true] at hcs
      obtain ⟨rfl, rfl⟩ := hcs
      have HBW := Lib.hid (HB1.out.trans (hb.mono HB1.out.size))
      by_cases hn : t[k].1 = nm
      · have HR : Hid (NumIx t nm w (.returned (.int .i64 (k : Int))) wr) := Lib.hid ⟨(k : Int), rfl, .inr ⟨k, hlt, rfl, idxN_at t k hlt hno hn⟩, HBW.out⟩
        rw [hn] at q0
        clear hr hs hy hno hk hn
        go_wp2_with fail
        go_ret
        exact HR.out
      · have HR : Hid (∃ j : Nat, j ≤ t.length ∧ Value.int .i64 ((k : Int) + 1) = .int .i64 (j : Int) ∧ NoneAt t nm j ∧ Below W1.heap.size W1 wr) := Lib.hid ⟨k + 1, hlt, by simp, noneAt_more hno hlt hn, hb⟩
        have f1 := str_neS hn
        generalize t[k].1 = nk at q0 f1
        clear hr hs hy hno hk hn hb
        go_wp2_with fail
        go_roundw
        case rel => exact HR.out
        case measure => simp [intOf]; omega
    · have he : k = t.length := by omega
      subst he
      have HR : Hid (NumIx t nm w (.returned (.int .i64 (-1))) wr) := Lib.hid ⟨-1, rfl, .inl ⟨rfl, idxN_no hno⟩, HB1.out.trans (hb.mono HB1.out.size)⟩
      clear hno hb hk
      go_wp2_with fail
      go_ret
      exact HR.out
end Go.Proofs.YtlikmgkjilmjpaaGreat

/-
  A list of a kind that grows by append in the one field of a struct of its own. Hangs on no program.
-/
namespace Go.Proofs.YtlikmgkjilmjpaaGreat
open Go.RowKit
section
variable {α : Type}

/-- k elements are put together; the variable is the block g -/
def ApF (a : Kd α) (e T : TypeId) (xs : List α) (w : World) (g k : Nat) (A : Option Addr) (d : Nat) (cells : List Value) (fs : Nat → List Nat) (fp : List Nat) (wr : World) : Prop :=
  Box1 wr g T (.slice A k d) ∧ OLc a e wr (xs.take k) A d cells fs fp ∧ (∀ b ∈ fp, w.heap.size ≤ b ∧ b < wr.heap.size ∧ b ≠ g) ∧ w.heap.size ≤ g ∧ Below w.heap.size w wr
def ApFInv (a : Kd α) (e T : TypeId) (xs : List α) (w : World) (g : Nat) (i : Value) (wr : World) : Prop :=
  ∃ (k : Nat) (A : Option Addr) (d : Nat) (cells : List Value) (fs : Nat → List Nat) (fp : List Nat), k ≤ xs.length ∧ i = .int .i64 (k : Int) ∧ ApF a e T xs w g k A d cells fs fp wr
theorem apF_zero (a : Kd α) (e T : TypeId) (xs : List α) {w wr : World} {g : Nat} (h : Box1 wr g T (.slice none 0 0)) (hg : w.heap.size ≤ g) (hb : Below w.heap.size w wr) : ApF a e T xs w g 0 none 0 [] (fun _ => []) [] wr :=
  ⟨h, ol_nil a e wr, fun b hm => by simp at hm, hg, hb⟩
theorem apF_more {a : Kd α} {e T : TypeId} {xs : List α} {w wr w2 w4 : World} {g k : Nat} {A A' : Option Addr} {d d' : Nat} {cells rs : List Value} {fs : Nat → List Nat} {fp fx : List Nat} {i : Value} (hk : k < xs.length) (hmax : xs.length ≤ 9223372036854775807) (hi : i = .int .i64 ((k + 1 : Nat) : Int))
    (h : ApF a e T xs w g k A d cells fs fp wr) (hb2 : Below wr.heap.size wr w2) (hx : a.O w2 xs[k] rs fx) (hfx : ∀ b ∈ fx, wr.heap.size ≤ b ∧ b < w2.heap.size) (o : Obj)
    (hown : w4.ownsRow 0 e a.n (.slice A' (k + 1) d') (k + 1) (cells ++ rs)) (hgr : (w2.alloc o).grownBy w4 (Value.slice A k d).ownBlock)
    (hor : (Value.slice A' (k + 1) d').ownBlock = (Value.slice A k d).ownBlock ∨ (Value.slice A' (k + 1) d').ownBlock = some (w2.alloc o).heap.size) : ApFInv a e T xs w g i (w4.setCell ⟨g, 0, none⟩ (.slice A' (k + 1) d')) := by
  obtain ⟨hbox, hol, hfp, hwg, hb⟩ := h
  have hgl := hbox.lt
  have hlen : (xs.take k).length = k := by rw [List.length_take]; omega
  have hs2 := hb2.size
  have hsw := hb.size
  have hs3 : (w2.alloc o).heap.size = w2.heap.size + 1 := by simp
  have hb3 : Below wr.heap.size wr (w2.alloc o) := hb2.alloc hs2 _
  have hs4 := hgr.size
  have h3 : OLc a e (w2.alloc o) (xs.take k) A d cells fs fp := hol.under hb3
  have hx3 : a.O (w2.alloc o) xs[k] rs fx := a.under hx ((Below.refl _ _).alloc (Nat.le_refl _) _)
  obtain ⟨fs', fp', h4, hf4⟩ := olc_append (A' := A') (d' := d') h3 (by rw [hlen]; omega) hx3 (fun b hb1 hb2 => by have := hfx b hb1; have := hfp b hb2; omega) (fun b hb1 => by have := hfx b hb1; omega) (fun b hb1 => by have := hfp b hb1; omega) (by rw [hlen]; exact hown) (by rw [hlen]; exact hgr) (by rw [hlen]; exact hor)
  have htk : xs.take k ++ [xs[k]] = xs.take (k + 1) := by rw [List.take_add_one, List.getElem?_eq_getElem hk]; rfl
  rw [htk] at h4
  have hAfp : ∀ b, (Value.slice A k d).ownBlock = some b → b ∈ fp := fun b hm => by
    have hbm : b ∈ blk A := (blk_own A k d b).1 hm
    rw [hol.2.2.2.1]; simp [hbm]
  obtain ⟨w5, hw5⟩ : ∃ w5, w4.setCell ⟨g, 0, none⟩ (.slice A' (k + 1) d') = w5 := ⟨_, rfl⟩
  have hg5 : w4.grownBy w5 (some g) := by rw [← hw5]; exact grown_set (World.grownBy.refl _ _) _
  have hs5 := hg5.size
  have hne : ∀ b ∈ fp', w.heap.size ≤ b ∧ b < w4.heap.size ∧ b ≠ g := fun b hm => by
    obtain ⟨h5, h6⟩ := hf4 b hm
    rcases h5 with h5 | h5 | h5
    · have := hfp b h5; exact ⟨this.1, by omega, this.2.2⟩
    · have := hfx b h5; exact ⟨by omega, by omega, by omega⟩
    · exact ⟨by omega, by omega, by omega⟩
  rw [hw5]
  refine ⟨k + 1, A', d', _, fs', fp', hk, hi, ?_, h4.held (K := fun i => some i ≠ some g) ⟨hg5.os, hg5.tape, hg5.output, hg5.size, fun i hi hd => hg5.block i hi hd⟩ (fun b hm e1 => by injection e1 with e1; exact (hne b hm).2.2 e1), fun b hm => by have := hne b hm; exact ⟨this.1, by omega, this.2.2⟩, hwg, ?_⟩
  · rw [← hw5]
    exact (((hbox.under hb3 hgl).grown hgr (fun e1 => (hfp g (hAfp g e1.symm)).2.2 rfl))).set0 _
  · have h6 : Below w.heap.size w w4 := (hb.trans (hb3.mono hsw)).grown hgr (by omega) (fun b hm => (hfp b (hAfp b hm)).1)
    exact h6.grown hg5 h6.size (fun b hm => by injection hm with hm; omega)
/-- .. as apF_more, the blocks named -/
theorem apF_step {a : Kd α} {e T : TypeId} {xs : List α} {w wr w2 w4 : World} {g k : Nat} {A A' : Option Addr} {d d' : Nat} {cells rs : List Value} {fs : Nat → List Nat} {fp fx : List Nat} (hk : k < xs.length) (hmax : xs.length ≤ 9223372036854775807)
    (h : ApF a e T xs w g k A d cells fs fp wr) (hb2 : Below wr.heap.size wr w2) (hx : a.O w2 xs[k] rs fx) (hfx : ∀ b ∈ fx, wr.heap.size ≤ b ∧ b < w2.heap.size) (o : Obj)
    (hown : w4.ownsRow 0 e a.n (.slice A' (k + 1) d') (k + 1) (cells ++ rs)) (hgr : (w2.alloc o).grownBy w4 (Value.slice A k d).ownBlock)
    (hor : (Value.slice A' (k + 1) d').ownBlock = (Value.slice A k d).ownBlock ∨ (Value.slice A' (k + 1) d').ownBlock = some (w2.alloc o).heap.size) :
    ∃ fs' fp', ApF a e T xs w g (k + 1) A' d' (cells ++ rs) fs' fp' (w4.setCell ⟨g, 0, none⟩ (.slice A' (k + 1) d')) ∧ (∀ b ∈ fp', b ∈ fp ∨ wr.heap.size ≤ b) ∧ Held (fun i => i ≠ g ∧ i ∉ fp) wr (w4.setCell ⟨g, 0, none⟩ (.slice A' (k + 1) d')) := by
  obtain ⟨hbox, hol, hfp, hwg, hb⟩ := h
  have hgl := hbox.lt
  have hlen : (xs.take k).length = k := by rw [List.length_take]; omega
  have hs2 := hb2.size
  have hsw := hb.size
  have hs3 : (w2.alloc o).heap.size = w2.heap.size + 1 := by simp
  have hb3 : Below wr.heap.size wr (w2.alloc o) := hb2.alloc hs2 _
  have hs4 := hgr.size
  have h3 : OLc a e (w2.alloc o) (xs.take k) A d cells fs fp := hol.under hb3
  have hx3 : a.O (w2.alloc o) xs[k] rs fx := a.under hx ((Below.refl _ _).alloc (Nat.le_refl _) _)
  obtain ⟨fs', fp', h4, hf4⟩ := olc_append (A' := A') (d' := d') h3 (by rw [hlen]; omega) hx3 (fun b hb1 hb2 => by have := hfx b hb1; have := hfp b hb2; omega) (fun b hb1 => by have := hfx b hb1; omega) (fun b hb1 => by have := hfp b hb1; omega) (by rw [hlen]; exact hown) (by rw [hlen]; exact hgr) (by rw [hlen]; exact hor)
  have htk : xs.take k ++ [xs[k]] = xs.take (k + 1) := by rw [List.take_add_one, List.getElem?_eq_getElem hk]; rfl
  rw [htk] at h4
  have hAfp : ∀ b, (Value.slice A k d).ownBlock = some b → b ∈ fp := fun b hm => by
    have hbm : b ∈ blk A := (blk_own A k d b).1 hm
    rw [hol.2.2.2.1]; simp [hbm]
  obtain ⟨w5, hw5⟩ : ∃ w5, w4.setCell ⟨g, 0, none⟩ (.slice A' (k + 1) d') = w5 := ⟨_, rfl⟩
  have hg5 : w4.grownBy w5 (some g) := by rw [← hw5]; exact grown_set (World.grownBy.refl _ _) _
  have hs5 := hg5.size
  have hne : ∀ b ∈ fp', w.heap.size ≤ b ∧ b < w4.heap.size ∧ b ≠ g := fun b hm => by
    obtain ⟨h5, h6⟩ := hf4 b hm
    rcases h5 with h5 | h5 | h5
    · have := hfp b h5; exact ⟨this.1, by omega, this.2.2⟩
    · have := hfx b h5; exact ⟨by omega, by omega, by omega⟩
    · exact ⟨by omega, by omega, by omega⟩
  rw [hw5]
  refine ⟨fs', fp', ⟨?_, h4.held (K := fun i => some i ≠ some g) ⟨hg5.os, hg5.tape, hg5.output, hg5.size, fun i hi hd => hg5.block i hi hd⟩ (fun b hm e1 => by injection e1 with e1; exact (hne b hm).2.2 e1), fun b hm => by have := hne b hm; exact ⟨this.1, by omega, this.2.2⟩, hwg, ?_⟩, fun b hm => ?_, ?_⟩
  · rw [← hw5]
    exact (((hbox.under hb3 hgl).grown hgr (fun e1 => (hfp g (hAfp g e1.symm)).2.2 rfl))).set0 _
  · have h6 : Below w.heap.size w w4 := (hb.trans (hb3.mono hsw)).grown hgr (by omega) (fun b hm => (hfp b (hAfp b hm)).1)
    exact h6.grown hg5 h6.size (fun b hm => by injection hm with hm; omega)
  · obtain ⟨h5, h6⟩ := hf4 b hm
    rcases h5 with h5 | h5 | h5
    · exact .inl h5
    · exact .inr (hfx b h5).1
    · exact .inr (by omega)
  · refine (Held.of_below hb3 fun i hi _ => hi).trans ((Held.grown hgr fun q hq hn => hn.2 (hAfp q hq)).trans ?_)
    rw [← hw5]
    exact Held.set w4 (fun h => h.1 rfl) _
theorem ApF.apart {a : Kd α} {e T : TypeId} {xs : List α} {w wr : World} {g k : Nat} {A : Option Addr} {d : Nat} {cells : List Value} {fs : Nat → List Nat} {fp : List Nat} (h : ApF a e T xs w g k A d cells fs fp wr) : some g ≠ (Value.slice A k d).ownBlock := by
  obtain ⟨hbox, hol, hfp, hwg, hb⟩ := h
  intro e1
  have hbm : g ∈ blk A := (blk_own A k d g).1 e1.symm
  exact (hfp g (by rw [hol.2.2.2.1]; simp [hbm])).2.2 rfl
theorem ApF.row {a : Kd α} {e T : TypeId} {xs : List α} {w wr : World} {g k : Nat} {A : Option Addr} {d : Nat} {cells : List Value} {fs : Nat → List Nat} {fp : List Nat} (h : ApF a e T xs w g k A d cells fs fp wr) (hk : k ≤ xs.length) : wr.ownsRow 0 e a.n (.slice A k d) k cells := by
  have h1 := h.2.1.row
  rwa [show (xs.take k).length = k by rw [List.length_take]; omega] at h1
theorem ApF.drew {a : Kd α} {e T : TypeId} {xs : List α} {w wr : World} {g k : Nat} {A : Option Addr} {d : Nat} {cells : List Value} {fs : Nat → List Nat} {fp : List Nat} (h : ApF a e T xs w g k A d cells fs fp wr) : ApF a e T xs w g k A d cells fs fp wr.drew := by
  obtain ⟨hbox, hol, hfp, hwg, hb⟩ := h
  exact ⟨hbox, hol.under (Below.refl _ _).drew, hfp, hwg, hb.drew⟩
/-- whole: handed back through the block G -/
theorem apF_done {a : Kd α} {e T : TypeId} {xs : List α} {w W wr U : World} {g G : Nat} {A : Option Addr} {d : Nat} {cells : List Value} {fs : Nat → List Nat} {fp : List Nat} (h : ApF a e T xs W g xs.length A d cells fs fp wr) (hwW : Below w.heap.size w W) (hG : G < W.heap.size) (hwG : w.heap.size ≤ G) (hU : wr.grownBy U (some G)) :
    ∃ fp', OL a e U xs (.slice A xs.length d) fp' ∧ (∀ b ∈ fp', w.heap.size ≤ b ∧ b < U.heap.size) ∧ Below w.heap.size w U := by
  obtain ⟨hbox, hol, hfp, hwg, hb⟩ := h
  rw [List.take_length] at hol
  have hsU := hU.size
  have hsW := hwW.size
  have hsb := hb.size
  refine ⟨fp, (hol.held (K := fun i => some i ≠ some G) ⟨hU.os, hU.tape, hU.output, hU.size, fun i hi hd => hU.block i hi hd⟩ (fun b hm e1 => by injection e1 with e1; have := hfp b hm; omega)).ol, fun b hm => by have := hfp b hm; omega, ?_⟩
  have h1 : Below w.heap.size w wr := hwW.trans (hb.mono hsW)
  exact h1.grown hU h1.size (fun b hm => by injection hm with hm; omega)
end
end Go.Proofs.YtlikmgkjilmjpaaGreat
