/-
  Merged by program: Pick, PickI, TyDraw.
-/
import Derived.Test.YtffaggiblglcbaaV12

/-
  Picks from a list of texts; the argument of a draw.
-/
namespace Go.Proofs.Ytffaggiblglcbaa
open Go.RowKit

theorem Cur.below {w w' : World} {b : Nat} (h : Cur w b) (hb : Below w.heap.size w w') : Cur w' b := by
  obtain ⟨A, cap, bs, i, q, h1, h2, h3, h4, h5⟩ := h
  exact ⟨A, cap, bs, i, q, by rw [hb.block b (Array.getElem?_eq_some_iff.1 h1).1]; exact h1, h2.below hb, h3, h4, h5⟩
theorem Cur.lt {w : World} {b : Nat} (h : Cur w b) : b < w.heap.size := by
  obtain ⟨A, cap, bs, i, q, h1, _⟩ := h
  exact (Array.getElem?_eq_some_iff.1 h1).1
theorem Cur.grownNew {w w' : World} {b : Nat} {row : Option Nat} (h : Cur w b) (hg : w.grownBy w' row) (hrow : ∀ g, row = some g → b < g) : Cur w' b := by
  obtain ⟨A, cap, bs, i, q, h1, h2, h3, h4, h5⟩ := h
  refine ⟨A, cap, bs, i, q, ?_, ?_, h3, h4, h5⟩
  · rw [hg.block b (Array.getElem?_eq_some_iff.1 h1).1 (fun e => by have := hrow b e.symm; omega)]
    exact h1
  · intro j u hj
    obtain ⟨ad, e, hc⟩ := h2 j u hj
    have hb : (ad.add j).block = ad.block := by unfold Addr.add; split <;> rfl
    have hlt := h3 ad e (fun e => by rw [e] at hj; simp at hj)
    exact ⟨ad, e, (World.cell?_of_block (hg.block _ (World.block_lt_of_cell? w _ hc) (fun e => by have := hrow _ e.symm; omega))).trans hc⟩
theorem grown_new {a w w' : World} {b : Nat} {row : Option Nat} (h : a.grownBy w (some b)) (hg : w.grownBy w' row) (hrow : ∀ g, row = some g → a.heap.size ≤ g) : a.grownBy w' (some b) :=
  ⟨hg.os.trans h.os, hg.tape.trans h.tape, hg.output.trans h.output, Nat.le_trans h.size hg.size, fun i hi hn => (hg.block i (Nat.lt_of_lt_of_le hi h.size) (fun e => by have := hrow i e.symm; omega)).trans (h.block i hi hn)⟩
theorem sl_new (w : World) (xs : Array Value) (t : TypeId) : Sl (w.alloc (.cells xs t)) (some ⟨w.heap.size, 0, none⟩) xs.toList := by
  intro j u hj
  refine ⟨_, rfl, ?_⟩
  rw [Addr.add_lit, Nat.zero_add, cell_of_row _ _ j xs t (0, 0) (heap_alloc_new w _)]
  simpa using hj

def PickPost (xs : List Value) (b : Nat) (w : World) (e : Ending) (w' : World) : Prop := ∃ x ∈ xs, e = .returned x ∧ Cur w' b ∧ w.grownBy w' (some b)

set_option maxHeartbeats 800000 in
theorem l1Pick_any (b g c : Nat) (xs : List ByteArray) (w : World) (hcur : Cur w b) (hsl : Sl w (some ⟨g, 0, none⟩) (xs.map Value.string)) (hg : g ≠ b) (h1 : 1 ≤ xs.length) (h2 : xs.length ≤ 1000000) :
    Calls Try.prog 46 #[.pointer (some ⟨b, 0, none⟩), .slice (some ⟨g, 0, none⟩) xs.length c] w (PickPost (xs.map Value.string) b w) := by
  have HC := Lib.hid hcur
  have HS := Lib.hid hsl
  clear hcur hsl
  go_enter Try.func46, Try.ntmps46
  go_wp2_with fail
  refine (l1Below_any b (xs.length : Int) w HC.out (by omega) (by omega)).mono ?_
  rintro e w1 ⟨x, rfl, hx0, hx1, hc, hgr⟩
  obtain ⟨j, rfl⟩ : ∃ j : Nat, x = (j : Int) := ⟨x.toNat, by omega⟩
  have hj : j < xs.length := by omega
  obtain ⟨ad, ead, hcell⟩ := (HS.out.grown hgr hg) j (.string xs[j]) (by simp [hj])
  injection ead with ead
  subst ead
  rw [Addr.add_lit, Nat.zero_add] at hcell
  have HR : Hid (Cur w1 b ∧ w.grownBy w1 (some b)) := ⟨hc, hgr⟩
  have HM : Hid (Value.string xs[j] ∈ xs.map Value.string) := List.mem_map.2 ⟨xs[j], List.getElem_mem hj, rfl⟩
  clear hc hgr
  go_wp2_with fail
  go_ret
  exact ⟨_, HM.out, rfl, HR.out⟩

/-- a pick from a list that is written out -/
theorem l1Pick_new (b : Nat) (xs : List ByteArray) (w : World) (hcur : Cur w b) (h1 : 1 ≤ xs.length) (h2 : xs.length ≤ 1000000) :
    Calls Try.prog 46 #[.pointer (some ⟨b, 0, none⟩), .slice (some ⟨w.heap.size, 0, none⟩) xs.length xs.length] (w.alloc (.cells (xs.map Value.string).toArray 9))
      (fun e w' => ∃ x ∈ xs, e = .returned (.string x) ∧ Cur w' b ∧ w.grownBy w' (some b)) := by
  have hb : Below w.heap.size w (w.alloc (.cells (xs.map Value.string).toArray 9)) := (Below.refl _ _).alloc (Nat.le_refl _) _
  refine (l1Pick_any b w.heap.size xs.length xs _ (hcur.below hb) (sl_new w (xs.map Value.string).toArray 9) (by have := hcur.lt; omega) h1 h2).mono ?_
  rintro e w2 ⟨u, hu, rfl, hc, hg⟩
  obtain ⟨x, hx, rfl⟩ := List.mem_map.1 hu
  exact ⟨x, hx, rfl, hc, grown_trans_row ⟨hb.os, hb.tape, hb.output, hb.size, fun i hi _ => hb.block i hi⟩ hg⟩

theorem grown_of_below {w w' : World} {row : Option Nat} (h : Below w.heap.size w w') : w.grownBy w' row := ⟨h.os, h.tape, h.output, h.size, fun i hi _ => h.block i hi⟩

/-- the draw's argument: a list of bytes that was there before -/
def Code (w : World) (A : Option Addr) (bs : List UInt8) : Prop := Sl w A (bcells bs) ∧ bs.length ≤ 1048576
theorem Code.below {w w' : World} {A : Option Addr} {bs : List UInt8} (h : Code w A bs) (hb : Below w.heap.size w w') : Code w' A bs := ⟨h.1.below hb, h.2⟩

end Go.Proofs.Ytffaggiblglcbaa

/-
  Picks from a list of integers.
-/
namespace Go.Proofs.Ytffaggiblglcbaa
open Go.RowKit

set_option maxHeartbeats 800000 in
theorem l1PickInt_any (b g c : Nat) (xs : List Int) (w : World) (hcur : Cur w b) (hsl : Sl w (some ⟨g, 0, none⟩) (xs.map (Value.int .i64))) (hg : g ≠ b) (h1 : 1 ≤ xs.length) (h2 : xs.length ≤ 1000000) :
    Calls Try.prog 72 #[.pointer (some ⟨b, 0, none⟩), .slice (some ⟨g, 0, none⟩) xs.length c] w (PickPost (xs.map (Value.int .i64)) b w) := by
  have HC := Lib.hid hcur
  have HS := Lib.hid hsl
  clear hcur hsl
  go_enter Try.func72, Try.ntmps72
  go_wp2_with fail
  refine (l1Below_any b (xs.length : Int) w HC.out (by omega) (by omega)).mono ?_
  rintro e w1 ⟨x, rfl, hx0, hx1, hc, hgr⟩
  obtain ⟨j, rfl⟩ : ∃ j : Nat, x = (j : Int) := ⟨x.toNat, by omega⟩
  have hj : j < xs.length := by omega
  obtain ⟨ad, ead, hcell⟩ := (HS.out.grown hgr hg) j (.int .i64 xs[j]) (by simp [hj])
  injection ead with ead
  subst ead
  rw [Addr.add_lit, Nat.zero_add] at hcell
  have HR : Hid (Cur w1 b ∧ w.grownBy w1 (some b)) := ⟨hc, hgr⟩
  have HM : Hid (Value.int .i64 xs[j] ∈ xs.map (Value.int .i64)) := List.mem_map.2 ⟨xs[j], List.getElem_mem hj, rfl⟩
  clear hc hgr
  go_wp2_with fail
  go_ret
  exact ⟨_, HM.out, rfl, HR.out⟩
end Go.Proofs.Ytffaggiblglcbaa

/-
  The draws of types: what the loop of l3Draw keeps.
-/
namespace Go.Proofs.Ytffaggiblglcbaa
open Go.RowKit

/-- a drawn type: in new memory, of a bounded size; the cursor goes on -/
def DrawTy (b B : Nat) (w : World) (e : Ending) (w' : World) : Prop :=
  ∃ (t : Ty) (L A : Option Addr) (c d : Nat) (fp : List Nat), e = .returned (.agg #[.int .i64 t.top.kind, .slice L t.top.labels.length c, .slice A t.kids.length d]) ∧ OTy w' t [.int .i64 t.top.kind, .slice L t.top.labels.length c, .slice A t.kids.length d] fp ∧
    (∀ x ∈ fp, w.heap.size ≤ x ∧ x < w'.heap.size) ∧ wt t ≤ B ∧ Cur w' b ∧ w.grownBy w' (some b)
def tB : Nat → Nat
  | 0 => 6
  | D + 1 => 2 * tB D + 20

/-- kl labels and k parts are drawn -/
structure DI (b B : Nat) (w : World) (kl k : Nat) (ls : List ByteArray) (ts : List Ty) (L A : Option Addr) (lc d : Nat) (xs : List Value) (fs : Nat → List Nat) (wr : World) : Prop where
  n1 : ls.length = kl
  n2 : ts.length = k
  b1 : ∀ x ∈ ls, x.size ≤ 4
  b2 : ∀ t ∈ ts, wt t ≤ B
  r1 : wr.ownsRow w.heap.size 9 1 (.slice L kl lc) kl (ls.map Value.string)
  r2 : wr.ownsRow w.heap.size 27 3 (.slice A k d) k xs
  kid : ∀ j t, ts[j]? = some t → OTy wr t (part3 xs j) (fs j)
  nd : (blk L ++ blk A ++ (List.range k).flatMap fs).Nodup
  bd : ∀ x ∈ blk L ++ blk A ++ (List.range k).flatMap fs, w.heap.size ≤ x ∧ x < wr.heap.size
  cur : Cur wr b
  gr : w.grownBy wr (some b)
  bl : b < w.heap.size

section
variable {b B : Nat} {w : World} {kl k : Nat} {ls : List ByteArray} {ts : List Ty} {L A : Option Addr} {lc d : Nat} {xs : List Value} {fs : Nat → List Nat} {wr w2 : World}
theorem DI.keep (h : DI b B w kl k ls ts L A lc d xs fs wr) {row : Option Nat} (hg : wr.grownBy w2 row) (hrow : ∀ x ∈ blk L ++ blk A ++ (List.range k).flatMap fs, some x ≠ row) (hc : Cur w2 b) (hgr : w.grownBy w2 (some b)) : DI b B w kl k ls ts L A lc d xs fs w2 where
  n1 := h.n1
  n2 := h.n2
  b1 := h.b1
  b2 := h.b2
  r1 := own_keep h.r1 hg (fun x hx => hrow x (by simp [hx]))
  r2 := own_keep h.r2 hg (fun x hx => hrow x (by simp [hx]))
  kid := fun j t hj => (h.kid j t hj).keep hg (fun x hx => hrow x (by
    rw [List.mem_append, List.mem_flatMap]
    exact .inr ⟨j, List.mem_range.2 (by have := (List.getElem?_eq_some_iff.1 hj).1; have := h.n2; omega), hx⟩))
  nd := h.nd
  bd := fun x hx => ⟨(h.bd x hx).1, Nat.lt_of_lt_of_le (h.bd x hx).2 hg.size⟩
  cur := hc
  gr := hgr
  bl := h.bl
/-- new memory, a step of the cursor: nothing of the rows -/
theorem DI.quiet (h : DI b B w kl k ls ts L A lc d xs fs wr) {row : Option Nat} (hg : wr.grownBy w2 row) (hrow : row = none ∨ row = some b) (hc : Cur w2 b) : DI b B w kl k ls ts L A lc d xs fs w2 := by
  refine h.keep hg (fun x hx e => ?_) hc ?_
  · have h1 := h.bd x hx
    have h2 := h.bl
    rcases hrow with rfl | rfl
    · cases e
    · injection e with e; omega
  · rcases hrow with rfl | rfl
    · exact grown_trans_row h.gr ⟨hg.os, hg.tape, hg.output, hg.size, fun i hi _ => hg.block i hi (by simp)⟩
    · exact grown_trans_row h.gr hg
/-- one label more -/
theorem DI.label (h : DI b B w kl k ls ts L A lc d xs fs wr) {x : ByteArray} (hx : x.size ≤ 4) {L' : Option Addr} {lc' : Nat} (hown : w2.ownsRow w.heap.size 9 1 (.slice L' (kl + 1) lc') (kl + 1) (ls.map Value.string ++ [.string x]))
    (hg : wr.grownBy w2 (Value.slice L kl lc).ownBlock) (hor : (Value.slice L' (kl + 1) lc').ownBlock = (Value.slice L kl lc).ownBlock ∨ (Value.slice L' (kl + 1) lc').ownBlock = some wr.heap.size) : DI b B w (kl + 1) k (ls ++ [x]) ts L' A lc' d xs fs w2 := by
  obtain ⟨nL, nA, nF, dLA, dLF, dAF⟩ := nodup3.1 h.nd
  have hrowL : ∀ g, (Value.slice L kl lc).ownBlock = some g ↔ g ∈ blk L := blk_own L kl lc
  have hb := h.bl
  have hbw : ∀ g, (Value.slice L kl lc).ownBlock = some g → w.heap.size ≤ g := fun g hgg => (h.bd g (by simp [(hrowL g).1 hgg])).1
  have hL' : ∀ g ∈ blk L', g ∈ blk L ∨ g = wr.heap.size := by
    intro g hm
    have e := (blk_own L' (kl + 1) lc' g).2 hm
    rcases hor with h | h
    · rw [h] at e; exact .inl ((hrowL g).1 e)
    · rw [h] at e; injection e with e; exact .inr e.symm
  have notrow : ∀ g, g ∉ blk L → some g ≠ (Value.slice L kl lc).ownBlock := fun g hm e => hm ((hrowL g).1 e.symm)
  have bdA : ∀ g ∈ blk A, w.heap.size ≤ g ∧ g < wr.heap.size := fun g hm => h.bd g (by simp [hm])
  have bdF : ∀ g ∈ (List.range k).flatMap fs, w.heap.size ≤ g ∧ g < wr.heap.size := fun g hm => h.bd g (List.mem_append.2 (.inr hm))
  exact {
    n1 := by rw [List.length_append, h.n1]; rfl
    n2 := h.n2
    b1 := fun y hy => by
      rcases List.mem_append.1 hy with hy | hy
      · exact h.b1 y hy
      · simp at hy; subst hy; exact hx
    b2 := h.b2
    r1 := by rw [List.map_append]; exact hown
    r2 := own_keep h.r2 hg (fun g hm => notrow g (fun hm2 => dLA g hm2 hm))
    kid := fun j t hj => (h.kid j t hj).keep hg (fun g hm => notrow g (fun hm2 => dLF g hm2 (List.mem_flatMap.2 ⟨j, List.mem_range.2 (by have := (List.getElem?_eq_some_iff.1 hj).1; have := h.n2; omega), hm⟩)))
    nd := nodup3.2 ⟨blk_nodup _, nA, nF, fun g hm hm2 => by
      rcases hL' g hm with h1 | h1
      · exact dLA g h1 hm2
      · have := bdA g hm2; omega, fun g hm hm2 => by
      rcases hL' g hm with h1 | h1
      · exact dLF g h1 hm2
      · have := bdF g hm2; omega, dAF⟩
    bd := fun g hm => by
      have hs := hg.size
      rcases List.mem_append.1 hm with hm | hm
      · rcases List.mem_append.1 hm with hm | hm
        · exact hown.lt g ((blk_own L' (kl + 1) lc' g).2 hm)
        · have := bdA g hm; omega
      · have := bdF g hm; omega
    cur := h.cur.grownNew hg (fun g hgg => by have := hbw g hgg; omega)
    gr := grown_new h.gr hg hbw
    bl := hb }
/-- one part more -/
theorem DI.part (h : DI b B w kl k ls ts L A lc d xs fs wr) {t : Ty} (ht : wt t ≤ B) {fp : List Nat} {r0 r1 r2 : Value} (hot : OTy wr t [r0, r1, r2] fp) (hfp : ∀ x ∈ fp, w.heap.size ≤ x ∧ x < wr.heap.size) (hap : ∀ x ∈ fp, x ∉ blk L ++ blk A ++ (List.range k).flatMap fs)
    {A' : Option Addr} {d' : Nat} (hown : w2.ownsRow w.heap.size 27 3 (.slice A' (k + 1) d') (k + 1) (xs ++ [r0, r1, r2])) (hg : wr.grownBy w2 (Value.slice A k d).ownBlock)
    (hor : (Value.slice A' (k + 1) d').ownBlock = (Value.slice A k d).ownBlock ∨ (Value.slice A' (k + 1) d').ownBlock = some wr.heap.size) : DI b B w kl (k + 1) ls (ts ++ [t]) L A' lc d' (xs ++ [r0, r1, r2]) (fun j => if j = k then fp else fs j) w2 := by
  obtain ⟨nL, nA, nF, dLA, dLF, dAF⟩ := nodup3.1 h.nd
  have hxl : xs.length = k * 3 := h.r2.1
  have hn2 := h.n2
  have hrowA : ∀ g, (Value.slice A k d).ownBlock = some g ↔ g ∈ blk A := blk_own A k d
  have hb := h.bl
  have hbw : ∀ g, (Value.slice A k d).ownBlock = some g → w.heap.size ≤ g := fun g hgg => (h.bd g (by simp [(hrowA g).1 hgg])).1
  have hA' : ∀ g ∈ blk A', g ∈ blk A ∨ g = wr.heap.size := by
    intro g hm
    have e := (blk_own A' (k + 1) d' g).2 hm
    rcases hor with h | h
    · rw [h] at e; exact .inl ((hrowA g).1 e)
    · rw [h] at e; injection e with e; exact .inr e.symm
  have notrow : ∀ g, g ∉ blk A → some g ≠ (Value.slice A k d).ownBlock := fun g hm e => hm ((hrowA g).1 e.symm)
  have bdL : ∀ g ∈ blk L, w.heap.size ≤ g ∧ g < wr.heap.size := fun g hm => h.bd g (by simp [hm])
  have bdF : ∀ g ∈ (List.range k).flatMap fs, w.heap.size ≤ g ∧ g < wr.heap.size := fun g hm => h.bd g (List.mem_append.2 (.inr hm))
  have apL : ∀ x ∈ fp, x ∉ blk L := fun x hx hm => hap x hx (by simp [hm])
  have apA : ∀ x ∈ fp, x ∉ blk A := fun x hx hm => hap x hx (by simp [hm])
  have apF : ∀ x ∈ fp, x ∉ (List.range k).flatMap fs := fun x hx hm => hap x hx (List.mem_append.2 (.inr hm))
  exact {
    n1 := h.n1
    n2 := by rw [List.length_append, h.n2]; rfl
    b1 := h.b1
    b2 := fun y hy => by
      rcases List.mem_append.1 hy with hy | hy
      · exact h.b2 y hy
      · simp at hy; subst hy; exact ht
    r1 := own_keep h.r1 hg (fun g hm => notrow g (dLA g hm))
    r2 := hown
    kid := fun j s hj => by
      show OTy _ _ _ (if j = k then fp else fs j)
      by_cases e : j = k
      · subst e
        rw [List.getElem?_append_right (by omega), hn2, Nat.sub_self] at hj
        simp at hj
        subst hj
        rw [if_pos rfl, part3_end hxl]
        exact hot.keep hg (fun g hm => notrow g (apA g hm))
      · have hjl := (List.getElem?_eq_some_iff.1 hj).1
        rw [List.length_append, hn2] at hjl
        have hj' : j < k := by simp at hjl; omega
        rw [List.getElem?_append_left (by omega)] at hj
        rw [if_neg e, part3_app hxl hj']
        exact (h.kid j s hj).keep hg (fun g hm => notrow g (fun hA => dAF g hA (List.mem_flatMap.2 ⟨j, List.mem_range.2 hj', hm⟩)))
    nd := by
      rw [flat_more]
      refine nodup3.2 ⟨nL, blk_nodup _, List.nodup_append.2 ⟨nF, hot.nodup, fun x hx y hy e => apF y hy (e ▸ hx)⟩, fun g hm hm2 => ?_, fun g hm hm2 => ?_, fun g hm hm2 => ?_⟩
      · rcases hA' g hm2 with h1 | h1
        · exact dLA g hm h1
        · have := bdL g hm; omega
      · rcases List.mem_append.1 hm2 with h1 | h1
        · exact dLF g hm h1
        · exact apL g h1 hm
      · rcases hA' g hm with h1 | h1
        · rcases List.mem_append.1 hm2 with h2 | h2
          · exact dAF g h1 h2
          · exact apA g h2 h1
        · rcases List.mem_append.1 hm2 with h2 | h2
          · have := bdF g h2; omega
          · have := hfp g h2; omega
    bd := fun g hm => by
      have hs := hg.size
      rw [flat_more] at hm
      rcases List.mem_append.1 hm with hm | hm
      · rcases List.mem_append.1 hm with hm | hm
        · have := bdL g hm; omega
        · exact hown.lt g ((blk_own A' (k + 1) d' g).2 hm)
      · rcases List.mem_append.1 hm with hm | hm
        · have := bdF g hm; omega
        · have := hfp g hm; omega
    cur := h.cur.grownNew hg (fun g hgg => by have := hbw g hgg; omega)
    gr := grown_new h.gr hg hbw
    bl := hb }
theorem DI.kids (h : DI b B w kl k ls ts L A lc d xs fs wr) : RKids wr A ts := by
  refine ⟨part3 xs, fun j t hj => ⟨(h.kid j t hj).reads, ?_⟩⟩
  have hjl := (List.getElem?_eq_some_iff.1 hj).1
  have hn2 := h.n2
  rcases h.r2.2 with ⟨_, h0⟩ | ⟨g, cap, cur, hv, _⟩
  · omega
  · injection hv with e1 _ _
    subst e1
    refine ⟨_, rfl, fun i u hi => ?_⟩
    have hxl : xs.length = k * 3 := h.r2.1
    have hi3 : i < 3 := by
      have := (List.getElem?_eq_some_iff.1 hi).1
      rw [part3_len _ _ (by omega)] at this
      exact this
    rw [part3_get _ _ _ hi3] at hi
    exact h.r2.cells (g := g) rfl _ u hi
end
end Go.Proofs.Ytffaggiblglcbaa
