/-
  Merged by program: LevSeq, Box4.
-/
import Derived.Test.YtpcegakpdjmaaaaCC16
import Derived.Test.YtpcegakpdjmaaaaCC7
import Derived.Shelf.Abstract
import Derived.Shelf.RegionOpen
import Derived.WalkKit
import Derived.OwnWalkIn
import Derived.TacticsInMore
import Derived.LoopNIn
import Derived.LoopIn
import Derived.Test.YtpcegakpdjmaaaaCC1
import Derived.Laws.Rows

/-
  The program's 'levels': what its iterator gives.
-/
namespace Go.Proofs.Ytpcegakpdjmaaaa
open Go.RowKit Go.Shelf

attribute [local go_sem] Oper.semAt_some

def Least (Q : Nat → Prop) (n : Nat) : Prop := Q n ∧ ∀ m, Q m → n ≤ m
theorem least_ex {Q : Nat → Prop} (h : ∃ n, Q n) : ∃ n, Least Q n := by
  obtain ⟨n, hn⟩ := h
  induction n using Nat.strongRecOn with
  | _ n ih =>
    by_cases h : ∃ m, m < n ∧ Q m
    · obtain ⟨m, hm, hq⟩ := h
      exact ih m hm hq
    · exact ⟨n, hn, fun m hm => Nat.le_of_not_lt fun hlt => h ⟨m, hlt, hm⟩⟩
theorem least_at {Q : Nat → Prop} {m : Nat} (h : Q m) : Least Q (Classical.epsilon (Least Q)) := Classical.epsilon_spec (least_ex ⟨m, h⟩)

/-- what is known of the k-th value -/
def LevRd (w0 : World) (t : Ty) (B k : Nat) (v : Value) (w : World) : Prop := ∃ A c, v = .slice A (lev [t] k).length c ∧ (∀ b ∈ blk A, B ≤ b) ∧ RowL w0 w A (lev [t] k)
theorem addr_block (a : Addr) (j : Nat) : (a.add j).block = a.block := by unfold Addr.add; split <;> rfl
theorem RowL.apart {w0 a b : World} {A : Option Addr} {ks : List Ty} {lo hi : Nat} (h : RowL w0 a A ks) (hA : ∀ b ∈ blk A, hi ≤ b) (k : Apart lo hi a b) : RowL w0 b A ks := by
  obtain ⟨xs, h1, h2, h3⟩ := h
  refine ⟨xs, h1, fun j u hj => ?_, h3⟩
  obtain ⟨ad, rfl, hc⟩ := h2 j u hj
  refine ⟨ad, rfl, (World.cell?_of_block (k.block _ (World.block_lt_of_cell? _ _ hc) (.inr ?_))).trans hc⟩
  rw [addr_block]
  exact hA _ (by simp [blk])
theorem LevRd.apart {w0 a b : World} {t : Ty} {lo B k : Nat} {v : Value} (h : LevRd w0 t B k v a) (hk : Apart lo B a b) : LevRd w0 t B k v b := by
  obtain ⟨A, c, rfl, h1, h2⟩ := h
  exact ⟨A, c, rfl, h1, h2.apart h1 hk⟩

/-- what the loop of levels keeps -/
def LevInv (w0 : World) (t : Ty) (B : Nat) (J : Nat → World → Prop) (k : Nat) (p : Value) (wr : World) : Prop :=
  k ≤ t.deep ∧ LevRd w0 t B k p wr ∧ Below w0.heap.size w0 wr ∧ B ≤ wr.heap.size ∧ J k wr

set_option maxRecDepth 100000 in
set_option maxHeartbeats 2000000 in
theorem levels1_gives (w0 : World) (t : Ty) (c0 c1 c2 : Value) (hr : RTy w0 t [c0, c1, c2]) (hs : t.size ≤ 1048577) (n Bx : Nat) (hn : 2 ≤ n) (W : World) (hw : Below w0.heap.size w0 W) (hbox : Box3 W Bx 41 c0 c1 c2) :
    Gives Fence.wide n Try.prog 98 #[.pointer (some ⟨Bx, 0, none⟩)] t.deep (LevRd w0 t W.heap.size) w0.heap.size W := by
  intro l J Jx hJ hY h0
  have x0 := hbox.c0
  have x1 := hbox.c1
  have x2 := hbox.c2
  have h1 : 1 ≤ n := by omega
  refine callsIn_of_wp Try.func98 rfl trivial ?_ rfl
  simp only [Try.ntmps98, List.size_toArray, List.length_cons, List.length_nil, Nat.reduceAdd, Nat.reduceSub, Array.replicate_succ, Array.replicate_zero, List.push_toArray, List.append_toArray, List.nil_append, List.cons_append]
  have H0 : Hid (LevInv w0 t W.heap.size J 0 (.slice (some ⟨W.heap.size, 0, none⟩) 1 1) (W.alloc (.cells #[c0, c1, c2] 41))) := by
    refine ⟨Nat.zero_le _, ⟨_, 1, rfl, by simp [blk], [c0, c1, c2], rfl, ?_, ?_⟩, hw.alloc hw.size _, by simp, hJ _ _ _ h0 ((Below.refl _ _).alloc (Nat.le_refl _) _)⟩
    · intro j u hj
      match j, hj with
      | 0, hj => simp at hj; subst hj; exact ⟨_, rfl, by simp [Addr.add]⟩
      | 1, hj => simp at hj; subst hj; exact ⟨_, rfl, by simp [Addr.add]⟩
      | 2, hj => simp at hj; subst hj; exact ⟨_, rfl, by simp [Addr.add]⟩
      | j + 3, hj => simp at hj
    · intro j s hj
      match j, hj with
      | 0, hj =>
        have e : t = s := by simpa [lev] using hj
        subst e
        exact hr
      | j + 1, hj => simp [lev] at hj
  have HS := Lib.hid hs
  have HJ := Lib.hid hJ
  have HY := Lib.hid hY
  clear hs hJ hY h0 hr
  gi_wp2
  gi_loopw [3] (fun p wr => ∃ k, LevInv w0 t W.heap.size J k p wr) (fun p wr => Classical.epsilon (Least fun m => ∃ k, LevInv w0 t W.heap.size J k p wr ∧ m = t.deep - k))
  case atStart => exact ⟨0, H0.out⟩
  case round =>
    obtain ⟨p, hp0⟩ : ∃ p, u3 = p := ⟨_, rfl⟩
    rw [hp0] at hrel ⊢
    obtain ⟨k0, hk0⟩ := hrel
    have hle := least_at (Q := fun m => ∃ k, LevInv w0 t W.heap.size J k p wr ∧ m = t.deep - k) ⟨k0, hk0, rfl⟩
    obtain ⟨μ, hμ⟩ : ∃ μ, Classical.epsilon (Least fun m => ∃ k, LevInv w0 t W.heap.size J k p wr ∧ m = t.deep - k) = μ := ⟨_, rfl⟩
    rw [hμ] at hle
    obtain ⟨⟨k, ⟨hk, ⟨A, c, rfl, hA, hrow⟩, hb, hB, hJk⟩, hmu⟩, _⟩ := hle
    clear hk0 k0
    have HMU := Lib.hid hμ
    have HME := Lib.hid hmu
    clear hμ hmu
    by_cases hlt : k < t.deep
    · have hp := lev_pos hlt
      have hyy := HY.out k (.slice A (lev [t] k).length c) wr hlt hJk ⟨A, c, rfl, hA, hrow⟩
      obtain ⟨fn, tmps, assign, body, hy, hR⟩ := hyy
      have HN : Hid (∀ W3, Apart w0.heap.size W.heap.size wr W3 → J (k + 1) W3 → Calls Try.prog 99 #[.slice A (lev [t] k).length c] W3 (fun e w' => ∃ p', e = .returned p' ∧ LevInv w0 t W.heap.size J (k + 1) p' w')) := by
        intro W3 hap hj3
        have hb3 := hb.trans (hap.below hb.size)
        refine (args_any w0 (lev [t] k) W3 A c (hrow.apart hA hap) hb3 (Nat.le_trans (lev_sizes t k) HS.out)).mono ?_
        rintro e w' ⟨A', c', rfl, hr', hA', hb'⟩
        have hs3 := hap.size
        exact ⟨_, rfl, hlt, ⟨A', c', rfl, fun b hm => by have := hA' b hm; omega, hr'⟩, hb3.trans (hb'.mono hb3.size), by have := hb'.size; omega, HJ.out _ _ _ hj3 (hb'.mono (by omega))⟩
      clear hrow hb hJk
      generalize (lev [t] k).length = m at hp hy HN HMU ⊢
      gi_wp2
      refine hR.mono ?_
      rintro e W3 (⟨rfl, hJ3, hk3⟩ | ⟨rfl, hJx3⟩)
      · have HC := Lib.hid (HN.out W3 hk3 hJ3)
        clear hJ3 hk3
        gi_wp2_with (refine ⟨trivial, ?_⟩; gi_at_call 99; refine (callsIn_wide.2 HC.out).mono ?_; rintro e W4 ⟨p4, rfl, h4⟩; have H4 := Lib.hid h4; clear h4)
        go_roundw
        case rel => exact ⟨k + 1, H4.out⟩
        case measure =>
          rw [HMU.out]
          have h5 := (least_at (Q := fun m => ∃ k, LevInv w0 t W.heap.size J k p4 W4 ∧ m = t.deep - k) ⟨k + 1, H4.out, rfl⟩).2 _ ⟨k + 1, H4.out, rfl⟩
          have := HME.out
          omega
      · gi_wp2
        refine bodyPost_ret (results_none rfl _ _ _) rfl ?_
        exact ⟨⟨_, rfl⟩, .inr ⟨k + 1, hlt, hJx3⟩⟩
    · have he : k = t.deep := by omega
      rw [he] at hJk ⊢
      rw [lev_end (Nat.le_refl _)]
      gi_wp2
      go_end0
      exact ⟨⟨_, rfl⟩, .inl hJk⟩
end Go.Proofs.Ytpcegakpdjmaaaa

/-
  A block of four cells that is known whole. Hangs on no program.
-/
namespace Go.Proofs.Ytpcegakpdjmaaaa
open Go.RowKit

def Box4 (w : World) (g : Nat) (t : TypeId) (a b c d : Value) : Prop := w.heap[g]? = some (.cells #[a, b, c, d] t (0, 0))
section
variable {w w' : World} {g : Nat} {t : TypeId} {a b c d : Value}
theorem Box4.new (w : World) (t : TypeId) (a b c d : Value) : Box4 (w.alloc (.cells #[a, b, c, d] t)) w.heap.size t a b c d := heap_alloc_new w _
theorem Box4.lt (h : Box4 w g t a b c d) : g < w.heap.size := (Array.getElem?_eq_some_iff.1 h).1
theorem Box4.c0 (h : Box4 w g t a b c d) : w.cell? ⟨g, 0, none⟩ = some a := cell_of_row w g 0 _ t (0, 0) h
theorem Box4.c1 (h : Box4 w g t a b c d) : w.cell? ⟨g, 1, none⟩ = some b := cell_of_row w g 1 _ t (0, 0) h
theorem Box4.c2 (h : Box4 w g t a b c d) : w.cell? ⟨g, 2, none⟩ = some c := cell_of_row w g 2 _ t (0, 0) h
theorem Box4.c3 (h : Box4 w g t a b c d) : w.cell? ⟨g, 3, none⟩ = some d := cell_of_row w g 3 _ t (0, 0) h
theorem Box4.free (h : Box4 w g t a b c d) (i : Nat) : w.frozen? ⟨g, i, none⟩ = false := frozen_of_row w g i _ t h
theorem Box4.under (h : Box4 w g t a b c d) {B : Nat} (hb : Below B w w') (hg : g < B) : Box4 w' g t a b c d := (hb.block g hg).trans h
theorem Box4.alloc (h : Box4 w g t a b c d) (o : Obj) : Box4 (w.alloc o) g t a b c d := (heap_alloc_old w o h.lt).trans h
theorem Box4.far (h : Box4 w g t a b c d) {p : Addr} (hp : g ≠ p.block) (u : Value) : Box4 (w.setCell p u) g t a b c d := (Below.heap_setCell w p u g hp).trans h
theorem Box4.set0 (h : Box4 w g t a b c d) (u : Value) : Box4 (w.setCell ⟨g, 0, none⟩ u) g t u b c d := heap_setCell_same w g 0 _ t u h
theorem Box4.set1 (h : Box4 w g t a b c d) (u : Value) : Box4 (w.setCell ⟨g, 1, none⟩ u) g t a u c d := heap_setCell_same w g 1 _ t u h
theorem Box4.set2 (h : Box4 w g t a b c d) (u : Value) : Box4 (w.setCell ⟨g, 2, none⟩ u) g t a b u d := heap_setCell_same w g 2 _ t u h
theorem Box4.set3 (h : Box4 w g t a b c d) (u : Value) : Box4 (w.setCell ⟨g, 3, none⟩ u) g t a b c u := heap_setCell_same w g 3 _ t u h
theorem Box4.grown {row : Option Nat} (h : Box4 w g t a b c d) (hg : w.grownBy w' row) (hne : some g ≠ row) : Box4 w' g t a b c d := (hg.block g h.lt hne).trans h
end
end Go.Proofs.Ytpcegakpdjmaaaa
