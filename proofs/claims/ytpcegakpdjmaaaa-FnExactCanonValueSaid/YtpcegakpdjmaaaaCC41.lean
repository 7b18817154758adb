/-
  Merged by program: OnlyG.
-/
import Derived.Test.YtpcegakpdjmaaaaCC31
import Derived.Test.YtpcegakpdjmaaaaCC5
import Derived.Test.YtpcegakpdjmaaaaCC15

/-
  Worlds in which only the named blocks have turned; marks as texts. The laws' markStringS.
-/
namespace Go.Proofs.Ytpcegakpdjmaaaa
open Go.RowKit

/-- but for new blocks, only the blocks of fp have turned -/
structure Only (fp : List Nat) (w w' : World) : Prop where
  os : w'.os = w.os
  tape : w'.tape = w.tape
  output : w'.output = w.output
  size : w.heap.size ≤ w'.heap.size
  block : ∀ b, b < w.heap.size → b ∉ fp → w'.heap[b]? = w.heap[b]?
section
variable {fp gp : List Nat} {a b c : World}
theorem Only.refl (fp : List Nat) (w : World) : Only fp w w := ⟨rfl, rfl, rfl, Nat.le_refl _, fun _ _ _ => rfl⟩
theorem Only.trans (h : Only fp a b) (k : Only fp b c) : Only fp a c :=
  ⟨k.os.trans h.os, k.tape.trans h.tape, k.output.trans h.output, Nat.le_trans h.size k.size, fun i hi hn => (k.block i (Nat.lt_of_lt_of_le hi h.size) hn).trans (h.block i hi hn)⟩
theorem Only.more (h : Only fp a b) (hs : ∀ x ∈ fp, x ∈ gp) : Only gp a b := ⟨h.os, h.tape, h.output, h.size, fun i hi hn => h.block i hi (fun hm => hn (hs i hm))⟩
theorem Only.of_below (h : Below a.heap.size a b) : Only fp a b := ⟨h.os, h.tape, h.output, h.size, fun i hi _ => h.block i hi⟩
theorem Only.of_grown {row : Option Nat} (h : a.grownBy b row) (hr : ∀ g, row = some g → g ∈ fp) : Only fp a b :=
  ⟨h.os, h.tape, h.output, h.size, fun i hi hn => h.block i hi (fun e => hn (hr i e.symm))⟩
theorem Only.below {B : Nat} (h : Only fp a b) (hB : B ≤ a.heap.size) (hf : ∀ x ∈ fp, B ≤ x) : Below B a b :=
  ⟨h.os, h.tape, h.output, h.size, fun i hi => h.block i (by omega) (fun hm => by have := hf i hm; omega)⟩
end
theorem own_only {w w' : World} {base size n : Nat} {e : TypeId} {A : Option Addr} {c : Nat} {xs : List Value} {fp : List Nat} (h : w.ownsRow base e size (.slice A n c) n xs) (ho : Only fp w w') (hne : ∀ b ∈ blk A, b ∉ fp) : w'.ownsRow base e size (.slice A n c) n xs := by
  refine ⟨h.1, h.2.imp id ?_⟩
  rintro ⟨g, cap, cur, hv, hb, hg, rest⟩
  refine ⟨g, cap, cur, hv, hb, ?_, rest⟩
  injection hv with e1 _ _
  subst e1
  exact (ho.block g (Array.getElem?_eq_some_iff.1 hg).1 (hne g (by simp [blk]))).trans hg
/-- the marks as texts -/
def marksB (k : Int) (n : Nat) : List ByteArray := (List.range n).map fun (j : Nat) => ⟨(mtext (k + (j : Int))).toArray⟩
theorem marks_eq (k : Int) (n : Nat) : marks k n = (marksB k n).map Value.string := by simp [marks, marksB]
theorem marksB_len (k : Int) (n : Nat) : (marksB k n).length = n := by simp [marksB]
theorem mtext_len (k : Int) (h0 : 0 ≤ k) (h : k ≤ 1000000000000) : (mtext k).length ≤ 20 := by
  unfold mtext
  have := digs_len k.natAbs (by omega)
  simp
  omega
theorem marksB_size (k : Int) (n : Nat) (h0 : 0 < k) (h : k + n ≤ 1000000000000) : ∀ x ∈ marksB k n, x.size ≤ 9223372036854775807 := by
  intro x hx
  obtain ⟨j, hj, rfl⟩ := List.mem_map.1 hx
  have hj' := List.mem_range.1 hj
  have := mtext_len (k + (j : Int)) (by omega) (by omega)
  show (mtext (k + (j : Int))).toArray.size ≤ _
  rw [List.size_toArray]
  omega
/-- marks in the labels of one node -/
def MarkedS (L : Option Addr) (n c : Nat) (k : Int) (w : World) (e : Ending) (w' : World) : Prop :=
  e = .returned (.int .i64 (k + n)) ∧ w'.ownsRow 0 9 1 (.slice L n c) n (marks k n) ∧ Only (blk L) w w'
set_option maxHeartbeats 800000 in
theorem markS_any (L : Option Addr) (n c : Nat) (k : Int) (xs : List Value) (w : World) (h : w.ownsRow 0 9 1 (.slice L n c) n xs) (hx : ∀ u ∈ xs, ∃ s, u = .string s) (hk : 0 < k) (hk1 : k + n ≤ 1000000000000) :
    Calls Try.prog 52 #[.slice L n c, .int .i64 k] w (MarkedS L n c k w) := by
  rcases h.2 with ⟨hv, hn⟩ | ⟨g, cap, cur, hv, _⟩
  · injection hv with h1 h2 h3
    subst h1
    subst hn
    subst h3
    have hxs : xs = [] := List.eq_nil_of_length_eq_zero (by simpa using h.1)
    subst hxs
    have HR := Lib.hid h
    clear h
    go_enter Try.func52, Try.ntmps52
    go_wp2_with fail
    refine wp_loop_rounds 1 ?_
    rw [rounds_succ]
    go_wp2_with fail
    go_ret
    exact ⟨by simp, HR.out, Only.refl _ _⟩
  · injection hv with h1 h2 h3
    subst h1
    subst h3
    refine (markStringS_any g n c 0 k xs w h hx hk hk1).mono ?_
    rintro e w' ⟨rfl, hown, hg⟩
    exact ⟨rfl, hown, Only.of_grown hg (fun g' e => by injection e with e; subst e; simp [blk])⟩
theorem flat_mem {n : Nat} {fs : Nat → List Nat} {i x : Nat} (hi : i < n) (hx : x ∈ fs i) : x ∈ (List.range n).flatMap fs := List.mem_flatMap.2 ⟨i, List.mem_range.2 hi, hx⟩
theorem flat_apart : ∀ {n : Nat} {fs : Nat → List Nat}, ((List.range n).flatMap fs).Nodup → ∀ {i j x : Nat}, i < n → j < n → i ≠ j → x ∈ fs i → x ∉ fs j
  | 0, _, _, _, _, _, h, _, _, _ => by omega
  | n + 1, fs, hnd, i, j, x, hi, hj, hij, hx => by
    rw [List.range_succ, List.flatMap_append] at hnd
    have hs : [n].flatMap fs = fs n := by simp
    rw [hs] at hnd
    obtain ⟨h1, _, h3⟩ := List.nodup_append.1 hnd
    intro hy
    rcases Nat.lt_or_ge i n with h | h
    · rcases Nat.lt_or_ge j n with h' | h'
      · exact flat_apart h1 h h' hij hx hy
      · rw [show j = n by omega] at hy
        exact h3 x (flat_mem h hx) x hy rfl
    · rw [show i = n by omega] at hx
      exact h3 x (flat_mem (i := j) (by omega) hy) x hx rfl
end Go.Proofs.Ytpcegakpdjmaaaa
