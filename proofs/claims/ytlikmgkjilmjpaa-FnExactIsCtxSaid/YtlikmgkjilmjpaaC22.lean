/-
  Merged by program: OnlyG, KdVa, KDd, Db, TySize.
-/
import Derived.Test.YtlikmgkjilmjpaaC21
import Derived.Test.YtlikmgkjilmjpaaC5
import Derived.Test.YtlikmgkjilmjpaaC9
import Derived.Test.YtlikmgkjilmjpaaC10
import Derived.Test.YtlikmgkjilmjpaaC13
import Derived.Test.YtlikmgkjilmjpaaC20
import Derived.Test.YtlikmgkjilmjpaaC19
import Derived.Test.YtlikmgkjilmjpaaC17
import Derived.Test.YtlikmgkjilmjpaaC18
import Derived.Test.YtlikmgkjilmjpaaC2

/-
  Worlds in which only the named blocks have turned; marks as texts. The laws' markStringS.
-/
namespace Go.Proofs.Ytlikmgkjilmjpaa
open Go.RowKit

/-- but for new blocks, only the blocks of fp have turned -/
structure Only (fp : List Nat) (w w' : World) : Prop where
  os : w'.os = w.os
  tape : w'.tape = w.tape
  output : w'.output = w.output
  size : w.heap.size ≤ w'.heap.size
  block : ∀ b, b < w.heap.size → b ∉ fp → w'.heap[b]? = w.heap[b]?
section
variable {fp gp : List Nat} {a b c : World}
theorem Only.refl (fp : List Nat) (w : World) : Only fp w w := ⟨rfl, rfl, rfl, Nat.le_refl _, fun _ _ _ => rfl⟩
theorem Only.trans (h : Only fp a b) (k : Only fp b c) : Only fp a c :=
  ⟨k.os.trans h.os, k.tape.trans h.tape, k.output.trans h.output, Nat.le_trans h.size k.size, fun i hi hn => (k.block i (Nat.lt_of_lt_of_le hi h.size) hn).trans (h.block i hi hn)⟩
theorem Only.more (h : Only fp a b) (hs : ∀ x ∈ fp, x ∈ gp) : Only gp a b := ⟨h.os, h.tape, h.output, h.size, fun i hi hn => h.block i hi (fun hm => hn (hs i hm))⟩
theorem Only.of_below (h : Below a.heap.size a b) : Only fp a b := ⟨h.os, h.tape, h.output, h.size, fun i hi _ => h.block i hi⟩
theorem Only.of_grown {row : Option Nat} (h : a.grownBy b row) (hr : ∀ g, row = some g → g ∈ fp) : Only fp a b :=
  ⟨h.os, h.tape, h.output, h.size, fun i hi hn => h.block i hi (fun e => hn (hr i e.symm))⟩
theorem Only.below {B : Nat} (h : Only fp a b) (hB : B ≤ a.heap.size) (hf : ∀ x ∈ fp, B ≤ x) : Below B a b :=
  ⟨h.os, h.tape, h.output, h.size, fun i hi => h.block i (by omega) (fun hm => by have := hf i hm; omega)⟩
end
theorem own_only {w w' : World} {base size n : Nat} {e : TypeId} {A : Option Addr} {c : Nat} {xs : List Value} {fp : List Nat} (h : w.ownsRow base e size (.slice A n c) n xs) (ho : Only fp w w') (hne : ∀ b ∈ blk A, b ∉ fp) : w'.ownsRow base e size (.slice A n c) n xs := by
  refine ⟨h.1, h.2.imp id ?_⟩
  rintro ⟨g, cap, cur, hv, hb, hg, rest⟩
  refine ⟨g, cap, cur, hv, hb, ?_, rest⟩
  injection hv with e1 _ _
  subst e1
  exact (ho.block g (Array.getElem?_eq_some_iff.1 hg).1 (hne g (by simp [blk]))).trans hg
/-- the marks as texts -/
def marksB (k : Int) (n : Nat) : List ByteArray := (List.range n).map fun (j : Nat) => ⟨(mtext (k + (j : Int))).toArray⟩
theorem marks_eq (k : Int) (n : Nat) : marks k n = (marksB k n).map Value.string := by simp [marks, marksB]
theorem marksB_len (k : Int) (n : Nat) : (marksB k n).length = n := by simp [marksB]
theorem mtext_len (k : Int) (h0 : 0 ≤ k) (h : k ≤ 1000000000000) : (mtext k).length ≤ 20 := by
  unfold mtext
  have := digs_len k.natAbs (by omega)
  simp
  omega
theorem marksB_size (k : Int) (n : Nat) (h0 : 0 < k) (h : k + n ≤ 1000000000000) : ∀ x ∈ marksB k n, x.size ≤ 9223372036854775807 := by
  intro x hx
  obtain ⟨j, hj, rfl⟩ := List.mem_map.1 hx
  have hj' := List.mem_range.1 hj
  have := mtext_len (k + (j : Int)) (by omega) (by omega)
  show (mtext (k + (j : Int))).toArray.size ≤ _
  rw [List.size_toArray]
  omega
/-- marks in the labels of one node -/
def MarkedS (L : Option Addr) (n c : Nat) (k : Int) (w : World) (e : Ending) (w' : World) : Prop :=
  e = .returned (.int .i64 (k + n)) ∧ w'.ownsRow 0 9 1 (.slice L n c) n (marks k n) ∧ Only (blk L) w w'
set_option maxHeartbeats 800000 in
theorem markS_any (L : Option Addr) (n c : Nat) (k : Int) (xs : List Value) (w : World) (h : w.ownsRow 0 9 1 (.slice L n c) n xs) (hx : ∀ u ∈ xs, ∃ s, u = .string s) (hk : 0 < k) (hk1 : k + n ≤ 1000000000000) :
    Calls Try.prog 60 #[.slice L n c, .int .i64 k] w (MarkedS L n c k w) := by
  rcases h.2 with ⟨hv, hn⟩ | ⟨g, cap, cur, hv, _⟩
  · injection hv with h1 h2 h3
    subst h1
    subst hn
    subst h3
    have hxs : xs = [] := List.eq_nil_of_length_eq_zero (by simpa using h.1)
    subst hxs
    have HR := Lib.hid h
    clear h
    go_enter Try.func60, Try.ntmps60
    go_wp2_with fail
    refine wp_loop_rounds 1 ?_
    rw [rounds_succ]
    go_wp2_with fail
    go_ret
    exact ⟨by simp, HR.out, Only.refl _ _⟩
  · injection hv with h1 h2 h3
    subst h1
    subst h3
    refine (markStringS_any g n c 0 k xs w h hx hk hk1).mono ?_
    rintro e w' ⟨rfl, hown, hg⟩
    exact ⟨rfl, hown, Only.of_grown hg (fun g' e => by injection e with e; subst e; simp [blk])⟩
theorem flat_mem {n : Nat} {fs : Nat → List Nat} {i x : Nat} (hi : i < n) (hx : x ∈ fs i) : x ∈ (List.range n).flatMap fs := List.mem_flatMap.2 ⟨i, List.mem_range.2 hi, hx⟩
theorem flat_apart : ∀ {n : Nat} {fs : Nat → List Nat}, ((List.range n).flatMap fs).Nodup → ∀ {i j x : Nat}, i < n → j < n → i ≠ j → x ∈ fs i → x ∉ fs j
  | 0, _, _, _, _, _, h, _, _, _ => by omega
  | n + 1, fs, hnd, i, j, x, hi, hj, hij, hx => by
    rw [List.range_succ, List.flatMap_append] at hnd
    have hs : [n].flatMap fs = fs n := by simp
    rw [hs] at hnd
    obtain ⟨h1, _, h3⟩ := List.nodup_append.1 hnd
    intro hy
    rcases Nat.lt_or_ge i n with h | h
    · rcases Nat.lt_or_ge j n with h' | h'
      · exact flat_apart h1 h h' hij hx hy
      · rw [show j = n by omega] at hy
        exact h3 x (flat_mem h hx) x hy rfl
    · rw [show i = n by omega] at hx
      exact h3 x (flat_mem (i := j) (by omega) hy) x hx rfl
end Go.Proofs.Ytlikmgkjilmjpaa

/-
  Values and lists of values as kinds of data; the laws' functions on such lists in the words of kinds.
-/
namespace Go.Proofs.Ytlikmgkjilmjpaa
open Go.RowKit

theorem OVa.heldK {w w' : World} {t : Va} {cs : List Value} {fp : List Nat} {K : Nat → Prop} (h : OVa w t cs fp) (hH : Held K w w') (hK : ∀ b ∈ fp, K b) : OVa w' t cs fp := by
  induction h with
  | node a ks L A c d xs fs h0 h1 h2 h3 h4 h5 ih =>
    refine .node a ks L A c d xs fs h0 (own_heldK h1 hH fun b hb => hK b (by simp [hb])) h2 (own_heldK h3 hH fun b hb => hK b (by simp [hb])) (fun j t hj => ih j t hj fun b hb => hK b ?_) h5
    rw [List.mem_append, List.mem_flatMap]
    exact .inr ⟨j, List.mem_range.2 (List.getElem?_eq_some_iff.1 hj).1, hb⟩
def kVa : Kd Va where
  n := 4
  R := RVa
  O := OVa
  len h := h.len
  keep h hb := h.keep hb
  reads h := h.reads
  held h hH hK := h.heldK hH hK
  nodup h := h.nodup
theorem rl_va {w : World} {A : Option Addr} {ks : List Va} : RL kVa w A ks ↔ RVas w A ks := Iff.rfl
theorem kVas_shape {e : TypeId} {w : World} {ts : List Va} {cs : List Value} (h : (kVa.list e).R w ts cs) : ∃ TA ta td, cs = [.slice TA ta td] := by
  obtain ⟨A, d, rfl, _⟩ := h
  exact ⟨_, _, _, rfl⟩
theorem kVas_slice {e : TypeId} {w : World} {ts : List Va} {A : Option Addr} {n d : Nat} (h : (kVa.list e).R w ts [.slice A n d]) : n = ts.length ∧ ts.length ≤ 9223372036854775807 ∧ ts.length ≤ d ∧ RVas w A ts := by
  obtain ⟨A', d', e1, h1, h2, h3⟩ := h
  injection e1 with e1 _
  injection e1 with e1 e2 e3
  subst e1 e2 e3
  exact ⟨rfl, h1, h2, h3⟩
theorem szVas_K (ts : List Va) (w : World) (left : Int) {A : Option Addr} {n d : Nat} (h : (kVa.list 30).R w ts [.slice A n d]) (h0 : 0 ≤ left) (h1 : left ≤ 1048576) : Calls Try.prog 36 #[.slice A n d, .int .i64 left] w (SzV (wL wv ts) left w) := by
  obtain ⟨rfl, hl, _, hp⟩ := kVas_slice h
  exact szValueS_of ts (fun t _ => szValue_any t) w A d left hp hl h0 h1
theorem toVas_K (ts : List Va) (w : World) {A : Option Addr} {n d : Nat} (h : (kVa.list 30).R w ts [.slice A n d]) (hw : wL wv ts ≤ 1048576) : Calls Try.prog 38 #[.slice A n d] w (MadeK (kVa.list 30) ts (fun cs => cs.headD undef) w) := by
  obtain ⟨rfl, hl, _, hp⟩ := kVas_slice h
  refine (toValueS_of ts (fun t _ => toValue_any t) w A d hp hw).mono fun e w' ⟨A', d', xs, fs, he, ho, hk, hn, hb, hbw⟩ => ?_
  exact ⟨[.slice A' ts.length d'], _, he, ⟨_, rfl, A', d', xs, fs, rfl, hl, ho, hk, rfl, hn⟩, hb, hbw⟩
theorem eqVas_K (ts : List Va) (w : World) {A B : Option Addr} {n m c d : Nat} (h : (kVa.list 30).R w ts [.slice A n c]) (h' : (kVa.list 30).R w ts [.slice B m d]) : Calls Try.prog 41 #[.slice A n c, .slice B m d] w (LawYes w) := by
  obtain ⟨rfl, hl, _, hp⟩ := kVas_slice h
  obtain ⟨rfl, _, _, hp'⟩ := kVas_slice h'
  exact eqValueS_of ts (fun t _ => eqValue_same t) w A B c d hp hp' hl
end Go.Proofs.Ytlikmgkjilmjpaa

/-
  Structs of a name and a list of values (TableData). Written by genpair.py.
-/
namespace Go.Proofs.Ytlikmgkjilmjpaa
open Go.RowKit

abbrev Dd := ByteArray × List Va
def kDd : Kd Dd := kStr.prod (kVa.list 30)
theorem kDd_n : kDd.n = 2 := rfl
def wDd (x : Dd) : Nat := x.1.size + (wL wv) x.2
theorem kDd_open {w : World} {x : Dd} {cs : List Value} (h : kDd.R w x cs) : ∃ TA ta td, cs = [.string x.1, .slice TA ta td] ∧ x.1.size ≤ 9223372036854775807 ∧ (kVa.list 30).R w x.2 [.slice TA ta td] := by
  obtain ⟨c1, c2, rfl, ⟨rfl, h1⟩, h2⟩ := h
  obtain ⟨TA, ta, td, rfl⟩ := kVas_shape h2
  exact ⟨TA, ta, td, rfl, h1, h2⟩
theorem kDd_make {w : World} {x : Dd} {ys : List Value} (h1 : x.1.size ≤ 9223372036854775807) (h2 : (kVa.list 30).R w x.2 ys) : kDd.R w x (.string x.1 :: ys) := ⟨[.string x.1], ys, rfl, ⟨rfl, h1⟩, h2⟩
theorem kDd_omake {w : World} {x : Dd} {ys : List Value} {fp : List Nat} (h1 : x.1.size ≤ 9223372036854775807) (h2 : (kVa.list 30).O w x.2 ys fp) : kDd.O w x (.string x.1 :: ys) fp := ⟨[.string x.1], ys, [], fp, rfl, ⟨rfl, h1, rfl⟩, h2, rfl, (kVa.list 30).nodup h2⟩
theorem kDd_oopen {w : World} {x : Dd} {cs : List Value} {fp : List Nat} (h : kDd.O w x cs fp) : ∃ TA ta td, cs = [.string x.1, .slice TA ta td] ∧ x.1.size ≤ 9223372036854775807 ∧ (kVa.list 30).O w x.2 [.slice TA ta td] fp := by
  obtain ⟨c1, c2, f1, f2, rfl, ⟨rfl, h1, rfl⟩, h2, rfl, _⟩ := h
  obtain ⟨TA, ta, td, rfl⟩ := kVas_shape ((kVa.list 30).reads h2)
  exact ⟨TA, ta, td, rfl, h1, h2⟩
end Go.Proofs.Ytlikmgkjilmjpaa

/-
  DB: a struct of one field, a list of TableData. Written by genwrap.py.
-/
namespace Go.Proofs.Ytlikmgkjilmjpaa
open Go.RowKit

abbrev Db := List Dd
def wDb (t : Db) : Nat := wL wDd t
theorem len_wDb (t : Db) : t.length ≤ wDb t := by unfold wDb wL; omega
end Go.Proofs.Ytlikmgkjilmjpaa

/-
  The model's SizeOfType.
-/
namespace Go.Proofs.Ytlikmgkjilmjpaa
open Go.RowKit

/-- an answer that is a number; all that was there is as it was -/
def Counts (n : Int) (w : World) (e : Ending) (w' : World) : Prop := e = .returned (.int .i64 n) ∧ Below w.heap.size w w'

end Go.Proofs.Ytlikmgkjilmjpaa
