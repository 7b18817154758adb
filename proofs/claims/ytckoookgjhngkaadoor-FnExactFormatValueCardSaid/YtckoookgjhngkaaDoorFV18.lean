/-
  Merged by program: Mark, Row.
-/
import Derived.Test.YtckoookgjhngkaaDoorFV17
import Derived.OwnWalk
import Derived.RegionTactic
import Derived.Deep.RegionHeld3
import Derived.Test.YtckoookgjhngkaaDoorFV16
import Derived.Test.YtckoookgjhngkaaDoorFV14

/-
  The marks that a law writes into a result to see whose memory it is: a text for each number; writing them into a list of strings; reading them back.
-/
namespace Go.Proofs.YtckoookgjhngkaaDoor
open Go.RowKit

def mtext (k : Int) : List UInt8 := 109 :: digs k.natAbs

/-- the marks from k on -/
def marks (k : Int) (n : Nat) : List Value := (List.range n).map fun (j : Nat) => Value.string ⟨(mtext (k + (j : Int))).toArray⟩
theorem marks_at (k : Int) (n j : Nat) (h : j < n) : (marks k n)[j]? = some (.string ⟨(mtext (k + j)).toArray⟩) := by simp [marks, h]
theorem marks_len (k : Int) (n : Nat) : (marks k n).length = n := by simp [marks]
theorem over_step (ms xs : List Value) (j : Nat) (u : Value) (hl : ms.length = xs.length) (h : ms[j]? = some u) : (ms.take j ++ xs.drop j).set j u = ms.take (j + 1) ++ xs.drop (j + 1) := by
  have hj : j < ms.length := (List.getElem?_eq_some_iff.1 h).1
  rw [List.set_append_right _ _ (by rw [List.length_take]; omega), List.take_add_one, h]
  have e2 : j - (ms.take j).length = 0 := by rw [List.length_take]; omega
  have e3 : xs.drop j = xs[j] :: xs.drop (j + 1) := List.drop_eq_getElem_cons (by omega)
  rw [e2, e3, List.set_cons_zero]
  simp

def MarkPost (e : TypeId) (g n cap : Nat) (base : Nat) (k : Int) (w : World) (en : Ending) (w' : World) : Prop :=
  en = .returned (.int .i64 (k + n)) ∧ w'.ownsRow base e 1 (.slice (some ⟨g, 0, none⟩) n cap) n (marks k n) ∧ w.grownBy w' (some g)

def HeldPost (n : Nat) (k : Int) (w : World) (en : Ending) (w' : World) : Prop := en = .returned (.int .i64 (k + n)) ∧ Below w.heap.size w w'

end Go.Proofs.YtckoookgjhngkaaDoor

/-
  Lists in memory of the call's own, each in a span of blocks: what keeps them apart; writing marks into one of them.
-/
namespace Go.Proofs.YtckoookgjhngkaaDoor
open Go.RowKit

/-- the slice owns the cells xs, in a block from lo on and below hi -/
def Row (w : World) (lo hi : Nat) (A : Option Addr) (n c : Nat) (xs : List Value) : Prop :=
  w.ownsRow lo 9 1 (.slice A n c) n xs ∧ ∀ g, (Value.slice A n c).ownBlock = some g → g < hi
theorem Row.of {w : World} {lo : Nat} {A : Option Addr} {n c : Nat} {xs : List Value} (h : w.ownsRow lo 9 1 (.slice A n c) n xs) : Row w lo w.heap.size A n c xs := ⟨h, fun g hg => (h.lt g hg).2⟩
theorem Row.sl {w : World} {lo hi : Nat} {A : Option Addr} {n c : Nat} {xs : List Value} (h : Row w lo hi A n c xs) : Sl w A xs := Sl.of_own h.1
theorem Row.below {w w' : World} {lo hi : Nat} {A : Option Addr} {n c : Nat} {xs : List Value} (h : Row w lo hi A n c xs) (hb : Below w.heap.size w w') : Row w' lo hi A n c xs := ⟨own_below h.1 hb, h.2⟩
theorem Row.drewN {w : World} {lo hi : Nat} {A : Option Addr} {n c : Nat} {xs : List Value} (h : Row w lo hi A n c xs) (q : Nat) : Row (w.drewN q) lo hi A n c xs := h
/-- nothing but a block of this span (or new ones) has turned -/
def Turned (lo hi : Nat) (w w' : World) : Prop := ∃ row, w.grownBy w' row ∧ ∀ g, row = some g → lo ≤ g ∧ g < hi
theorem Row.turned {w w' : World} {lo hi lo' hi' : Nat} {A : Option Addr} {n c : Nat} {xs : List Value} (h : Row w lo hi A n c xs) (ht : Turned lo' hi' w w') (hd : hi ≤ lo' ∨ hi' ≤ lo) : Row w' lo hi A n c xs := by
  obtain ⟨row, hg, hr⟩ := ht
  refine ⟨h.1.kept hg ?_, h.2⟩
  rcases hv : (Value.slice A n c).ownBlock with _ | g
  · exact .inl rfl
  · refine .inr (fun e => ?_)
    have h1 := hr g e.symm
    have h2 := h.1.lt g hv
    have h3 := h.2 g hv
    omega
theorem Turned.size {lo hi : Nat} {w w' : World} (h : Turned lo hi w w') : w.heap.size ≤ w'.heap.size := by
  obtain ⟨row, hg, _⟩ := h
  exact hg.size
theorem below_turned {B lo hi : Nat} {w0 w w' : World} (h : Below B w0 w) (ht : Turned lo hi w w') (hB : B ≤ w.heap.size) (hlo : B ≤ lo) : Below B w0 w' := by
  obtain ⟨row, hg, hr⟩ := ht
  exact h.grown hg hB (fun g hg' => Nat.le_trans hlo (hr g hg').1)

def MarkedL (lo hi : Nat) (A : Option Addr) (n c : Nat) (k : Int) (w : World) (en : Ending) (w' : World) : Prop :=
  en = .returned (.int .i64 (k + n)) ∧ Row w' lo hi A n c (marks k n) ∧ Turned lo hi w w'

theorem strs_strs (xs : List ByteArray) : ∀ u ∈ xs.map Value.string, ∃ s, u = .string s := by
  intro u hu
  obtain ⟨x, _, rfl⟩ := List.mem_map.1 hu
  exact ⟨x, rfl⟩
theorem mem_total {xs : List ByteArray} {x : ByteArray} (h : x ∈ xs) : x.size ≤ total xs := by
  induction xs with
  | nil => simp at h
  | cons y r ih =>
    have e : total (y :: r) = y.size + total r := by simp [total]
    rcases List.mem_cons.1 h with rfl | h
    · omega
    · have := ih h; omega

/-- a list in new memory, told by its span -/
def MadeL (n : Nat) (xs : List Value) (w : World) (en : Ending) (w' : World) : Prop :=
  ∃ A c, en = .returned (.slice A n c) ∧ Row w' w.heap.size w'.heap.size A n c xs ∧ Below w.heap.size w w'
theorem made_of_new {n : Nat} {xs : List Value} {w w' : World} {en : Ending} (h : SlNew 9 n xs w en w') : MadeL n xs w en w' := ⟨_, _, h.1, Row.of h.2.1, h.2.2⟩
theorem copyL_any (A : Option Addr) (c : Nat) (xs : List ByteArray) (w : World) (h : Sl w A (xs.map Value.string)) (hn : xs.length ≤ 1048576) :
    Calls Tryd.prog 13 #[.slice A xs.length c] w (MadeL xs.length (xs.map Value.string) w) :=
  (toStringS_any A c xs w h hn).mono fun _ _ h => made_of_new h
theorem eqL_any (A B : Option Addr) (c d : Nat) (xs : List ByteArray) (w : World) (hA : Sl w A (xs.map Value.string)) (hB : Sl w B (xs.map Value.string)) (hn : xs.length ≤ 9223372036854775807) :
    Calls Tryd.prog 17 #[.slice A xs.length c, .slice B xs.length d] w (LawYes w) :=
  (eqStringS_same A B c d xs w hA hB hn).mono fun _ _ ⟨h1, n, h2⟩ => ⟨h1, by rw [h2]; exact below_drewN (Below.refl _ _) n⟩
end Go.Proofs.YtckoookgjhngkaaDoor
