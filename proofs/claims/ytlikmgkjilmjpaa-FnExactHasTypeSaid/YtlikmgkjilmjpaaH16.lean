/-
  Merged by program: Row, TyOwn.
-/
import Derived.Test.YtlikmgkjilmjpaaH13
import Derived.Test.YtlikmgkjilmjpaaH14
import Derived.Test.YtlikmgkjilmjpaaH15
import Derived.Test.YtlikmgkjilmjpaaH2

/-
  Lists in memory of the call's own, each in a span of blocks: what keeps them apart; writing marks into one of them.
-/
namespace Go.Proofs.Ytlikmgkjilmjpaa
open Go.RowKit

/-- the slice owns the cells xs, in a block from lo on and below hi -/
def Row (w : World) (lo hi : Nat) (A : Option Addr) (n c : Nat) (xs : List Value) : Prop :=
  w.ownsRow lo 9 1 (.slice A n c) n xs ∧ ∀ g, (Value.slice A n c).ownBlock = some g → g < hi
theorem Row.of {w : World} {lo : Nat} {A : Option Addr} {n c : Nat} {xs : List Value} (h : w.ownsRow lo 9 1 (.slice A n c) n xs) : Row w lo w.heap.size A n c xs := ⟨h, fun g hg => (h.lt g hg).2⟩
theorem Row.sl {w : World} {lo hi : Nat} {A : Option Addr} {n c : Nat} {xs : List Value} (h : Row w lo hi A n c xs) : Sl w A xs := Sl.of_own h.1
theorem Row.below {w w' : World} {lo hi : Nat} {A : Option Addr} {n c : Nat} {xs : List Value} (h : Row w lo hi A n c xs) (hb : Below w.heap.size w w') : Row w' lo hi A n c xs := ⟨own_below h.1 hb, h.2⟩
theorem Row.drewN {w : World} {lo hi : Nat} {A : Option Addr} {n c : Nat} {xs : List Value} (h : Row w lo hi A n c xs) (q : Nat) : Row (w.drewN q) lo hi A n c xs := h
/-- nothing but a block of this span (or new ones) has turned -/
def Turned (lo hi : Nat) (w w' : World) : Prop := ∃ row, w.grownBy w' row ∧ ∀ g, row = some g → lo ≤ g ∧ g < hi
theorem Row.turned {w w' : World} {lo hi lo' hi' : Nat} {A : Option Addr} {n c : Nat} {xs : List Value} (h : Row w lo hi A n c xs) (ht : Turned lo' hi' w w') (hd : hi ≤ lo' ∨ hi' ≤ lo) : Row w' lo hi A n c xs := by
  obtain ⟨row, hg, hr⟩ := ht
  refine ⟨h.1.kept hg ?_, h.2⟩
  rcases hv : (Value.slice A n c).ownBlock with _ | g
  · exact .inl rfl
  · refine .inr (fun e => ?_)
    have h1 := hr g e.symm
    have h2 := h.1.lt g hv
    have h3 := h.2 g hv
    omega
theorem Turned.size {lo hi : Nat} {w w' : World} (h : Turned lo hi w w') : w.heap.size ≤ w'.heap.size := by
  obtain ⟨row, hg, _⟩ := h
  exact hg.size
theorem below_turned {B lo hi : Nat} {w0 w w' : World} (h : Below B w0 w) (ht : Turned lo hi w w') (hB : B ≤ w.heap.size) (hlo : B ≤ lo) : Below B w0 w' := by
  obtain ⟨row, hg, hr⟩ := ht
  exact h.grown hg hB (fun g hg' => Nat.le_trans hlo (hr g hg').1)

def MarkedL (lo hi : Nat) (A : Option Addr) (n c : Nat) (k : Int) (w : World) (en : Ending) (w' : World) : Prop :=
  en = .returned (.int .i64 (k + n)) ∧ Row w' lo hi A n c (marks k n) ∧ Turned lo hi w w'

set_option maxHeartbeats 800000 in
theorem markL_any (lo hi : Nat) (A : Option Addr) (n c : Nat) (k : Int) (xs : List Value) (w : World) (h : Row w lo hi A n c xs) (hx : ∀ u ∈ xs, ∃ s, u = .string s) (hk : 0 < k) (hk1 : k + n ≤ 1000000000000) :
    Calls Try.prog 60 #[.slice A n c, .int .i64 k] w (MarkedL lo hi A n c k w) := by
  rcases h.1.2 with ⟨hv, hn⟩ | ⟨g, cap, cur, hv, _⟩
  · injection hv with h1 h2 h3
    subst h1
    subst hn
    subst h3
    have hxs : xs = [] := List.eq_nil_of_length_eq_zero (by simpa using h.1.1)
    subst hxs
    have HR := Lib.hid h
    clear h
    go_enter Try.func60, Try.ntmps60
    go_wp2_with fail
    refine wp_loop_rounds 1 ?_
    rw [rounds_succ]
    go_wp2_with fail
    go_ret
    exact ⟨by simp, HR.out, none, World.grownBy.refl _ _, fun g hg => by cases hg⟩
  · injection hv with h1 h2 h3
    subst h1
    subst h3
    refine (markStringS_any g n c lo k xs w h.1 hx hk hk1).mono ?_
    rintro e w' ⟨rfl, hown, hg⟩
    exact ⟨rfl, ⟨hown, h.2⟩, some g, hg, fun g' e => by injection e with e; subst e; exact ⟨(h.1.lt g rfl).1, h.2 g rfl⟩⟩
theorem strs_strs (xs : List ByteArray) : ∀ u ∈ xs.map Value.string, ∃ s, u = .string s := by
  intro u hu
  obtain ⟨x, _, rfl⟩ := List.mem_map.1 hu
  exact ⟨x, rfl⟩
theorem mem_total {xs : List ByteArray} {x : ByteArray} (h : x ∈ xs) : x.size ≤ total xs := by
  induction xs with
  | nil => simp at h
  | cons y r ih =>
    have e : total (y :: r) = y.size + total r := by simp [total]
    rcases List.mem_cons.1 h with rfl | h
    · omega
    · have := ih h; omega

/-- a list in new memory, told by its span -/
def MadeL (n : Nat) (xs : List Value) (w : World) (en : Ending) (w' : World) : Prop :=
  ∃ A c, en = .returned (.slice A n c) ∧ Row w' w.heap.size w'.heap.size A n c xs ∧ Below w.heap.size w w'
theorem made_of_new {n : Nat} {xs : List Value} {w w' : World} {en : Ending} (h : SlNew 9 n xs w en w') : MadeL n xs w en w' := ⟨_, _, h.1, Row.of h.2.1, h.2.2⟩
theorem copyL_any (A : Option Addr) (c : Nat) (xs : List ByteArray) (w : World) (h : Sl w A (xs.map Value.string)) (hn : xs.length ≤ 1048576) :
    Calls Try.prog 37 #[.slice A xs.length c] w (MadeL xs.length (xs.map Value.string) w) :=
  (toStringS_any A c xs w h hn).mono fun _ _ h => made_of_new h
theorem eqL_any (A B : Option Addr) (c d : Nat) (xs : List ByteArray) (w : World) (hA : Sl w A (xs.map Value.string)) (hB : Sl w B (xs.map Value.string)) (hn : xs.length ≤ 9223372036854775807) :
    Calls Try.prog 40 #[.slice A xs.length c, .slice B xs.length d] w (LawYes w) :=
  (eqStringS_same A B c d xs w hA hB hn).mono fun _ _ ⟨h1, n, h2⟩ => ⟨h1, by rw [h2]; exact below_drewN (Below.refl _ _) n⟩
end Go.Proofs.Ytlikmgkjilmjpaa

/-
  A type in memory of the call's own: its rows, one block each, no two alike.
-/
namespace Go.Proofs.Ytlikmgkjilmjpaa
open Go.RowKit

/-- the block of a slice -/
def blk : Option Addr → List Nat
  | some a => [a.block]
  | none => []
theorem blk_own (A : Option Addr) (n c : Nat) : ∀ g, (Value.slice A n c).ownBlock = some g ↔ g ∈ blk A := by
  intro g
  cases A <;> simp [Value.ownBlock, blk, eq_comm]

/-- the bounds of what a node holds -/
def TyA.ok (a : TyA) : Prop := -9223372036854775808 ≤ a.kind ∧ a.kind ≤ 9223372036854775807 ∧ a.labels.length ≤ 9223372036854775807 ∧ ∀ x ∈ a.labels, x.size ≤ 9223372036854775807
/-- the three cells are a type of the call's own; its blocks -/
inductive OTy (w : World) : Ty → List Value → List Nat → Prop where
  | node (a : TyA) (ks : List Ty) (L A : Option Addr) (c d : Nat) (xs : List Value) (fs : Nat → List Nat) (h0 : a.ok) (h1 : w.ownsRow 0 9 1 (.slice L a.labels.length c) a.labels.length (a.labels.map Value.string)) (h2 : ks.length ≤ 9223372036854775807)
      (h3 : w.ownsRow 0 41 3 (.slice A ks.length d) ks.length xs) (h4 : ∀ j t, ks[j]? = some t → OTy w t (part3 xs j) (fs j)) (h5 : (blk L ++ blk A ++ (List.range ks.length).flatMap fs).Nodup) :
      OTy w (.node a ks) [.int .i64 a.kind, .slice L a.labels.length c, .slice A ks.length d] (blk L ++ blk A ++ (List.range ks.length).flatMap fs)

theorem own_capTy {w : World} {base size : Nat} {e : TypeId} {A : Option Addr} {n c : Nat} {xs : List Value} (h : w.ownsRow base e size (.slice A n c) n xs) : n ≤ c := by
  rcases h.2 with ⟨hv, h0⟩ | ⟨g, cap, cur, hv, _, _, h3, _⟩
  · omega
  · injection hv with _ _ hv; omega

theorem OTy.reads {w : World} {t : Ty} {cs : List Value} {fp : List Nat} (h : OTy w t cs fp) : RTy w t cs := by
  induction h with
  | node a ks L A c d xs fs h0 h1 h2 h3 _ _ ih =>
    obtain ⟨a1, a2, a3, a4⟩ := h0
    have hx : xs.length = ks.length * 3 := h3.1
    refine .node a ks [.int .i64 a.kind, .slice L a.labels.length c] A d (part3 xs) ⟨L, c, rfl, Sl.of_own h1, a1, a2, a3, a4⟩ rfl h2 (fun j hj => ?_) (fun j t hj => ih j t hj) (own_capTy h3)
    refine ⟨part3_len _ _ (by omega), ?_⟩
    rcases h3.2 with ⟨_, h0⟩ | ⟨g, cap, cur, hv, _⟩
    · omega
    · injection hv with e1 _ _
      subst e1
      refine ⟨_, rfl, fun i u hi => ?_⟩
      have hi3 : i < 3 := by
        have := (List.getElem?_eq_some_iff.1 hi).1
        rw [part3_len _ _ (by omega)] at this
        exact this
      rw [part3_get _ _ _ hi3] at hi
      exact h3.cells (g := g) rfl _ u hi
theorem own_keep {w w' : World} {base size n : Nat} {e : TypeId} {A : Option Addr} {c : Nat} {xs : List Value} {row : Option Nat} (h : w.ownsRow base e size (.slice A n c) n xs) (hg : w.grownBy w' row) (hne : ∀ b ∈ blk A, some b ≠ row) : w'.ownsRow base e size (.slice A n c) n xs := by
  refine h.kept hg ?_
  cases hv : (Value.slice A n c).ownBlock with
  | none => exact .inl rfl
  | some g => exact .inr (hne g ((blk_own A n c g).1 hv))
theorem OTy.keep {w w' : World} {t : Ty} {cs : List Value} {fp : List Nat} {row : Option Nat} (h : OTy w t cs fp) (hg : w.grownBy w' row) (hne : ∀ b ∈ fp, some b ≠ row) : OTy w' t cs fp := by
  induction h with
  | node a ks L A c d xs fs h0 h1 h2 h3 h4 h5 ih =>
    refine .node a ks L A c d xs fs h0 (own_keep h1 hg (fun b hb => hne b (by simp [hb]))) h2 (own_keep h3 hg (fun b hb => hne b (by simp [hb]))) (fun j t hj => ih j t hj (fun b hb => hne b ?_)) h5
    rw [List.mem_append, List.mem_flatMap]
    exact .inr ⟨j, List.mem_range.2 (List.getElem?_eq_some_iff.1 hj).1, hb⟩
theorem OTy.under {w w' : World} {t : Ty} {cs : List Value} {fp : List Nat} (h : OTy w t cs fp) (hb : Below w.heap.size w w') : OTy w' t cs fp :=
  h.keep (row := none) ⟨hb.os, hb.tape, hb.output, hb.size, fun i hi _ => hb.block i hi⟩ (fun b _ => by simp)
theorem OTy.nodup {w : World} {t : Ty} {cs : List Value} {fp : List Nat} (h : OTy w t cs fp) : fp.Nodup := by
  cases h with
  | node a ks L A c d xs fs _ _ _ _ _ h5 => exact h5
/-- the three cells written out -/
theorem OTy.three {w : World} {t : Ty} {cs : List Value} {fp : List Nat} (h : OTy w t cs fp) : ∃ L c A d, cs = [.int .i64 t.top.kind, .slice L t.top.labels.length c, .slice A t.kids.length d] := by
  cases h with
  | node a ks L A c d xs fs => exact ⟨L, c, A, d, rfl⟩

/-- a type in new memory -/
def MadeT (t : Ty) (w : World) (e : Ending) (w' : World) : Prop :=
  ∃ (L A : Option Addr) (c d : Nat) (fp : List Nat), e = .returned (.agg #[.int .i64 t.top.kind, .slice L t.top.labels.length c, .slice A t.kids.length d]) ∧ OTy w' t [.int .i64 t.top.kind, .slice L t.top.labels.length c, .slice A t.kids.length d] fp ∧
    (∀ b ∈ fp, w.heap.size ≤ b ∧ b < w'.heap.size) ∧ Below w.heap.size w w'
end Go.Proofs.Ytlikmgkjilmjpaa
