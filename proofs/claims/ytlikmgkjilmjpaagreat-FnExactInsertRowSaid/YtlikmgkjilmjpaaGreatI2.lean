/-
  Merged by program: Mark, Row, TyOwn.
-/
import Derived.Test.YtlikmgkjilmjpaaGreatI1
import Derived.OwnWalk
import Derived.RegionTactic
import Derived.Deep.RegionHeld3

/-
  The marks that a law writes into a result to see whose memory it is: a text for each number; writing them into a list of strings; reading them back.
-/
namespace Go.Proofs.YtlikmgkjilmjpaaGreat
open Go.RowKit

def mtext (k : Int) : List UInt8 := 109 :: digs k.natAbs

set_option maxRecDepth 100000 in
set_option maxHeartbeats 1600000 in
theorem markText_any (n : Int) (hpos : 0 < n) (h1 : n ≤ 1000000000000) (w : World) : Calls Tryz.prog 63 #[.int .i64 n] w (Text (mtext n) w) := by
  have hle : ¬ n ≤ 0 := by omega
  go_enter Tryz.func63, Tryz.ntmps63
  go_wp2
  go_loopw [0, 3] (fun v o wr => FInv n w v o wr) (fun v _ _ => (intOf v).natAbs)
  case atStart => exact ⟨n, [], rfl, rfl, by omega, by omega, fun h => by omega, fun h => by omega, by simp, Below.refl _ _⟩
  case round =>
    obtain ⟨m, l, rfl, rfl, hm0, hm1, hs1, hs2, hd, hb⟩ := hrel
    have hm2 : 0 ≤ m := hs2 hpos
    have hl : l.length ≤ 19 := by
      have h2 := digs_len n.natAbs (by omega)
      rw [hd, List.length_append] at h2
      omega
    have HD := Lib.hid hd
    clear hd hs1 hs2
    by_cases hm : 0 < m
    · have hcv := run_text_one wr
      have HT := Lib.hid (tmod_pos m hm)
      go_wp2
      go_roundw
      case rel => exact finv_pos hpos hm1 hm HD.out (hb.alloc hb.size _) rfl _ rfl
      case measure => have := HT.out.2; simp only [intOf]; omega
    · have he : m = 0 := by omega
      subst he
      have HF : Hid (Ending.returned (.string (⟨#[109]⟩ ++ ⟨l.toArray⟩)) = Ending.returned (.string ⟨(mtext n).toArray⟩)) := by
        have e : l = digs n.natAbs := by rw [HD.out]; rfl
        rw [push_front, e]; rfl
      go_wp2
      go_ret
      exact ⟨HF.out, hb⟩

/-- the marks from k on -/
def marks (k : Int) (n : Nat) : List Value := (List.range n).map fun (j : Nat) => Value.string ⟨(mtext (k + (j : Int))).toArray⟩
theorem marks_at (k : Int) (n j : Nat) (h : j < n) : (marks k n)[j]? = some (.string ⟨(mtext (k + j)).toArray⟩) := by simp [marks, h]
theorem marks_len (k : Int) (n : Nat) : (marks k n).length = n := by simp [marks]
theorem over_step (ms xs : List Value) (j : Nat) (u : Value) (hl : ms.length = xs.length) (h : ms[j]? = some u) : (ms.take j ++ xs.drop j).set j u = ms.take (j + 1) ++ xs.drop (j + 1) := by
  have hj : j < ms.length := (List.getElem?_eq_some_iff.1 h).1
  rw [List.set_append_right _ _ (by rw [List.length_take]; omega), List.take_add_one, h]
  have e2 : j - (ms.take j).length = 0 := by rw [List.length_take]; omega
  have e3 : xs.drop j = xs[j] :: xs.drop (j + 1) := List.drop_eq_getElem_cons (by omega)
  rw [e2, e3, List.set_cons_zero]
  simp

def MarkPost (e : TypeId) (g n cap : Nat) (base : Nat) (k : Int) (w : World) (en : Ending) (w' : World) : Prop :=
  en = .returned (.int .i64 (k + n)) ∧ w'.ownsRow base e 1 (.slice (some ⟨g, 0, none⟩) n cap) n (marks k n) ∧ w.grownBy w' (some g)

set_option maxHeartbeats 1600000 in
theorem markStringS_any (g n cap base : Nat) (k : Int) (xs : List Value) (w : World) (hown0 : w.ownsRow base 9 1 (.slice (some ⟨g, 0, none⟩) n cap) n xs) (hx : ∀ u ∈ xs, ∃ s, u = .string s) (hk : 0 < k) (hk1 : k + n ≤ 1000000000000) :
    Calls Tryz.prog 43 #[.slice (some ⟨g, 0, none⟩) n cap, .int .i64 k] w (MarkPost 9 g n cap base k w) := by
  have hxl : xs.length = n := by simpa using hown0.1
  have HX := Lib.hid hxl
  have hw0 : w.grownBy w (some g) := ⟨rfl, rfl, rfl, Nat.le_refl _, fun _ _ _ => rfl⟩
  clear hxl
  go_enter Tryz.func43, Tryz.ntmps43
  go_wp2_with fail
  go_loopw [1, 5] (fun q i wr => ∃ j : Nat, j ≤ n ∧ i = .int .i64 j ∧ q = .int .i64 (k + j) ∧ wr.ownsRow base 9 1 (.slice (some ⟨g, 0, none⟩) n cap) n ((marks k n).take j ++ xs.drop j) ∧ w.grownBy wr (some g)) (fun _ i _ => n - (intOf i).toNat)
  case atStart => exact ⟨0, Nat.zero_le _, rfl, by simp, by simpa using hown0, hw0⟩
  case round =>
    obtain ⟨j, hj, rfl, rfl, hown, hgr⟩ := hrel
    by_cases hlt : j < n
    · have HO := Lib.hid hown
      clear hown
      go_wp2_with fail
      refine (markText_any (k + j) (by omega) (by omega) wr).mono ?_
      rintro e w1 ⟨rfl, hb1⟩
      have hown1 := own_below HO.out hb1
      have hfr : w1.frozen? ⟨g, j, none⟩ = false := hown1.frozenAt j
      obtain ⟨s0, hat⟩ : ∃ s0, w1.cell? ⟨g, j, none⟩ = some (.string s0) := by
        rw [hown1.cellAt j (by omega)]
        have e1 : ((marks k n).take j ++ xs.drop j)[j]? = xs[j]? := by
          rw [List.getElem?_append_right (by rw [List.length_take, marks_len]; omega), List.length_take, marks_len, Nat.min_eq_left (by omega), Nat.sub_self, List.getElem?_drop, Nat.add_zero]
        rw [e1]
        have hl : j < xs.length := by rw [HX.out]; exact hlt
        rw [List.getElem?_eq_getElem hl]
        obtain ⟨s, hs⟩ := hx xs[j] (List.getElem_mem hl)
        exact ⟨s, by rw [hs]⟩
      have hst := (hown1.stored j (.string ⟨(mtext (k + j)).toArray⟩)).1
      rw [over_step (marks k n) xs j _ (by rw [marks_len, HX.out]) (marks_at k n j hlt)] at hst
      have HS := Lib.hid hst
      have hg1 := grown_below hgr hb1
      have HG := Lib.hid (grown_set (j := j) hg1 (.string ⟨(mtext (k + j)).toArray⟩))
      clear hst hown1 hg1
      go_wp2_with fail
      go_roundw
      case rel => exact ⟨j + 1, by omega, by go_num, by go_num, HS.out, HG.out⟩
      case measure => simp [intOf]; omega
    · have hje : j = n := by omega
      subst hje
      have e1 : (marks k j).take j ++ xs.drop j = marks k j := by
        rw [List.take_of_length_le (by rw [marks_len]; omega), List.drop_of_length_le (by rw [HX.out]; omega), List.append_nil]
      rw [e1] at hown
      have HO := Lib.hid hown
      clear hown e1
      go_wp2_with fail
      go_ret
      exact ⟨rfl, HO.out, hgr⟩

def HeldPost (n : Nat) (k : Int) (w : World) (en : Ending) (w' : World) : Prop := en = .returned (.int .i64 (k + n)) ∧ Below w.heap.size w w'

set_option maxHeartbeats 1600000 in
theorem heldStringS_any (A : Option Addr) (n cap : Nat) (k : Int) (w : World) (h : Sl w A (marks k n)) (hk : 0 < k) (hk1 : k + n ≤ 1000000000000) :
    Calls Tryz.prog 80 #[.slice A n cap, .int .i64 k] w (HeldPost n k w) := by
  go_enter Tryz.func80, Tryz.ntmps80
  go_wp2_with fail
  go_loopw [1, 5] (fun q i wr => ∃ j : Nat, j ≤ n ∧ i = .int .i64 j ∧ q = .int .i64 (k + j) ∧ Below w.heap.size w wr) (fun _ i _ => n - (intOf i).toNat)
  case atStart => exact ⟨0, Nat.zero_le _, rfl, by simp, Below.refl _ _⟩
  case round =>
    obtain ⟨j, hj, rfl, rfl, hb⟩ := hrel
    by_cases hlt : j < n
    · obtain ⟨ad, rfl, hc0⟩ := h j _ (marks_at k n j hlt)
      have hblk := World.block_lt_of_cell? w _ hc0
      have hc : wr.cell? (ad.add j) = some (.string ⟨(mtext (k + j)).toArray⟩) := (hb.cell hblk).trans hc0
      clear hc0
      have hwb : (ad.add j).block < wr.heap.size := World.block_lt_of_cell? wr _ hc
      have h0 : 0 < k + j := by omega
      have h1 : k + j ≤ 1000000000000 := by omega
      have HB := Lib.hid hb
      clear hblk h hb
      go_wp2_with fail
      go_region_held3 (fun w' => w'.cell? (ad.add j) = some (.string ⟨(mtext (k + j)).toArray⟩)) (assumption)
        ((go_at_call 63; refine (markText_any _ h0 h1 _).mono ?_; rintro e w1 ⟨rfl, hb1⟩; have hc1 : w1.cell? (ad.add j) = some (.string ⟨(mtext (k + j)).toArray⟩) := (hb1.cell (by exact hwb)).trans hc))
      all_goals
        have hb2 := HB.out.drew.trans (hb1.mono (by have := HB.out.size; simpa using this))
        have HB2 := Lib.hid hb2
        clear hb2 hb1 hc1 hc
        go_wp2_with fail
        go_roundw
        case rel => exact ⟨j + 1, by omega, by go_num, by go_num, HB2.out⟩
        case measure => simp [intOf]; omega
    · go_wp2_with fail
      have hje : j = n := by omega
      subst hje
      go_ret
      exact ⟨rfl, hb⟩
end Go.Proofs.YtlikmgkjilmjpaaGreat

/-
  Lists in memory of the call's own, each in a span of blocks: what keeps them apart; writing marks into one of them.
-/
namespace Go.Proofs.YtlikmgkjilmjpaaGreat
open Go.RowKit

/-- the slice owns the cells xs, in a block from lo on and below hi -/
def Row (w : World) (lo hi : Nat) (A : Option Addr) (n c : Nat) (xs : List Value) : Prop :=
  w.ownsRow lo 9 1 (.slice A n c) n xs ∧ ∀ g, (Value.slice A n c).ownBlock = some g → g < hi
theorem Row.of {w : World} {lo : Nat} {A : Option Addr} {n c : Nat} {xs : List Value} (h : w.ownsRow lo 9 1 (.slice A n c) n xs) : Row w lo w.heap.size A n c xs := ⟨h, fun g hg => (h.lt g hg).2⟩
theorem Row.sl {w : World} {lo hi : Nat} {A : Option Addr} {n c : Nat} {xs : List Value} (h : Row w lo hi A n c xs) : Sl w A xs := Sl.of_own h.1
theorem Row.below {w w' : World} {lo hi : Nat} {A : Option Addr} {n c : Nat} {xs : List Value} (h : Row w lo hi A n c xs) (hb : Below w.heap.size w w') : Row w' lo hi A n c xs := ⟨own_below h.1 hb, h.2⟩
theorem Row.drewN {w : World} {lo hi : Nat} {A : Option Addr} {n c : Nat} {xs : List Value} (h : Row w lo hi A n c xs) (q : Nat) : Row (w.drewN q) lo hi A n c xs := h
/-- nothing but a block of this span (or new ones) has turned -/
def Turned (lo hi : Nat) (w w' : World) : Prop := ∃ row, w.grownBy w' row ∧ ∀ g, row = some g → lo ≤ g ∧ g < hi
theorem Row.turned {w w' : World} {lo hi lo' hi' : Nat} {A : Option Addr} {n c : Nat} {xs : List Value} (h : Row w lo hi A n c xs) (ht : Turned lo' hi' w w') (hd : hi ≤ lo' ∨ hi' ≤ lo) : Row w' lo hi A n c xs := by
  obtain ⟨row, hg, hr⟩ := ht
  refine ⟨h.1.kept hg ?_, h.2⟩
  rcases hv : (Value.slice A n c).ownBlock with _ | g
  · exact .inl rfl
  · refine .inr (fun e => ?_)
    have h1 := hr g e.symm
    have h2 := h.1.lt g hv
    have h3 := h.2 g hv
    omega
theorem Turned.size {lo hi : Nat} {w w' : World} (h : Turned lo hi w w') : w.heap.size ≤ w'.heap.size := by
  obtain ⟨row, hg, _⟩ := h
  exact hg.size
theorem below_turned {B lo hi : Nat} {w0 w w' : World} (h : Below B w0 w) (ht : Turned lo hi w w') (hB : B ≤ w.heap.size) (hlo : B ≤ lo) : Below B w0 w' := by
  obtain ⟨row, hg, hr⟩ := ht
  exact h.grown hg hB (fun g hg' => Nat.le_trans hlo (hr g hg').1)

def MarkedL (lo hi : Nat) (A : Option Addr) (n c : Nat) (k : Int) (w : World) (en : Ending) (w' : World) : Prop :=
  en = .returned (.int .i64 (k + n)) ∧ Row w' lo hi A n c (marks k n) ∧ Turned lo hi w w'

set_option maxHeartbeats 800000 in
theorem markL_any (lo hi : Nat) (A : Option Addr) (n c : Nat) (k : Int) (xs : List Value) (w : World) (h : Row w lo hi A n c xs) (hx : ∀ u ∈ xs, ∃ s, u = .string s) (hk : 0 < k) (hk1 : k + n ≤ 1000000000000) :
    Calls Tryz.prog 43 #[.slice A n c, .int .i64 k] w (MarkedL lo hi A n c k w) := by
  rcases h.1.2 with ⟨hv, hn⟩ | ⟨g, cap, cur, hv, _⟩
  · injection hv with h1 h2 h3
    subst h1
    subst hn
    subst h3
    have hxs : xs = [] := List.eq_nil_of_length_eq_zero (by simpa using h.1.1)
    subst hxs
    have HR := Lib.hid h
    clear h
    go_enter Tryz.func43, Tryz.ntmps43
    go_wp2_with fail
    refine wp_loop_rounds 1 ?_
    rw [rounds_succ]
    go_wp2_with fail
    go_ret
    exact ⟨by simp, HR.out, none, World.grownBy.refl _ _, fun g hg => by cases hg⟩
  · injection hv with h1 h2 h3
    subst h1
    subst h3
    refine (markStringS_any g n c lo k xs w h.1 hx hk hk1).mono ?_
    rintro e w' ⟨rfl, hown, hg⟩
    exact ⟨rfl, ⟨hown, h.2⟩, some g, hg, fun g' e => by injection e with e; subst e; exact ⟨(h.1.lt g rfl).1, h.2 g rfl⟩⟩
theorem strs_strs (xs : List ByteArray) : ∀ u ∈ xs.map Value.string, ∃ s, u = .string s := by
  intro u hu
  obtain ⟨x, _, rfl⟩ := List.mem_map.1 hu
  exact ⟨x, rfl⟩
theorem mem_total {xs : List ByteArray} {x : ByteArray} (h : x ∈ xs) : x.size ≤ total xs := by
  induction xs with
  | nil => simp at h
  | cons y r ih =>
    have e : total (y :: r) = y.size + total r := by simp [total]
    rcases List.mem_cons.1 h with rfl | h
    · omega
    · have := ih h; omega

/-- a list in new memory, told by its span -/
def MadeL (n : Nat) (xs : List Value) (w : World) (en : Ending) (w' : World) : Prop :=
  ∃ A c, en = .returned (.slice A n c) ∧ Row w' w.heap.size w'.heap.size A n c xs ∧ Below w.heap.size w w'
theorem made_of_new {n : Nat} {xs : List Value} {w w' : World} {en : Ending} (h : SlNew 9 n xs w en w') : MadeL n xs w en w' := ⟨_, _, h.1, Row.of h.2.1, h.2.2⟩
theorem copyL_any (A : Option Addr) (c : Nat) (xs : List ByteArray) (w : World) (h : Sl w A (xs.map Value.string)) (hn : xs.length ≤ 1048576) :
    Calls Tryz.prog 32 #[.slice A xs.length c] w (MadeL xs.length (xs.map Value.string) w) :=
  (toStringS_any A c xs w h hn).mono fun _ _ h => made_of_new h
theorem eqL_any (A B : Option Addr) (c d : Nat) (xs : List ByteArray) (w : World) (hA : Sl w A (xs.map Value.string)) (hB : Sl w B (xs.map Value.string)) (hn : xs.length ≤ 9223372036854775807) :
    Calls Tryz.prog 39 #[.slice A xs.length c, .slice B xs.length d] w (LawYes w) :=
  (eqStringS_same A B c d xs w hA hB hn).mono fun _ _ ⟨h1, n, h2⟩ => ⟨h1, by rw [h2]; exact below_drewN (Below.refl _ _) n⟩
end Go.Proofs.YtlikmgkjilmjpaaGreat

/-
  A type in memory of the call's own: its rows, one block each, no two alike.
-/
namespace Go.Proofs.YtlikmgkjilmjpaaGreat
open Go.RowKit

/-- the block of a slice -/
def blk : Option Addr → List Nat
  | some a => [a.block]
  | none => []
theorem blk_own (A : Option Addr) (n c : Nat) : ∀ g, (Value.slice A n c).ownBlock = some g ↔ g ∈ blk A := by
  intro g
  cases A <;> simp [Value.ownBlock, blk, eq_comm]

/-- the bounds of what a node holds -/
def TyA.ok (a : TyA) : Prop := -9223372036854775808 ≤ a.kind ∧ a.kind ≤ 9223372036854775807 ∧ a.labels.length ≤ 9223372036854775807 ∧ ∀ x ∈ a.labels, x.size ≤ 9223372036854775807
/-- the three cells are a type of the call's own; its blocks -/
inductive OTy (w : World) : Ty → List Value → List Nat → Prop where
  | node (a : TyA) (ks : List Ty) (L A : Option Addr) (c d : Nat) (xs : List Value) (fs : Nat → List Nat) (h0 : a.ok) (h1 : w.ownsRow 0 9 1 (.slice L a.labels.length c) a.labels.length (a.labels.map Value.string)) (h2 : ks.length ≤ 9223372036854775807)
      (h3 : w.ownsRow 0 96 3 (.slice A ks.length d) ks.length xs) (h4 : ∀ j t, ks[j]? = some t → OTy w t (part3 xs j) (fs j)) (h5 : (blk L ++ blk A ++ (List.range ks.length).flatMap fs).Nodup) :
      OTy w (.node a ks) [.int .i64 a.kind, .slice L a.labels.length c, .slice A ks.length d] (blk L ++ blk A ++ (List.range ks.length).flatMap fs)

theorem own_capTy {w : World} {base size : Nat} {e : TypeId} {A : Option Addr} {n c : Nat} {xs : List Value} (h : w.ownsRow base e size (.slice A n c) n xs) : n ≤ c := by
  rcases h.2 with ⟨hv, h0⟩ | ⟨g, cap, cur, hv, _, _, h3, _⟩
  · omega
  · injection hv with _ _ hv; omega

theorem OTy.reads {w : World} {t : Ty} {cs : List Value} {fp : List Nat} (h : OTy w t cs fp) : RTy w t cs := by
  induction h with
  | node a ks L A c d xs fs h0 h1 h2 h3 _ _ ih =>
    obtain ⟨a1, a2, a3, a4⟩ := h0
    have hx : xs.length = ks.length * 3 := h3.1
    refine .node a ks [.int .i64 a.kind, .slice L a.labels.length c] A d (part3 xs) ⟨L, c, rfl, Sl.of_own h1, a1, a2, a3, a4⟩ rfl h2 (fun j hj => ?_) (fun j t hj => ih j t hj) (own_capTy h3)
    refine ⟨part3_len _ _ (by omega), ?_⟩
    rcases h3.2 with ⟨_, h0⟩ | ⟨g, cap, cur, hv, _⟩
    · omega
    · injection hv with e1 _ _
      subst e1
      refine ⟨_, rfl, fun i u hi => ?_⟩
      have hi3 : i < 3 := by
        have := (List.getElem?_eq_some_iff.1 hi).1
        rw [part3_len _ _ (by omega)] at this
        exact this
      rw [part3_get _ _ _ hi3] at hi
      exact h3.cells (g := g) rfl _ u hi
theorem own_keep {w w' : World} {base size n : Nat} {e : TypeId} {A : Option Addr} {c : Nat} {xs : List Value} {row : Option Nat} (h : w.ownsRow base e size (.slice A n c) n xs) (hg : w.grownBy w' row) (hne : ∀ b ∈ blk A, some b ≠ row) : w'.ownsRow base e size (.slice A n c) n xs := by
  refine h.kept hg ?_
  cases hv : (Value.slice A n c).ownBlock with
  | none => exact .inl rfl
  | some g => exact .inr (hne g ((blk_own A n c g).1 hv))
theorem OTy.keep {w w' : World} {t : Ty} {cs : List Value} {fp : List Nat} {row : Option Nat} (h : OTy w t cs fp) (hg : w.grownBy w' row) (hne : ∀ b ∈ fp, some b ≠ row) : OTy w' t cs fp := by
  induction h with
  | node a ks L A c d xs fs h0 h1 h2 h3 h4 h5 ih =>
    refine .node a ks L A c d xs fs h0 (own_keep h1 hg (fun b hb => hne b (by simp [hb]))) h2 (own_keep h3 hg (fun b hb => hne b (by simp [hb]))) (fun j t hj => ih j t hj (fun b hb => hne b ?_)) h5
    rw [List.mem_append, List.mem_flatMap]
    exact .inr ⟨j, List.mem_range.2 (List.getElem?_eq_some_iff.1 hj).1, hb⟩
theorem OTy.under {w w' : World} {t : Ty} {cs : List Value} {fp : List Nat} (h : OTy w t cs fp) (hb : Below w.heap.size w w') : OTy w' t cs fp :=
  h.keep (row := none) ⟨hb.os, hb.tape, hb.output, hb.size, fun i hi _ => hb.block i hi⟩ (fun b _ => by simp)
theorem OTy.nodup {w : World} {t : Ty} {cs : List Value} {fp : List Nat} (h : OTy w t cs fp) : fp.Nodup := by
  cases h with
  | node a ks L A c d xs fs _ _ _ _ _ h5 => exact h5
/-- the three cells written out -/
theorem OTy.three {w : World} {t : Ty} {cs : List Value} {fp : List Nat} (h : OTy w t cs fp) : ∃ L c A d, cs = [.int .i64 t.top.kind, .slice L t.top.labels.length c, .slice A t.kids.length d] := by
  cases h with
  | node a ks L A c d xs fs => exact ⟨L, c, A, d, rfl⟩

/-- a type in new memory -/
def MadeT (t : Ty) (w : World) (e : Ending) (w' : World) : Prop :=
  ∃ (L A : Option Addr) (c d : Nat) (fp : List Nat), e = .returned (.agg #[.int .i64 t.top.kind, .slice L t.top.labels.length c, .slice A t.kids.length d]) ∧ OTy w' t [.int .i64 t.top.kind, .slice L t.top.labels.length c, .slice A t.kids.length d] fp ∧
    (∀ b ∈ fp, w.heap.size ≤ b ∧ b < w'.heap.size) ∧ Below w.heap.size w w'
end Go.Proofs.YtlikmgkjilmjpaaGreat
