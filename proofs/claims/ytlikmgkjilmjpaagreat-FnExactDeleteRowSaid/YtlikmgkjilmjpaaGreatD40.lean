/-
  Merged by program: NumW, Idx, Unite, DnmI, Valid.
-/
import Derived.Test.YtlikmgkjilmjpaaGreatD1
import Derived.Test.YtlikmgkjilmjpaaGreatProg
import Derived.Lib.SlicesS
import Derived.Deep.QuietTactic
import Derived.BigQuiet
import Derived.Test.YtlikmgkjilmjpaaGreatD18
import Derived.Test.YtlikmgkjilmjpaaGreatD38

/-
  A call that answers a number and leaves the world as it was.
-/
namespace Go.Proofs.YtlikmgkjilmjpaaGreat
open Go.RowKit

def Num (n : Int) (w : World) (e : Ending) (w' : World) : Prop := e = .returned (.int .i64 n) ∧ w = w'
end Go.Proofs.YtlikmgkjilmjpaaGreat

/-
  The first place of a text in a list: the model's IndexOf; the program's, by the library's contract.
-/
namespace Go.Proofs.YtlikmgkjilmjpaaGreat
open Go.RowKit

/-- an answer that is a number, the world as it was -/

def NoneTo (xs : List ByteArray) (x : ByteArray) (k : Nat) : Prop := ∀ j, j < k → xs.getD j ByteArray.empty ≠ x
theorem noneTo_zero (xs : List ByteArray) (x : ByteArray) : NoneTo xs x 0 := fun j h => by omega
theorem noneTo_succ {xs : List ByteArray} {x : ByteArray} {k : Nat} (h : NoneTo xs x k) (hk : k < xs.length) (hx : xs[k] ≠ x) : NoneTo xs x (k + 1) := by
  intro j hj
  by_cases e : j = k
  · subst e
    simpa [List.getD, hk] using hx
  · exact h j (by omega)
theorem idx_hit {xs : List ByteArray} {x : ByteArray} {k : Nat} (h : NoneTo xs x k) (hk : k < xs.length) (hx : xs[k] = x) : Lib.idxOfS xs x = k := by
  have := Lib.idxOfS_hit xs xs.length k x hk (Nat.le_refl _) (by simpa [List.getD, hk] using hx) h
  rwa [List.take_length] at this
theorem idx_miss {xs : List ByteArray} {x : ByteArray} (h : NoneTo xs x xs.length) : Lib.idxOfS xs x = -1 := by
  have := Lib.idxOfS_miss xs xs.length x h
  rwa [List.take_length] at this
theorem idx_le (xs : List ByteArray) (x : ByteArray) : -1 ≤ Lib.idxOfS xs x ∧ Lib.idxOfS xs x ≤ xs.length := by
  have gen : ∀ (zs : List ByteArray) (i : Nat), -1 ≤ Lib.idxFromS zs x i ∧ Lib.idxFromS zs x i ≤ i + zs.length := by
    intro zs
    induction zs with
    | nil => intro i; simp [Lib.idxFromS]
    | cons z zs ih =>
      intro i
      unfold Lib.idxFromS
      split
      · simp; omega
      · have := ih (i + 1)
        simp at this ⊢
        omega
  have := gen xs 0
  simpa [Lib.idxOfS] using this
theorem ret_int {k : IntKind} {a b : Int} (h : a = b) : Ending.returned (.int k a) = .returned (.int k b) := by rw [h]

end Go.Proofs.YtlikmgkjilmjpaaGreat

/-
  The different texts of two lists, each at its first place: the model's UniteNames, which looks through what it has collected.
-/
namespace Go.Proofs.YtlikmgkjilmjpaaGreat
open Go.RowKit

/-- a list of texts in memory of the call's own -/
def OwnL (xs : List ByteArray) (w : World) (e : Ending) (w' : World) : Prop :=
  ∃ A c, e = .returned (.slice A xs.length c) ∧ w'.ownsRow w.heap.size 9 1 (.slice A xs.length c) xs.length (xs.map Value.string) ∧ Below w.heap.size w w'

/-- what a loop that collects keeps -/
def UInv (o0 xs : List ByteArray) (w : World) (v i : Value) (wr : World) : Prop :=
  ∃ (k : Nat) (o : List ByteArray) (A : Option Addr) (c : Nat), k ≤ xs.length ∧ i = .int .i64 k ∧ v = .slice A o.length c ∧ Hid (o = uq o0 (xs.take k)) ∧ wr.ownsRow w.heap.size 9 1 (.slice A o.length c) o.length (o.map Value.string) ∧ Below w.heap.size w wr
theorem uinv_same {o0 xs o : List ByteArray} {k : Nat} {w wr : World} {x : ByteArray} {A : Option Addr} {c : Nat} {i : Value} (hk : k < xs.length) (hx : xs[k] = x) (ho : o = uq o0 (xs.take k)) (hin : x ∈ o) (hi : i = .int .i64 ((k + 1 : Nat) : Int))
    (h : wr.ownsRow w.heap.size 9 1 (.slice A o.length c) o.length (o.map Value.string)) (hb : Below w.heap.size w wr) : UInv o0 xs w (.slice A o.length c) i wr :=
  ⟨k + 1, o, A, c, hk, hi, rfl, by show o = _; rw [uq_succ o0 xs k hk, ← ho, hx, addU_in hin], h, hb⟩
theorem uinv_more {o0 xs o : List ByteArray} {k : Nat} {w wr : World} {x : ByteArray} {v i : Value} (hk : k < xs.length) (hx : xs[k] = x) (ho : o = uq o0 (xs.take k)) (hin : ¬ x ∈ o) (hi : i = .int .i64 ((k + 1 : Nat) : Int))
    (h : wr.ownsRow w.heap.size 9 1 v (o.length + 1) (o.map Value.string ++ [.string x])) (hb : Below w.heap.size w wr) : UInv o0 xs w v i wr := by
  obtain ⟨A, c, rfl⟩ := own_shape h
  refine ⟨k + 1, o ++ [x], A, c, hk, hi, by simp, by show o ++ [x] = _; rw [uq_succ o0 xs k hk, ← ho, hx, addU_new hin], by simpa using h, hb⟩
theorem uq_bd {o0 xs o : List ByteArray} {k : Nat} (ho : o = uq o0 (xs.take k)) : o.length ≤ o0.length + xs.length := by
  have h := uq_len (xs.take k) o0
  rw [List.length_take, ← ho] at h
  omega

end Go.Proofs.YtlikmgkjilmjpaaGreat

/-
  The program's declaredNames.
-/
namespace Go.Proofs.YtlikmgkjilmjpaaGreat
open Go.RowKit

theorem dnm_bounds {t : Sc} {k : Nat} (hk : k < t.length) (hw : wSc t ≤ 1048576) : t[k].1.size ≤ 1048576 ∧ wt t[k].2 ≤ 1048576 ∧ t.length ≤ 1048576 := by
  have h := wL_le (f := wDc) hk hw
  have h1 : wDc t[k] = t[k].1.size + wt t[k].2 := rfl
  omega
theorem namesOf_len (t : Sc) : (namesOf t).length = t.length := by simp [namesOf]
/-- what the loop keeps -/
def DnmInv (xs : Sc) (w : World) (v i : Value) (wr : World) : Prop :=
  ∃ k : Nat, k ≤ xs.length ∧ i = .int .i64 (k : Int) ∧ wr.ownsRow w.heap.size 9 1 v k ((namesOf (xs.take k)).map Value.string) ∧ Below w.heap.size w wr

set_option maxRecDepth 100000 in
set_option maxHeartbeats 3200000 in
theorem implDecl_any (t : Sc) (w : World) (cs : List Value) (h : RSc w t cs) (hw : wSc t ≤ 1048576) : Calls Tryz.prog 89 #[.agg cs.toArray] w (OwnL (namesOf t) w) := by
  obtain ⟨A, d, rfl, hl, _, hp⟩ := h.open
  obtain ⟨i0, hi, hz0, hz1, hz2⟩ := info_parts infoStr
  have hlen : t.length ≤ 1048576 := Nat.le_trans (len_wSc t) hw
  obtain ⟨W1, hW1⟩ : ∃ W1, w.alloc (.cells #[.slice A t.length d] 42) = W1 := ⟨_, rfl⟩
  obtain ⟨H, hH⟩ : ∃ H, w.heap.size = H := ⟨_, rfl⟩
  have hbox : Box1 W1 H 42 (.slice A t.length d) := by rw [← hW1, ← hH]; exact Box1.new w _ _
  have hb1 : Below w.heap.size w W1 := by rw [← hW1]; exact (Below.refl _ _).alloc (Nat.le_refl _) _
  have HB1 := Lib.hid hb1
  have HP := Lib.hid (hp.keep hb1)
  have HW1 := Lib.hid hW1
  have HI0 : Hid (DnmInv t W1 (.slice none 0 0) (.int .i64 0) W1) := Lib.hid ⟨0, Nat.zero_le _, rfl, by simpa [namesOf] using World.ownsRow_nil _ _ _ _, Below.refl _ _⟩
  have x0 := hbox.c0
  clear h hp hl hW1 hbox hb1 hw
  go_enter Tryz.func89, Tryz.ntmps89
  go_wp2_with fail
  rw [HW1.out]
  go_wp2_with fail
  go_loopw [3, 9] (fun v i wr => DnmInv t W1 v i wr) (fun _ i _ => t.length - (intOf i).toNat)
  case atStart => exact HI0.out
  case round =>
    obtain ⟨k, hk, rfl, hown, hb⟩ := hrel
    obtain ⟨V, lc, rfl⟩ := own_shape hown
    have HO := Lib.hid hown
    have HB := Lib.hid hb
    clear x0
    by_cases hlt : k < t.length
    · obtain ⟨ad, p, c0, c1, c2, c3, rfl, hpe, hr, q0, q1, q2, q3⟩ := rl_at4 kDc_n HP.out hb hlt
      obtain ⟨tk, TL, TA, tl, tc, ta, td, hcs, hs, hy⟩ := kDc_open hr
      injection hcs with e0 hcs
      injection hcs with e1 hcs
      injection hcs with e2 hcs
      injection hcs with e3 hcs
      subst e0 e1 e2 e3
      obtain ⟨G, hG⟩ : ∃ G, wr.heap.size = G := ⟨_, rfl⟩
      obtain ⟨W5, hW5⟩ : ∃ W5, wr.alloc (.cells #[.string t[k].1, .int .i64 tk, .slice TL tl tc, .slice TA ta td] 98) = W5 := ⟨_, rfl⟩
      have hb5 : Below wr.heap.size wr W5 := by rw [← hW5]; exact (Below.refl _ _).alloc (Nat.le_refl _) _
      have hx5 := Box4.new wr 98 (.string t[k].1) (.int .i64 tk) (.slice TL tl tc) (.slice TA ta td)
      rw [hW5, hG] at hx5
      have y0 := hx5.c0
      have HMORE : Hid (∀ (v' i : Value) (w5 : World), w5.ownsRow W1.heap.size 9 1 v' (k + 1) ((namesOf (t.take k)).map Value.string ++ [.string t[k].1]) → (W5.alloc (.cells #[.string t[k].1] 9)).grownBy w5 (Value.slice V k lc).ownBlock → i = .int .i64 ((k + 1 : Nat) : Int) → DnmInv t W1 v' i w5) := Lib.hid (by
        intro v' i w5 ho hg hi
        refine ⟨k + 1, hlt, hi, by rw [namesOf_take t k hlt]; exact ho, ?_⟩
        have hb6 := (HB.out.trans (hb5.mono HB.out.size)).alloc (HB.out.trans (hb5.mono HB.out.size)).size (.cells #[.string t[k].1] 9)
        exact hb6.grown hg hb6.size (fun q hq => (HO.out.lt q hq).1))
      have hz5 : W5.heap.size = G + 1 := by rw [← hW5, ← hG]; simp
      have hsl := Lib.hid (hz5 ▸ sl_one W5 (.string t[k].1) 9)
      have O3 := Lib.hid ((own_below HO.out hb5).alloc (.cells #[.string t[k].1] 9))
      have HS3 : Hid (W1.heap.size ≤ (W5.alloc (.cells #[.string t[k].1] 9)).heap.size) := Lib.hid (by have h1 := HB.out.size; have h2 := hb5.size; simp; omega)
      have HOC : Hid (∀ u ∈ [Value.string t[k].1], u.oneCell' = true) := Lib.hid (strs_oneCell [t[k].1])
      have HW5 := Lib.hid hW5
      have HG := Lib.hid hG
      generalize t[k].1 = nm at *
      clear hr hcs hs hy hown hb hk hb5 hx5 hW5 hz5
      go_wp2_with (at_builtin; rw [HW5.out]; refine wpList_append_sl _ rfl (.tmp 13) (.tmp 16) 28 rfl W1.heap.size 9 i0 _ 16 Tryz.underlying28 hi hz0 hz1 hz2 rfl (.slice V k lc) k ((namesOf (t.take k)).map Value.string) rfl O3.out (some ⟨G + 1, 0, none⟩) 1 1 [.string nm] rfl rfl hsl.out HOC.out (by unfold maxLen; omega) (by omega) HS3.out ?_; intro v5 w5 hown5 hg5 hor5; have HMM := Lib.hid (fun i hi => HMORE.out v5 i w5 hown5 hg5 hi); clear hown5 hg5 hor5)
      go_roundw
      case rel => exact HMM.out _ (by go_num)
      case measure => simp [intOf]; omega
    · have he : k = t.length := by omega
      subst he
      have HR : Hid (OwnL (namesOf t) w (.returned (.slice V t.length lc)) wr) := by
        have h1 := HO.out
        rw [List.take_length] at h1
        refine ⟨V, lc, by rw [namesOf_len], ?_, HB1.out.trans (HB.out.mono HB1.out.size)⟩
        rw [namesOf_len]
        exact own_mono h1 HB1.out.size
      clear hown hb hk
      go_wp2_with fail
      go_ret
      exact HR.out
end Go.Proofs.YtlikmgkjilmjpaaGreat

/-
  The program's IsValidType, IsData.
-/
namespace Go.Proofs.YtlikmgkjilmjpaaGreat
open Go.RowKit

set_option maxRecDepth 100000 in
set_option maxHeartbeats 800000 in
theorem implValid_any (t : Ty) (w : World) (cs : List Value) (h : RTy w t cs) (hw : wt t ≤ 1048576) : Calls Tryz.prog 112 #[.agg cs.toArray] w (Truth (validB t) w) := by
  have hz := size_wt t
  obtain ⟨c0, c1, c2, W1, H, rfl, hH, hW1, hbox, hb0⟩ := boxed h
  have HC := Lib.hid (implWithin_any t W1 _ (h.keep hb0) (by omega))
  have HD := Lib.hid (fun W (hB : Below w.heap.size w W) => well_any t W _ true (h.keep hB) hw)
  have HE := Lib.hid (valid_iff t)
  have HW1 := Lib.hid hW1
  have HB1 := Lib.hid hb0
  have B1 := Lib.hid hbox
  have x0 := hbox.c0
  have x1 := hbox.c1
  have x2 := hbox.c2
  clear h hw hz hb0 hbox hW1
  go_enter Tryz.func112, Tryz.ntmps112
  go_wp2_with fail
  rw [HW1.out]
  go_wp2_with fail
  refine HC.out.mono ?_
  rintro e w2 ⟨rfl, hb2⟩
  have HB2 := Lib.hid (HB1.out.trans (hb2.mono HB1.out.size))
  have B2 := Lib.hid (B1.out.under hb2 B1.out.lt)
  clear x0 x1 x2 hb2 HC
  generalize withinB t = a at HE ⊢
  cases a with
  | false =>
    have HF : Hid (Truth (validB t) w (.returned (.bool false)) w2) := by rw [← HE.out]; exact ⟨rfl, HB2.out⟩
    go_wp2_with fail
    go_ret
    exact HF.out
  | true =>
    have HC := Lib.hid (HD.out w2 HB2.out)
    have HG : Hid (wellB t true = validB t) := by rw [← HE.out]; exact rfl
    have x0 := B2.out.c0
    have x1 := B2.out.c1
    have x2 := B2.out.c2
    clear HE HD
    go_wp2_with fail
    refine HC.out.mono ?_
    rintro e w3 ⟨rfl, hb3⟩
    have HF : Hid (Truth (validB t) w (.returned (.bool (wellB t true))) w3) := ⟨by rw [HG.out], HB2.out.trans (hb3.mono HB2.out.size)⟩
    clear hb3 HG HC
    generalize wellB t true = b at HF ⊢
    go_wp2_with fail
    go_ret
    exact HF.out

end Go.Proofs.YtlikmgkjilmjpaaGreat
