/-
  Merged by program: NumW, Idx, Unite, DnmI, Valid, Scalar, Row3, EvDc, SchI.
-/
import Derived.Test.YtlikmgkjilmjpaaGreatI1
import Derived.Test.YtlikmgkjilmjpaaGreatProg
import Derived.Lib.SlicesS
import Derived.Deep.QuietTactic
import Derived.BigQuiet
import Derived.Test.YtlikmgkjilmjpaaGreatI18
import Derived.Test.YtlikmgkjilmjpaaGreatI39
import Derived.Test.YtlikmgkjilmjpaaGreatI16
import Derived.Test.YtlikmgkjilmjpaaGreatI35

/-
  A call that answers a number and leaves the world as it was.
-/
namespace Go.Proofs.YtlikmgkjilmjpaaGreat
open Go.RowKit

def Num (n : Int) (w : World) (e : Ending) (w' : World) : Prop := e = .returned (.int .i64 n) ∧ w = w'
end Go.Proofs.YtlikmgkjilmjpaaGreat

/-
  The first place of a text in a list: the model's IndexOf; the program's, by the library's contract.
-/
namespace Go.Proofs.YtlikmgkjilmjpaaGreat
open Go.RowKit

/-- an answer that is a number, the world as it was -/

def NoneTo (xs : List ByteArray) (x : ByteArray) (k : Nat) : Prop := ∀ j, j < k → xs.getD j ByteArray.empty ≠ x
theorem noneTo_zero (xs : List ByteArray) (x : ByteArray) : NoneTo xs x 0 := fun j h => by omega
theorem noneTo_succ {xs : List ByteArray} {x : ByteArray} {k : Nat} (h : NoneTo xs x k) (hk : k < xs.length) (hx : xs[k] ≠ x) : NoneTo xs x (k + 1) := by
  intro j hj
  by_cases e : j = k
  · subst e
    simpa [List.getD, hk] using hx
  · exact h j (by omega)
theorem idx_hit {xs : List ByteArray} {x : ByteArray} {k : Nat} (h : NoneTo xs x k) (hk : k < xs.length) (hx : xs[k] = x) : Lib.idxOfS xs x = k := by
  have := Lib.idxOfS_hit xs xs.length k x hk (Nat.le_refl _) (by simpa [List.getD, hk] using hx) h
  rwa [List.take_length] at this
theorem idx_miss {xs : List ByteArray} {x : ByteArray} (h : NoneTo xs x xs.length) : Lib.idxOfS xs x = -1 := by
  have := Lib.idxOfS_miss xs xs.length x h
  rwa [List.take_length] at this
theorem idx_le (xs : List ByteArray) (x : ByteArray) : -1 ≤ Lib.idxOfS xs x ∧ Lib.idxOfS xs x ≤ xs.length := by
  have gen : ∀ (zs : List ByteArray) (i : Nat), -1 ≤ Lib.idxFromS zs x i ∧ Lib.idxFromS zs x i ≤ i + zs.length := by
    intro zs
    induction zs with
    | nil => intro i; simp [Lib.idxFromS]
    | cons z zs ih =>
      intro i
      unfold Lib.idxFromS
      split
      · simp; omega
      · have := ih (i + 1)
        simp at this ⊢
        omega
  have := gen xs 0
  simpa [Lib.idxOfS] using this
theorem ret_int {k : IntKind} {a b : Int} (h : a = b) : Ending.returned (.int k a) = .returned (.int k b) := by rw [h]

end Go.Proofs.YtlikmgkjilmjpaaGreat

/-
  The different texts of two lists, each at its first place: the model's UniteNames, which looks through what it has collected.
-/
namespace Go.Proofs.YtlikmgkjilmjpaaGreat
open Go.RowKit

/-- a list of texts in memory of the call's own -/
def OwnL (xs : List ByteArray) (w : World) (e : Ending) (w' : World) : Prop :=
  ∃ A c, e = .returned (.slice A xs.length c) ∧ w'.ownsRow w.heap.size 9 1 (.slice A xs.length c) xs.length (xs.map Value.string) ∧ Below w.heap.size w w'

/-- what a loop that collects keeps -/
def UInv (o0 xs : List ByteArray) (w : World) (v i : Value) (wr : World) : Prop :=
  ∃ (k : Nat) (o : List ByteArray) (A : Option Addr) (c : Nat), k ≤ xs.length ∧ i = .int .i64 k ∧ v = .slice A o.length c ∧ Hid (o = uq o0 (xs.take k)) ∧ wr.ownsRow w.heap.size 9 1 (.slice A o.length c) o.length (o.map Value.string) ∧ Below w.heap.size w wr
theorem uinv_same {o0 xs o : List ByteArray} {k : Nat} {w wr : World} {x : ByteArray} {A : Option Addr} {c : Nat} {i : Value} (hk : k < xs.length) (hx : xs[k] = x) (ho : o = uq o0 (xs.take k)) (hin : x ∈ o) (hi : i = .int .i64 ((k + 1 : Nat) : Int))
    (h : wr.ownsRow w.heap.size 9 1 (.slice A o.length c) o.length (o.map Value.string)) (hb : Below w.heap.size w wr) : UInv o0 xs w (.slice A o.length c) i wr :=
  ⟨k + 1, o, A, c, hk, hi, rfl, by show o = _; rw [uq_succ o0 xs k hk, ← ho, hx, addU_in hin], h, hb⟩
theorem uinv_more {o0 xs o : List ByteArray} {k : Nat} {w wr : World} {x : ByteArray} {v i : Value} (hk : k < xs.length) (hx : xs[k] = x) (ho : o = uq o0 (xs.take k)) (hin : ¬ x ∈ o) (hi : i = .int .i64 ((k + 1 : Nat) : Int))
    (h : wr.ownsRow w.heap.size 9 1 v (o.length + 1) (o.map Value.string ++ [.string x])) (hb : Below w.heap.size w wr) : UInv o0 xs w v i wr := by
  obtain ⟨A, c, rfl⟩ := own_shape h
  refine ⟨k + 1, o ++ [x], A, c, hk, hi, by simp, by show o ++ [x] = _; rw [uq_succ o0 xs k hk, ← ho, hx, addU_new hin], by simpa using h, hb⟩
theorem uq_bd {o0 xs o : List ByteArray} {k : Nat} (ho : o = uq o0 (xs.take k)) : o.length ≤ o0.length + xs.length := by
  have h := uq_len (xs.take k) o0
  rw [List.length_take, ← ho] at h
  omega

end Go.Proofs.YtlikmgkjilmjpaaGreat

/-
  The program's declaredNames.
-/
namespace Go.Proofs.YtlikmgkjilmjpaaGreat
open Go.RowKit

theorem dnm_bounds {t : Sc} {k : Nat} (hk : k < t.length) (hw : wSc t ≤ 1048576) : t[k].1.size ≤ 1048576 ∧ wt t[k].2 ≤ 1048576 ∧ t.length ≤ 1048576 := by
  have h := wL_le (f := wDc) hk hw
  have h1 : wDc t[k] = t[k].1.size + wt t[k].2 := rfl
  omega
theorem namesOf_len (t : Sc) : (namesOf t).length = t.length := by simp [namesOf]
/-- what the loop keeps -/
def DnmInv (xs : Sc) (w : World) (v i : Value) (wr : World) : Prop :=
  ∃ k : Nat, k ≤ xs.length ∧ i = .int .i64 (k : Int) ∧ wr.ownsRow w.heap.size 9 1 v k ((namesOf (xs.take k)).map Value.string) ∧ Below w.heap.size w wr

set_option maxRecDepth 100000 in
set_option maxHeartbeats 3200000 in
theorem implDecl_any (t : Sc) (w : World) (cs : List Value) (h : RSc w t cs) (hw : wSc t ≤ 1048576) : Calls Tryz.prog 89 #[.agg cs.toArray] w (OwnL (namesOf t) w) := by
  obtain ⟨A, d, rfl, hl, _, hp⟩ := h.open
  obtain ⟨i0, hi, hz0, hz1, hz2⟩ := info_parts infoStr
  have hlen : t.length ≤ 1048576 := Nat.le_trans (len_wSc t) hw
  obtain ⟨W1, hW1⟩ : ∃ W1, w.alloc (.cells #[.slice A t.length d] 42) = W1 := ⟨_, rfl⟩
  obtain ⟨H, hH⟩ : ∃ H, w.heap.size = H := ⟨_, rfl⟩
  have hbox : Box1 W1 H 42 (.slice A t.length d) := by rw [← hW1, ← hH]; exact Box1.new w _ _
  have hb1 : Below w.heap.size w W1 := by rw [← hW1]; exact (Below.refl _ _).alloc (Nat.le_refl _) _
  have HB1 := Lib.hid hb1
  have HP := Lib.hid (hp.keep hb1)
  have HW1 := Lib.hid hW1
  have HI0 : Hid (DnmInv t W1 (.slice none 0 0) (.int .i64 0) W1) := Lib.hid ⟨0, Nat.zero_le _, rfl, by simpa [namesOf] using World.ownsRow_nil _ _ _ _, Below.refl _ _⟩
  have x0 := hbox.c0
  clear h hp hl hW1 hbox hb1 hw
  go_enter Tryz.func89, Tryz.ntmps89
  go_wp2_with fail
  rw [HW1.out]
  go_wp2_with fail
  go_loopw [3, 9] (fun v i wr => DnmInv t W1 v i wr) (fun _ i _ => t.length - (intOf i).toNat)
  case atStart => exact HI0.out
  case round =>
    obtain ⟨k, hk, rfl, hown, hb⟩ := hrel
    obtain ⟨V, lc, rfl⟩ := own_shape hown
    have HO := Lib.hid hown
    have HB := Lib.hid hb
    clear x0
    by_cases hlt : k < t.length
    · obtain ⟨ad, p, c0, c1, c2, c3, rfl, hpe, hr, q0, q1, q2, q3⟩ := rl_at4 kDc_n HP.out hb hlt
      obtain ⟨tk, TL, TA, tl, tc, ta, td, hcs, hs, hy⟩ := kDc_open hr
      injection hcs with e0 hcs
      injection hcs with e1 hcs
      injection hcs with e2 hcs
      injection hcs with e3 hcs
      subst e0 e1 e2 e3
      obtain ⟨G, hG⟩ : ∃ G, wr.heap.size = G := ⟨_, rfl⟩
      obtain ⟨W5, hW5⟩ : ∃ W5, wr.alloc (.cells #[.string t[k].1, .int .i64 tk, .slice TL tl tc, .slice TA ta td] 98) = W5 := ⟨_, rfl⟩
      have hb5 : Below wr.heap.size wr W5 := by rw [← hW5]; exact (Below.refl _ _).alloc (Nat.le_refl _) _
      have hx5 := Box4.new wr 98 (.string t[k].1) (.int .i64 tk) (.slice TL tl tc) (.slice TA ta td)
      rw [hW5, hG] at hx5
      have y0 := hx5.c0
      have HMORE : Hid (∀ (v' i : Value) (w5 : World), w5.ownsRow W1.heap.size 9 1 v' (k + 1) ((namesOf (t.take k)).map Value.string ++ [.string t[k].1]) → (W5.alloc (.cells #[.string t[k].1] 9)).grownBy w5 (Value.slice V k lc).ownBlock → i = .int .i64 ((k + 1 : Nat) : Int) → DnmInv t W1 v' i w5) := Lib.hid (by
        intro v' i w5 ho hg hi
        refine ⟨k + 1, hlt, hi, by rw [namesOf_take t k hlt]; exact ho, ?_⟩
        have hb6 := (HB.out.trans (hb5.mono HB.out.size)).alloc (HB.out.trans (hb5.mono HB.out.size)).size (.cells #[.string t[k].1] 9)
        exact hb6.grown hg hb6.size (fun q hq => (HO.out.lt q hq).1))
      have hz5 : W5.heap.size = G + 1 := by rw [← hW5, ← hG]; simp
      have hsl := Lib.hid (hz5 ▸ sl_one W5 (.string t[k].1) 9)
      have O3 := Lib.hid ((own_below HO.out hb5).alloc (.cells #[.string t[k].1] 9))
      have HS3 : Hid (W1.heap.size ≤ (W5.alloc (.cells #[.string t[k].1] 9)).heap.size) := Lib.hid (by have h1 := HB.out.size; have h2 := hb5.size; simp; omega)
      have HOC : Hid (∀ u ∈ [Value.string t[k].1], u.oneCell' = true) := Lib.hid (strs_oneCell [t[k].1])
      have HW5 := Lib.hid hW5
      have HG := Lib.hid hG
      generalize t[k].1 = nm at *
      clear hr hcs hs hy hown hb hk hb5 hx5 hW5 hz5
      go_wp2_with (at_builtin; rw [HW5.out]; refine wpList_append_sl _ rfl (.tmp 13) (.tmp 16) 28 rfl W1.heap.size 9 i0 _ 16 Tryz.underlying28 hi hz0 hz1 hz2 rfl (.slice V k lc) k ((namesOf (t.take k)).map Value.string) rfl O3.out (some ⟨G + 1, 0, none⟩) 1 1 [.string nm] rfl rfl hsl.out HOC.out (by unfold maxLen; omega) (by omega) HS3.out ?_; intro v5 w5 hown5 hg5 hor5; have HMM := Lib.hid (fun i hi => HMORE.out v5 i w5 hown5 hg5 hi); clear hown5 hg5 hor5)
      go_roundw
      case rel => exact HMM.out _ (by go_num)
      case measure => simp [intOf]; omega
    · have he : k = t.length := by omega
      subst he
      have HR : Hid (OwnL (namesOf t) w (.returned (.slice V t.length lc)) wr) := by
        have h1 := HO.out
        rw [List.take_length] at h1
        refine ⟨V, lc, by rw [namesOf_len], ?_, HB1.out.trans (HB.out.mono HB1.out.size)⟩
        rw [namesOf_len]
        exact own_mono h1 HB1.out.size
      clear hown hb hk
      go_wp2_with fail
      go_ret
      exact HR.out
end Go.Proofs.YtlikmgkjilmjpaaGreat

/-
  The program's IsValidType, IsData.
-/
namespace Go.Proofs.YtlikmgkjilmjpaaGreat
open Go.RowKit

set_option maxRecDepth 100000 in
set_option maxHeartbeats 800000 in
theorem implValid_any (t : Ty) (w : World) (cs : List Value) (h : RTy w t cs) (hw : wt t ≤ 1048576) : Calls Tryz.prog 112 #[.agg cs.toArray] w (Truth (validB t) w) := by
  have hz := size_wt t
  obtain ⟨c0, c1, c2, W1, H, rfl, hH, hW1, hbox, hb0⟩ := boxed h
  have HC := Lib.hid (implWithin_any t W1 _ (h.keep hb0) (by omega))
  have HD := Lib.hid (fun W (hB : Below w.heap.size w W) => well_any t W _ true (h.keep hB) hw)
  have HE := Lib.hid (valid_iff t)
  have HW1 := Lib.hid hW1
  have HB1 := Lib.hid hb0
  have B1 := Lib.hid hbox
  have x0 := hbox.c0
  have x1 := hbox.c1
  have x2 := hbox.c2
  clear h hw hz hb0 hbox hW1
  go_enter Tryz.func112, Tryz.ntmps112
  go_wp2_with fail
  rw [HW1.out]
  go_wp2_with fail
  refine HC.out.mono ?_
  rintro e w2 ⟨rfl, hb2⟩
  have HB2 := Lib.hid (HB1.out.trans (hb2.mono HB1.out.size))
  have B2 := Lib.hid (B1.out.under hb2 B1.out.lt)
  clear x0 x1 x2 hb2 HC
  generalize withinB t = a at HE ⊢
  cases a with
  | false =>
    have HF : Hid (Truth (validB t) w (.returned (.bool false)) w2) := by rw [← HE.out]; exact ⟨rfl, HB2.out⟩
    go_wp2_with fail
    go_ret
    exact HF.out
  | true =>
    have HC := Lib.hid (HD.out w2 HB2.out)
    have HG : Hid (wellB t true = validB t) := by rw [← HE.out]; exact rfl
    have x0 := B2.out.c0
    have x1 := B2.out.c1
    have x2 := B2.out.c2
    clear HE HD
    go_wp2_with fail
    refine HC.out.mono ?_
    rintro e w3 ⟨rfl, hb3⟩
    have HF : Hid (Truth (validB t) w (.returned (.bool (wellB t true))) w3) := ⟨by rw [HG.out], HB2.out.trans (hb3.mono HB2.out.size)⟩
    clear hb3 HG HC
    generalize wellB t true = b at HF ⊢
    go_wp2_with fail
    go_ret
    exact HF.out

end Go.Proofs.YtlikmgkjilmjpaaGreat

/-
  The program's CountBags: a bag among the nodes of a level; its IsRow.
-/
namespace Go.Proofs.YtlikmgkjilmjpaaGreat
open Go.RowKit

theorem kind_cases (q : Int) : (q = 1 ∨ q = 2 ∨ q = 3 ∨ q = 4 ∨ q = 5) ∨ kindT q = 158 := by
  by_cases h1 : q = 1
  · exact .inl (.inl h1)
  by_cases h2 : q = 2
  · exact .inl (.inr (.inl h2))
  by_cases h3 : q = 3
  · exact .inl (.inr (.inr (.inl h3)))
  by_cases h4 : q = 4
  · exact .inl (.inr (.inr (.inr (.inl h4))))
  by_cases h5 : q = 5
  · exact .inl (.inr (.inr (.inr (.inr h5))))
  · exact .inr (by unfold kindT; simp [h1, h2, h3, h4, h5])
theorem kind_none {q : Int} (h : kindT q = 158) : q ≠ 1 ∧ q ≠ 2 ∧ q ≠ 3 ∧ q ≠ 4 ∧ q ≠ 5 := by
  refine ⟨?_, ?_, ?_, ?_, ?_⟩ <;> (rintro rfl; revert h; decide)

set_option maxRecDepth 100000 in
set_option maxHeartbeats 1600000 in
theorem isScalar_of (q : Int) (c1 c2 : Value) (w : World) : Calls Tryz.prog 114 #[.agg #[.int .i64 q, c1, c2]] w (Truth (decide (q = 1) || decide (q = 2)) w) := by
  obtain ⟨W1, hW1⟩ : ∃ W1, w.alloc (.cells #[.int .i64 q, c1, c2] 96) = W1 := ⟨_, rfl⟩
  obtain ⟨H, hH⟩ : ∃ H, w.heap.size = H := ⟨_, rfl⟩
  have hb1 : Below w.heap.size w W1 := by rw [← hW1]; exact (Below.refl _ _).alloc (Nat.le_refl _) _
  have hbox : Box3 W1 H 96 (.int .i64 q) c1 c2 := by rw [← hW1, ← hH]; exact Box3.new w _ _ _ _
  have HK := Lib.hid (kind_of q c1 c2 W1)
  have HW1 := Lib.hid hW1
  have HB1 := Lib.hid hb1
  have x0 := hbox.c0
  have x1 := hbox.c1
  have x2 := hbox.c2
  have hcs := kind_cases q
  clear hbox hW1 hb1
  unfold KindIs at HK
  rcases hcs with (rfl | rfl | rfl | rfl | rfl) | hk
  · have a1 := as_int_1
    have a2 := as_bool_1
    rw [show kindT 1 = 152 from rfl] at HK
    have HF : Hid (∀ w2, Below w.heap.size w w2 → Truth (decide ((1 : Int) = 1) || decide ((1 : Int) = 2)) w (.returned (.bool true)) w2) := fun w2 hb => ⟨rfl, hb⟩
    go_enter Tryz.func114, Tryz.ntmps114
    go_wp2_with fail
    rw [HW1.out]
    go_wp2_with fail
    refine HK.out.mono ?_
    rintro e w2 ⟨rfl, hb2⟩
    have HG := Lib.hid (HF.out w2 (HB1.out.trans (hb2.mono HB1.out.size)))
    clear x0 x1 x2 hb2 HF HK
    go_wp2_with fail
    go_ret
    exact HG.out
  · have a1 := as_int_2
    have a2 := as_bool_2
    rw [show kindT 2 = 153 from rfl] at HK
    have HF : Hid (∀ w2, Below w.heap.size w w2 → Truth (decide ((2 : Int) = 1) || decide ((2 : Int) = 2)) w (.returned (.bool true)) w2) := fun w2 hb => ⟨rfl, hb⟩
    go_enter Tryz.func114, Tryz.ntmps114
    go_wp2_with fail
    rw [HW1.out]
    go_wp2_with fail
    refine HK.out.mono ?_
    rintro e w2 ⟨rfl, hb2⟩
    have HG := Lib.hid (HF.out w2 (HB1.out.trans (hb2.mono HB1.out.size)))
    clear x0 x1 x2 hb2 HF HK
    go_wp2_with fail
    go_ret
    exact HG.out
  · have a1 := as_int_3
    have a2 := as_bool_3
    rw [show kindT 3 = 145 from rfl] at HK
    have HF : Hid (∀ w2, Below w.heap.size w w2 → Truth (decide ((3 : Int) = 1) || decide ((3 : Int) = 2)) w (.returned (.bool false)) w2) := fun w2 hb => ⟨rfl, hb⟩
    go_enter Tryz.func114, Tryz.ntmps114
    go_wp2_with fail
    rw [HW1.out]
    go_wp2_with fail
    refine HK.out.mono ?_
    rintro e w2 ⟨rfl, hb2⟩
    have HG := Lib.hid (HF.out w2 (HB1.out.trans (hb2.mono HB1.out.size)))
    clear x0 x1 x2 hb2 HF HK
    go_wp2_with fail
    go_ret
    exact HG.out
  · have a1 := as_int_4
    have a2 := as_bool_4
    rw [show kindT 4 = 155 from rfl] at HK
    have HF : Hid (∀ w2, Below w.heap.size w w2 → Truth (decide ((4 : Int) = 1) || decide ((4 : Int) = 2)) w (.returned (.bool false)) w2) := fun w2 hb => ⟨rfl, hb⟩
    go_enter Tryz.func114, Tryz.ntmps114
    go_wp2_with fail
    rw [HW1.out]
    go_wp2_with fail
    refine HK.out.mono ?_
    rintro e w2 ⟨rfl, hb2⟩
    have HG := Lib.hid (HF.out w2 (HB1.out.trans (hb2.mono HB1.out.size)))
    clear x0 x1 x2 hb2 HF HK
    go_wp2_with fail
    go_ret
    exact HG.out
  · have a1 := as_int_5
    have a2 := as_bool_5
    rw [show kindT 5 = 157 from rfl] at HK
    have HF : Hid (∀ w2, Below w.heap.size w w2 → Truth (decide ((5 : Int) = 1) || decide ((5 : Int) = 2)) w (.returned (.bool false)) w2) := fun w2 hb => ⟨rfl, hb⟩
    go_enter Tryz.func114, Tryz.ntmps114
    go_wp2_with fail
    rw [HW1.out]
    go_wp2_with fail
    refine HK.out.mono ?_
    rintro e w2 ⟨rfl, hb2⟩
    have HG := Lib.hid (HF.out w2 (HB1.out.trans (hb2.mono HB1.out.size)))
    clear x0 x1 x2 hb2 HF HK
    go_wp2_with fail
    go_ret
    exact HG.out
  · have a1 := as_int_6
    have a2 := as_bool_6
    obtain ⟨h1, h2, _, _, _⟩ := kind_none hk
    rw [hk] at HK
    have HF : Hid (∀ w2, Below w.heap.size w w2 → Truth (decide (q = 1) || decide (q = 2)) w (.returned (.bool false)) w2) := fun w2 hb => ⟨by simp [h1, h2], hb⟩
    clear h1 h2 hk
    go_enter Tryz.func114, Tryz.ntmps114
    go_wp2_with fail
    rw [HW1.out]
    go_wp2_with fail
    refine HK.out.mono ?_
    rintro e w2 ⟨rfl, hb2⟩
    have HG := Lib.hid (HF.out w2 (HB1.out.trans (hb2.mono HB1.out.size)))
    clear x0 x1 x2 hb2 HF HK
    go_wp2_with fail
    go_ret
    exact HG.out

theorem scalar_any (t : Ty) (w : World) (cs : List Value) (h : RTy w t cs) : Calls Tryz.prog 114 #[.agg cs.toArray] w (Truth (baseB t) w) := by
  obtain ⟨a, ks⟩ := t
  obtain ⟨L, c, A, d, rfl, _⟩ := h.out
  exact isScalar_of a.kind _ _ w

set_option maxRecDepth 100000 in
set_option maxHeartbeats 1600000 in
theorem everyScalar_any (ks : List Ty) (w : World) (A : Option Addr) (d : Nat) (hp : RKids w A ks) (hl : ks.length ≤ 9223372036854775807) :
    Calls Tryz.prog 113 #[.slice A ks.length d, .func (.func 114) #[] #[]] w (Truth (ks.all baseB) w) := by
  have HP := Lib.hid hp
  clear hp
  go_enter Tryz.func113, Tryz.ntmps113
  go_wp2_with fail
  go_loopw [9] (fun i wr => ∃ k : Nat, k ≤ ks.length ∧ i = .int .i64 k ∧ AllTo baseB ks k ∧ Below w.heap.size w wr) (fun i _ => ks.length - (intOf i).toNat)
  case atStart => exact ⟨0, Nat.zero_le _, rfl, allTo_zero _ _, Below.refl _ _⟩
  case round =>
    obtain ⟨k, hk, rfl, hto, hb⟩ := hrel
    have HTO := Lib.hid hto
    have HB := Lib.hid hb
    clear hto hb
    by_cases hlt : k < ks.length
    · obtain ⟨ad, p, c0, c1, c2, rfl, hpe, hr, q0, q1, q2⟩ := kid_at HP.out HB.out hlt
      obtain ⟨d0, d1, d2, d3, d4, d5, d6, he⟩ := hr.shape
      injection he with e0 he
      injection he with e1 he
      injection he with e2 _
      subst e0 e1 e2
      obtain ⟨W5, hW5⟩ : ∃ W5, wr.alloc (.cells #[.int .i64 d0, .slice d1 d2 d3, .slice d4 d5 d6] 96) = W5 := ⟨_, rfl⟩
      have hb5 : Below wr.heap.size wr W5 := by rw [← hW5]; exact (Below.refl _ _).alloc (Nat.le_refl _) _
      have HC := Lib.hid (scalar_any ks[k] W5 _ (hr.keep hb5))
      have HW5 := Lib.hid hW5
      have HB5 := Lib.hid (HB.out.trans (hb5.mono HB.out.size))
      have hx5 := Box3.new wr 96 (.int .i64 d0) (.slice d1 d2 d3) (.slice d4 d5 d6)
      rw [hW5] at hx5
      have y0 := hx5.c0
      have y1 := hx5.c1
      have y2 := hx5.c2
      have HS := Lib.hid (fun hf => allTo_succ (f := baseB) HTO.out hlt hf)
      have HN := Lib.hid (fun hf => all_not (f := baseB) hlt hf)
      obtain ⟨v, hv⟩ : ∃ v, baseB ks[k] = v := ⟨_, rfl⟩
      rw [hv] at HS HN HC
      clear hr hb5 hW5 hx5 hv
      go_wp2_with fail
      rw [HW5.out]
      go_wp2_with fail
      refine HC.out.mono ?_
      rintro e w6 ⟨rfl, hb6⟩
      have HB6 := Lib.hid (HB5.out.trans (hb6.mono HB5.out.size))
      clear hb6 y0 y1 y2 HC
      cases v with
      | false =>
        have HF : Hid (Truth (ks.all baseB) w (.returned (.bool false)) w6) := by rw [HN.out rfl]; exact ⟨rfl, HB6.out⟩
        go_wp2_with fail
        go_ret
        exact HF.out
      | true =>
        have HT := Lib.hid (HS.out rfl)
        clear HS HN
        go_wp2_with fail
        go_roundw
        case rel => exact ⟨k + 1, hlt, by go_num, HT.out, HB6.out⟩
        case measure => simp [intOf]; omega
    · have he : k = ks.length := by omega
      have HF : Hid (Truth (ks.all baseB) w (.returned (.bool true)) wr) := by
        rw [allTo_all (by rw [← he]; exact HTO.out)]
        exact ⟨rfl, HB.out⟩
      clear he
      go_wp2_with fail
      go_ret
      exact HF.out
end Go.Proofs.YtlikmgkjilmjpaaGreat

/-
  The program's IsRow.
-/
namespace Go.Proofs.YtlikmgkjilmjpaaGreat
open Go.RowKit

theorem rowB_rec {a : TyA} {ks : List Ty} (h : a.kind = 3) : rowB (.node a ks) = (validB (.node a ks) && ks.all baseB) := by
  unfold rowB
  show (_ && (decide (a.kind = 3) && _)) = _
  rw [h]
  simp [Tr.kids]
theorem rowB_other {a : TyA} {ks : List Ty} (h : a.kind ≠ 3) : rowB (.node a ks) = false := by
  unfold rowB
  show (_ && (decide (a.kind = 3) && _)) = _
  rw [decide_eq_false h]
  simp

set_option maxRecDepth 100000 in
set_option maxHeartbeats 1600000 in
theorem implRow_any (t : Ty) (w : World) (cs : List Value) (h : RTy w t cs) (hw : wt t ≤ 1048576) : Calls Tryz.prog 101 #[.agg cs.toArray] w (Truth (rowB t) w) := by
  have HV := Lib.hid (fun W (hB : Below w.heap.size w W) => implValid_any t W _ (h.keep hB) hw)
  obtain ⟨a, ks⟩ := t
  obtain ⟨L, c, A, d, rfl, k1, k2, k3, k4, k5, k6, hp⟩ := h.out
  have hrec := rowB_rec (a := a) (ks := ks)
  have hoth := rowB_other (a := a) (ks := ks)
  have HE := Lib.hid (fun W (hB : Below w.heap.size w W) => everyScalar_any ks W A d (hp.keep hB) k6)
  have hcs := kind_cases a.kind
  obtain ⟨q, hq⟩ : ∃ q, a.kind = q := ⟨_, rfl⟩
  obtain ⟨n, hn⟩ : ∃ n, a.labels.length = n := ⟨_, rfl⟩
  obtain ⟨m, hm⟩ : ∃ m, ks.length = m := ⟨_, rfl⟩
  rw [hq] at hrec hoth hcs
  rw [hq, hn, hm] at HV ⊢
  rw [hm] at HE
  obtain ⟨W1, hW1⟩ : ∃ W1, w.alloc (.cells #[.int .i64 q, .slice L n c, .slice A m d] 96) = W1 := ⟨_, rfl⟩
  obtain ⟨H, hH⟩ : ∃ H, w.heap.size = H := ⟨_, rfl⟩
  have hb1 : Below w.heap.size w W1 := by rw [← hW1]; exact (Below.refl _ _).alloc (Nat.le_refl _) _
  have hbox : Box3 W1 H 96 (.int .i64 q) (.slice L n c) (.slice A m d) := by rw [← hW1, ← hH]; exact Box3.new w _ _ _ _
  have HK := Lib.hid (kind_of q (.slice L n c) (.slice A m d) W1)
  have HW1 := Lib.hid hW1
  have HB1 := Lib.hid hb1
  have B1 := Lib.hid hbox
  have x0 := hbox.c0
  have x1 := hbox.c1
  have x2 := hbox.c2
  clear h hw k1 k2 k3 k4 k5 k6 hp hq hn hm hbox hW1 hb1
  unfold KindIs at HK
  rcases hcs with (rfl | rfl | rfl | rfl | rfl) | hk
  · have a1 := as_rec_1
    rw [show kindT 1 = 152 from rfl] at HK
    have hro := hoth (by decide)
    have HF : Hid (∀ w2, Below w.heap.size w w2 → Truth (rowB (.node a ks)) w (.returned (.bool false)) w2) := fun w2 hb => ⟨by rw [hro], hb⟩
    clear hrec hoth hro HV HE
    go_enter Tryz.func101, Tryz.ntmps101
    go_wp2_with fail
    rw [HW1.out]
    go_wp2_with fail
    refine HK.out.mono ?_
    rintro e w2 ⟨rfl, hb2⟩
    have hb3 := HB1.out.trans (hb2.mono HB1.out.size)
    have HG := Lib.hid (HF.out (w2.alloc (.cells #[.int .i64 0, .slice none 0 0, .slice none 0 0] 145)) (hb3.alloc hb3.size _))
    clear x0 x1 x2 hb2 hb3 HF HK
    go_wp2_with fail
    go_ret
    exact HG.out
  · have a1 := as_rec_2
    rw [show kindT 2 = 153 from rfl] at HK
    have hro := hoth (by decide)
    have HF : Hid (∀ w2, Below w.heap.size w w2 → Truth (rowB (.node a ks)) w (.returned (.bool false)) w2) := fun w2 hb => ⟨by rw [hro], hb⟩
    clear hrec hoth hro HV HE
    go_enter Tryz.func101, Tryz.ntmps101
    go_wp2_with fail
    rw [HW1.out]
    go_wp2_with fail
    refine HK.out.mono ?_
    rintro e w2 ⟨rfl, hb2⟩
    have hb3 := HB1.out.trans (hb2.mono HB1.out.size)
    have HG := Lib.hid (HF.out (w2.alloc (.cells #[.int .i64 0, .slice none 0 0, .slice none 0 0] 145)) (hb3.alloc hb3.size _))
    clear x0 x1 x2 hb2 hb3 HF HK
    go_wp2_with fail
    go_ret
    exact HG.out
  · have a1 := as_rec_3
    rw [show kindT 3 = 145 from rfl] at HK
    have HR := Lib.hid (hrec rfl)
    clear hrec hoth
    go_enter Tryz.func101, Tryz.ntmps101
    go_wp2_with fail
    rw [HW1.out]
    go_wp2_with fail
    refine HK.out.mono ?_
    rintro e w2 ⟨rfl, hb2⟩
    obtain ⟨W3, hW3⟩ : ∃ W3, w2.alloc (.cells #[.int .i64 3, .slice L n c, .slice A m d] 145) = W3 := ⟨_, rfl⟩
    obtain ⟨G, hG⟩ : ∃ G, w2.heap.size = G := ⟨_, rfl⟩
    have hx3 : Box3 W3 G 145 (.int .i64 3) (.slice L n c) (.slice A m d) := by rw [← hW3, ← hG]; exact Box3.new w2 _ _ _ _
    have hb23 : Below w2.heap.size w2 W3 := by rw [← hW3]; exact (Below.refl _ _).alloc (Nat.le_refl _) _
    have hb2' := B1.out.under hb2 B1.out.lt
    have B3 := Lib.hid (hb2'.under hb23 hb2'.lt)
    have hb3 := (HB1.out.trans (hb2.mono HB1.out.size))
    have HB3 := Lib.hid (hb3.trans (hb23.mono hb3.size))
    have X3 := Lib.hid hx3
    have HW3 := Lib.hid hW3
    have HC := Lib.hid (HV.out W3 HB3.out)
    clear x0 x1 x2
    have x0 := B3.out.c0
    have x1 := B3.out.c1
    have x2 := B3.out.c2
    rw [← hW3] at x0 x1 x2
    clear hb2 hb23 hb2' hb3 hx3 hW3 HV HK
    go_wp2_with fail
    rw [HW3.out]
    refine HC.out.mono ?_
    rintro e w4 ⟨rfl, hb4⟩
    have HB4 := Lib.hid (HB3.out.trans (hb4.mono HB3.out.size))
    have X4 := Lib.hid (X3.out.under hb4 X3.out.lt)
    clear x0 x1 x2 hb4 HC
    generalize validB (.node a ks) = v at HR ⊢
    cases v with
    | false =>
      have HF : Hid (Truth (rowB (.node a ks)) w (.returned (.bool false)) w4) := by rw [HR.out]; exact ⟨rfl, HB4.out⟩
      go_wp2_with fail
      go_ret
      exact HF.out
    | true =>
      have HC := Lib.hid (HE.out w4 HB4.out)
      have HR2 : Hid (ks.all baseB = rowB (.node a ks)) := by rw [HR.out]; rfl
      have z2 := X4.out.c2
      clear HR HE
      go_wp2_with fail
      refine HC.out.mono ?_
      rintro e w5 ⟨rfl, hb5⟩
      have HF : Hid (Truth (rowB (.node a ks)) w (.returned (.bool (ks.all baseB))) w5) := ⟨by rw [HR2.out], HB4.out.trans (hb5.mono HB4.out.size)⟩
      clear hb5 HC HR2
      generalize ks.all baseB = b at HF ⊢
      go_wp2_with fail
      go_ret
      exact HF.out
  · have a1 := as_rec_4
    rw [show kindT 4 = 155 from rfl] at HK
    have hro := hoth (by decide)
    have HF : Hid (∀ w2, Below w.heap.size w w2 → Truth (rowB (.node a ks)) w (.returned (.bool false)) w2) := fun w2 hb => ⟨by rw [hro], hb⟩
    clear hrec hoth hro HV HE
    go_enter Tryz.func101, Tryz.ntmps101
    go_wp2_with fail
    rw [HW1.out]
    go_wp2_with fail
    refine HK.out.mono ?_
    rintro e w2 ⟨rfl, hb2⟩
    have hb3 := HB1.out.trans (hb2.mono HB1.out.size)
    have HG := Lib.hid (HF.out (w2.alloc (.cells #[.int .i64 0, .slice none 0 0, .slice none 0 0] 145)) (hb3.alloc hb3.size _))
    clear x0 x1 x2 hb2 hb3 HF HK
    go_wp2_with fail
    go_ret
    exact HG.out
  · have a1 := as_rec_5
    rw [show kindT 5 = 157 from rfl] at HK
    have hro := hoth (by decide)
    have HF : Hid (∀ w2, Below w.heap.size w w2 → Truth (rowB (.node a ks)) w (.returned (.bool false)) w2) := fun w2 hb => ⟨by rw [hro], hb⟩
    clear hrec hoth hro HV HE
    go_enter Tryz.func101, Tryz.ntmps101
    go_wp2_with fail
    rw [HW1.out]
    go_wp2_with fail
    refine HK.out.mono ?_
    rintro e w2 ⟨rfl, hb2⟩
    have hb3 := HB1.out.trans (hb2.mono HB1.out.size)
    have HG := Lib.hid (HF.out (w2.alloc (.cells #[.int .i64 0, .slice none 0 0, .slice none 0 0] 145)) (hb3.alloc hb3.size _))
    clear x0 x1 x2 hb2 hb3 HF HK
    go_wp2_with fail
    go_ret
    exact HG.out
  · have a1 := as_rec_6
    have hro := hoth (kind_none hk).2.2.1
    rw [hk] at HK
    clear hk
    have HF : Hid (∀ w2, Below w.heap.size w w2 → Truth (rowB (.node a ks)) w (.returned (.bool false)) w2) := fun w2 hb => ⟨by rw [hro], hb⟩
    clear hrec hoth hro HV HE
    go_enter Tryz.func101, Tryz.ntmps101
    go_wp2_with fail
    rw [HW1.out]
    go_wp2_with fail
    refine HK.out.mono ?_
    rintro e w2 ⟨rfl, hb2⟩
    have hb3 := HB1.out.trans (hb2.mono HB1.out.size)
    have HG := Lib.hid (HF.out (w2.alloc (.cells #[.int .i64 0, .slice none 0 0, .slice none 0 0] 145)) (hb3.alloc hb3.size _))
    clear x0 x1 x2 hb2 hb3 HF HK
    go_wp2_with fail
    go_ret
    exact HG.out
end Go.Proofs.YtlikmgkjilmjpaaGreat

/-
  The program's isTableDecl, and every over it.
-/
namespace Go.Proofs.YtlikmgkjilmjpaaGreat
open Go.RowKit

set_option maxRecDepth 100000 in
set_option maxHeartbeats 1600000 in
theorem isDecl_any (x : Dc) (w : World) (cs : List Value) (h : kDc.R w x cs) (h1 : x.1.size ≤ 1048576) (h2 : wt x.2 ≤ 1048576) : Calls Tryz.prog 91 #[.agg cs.toArray] w (Truth (declB x) w) := by
  obtain ⟨tk, TL, TA, tl, tc, ta, td, rfl, hs, hy⟩ := kDc_open h
  obtain ⟨W1, hW1⟩ : ∃ W1, w.alloc (.cells #[.string x.1, .int .i64 tk, .slice TL tl tc, .slice TA ta td] 98) = W1 := ⟨_, rfl⟩
  obtain ⟨H, hH⟩ : ∃ H, w.heap.size = H := ⟨_, rfl⟩
  have hb1 : Below w.heap.size w W1 := by rw [← hW1]; exact (Below.refl _ _).alloc (Nat.le_refl _) _
  have hx := Box4.new w 98 (.string x.1) (.int .i64 tk) (.slice TL tl tc) (.slice TA ta td)
  rw [hW1, hH] at hx
  have HN := Lib.hid (implName_any x.1 W1 h1)
  have HR := Lib.hid (fun (W : World) (hB : Below w.heap.size w W) => implRow_any x.2 W _ (kTy.keep hy hB) h2)
  have HX := Lib.hid hx
  have HB1 := Lib.hid hb1
  have HW1 := Lib.hid hW1
  have HT : Hid (∀ b W, b = declB x → Below w.heap.size w W → Truth (declB x) w (.returned (.bool b)) W) := Lib.hid (fun b W hb hB => ⟨by rw [hb], hB⟩)
  have HD : Hid (declB x = (nameB x.1 && rowB x.2)) := Lib.hid rfl
  have y0 := hx.c0
  generalize declB x = dB at HT HD ⊢
  generalize x.1 = nm at *
  generalize x.2 = ty at *
  clear h hs hy hx hW1 hb1 h1 h2
  cases hn : nameB nm
  · rw [hn] at HN HD
    have HF := Lib.hid (fun W hB => HT.out false W (by rw [HD.out]; rfl) hB)
    clear HT hn HR
    go_enter Tryz.func91, Tryz.ntmps91
    go_wp2_with fail
    rw [HW1.out]
    go_wp2_with fail
    refine HN.out.mono ?_
    rintro e w2 ⟨rfl, hb2⟩
    have HB2 := Lib.hid (HB1.out.trans (hb2.mono HB1.out.size))
    clear hb2 y0
    go_wp2_with fail
    go_ret
    exact HF.out _ HB2.out
  · rw [hn] at HN HD
    have HF := Lib.hid (fun W hB => HT.out (rowB ty) W (by rw [HD.out]; rfl) hB)
    clear HT hn
    go_enter Tryz.func91, Tryz.ntmps91
    go_wp2_with fail
    rw [HW1.out]
    go_wp2_with fail
    refine HN.out.mono ?_
    rintro e w2 ⟨rfl, hb2⟩
    have HB2 := Lib.hid (HB1.out.trans (hb2.mono HB1.out.size))
    have x2 := HX.out.under hb2 HX.out.lt
    have z1 := x2.c1
    have z2 := x2.c2
    have z3 := x2.c3
    have HC := Lib.hid (HR.out w2 HB2.out)
    clear hb2 x2 y0
    go_wp2_with fail
    refine HC.out.mono ?_
    rintro e w3 ⟨rfl, hb3⟩
    have HB3 := Lib.hid (HB2.out.trans (hb3.mono HB2.out.size))
    clear hb3 HC z1 z2 z3
    go_wp2_with fail
    go_ret
    exact HF.out _ HB3.out

set_option maxRecDepth 100000 in
set_option maxHeartbeats 1600000 in
theorem everyDecl_any (t : Sc) (w : World) (A : Option Addr) (d : Nat) (hp : RL kDc w A t) (hl : t.length ≤ 9223372036854775807) (hw : wSc t ≤ 1048576) :
    Calls Tryz.prog 90 #[.slice A t.length d, .func (.func 91) #[] #[]] w (Truth (t.all declB) w) := by
  have HP := Lib.hid hp
  have HW := Lib.hid hw
  clear hp hw
  go_enter Tryz.func90, Tryz.ntmps90
  go_wp2_with fail
  go_loopw [9] (fun i wr => ∃ k : Nat, k ≤ t.length ∧ i = .int .i64 k ∧ (t.take k).all declB = true ∧ Below w.heap.size w wr) (fun i _ => t.length - (intOf i).toNat)
  case atStart => exact ⟨0, Nat.zero_le _, rfl, by simp, Below.refl _ _⟩
  case round =>
    obtain ⟨k, hk, rfl, hto, hb⟩ := hrel
    have HTO := Lib.hid hto
    have HB := Lib.hid hb
    clear hto
    by_cases hlt : k < t.length
    · obtain ⟨ad, p, c0, c1, c2, c3, rfl, hpe, hr, q0, q1, q2, q3⟩ := rl_at4 kDc_n HP.out hb hlt
      obtain ⟨tk, TL, TA, tl, tc, ta, td, hcs, hs, hy⟩ := kDc_open hr
      obtain ⟨hn1, hn2, _⟩ := dnm_bounds hlt HW.out
      injection hcs with e0 hcs
      injection hcs with e1 hcs
      injection hcs with e2 hcs
      injection hcs with e3 hcs
      subst e0 e1 e2 e3
      obtain ⟨W5, hW5⟩ : ∃ W5, wr.alloc (.cells #[.string t[k].1, .int .i64 tk, .slice TL tl tc, .slice TA ta td] 98) = W5 := ⟨_, rfl⟩
      have hb5 : Below wr.heap.size wr W5 := by rw [← hW5]; exact (Below.refl _ _).alloc (Nat.le_refl _) _
      have hx5 := Box4.new wr 98 (.string t[k].1) (.int .i64 tk) (.slice TL tl tc) (.slice TA ta td)
      rw [hW5] at hx5
      have HC := Lib.hid (isDecl_any t[k] W5 _ (kDc.keep hr hb5) hn1 hn2)
      have HW5 := Lib.hid hW5
      have HB5 := Lib.hid (HB.out.trans (hb5.mono HB.out.size))
      have y0 := hx5.c0
      have y1 := hx5.c1
      have y2 := hx5.c2
      have y3 := hx5.c3
      have HS := Lib.hid (fun hf => all_take (f := declB) HTO.out hlt hf)
      have HN := Lib.hid (fun hf => all_no (f := declB) hlt hf)
      obtain ⟨v, hv⟩ : ∃ v, declB t[k] = v := ⟨_, rfl⟩
      rw [hv] at HS HN HC
      generalize t[k].1 = nm at *
      clear hr hcs hs hy hb hb5 hW5 hx5 hv hn1 hn2
      go_wp2_with fail
      rw [HW5.out]
      go_wp2_with fail
      refine HC.out.mono ?_
      rintro e w6 ⟨rfl, hb6⟩
      have HB6 := Lib.hid (HB5.out.trans (hb6.mono HB5.out.size))
      clear hb6 y0 y1 y2 y3 HC
      cases v with
      | false =>
        have HF : Hid (Truth (t.all declB) w (.returned (.bool false)) w6) := by rw [HN.out rfl]; exact ⟨rfl, HB6.out⟩
        go_wp2_with fail
        go_ret
        exact HF.out
      | true =>
        have HT := Lib.hid (HS.out rfl)
        clear HS HN
        go_wp2_with fail
        go_roundw
        case rel => exact ⟨k + 1, hlt, by go_num, HT.out, HB6.out⟩
        case measure => simp [intOf]; omega
    · have he : k = t.length := by omega
      have HF : Hid (Truth (t.all declB) w (.returned (.bool true)) wr) := by
        have h1 := HTO.out
        rw [he, List.take_length] at h1
        rw [h1]
        exact ⟨rfl, HB.out⟩
      clear he hb
      go_wp2_with fail
      go_ret
      exact HF.out
end Go.Proofs.YtlikmgkjilmjpaaGreat

/-
  The program's IsSchema.
-/
namespace Go.Proofs.YtlikmgkjilmjpaaGreat
open Go.RowKit

set_option maxRecDepth 100000 in
set_option maxHeartbeats 3200000 in
theorem implSch_any (t : Sc) (w : World) (cs : List Value) (h : RSc w t cs) (hw : wSc t ≤ 1048576) : Calls Tryz.prog 75 #[.agg cs.toArray] w (Truth (schB t) w) := by
  obtain ⟨A, d, rfl, hl, hld, hp⟩ := h.open
  have hlen : t.length ≤ 1048576 := Nat.le_trans (len_wSc t) hw
  obtain ⟨W1, hW1⟩ : ∃ W1, w.alloc (.cells #[.slice A t.length d] 42) = W1 := ⟨_, rfl⟩
  obtain ⟨H, hH⟩ : ∃ H, w.heap.size = H := ⟨_, rfl⟩
  have hbox : Box1 W1 H 42 (.slice A t.length d) := by rw [← hW1, ← hH]; exact Box1.new w _ _
  have hb1 : Below w.heap.size w W1 := by rw [← hW1]; exact (Below.refl _ _).alloc (Nat.le_refl _) _
  have HN := Lib.hid (implDecl_any t W1 _ (h.keep hb1) hw)
  have HE := Lib.hid (fun (W : World) (hB : Below w.heap.size w W) => everyDecl_any t W A d (hp.keep hB) hl hw)
  have HT : Hid (∀ b W, b = (t.all declB && (decide (t.length ≤ 4) && ascL (namesOf t))) → Below w.heap.size w W → Truth (schB t) w (.returned (.bool b)) W) := Lib.hid (fun b W hb hB => ⟨by rw [hb]; rfl, hB⟩)
  have HB1 := Lib.hid hb1
  have HX := Lib.hid hbox
  have HW1 := Lib.hid hW1
  have HAS := Lib.hid (fun (V : Option Addr) (lc : Nat) (W : World) (h : Sl W V ((namesOf t).map Value.string)) => implAsc_any V lc (namesOf t) W h (by rw [namesOf_len]; omega))
  have x0 := hbox.c0
  clear h hp hld hW1 hbox hb1 hw
  by_cases h4 : (t.length : Int) ≤ 4
  rotate_left
  · have HF := Lib.hid (HT.out false W1 (by rw [decide_eq_false (by omega)]; simp) HB1.out)
    clear HT HE HN HAS
    go_enter Tryz.func75, Tryz.ntmps75
    go_wp2_with fail
    rw [HW1.out]
    go_wp2_with fail
    go_ret
    exact HF.out
  have HT4 := Lib.hid (fun b W (hb : b = (t.all declB && ascL (namesOf t))) hB => HT.out b W (by rw [hb, decide_eq_true (by omega)]; simp) hB)
  clear HT
  go_enter Tryz.func75, Tryz.ntmps75
  go_wp2_with fail
  rw [HW1.out]
  go_wp2_with fail
  refine HN.out.mono ?_
  rintro e w2 ⟨V, lc, rfl, hown, hb2⟩
  have hsl := Sl.of_own hown
  have HB2 := Lib.hid (HB1.out.trans (hb2.mono HB1.out.size))
  have HX2 := Lib.hid (HX.out.under hb2 HX.out.lt)
  have HC := Lib.hid (HAS.out V lc w2 hsl)
  generalize ascL (namesOf t) = asc at HC HT4
  generalize (namesOf t).length = nl at HC ⊢
  clear hown hsl hb2 x0 HAS HN
  cases asc
  · have HF := Lib.hid (fun W hB => HT4.out false W (by simp) hB)
    clear HT4 HE
    go_wp2_with fail
    refine HC.out.mono ?_
    rintro e w3 ⟨rfl, n, rfl⟩
    go_wp2_with fail
    go_ret
    exact HF.out _ (below_drewN HB2.out n)
  · have HF := Lib.hid (fun W hB => HT4.out (t.all declB) W (by simp) hB)
    clear HT4
    go_wp2_with fail
    refine HC.out.mono ?_
    rintro e w3 ⟨rfl, n, rfl⟩
    have hb3 : Below w.heap.size w (w2.drewN n) := below_drewN HB2.out n
    have x3 : (w2.drewN n).cell? ⟨H, 0, none⟩ = some (.slice A t.length d) := (HX2.out.under (below_drewN (Below.refl _ _) n) HX2.out.lt).c0
    have HC4 := Lib.hid (HE.out (w2.drewN n) hb3)
    have HB3 := Lib.hid hb3
    clear hb3 HC HE
    go_wp2_with fail
    refine HC4.out.mono ?_
    rintro e w4 ⟨rfl, hb4⟩
    have HB4 := Lib.hid (HB3.out.trans (hb4.mono HB3.out.size))
    clear hb4
    go_wp2_with fail
    go_ret
    exact HF.out _ HB4.out
end Go.Proofs.YtlikmgkjilmjpaaGreat
