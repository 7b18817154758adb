/-
  Merged by program: Asc, Labels, JoinA, TySz.
-/
import Derived.Test.YtkchjinfjggoeaaGreatDoorF1
import Derived.Test.YtkchjinfjggoeaaGreatDoorProg
import Derived.RegionTactic
import Derived.Deep.QuietTactic
import Derived.BigQuiet
import Derived.IntWalk
import Derived.Test.YtkchjinfjggoeaaGreatDoorF3

/-
  Whether each text of a list precedes the next one: the model's AreAscending and the program's give one answer.
-/
namespace Go.Proofs.YtkchjinfjggoeaaGreatDoor
open Go.RowKit

/-- the text precedes the other one, byte by byte -/
def ltS (x y : ByteArray) : Bool := Op.bytesLess x.toList y.toList
/-- the two at j stand in order -/
def okAt (xs : List ByteArray) (j : Nat) : Bool := ltS (xs.getD j ByteArray.empty) (xs.getD (j + 1) ByteArray.empty)
def ascL (xs : List ByteArray) : Bool := (List.range (xs.length - 1)).all (okAt xs)
def AscTo (xs : List ByteArray) (k : Nat) : Prop := ∀ j, j < k → okAt xs j = true
theorem ascTo_zero (xs : List ByteArray) : AscTo xs 0 := fun j h => by omega
theorem ascTo_succ {xs : List ByteArray} {k : Nat} (h : AscTo xs k) (hk : okAt xs k = true) : AscTo xs (k + 1) := by
  intro j hj
  by_cases e : j = k
  · subst e; exact hk
  · exact h j (by omega)
theorem asc_yes {xs : List ByteArray} {k : Nat} (h : AscTo xs k) (hk : xs.length ≤ k + 1) : ascL xs = true := by
  unfold ascL
  rw [List.all_eq_true]
  intro j hj
  exact h j (by simp at hj; omega)
theorem asc_no {xs : List ByteArray} {k : Nat} (hk : k + 1 < xs.length) (h : okAt xs k = false) : ascL xs = false := by
  unfold ascL
  rw [Bool.eq_false_iff, Ne, List.all_eq_true]
  intro hall
  have := hall k (by simp; omega)
  rw [h] at this
  cases this
theorem okAt_get {xs : List ByteArray} {k : Nat} (hk : k + 1 < xs.length) : okAt xs k = Op.bytesLess (xs[k]'(by omega)).toList (xs[k + 1]).toList := by
  simp [okAt, ltS, List.getD, hk, show k < xs.length by omega]
theorem geq_run (t : TypeId) (x y : ByteArray) {b : Bool} (h : Op.bytesLess x.toList y.toList = b) : binOp .geq t (.string x) (.string y) = pure (.bool !b) := by
  rw [← h]
  simp [binOp, Op.stringOp]
theorem ret_bool {a b : Bool} (h : a = b) : Ending.returned (.bool a) = .returned (.bool b) := by rw [h]

/-- an answer that is true or false; nothing but draws -/
def Tells (b : Bool) (w : World) (e : Ending) (w' : World) : Prop := e = .returned (.bool b) ∧ ∃ n, w' = w.drewN n

set_option maxHeartbeats 800000 in
theorem specAsc_any (A : Option Addr) (c : Nat) (xs : List ByteArray) (w : World) (h : Sl w A (xs.map Value.string)) (hn : xs.length ≤ 1048576) :
    Calls Tryz.prog 155 #[.slice A xs.length c] w (Tells (ascL xs) w) := by
  go_enter Tryz.func155, Tryz.ntmps155
  go_wp2
  go_loopw [3] (fun i wr => ∃ k : Nat, i = .int .i64 ((k : Int) + 1) ∧ k ≤ xs.length ∧ AscTo xs k ∧ ∃ n, wr = w.drewN n) (fun i _ => xs.length - (intOf i).toNat)
  case atStart => exact ⟨0, rfl, Nat.zero_le _, ascTo_zero _, 0, rfl⟩
  case round =>
    obtain ⟨k, rfl, hk, hasc, n, rfl⟩ := hrel
    by_cases hlt : k + 1 < xs.length
    · have hk4 : k < xs.length := by omega
      obtain ⟨ad, rfl, hc0⟩ := h k (.string (xs[k]'hk4)) (by simp [hk4])
      obtain ⟨m, hm⟩ : ∃ m, m = k + 1 := ⟨_, rfl⟩
      have hk6 : m < xs.length := by omega
      obtain ⟨ad', e, hc1⟩ := h m (.string (xs[m]'hk6)) (by simp [hk6])
      injection e with e
      subst e
      have hg : Op.bytesLess (xs[k]'hk4).toList (xs[m]'hk6).toList = okAt xs k := by subst hm; exact (okAt_get hlt).symm
      have hk1 : IntKind.i64.wrap (k : Int) = (k : Int) := IntWalk.i64_in _ (by omega)
      have hk2 : (0 : Int) ≤ (k : Int) + 1 := by omega
      have hk5 : (k : Int) + 1 < (xs.length : Int) := by omega
      have hk3 : ((k : Int) + 1).toNat = m := by omega
      clear hm
      cases hb : okAt xs k
      · rw [hb] at hg
        have hq := geq_run 9 _ _ hg
        simp only [Bool.not_false] at hq
        clear hg
        have HA := Lib.hid (asc_no hlt hb)
        clear hb hasc
        go_wp2
        go_quiet (fail)
        clear hk1 hk2 hk3 hq
        go_wp2
        go_ret
        exact ⟨ret_bool HA.out.symm, _, World.drewN_drewN _ _ _⟩
      · rw [hb] at hg
        have hq := geq_run 9 _ _ hg
        simp only [Bool.not_true] at hq
        clear hg
        have HA := Lib.hid (ascTo_succ hasc hb)
        clear hb hasc
        go_wp2
        go_quiet (fail)
        clear hk1 hk2 hk3 hq
        go_wp2
        go_roundw
        case rel => exact ⟨k + 1, by go_num, by omega, HA.out, _, rfl⟩
        case measure => simp [intOf]; omega
    · have HA := Lib.hid (asc_yes hasc (by omega))
      clear hasc
      go_wp2
      go_ret
      exact ⟨ret_bool HA.out.symm, n, rfl⟩
end Go.Proofs.YtkchjinfjggoeaaGreatDoor

/-
  Whether a list can be that of the labels of a record (the model's l3Labels).
-/
namespace Go.Proofs.YtkchjinfjggoeaaGreatDoor
open Go.RowKit

def labB (ls : List ByteArray) : Bool := ls.all nameB && ((decide (1 ≤ ls.length) && decide (ls.length ≤ 4)) && ascL ls)
def NamesTo (ls : List ByteArray) (k : Nat) : Prop := ∀ j (h : j < ls.length), j < k → nameB ls[j] = true
theorem namesTo_zero (ls : List ByteArray) : NamesTo ls 0 := fun j _ h => by omega
theorem namesTo_succ {ls : List ByteArray} {k : Nat} (h : NamesTo ls k) (hk : k < ls.length) (hf : nameB ls[k] = true) : NamesTo ls (k + 1) := by
  intro j hj hlt
  by_cases e : j = k
  · subst e; exact hf
  · exact h j hj (by omega)
theorem lab_all {ls : List ByteArray} (h : NamesTo ls ls.length) : labB ls = ((decide (1 ≤ ls.length) && decide (ls.length ≤ 4)) && ascL ls) := by
  unfold labB
  have e : ls.all nameB = true := by
    rw [List.all_eq_true]
    intro x hx
    obtain ⟨j, hj, rfl⟩ := List.getElem_of_mem hx
    exact h j hj hj
  rw [e, Bool.true_and]
theorem lab_no {ls : List ByteArray} {k : Nat} (hk : k < ls.length) (hf : nameB ls[k] = false) : labB ls = false := by
  unfold labB
  have e : ls.all nameB = false := by
    rw [Bool.eq_false_iff, Ne, List.all_eq_true]
    intro h
    have := h _ (List.getElem_mem hk)
    rw [hf] at this
    cases this
  rw [e, Bool.false_and]

theorem l1In_any (x lo hi : Int) (w : World) : Calls Tryz.prog 119 #[.int .i64 x, .int .i64 lo, .int .i64 hi] w (Says (decide (lo ≤ x) && decide (x ≤ hi)) w) := by
  go_enter Tryz.func119, Tryz.ntmps119
  by_cases h1 : lo ≤ x
  · have e1 : (decide (lo ≤ x) && decide (x ≤ hi)) = decide (x ≤ hi) := by simp [h1]
    rw [e1]
    go_wp2
    go_ret
    exact ⟨rfl, rfl⟩
  · have e1 : (decide (lo ≤ x) && decide (x ≤ hi)) = false := by simp [h1]
    rw [e1]
    go_wp2
    go_ret
    exact ⟨rfl, rfl⟩

set_option maxHeartbeats 800000 in
theorem l3Labels_any (A : Option Addr) (c : Nat) (xs : List ByteArray) (w : World) (h : Sl w A (xs.map Value.string)) (hn : xs.length ≤ 1048576) (hx : ∀ x ∈ xs, x.size ≤ 1048576) :
    Calls Tryz.prog 118 #[.slice A xs.length c] w (Tells (labB xs) w) := by
  have HX := Lib.hid hx
  have HS := Lib.hid h
  clear hx
  go_enter Tryz.func118, Tryz.ntmps118
  go_wp2_with fail
  go_loop [3] (fun i => ∃ k : Nat, k ≤ xs.length ∧ i = .int .i64 k ∧ NamesTo xs k) (fun i => xs.length - (intOf i).toNat)
  case atStart => exact ⟨0, Nat.zero_le _, rfl, namesTo_zero _⟩
  case round =>
    obtain ⟨k, hk, rfl, hno⟩ := hrel
    by_cases hlt : k < xs.length
    · obtain ⟨ad, rfl, hc⟩ := h k (.string xs[k]) (by simp [hlt])
      have HN := Lib.hid hno
      have HC := Lib.hid (specName_any xs[k] w (HX.out _ (List.getElem_mem hlt)))
      clear hno
      go_wp2_with fail
      refine HC.out.mono ?_
      rintro e w2 ⟨rfl, rfl⟩
      by_cases hf : nameB xs[k] = true
      · have HN2 := Lib.hid (namesTo_succ HN.out hlt hf)
        rw [hf]
        clear hf
        go_wp2_with fail
        go_round
        case rel => exact ⟨k + 1, by omega, by go_num, HN2.out⟩
        case measure => simp [intOf]; omega
      · have hf' : nameB xs[k] = false := by simpa using hf
        have HR := Lib.hid (lab_no hlt hf')
        rw [hf']
        clear hf hf'
        go_wp2_with fail
        go_ret
        exact ⟨ret_bool HR.out.symm, 0, rfl⟩
    · have he : k = xs.length := by omega
      have HL := Lib.hid (lab_all (he ▸ hno))
      clear he hno
      have HI := Lib.hid (l1In_any (xs.length : Nat) 1 4 w)
      have he2 : (decide ((1 : Int) ≤ (xs.length : Nat)) && decide (((xs.length : Nat) : Int) ≤ 4)) = (decide (1 ≤ xs.length) && decide (xs.length ≤ 4)) := by
        congr 1
        · simp; omega
        · simp; omega
      have HE := Lib.hid he2
      clear he2
      go_wp2_with fail
      refine HI.out.mono ?_
      rintro e w2 ⟨rfl, rfl⟩
      rw [HE.out]
      cases hin : (decide (1 ≤ xs.length) && decide (xs.length ≤ 4))
      · have HR : Hid (labB xs = false) := by rw [HL.out, hin]; rfl
        clear hin
        go_wp2_with fail
        go_ret
        exact ⟨ret_bool HR.out.symm, 0, rfl⟩
      · have HR : Hid (labB xs = ascL xs) := by rw [HL.out, hin]; rfl
        have HC := Lib.hid (specAsc_any A c xs w HS.out hn)
        clear hin
        go_wp2_with fail
        refine HC.out.mono ?_
        rintro e w2 ⟨rfl, n, rfl⟩
        go_wp2_with fail
        go_ret
        exact ⟨ret_bool HR.out.symm, n, rfl⟩
end Go.Proofs.YtkchjinfjggoeaaGreatDoor

/-
  The size of a list of strings, as the laws reckon it: 'szStringS'.
-/
namespace Go.Proofs.YtkchjinfjggoeaaGreatDoor
open Go.RowKit

/-- what szStringS leaves: where its answer is not negative, what is left over is the rest -/
def SzPost (n : Nat) (xs : List ByteArray) (left : Int) (w : World) (e : Ending) (w' : World) : Prop :=
  ∃ r : Int, e = .returned (.int .i64 r) ∧ r ≤ left ∧ -1 ≤ r ∧ (0 ≤ r → r + n + total xs = left) ∧ w = w'

set_option maxHeartbeats 400000 in
theorem szStringS_any (A : Option Addr) (c : Nat) (xs : List ByteArray) (left : Int) (w : World) (h : Sl w A (xs.map Value.string)) (hn : xs.length ≤ 9223372036854775807)
    (hx : ∀ x ∈ xs, x.size ≤ 9223372036854775807) (h0 : 0 ≤ left) (h1 : left ≤ 1048576) :
    Calls Tryz.prog 37 #[.slice A xs.length c, .int .i64 left] w (SzPost xs.length xs left w) := by
  go_enter Tryz.func37, Tryz.ntmps37
  by_cases hneg : left - xs.length < 0
  · go_wp2
    go_ret
    exact ⟨-1, rfl, by omega, by omega, by omega, rfl⟩
  · go_wp2
    go_loop [1, 5] (fun l i => ∃ k : Nat, k ≤ xs.length ∧ i = .int .i64 k ∧ ∃ r : Int, l = .int .i64 r ∧ 0 ≤ r ∧ r + xs.length + total (xs.take k) = left) (fun _ i => xs.length - (intOf i).toNat)
    case atStart => exact ⟨0, Nat.zero_le _, rfl, _, rfl, by omega, by simp [total]⟩
    case round =>
      obtain ⟨k, hk, rfl, r, rfl, hr0, hr⟩ := hrel
      by_cases hlt : k < xs.length
      · have hs := total_take_succ xs k xs[k] (List.getElem?_eq_getElem hlt)
        obtain ⟨ad, rfl, hc⟩ := h k (.string xs[k]) (by simp [hlt])
        have hxk := hx xs[k] (List.getElem_mem hlt)
        have HS := Lib.hid hs
        have HR := Lib.hid hr
        clear hs hr
        have hr1 : r ≤ 1048576 := by have := HR.out; omega
        by_cases hz : r - (xs[k].size : Int) < 0
        · go_wp2
          go_ret
          exact ⟨-1, rfl, by omega, by omega, by omega, rfl⟩
        · go_wp2
          go_round
          case rel => exact ⟨k + 1, by omega, by go_num, _, rfl, by omega, by have := HS.out; have := HR.out; omega⟩
          case measure => simp [intOf]; omega
      · have he : k = xs.length := by omega
        have htk : xs.take k = xs := by rw [he]; exact List.take_length
        have HR := Lib.hid hr
        have HT := Lib.hid htk
        clear hr htk he
        go_wp2
        go_ret
        exact ⟨r, rfl, by have := HR.out; omega, by omega, fun _ => by have := HR.out; rw [HT.out] at this; omega, rfl⟩
end Go.Proofs.YtkchjinfjggoeaaGreatDoor

/-
  How great a type is, as the laws reckon it: 'szType', 'szTypeS'.
-/
namespace Go.Proofs.YtkchjinfjggoeaaGreatDoor
open Go.RowKit

/-- the laws' own types, which mirror the program's -/
def wtA (a : TyA) : Nat := a.labels.length + total a.labels
/-- what a type takes of the laws' bound -/
def wt (t : Ty) : Nat := t.sum (fun a => wtA a + 1) - 1
def wtK (ks : List Ty) : Nat := ks.length + (ks.map wt).sum
theorem wt_pos (t : Ty) : 1 ≤ t.sum (fun a => wtA a + 1) := by
  cases t with
  | node a ks => rw [Tr.sum_node]; omega
theorem wt_sum (ks : List Ty) : (ks.map (Tr.sum fun a => wtA a + 1)).sum = wtK ks := by
  unfold wtK
  induction ks with
  | nil => rfl
  | cons t r ih =>
    have := wt_pos t
    simp only [List.map_cons, List.sum_cons, List.length_cons, ih]
    unfold wt
    omega
theorem wt_node (a : TyA) (ks : List Ty) : wt (.node a ks) = wtA a + wtK ks := by
  unfold wt
  rw [Tr.sum_node, wt_sum]
  omega
theorem sum_le {β : Type} (f g : β → Nat) : ∀ (xs : List β), (∀ x ∈ xs, f x ≤ g x) → (xs.map f).sum ≤ (xs.map g).sum
  | [], _ => by simp
  | x :: r, h => by
    have h1 := h x (by simp)
    have h2 := sum_le f g r (fun y hy => h y (by simp [hy]))
    simp only [List.map_cons, List.sum_cons]
    omega
theorem size_wt (t : Ty) : t.size ≤ wt t + 1 := by
  have : t.size ≤ t.sum (fun a => wtA a + 1) := by
    refine Tr.ind (m := fun t => t.size ≤ t.sum (fun a => wtA a + 1)) (fun a ks ih => ?_) t
    rw [size_node, Tr.sum_node]
    have h := sum_le Tr.size (Tr.sum fun a => wtA a + 1) ks ih
    omega
  unfold wt
  omega

/-- where the answer is not negative, what is left over is the rest -/
def SzT (n : Nat) (left : Int) (w : World) (e : Ending) (w' : World) : Prop := ∃ r : Int, e = .returned (.int .i64 r) ∧ r ≤ left ∧ -1 ≤ r ∧ (0 ≤ r → r + n = left) ∧ Below w.heap.size w w'

def SzK (t : Ty) : Prop := ∀ (w : World) (cs : List Value) (left : Int), RTy w t cs → 0 ≤ left → left ≤ 1048576 → Calls Tryz.prog 36 #[.agg cs.toArray, .int .i64 left] w (SzT (wt t) left w)

set_option maxHeartbeats 800000 in
theorem szTypeS_of (ks : List Ty) (ih : ∀ t ∈ ks, SzK t) (w : World) (A : Option Addr) (d : Nat) (left : Int) (hp : RKids w A ks) (hl : ks.length ≤ 9223372036854775807) (h0 : 0 ≤ left) (h1 : left ≤ 1048576) :
    Calls Tryz.prog 82 #[.slice A ks.length d, .int .i64 left] w (SzT (wtK ks) left w) := by
  have HP := Lib.hid hp
  have HI := Lib.hid ih
  clear hp ih
  by_cases hneg : left - ks.length < 0
  · go_enter Tryz.func82, Tryz.ntmps82
    go_wp2_with fail
    go_ret
    exact ⟨-1, rfl, by omega, by omega, by omega, Below.refl _ _⟩
  · go_enter Tryz.func82, Tryz.ntmps82
    go_wp2_with fail
    go_loopw [1, 5] (fun l i wr => ∃ k : Nat, k ≤ ks.length ∧ i = .int .i64 k ∧ ∃ r : Int, l = .int .i64 r ∧ 0 ≤ r ∧ r + ks.length + ((ks.take k).map wt).sum = left ∧ Below w.heap.size w wr) (fun _ i _ => ks.length - (intOf i).toNat)
    case atStart => exact ⟨0, Nat.zero_le _, rfl, _, rfl, by omega, by simp, Below.refl _ _⟩
    case round =>
      obtain ⟨k, hk, rfl, r, rfl, hr0, hr, hb⟩ := hrel
      have hr1 : r ≤ 1048576 := by omega
      have HR := Lib.hid hr
      clear hr
      by_cases hlt : k < ks.length
      · obtain ⟨ad, p, c0, c1, c2, rfl, hpe, hrt, q0, q1, q2⟩ := kid_at HP.out hb hlt
        have hst := sum_take_succ wt ks k hlt
        have hc := HI.out ks[k] (List.getElem_mem hlt) wr [c0, c1, c2] r hrt hr0 hr1
        obtain ⟨m, hm⟩ : ∃ m, wt ks[k] = m := ⟨_, rfl⟩
        rw [hm] at hst hc
        have HC := Lib.hid hc
        have HST := Lib.hid hst
        clear hc hrt hst hm
        go_wp2_with fail
        refine HC.out.mono ?_
        rintro e w2 ⟨r', rfl, hr2, hr3, hr4, hb2⟩
        have HB3 := Lib.hid (hb.trans (hb2.mono hb.size))
        have HR4 := Lib.hid hr4
        clear hr4 hb2
        by_cases hz : r' < 0
        · go_wp2_with fail
          go_ret
          exact ⟨-1, rfl, by omega, by omega, by omega, HB3.out⟩
        · go_wp2_with fail
          go_roundw
          case rel => exact ⟨k + 1, hlt, by go_num, r', rfl, by omega, by have h1 := HR4.out (by omega); have h2 := HR.out; have h3 := HST.out; omega, HB3.out⟩
          case measure => simp [intOf]; omega
      · have he : k = ks.length := by omega
        have HS : Hid (r + wtK ks = left) := by
          have h := HR.out
          rw [he, List.take_length] at h
          show _ = _
          unfold wtK
          omega
        clear he
        go_wp2_with fail
        go_ret
        exact ⟨r, rfl, by have := HR.out; omega, by omega, fun _ => HS.out, hb⟩

set_option maxHeartbeats 800000 in
theorem szType_any : ∀ t : Ty, SzK t := by
  refine Tr.ind ?_
  intro a ks ih w cs left h h0 h1
  obtain ⟨L, c, A, d, rfl, k1, k2, k3, k4, k5, k6, hp⟩ := h.out
  have HN := Lib.hid (wt_node a ks)
  obtain ⟨W1, hW1⟩ : ∃ W1, w.alloc (.cells #[.int .i64 a.kind, .slice L a.labels.length c, .slice A ks.length d] 40) = W1 := ⟨_, rfl⟩
  have hb0 : Below w.heap.size w W1 := by rw [← hW1]; exact (Below.refl _ _).alloc (Nat.le_refl _) _
  have hbx1 : W1.cell? ⟨w.heap.size, 1, none⟩ = some (.slice L a.labels.length c) := by rw [← hW1]; exact cell_of_row _ _ 1 _ _ _ (heap_alloc_new w _)
  have hbx2 : W1.cell? ⟨w.heap.size, 2, none⟩ = some (.slice A ks.length d) := by rw [← hW1]; exact cell_of_row _ _ 2 _ _ _ (heap_alloc_new w _)
  have HW1 := Lib.hid hW1
  have HP := Lib.hid (hp.keep hb0)
  have HL := Lib.hid (k1.below hb0)
  have HB0 := Lib.hid hb0
  have HI := Lib.hid ih
  have HX := Lib.hid k5
  clear hp ih hb0 hW1 k1 k5 h
  go_enter Tryz.func36, Tryz.ntmps36
  go_wp2_with fail
  rw [HW1.out]
  go_wp2_with fail
  refine (szStringS_any L c a.labels left W1 HL.out k4 HX.out h0 h1).mono ?_
  rintro e w' ⟨r, rfl, hr1, hr2, hr3, rfl⟩
  have HR3 := Lib.hid hr3
  clear hr3
  by_cases hneg : r < 0
  · go_wp2_with fail
    go_ret
    exact ⟨-1, rfl, by omega, by omega, by omega, HB0.out⟩
  · go_wp2_with fail
    refine (szTypeS_of ks HI.out W1 A d r HP.out k6 (by omega) (by omega)).mono ?_
    rintro e w2 ⟨r', rfl, hs1, hs2, hs3, hb2⟩
    have HS3 := Lib.hid hs3
    have HB2 := Lib.hid (HB0.out.trans (hb2.mono HB0.out.size))
    clear hs3 hb2
    by_cases hz : r' < 0
    · go_wp2_with fail
      go_ret
      exact ⟨-1, rfl, by omega, by omega, by omega, HB2.out⟩
    · go_wp2_with fail
      go_ret
      refine ⟨r', rfl, by omega, by omega, fun _ => ?_, HB2.out⟩
      have e1 := HR3.out (by omega)
      have e2 := HS3.out (by omega)
      rw [HN.out]
      unfold wtA
      omega
end Go.Proofs.YtkchjinfjggoeaaGreatDoor
