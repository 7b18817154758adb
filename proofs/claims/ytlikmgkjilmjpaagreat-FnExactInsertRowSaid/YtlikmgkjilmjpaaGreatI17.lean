/-
  Merged by program: Asc, Labels, TyForm.
-/
import Derived.Test.YtlikmgkjilmjpaaGreatI1
import Derived.Test.YtlikmgkjilmjpaaGreatProg
import Derived.RegionTactic
import Derived.Deep.QuietTactic
import Derived.BigQuiet
import Derived.IntWalk
import Derived.Test.YtlikmgkjilmjpaaGreatI16
import Derived.Test.YtlikmgkjilmjpaaGreatI3

/-
  Whether each text of a list precedes the next one: the model's AreAscending and the program's give one answer.
-/
namespace Go.Proofs.YtlikmgkjilmjpaaGreat
open Go.RowKit

/-- the text precedes the other one, byte by byte -/
def ltS (x y : ByteArray) : Bool := Op.bytesLess x.toList y.toList
/-- the two at j stand in order -/
def okAt (xs : List ByteArray) (j : Nat) : Bool := ltS (xs.getD j ByteArray.empty) (xs.getD (j + 1) ByteArray.empty)
def ascL (xs : List ByteArray) : Bool := (List.range (xs.length - 1)).all (okAt xs)
def AscTo (xs : List ByteArray) (k : Nat) : Prop := ∀ j, j < k → okAt xs j = true
theorem ascTo_zero (xs : List ByteArray) : AscTo xs 0 := fun j h => by omega
theorem ascTo_succ {xs : List ByteArray} {k : Nat} (h : AscTo xs k) (hk : okAt xs k = true) : AscTo xs (k + 1) := by
  intro j hj
  by_cases e : j = k
  · subst e; exact hk
  · exact h j (by omega)
theorem asc_yes {xs : List ByteArray} {k : Nat} (h : AscTo xs k) (hk : xs.length ≤ k + 1) : ascL xs = true := by
  unfold ascL
  rw [List.all_eq_true]
  intro j hj
  exact h j (by simp at hj; omega)
theorem asc_no {xs : List ByteArray} {k : Nat} (hk : k + 1 < xs.length) (h : okAt xs k = false) : ascL xs = false := by
  unfold ascL
  rw [Bool.eq_false_iff, Ne, List.all_eq_true]
  intro hall
  have := hall k (by simp; omega)
  rw [h] at this
  cases this
theorem okAt_get {xs : List ByteArray} {k : Nat} (hk : k + 1 < xs.length) : okAt xs k = Op.bytesLess (xs[k]'(by omega)).toList (xs[k + 1]).toList := by
  simp [okAt, ltS, List.getD, hk, show k < xs.length by omega]
theorem geq_run (t : TypeId) (x y : ByteArray) {b : Bool} (h : Op.bytesLess x.toList y.toList = b) : binOp .geq t (.string x) (.string y) = pure (.bool !b) := by
  rw [← h]
  simp [binOp, Op.stringOp]
theorem ret_bool {a b : Bool} (h : a = b) : Ending.returned (.bool a) = .returned (.bool b) := by rw [h]

/-- an answer that is true or false; nothing but draws -/
def Tells (b : Bool) (w : World) (e : Ending) (w' : World) : Prop := e = .returned (.bool b) ∧ ∃ n, w' = w.drewN n

set_option maxHeartbeats 800000 in
theorem specAsc_any (A : Option Addr) (c : Nat) (xs : List ByteArray) (w : World) (h : Sl w A (xs.map Value.string)) (hn : xs.length ≤ 1048576) :
    Calls Tryz.prog 69 #[.slice A xs.length c] w (Tells (ascL xs) w) := by
  go_enter Tryz.func69, Tryz.ntmps69
  go_wp2
  go_loopw [3] (fun i wr => ∃ k : Nat, i = .int .i64 ((k : Int) + 1) ∧ k ≤ xs.length ∧ AscTo xs k ∧ ∃ n, wr = w.drewN n) (fun i _ => xs.length - (intOf i).toNat)
  case atStart => exact ⟨0, rfl, Nat.zero_le _, ascTo_zero _, 0, rfl⟩
  case round =>
    obtain ⟨k, rfl, hk, hasc, n, rfl⟩ := hrel
    by_cases hlt : k + 1 < xs.length
    · have hk4 : k < xs.length := by omega
      obtain ⟨ad, rfl, hc0⟩ := h k (.string (xs[k]'hk4)) (by simp [hk4])
      obtain ⟨m, hm⟩ : ∃ m, m = k + 1 := ⟨_, rfl⟩
      have hk6 : m < xs.length := by omega
      obtain ⟨ad', e, hc1⟩ := h m (.string (xs[m]'hk6)) (by simp [hk6])
      injection e with e
      subst e
      have hg : Op.bytesLess (xs[k]'hk4).toList (xs[m]'hk6).toList = okAt xs k := by subst hm; exact (okAt_get hlt).symm
      have hk1 : IntKind.i64.wrap (k : Int) = (k : Int) := IntWalk.i64_in _ (by omega)
      have hk2 : (0 : Int) ≤ (k : Int) + 1 := by omega
      have hk5 : (k : Int) + 1 < (xs.length : Int) := by omega
      have hk3 : ((k : Int) + 1).toNat = m := by omega
      clear hm
      cases hb : okAt xs k
      · rw [hb] at hg
        have hq := geq_run 9 _ _ hg
        simp only [Bool.not_false] at hq
        clear hg
        have HA := Lib.hid (asc_no hlt hb)
        clear hb hasc
        go_wp2
        go_quiet (fail)
        clear hk1 hk2 hk3 hq
        go_wp2
        go_ret
        exact ⟨ret_bool HA.out.symm, _, World.drewN_drewN _ _ _⟩
      · rw [hb] at hg
        have hq := geq_run 9 _ _ hg
        simp only [Bool.not_true] at hq
        clear hg
        have HA := Lib.hid (ascTo_succ hasc hb)
        clear hb hasc
        go_wp2
        go_quiet (fail)
        clear hk1 hk2 hk3 hq
        go_wp2
        go_roundw
        case rel => exact ⟨k + 1, by go_num, by omega, HA.out, _, rfl⟩
        case measure => simp [intOf]; omega
    · have HA := Lib.hid (asc_yes hasc (by omega))
      clear hasc
      go_wp2
      go_ret
      exact ⟨ret_bool HA.out.symm, n, rfl⟩
end Go.Proofs.YtlikmgkjilmjpaaGreat

/-
  Whether a list can be that of the labels of a record (the model's l3Labels).
-/
namespace Go.Proofs.YtlikmgkjilmjpaaGreat
open Go.RowKit

def labB (ls : List ByteArray) : Bool := ls.all nameB && ((decide (1 ≤ ls.length) && decide (ls.length ≤ 4)) && ascL ls)
def NamesTo (ls : List ByteArray) (k : Nat) : Prop := ∀ j (h : j < ls.length), j < k → nameB ls[j] = true
theorem namesTo_zero (ls : List ByteArray) : NamesTo ls 0 := fun j _ h => by omega
theorem namesTo_succ {ls : List ByteArray} {k : Nat} (h : NamesTo ls k) (hk : k < ls.length) (hf : nameB ls[k] = true) : NamesTo ls (k + 1) := by
  intro j hj hlt
  by_cases e : j = k
  · subst e; exact hf
  · exact h j hj (by omega)
theorem lab_all {ls : List ByteArray} (h : NamesTo ls ls.length) : labB ls = ((decide (1 ≤ ls.length) && decide (ls.length ≤ 4)) && ascL ls) := by
  unfold labB
  have e : ls.all nameB = true := by
    rw [List.all_eq_true]
    intro x hx
    obtain ⟨j, hj, rfl⟩ := List.getElem_of_mem hx
    exact h j hj hj
  rw [e, Bool.true_and]
theorem lab_no {ls : List ByteArray} {k : Nat} (hk : k < ls.length) (hf : nameB ls[k] = false) : labB ls = false := by
  unfold labB
  have e : ls.all nameB = false := by
    rw [Bool.eq_false_iff, Ne, List.all_eq_true]
    intro h
    have := h _ (List.getElem_mem hk)
    rw [hf] at this
    cases this
  rw [e, Bool.false_and]

theorem l1In_any (x lo hi : Int) (w : World) : Calls Tryz.prog 46 #[.int .i64 x, .int .i64 lo, .int .i64 hi] w (Says (decide (lo ≤ x) && decide (x ≤ hi)) w) := by
  go_enter Tryz.func46, Tryz.ntmps46
  by_cases h1 : lo ≤ x
  · have e1 : (decide (lo ≤ x) && decide (x ≤ hi)) = decide (x ≤ hi) := by simp [h1]
    rw [e1]
    go_wp2
    go_ret
    exact ⟨rfl, rfl⟩
  · have e1 : (decide (lo ≤ x) && decide (x ≤ hi)) = false := by simp [h1]
    rw [e1]
    go_wp2
    go_ret
    exact ⟨rfl, rfl⟩

set_option maxHeartbeats 800000 in
theorem l3Labels_any (A : Option Addr) (c : Nat) (xs : List ByteArray) (w : World) (h : Sl w A (xs.map Value.string)) (hn : xs.length ≤ 1048576) (hx : ∀ x ∈ xs, x.size ≤ 1048576) :
    Calls Tryz.prog 108 #[.slice A xs.length c] w (Tells (labB xs) w) := by
  have HX := Lib.hid hx
  have HS := Lib.hid h
  clear hx
  go_enter Tryz.func108, Tryz.ntmps108
  go_wp2_with fail
  go_loop [3] (fun i => ∃ k : Nat, k ≤ xs.length ∧ i = .int .i64 k ∧ NamesTo xs k) (fun i => xs.length - (intOf i).toNat)
  case atStart => exact ⟨0, Nat.zero_le _, rfl, namesTo_zero _⟩
  case round =>
    obtain ⟨k, hk, rfl, hno⟩ := hrel
    by_cases hlt : k < xs.length
    · obtain ⟨ad, rfl, hc⟩ := h k (.string xs[k]) (by simp [hlt])
      have HN := Lib.hid hno
      have HC := Lib.hid (specName_any xs[k] w (HX.out _ (List.getElem_mem hlt)))
      clear hno
      go_wp2_with fail
      refine HC.out.mono ?_
      rintro e w2 ⟨rfl, rfl⟩
      by_cases hf : nameB xs[k] = true
      · have HN2 := Lib.hid (namesTo_succ HN.out hlt hf)
        rw [hf]
        clear hf
        go_wp2_with fail
        go_round
        case rel => exact ⟨k + 1, by omega, by go_num, HN2.out⟩
        case measure => simp [intOf]; omega
      · have hf' : nameB xs[k] = false := by simpa using hf
        have HR := Lib.hid (lab_no hlt hf')
        rw [hf']
        clear hf hf'
        go_wp2_with fail
        go_ret
        exact ⟨ret_bool HR.out.symm, 0, rfl⟩
    · have he : k = xs.length := by omega
      have HL := Lib.hid (lab_all (he ▸ hno))
      clear he hno
      have HI := Lib.hid (l1In_any (xs.length : Nat) 1 4 w)
      have he2 : (decide ((1 : Int) ≤ (xs.length : Nat)) && decide (((xs.length : Nat) : Int) ≤ 4)) = (decide (1 ≤ xs.length) && decide (xs.length ≤ 4)) := by
        congr 1
        · simp; omega
        · simp; omega
      have HE := Lib.hid he2
      clear he2
      go_wp2_with fail
      refine HI.out.mono ?_
      rintro e w2 ⟨rfl, rfl⟩
      rw [HE.out]
      cases hin : (decide (1 ≤ xs.length) && decide (xs.length ≤ 4))
      · have HR : Hid (labB xs = false) := by rw [HL.out, hin]; rfl
        clear hin
        go_wp2_with fail
        go_ret
        exact ⟨ret_bool HR.out.symm, 0, rfl⟩
      · have HR : Hid (labB xs = ascL xs) := by rw [HL.out, hin]; rfl
        have HC := Lib.hid (specAsc_any A c xs w HS.out hn)
        clear hin
        go_wp2_with fail
        refine HC.out.mono ?_
        rintro e w2 ⟨rfl, n, rfl⟩
        go_wp2_with fail
        go_ret
        exact ⟨ret_bool HR.out.symm, n, rfl⟩
end Go.Proofs.YtlikmgkjilmjpaaGreat

/-
  Whether every node of a type has its form (the model's l3Form), and the model's IsValidType, IsData, IsRow.
-/
namespace Go.Proofs.YtlikmgkjilmjpaaGreat
open Go.RowKit

/-- how many parts a kind asks for; -1: no such kind -/
def want (k : Int) : Int := if k = 1 then 0 else if k = 2 then 0 else if k = 4 then 1 else if k = 5 then 2 else -1
/-- is a function within the one part of a bag? -/
def bagFun (a : TyA) (ks : List Ty) : Bool := decide (a.kind = 4) && (decide (ks.length = 1) && ks.any (Tr.has 5))
def formA (a : TyA) (ks : List Ty) : Bool :=
  if a.kind = 3 then decide (ks.length = a.labels.length) && (labB a.labels && !(Tr.has 5 (.node a ks)))
  else !(bagFun a ks) && (decide (a.labels.length = 0) && decide ((ks.length : Int) = want a.kind))
def Tr.form : Ty → Bool
  | .node a ks => (ks.attach.all fun ⟨t, _⟩ => t.form) && formA a ks
theorem form_node (a : TyA) (ks : List Ty) : Tr.form (.node a ks) = (ks.all Tr.form && formA a ks) := by
  rw [Tr.form]
  congr 1
  rw [Bool.eq_iff_iff, List.all_eq_true, List.all_eq_true]
  constructor
  · intro h t ht; exact h ⟨t, ht⟩ (List.mem_attach _ _)
  · rintro h ⟨t, ht⟩ _; exact h t ht
/-- all of the first k answer yes -/
def AllTo {β : Type} (f : β → Bool) (ks : List β) (k : Nat) : Prop := ∀ j (h : j < ks.length), j < k → f ks[j] = true
theorem allTo_zero {β : Type} (f : β → Bool) (ks : List β) : AllTo f ks 0 := fun j _ h => by omega
theorem allTo_succ {β : Type} {f : β → Bool} {ks : List β} {k : Nat} (h : AllTo f ks k) (hk : k < ks.length) (hf : f ks[k] = true) : AllTo f ks (k + 1) := by
  intro j hj hlt
  by_cases e : j = k
  · subst e; exact hf
  · exact h j hj (by omega)
theorem allTo_all {β : Type} {f : β → Bool} {ks : List β} (h : AllTo f ks ks.length) : ks.all f = true := by
  rw [List.all_eq_true]
  intro x hx
  obtain ⟨j, hj, rfl⟩ := List.getElem_of_mem hx
  exact h j hj hj
theorem all_not {β : Type} {f : β → Bool} {ks : List β} {k : Nat} (hk : k < ks.length) (hf : f ks[k] = false) : ks.all f = false := by
  rw [Bool.eq_false_iff, Ne, List.all_eq_true]
  intro h
  have := h _ (List.getElem_mem hk)
  rw [hf] at this
  cases this
theorem kid_wt_le {a : TyA} {ks : List Ty} {t : Ty} (h : t ∈ ks) : wt t ≤ wt (.node a ks) := by
  rw [wt_node]
  have := kid_sum_le wt h
  unfold wtK
  omega
theorem total_mem {xs : List ByteArray} {x : ByteArray} (h : x ∈ xs) : x.size ≤ total xs := kid_sum_le (·.size) h
theorem wt_labels {a : TyA} {ks : List Ty} {B : Nat} (h : wt (.node a ks) ≤ B) : a.labels.length ≤ B ∧ ∀ x ∈ a.labels, x.size ≤ B := by
  rw [wt_node] at h
  unfold wtA at h
  exact ⟨by omega, fun x hx => by have := total_mem hx; omega⟩
theorem truth_iff {a b : Bool} {w w' : World} (h : a = b) (hb : Below w.heap.size w w') : Truth a w (.returned (.bool b)) w' := ⟨by rw [h], hb⟩

set_option maxHeartbeats 800000 in
theorem l3Form_any : ∀ (t : Ty) (w : World) (cs : List Value), RTy w t cs → wt t ≤ 1048576 → Calls Tryz.prog 99 #[.agg cs.toArray] w (Truth t.form w) := by
  refine Tr.ind ?_
  intro a ks ih w cs h hwt
  obtain ⟨L, c, A, d, rfl, k1, k2, k3, k4, k5, k6, hp⟩ := h.out
  obtain ⟨l1, l2⟩ := wt_labels hwt
  rw [form_node]
  obtain ⟨W1, hW1⟩ : ∃ W1, w.alloc (.cells #[.int .i64 a.kind, .slice L a.labels.length c, .slice A ks.length d] 96) = W1 := ⟨_, rfl⟩
  have hb0 : Below w.heap.size w W1 := by rw [← hW1]; exact (Below.refl _ _).alloc (Nat.le_refl _) _
  obtain ⟨H, hH⟩ : ∃ H, w.heap.size = H := ⟨_, rfl⟩
  have b0 : Box3 W1 H 96 (.int .i64 a.kind) (.slice L a.labels.length c) (.slice A ks.length d) := by rw [← hW1, ← hH]; exact Box3.new w _ _ _ _
  have HP := Lib.hid hp
  have HT := Lib.hid h
  have HLB := Lib.hid k1
  have HI := Lib.hid ih
  have HB0 := Lib.hid hb0
  have B0 := Lib.hid b0
  have HW1 := Lib.hid hW1
  have HL2 := Lib.hid l2
  have HWT := Lib.hid hwt
  clear hp ih hb0 b0 hW1 k1 k5 h l2 hwt
  go_enter Tryz.func99, Tryz.ntmps99
  go_wp2_with fail
  rw [HW1.out]
  go_loopw [3] (fun i wr => ∃ k : Nat, k ≤ ks.length ∧ i = .int .i64 k ∧ AllTo Tr.form ks k ∧ Below W1.heap.size W1 wr) (fun i _ => ks.length - (intOf i).toNat)
  case atStart => exact ⟨0, Nat.zero_le _, rfl, allTo_zero _ _, Below.refl _ _⟩
  case round =>
    obtain ⟨k, hk, rfl, hno, hb⟩ := hrel
    have hbw := HB0.out.trans (hb.mono HB0.out.size)
    have bk := B0.out.under hb B0.out.lt
    have hbx := bk.c2
    by_cases hlt : k < ks.length
    · obtain ⟨ad, p, c0, c1, c2, rfl, hpe, hr, q0, q1, q2⟩ := kid_at HP.out hbw hlt
      have hc := HI.out ks[k] (List.getElem_mem hlt) wr [c0, c1, c2] hr (Nat.le_trans (kid_wt_le (List.getElem_mem hlt)) HWT.out)
      have HC := Lib.hid hc
      have HN := Lib.hid hno
      have HBW := Lib.hid hbw
      clear hc hr hno bk
      go_wp2_with fail
      refine HC.out.mono ?_
      rintro e w2 ⟨rfl, hb2⟩
      have hb3 := hb.trans (hb2.mono hb.size)
      have HB4 := Lib.hid (HBW.out.trans (hb2.mono HBW.out.size))
      by_cases hf : Tr.form ks[k] = true
      · have HN2 := Lib.hid (allTo_succ HN.out hlt hf)
        rw [hf]
        clear hf
        go_wp2_with fail
        go_roundw
        case rel => exact ⟨k + 1, hlt, by go_num, HN2.out, hb3⟩
        case measure => simp [intOf]; omega
      · have hf' : Tr.form ks[k] = false := by simpa using hf
        have HR := Lib.hid (truth_iff (a := ks.all Tr.form && formA a ks) (b := false) (by rw [all_not hlt hf']; rfl) HB4.out)
        rw [hf']
        clear hf hf'
        go_wp2_with fail
        go_ret
        exact HR.out
    · have he : k = ks.length := by omega
      have HALL := Lib.hid (allTo_all (he ▸ hno))
      have HBW := Lib.hid hbw
      have BK := Lib.hid bk
      have hbx0 := bk.c0
      have hbx1 := bk.c1
      clear he hno bk
      by_cases h3 : a.kind = 3
      · by_cases hlen : ks.length = a.labels.length
        · have HFA : Hid (∀ b, (labB a.labels && !(Tr.has 5 (.node a ks))) = b → (ks.all Tr.form && formA a ks) = b) := by
            intro b hb
            rw [HALL.out, Bool.true_and, ← hb]
            unfold formA
            rw [if_pos h3]
            simp [hlen]
          have HLA := Lib.hid (l3Labels_any L c a.labels wr (HLB.out.below HBW.out) l1 HL2.out)
          go_wp2_with fail
          refine HLA.out.mono ?_
          rintro e W2 ⟨rfl, n, hW2⟩
          have hb2 : Below wr.heap.size wr W2 := by rw [hW2]; exact below_drewN (Below.refl _ _) n
          clear hW2 hbx hbx0 hbx1
          have HBW2 := Lib.hid (HBW.out.trans (hb2.mono HBW.out.size))
          have bk2 := BK.out.under hb2 BK.out.lt
          have hbx0 := bk2.c0
          have hbx1 := bk2.c1
          have hbx2 := bk2.c2
          clear bk2 hb2
          cases hlb : labB a.labels
          · have HR := Lib.hid (truth_iff (b := false) (HFA.out false (by rw [hlb]; rfl)) HBW2.out)
            clear hlb
            go_wp2_with fail
            go_ret
            exact HR.out
          · have hT := HT.out.keep HBW2.out
            rw [h3, hlen] at hT
            have HC := Lib.hid (l3Has_any 5 (.node a ks) W2 _ hT)
            clear hT
            have HR := Lib.hid (fun W (hB : Below w.heap.size w W) => truth_iff (b := !(Tr.has 5 (.node a ks))) (HFA.out _ (by rw [hlb]; rfl)) hB)
            clear hlb
            go_wp2_with fail
            refine HC.out.mono ?_
            rintro e W3 ⟨rfl, hb3⟩
            have HB5 := Lib.hid (HBW2.out.trans (hb3.mono HBW2.out.size))
            clear hb3
            go_wp2_with fail
            go_ret
            exact HR.out _ HB5.out
        · have HR := Lib.hid (truth_iff (a := ks.all Tr.form && formA a ks) (b := false) (by rw [HALL.out, Bool.true_and]; unfold formA; rw [if_pos h3]; simp [hlen]) HBW.out)
          go_wp2_with fail
          go_ret
          exact HR.out
      · have HFA : Hid (∀ b, bagFun a ks = false → (decide (a.labels.length = 0) && decide ((ks.length : Int) = want a.kind)) = b → (ks.all Tr.form && formA a ks) = b) := by
          intro b hbf hb
          rw [HALL.out, Bool.true_and, ← hb]
          unfold formA
          rw [if_neg h3, hbf]
          rfl
        by_cases h4 : a.kind = 4
        · by_cases hl1 : ks.length = 1
          · have hlt0 : 0 < ks.length := by omega
            obtain ⟨ad, p, c0, c1, c2, hA, hpe, hr, q0, q1, q2⟩ := kid_at HP.out HBW.out hlt0
            subst hA
            have HC := Lib.hid (l3Has_any 5 ks[0] wr [c0, c1, c2] hr)
            have hany : ks.any (Tr.has 5) = Tr.has 5 ks[0] := by
              match ks, hl1 with
              | [x], _ => simp
            have HBFV : Hid (bagFun a ks = Tr.has 5 ks[0]) := Lib.hid (by unfold bagFun; rw [hany]; simp [h4, hl1])
            have hpe0 : ad = p := by simpa [Addr.add] using hpe
            subst hpe0
            clear hr hany hpe
            go_wp2_with fail
            refine HC.out.mono ?_
            rintro e W2 ⟨rfl, hb2⟩
            have HBW2 := Lib.hid (HBW.out.trans (hb2.mono HBW.out.size))
            have bk2 := BK.out.under hb2 BK.out.lt
            clear hbx hbx0 hbx1 q0 q1 q2
            have hbx0 := bk2.c0
            have hbx1 := bk2.c1
            have hbx2 := bk2.c2
            clear bk2 hb2
            cases hh : Tr.has 5 ks[0]
            · have HBF : Hid (bagFun a ks = false) := Lib.hid (by rw [HBFV.out, hh])
              clear hh
              by_cases hl0 : a.labels.length = 0
              · have HR := Lib.hid (truth_iff (b := true) (HFA.out _ HBF.out (by simp [want, h4, hl0, hl1])) HBW2.out)
                go_wp2_with fail
                go_ret
                exact HR.out
              · have HR := Lib.hid (truth_iff (b := false) (HFA.out _ HBF.out (by simp [hl0])) HBW2.out)
                go_wp2_with fail
                go_ret
                exact HR.out
            · have HR : Hid (Truth (ks.all Tr.form && formA a ks) w (.returned (.bool false)) W2) := by
                refine truth_iff ?_ HBW2.out
                rw [HALL.out, Bool.true_and]
                unfold formA
                rw [if_neg h3, HBFV.out, hh]
                rfl
              clear hh
              go_wp2_with fail
              go_ret
              exact HR.out
          · have HBF : Hid (bagFun a ks = false) := Lib.hid (by unfold bagFun; simp [hl1])
            by_cases hl0 : a.labels.length = 0
            · have HR := Lib.hid (truth_iff (b := ((ks.length : Int) == 1)) (HFA.out _ HBF.out (by rw [hl0, show want a.kind = 1 by simp [want, h4]]; rfl)) HBW.out)
              go_wp2_with fail
              go_ret
              exact HR.out
            · have HR := Lib.hid (truth_iff (b := false) (HFA.out _ HBF.out (by simp [hl0])) HBW.out)
              go_wp2_with fail
              go_ret
              exact HR.out
        · have HBF : Hid (bagFun a ks = false) := Lib.hid (by unfold bagFun; simp [h4])
          by_cases h1 : a.kind = 1
          · skip
            by_cases hl0 : a.labels.length = 0
            · have HR := Lib.hid (truth_iff (b := ((ks.length : Int) == 0)) (HFA.out _ HBF.out (by rw [hl0, show want a.kind = 0 by simp [want, h1]]; rfl)) HBW.out)
              go_wp2_with fail
              go_ret
              exact HR.out
            · have HR := Lib.hid (truth_iff (b := false) (HFA.out _ HBF.out (by simp [hl0])) HBW.out)
              go_wp2_with fail
              go_ret
              exact HR.out
          · by_cases h2 : a.kind = 2
            · skip
              by_cases hl0 : a.labels.length = 0
              · have HR := Lib.hid (truth_iff (b := ((ks.length : Int) == 0)) (HFA.out _ HBF.out (by rw [hl0, show want a.kind = 0 by simp [want, h2]]; rfl)) HBW.out)
                go_wp2_with fail
                go_ret
                exact HR.out
              · have HR := Lib.hid (truth_iff (b := false) (HFA.out _ HBF.out (by simp [hl0])) HBW.out)
                go_wp2_with fail
                go_ret
                exact HR.out
            · by_cases h5 : a.kind = 5
              · skip
                by_cases hl0 : a.labels.length = 0
                · have HR := Lib.hid (truth_iff (b := ((ks.length : Int) == 2)) (HFA.out _ HBF.out (by rw [hl0, show want a.kind = 2 by simp [want, h5]]; rfl)) HBW.out)
                  go_wp2_with fail
                  go_ret
                  exact HR.out
                · have HR := Lib.hid (truth_iff (b := false) (HFA.out _ HBF.out (by simp [hl0])) HBW.out)
                  go_wp2_with fail
                  go_ret
                  exact HR.out
              · skip
                by_cases hl0 : a.labels.length = 0
                · have HR := Lib.hid (truth_iff (b := false) (HFA.out _ HBF.out (by simp [want, h1, h2, h4, h5, hl0])) HBW.out)
                  go_wp2_with fail
                  go_ret
                  exact HR.out
                · have HR := Lib.hid (truth_iff (b := false) (HFA.out _ HBF.out (by simp [hl0])) HBW.out)
                  go_wp2_with fail
                  go_ret
                  exact HR.out
end Go.Proofs.YtlikmgkjilmjpaaGreat
