/-
  Merged by program: TyForm.
-/
import Derived.Test.YtlikmgkjilmjpaaH4
import Derived.Test.YtlikmgkjilmjpaaH5
import Derived.Test.YtlikmgkjilmjpaaH7

/-
  Whether every node of a type has its form (the model's l3Form), and the model's IsValidType, IsData, IsRow.
-/
namespace Go.Proofs.Ytlikmgkjilmjpaa
open Go.RowKit

/-- how many parts a kind asks for; -1: no such kind -/
def want (k : Int) : Int := if k = 1 then 0 else if k = 2 then 0 else if k = 4 then 1 else if k = 5 then 2 else -1
/-- is a function within the one part of a bag? -/
def bagFun (a : TyA) (ks : List Ty) : Bool := decide (a.kind = 4) && (decide (ks.length = 1) && ks.any (Tr.has 5))
def formA (a : TyA) (ks : List Ty) : Bool :=
  if a.kind = 3 then decide (ks.length = a.labels.length) && (labB a.labels && !(Tr.has 5 (.node a ks)))
  else !(bagFun a ks) && (decide (a.labels.length = 0) && decide ((ks.length : Int) = want a.kind))
def Tr.form : Ty → Bool
  | .node a ks => (ks.attach.all fun ⟨t, _⟩ => t.form) && formA a ks
theorem form_node (a : TyA) (ks : List Ty) : Tr.form (.node a ks) = (ks.all Tr.form && formA a ks) := by
  rw [Tr.form]
  congr 1
  rw [Bool.eq_iff_iff, List.all_eq_true, List.all_eq_true]
  constructor
  · intro h t ht; exact h ⟨t, ht⟩ (List.mem_attach _ _)
  · rintro h ⟨t, ht⟩ _; exact h t ht
/-- all of the first k answer yes -/
def AllTo {β : Type} (f : β → Bool) (ks : List β) (k : Nat) : Prop := ∀ j (h : j < ks.length), j < k → f ks[j] = true
theorem allTo_zero {β : Type} (f : β → Bool) (ks : List β) : AllTo f ks 0 := fun j _ h => by omega
theorem allTo_succ {β : Type} {f : β → Bool} {ks : List β} {k : Nat} (h : AllTo f ks k) (hk : k < ks.length) (hf : f ks[k] = true) : AllTo f ks (k + 1) := by
  intro j hj hlt
  by_cases e : j = k
  · subst e; exact hf
  · exact h j hj (by omega)
theorem allTo_all {β : Type} {f : β → Bool} {ks : List β} (h : AllTo f ks ks.length) : ks.all f = true := by
  rw [List.all_eq_true]
  intro x hx
  obtain ⟨j, hj, rfl⟩ := List.getElem_of_mem hx
  exact h j hj hj
theorem all_not {β : Type} {f : β → Bool} {ks : List β} {k : Nat} (hk : k < ks.length) (hf : f ks[k] = false) : ks.all f = false := by
  rw [Bool.eq_false_iff, Ne, List.all_eq_true]
  intro h
  have := h _ (List.getElem_mem hk)
  rw [hf] at this
  cases this
theorem kid_wt_le {a : TyA} {ks : List Ty} {t : Ty} (h : t ∈ ks) : wt t ≤ wt (.node a ks) := by
  rw [wt_node]
  have := kid_sum_le wt h
  unfold wtK
  omega
theorem total_mem {xs : List ByteArray} {x : ByteArray} (h : x ∈ xs) : x.size ≤ total xs := kid_sum_le (·.size) h
theorem wt_labels {a : TyA} {ks : List Ty} {B : Nat} (h : wt (.node a ks) ≤ B) : a.labels.length ≤ B ∧ ∀ x ∈ a.labels, x.size ≤ B := by
  rw [wt_node] at h
  unfold wtA at h
  exact ⟨by omega, fun x hx => by have := total_mem hx; omega⟩
theorem truth_iff {a b : Bool} {w w' : World} (h : a = b) (hb : Below w.heap.size w w') : Truth a w (.returned (.bool b)) w' := ⟨by rw [h], hb⟩

set_option maxHeartbeats 800000 in
theorem l3Form_any : ∀ (t : Ty) (w : World) (cs : List Value), RTy w t cs → wt t ≤ 1048576 → Calls Try.prog 96 #[.agg cs.toArray] w (Truth t.form w) := by
  refine Tr.ind ?_
  intro a ks ih w cs h hwt
  obtain ⟨L, c, A, d, rfl, k1, k2, k3, k4, k5, k6, hp⟩ := h.out
  obtain ⟨l1, l2⟩ := wt_labels hwt
  rw [form_node]
  obtain ⟨W1, hW1⟩ : ∃ W1, w.alloc (.cells #[.int .i64 a.kind, .slice L a.labels.length c, .slice A ks.length d] 41) = W1 := ⟨_, rfl⟩
  have hb0 : Below w.heap.size w W1 := by rw [← hW1]; exact (Below.refl _ _).alloc (Nat.le_refl _) _
  obtain ⟨H, hH⟩ : ∃ H, w.heap.size = H := ⟨_, rfl⟩
  have b0 : Box3 W1 H 41 (.int .i64 a.kind) (.slice L a.labels.length c) (.slice A ks.length d) := by rw [← hW1, ← hH]; exact Box3.new w _ _ _ _
  have HP := Lib.hid hp
  have HT := Lib.hid h
  have HLB := Lib.hid k1
  have HI := Lib.hid ih
  have HB0 := Lib.hid hb0
  have B0 := Lib.hid b0
  have HW1 := Lib.hid hW1
  have HL2 := Lib.hid l2
  have HWT := Lib.hid hwt
  clear hp ih hb0 b0 hW1 k1 k5 h l2 hwt
  go_enter Try.func96, Try.ntmps96
  go_wp2_with fail
  rw [HW1.out]
  go_loopw [3] (fun i wr => ∃ k : Nat, k ≤ ks.length ∧ i = .int .i64 k ∧ AllTo Tr.form ks k ∧ Below W1.heap.size W1 wr) (fun i _ => ks.length - (intOf i).toNat)
  case atStart => exact ⟨0, Nat.zero_le _, rfl, allTo_zero _ _, Below.refl _ _⟩
  case round =>
    obtain ⟨k, hk, rfl, hno, hb⟩ := hrel
    have hbw := HB0.out.trans (hb.mono HB0.out.size)
    have bk := B0.out.under hb B0.out.lt
    have hbx := bk.c2
    by_cases hlt : k < ks.length
    · obtain ⟨ad, p, c0, c1, c2, rfl, hpe, hr, q0, q1, q2⟩ := kid_at HP.out hbw hlt
      have hc := HI.out ks[k] (List.getElem_mem hlt) wr [c0, c1, c2] hr (Nat.le_trans (kid_wt_le (List.getElem_mem hlt)) HWT.out)
      have HC := Lib.hid hc
      have HN := Lib.hid hno
      have HBW := Lib.hid hbw
      clear hc hr hno bk
      go_wp2_with fail
      refine HC.out.mono ?_
      rintro e w2 ⟨rfl, hb2⟩
      have hb3 := hb.trans (hb2.mono hb.size)
      have HB4 := Lib.hid (HBW.out.trans (hb2.mono HBW.out.size))
      by_cases hf : Tr.form ks[k] = true
      · have HN2 := Lib.hid (allTo_succ HN.out hlt hf)
        rw [hf]
        clear hf
        go_wp2_with fail
        go_roundw
        case rel => exact ⟨k + 1, hlt, by go_num, HN2.out, hb3⟩
        case measure => simp [intOf]; omega
      · have hf' : Tr.form ks[k] = false := by simpa using hf
        have HR := Lib.hid (truth_iff (a := ks.all Tr.form && formA a ks) (b := false) (by rw [all_not hlt hf']; rfl) HB4.out)
        rw [hf']
        clear hf hf'
        go_wp2_with fail
        go_ret
        exact HR.out
    · have he : k = ks.length := by omega
      have HALL := Lib.hid (allTo_all (he ▸ hno))
      have HBW := Lib.hid hbw
      have BK := Lib.hid bk
      have hbx0 := bk.c0
      have hbx1 := bk.c1
      clear he hno bk
      by_cases h3 : a.kind = 3
      · by_cases hlen : ks.length = a.labels.length
        · have HFA : Hid (∀ b, (labB a.labels && !(Tr.has 5 (.node a ks))) = b → (ks.all Tr.form && formA a ks) = b) := by
            intro b hb
            rw [HALL.out, Bool.true_and, ← hb]
            unfold formA
            rw [if_pos h3]
            simp [hlen]
          have HLA := Lib.hid (l3Labels_any L c a.labels wr (HLB.out.below HBW.out) l1 HL2.out)
          go_wp2_with fail
          refine HLA.out.mono ?_
          rintro e W2 ⟨rfl, n, hW2⟩
          have hb2 : Below wr.heap.size wr W2 := by rw [hW2]; exact below_drewN (Below.refl _ _) n
          clear hW2 hbx hbx0 hbx1
          have HBW2 := Lib.hid (HBW.out.trans (hb2.mono HBW.out.size))
          have bk2 := BK.out.under hb2 BK.out.lt
          have hbx0 := bk2.c0
          have hbx1 := bk2.c1
          have hbx2 := bk2.c2
          clear bk2 hb2
          cases hlb : labB a.labels
          · have HR := Lib.hid (truth_iff (b := false) (HFA.out false (by rw [hlb]; rfl)) HBW2.out)
            clear hlb
            go_wp2_with fail
            go_ret
            exact HR.out
          · have hT := HT.out.keep HBW2.out
            rw [h3, hlen] at hT
            have HC := Lib.hid (l3Has_any 5 (.node a ks) W2 _ hT)
            clear hT
            have HR := Lib.hid (fun W (hB : Below w.heap.size w W) => truth_iff (b := !(Tr.has 5 (.node a ks))) (HFA.out _ (by rw [hlb]; rfl)) hB)
            clear hlb
            go_wp2_with fail
            refine HC.out.mono ?_
            rintro e W3 ⟨rfl, hb3⟩
            have HB5 := Lib.hid (HBW2.out.trans (hb3.mono HBW2.out.size))
            clear hb3
            go_wp2_with fail
            go_ret
            exact HR.out _ HB5.out
        · have HR := Lib.hid (truth_iff (a := ks.all Tr.form && formA a ks) (b := false) (by rw [HALL.out, Bool.true_and]; unfold formA; rw [if_pos h3]; simp [hlen]) HBW.out)
          go_wp2_with fail
          go_ret
          exact HR.out
      · have HFA : Hid (∀ b, bagFun a ks = false → (decide (a.labels.length = 0) && decide ((ks.length : Int) = want a.kind)) = b → (ks.all Tr.form && formA a ks) = b) := by
          intro b hbf hb
          rw [HALL.out, Bool.true_and, ← hb]
          unfold formA
          rw [if_neg h3, hbf]
          rfl
        by_cases h4 : a.kind = 4
        · by_cases hl1 : ks.length = 1
          · have hlt0 : 0 < ks.length := by omega
            obtain ⟨ad, p, c0, c1, c2, hA, hpe, hr, q0, q1, q2⟩ := kid_at HP.out HBW.out hlt0
            subst hA
            have HC := Lib.hid (l3Has_any 5 ks[0] wr [c0, c1, c2] hr)
            have hany : ks.any (Tr.has 5) = Tr.has 5 ks[0] := by
              match ks, hl1 with
              | [x], _ => simp
            have HBFV : Hid (bagFun a ks = Tr.has 5 ks[0]) := Lib.hid (by unfold bagFun; rw [hany]; simp [h4, hl1])
            have hpe0 : ad = p := by simpa [Addr.add] using hpe
            subst hpe0
            clear hr hany hpe
            go_wp2_with fail
            refine HC.out.mono ?_
            rintro e W2 ⟨rfl, hb2⟩
            have HBW2 := Lib.hid (HBW.out.trans (hb2.mono HBW.out.size))
            have bk2 := BK.out.under hb2 BK.out.lt
            clear hbx hbx0 hbx1 q0 q1 q2
            have hbx0 := bk2.c0
            have hbx1 := bk2.c1
            have hbx2 := bk2.c2
            clear bk2 hb2
            cases hh : Tr.has 5 ks[0]
            · have HBF : Hid (bagFun a ks = false) := Lib.hid (by rw [HBFV.out, hh])
              clear hh
              by_cases hl0 : a.labels.length = 0
              · have HR := Lib.hid (truth_iff (b := true) (HFA.out _ HBF.out (by simp [want, h4, hl0, hl1])) HBW2.out)
                go_wp2_with fail
                go_ret
                exact HR.out
              · have HR := Lib.hid (truth_iff (b := false) (HFA.out _ HBF.out (by simp [hl0])) HBW2.out)
                go_wp2_with fail
                go_ret
                exact HR.out
            · have HR : Hid (Truth (ks.all Tr.form && formA a ks) w (.returned (.bool false)) W2) := by
                refine truth_iff ?_ HBW2.out
                rw [HALL.out, Bool.true_and]
                unfold formA
                rw [if_neg h3, HBFV.out, hh]
                rfl
              clear hh
              go_wp2_with fail
              go_ret
              exact HR.out
          · have HBF : Hid (bagFun a ks = false) := Lib.hid (by unfold bagFun; simp [hl1])
            by_cases hl0 : a.labels.length = 0
            · have HR := Lib.hid (truth_iff (b := ((ks.length : Int) == 1)) (HFA.out _ HBF.out (by rw [hl0, show want a.kind = 1 by simp [want, h4]]; rfl)) HBW.out)
              go_wp2_with fail
              go_ret
              exact HR.out
            · have HR := Lib.hid (truth_iff (b := false) (HFA.out _ HBF.out (by simp [hl0])) HBW.out)
              go_wp2_with fail
              go_ret
              exact HR.out
        · have HBF : Hid (bagFun a ks = false) := Lib.hid (by unfold bagFun; simp [h4])
          by_cases h1 : a.kind = 1
          · skip
            by_cases hl0 : a.labels.length = 0
            · have HR := Lib.hid (truth_iff (b := ((ks.length : Int) == 0)) (HFA.out _ HBF.out (by rw [hl0, show want a.kind = 0 by simp [want, h1]]; rfl)) HBW.out)
              go_wp2_with fail
              go_ret
              exact HR.out
            · have HR := Lib.hid (truth_iff (b := false) (HFA.out _ HBF.out (by simp [hl0])) HBW.out)
              go_wp2_with fail
              go_ret
              exact HR.out
          · by_cases h2 : a.kind = 2
            · skip
              by_cases hl0 : a.labels.length = 0
              · have HR := Lib.hid (truth_iff (b := ((ks.length : Int) == 0)) (HFA.out _ HBF.out (by rw [hl0, show want a.kind = 0 by simp [want, h2]]; rfl)) HBW.out)
                go_wp2_with fail
                go_ret
                exact HR.out
              · have HR := Lib.hid (truth_iff (b := false) (HFA.out _ HBF.out (by simp [hl0])) HBW.out)
                go_wp2_with fail
                go_ret
                exact HR.out
            · by_cases h5 : a.kind = 5
              · skip
                by_cases hl0 : a.labels.length = 0
                · have HR := Lib.hid (truth_iff (b := ((ks.length : Int) == 2)) (HFA.out _ HBF.out (by rw [hl0, show want a.kind = 2 by simp [want, h5]]; rfl)) HBW.out)
                  go_wp2_with fail
                  go_ret
                  exact HR.out
                · have HR := Lib.hid (truth_iff (b := false) (HFA.out _ HBF.out (by simp [hl0])) HBW.out)
                  go_wp2_with fail
                  go_ret
                  exact HR.out
              · skip
                by_cases hl0 : a.labels.length = 0
                · have HR := Lib.hid (truth_iff (b := false) (HFA.out _ HBF.out (by simp [want, h1, h2, h4, h5, hl0])) HBW.out)
                  go_wp2_with fail
                  go_ret
                  exact HR.out
                · have HR := Lib.hid (truth_iff (b := false) (HFA.out _ HBF.out (by simp [hl0])) HBW.out)
                  go_wp2_with fail
                  go_ret
                  exact HR.out
end Go.Proofs.Ytlikmgkjilmjpaa
