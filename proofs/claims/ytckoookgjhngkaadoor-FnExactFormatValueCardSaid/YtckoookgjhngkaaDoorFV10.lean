/-
  Merged by program: Labels, TyForm.
-/
import Derived.Test.YtckoookgjhngkaaDoorFV8
import Derived.Test.YtckoookgjhngkaaDoorFV9
import Derived.Test.YtckoookgjhngkaaDoorFV4
import Derived.Test.YtckoookgjhngkaaDoorFV6

/-
  Whether a list can be that of the labels of a record (the model's l3Labels).
-/
namespace Go.Proofs.YtckoookgjhngkaaDoor
open Go.RowKit

def labB (ls : List ByteArray) : Bool := ls.all nameB && ((decide (1 ≤ ls.length) && decide (ls.length ≤ 4)) && ascL ls)
def NamesTo (ls : List ByteArray) (k : Nat) : Prop := ∀ j (h : j < ls.length), j < k → nameB ls[j] = true
theorem namesTo_zero (ls : List ByteArray) : NamesTo ls 0 := fun j _ h => by omega
theorem namesTo_succ {ls : List ByteArray} {k : Nat} (h : NamesTo ls k) (hk : k < ls.length) (hf : nameB ls[k] = true) : NamesTo ls (k + 1) := by
  intro j hj hlt
  by_cases e : j = k
  · subst e; exact hf
  · exact h j hj (by omega)
theorem lab_all {ls : List ByteArray} (h : NamesTo ls ls.length) : labB ls = ((decide (1 ≤ ls.length) && decide (ls.length ≤ 4)) && ascL ls) := by
  unfold labB
  have e : ls.all nameB = true := by
    rw [List.all_eq_true]
    intro x hx
    obtain ⟨j, hj, rfl⟩ := List.getElem_of_mem hx
    exact h j hj hj
  rw [e, Bool.true_and]
theorem lab_no {ls : List ByteArray} {k : Nat} (hk : k < ls.length) (hf : nameB ls[k] = false) : labB ls = false := by
  unfold labB
  have e : ls.all nameB = false := by
    rw [Bool.eq_false_iff, Ne, List.all_eq_true]
    intro h
    have := h _ (List.getElem_mem hk)
    rw [hf] at this
    cases this
  rw [e, Bool.false_and]

theorem l1In_any (x lo hi : Int) (w : World) : Calls Tryd.prog 30 #[.int .i64 x, .int .i64 lo, .int .i64 hi] w (Says (decide (lo ≤ x) && decide (x ≤ hi)) w) := by
  go_enter Tryd.func30, Tryd.ntmps30
  by_cases h1 : lo ≤ x
  · have e1 : (decide (lo ≤ x) && decide (x ≤ hi)) = decide (x ≤ hi) := by simp [h1]
    rw [e1]
    go_wp2
    go_ret
    exact ⟨rfl, rfl⟩
  · have e1 : (decide (lo ≤ x) && decide (x ≤ hi)) = false := by simp [h1]
    rw [e1]
    go_wp2
    go_ret
    exact ⟨rfl, rfl⟩

set_option maxHeartbeats 800000 in
theorem l3Labels_any (A : Option Addr) (c : Nat) (xs : List ByteArray) (w : World) (h : Sl w A (xs.map Value.string)) (hn : xs.length ≤ 1048576) (hx : ∀ x ∈ xs, x.size ≤ 1048576) :
    Calls Tryd.prog 31 #[.slice A xs.length c] w (Tells (labB xs) w) := by
  have HX := Lib.hid hx
  have HS := Lib.hid h
  clear hx
  go_enter Tryd.func31, Tryd.ntmps31
  go_wp2_with fail
  go_loop [3] (fun i => ∃ k : Nat, k ≤ xs.length ∧ i = .int .i64 k ∧ NamesTo xs k) (fun i => xs.length - (intOf i).toNat)
  case atStart => exact ⟨0, Nat.zero_le _, rfl, namesTo_zero _⟩
  case round =>
    obtain ⟨k, hk, rfl, hno⟩ := hrel
    by_cases hlt : k < xs.length
    · obtain ⟨ad, rfl, hc⟩ := h k (.string xs[k]) (by simp [hlt])
      have HN := Lib.hid hno
      have HC := Lib.hid (specName_any xs[k] w (HX.out _ (List.getElem_mem hlt)))
      clear hno
      go_wp2_with fail
      refine HC.out.mono ?_
      rintro e w2 ⟨rfl, rfl⟩
      by_cases hf : nameB xs[k] = true
      · have HN2 := Lib.hid (namesTo_succ HN.out hlt hf)
        rw [hf]
        clear hf
        go_wp2_with fail
        go_round
        case rel => exact ⟨k + 1, by omega, by go_num, HN2.out⟩
        case measure => simp [intOf]; omega
      · have hf' : nameB xs[k] = false := by simpa using hf
        have HR := Lib.hid (lab_no hlt hf')
        rw [hf']
        clear hf hf'
        go_wp2_with fail
        go_ret
        exact ⟨ret_bool HR.out.symm, 0, rfl⟩
    · have he : k = xs.length := by omega
      have HL := Lib.hid (lab_all (he ▸ hno))
      clear he hno
      have HI := Lib.hid (l1In_any (xs.length : Nat) 1 4 w)
      have he2 : (decide ((1 : Int) ≤ (xs.length : Nat)) && decide (((xs.length : Nat) : Int) ≤ 4)) = (decide (1 ≤ xs.length) && decide (xs.length ≤ 4)) := by
        congr 1
        · simp; omega
        · simp; omega
      have HE := Lib.hid he2
      clear he2
      go_wp2_with fail
      refine HI.out.mono ?_
      rintro e w2 ⟨rfl, rfl⟩
      rw [HE.out]
      cases hin : (decide (1 ≤ xs.length) && decide (xs.length ≤ 4))
      · have HR : Hid (labB xs = false) := by rw [HL.out, hin]; rfl
        clear hin
        go_wp2_with fail
        go_ret
        exact ⟨ret_bool HR.out.symm, 0, rfl⟩
      · have HR : Hid (labB xs = ascL xs) := by rw [HL.out, hin]; rfl
        have HC := Lib.hid (specAsc_any A c xs w HS.out hn)
        clear hin
        go_wp2_with fail
        refine HC.out.mono ?_
        rintro e w2 ⟨rfl, n, rfl⟩
        go_wp2_with fail
        go_ret
        exact ⟨ret_bool HR.out.symm, n, rfl⟩
end Go.Proofs.YtckoookgjhngkaaDoor

/-
  Whether every node of a type has its form (the model's l3Form), and the model's IsValidType, IsData, IsRow.
-/
namespace Go.Proofs.YtckoookgjhngkaaDoor
open Go.RowKit

/-- how many parts a kind asks for; -1: no such kind -/
def want (k : Int) : Int := if k = 1 then 0 else if k = 2 then 0 else if k = 4 then 1 else if k = 5 then 2 else -1
/-- is a function within the one part of a bag? -/
def bagFun (a : TyA) (ks : List Ty) : Bool := decide (a.kind = 4) && (decide (ks.length = 1) && ks.any (Tr.has 5))
def formA (a : TyA) (ks : List Ty) : Bool :=
  if a.kind = 3 then decide (ks.length = a.labels.length) && (labB a.labels && !(Tr.has 5 (.node a ks)))
  else !(bagFun a ks) && (decide (a.labels.length = 0) && decide ((ks.length : Int) = want a.kind))
def Tr.form : Ty → Bool
  | .node a ks => (ks.attach.all fun ⟨t, _⟩ => t.form) && formA a ks
theorem form_node (a : TyA) (ks : List Ty) : Tr.form (.node a ks) = (ks.all Tr.form && formA a ks) := by
  rw [Tr.form]
  congr 1
  rw [Bool.eq_iff_iff, List.all_eq_true, List.all_eq_true]
  constructor
  · intro h t ht; exact h ⟨t, ht⟩ (List.mem_attach _ _)
  · rintro h ⟨t, ht⟩ _; exact h t ht
/-- all of the first k answer yes -/
def AllTo {β : Type} (f : β → Bool) (ks : List β) (k : Nat) : Prop := ∀ j (h : j < ks.length), j < k → f ks[j] = true
theorem allTo_zero {β : Type} (f : β → Bool) (ks : List β) : AllTo f ks 0 := fun j _ h => by omega
theorem allTo_succ {β : Type} {f : β → Bool} {ks : List β} {k : Nat} (h : AllTo f ks k) (hk : k < ks.length) (hf : f ks[k] = true) : AllTo f ks (k + 1) := by
  intro j hj hlt
  by_cases e : j = k
  · subst e; exact hf
  · exact h j hj (by omega)
theorem allTo_all {β : Type} {f : β → Bool} {ks : List β} (h : AllTo f ks ks.length) : ks.all f = true := by
  rw [List.all_eq_true]
  intro x hx
  obtain ⟨j, hj, rfl⟩ := List.getElem_of_mem hx
  exact h j hj hj
theorem all_not {β : Type} {f : β → Bool} {ks : List β} {k : Nat} (hk : k < ks.length) (hf : f ks[k] = false) : ks.all f = false := by
  rw [Bool.eq_false_iff, Ne, List.all_eq_true]
  intro h
  have := h _ (List.getElem_mem hk)
  rw [hf] at this
  cases this
theorem kid_wt_le {a : TyA} {ks : List Ty} {t : Ty} (h : t ∈ ks) : wt t ≤ wt (.node a ks) := by
  rw [wt_node]
  have := kid_sum_le wt h
  unfold wtK
  omega
theorem total_mem {xs : List ByteArray} {x : ByteArray} (h : x ∈ xs) : x.size ≤ total xs := kid_sum_le (·.size) h
theorem wt_labels {a : TyA} {ks : List Ty} {B : Nat} (h : wt (.node a ks) ≤ B) : a.labels.length ≤ B ∧ ∀ x ∈ a.labels, x.size ≤ B := by
  rw [wt_node] at h
  unfold wtA at h
  exact ⟨by omega, fun x hx => by have := total_mem hx; omega⟩
theorem truth_iff {a b : Bool} {w w' : World} (h : a = b) (hb : Below w.heap.size w w') : Truth a w (.returned (.bool b)) w' := ⟨by rw [h], hb⟩

end Go.Proofs.YtckoookgjhngkaaDoor
