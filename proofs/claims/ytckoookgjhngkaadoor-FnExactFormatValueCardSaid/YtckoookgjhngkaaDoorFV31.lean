/-
  Merged by program: FmtI, JoinI, HasD, Kind.
-/
import Derived.Test.YtckoookgjhngkaaDoorFV20
import Derived.Test.YtckoookgjhngkaaDoorShelf
import Derived.Test.YtckoookgjhngkaaDoorFV1
import Derived.Test.YtckoookgjhngkaaDoorRows
import Derived.Deep.DeepHandedRow
import Derived.Lib.LaidTab
import Derived.Test.YtckoookgjhngkaaDoorFV12
import Derived.Test.YtckoookgjhngkaaDoorFV5

/-
  The program's FormatInt, by the library's contract; the table of powers that the row lists.
-/
namespace Go.Proofs.YtckoookgjhngkaaDoor
open Go.RowKit

theorem laidMet_tail {P : Program} {x : String × DataW Unit} {r : List (String × DataW Unit)} {W : World} (h : laidMet P (x :: r) W) : laidMet P r W := by
  obtain ⟨ps, hv, hn, hp⟩ := h
  obtain ⟨n, d⟩ := x
  obtain ⟨g, t, cs, fuel, p, q, _, _, _, _, hq, rfl⟩ := hv
  exact ⟨q, hq, (List.nodup_append.1 hn).2.1, fun b off hm => hp b off (List.mem_append_right _ hm)⟩

theorem gPow : Tryd.prog.globalNamed "internal/strconv.uint64pow10" = some 0 := by kernel_rfl
theorem gPowType : (Tryd.prog.globals[0]?).map (·.type) = some 80 := by kernel_rfl
theorem cellsPow : Tryd.prog.cellsOf 80 = 20 := by kernel_rfl
theorem cellsU64 : Tryd.prog.cellsOf 72 = 1 := by kernel_rfl

theorem pow_of_laid {W : World} {rest : List (String × DataW Unit)} (h : laidMet Tryd.prog (("internal/strconv.uint64pow10", Rows.laid_internal_strconv_uint64pow10) :: rest) W) : Lib.TabIs Tryd.prog W "internal/strconv.uint64pow10" .u64 Lib.pow10Tab :=
  Lib.tabIs_of_head gPow gPowType Tryd.underlying80 Tryd.underlying72 cellsU64 cellsPow (show laidMet Tryd.prog (("internal/strconv.uint64pow10", Lib.tabData .u64 Lib.pow10Tab) :: rest) W from h)

theorem below_grown_by (w : World) (k : Nat) (os : Array Obj) : Below w.heap.size w (Sort.grow (w.drewN k) os) :=
  ⟨rfl, rfl, rfl, by show w.heap.size ≤ (w.heap ++ os).size; rw [Array.size_append]; omega, fun j hj => by
    show (w.heap ++ os)[j]? = w.heap[j]?
    exact Array.getElem?_append_left hj⟩

theorem implFmtInt_any (n : Int) (h0 : -9223372036854775808 ≤ n) (h1 : n ≤ 9223372036854775807) (w : World) (htab : Lib.TabIs Tryd.prog w "internal/strconv.uint64pow10" .u64 Lib.pow10Tab) :
    Calls Tryd.prog 27 #[.int .i64 n] w (Text (Lib.itoa n) w) := by
  have HT := Lib.hid htab
  clear htab
  go_enter Tryd.func27, Tryd.ntmps27
  go_wp2_with (go_at_call 37; refine (Tryd.strconv_Itoa n h0 h1 _ HT.out).mono ?_; rintro e w' ⟨rfl, k, os, rfl⟩)
  go_ret
  exact ⟨rfl, below_grown_by _ _ _⟩

theorem tab_below {w w' : World} {name : String} {k : IntKind} {zs : List Int} {g : Nat} (hg : Tryd.prog.globalNamed name = some g) (hlt : g < w.heap.size) (h : Lib.TabIs Tryd.prog w name k zs) (hb : Below w.heap.size w w') : Lib.TabIs Tryd.prog w' name k zs := by
  unfold Lib.TabIs World.var? at h ⊢
  rw [hg] at h ⊢
  simpa [hb.block g hlt] using h

end Go.Proofs.YtckoookgjhngkaaDoor

/-
  The program's Join, by the library's contract.
-/
namespace Go.Proofs.YtckoookgjhngkaaDoor
open Go.RowKit

set_option maxHeartbeats 400000 in
theorem implJoin_any (g c : Nat) (xs : List ByteArray) (sp : ByteArray) (w : World) (h : Sl w (some ⟨g, 0, none⟩) (xs.map Value.string)) (hc : xs.length ≤ c) (hn : xs.length ≤ 1048576)
    (hsz : xs.length * sp.size + total xs ≤ 35184372088832) :
    Calls Tryd.prog 38 #[.slice (some ⟨g, 0, none⟩) xs.length c, .string sp] w (Text (jn xs sp) w) := by
  have hl := jn_len xs sp
  rcases Nat.eq_zero_or_pos xs.length with h0 | h0
  · obtain rfl : xs = [] := List.eq_nil_of_length_eq_zero h0
    go_enter Tryd.func38, Tryd.ntmps38
    go_wp2_with (go_at_call 48; refine (Tryd.strings_Join_none _ _ _ _).mono ?_; rintro e w' ⟨rfl, rfl⟩)
    go_ret
    exact ⟨rfl, Below.refl _ _⟩
  · have hcells : ∀ (j : Nat) x, xs[j]? = some x → w.cell? ⟨g, 0 + j, none⟩ = some (.string x) := by
      intro j x hj
      obtain ⟨ad, e, hcc⟩ := h j (.string x) (by simp [hj])
      injection e with e
      subst e
      rwa [Addr.add_lit] at hcc
    have hbk : g < w.heap.size := World.block_lt_of_cell? w _ (hcells 0 xs[0] (List.getElem?_eq_getElem h0))
    have HC := Lib.hid hcells
    clear hcells h
    go_enter Tryd.func38, Tryd.ntmps38
    go_wp2_with (go_at_call 48; refine (Tryd.strings_Join g 0 c xs sp _ HC.out hbk (by omega) hc (by show (jn xs sp).length ≤ _; omega)).mono ?_; rintro e w' ⟨rfl, hb⟩)
    go_ret
    exact ⟨rfl, hb⟩

end Go.Proofs.YtckoookgjhngkaaDoor

/-
  Whether a value has a type, over trees: by recursion on the type; what a data type looks like.
-/
namespace Go.Proofs.YtckoookgjhngkaaDoor

mutual
def hasT : Ty → Va → Bool
  | .node a ks, v =>
    if a.kind = 1 then decide (v.top.kind = 1) && (decide (v.top.labels.length = 0) && decide (v.kids.length = 0))
    else if a.kind = 2 then decide (v.top.kind = 2) && (decide (v.top.num = 0 ∨ v.top.num = 1) && (decide (v.top.labels.length = 0) && decide (v.kids.length = 0)))
    else if a.kind = 3 then decide (v.top.kind = 3) && (decide (v.top.num = 0) && (decide (v.top.labels = a.labels) && hasTs ks v.kids))
    else decide (v.top.kind = 4) && (decide (v.top.num = 0) && (decide (v.top.labels.length = 0) && v.kids.all fun x => hasTh ks x))
def hasTs : List Ty → List Va → Bool
  | [], [] => true
  | t :: ts, v :: vs => hasT t v && hasTs ts vs
  | [], _ :: _ => false
  | _ :: _, [] => false
def hasTh : List Ty → Va → Bool
  | [], _ => true
  | t :: _, v => hasT t v
end
theorem hasTs_len : ∀ {ts : List Ty} {vs : List Va}, hasTs ts vs = true → ts.length = vs.length
  | [], [], _ => rfl
  | t :: ts, v :: vs, h => by
    rw [hasTs, Bool.and_eq_true] at h
    simp [hasTs_len h.2]
  | [], _ :: _, h => by simp [hasTs] at h
  | _ :: _, [], h => by simp [hasTs] at h
/-- the types are the values', from the k-th on -/
theorem hasTs_step {ts : List Ty} {vs : List Va} {k : Nat} (h1 : k < ts.length) (h2 : k < vs.length) : hasTs (ts.drop k) (vs.drop k) = (hasT ts[k] vs[k] && hasTs (ts.drop (k + 1)) (vs.drop (k + 1))) := by
  rw [List.drop_eq_getElem_cons h1, List.drop_eq_getElem_cons h2, hasTs]
theorem hasTs_end {ts : List Ty} {vs : List Va} {k : Nat} (h1 : ts.length ≤ k) (h2 : vs.length ≤ k) : hasTs (ts.drop k) (vs.drop k) = true := by
  rw [List.drop_eq_nil_of_le h1, List.drop_eq_nil_of_le h2, hasTs]
/-- a data type -/
def DatT (t : Ty) : Prop := t.form = true ∧ Tr.has 5 t = false
theorem DatT.of {t : Ty} (h : dataB t = true) : DatT t := by
  unfold dataB validB at h
  simp only [Bool.and_eq_true, Bool.not_eq_true'] at h
  exact ⟨h.1.2.2, h.2⟩
theorem DatT.kid {a : TyA} {ks : List Ty} (h : DatT (.node a ks)) {t : Ty} (ht : t ∈ ks) : DatT t := by
  obtain ⟨h1, h2⟩ := h
  rw [form_node, Bool.and_eq_true, List.all_eq_true] at h1
  rw [has_node, Bool.or_eq_false_iff] at h2
  refine ⟨h1.1 t ht, ?_⟩
  have := h2.1
  rw [List.any_eq_false] at this
  simpa using this t ht
/-- the four kinds of data types -/
theorem DatT.cases {a : TyA} {ks : List Ty} (h : DatT (.node a ks)) :
    ((a.kind = 1 ∨ a.kind = 2) ∧ a.labels.length = 0 ∧ ks.length = 0) ∨ (a.kind = 3 ∧ ks.length = a.labels.length) ∨ (a.kind = 4 ∧ a.labels.length = 0 ∧ ks.length = 1) := by
  obtain ⟨h1, h2⟩ := h
  rw [form_node, Bool.and_eq_true] at h1
  have hf := h1.2
  rw [has_node, Bool.or_eq_false_iff] at h2
  have h5 : a.kind ≠ 5 := by simpa using h2.2
  unfold formA at hf
  by_cases h3 : a.kind = 3
  · rw [if_pos h3] at hf
    simp only [Bool.and_eq_true, decide_eq_true_eq] at hf
    exact .inr (.inl ⟨h3, hf.1⟩)
  · rw [if_neg h3] at hf
    simp only [Bool.and_eq_true, decide_eq_true_eq] at hf
    obtain ⟨_, hl, hw⟩ := hf
    unfold want at hw
    by_cases k1 : a.kind = 1
    · rw [if_pos k1] at hw
      exact .inl ⟨.inl k1, hl, by omega⟩
    · by_cases k2 : a.kind = 2
      · rw [if_neg k1, if_pos k2] at hw
        exact .inl ⟨.inr k2, hl, by omega⟩
      · by_cases k4 : a.kind = 4
        · rw [if_neg k1, if_neg k2, if_pos k4] at hw
          exact .inr (.inr ⟨k4, hl, by omega⟩)
        · rw [if_neg k1, if_neg k2, if_neg k4, if_neg h5] at hw
          omega
def hasV (v : Va) (t : Ty) : Bool := dataB t && (decide (v.size ≤ 2000) && hasT t v)
end Go.Proofs.YtckoookgjhngkaaDoor

/-
  The program's kindOfType.
-/
namespace Go.Proofs.YtckoookgjhngkaaDoor
open Go.RowKit

/-! what a test of the type gives -/
/-! the methods that a call through the interface comes to; 100 more than the program has types -/
end Go.Proofs.YtckoookgjhngkaaDoor
