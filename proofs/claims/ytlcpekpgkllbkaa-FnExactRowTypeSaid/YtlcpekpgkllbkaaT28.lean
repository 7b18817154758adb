/-
  Merged by program: HasD, DbD, TabS, SchS.
-/
import Derived.Test.YtlcpekpgkllbkaaT25
import Derived.Test.YtlcpekpgkllbkaaT7
import Derived.Test.YtlcpekpgkllbkaaT26
import Derived.Test.YtlcpekpgkllbkaaT27
import Derived.Test.YtlcpekpgkllbkaaT8
import Derived.Test.YtlcpekpgkllbkaaT15
import Derived.Test.YtlcpekpgkllbkaaT23
import Derived.Test.YtlcpekpgkllbkaaT2

/-
  Whether a value has a type, over trees: by recursion on the type; what a data type looks like.
-/
namespace Go.Proofs.Ytlcpekpgkllbkaa

mutual
def hasT : Ty → Va → Bool
  | .node a ks, v =>
    if a.kind = 1 then decide (v.top.kind = 1) && (decide (v.top.labels.length = 0) && decide (v.kids.length = 0))
    else if a.kind = 2 then decide (v.top.kind = 2) && (decide (v.top.num = 0 ∨ v.top.num = 1) && (decide (v.top.labels.length = 0) && decide (v.kids.length = 0)))
    else if a.kind = 3 then decide (v.top.kind = 3) && (decide (v.top.num = 0) && (decide (v.top.labels = a.labels) && hasTs ks v.kids))
    else decide (v.top.kind = 4) && (decide (v.top.num = 0) && (decide (v.top.labels.length = 0) && v.kids.all fun x => hasTh ks x))
def hasTs : List Ty → List Va → Bool
  | [], [] => true
  | t :: ts, v :: vs => hasT t v && hasTs ts vs
  | [], _ :: _ => false
  | _ :: _, [] => false
def hasTh : List Ty → Va → Bool
  | [], _ => true
  | t :: _, v => hasT t v
end
theorem hasTs_len : ∀ {ts : List Ty} {vs : List Va}, hasTs ts vs = true → ts.length = vs.length
  | [], [], _ => rfl
  | t :: ts, v :: vs, h => by
    rw [hasTs, Bool.and_eq_true] at h
    simp [hasTs_len h.2]
  | [], _ :: _, h => by simp [hasTs] at h
  | _ :: _, [], h => by simp [hasTs] at h
/-- the types are the values', from the k-th on -/
theorem hasTs_step {ts : List Ty} {vs : List Va} {k : Nat} (h1 : k < ts.length) (h2 : k < vs.length) : hasTs (ts.drop k) (vs.drop k) = (hasT ts[k] vs[k] && hasTs (ts.drop (k + 1)) (vs.drop (k + 1))) := by
  rw [List.drop_eq_getElem_cons h1, List.drop_eq_getElem_cons h2, hasTs]
theorem hasTs_end {ts : List Ty} {vs : List Va} {k : Nat} (h1 : ts.length ≤ k) (h2 : vs.length ≤ k) : hasTs (ts.drop k) (vs.drop k) = true := by
  rw [List.drop_eq_nil_of_le h1, List.drop_eq_nil_of_le h2, hasTs]
/-- a data type -/
def DatT (t : Ty) : Prop := t.form = true ∧ Tr.has 5 t = false
theorem DatT.of {t : Ty} (h : dataB t = true) : DatT t := by
  unfold dataB validB at h
  simp only [Bool.and_eq_true, Bool.not_eq_true'] at h
  exact ⟨h.1.2.2, h.2⟩
theorem DatT.kid {a : TyA} {ks : List Ty} (h : DatT (.node a ks)) {t : Ty} (ht : t ∈ ks) : DatT t := by
  obtain ⟨h1, h2⟩ := h
  rw [form_node, Bool.and_eq_true, List.all_eq_true] at h1
  rw [has_node, Bool.or_eq_false_iff] at h2
  refine ⟨h1.1 t ht, ?_⟩
  have := h2.1
  rw [List.any_eq_false] at this
  simpa using this t ht
/-- the four kinds of data types -/
theorem DatT.cases {a : TyA} {ks : List Ty} (h : DatT (.node a ks)) :
    ((a.kind = 1 ∨ a.kind = 2) ∧ a.labels.length = 0 ∧ ks.length = 0) ∨ (a.kind = 3 ∧ ks.length = a.labels.length) ∨ (a.kind = 4 ∧ a.labels.length = 0 ∧ ks.length = 1) := by
  obtain ⟨h1, h2⟩ := h
  rw [form_node, Bool.and_eq_true] at h1
  have hf := h1.2
  rw [has_node, Bool.or_eq_false_iff] at h2
  have h5 : a.kind ≠ 5 := by simpa using h2.2
  unfold formA at hf
  by_cases h3 : a.kind = 3
  · rw [if_pos h3] at hf
    simp only [Bool.and_eq_true, decide_eq_true_eq] at hf
    exact .inr (.inl ⟨h3, hf.1⟩)
  · rw [if_neg h3] at hf
    simp only [Bool.and_eq_true, decide_eq_true_eq] at hf
    obtain ⟨_, hl, hw⟩ := hf
    unfold want at hw
    by_cases k1 : a.kind = 1
    · rw [if_pos k1] at hw
      exact .inl ⟨.inl k1, hl, by omega⟩
    · by_cases k2 : a.kind = 2
      · rw [if_neg k1, if_pos k2] at hw
        exact .inl ⟨.inr k2, hl, by omega⟩
      · by_cases k4 : a.kind = 4
        · rw [if_neg k1, if_neg k2, if_pos k4] at hw
          exact .inr (.inr ⟨k4, hl, by omega⟩)
        · rw [if_neg k1, if_neg k2, if_neg k4, if_neg h5] at hw
          omega
def hasV (v : Va) (t : Ty) : Bool := dataB t && (decide (v.size ≤ 2000) && hasT t v)
end Go.Proofs.Ytlcpekpgkllbkaa

/-
  When two databases are equal, in plain words. Hangs on no function of the program.
-/
namespace Go.Proofs.Ytlcpekpgkllbkaa
open Go.RowKit

def sameVa (u v : Va) : Bool := decide (cmpV u v = 0)
def sameDd (a b : Dd) : Bool := decide (a.1 = b.1) && (decide (a.2.length = b.2.length) && allPairs sameVa a.2 b.2)
def eqDbB (a b : Db) : Bool := decide (a.length = b.length) && allPairs sameDd a b
noncomputable def tdataB (x : Dc) (d : Dd) : Bool := decide (d.1 = x.1) && (decide (d.2.length ≤ 8) && d.2.all fun v => hasV v x.2)
noncomputable def dbB (xs : Sc) (ds : Db) : Bool := schB xs && (decide (xs.length = ds.length) && allPairs tdataB xs ds)
theorem str_neS {s t : ByteArray} (h : s ≠ t) : (s.toList == t.toList) = false := by
  rw [beq_eq_false_iff_ne, ByteArray.toList_eq, ByteArray.toList_eq]
  intro e
  exact h (ByteArray.ext (Array.toList_inj.1 e))
end Go.Proofs.Ytlcpekpgkllbkaa

/-
  The model's l9Table: the place of a table in a database.
-/
namespace Go.Proofs.Ytlcpekpgkllbkaa
open Go.RowKit

/-- n is the place of the first element with the name, -1 if there is none -/
def AtD {α : Type} (xs : List (ByteArray × α)) (nm : ByteArray) (n : Int) : Prop := (n = -1 ∧ xs.find? (fun d => decide (d.1 = nm)) = none) ∨ ∃ k : Nat, ∃ h : k < xs.length, n = (k : Int) ∧ xs[k].1 = nm ∧ xs.find? (fun d => decide (d.1 = nm)) = some xs[k]
def NoneAt {α : Type} (xs : List (ByteArray × α)) (nm : ByteArray) (k : Nat) : Prop := ∀ (j : Nat) (h : j < xs.length), j < k → xs[j].1 ≠ nm
theorem noneAt_zero {α : Type} (xs : List (ByteArray × α)) (nm : ByteArray) : NoneAt xs nm 0 := fun j _ h => by omega
theorem noneAt_more {α : Type} {xs : List (ByteArray × α)} {nm : ByteArray} {k : Nat} (h : NoneAt xs nm k) (hk : k < xs.length) (hn : xs[k].1 ≠ nm) : NoneAt xs nm (k + 1) := fun j hj hlt => by
  by_cases e : j = k
  · subst e; exact hn
  · exact h j hj (by omega)
theorem atD_none {α : Type} {xs : List (ByteArray × α)} {nm : ByteArray} (h : NoneAt xs nm xs.length) : xs.find? (fun d => decide (d.1 = nm)) = none := by
  rw [List.find?_eq_none]
  intro d hd
  obtain ⟨j, hj, rfl⟩ := List.getElem_of_mem hd
  have := h j hj hj
  simpa using this
theorem atD_some {α : Type} {xs : List (ByteArray × α)} {nm : ByteArray} {k : Nat} (h : NoneAt xs nm k) (hk : k < xs.length) (hn : xs[k].1 = nm) : xs.find? (fun d => decide (d.1 = nm)) = some xs[k] := by
  rw [List.find?_eq_some_iff_getElem]
  refine ⟨by simp [hn], k, hk, rfl, fun j hj => ?_⟩
  have := h j (by omega) hj
  simpa using this
def NumAt (t : Db) (nm : ByteArray) (w : World) (e : Ending) (w' : World) : Prop := ∃ n : Int, e = .returned (.int .i64 n) ∧ AtD t nm n ∧ Below w.heap.size w w'

set_option maxRecDepth 100000 in
set_option maxHeartbeats 1600000 in
theorem l9Table_any (t : Db) (nm : ByteArray) (w : World) (cs : List Value) (h : RDb w t cs) : Calls Try.prog 58 #[.agg cs.toArray, .string nm] w (NumAt t nm w) := by
  obtain ⟨A, c, rfl, hl, _, hp⟩ := h.open
  obtain ⟨W1, hW1⟩ : ∃ W1, w.alloc (.cells #[.slice A t.length c] 51) = W1 := ⟨_, rfl⟩
  obtain ⟨H, hH⟩ : ∃ H, w.heap.size = H := ⟨_, rfl⟩
  have b0 : Box1 W1 H 51 (.slice A t.length c) := by rw [← hW1, ← hH]; exact Box1.new w _ _
  have hb1 : Below w.heap.size w W1 := by rw [← hW1]; exact (Below.refl _ _).alloc (Nat.le_refl _) _
  have HA := Lib.hid (fun (W : World) (hB : Below W1.heap.size W1 W) => b0.under hB b0.lt)
  have HB1 := Lib.hid hb1
  have HP := Lib.hid (hp.keep hb1)
  have HW1 := Lib.hid hW1
  have x0 := b0.c0
  have HI0 : Hid (∃ k : Nat, k ≤ t.length ∧ Value.int .i64 0 = .int .i64 (k : Int) ∧ NoneAt t nm k ∧ Below W1.heap.size W1 W1) := Lib.hid ⟨0, Nat.zero_le _, rfl, noneAt_zero _ _, Below.refl _ _⟩
  clear h hp hW1 b0 hb1
  go_enter Try.func58, Try.ntmps58
  go_wp2_with fail
  rw [HW1.out]
  go_wp2_with fail
  go_loopw [5] (fun i wr => ∃ k : Nat, k ≤ t.length ∧ i = .int .i64 (k : Int) ∧ NoneAt t nm k ∧ Below W1.heap.size W1 wr) (fun i _ => t.length - (intOf i).toNat)
  case atStart => exact HI0.out
  case round =>
    obtain ⟨k, hk, rfl, hno, hb⟩ := hrel
    clear x0
    have x0 := (HA.out wr hb).c0
    by_cases hlt : k < t.length
    · obtain ⟨ad, p, c0, c1, rfl, hpe, hr, q0, q1⟩ := rl_at2 kDd_n HP.out hb hlt
      obtain ⟨TB, tb, te, hcs, hs, hy⟩ := kDd_open hr
      simp only [List.cons.injEq, and_true] at hcs
      obtain ⟨rfl, rfl⟩ := hcs
      have HBW := Lib.hid (HB1.out.trans (hb.mono HB1.out.size))
      by_cases hn : t[k].1 = nm
      · have HR : Hid (NumAt t nm w (.returned (.int .i64 (k : Int))) wr) := Lib.hid ⟨(k : Int), rfl, .inr ⟨k, hlt, rfl, hn, atD_some hno hlt hn⟩, HBW.out⟩
        rw [hn] at q0
        clear hr hs hy hno hk hn
        go_wp2_with fail
        go_ret
        exact HR.out
      · have HR : Hid (∃ j : Nat, j ≤ t.length ∧ Value.int .i64 ((k : Int) + 1) = .int .i64 (j : Int) ∧ NoneAt t nm j ∧ Below W1.heap.size W1 wr) := Lib.hid ⟨k + 1, hlt, by simp, noneAt_more hno hlt hn, hb⟩
        have f1 := str_neS hn
        generalize t[k].1 = nk at q0 f1
        clear hr hs hy hno hk hn hb
        go_wp2_with fail
        go_roundw
        case rel => exact HR.out
        case measure => simp [intOf]; omega
    · have he : k = t.length := by omega
      subst he
      have HR : Hid (NumAt t nm w (.returned (.int .i64 (-1))) wr) := Lib.hid ⟨-1, rfl, .inl ⟨rfl, atD_none hno⟩, HB1.out.trans (hb.mono HB1.out.size)⟩
      clear hno hb hk
      go_wp2_with fail
      go_ret
      exact HR.out
end Go.Proofs.Ytlcpekpgkllbkaa

/-
  The model's IsSchema.
-/
namespace Go.Proofs.Ytlcpekpgkllbkaa
open Go.RowKit

/-- what the loop keeps -/
def SchInv (xs : Sc) (w : World) (v i : Value) (wr : World) : Prop :=
  ∃ k : Nat, k ≤ xs.length ∧ i = .int .i64 (k : Int) ∧ wr.ownsRow w.heap.size 9 1 v k ((namesOf (xs.take k)).map Value.string) ∧ (xs.take k).all declB = true ∧ Below w.heap.size w wr
theorem dc_bounds {t : Sc} {k : Nat} (hk : k < t.length) (hw : wSc t ≤ 1048576) : t[k].1.size ≤ 1048576 ∧ wt t[k].2 ≤ 1048576 ∧ t.length ≤ 1048576 := by
  have h := wL_le (f := wDc) hk hw
  have h1 : wDc t[k] = t[k].1.size + wt t[k].2 := rfl
  omega

set_option maxRecDepth 100000 in
set_option maxHeartbeats 3200000 in
theorem specSch_any (t : Sc) (w : World) (cs : List Value) (h : RSc w t cs) (hw : wSc t ≤ 1048576) : Calls Try.prog 10 #[.agg cs.toArray] w (Truth (schB t) w) := by
  obtain ⟨A, d, rfl, hl, _, hp⟩ := h.open
  obtain ⟨i0, hi, hz0, hz1, hz2⟩ := info_parts infoStr
  have hlen : t.length ≤ 1048576 := Nat.le_trans (len_wSc t) hw
  obtain ⟨W1, hW1⟩ : ∃ W1, w.alloc (.cells #[.slice A t.length d] 29) = W1 := ⟨_, rfl⟩
  obtain ⟨W2, hW2⟩ : ∃ W2, W1.alloc (.cells #[] 9) = W2 := ⟨_, rfl⟩
  obtain ⟨H, hH⟩ : ∃ H, w.heap.size = H := ⟨_, rfl⟩
  have hbox : Box1 W1 H 29 (.slice A t.length d) := by rw [← hW1, ← hH]; exact Box1.new w _ _
  have hb1 : Below w.heap.size w W1 := by rw [← hW1]; exact (Below.refl _ _).alloc (Nat.le_refl _) _
  have hs1 : W1.heap.size = H + 1 := by rw [← hW1, ← hH]; simp
  have hb12 : Below W1.heap.size W1 W2 := by rw [← hW2]; exact (Below.refl _ _).alloc (Nat.le_refl _) _
  have ho2 : W2.ownsRow W1.heap.size 9 1 (.slice (some ⟨H + 1, 0, none⟩) 0 0) 0 [] := by
    rw [← hW2, ← hs1]
    exact World.ownsRow_made (base := W1.heap.size) (size := 1) (e := 9) W1 #[] 0 (Nat.le_refl _) (by unfold maxLen; omega) (by simp)
  have HBOX := Lib.hid (fun (W : World) (hB : Below W1.heap.size W1 W) => hbox.under hB hbox.lt)
  have HB1 := Lib.hid hb1
  have HP := Lib.hid (hp.keep hb1)
  have HW := Lib.hid hw
  have HW1 := Lib.hid hW1
  have HW2 := Lib.hid hW2
  have HS1 := Lib.hid hs1
  have HI0 : Hid (SchInv t W1 (.slice (some ⟨H + 1, 0, none⟩) 0 0) (.int .i64 0) W2) := Lib.hid ⟨0, Nat.zero_le _, rfl, by simpa [namesOf] using ho2, by simp, hb12⟩
  have x0 := (hbox.under hb12 hbox.lt).c0
  clear h hp hl hW1 hW2 hbox hb1 hs1 hb12 ho2 hw
  go_enter Try.func10, Try.ntmps10
  go_wp2_with fail
  rw [HW1.out, HW2.out]
  go_loopw [3, 4] (fun v i wr => SchInv t W1 v i wr) (fun _ i _ => t.length - (intOf i).toNat)
  case atStart => exact HI0.out
  case round =>
    obtain ⟨k, hk, rfl, hown, hall, hb⟩ := hrel
    obtain ⟨V, lc, rfl⟩ := own_shape hown
    have HO := Lib.hid hown
    have HB := Lib.hid hb
    have HALL := Lib.hid hall
    clear x0
    have x0 := (HBOX.out wr hb).c0
    by_cases hlt : k < t.length
    · obtain ⟨ad, p, c0, c1, c2, c3, rfl, hpe, hr, q0, q1, q2, q3⟩ := rl_at4 kDc_n HP.out hb hlt
      obtain ⟨tk, TL, TA, tl, tc, ta, td, hcs, hs, hy⟩ := kDc_open hr
      obtain ⟨hn1, hn2, _⟩ := dc_bounds hlt HW.out
      injection hcs with e0 hcs
      injection hcs with e1 hcs
      injection hcs with e2 hcs
      injection hcs with e3 hcs
      subst e0 e1 e2 e3
      have HN := Lib.hid (specName_any t[k].1 wr hn1)
      have HRW := Lib.hid (fun (W : World) (hB : Below wr.heap.size wr W) => specRow_any t[k].2 W _ (kTy.keep hy hB) hn2)
      have HNO : Hid (declB t[k] = false → schB t = false) := Lib.hid (fun h => sch_no hlt h)
      have HDB : Hid (declB t[k] = (nameB t[k].1 && rowB t[k].2)) := Lib.hid rfl
      have HBW : Hid (∀ W, Below wr.heap.size wr W → Below w.heap.size w W) := Lib.hid (fun W hB => (HB1.out.trans (hb.mono HB1.out.size)).trans (hB.mono (HB1.out.trans (hb.mono HB1.out.size)).size))
      have HMORE : Hid (declB t[k] = true → ∀ (W : World) (v' i : Value), Below wr.heap.size wr W → ∀ w5 : World, w5.ownsRow W1.heap.size 9 1 v' (k + 1) ((namesOf (t.take k)).map Value.string ++ [.string t[k].1]) → (W.alloc (.cells #[.string t[k].1] 9)).grownBy w5 (Value.slice V k lc).ownBlock → i = .int .i64 ((k + 1 : Nat) : Int) → SchInv t W1 v' i w5) := Lib.hid (by
        intro hd W v' i hB w5 ho hg hi
        refine ⟨k + 1, hlt, hi, by rw [namesOf_take t k hlt]; exact ho, all_take HALL.out hlt hd, ?_⟩
        have hb5 := (HB.out.trans (hB.mono HB.out.size)).alloc (HB.out.trans (hB.mono HB.out.size)).size (.cells #[.string t[k].1] 9)
        exact hb5.grown hg hb5.size (fun q hq => (HO.out.lt q hq).1))
      generalize t[k].2 = ty at HRW HDB
      generalize declB t[k] = dB at HNO HDB HMORE
      generalize t[k].1 = nm at HN HDB HMORE q0 hn1
      clear hr hcs hs hy hn2 hown hall hb hk
      cases hnb : nameB nm
      · have HF := Lib.hid (HNO.out (by rw [HDB.out, hnb]; rfl))
        rw [hnb] at HN
        have HR : Hid (Truth (schB t) w (.returned (.bool false)) wr) := Lib.hid ⟨by rw [HF.out], HBW.out wr (Below.refl _ _)⟩
        clear hnb HRW HMORE
        go_wp2_with (go_at_call 37; refine HN.out.mono ?_; rintro e W ⟨rfl, rfl⟩)
        go_ret
        exact HR.out
      · rw [hnb] at HN
        go_wp2_with (go_at_call 37; refine HN.out.mono ?_; rintro e W ⟨rfl, rfl⟩)
        refine (HRW.out wr (Below.refl _ _)).mono ?_
        rintro e w2 ⟨rfl, hb2⟩
        have HB2 := Lib.hid hb2
        have x2 := (HBOX.out w2 (HB.out.trans (hb2.mono HB.out.size))).c0
        have q02 := (hb2.cell (World.block_lt_of_cell? _ _ q0)).trans q0
        clear hb2 x0 q0 q1 q2 q3
        cases hrb : rowB ty
        · have HF := Lib.hid (HNO.out (by rw [HDB.out, hnb, hrb]; rfl))
          have HR : Hid (Truth (schB t) w (.returned (.bool false)) w2) := Lib.hid ⟨by rw [HF.out], HBW.out w2 HB2.out⟩
          clear hnb hrb HRW HMORE
          go_wp2_with fail
          go_ret
          exact HR.out
        · have HM := Lib.hid (HMORE.out (by rw [HDB.out, hnb, hrb]; rfl) w2)
          have hsl := Lib.hid (sl_one w2 (.string nm) 9)
          have O3 := Lib.hid ((own_below HO.out HB2.out).alloc (.cells #[.string nm] 9))
          have HS3 : Hid (W1.heap.size ≤ (w2.alloc (.cells #[.string nm] 9)).heap.size) := Lib.hid (by have h1 := HB.out.size; have h2 := HB2.out.size; simp; omega)
          have HOC : Hid (∀ u ∈ [Value.string nm], u.oneCell' = true) := Lib.hid (strs_oneCell [nm])
          clear hnb hrb HRW HMORE HNO HDB HN
          go_wp2_with (at_builtin; refine wpList_append_sl _ rfl (.tmp 31) (.tmp 38) 33 rfl W1.heap.size 9 i0 _ 16 Try.underlying33 hi hz0 hz1 hz2 rfl (.slice V k lc) k ((namesOf (t.take k)).map Value.string) rfl O3.out (some ⟨w2.heap.size, 0, none⟩) 1 1 [.string nm] rfl rfl hsl.out HOC.out (by unfold maxLen; omega) (by omega) HS3.out ?_; intro v5 w5 hown5 hg5 hor5; have HMM := Lib.hid (fun i hi => HM.out v5 i HB2.out w5 hown5 hg5 hi); clear hown5 hg5 hor5)
          go_roundw
          case rel => exact HMM.out _ (by go_num)
          case measure => simp [intOf]; omega
    · have he : k = t.length := by omega
      subst he
      have hlt : Hid (∀ W, Below wr.heap.size wr W → Below w.heap.size w W) := Lib.hid (fun W hB => (HB1.out.trans (hb.mono HB1.out.size)).trans (hB.mono (HB1.out.trans (hb.mono HB1.out.size)).size))
      have HE := Lib.hid (sch_all HALL.out)
      have hsl : Sl wr V ((namesOf t).map Value.string) := by
        have := Sl.of_own HO.out
        rwa [List.take_length] at this
      have hnl : (namesOf t).length = t.length := by simp [namesOf]
      have HAS := Lib.hid (hnl ▸ specAsc_any V lc (namesOf t) wr hsl (by rw [hnl]; omega))
      have HT : Hid (∀ b (n : Nat), b = (decide (t.length ≤ 4) && ascL (namesOf t)) → Truth (schB t) w (.returned (.bool b)) (wr.drewN n)) := Lib.hid (fun b n hb' => ⟨by rw [HE.out, hb'], hlt.out _ (below_drewN (Below.refl _ _) n)⟩)
      generalize ascL (namesOf t) = asc at HAS HT
      clear hown hall hb hsl hnl hk
      by_cases h4 : (t.length : Int) ≤ 4
      · have HR := Lib.hid (fun n => HT.out asc n (by rw [decide_eq_true (by omega)]; simp))
        go_wp2_with (go_at_call 39; refine HAS.out.mono ?_; rintro e W ⟨rfl, n, rfl⟩)
        go_ret
        exact HR.out n
      · have HR := Lib.hid (HT.out false 0 (by rw [decide_eq_false (by omega)]; rfl))
        go_wp2_with fail
        go_ret
        exact HR.out
end Go.Proofs.Ytlcpekpgkllbkaa
