/-
  Merged by program: LawM, TyHas.
-/
import Derived.Test.YtlcpekpgkllbkaaT14
import Derived.Test.YtlcpekpgkllbkaaT21
import Derived.Test.YtlcpekpgkllbkaaT13
import Derived.Test.YtlcpekpgkllbkaaT17
import Derived.Test.YtlcpekpgkllbkaaT4
import Derived.Test.YtlcpekpgkllbkaaT7
import Derived.Test.YtlcpekpgkllbkaaT10

/-
  What the laws with marks over schemas, databases and rows of values want.
-/
namespace Go.Proofs.Ytlcpekpgkllbkaa
open Go.RowKit

theorem OSc.onlyM {w w' : World} {t : Sc} {cs : List Value} {fp gp : List Nat} (h : OSc w t cs fp) (ho : Only gp w w') (hne : ∀ b ∈ fp, b ∉ gp) : OSc w' t cs fp := (kDc.list 64).only h ho hne
theorem ODb.onlyM {w w' : World} {t : Db} {cs : List Value} {fp gp : List Nat} (h : ODb w t cs fp) (ho : Only gp w w') (hne : ∀ b ∈ fp, b ∉ gp) : ODb w' t cs fp := (kDd.list 86).only h ho hne
theorem box1_onlyM {w w' : World} {g : Nat} {t : TypeId} {a : Value} {fp : List Nat} (h : Box1 w g t a) (ho : Only fp w w') (hne : g ∉ fp) : Box1 w' g t a := (ho.block g h.lt hne).trans h
theorem only_setCell (w : World) (p : Addr) (u : Value) : Only [p.block] w (w.setCell p u) :=
  have h := (Below.refl 0 w).setCell (p := p) (Nat.zero_le _) u
  ⟨h.os, h.tape, h.output, h.size, fun b _ hb => Below.heap_setCell w p u b (by simpa using hb)⟩
theorem cnt_wtM (t : Ty) : t.cnt ≤ wt t + 1 := by
  have : t.cnt ≤ t.sum (fun a => wtA a + 1) := by
    refine Tr.ind (m := fun t => t.cnt ≤ t.sum (fun a => wtA a + 1)) (fun a ks ih => ?_) t
    rw [cnt_node, Tr.sum_node]
    have h := sum_le Tr.cnt (Tr.sum fun a => wtA a + 1) ks ih
    have h2 : cntK ks = (ks.map Tr.cnt).sum := rfl
    have h3 : wtA a = a.labels.length + total a.labels := rfl
    omega
  unfold wt
  omega
theorem cnt_wvM (t : Va) : t.cntV ≤ 2 * wv t + 2 := by
  have : t.cntV ≤ 2 * t.sum (fun a => wvA a + 1) := by
    refine Tr.ind (m := fun t => t.cntV ≤ 2 * t.sum (fun a => wvA a + 1)) (fun a ks ih => ?_) t
    rw [cntV_node, Tr.sum_node]
    have h : cntVK ks ≤ (ks.map fun t => 2 * t.sum (fun a => wvA a + 1)).sum := sum_le Tr.cntV (fun t => 2 * t.sum (fun a => wvA a + 1)) ks ih
    have h2 : (ks.map fun t => 2 * t.sum (fun a => wvA a + 1)).sum = 2 * (ks.map (Tr.sum fun a => wvA a + 1)).sum := by
      clear ih h
      induction ks with
      | nil => rfl
      | cons x xs ih => simp only [List.map_cons, List.sum_cons, ih]; omega
    have h3 : wvA a = a.labels.length + total a.labels := rfl
    omega
  unfold wv
  omega
theorem sum_wL {α : Type} {f g : α → Nat} (h : ∀ x, f x ≤ 2 * g x + 3) (xs : List α) : (xs.map f).sum ≤ 3 * wL g xs := by
  unfold wL
  induction xs with
  | nil => simp
  | cons x xs ih => have := h x; simp only [List.map_cons, List.sum_cons, List.length_cons] at *; omega
theorem cnt_wSc (t : Sc) : cntSc t ≤ 3 * wSc t := sum_wL (fun d => by have := cnt_wtM d.2; unfold cntDc wDc; omega) t
theorem cnt_wVas (ts : List Va) : cntVK ts ≤ 3 * wL wv ts := sum_wL (fun t => by have := cnt_wvM t; omega) ts
theorem sum_wL9 {α : Type} {f g : α → Nat} (h : ∀ x, f x ≤ 3 * g x + 1) (xs : List α) : (xs.map f).sum ≤ 4 * wL g xs := by
  unfold wL
  induction xs with
  | nil => simp
  | cons x xs ih => have := h x; simp only [List.map_cons, List.sum_cons, List.length_cons] at *; omega
theorem cnt_wDb (t : Db) : cntDb t ≤ 4 * wDb t := sum_wL9 (fun d => by have := cnt_wVas d.2; unfold cntDd wDd; omega) t

theorem cnt_empty (t : Sc) : cntDb (t.map fun d => (d.1, ([] : List Va))) = t.length := by
  induction t with
  | nil => rfl
  | cons d t ih =>
    show (cntDd (d.1, [])) + cntDb (t.map fun d => (d.1, ([] : List Va))) = t.length + 1
    rw [ih]
    show 1 + 0 + t.length = _
    omega

/-- a row of values of the call's own -/
def RVs (w : World) (ts : List Va) (s : Value) : Prop := (kVa.list 92).R w ts [s]
def OVl (w : World) (ts : List Va) (s : Value) (fp : List Nat) : Prop := (kVa.list 92).O w ts [s] fp
theorem OVl.reads {w : World} {ts : List Va} {s : Value} {fp : List Nat} (h : OVl w ts s fp) : RVs w ts s := (kVa.list 92).reads h
theorem OVl.under {w w' : World} {ts : List Va} {s : Value} {fp : List Nat} (h : OVl w ts s fp) (hb : Below w.heap.size w w') : OVl w' ts s fp := (kVa.list 92).under h hb
theorem OVl.onlyM {w w' : World} {ts : List Va} {s : Value} {fp gp : List Nat} (h : OVl w ts s fp) (ho : Only gp w w') (hne : ∀ b ∈ fp, b ∉ gp) : OVl w' ts s fp := (kVa.list 92).only h ho hne
theorem OVl.ol {w : World} {t : List Va} {s : Value} {fp : List Nat} : OVl w t s fp ↔ OL kVa 92 w t s fp := by
  constructor
  · rintro ⟨s', e, h⟩
    injection e with e _
    subst e
    exact h
  · intro h
    exact ⟨s, rfl, h⟩
theorem eqVs_same (ts : List Va) (w : World) (A B : Option Addr) (n m c d : Nat) (h : RVs w ts (.slice A n c)) (h' : RVs w ts (.slice B m d)) : Calls Try.prog 24 #[.slice A n c, .slice B m d] w (LawYes w) := eqVas_K ts w h h'
def MarkedVs (s : Value) (fp : List Nat) (k : Int) (w : World) (e : Ending) (w' : World) : Prop :=
  ∃ (t' : List Va) (k' : Int), e = .returned (.int .i64 k') ∧ 0 < k' ∧ k' ≤ 1000000000000 ∧ OVl w' t' s fp ∧ HeldVK k t' k' ∧ Only fp w w'
theorem markVs_any (ts : List Va) (w : World) (A : Option Addr) (n d : Nat) (fp : List Nat) (k : Int) (h : OVl w ts (.slice A n d) fp) (hk : 0 < k) (hkb : k + cntVK ts ≤ 1000000000000) : Calls Try.prog 27 #[.slice A n d, .int .i64 k] w (MarkedVs (.slice A n d) fp k w) := by
  obtain ⟨rfl, cells, fs, hl, hown, hkids, hfp, hnd⟩ := (OVl.ol.1 h).parts
  subst hfp
  refine (markVKids_any ts (fun t _ => markVTree t) w A d cells fs k hown hkids hnd hl hk hkb).mono ?_
  rintro e w' ⟨ts', cells', rfl, hlen, hheld, hown', hkids', ho⟩
  refine ⟨ts', _, rfl, by omega, hkb, OVl.ol.2 ?_, hheld, ho⟩
  rw [← hlen] at hown' hnd hl ⊢
  exact ⟨A, d, cells', fs, rfl, hl, hown', hkids', rfl, hnd⟩
theorem heldVs_any (ts : List Va) (w : World) (A : Option Addr) (n d : Nat) (k k' : Int) (h : RVs w ts (.slice A n d)) (hh : HeldVK k ts k') (hk : 0 < k) (hkb : k' ≤ 1000000000000) : Calls Try.prog 28 #[.slice A n d, .int .i64 k] w (CountsV k' w) := by
  obtain ⟨rfl, hl, _, hp⟩ := kVas_slice h
  exact heldVKids_any ts (fun t _ => heldVTree t) w A d k k' hp hh hl hk hkb
end Go.Proofs.Ytlcpekpgkllbkaa

/-
  The model's search for a kind in a type (l3Has), and its count down by nodes (l3Left).
-/
namespace Go.Proofs.Ytlcpekpgkllbkaa
open Go.RowKit

/-- an answer that is true or false; all that was there is as it was -/
def Truth (b : Bool) (w : World) (e : Ending) (w' : World) : Prop := e = .returned (.bool b) ∧ Below w.heap.size w w'

/-- does a kind occur? -/
def Tr.has (q : Int) : Ty → Bool
  | .node a ks => (ks.attach.any fun ⟨t, _⟩ => t.has q) || decide (a.kind = q)
theorem has_node (q : Int) (a : TyA) (ks : List Ty) : Tr.has q (.node a ks) = (ks.any (Tr.has q) || decide (a.kind = q)) := by
  rw [Tr.has]
  congr 1
  rw [Bool.eq_iff_iff, List.any_eq_true, List.any_eq_true]
  constructor
  · rintro ⟨⟨t, ht⟩, _, h⟩; exact ⟨t, ht, h⟩
  · rintro ⟨t, ht, h⟩; exact ⟨⟨t, ht⟩, List.mem_attach _ _, h⟩
/-- none of the first k answers yes -/
def NoTo {β : Type} (f : β → Bool) (ks : List β) (k : Nat) : Prop := ∀ j (h : j < ks.length), j < k → f ks[j] = false
theorem noTo_zero {β : Type} (f : β → Bool) (ks : List β) : NoTo f ks 0 := fun j _ h => by omega
theorem noTo_succ {β : Type} {f : β → Bool} {ks : List β} {k : Nat} (h : NoTo f ks k) (hk : k < ks.length) (hf : f ks[k] = false) : NoTo f ks (k + 1) := by
  intro j hj hlt
  by_cases e : j = k
  · subst e; exact hf
  · exact h j hj (by omega)
theorem noTo_all {β : Type} {f : β → Bool} {ks : List β} (h : NoTo f ks ks.length) : ks.any f = false := by
  rw [Bool.eq_false_iff, Ne, List.any_eq_true]
  rintro ⟨t, ht, hf⟩
  obtain ⟨j, hj, rfl⟩ := List.getElem_of_mem ht
  rw [h j hj hj] at hf
  cases hf
theorem any_at {β : Type} {f : β → Bool} {ks : List β} {k : Nat} (hk : k < ks.length) (hf : f ks[k] = true) : ks.any f = true := List.any_eq_true.2 ⟨_, List.getElem_mem hk, hf⟩

set_option maxHeartbeats 800000 in
theorem l3Has_any (q : Int) : ∀ (t : Ty) (w : World) (cs : List Value), RTy w t cs → Calls Try.prog 124 #[.agg cs.toArray, .int .i64 q] w (Truth (t.has q) w) := by
  refine Tr.ind ?_
  intro a ks ih w cs h
  obtain ⟨L, c, A, d, rfl, k1, k2, k3, k4, k5, k6, hp⟩ := h.out
  rw [has_node]
  obtain ⟨W1, hW1⟩ : ∃ W1, w.alloc (.cells #[.int .i64 a.kind, .slice L a.labels.length c, .slice A ks.length d] 36) = W1 := ⟨_, rfl⟩
  have hb0 : Below w.heap.size w W1 := by rw [← hW1]; exact (Below.refl _ _).alloc (Nat.le_refl _) _
  obtain ⟨H, hH⟩ : ∃ H, w.heap.size = H := ⟨_, rfl⟩
  have b0 : Box3 W1 H 36 (.int .i64 a.kind) (.slice L a.labels.length c) (.slice A ks.length d) := by rw [← hW1, ← hH]; exact Box3.new w _ _ _ _
  have HP := Lib.hid hp
  have HI := Lib.hid ih
  have HB0 := Lib.hid hb0
  have B0 := Lib.hid b0
  have HW1 := Lib.hid hW1
  clear hp ih hb0 b0 hW1 k1 k4 k5 h
  go_enter Try.func124, Try.ntmps124
  go_wp2_with fail
  rw [HW1.out]
  go_loopw [5] (fun i wr => ∃ k : Nat, k ≤ ks.length ∧ i = .int .i64 k ∧ NoTo (Tr.has q) ks k ∧ Below W1.heap.size W1 wr) (fun i _ => ks.length - (intOf i).toNat)
  case atStart => exact ⟨0, Nat.zero_le _, rfl, noTo_zero _ _, Below.refl _ _⟩
  case round =>
    obtain ⟨k, hk, rfl, hno, hb⟩ := hrel
    have hbw := HB0.out.trans (hb.mono HB0.out.size)
    have bk := B0.out.under hb B0.out.lt
    have hbx := bk.c2
    by_cases hlt : k < ks.length
    · obtain ⟨ad, p, c0, c1, c2, rfl, hpe, hr, q0, q1, q2⟩ := kid_at HP.out hbw hlt
      have hc := HI.out ks[k] (List.getElem_mem hlt) wr [c0, c1, c2] hr
      have HC := Lib.hid hc
      have HN := Lib.hid hno
      have HBW := Lib.hid hbw
      clear hc hr hno bk
      go_wp2_with fail
      refine HC.out.mono ?_
      rintro e w2 ⟨rfl, hb2⟩
      have hb3 := hb.trans (hb2.mono hb.size)
      have HB4 := Lib.hid (HBW.out.trans (hb2.mono HBW.out.size))
      by_cases hf : Tr.has q ks[k] = true
      · have hR : Truth (ks.any (Tr.has q) || decide (a.kind = q)) w (.returned (.bool true)) w2 := ⟨by rw [any_at hlt hf]; rfl, HB4.out⟩
        have HR := Lib.hid hR
        rw [hf]
        clear hR hf
        go_wp2_with fail
        go_ret
        exact HR.out
      · have hf' : Tr.has q ks[k] = false := by simpa using hf
        have HN2 := Lib.hid (noTo_succ HN.out hlt hf')
        rw [hf']
        clear hf hf'
        go_wp2_with fail
        go_roundw
        case rel => exact ⟨k + 1, hlt, by go_num, HN2.out, hb3⟩
        case measure => simp [intOf]; omega
    · have he : k = ks.length := by omega
      have HR : Hid (Truth (ks.any (Tr.has q) || decide (a.kind = q)) w (.returned (.bool (decide (a.kind = q)))) wr) := by
        rw [noTo_all (he ▸ hno), Bool.false_or]
        exact ⟨rfl, hbw⟩
      have hbx0 := bk.c0
      clear he hno bk
      go_wp2_with fail
      go_ret
      exact HR.out

/-- what is left of a number of nodes, -1: there were more -/
def Left (n : Nat) (left : Int) (w : World) (e : Ending) (w' : World) : Prop := ∃ r : Int, e = .returned (.int .i64 r) ∧ -1 ≤ r ∧ r ≤ left ∧ (0 ≤ r → r + n = left) ∧ (r < 0 → left < n) ∧ Below w.heap.size w w'

set_option maxHeartbeats 800000 in
theorem l3Left_any : ∀ (t : Ty) (w : World) (cs : List Value) (left : Int), RTy w t cs → 0 ≤ left → left ≤ 1048577 → Calls Try.prog 99 #[.agg cs.toArray, .int .i64 left] w (Left t.size left w) := by
  refine Tr.ind ?_
  intro a ks ih w cs left h hl0 hl1
  obtain ⟨L, c, A, d, rfl, k1, k2, k3, k4, k5, k6, hp⟩ := h.out
  rw [size_node]
  obtain ⟨W1, hW1⟩ : ∃ W1, w.alloc (.cells #[.int .i64 a.kind, .slice L a.labels.length c, .slice A ks.length d] 36) = W1 := ⟨_, rfl⟩
  have hb0 : Below w.heap.size w W1 := by rw [← hW1]; exact (Below.refl _ _).alloc (Nat.le_refl _) _
  obtain ⟨H, hH⟩ : ∃ H, w.heap.size = H := ⟨_, rfl⟩
  have b0 : Box3 W1 H 36 (.int .i64 a.kind) (.slice L a.labels.length c) (.slice A ks.length d) := by rw [← hW1, ← hH]; exact Box3.new w _ _ _ _
  have HP := Lib.hid hp
  have HI := Lib.hid ih
  have HB0 := Lib.hid hb0
  have B0 := Lib.hid b0
  have HW1 := Lib.hid hW1
  clear hp ih hb0 b0 hW1 k1 k4 k5 h
  go_enter Try.func99, Try.ntmps99
  go_wp2_with fail
  rw [HW1.out]
  go_loopw [1, 5] (fun l i wr => ∃ (k : Nat) (r : Int), k ≤ ks.length ∧ i = .int .i64 k ∧ l = .int .i64 r ∧ -1 ≤ r ∧ r < left ∧ (0 ≤ r → r + 1 + ((ks.take k).map Tr.size).sum = left) ∧ (r < 0 → left < 1 + (((ks.take k).map Tr.size).sum : Nat)) ∧ Below W1.heap.size W1 wr) (fun _ i _ => ks.length - (intOf i).toNat)
  case atStart => exact ⟨0, _, Nat.zero_le _, rfl, rfl, by omega, by omega, by intro _; simp, by intro _; simp; omega, Below.refl _ _⟩
  case round =>
    obtain ⟨k, r, hk, rfl, rfl, hr1, hr2, hr3, hr4, hb⟩ := hrel
    have hbw := HB0.out.trans (hb.mono HB0.out.size)
    have bk := B0.out.under hb B0.out.lt
    have hbx := bk.c2
    by_cases hlt : k < ks.length
    · by_cases hr0 : 0 ≤ r
      · obtain ⟨ad, p, c0, c1, c2, rfl, hpe, hr, q0, q1, q2⟩ := kid_at HP.out hbw hlt
        have hc := HI.out ks[k] (List.getElem_mem hlt) wr [c0, c1, c2] r hr hr0 (by omega)
        have hst := sum_take_succ Tr.size ks k hlt
        have HC := Lib.hid hc
        have HST := Lib.hid hst
        have HR3 := Lib.hid (hr3 hr0)
        clear hc hr hst bk hr3 hr4
        go_wp2_with fail
        refine HC.out.mono ?_
        rintro e w2 ⟨r2, rfl, hq1, hq2, hq3, hq4, hb2⟩
        have hb3 := hb.trans (hb2.mono hb.size)
        have h3 := HR3.out
        have h4 := HST.out
        have HQ3 : Hid (0 ≤ r2 → r2 + 1 + ((ks.take (k + 1)).map Tr.size).sum = left) := fun h => by have := hq3 h; omega
        have HQ4 : Hid (r2 < 0 → left < 1 + (((ks.take (k + 1)).map Tr.size).sum : Nat)) := fun h => by have := hq4 h; omega
        clear hq3 hq4 h3 h4
        go_wp2_with fail
        go_roundw
        case rel => exact ⟨k + 1, r2, hlt, by go_num, rfl, hq1, by omega, HQ3.out, HQ4.out, hb3⟩
        case measure => simp [intOf]; omega
      · have hle := sum_take_le Tr.size ks k
        have HR : Hid (Left (1 + (ks.map Tr.size).sum) left w (.returned (.int .i64 r)) wr) := ⟨r, rfl, hr1, by omega, fun h => absurd h hr0, fun h => by have := hr4 h; omega, hbw⟩
        clear bk hr3 hr4 hle
        go_wp2_with fail
        go_ret
        exact HR.out
    · have he : k = ks.length := by omega
      have HR : Hid (Left (1 + (ks.map Tr.size).sum) left w (.returned (.int .i64 r)) wr) := by
        rw [he, List.take_length] at hr3 hr4
        exact ⟨r, rfl, hr1, by omega, fun h => by have := hr3 h; omega, fun h => by have := hr4 h; omega, hbw⟩
      clear he bk hr3 hr4
      go_wp2_with fail
      go_ret
      exact HR.out
end Go.Proofs.Ytlcpekpgkllbkaa
