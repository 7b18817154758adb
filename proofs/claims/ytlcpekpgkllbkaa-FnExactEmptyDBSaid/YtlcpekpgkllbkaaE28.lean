/-
  Merged by program: LawM.
-/
import Derived.Test.YtlcpekpgkllbkaaE19
import Derived.Test.YtlcpekpgkllbkaaE27
import Derived.Test.YtlcpekpgkllbkaaE18
import Derived.Test.YtlcpekpgkllbkaaE22
import Derived.Test.YtlcpekpgkllbkaaE7
import Derived.Test.YtlcpekpgkllbkaaE11

/-
  What the laws with marks over schemas, databases and rows of values want.
-/
namespace Go.Proofs.Ytlcpekpgkllbkaa
open Go.RowKit

theorem OSc.onlyM {w w' : World} {t : Sc} {cs : List Value} {fp gp : List Nat} (h : OSc w t cs fp) (ho : Only gp w w') (hne : ∀ b ∈ fp, b ∉ gp) : OSc w' t cs fp := (kDc.list 64).only h ho hne
theorem ODb.onlyM {w w' : World} {t : Db} {cs : List Value} {fp gp : List Nat} (h : ODb w t cs fp) (ho : Only gp w w') (hne : ∀ b ∈ fp, b ∉ gp) : ODb w' t cs fp := (kDd.list 86).only h ho hne
theorem box1_onlyM {w w' : World} {g : Nat} {t : TypeId} {a : Value} {fp : List Nat} (h : Box1 w g t a) (ho : Only fp w w') (hne : g ∉ fp) : Box1 w' g t a := (ho.block g h.lt hne).trans h
theorem only_setCell (w : World) (p : Addr) (u : Value) : Only [p.block] w (w.setCell p u) :=
  have h := (Below.refl 0 w).setCell (p := p) (Nat.zero_le _) u
  ⟨h.os, h.tape, h.output, h.size, fun b _ hb => Below.heap_setCell w p u b (by simpa using hb)⟩
theorem cnt_wtM (t : Ty) : t.cnt ≤ wt t + 1 := by
  have : t.cnt ≤ t.sum (fun a => wtA a + 1) := by
    refine Tr.ind (m := fun t => t.cnt ≤ t.sum (fun a => wtA a + 1)) (fun a ks ih => ?_) t
    rw [cnt_node, Tr.sum_node]
    have h := sum_le Tr.cnt (Tr.sum fun a => wtA a + 1) ks ih
    have h2 : cntK ks = (ks.map Tr.cnt).sum := rfl
    have h3 : wtA a = a.labels.length + total a.labels := rfl
    omega
  unfold wt
  omega
theorem cnt_wvM (t : Va) : t.cntV ≤ 2 * wv t + 2 := by
  have : t.cntV ≤ 2 * t.sum (fun a => wvA a + 1) := by
    refine Tr.ind (m := fun t => t.cntV ≤ 2 * t.sum (fun a => wvA a + 1)) (fun a ks ih => ?_) t
    rw [cntV_node, Tr.sum_node]
    have h : cntVK ks ≤ (ks.map fun t => 2 * t.sum (fun a => wvA a + 1)).sum := sum_le Tr.cntV (fun t => 2 * t.sum (fun a => wvA a + 1)) ks ih
    have h2 : (ks.map fun t => 2 * t.sum (fun a => wvA a + 1)).sum = 2 * (ks.map (Tr.sum fun a => wvA a + 1)).sum := by
      clear ih h
      induction ks with
      | nil => rfl
      | cons x xs ih => simp only [List.map_cons, List.sum_cons, ih]; omega
    have h3 : wvA a = a.labels.length + total a.labels := rfl
    omega
  unfold wv
  omega
theorem sum_wL {α : Type} {f g : α → Nat} (h : ∀ x, f x ≤ 2 * g x + 3) (xs : List α) : (xs.map f).sum ≤ 3 * wL g xs := by
  unfold wL
  induction xs with
  | nil => simp
  | cons x xs ih => have := h x; simp only [List.map_cons, List.sum_cons, List.length_cons] at *; omega
theorem cnt_wSc (t : Sc) : cntSc t ≤ 3 * wSc t := sum_wL (fun d => by have := cnt_wtM d.2; unfold cntDc wDc; omega) t
theorem cnt_wVas (ts : List Va) : cntVK ts ≤ 3 * wL wv ts := sum_wL (fun t => by have := cnt_wvM t; omega) ts
theorem sum_wL9 {α : Type} {f g : α → Nat} (h : ∀ x, f x ≤ 3 * g x + 1) (xs : List α) : (xs.map f).sum ≤ 4 * wL g xs := by
  unfold wL
  induction xs with
  | nil => simp
  | cons x xs ih => have := h x; simp only [List.map_cons, List.sum_cons, List.length_cons] at *; omega
theorem cnt_wDb (t : Db) : cntDb t ≤ 4 * wDb t := sum_wL9 (fun d => by have := cnt_wVas d.2; unfold cntDd wDd; omega) t

theorem cnt_empty (t : Sc) : cntDb (t.map fun d => (d.1, ([] : List Va))) = t.length := by
  induction t with
  | nil => rfl
  | cons d t ih =>
    show (cntDd (d.1, [])) + cntDb (t.map fun d => (d.1, ([] : List Va))) = t.length + 1
    rw [ih]
    show 1 + 0 + t.length = _
    omega

/-- a row of values of the call's own -/
def RVs (w : World) (ts : List Va) (s : Value) : Prop := (kVa.list 92).R w ts [s]
def OVl (w : World) (ts : List Va) (s : Value) (fp : List Nat) : Prop := (kVa.list 92).O w ts [s] fp
theorem OVl.reads {w : World} {ts : List Va} {s : Value} {fp : List Nat} (h : OVl w ts s fp) : RVs w ts s := (kVa.list 92).reads h
theorem OVl.under {w w' : World} {ts : List Va} {s : Value} {fp : List Nat} (h : OVl w ts s fp) (hb : Below w.heap.size w w') : OVl w' ts s fp := (kVa.list 92).under h hb
theorem OVl.onlyM {w w' : World} {ts : List Va} {s : Value} {fp gp : List Nat} (h : OVl w ts s fp) (ho : Only gp w w') (hne : ∀ b ∈ fp, b ∉ gp) : OVl w' ts s fp := (kVa.list 92).only h ho hne
theorem OVl.ol {w : World} {t : List Va} {s : Value} {fp : List Nat} : OVl w t s fp ↔ OL kVa 92 w t s fp := by
  constructor
  · rintro ⟨s', e, h⟩
    injection e with e _
    subst e
    exact h
  · intro h
    exact ⟨s, rfl, h⟩
theorem eqVs_same (ts : List Va) (w : World) (A B : Option Addr) (n m c d : Nat) (h : RVs w ts (.slice A n c)) (h' : RVs w ts (.slice B m d)) : Calls Try.prog 24 #[.slice A n c, .slice B m d] w (LawYes w) := eqVas_K ts w h h'
def MarkedVs (s : Value) (fp : List Nat) (k : Int) (w : World) (e : Ending) (w' : World) : Prop :=
  ∃ (t' : List Va) (k' : Int), e = .returned (.int .i64 k') ∧ 0 < k' ∧ k' ≤ 1000000000000 ∧ OVl w' t' s fp ∧ HeldVK k t' k' ∧ Only fp w w'
theorem markVs_any (ts : List Va) (w : World) (A : Option Addr) (n d : Nat) (fp : List Nat) (k : Int) (h : OVl w ts (.slice A n d) fp) (hk : 0 < k) (hkb : k + cntVK ts ≤ 1000000000000) : Calls Try.prog 27 #[.slice A n d, .int .i64 k] w (MarkedVs (.slice A n d) fp k w) := by
  obtain ⟨rfl, cells, fs, hl, hown, hkids, hfp, hnd⟩ := (OVl.ol.1 h).parts
  subst hfp
  refine (markVKids_any ts (fun t _ => markVTree t) w A d cells fs k hown hkids hnd hl hk hkb).mono ?_
  rintro e w' ⟨ts', cells', rfl, hlen, hheld, hown', hkids', ho⟩
  refine ⟨ts', _, rfl, by omega, hkb, OVl.ol.2 ?_, hheld, ho⟩
  rw [← hlen] at hown' hnd hl ⊢
  exact ⟨A, d, cells', fs, rfl, hl, hown', hkids', rfl, hnd⟩
theorem heldVs_any (ts : List Va) (w : World) (A : Option Addr) (n d : Nat) (k k' : Int) (h : RVs w ts (.slice A n d)) (hh : HeldVK k ts k') (hk : 0 < k) (hkb : k' ≤ 1000000000000) : Calls Try.prog 28 #[.slice A n d, .int .i64 k] w (CountsV k' w) := by
  obtain ⟨rfl, hl, _, hp⟩ := kVas_slice h
  exact heldVKids_any ts (fun t _ => heldVTree t) w A d k k' hp hh hl hk hkb
end Go.Proofs.Ytlcpekpgkllbkaa
