/-
  Merged by program: TyValid, Va.
-/
import Derived.Test.YtlikmgkjilmjpaaH8
import Derived.Test.YtlikmgkjilmjpaaH2
import Derived.Test.YtlikmgkjilmjpaaProg

/-
  The model's IsValidType, IsData.
-/
namespace Go.Proofs.Ytlikmgkjilmjpaa
open Go.RowKit

theorem RTy.three {w : World} {t : Ty} {cs : List Value} (h : RTy w t cs) : ∃ c0 c1 c2, cs = [c0, c1, c2] := by
  have hl : cs.length = 3 := Reads.len h
  match cs, hl with
  | [a, b, c], _ => exact ⟨a, b, c, rfl⟩
/-- an argument that is boxed: its box, and the world with the box in it -/
theorem boxed {w : World} {t : Ty} {cs : List Value} (h : RTy w t cs) : ∃ c0 c1 c2 W1 H, cs = [c0, c1, c2] ∧ w.heap.size = H ∧ w.alloc (.cells #[c0, c1, c2] 41) = W1 ∧ Box3 W1 H 41 c0 c1 c2 ∧ Below w.heap.size w W1 := by
  obtain ⟨c0, c1, c2, rfl⟩ := h.three
  exact ⟨c0, c1, c2, _, _, rfl, rfl, rfl, Box3.new w _ _ _ _, (Below.refl _ _).alloc (Nat.le_refl _) _⟩

def validB (t : Ty) : Bool := decide (t.size ≤ 24) && (decide (t.deep ≤ 7) && t.form)

set_option maxHeartbeats 800000 in
theorem specValid_any (t : Ty) (w : World) (cs : List Value) (h : RTy w t cs) (hw : wt t ≤ 1048576) : Calls Try.prog 67 #[.agg cs.toArray] w (Truth (validB t) w) := by
  have hz := size_wt t
  obtain ⟨c0, c1, c2, W1, H, rfl, hH, hW1, hbox, hb0⟩ := boxed h
  have HD := Lib.hid (fun W (hB : Below w.heap.size w W) => specDepth_any t W _ (h.keep hB) (by omega))
  have HF := Lib.hid (fun W (hB : Below w.heap.size w W) => l3Form_any t W _ (h.keep hB) hw)
  have HL := Lib.hid (l3Left_any t W1 _ 24 (h.keep hb0) (by omega) (by omega))
  have hdz : t.deep ≤ 1048577 := Nat.le_trans (deep_le_size t) (by omega)
  have HDZ := Lib.hid hdz
  have HW1 := Lib.hid hW1
  have B0 := Lib.hid hbox
  have HB0 := Lib.hid hb0
  have x0 := hbox.c0
  have x1 := hbox.c1
  have x2 := hbox.c2
  clear h hw hz hdz hW1 hbox hb0
  go_enter Try.func67, Try.ntmps67
  go_wp2_with fail
  rw [HW1.out]
  go_wp2_with fail
  refine HL.out.mono ?_
  rintro e w1 ⟨r, rfl, r1, r2, r3, r4, hb1⟩
  have HB1 := Lib.hid (HB0.out.trans (hb1.mono HB0.out.size))
  have B1 := Lib.hid (B0.out.under hb1 B0.out.lt)
  clear x0 x1 x2
  by_cases hr : 0 ≤ r
  · have hsz : t.size ≤ 24 := by have := r3 hr; omega
    have HV : Hid (validB t = (decide (t.deep ≤ 7) && t.form)) := Lib.hid (by unfold validB; simp [hsz])
    have HC := Lib.hid (HD.out w1 HB1.out)
    have x0 := B1.out.c0
    have x1 := B1.out.c1
    have x2 := B1.out.c2
    clear hsz hb1 r3 r4
    have hdz := HDZ.out
    obtain ⟨dp, hdp⟩ : ∃ dp, t.deep = dp := ⟨_, rfl⟩
    rw [hdp] at HV HC hdz
    clear hdp
    go_wp2_with fail
    refine HC.out.mono ?_
    rintro e w2 ⟨rfl, hb2⟩
    have HB2 := Lib.hid (HB1.out.trans (hb2.mono HB1.out.size))
    have B2 := Lib.hid (B1.out.under hb2 B1.out.lt)
    clear x0 x1 x2
    by_cases hd : dp ≤ 7
    · have HV2 : Hid (validB t = t.form) := Lib.hid (by rw [HV.out]; simp [hd])
      have HG := Lib.hid (HF.out w2 HB2.out)
      have x0 := B2.out.c0
      have x1 := B2.out.c1
      have x2 := B2.out.c2
      clear hb2
      go_wp2_with fail
      refine HG.out.mono ?_
      rintro e w3 ⟨rfl, hb3⟩
      have HR := Lib.hid (truth_iff HV2.out (HB2.out.trans (hb3.mono HB2.out.size)))
      clear hb3
      go_wp2_with fail
      go_ret
      exact HR.out
    · have HR := Lib.hid (truth_iff (a := validB t) (b := false) (by rw [HV.out]; simp [hd]) HB2.out)
      clear hb2
      go_wp2_with fail
      go_ret
      exact HR.out
  · have HR := Lib.hid (truth_iff (a := validB t) (b := false) (by unfold validB; have := r4 (by omega); simp; omega) HB1.out)
    clear hb1 r3 r4
    go_wp2_with fail
    go_ret
    exact HR.out

def dataB (t : Ty) : Bool := validB t && !(Tr.has 5 t)
end Go.Proofs.Ytlikmgkjilmjpaa

/-
  Values as trees: a kind, a number, labels, and the parts; how they lie in memory.
-/
namespace Go.Proofs.Ytlikmgkjilmjpaa
open Go.RowKit

structure VaA where
  kind : Int
  num : Int
  labels : List ByteArray
abbrev Va := Tr VaA
/-- what a value's own cells are bound by -/
def VaA.ok (a : VaA) : Prop := -9223372036854775808 ≤ a.kind ∧ a.kind ≤ 9223372036854775807 ∧ -9223372036854775808 ≤ a.num ∧ a.num ≤ 9223372036854775807 ∧ a.labels.length ≤ 9223372036854775807 ∧ ∀ x ∈ a.labels, x.size ≤ 9223372036854775807
/-- four cells that read as a value -/
inductive RVa (w : World) : Va → List Value → Prop where
  | node (a : VaA) (ks : List Va) (L A : Option Addr) (c d : Nat) (ps : Nat → List Value) (h1 : Sl w L (a.labels.map Value.string)) (h2 : a.ok) (h3 : ks.length ≤ 9223372036854775807) (h4 : ks.length ≤ d)
      (h5 : ∀ j t, ks[j]? = some t → RVa w t (ps j)) (h6 : ∀ j t, ks[j]? = some t → ∃ ad, A = some ad ∧ ∀ i u, (ps j)[i]? = some u → w.cell? (ad.add (j * 4 + i)) = some u) :
      RVa w (.node a ks) [.int .i64 a.kind, .int .i64 a.num, .slice L a.labels.length c, .slice A ks.length d]
theorem RVa.keep {w w' : World} {t : Va} {cs : List Value} (h : RVa w t cs) (hb : Below w.heap.size w w') : RVa w' t cs := by
  induction h with
  | node a ks L A c d ps h1 h2 h3 h4 _ h6 ih =>
    refine .node a ks L A c d ps (h1.below hb) h2 h3 h4 ih fun j t hj => ?_
    obtain ⟨ad, e, hc⟩ := h6 j t hj
    exact ⟨ad, e, fun i u hi => (hb.cell (World.block_lt_of_cell? w _ (hc i u hi))).trans (hc i u hi)⟩
theorem RVa.len {w : World} {t : Va} {cs : List Value} (h : RVa w t cs) : cs.length = 4 := by cases h; rfl
/-- the slice with the address A reads as a list of values -/
def RVas (w : World) (A : Option Addr) (ks : List Va) : Prop := ∃ ps : Nat → List Value, ∀ j t, ks[j]? = some t → RVa w t (ps j) ∧ ∃ ad, A = some ad ∧ ∀ i u, (ps j)[i]? = some u → w.cell? (ad.add (j * 4 + i)) = some u
theorem RVas.keep {w w' : World} {A : Option Addr} {ks : List Va} (h : RVas w A ks) (hb : Below w.heap.size w w') : RVas w' A ks := by
  obtain ⟨ps, hp⟩ := h
  refine ⟨ps, fun j t hj => ?_⟩
  obtain ⟨h1, ad, h2, h3⟩ := hp j t hj
  exact ⟨h1.keep hb, ad, h2, fun i u hi => (hb.cell (World.block_lt_of_cell? w _ (h3 i u hi))).trans (h3 i u hi)⟩
/-- the four cells written out -/
theorem RVa.out {w : World} {a : VaA} {ks : List Va} {cs : List Value} (h : RVa w (.node a ks) cs) : ∃ L c A d, cs = [.int .i64 a.kind, .int .i64 a.num, .slice L a.labels.length c, .slice A ks.length d] ∧
    Sl w L (a.labels.map Value.string) ∧ a.ok ∧ ks.length ≤ 9223372036854775807 ∧ RVas w A ks := by
  cases h with
  | node a ks L A c d ps h1 h2 h3 h4 h5 h6 => exact ⟨L, c, A, d, rfl, h1, h2, h3, ps, fun j t hj => ⟨h5 j t hj, h6 j t hj⟩⟩
theorem RVa.cap {w : World} {t : Va} {c0 c1 c2 : Value} {A : Option Addr} {n d : Nat} (h : RVa w t [c0, c1, c2, .slice A n d]) : n ≤ d := by
  generalize hcs : [c0, c1, c2, .slice A n d] = cs at h
  cases h with
  | node a ks L A' c d' ps h1 h2 h3 h4 h5 h6 =>
    simp only [List.cons.injEq, Value.slice.injEq, and_true] at hcs
    omega
/-- the same, of any tree -/
theorem RVa.open {w : World} {t : Va} {cs : List Value} (h : RVa w t cs) : ∃ L c A d, cs = [.int .i64 t.top.kind, .int .i64 t.top.num, .slice L t.top.labels.length c, .slice A t.kids.length d] ∧
    Sl w L (t.top.labels.map Value.string) ∧ t.top.ok ∧ t.kids.length ≤ 9223372036854775807 ∧ RVas w A t.kids := by
  cases t with
  | node a ks => exact h.out
theorem RVa.four {w : World} {t : Va} {cs : List Value} (h : RVa w t cs) : ∃ c0 c1 c2 c3, cs = [c0, c1, c2, c3] := by
  obtain ⟨L, c, A, d, rfl, _⟩ := h.open
  exact ⟨_, _, _, _, rfl⟩
/-- .. and put together -/
theorem RVa.make {w : World} {a : VaA} {ks : List Va} {L A : Option Addr} {c d : Nat} (h1 : Sl w L (a.labels.map Value.string)) (h2 : a.ok) (h3 : ks.length ≤ 9223372036854775807) (h4 : ks.length ≤ d) (h5 : RVas w A ks) :
    RVa w (.node a ks) [.int .i64 a.kind, .int .i64 a.num, .slice L a.labels.length c, .slice A ks.length d] := by
  obtain ⟨ps, hp⟩ := h5
  exact .node a ks L A c d ps h1 h2 h3 h4 (fun j t hj => (hp j t hj).1) (fun j t hj => (hp j t hj).2)
theorem size_nodeV (a : VaA) (ks : List Va) : (Tr.node a ks).size = 1 + (ks.map Tr.size).sum := Tr.sum_node _ a ks
theorem size_ge {α : Type} (t : Tr α) : 1 ≤ t.size := by
  cases t with
  | node a ks => unfold Tr.size; rw [Tr.sum_node]; omega

/-- the k-th value below, in a later world: its cells as the walk asks for them -/
theorem vid_at {w wr : World} {A : Option Addr} {ks : List Va} (hp : RVas w A ks) (hb : Below w.heap.size w wr) {k : Nat} (hk : k < ks.length) : ∃ (ad p : Addr) (c0 c1 c2 c3 : Value), A = some ad ∧ ad.add (k * 4) = p ∧ RVa wr ks[k] [c0, c1, c2, c3] ∧ wr.cell? p = some c0 ∧ wr.cell? ⟨p.block, p.off + 1, none⟩ = some c1 ∧ wr.cell? ⟨p.block, p.off + 2, none⟩ = some c2 ∧ wr.cell? ⟨p.block, p.off + 3, none⟩ = some c3 := by
  obtain ⟨ps, hp⟩ := hp
  obtain ⟨hr, ad, hA, hc⟩ := hp k ks[k] (List.getElem?_eq_getElem hk)
  have hl : (ps k).length = 4 := hr.len
  have hcell : ∀ i u, (ps k)[i]? = some u → wr.cell? (ad.add (k * 4 + i)) = some u := fun i u hi => (hb.cell (World.block_lt_of_cell? w _ (hc i u hi))).trans (hc i u hi)
  obtain ⟨c0, c1, c2, c3, he⟩ : ∃ c0 c1 c2 c3, ps k = [c0, c1, c2, c3] := by
    match ps k, hl with
    | [a, b, c, d], _ => exact ⟨a, b, c, d, rfl⟩
  rw [he] at hcell hr
  refine ⟨ad, _, c0, c1, c2, c3, hA, rfl, hr.keep hb, hcell 0 _ rfl, ?_, ?_, ?_⟩
  · rw [← addr_next ad (k * 4) 1 (by omega)]; exact hcell 1 _ rfl
  · rw [← addr_next ad (k * 4) 2 (by omega)]; exact hcell 2 _ rfl
  · rw [← addr_next ad (k * 4) 3 (by omega)]; exact hcell 3 _ rfl
end Go.Proofs.Ytlikmgkjilmjpaa
