/-
  Merged by program: TyValid, TyRow, TySame, Texts, TySameS.
-/
import Derived.Test.YtlikmgkjilmjpaaC27
import Derived.Lib.SlicesS
import Derived.StillTailTactics

/-
  The model's IsValidType, IsData.
-/
namespace Go.Proofs.Ytlikmgkjilmjpaa
open Go.RowKit

theorem RTy.three {w : World} {t : Ty} {cs : List Value} (h : RTy w t cs) : ∃ c0 c1 c2, cs = [c0, c1, c2] := by
  have hl : cs.length = 3 := Reads.len h
  match cs, hl with
  | [a, b, c], _ => exact ⟨a, b, c, rfl⟩
/-- an argument that is boxed: its box, and the world with the box in it -/
theorem boxed {w : World} {t : Ty} {cs : List Value} (h : RTy w t cs) : ∃ c0 c1 c2 W1 H, cs = [c0, c1, c2] ∧ w.heap.size = H ∧ w.alloc (.cells #[c0, c1, c2] 41) = W1 ∧ Box3 W1 H 41 c0 c1 c2 ∧ Below w.heap.size w W1 := by
  obtain ⟨c0, c1, c2, rfl⟩ := h.three
  exact ⟨c0, c1, c2, _, _, rfl, rfl, rfl, Box3.new w _ _ _ _, (Below.refl _ _).alloc (Nat.le_refl _) _⟩

def validB (t : Ty) : Bool := decide (t.size ≤ 24) && (decide (t.deep ≤ 7) && t.form)

set_option maxHeartbeats 800000 in
theorem specValid_any (t : Ty) (w : World) (cs : List Value) (h : RTy w t cs) (hw : wt t ≤ 1048576) : Calls Try.prog 67 #[.agg cs.toArray] w (Truth (validB t) w) := by
  have hz := size_wt t
  obtain ⟨c0, c1, c2, W1, H, rfl, hH, hW1, hbox, hb0⟩ := boxed h
  have HD := Lib.hid (fun W (hB : Below w.heap.size w W) => specDepth_any t W _ (h.keep hB) (by omega))
  have HF := Lib.hid (fun W (hB : Below w.heap.size w W) => l3Form_any t W _ (h.keep hB) hw)
  have HL := Lib.hid (l3Left_any t W1 _ 24 (h.keep hb0) (by omega) (by omega))
  have hdz : t.deep ≤ 1048577 := Nat.le_trans (deep_le_size t) (by omega)
  have HDZ := Lib.hid hdz
  have HW1 := Lib.hid hW1
  have B0 := Lib.hid hbox
  have HB0 := Lib.hid hb0
  have x0 := hbox.c0
  have x1 := hbox.c1
  have x2 := hbox.c2
  clear h hw hz hdz hW1 hbox hb0
  go_enter Try.func67, Try.ntmps67
  go_wp2_with fail
  rw [HW1.out]
  go_wp2_with fail
  refine HL.out.mono ?_
  rintro e w1 ⟨r, rfl, r1, r2, r3, r4, hb1⟩
  have HB1 := Lib.hid (HB0.out.trans (hb1.mono HB0.out.size))
  have B1 := Lib.hid (B0.out.under hb1 B0.out.lt)
  clear x0 x1 x2
  by_cases hr : 0 ≤ r
  · have hsz : t.size ≤ 24 := by have := r3 hr; omega
    have HV : Hid (validB t = (decide (t.deep ≤ 7) && t.form)) := Lib.hid (by unfold validB; simp [hsz])
    have HC := Lib.hid (HD.out w1 HB1.out)
    have x0 := B1.out.c0
    have x1 := B1.out.c1
    have x2 := B1.out.c2
    clear hsz hb1 r3 r4
    have hdz := HDZ.out
    obtain ⟨dp, hdp⟩ : ∃ dp, t.deep = dp := ⟨_, rfl⟩
    rw [hdp] at HV HC hdz
    clear hdp
    go_wp2_with fail
    refine HC.out.mono ?_
    rintro e w2 ⟨rfl, hb2⟩
    have HB2 := Lib.hid (HB1.out.trans (hb2.mono HB1.out.size))
    have B2 := Lib.hid (B1.out.under hb2 B1.out.lt)
    clear x0 x1 x2
    by_cases hd : dp ≤ 7
    · have HV2 : Hid (validB t = t.form) := Lib.hid (by rw [HV.out]; simp [hd])
      have HG := Lib.hid (HF.out w2 HB2.out)
      have x0 := B2.out.c0
      have x1 := B2.out.c1
      have x2 := B2.out.c2
      clear hb2
      go_wp2_with fail
      refine HG.out.mono ?_
      rintro e w3 ⟨rfl, hb3⟩
      have HR := Lib.hid (truth_iff HV2.out (HB2.out.trans (hb3.mono HB2.out.size)))
      clear hb3
      go_wp2_with fail
      go_ret
      exact HR.out
    · have HR := Lib.hid (truth_iff (a := validB t) (b := false) (by rw [HV.out]; simp [hd]) HB2.out)
      clear hb2
      go_wp2_with fail
      go_ret
      exact HR.out
  · have HR := Lib.hid (truth_iff (a := validB t) (b := false) (by unfold validB; have := r4 (by omega); simp; omega) HB1.out)
    clear hb1 r3 r4
    go_wp2_with fail
    go_ret
    exact HR.out

def dataB (t : Ty) : Bool := validB t && !(Tr.has 5 t)
end Go.Proofs.Ytlikmgkjilmjpaa

/-
  The model's IsRow.
-/
namespace Go.Proofs.Ytlikmgkjilmjpaa
open Go.RowKit

def baseB (t : Ty) : Bool := decide (t.top.kind = 1) || decide (t.top.kind = 2)
def rowB (t : Ty) : Bool := validB t && (decide (t.top.kind = 3) && t.kids.all baseB)

end Go.Proofs.Ytlikmgkjilmjpaa

/-
  The model's EqualType: it says whether the two trees are one.
-/
namespace Go.Proofs.Ytlikmgkjilmjpaa
open Go.RowKit

/-- are the two one? -/
noncomputable def same {β : Type} (x y : β) : Bool := @decide (x = y) (Classical.propDecidable _)
theorem same_yes {β : Type} {x y : β} (h : x = y) : same x y = true := by unfold same; simp [h]
theorem same_no {β : Type} {x y : β} (h : x ≠ y) : same x y = false := by unfold same; simp [h]

def EqTo {β : Type} (xs ys : List β) (k : Nat) : Prop := ∀ j, j < k → xs[j]? = ys[j]?
theorem eqTo_zero {β : Type} (xs ys : List β) : EqTo xs ys 0 := fun j h => by omega
theorem eqTo_succ {β : Type} {xs ys : List β} {k : Nat} (h : EqTo xs ys k) (h1 : k < xs.length) (h2 : k < ys.length) (he : xs[k] = ys[k]) : EqTo xs ys (k + 1) := by
  intro j hj
  by_cases e : j = k
  · subst e
    rw [List.getElem?_eq_getElem h1, List.getElem?_eq_getElem h2, he]
  · exact h j (by omega)
theorem eqTo_all {β : Type} {xs ys : List β} (h : EqTo xs ys xs.length) (hl : xs.length = ys.length) : xs = ys := by
  apply List.ext_getElem?
  intro j
  by_cases hj : j < xs.length
  · exact h j hj
  · rw [List.getElem?_eq_none (by omega), List.getElem?_eq_none (by omega)]
theorem ne_at {β : Type} {xs ys : List β} {k : Nat} (h1 : k < xs.length) (h2 : k < ys.length) (he : xs[k] ≠ ys[k]) : xs ≠ ys := by
  rintro rfl
  exact he rfl

theorem ty_ne {a b : TyA} {ks js : List Ty} (h : a.kind ≠ b.kind ∨ a.labels ≠ b.labels ∨ ks ≠ js) : same (Tr.node a ks) (Tr.node b js) = false := by
  apply same_no
  intro e
  injection e with e1 e2
  subst e1
  subst e2
  rcases h with h | h | h <;> exact h rfl
theorem ty_eq {a b : TyA} {ks js : List Ty} (h1 : a.kind = b.kind) (h2 : a.labels = b.labels) (h3 : ks = js) : same (Tr.node a ks) (Tr.node b js) = true := by
  apply same_yes
  obtain ⟨k, l⟩ := a
  obtain ⟨k', l'⟩ := b
  simp only at h1 h2
  rw [h1, h2, h3]
theorem same_iff {β : Type} {x y : β} : same x y = true ↔ x = y := by unfold same; simp
theorem same_iff_no {β : Type} {x y : β} : same x y = false ↔ x ≠ y := by unfold same; simp

end Go.Proofs.Ytlikmgkjilmjpaa

/-
  The model's l3Texts.
-/
namespace Go.Proofs.Ytlikmgkjilmjpaa
open Go.RowKit
set_option maxHeartbeats 800000 in
set_option maxRecDepth 100000 in
theorem l3Texts_any (A B : Option Addr) (c d : Nat) (xs ys : List ByteArray) (w : World) (hA : Sl w A (xs.map Value.string)) (hB : Sl w B (ys.map Value.string)) (hn : xs.length ≤ 9223372036854775807) :
    Calls Try.prog 75 #[.slice A xs.length c, .slice B ys.length d] w (Tells (same xs ys) w) := by
  by_cases hl : xs.length = ys.length
  · have HL := Lib.hid hl
    rw [← hl]
    clear hl
    go_enter Try.func75, Try.ntmps75
    go_wp2_with fail
    go_loopw [5] (fun i wr => ∃ k : Nat, k ≤ xs.length ∧ i = .int .i64 k ∧ EqTo xs ys k ∧ ∃ n, wr = w.drewN n) (fun i _ => xs.length - (intOf i).toNat)
    case atStart => exact ⟨0, Nat.zero_le _, rfl, eqTo_zero _ _, 0, rfl⟩
    case round =>
      obtain ⟨k, hk, rfl, hno, n, rfl⟩ := hrel
      by_cases hlt : k < xs.length
      · have hlt2 : k < ys.length := by have := HL.out; omega
        obtain ⟨ad, rfl, hc⟩ := hA k (.string xs[k]) (by simp [hlt])
        obtain ⟨bd, rfl, hd⟩ := hB k (.string ys[k]) (by simp [hlt2])
        by_cases hx : xs[k] = ys[k]
        · have HN := Lib.hid (eqTo_succ hno hlt hlt2 hx)
          rw [← hx] at hd
          clear hx hno
          go_wp2
          go_quiet (fail)
          go_wp2
          go_roundw
          case rel => exact ⟨k + 1, by omega, by go_num, HN.out, _, rfl⟩
          case measure => simp [intOf]; omega
        · have HR := Lib.hid (same_no (ne_at hlt hlt2 hx))
          have hb := (Lib.bytes_beq_false_iff xs[k] ys[k]).2 hx
          clear hx hno
          go_wp2
          go_quiet (fail)
          go_wp2
          go_ret
          exact ⟨ret_bool HR.out.symm, _, World.drewN_drewN _ _ _⟩
      · have he : k = xs.length := by omega
        have HR := Lib.hid (same_yes (eqTo_all (he ▸ hno) HL.out))
        clear he hno
        go_wp2_with fail
        go_ret
        exact ⟨ret_bool HR.out.symm, n, rfl⟩
  · have HR := Lib.hid (same_no (x := xs) (y := ys) (fun e => hl (by rw [e])))
    go_enter Try.func75, Try.ntmps75
    go_wp2_with fail
    go_ret
    exact ⟨ret_bool HR.out.symm, 0, rfl⟩
end Go.Proofs.Ytlikmgkjilmjpaa

/-
  The model's EqualType.
-/
namespace Go.Proofs.Ytlikmgkjilmjpaa
open Go.RowKit
end Go.Proofs.Ytlikmgkjilmjpaa
