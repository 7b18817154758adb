/-
  Merged by program: TyValid, TyRow, TySame, Texts, TySameS, SchD, Uniq, AscL, CmpD.
-/
import Derived.Test.YtlikmgkjilmjpaaGreatI17
import Derived.Lib.SlicesS
import Derived.StillTailTactics
import Derived.Test.YtlikmgkjilmjpaaGreatI6
import Derived.Test.YtlikmgkjilmjpaaGreatI11
import Derived.Test.YtlikmgkjilmjpaaGreatI1
import Derived.Sort.EncStr
import Derived.Test.YtlikmgkjilmjpaaGreatI5

/-
  The model's IsValidType, IsData.
-/
namespace Go.Proofs.YtlikmgkjilmjpaaGreat
open Go.RowKit

theorem RTy.three {w : World} {t : Ty} {cs : List Value} (h : RTy w t cs) : ∃ c0 c1 c2, cs = [c0, c1, c2] := by
  have hl : cs.length = 3 := Reads.len h
  match cs, hl with
  | [a, b, c], _ => exact ⟨a, b, c, rfl⟩
/-- an argument that is boxed: its box, and the world with the box in it -/
theorem boxed {w : World} {t : Ty} {cs : List Value} (h : RTy w t cs) : ∃ c0 c1 c2 W1 H, cs = [c0, c1, c2] ∧ w.heap.size = H ∧ w.alloc (.cells #[c0, c1, c2] 96) = W1 ∧ Box3 W1 H 96 c0 c1 c2 ∧ Below w.heap.size w W1 := by
  obtain ⟨c0, c1, c2, rfl⟩ := h.three
  exact ⟨c0, c1, c2, _, _, rfl, rfl, rfl, Box3.new w _ _ _ _, (Below.refl _ _).alloc (Nat.le_refl _) _⟩

def validB (t : Ty) : Bool := decide (t.size ≤ 24) && (decide (t.deep ≤ 7) && t.form)

set_option maxHeartbeats 800000 in
theorem specValid_any (t : Ty) (w : World) (cs : List Value) (h : RTy w t cs) (hw : wt t ≤ 1048576) : Calls Tryz.prog 82 #[.agg cs.toArray] w (Truth (validB t) w) := by
  have hz := size_wt t
  obtain ⟨c0, c1, c2, W1, H, rfl, hH, hW1, hbox, hb0⟩ := boxed h
  have HD := Lib.hid (fun W (hB : Below w.heap.size w W) => specDepth_any t W _ (h.keep hB) (by omega))
  have HF := Lib.hid (fun W (hB : Below w.heap.size w W) => l3Form_any t W _ (h.keep hB) hw)
  have HL := Lib.hid (l3Left_any t W1 _ 24 (h.keep hb0) (by omega) (by omega))
  have hdz : t.deep ≤ 1048577 := Nat.le_trans (deep_le_size t) (by omega)
  have HDZ := Lib.hid hdz
  have HW1 := Lib.hid hW1
  have B0 := Lib.hid hbox
  have HB0 := Lib.hid hb0
  have x0 := hbox.c0
  have x1 := hbox.c1
  have x2 := hbox.c2
  clear h hw hz hdz hW1 hbox hb0
  go_enter Tryz.func82, Tryz.ntmps82
  go_wp2_with fail
  rw [HW1.out]
  go_wp2_with fail
  refine HL.out.mono ?_
  rintro e w1 ⟨r, rfl, r1, r2, r3, r4, hb1⟩
  have HB1 := Lib.hid (HB0.out.trans (hb1.mono HB0.out.size))
  have B1 := Lib.hid (B0.out.under hb1 B0.out.lt)
  clear x0 x1 x2
  by_cases hr : 0 ≤ r
  · have hsz : t.size ≤ 24 := by have := r3 hr; omega
    have HV : Hid (validB t = (decide (t.deep ≤ 7) && t.form)) := Lib.hid (by unfold validB; simp [hsz])
    have HC := Lib.hid (HD.out w1 HB1.out)
    have x0 := B1.out.c0
    have x1 := B1.out.c1
    have x2 := B1.out.c2
    clear hsz hb1 r3 r4
    have hdz := HDZ.out
    obtain ⟨dp, hdp⟩ : ∃ dp, t.deep = dp := ⟨_, rfl⟩
    rw [hdp] at HV HC hdz
    clear hdp
    go_wp2_with fail
    refine HC.out.mono ?_
    rintro e w2 ⟨rfl, hb2⟩
    have HB2 := Lib.hid (HB1.out.trans (hb2.mono HB1.out.size))
    have B2 := Lib.hid (B1.out.under hb2 B1.out.lt)
    clear x0 x1 x2
    by_cases hd : dp ≤ 7
    · have HV2 : Hid (validB t = t.form) := Lib.hid (by rw [HV.out]; simp [hd])
      have HG := Lib.hid (HF.out w2 HB2.out)
      have x0 := B2.out.c0
      have x1 := B2.out.c1
      have x2 := B2.out.c2
      clear hb2
      go_wp2_with fail
      refine HG.out.mono ?_
      rintro e w3 ⟨rfl, hb3⟩
      have HR := Lib.hid (truth_iff HV2.out (HB2.out.trans (hb3.mono HB2.out.size)))
      clear hb3
      go_wp2_with fail
      go_ret
      exact HR.out
    · have HR := Lib.hid (truth_iff (a := validB t) (b := false) (by rw [HV.out]; simp [hd]) HB2.out)
      clear hb2
      go_wp2_with fail
      go_ret
      exact HR.out
  · have HR := Lib.hid (truth_iff (a := validB t) (b := false) (by unfold validB; have := r4 (by omega); simp; omega) HB1.out)
    clear hb1 r3 r4
    go_wp2_with fail
    go_ret
    exact HR.out

def dataB (t : Ty) : Bool := validB t && !(Tr.has 5 t)
end Go.Proofs.YtlikmgkjilmjpaaGreat

/-
  The model's IsRow.
-/
namespace Go.Proofs.YtlikmgkjilmjpaaGreat
open Go.RowKit

def baseB (t : Ty) : Bool := decide (t.top.kind = 1) || decide (t.top.kind = 2)
def rowB (t : Ty) : Bool := validB t && (decide (t.top.kind = 3) && t.kids.all baseB)

theorem l3Base_any (t : Ty) (w : World) (cs : List Value) (h : RTy w t cs) : Calls Tryz.prog 83 #[.agg cs.toArray] w (Truth (baseB t) w) := by
  obtain ⟨a, ks⟩ := t
  obtain ⟨L, c, A, d, rfl, k1, k2, k3, k4, k5, k6, hp⟩ := h.out
  clear h hp k1 k5
  have hR : ∀ (b : Bool) (cs : Array Value), (decide (a.kind = 1) || decide (a.kind = 2)) = b → Truth (baseB (.node a ks)) w (.returned (.bool b)) (w.alloc (.cells cs 96)) := fun b _ hb => truth_iff hb ((Below.refl _ _).alloc (Nat.le_refl _) _)
  have HR := Lib.hid hR
  clear hR
  go_enter Tryz.func83, Tryz.ntmps83
  have HR1 := Lib.hid (fun cs => HR.out (a.kind == 1 || a.kind == 2) cs rfl)
  clear HR
  by_cases h1 : a.kind = 1
  · have h1b : (a.kind == 1) = true := by simp [h1]
    rw [h1b] at HR1
    clear h1b
    go_wp2_with fail
    go_ret
    exact HR1.out _
  · go_wp2_with fail
    go_ret
    exact HR1.out _

set_option maxHeartbeats 800000 in
theorem specRow_any (t : Ty) (w : World) (cs : List Value) (h : RTy w t cs) (hw : wt t ≤ 1048576) : Calls Tryz.prog 68 #[.agg cs.toArray] w (Truth (rowB t) w) := by
  obtain ⟨a, ks⟩ := t
  obtain ⟨L, c, A, d, rfl, k1, k2, k3, k4, k5, k6, hp⟩ := h.out
  obtain ⟨W1, hW1⟩ : ∃ W1, w.alloc (.cells #[.int .i64 a.kind, .slice L a.labels.length c, .slice A ks.length d] 96) = W1 := ⟨_, rfl⟩
  have hb0 : Below w.heap.size w W1 := by rw [← hW1]; exact (Below.refl _ _).alloc (Nat.le_refl _) _
  obtain ⟨H, hH⟩ : ∃ H, w.heap.size = H := ⟨_, rfl⟩
  have b0 : Box3 W1 H 96 (.int .i64 a.kind) (.slice L a.labels.length c) (.slice A ks.length d) := by rw [← hW1, ← hH]; exact Box3.new w _ _ _ _
  have HV := Lib.hid (specValid_any (.node a ks) W1 _ (h.keep hb0) hw)
  have HW1 := Lib.hid hW1
  have HP := Lib.hid hp
  have B0 := Lib.hid b0
  have HB0 := Lib.hid hb0
  have x0 := b0.c0
  have x1 := b0.c1
  have x2 := b0.c2
  clear h hw hW1 b0 hb0 hp k1 k5
  go_enter Tryz.func68, Tryz.ntmps68
  go_wp2_with fail
  rw [HW1.out]
  go_wp2_with fail
  refine HV.out.mono ?_
  rintro e w1 ⟨rfl, hb1⟩
  have HB1 := Lib.hid (HB0.out.trans (hb1.mono HB0.out.size))
  have b1 := B0.out.under hb1 B0.out.lt
  have B1 := Lib.hid b1
  clear hb1 x0 x1 x2
  have x0 := b1.c0
  clear b1
  cases hv : validB (.node a ks)
  · have HR := Lib.hid (truth_iff (a := rowB (.node a ks)) (b := false) (by unfold rowB; rw [hv]; rfl) HB1.out)
    clear hv
    go_wp2_with fail
    go_ret
    exact HR.out
  · by_cases h3 : a.kind = 3
    · have HE : Hid (rowB (.node a ks) = ks.all baseB) := Lib.hid (by unfold rowB; rw [hv]; simp [Tr.top, Tr.kids, h3])
      clear hv
      go_wp2_with fail
      go_loopw [3] (fun i wr => ∃ k : Nat, k ≤ ks.length ∧ i = .int .i64 k ∧ AllTo baseB ks k ∧ Below w1.heap.size w1 wr) (fun i _ => ks.length - (intOf i).toNat)
      case atStart => exact ⟨0, Nat.zero_le _, rfl, allTo_zero _ _, Below.refl _ _⟩
      case round =>
        obtain ⟨k, hk, rfl, hno, hb⟩ := hrel
        have hbw := HB1.out.trans (hb.mono HB1.out.size)
        have bk := B1.out.under hb B1.out.lt
        have hbx := bk.c2
        clear bk
        by_cases hlt : k < ks.length
        · obtain ⟨ad, p, c0, c1, c2, rfl, hpe, hr, q0, q1, q2⟩ := kid_at HP.out hbw hlt
          have HC := Lib.hid (l3Base_any ks[k] wr [c0, c1, c2] hr)
          have HN := Lib.hid hno
          have HBW := Lib.hid hbw
          clear hr hno
          go_wp2_with fail
          refine HC.out.mono ?_
          rintro e w2 ⟨rfl, hb2⟩
          have hb3 := hb.trans (hb2.mono hb.size)
          have HB4 := Lib.hid (HBW.out.trans (hb2.mono HBW.out.size))
          cases hf : baseB ks[k]
          · have HR := Lib.hid (truth_iff (a := rowB (.node a ks)) (b := false) (by rw [HE.out, all_not hlt hf]) HB4.out)
            clear hf
            go_wp2_with fail
            go_ret
            exact HR.out
          · have HN2 := Lib.hid (allTo_succ HN.out hlt hf)
            clear hf
            go_wp2_with fail
            go_roundw
            case rel => exact ⟨k + 1, hlt, by go_num, HN2.out, hb3⟩
            case measure => simp [intOf]; omega
        · have he : k = ks.length := by omega
          have HR := Lib.hid (truth_iff (a := rowB (.node a ks)) (b := true) (by rw [HE.out]; exact allTo_all (he ▸ hno)) hbw)
          clear he hno
          go_wp2_with fail
          go_ret
          exact HR.out
    · have HR := Lib.hid (truth_iff (a := rowB (.node a ks)) (b := false) (by unfold rowB; simp [Tr.top, h3]) HB1.out)
      clear hv
      go_wp2_with fail
      go_ret
      exact HR.out
end Go.Proofs.YtlikmgkjilmjpaaGreat

/-
  The model's EqualType: it says whether the two trees are one.
-/
namespace Go.Proofs.YtlikmgkjilmjpaaGreat
open Go.RowKit

/-- are the two one? -/
noncomputable def same {β : Type} (x y : β) : Bool := @decide (x = y) (Classical.propDecidable _)
theorem same_yes {β : Type} {x y : β} (h : x = y) : same x y = true := by unfold same; simp [h]
theorem same_no {β : Type} {x y : β} (h : x ≠ y) : same x y = false := by unfold same; simp [h]

def EqTo {β : Type} (xs ys : List β) (k : Nat) : Prop := ∀ j, j < k → xs[j]? = ys[j]?
theorem eqTo_zero {β : Type} (xs ys : List β) : EqTo xs ys 0 := fun j h => by omega
theorem eqTo_succ {β : Type} {xs ys : List β} {k : Nat} (h : EqTo xs ys k) (h1 : k < xs.length) (h2 : k < ys.length) (he : xs[k] = ys[k]) : EqTo xs ys (k + 1) := by
  intro j hj
  by_cases e : j = k
  · subst e
    rw [List.getElem?_eq_getElem h1, List.getElem?_eq_getElem h2, he]
  · exact h j (by omega)
theorem eqTo_all {β : Type} {xs ys : List β} (h : EqTo xs ys xs.length) (hl : xs.length = ys.length) : xs = ys := by
  apply List.ext_getElem?
  intro j
  by_cases hj : j < xs.length
  · exact h j hj
  · rw [List.getElem?_eq_none (by omega), List.getElem?_eq_none (by omega)]
theorem ne_at {β : Type} {xs ys : List β} {k : Nat} (h1 : k < xs.length) (h2 : k < ys.length) (he : xs[k] ≠ ys[k]) : xs ≠ ys := by
  rintro rfl
  exact he rfl

theorem ty_ne {a b : TyA} {ks js : List Ty} (h : a.kind ≠ b.kind ∨ a.labels ≠ b.labels ∨ ks ≠ js) : same (Tr.node a ks) (Tr.node b js) = false := by
  apply same_no
  intro e
  injection e with e1 e2
  subst e1
  subst e2
  rcases h with h | h | h <;> exact h rfl
theorem ty_eq {a b : TyA} {ks js : List Ty} (h1 : a.kind = b.kind) (h2 : a.labels = b.labels) (h3 : ks = js) : same (Tr.node a ks) (Tr.node b js) = true := by
  apply same_yes
  obtain ⟨k, l⟩ := a
  obtain ⟨k', l'⟩ := b
  simp only at h1 h2
  rw [h1, h2, h3]
theorem same_iff {β : Type} {x y : β} : same x y = true ↔ x = y := by unfold same; simp
theorem same_iff_no {β : Type} {x y : β} : same x y = false ↔ x ≠ y := by unfold same; simp

end Go.Proofs.YtlikmgkjilmjpaaGreat

/-
  The model's l3Texts.
-/
namespace Go.Proofs.YtlikmgkjilmjpaaGreat
open Go.RowKit
set_option maxHeartbeats 800000 in
set_option maxRecDepth 100000 in
theorem l3Texts_any (A B : Option Addr) (c d : Nat) (xs ys : List ByteArray) (w : World) (hA : Sl w A (xs.map Value.string)) (hB : Sl w B (ys.map Value.string)) (hn : xs.length ≤ 9223372036854775807) :
    Calls Tryz.prog 85 #[.slice A xs.length c, .slice B ys.length d] w (Tells (same xs ys) w) := by
  by_cases hl : xs.length = ys.length
  · have HL := Lib.hid hl
    rw [← hl]
    clear hl
    go_enter Tryz.func85, Tryz.ntmps85
    go_wp2_with fail
    go_loopw [5] (fun i wr => ∃ k : Nat, k ≤ xs.length ∧ i = .int .i64 k ∧ EqTo xs ys k ∧ ∃ n, wr = w.drewN n) (fun i _ => xs.length - (intOf i).toNat)
    case atStart => exact ⟨0, Nat.zero_le _, rfl, eqTo_zero _ _, 0, rfl⟩
    case round =>
      obtain ⟨k, hk, rfl, hno, n, rfl⟩ := hrel
      by_cases hlt : k < xs.length
      · have hlt2 : k < ys.length := by have := HL.out; omega
        obtain ⟨ad, rfl, hc⟩ := hA k (.string xs[k]) (by simp [hlt])
        obtain ⟨bd, rfl, hd⟩ := hB k (.string ys[k]) (by simp [hlt2])
        by_cases hx : xs[k] = ys[k]
        · have HN := Lib.hid (eqTo_succ hno hlt hlt2 hx)
          rw [← hx] at hd
          clear hx hno
          go_wp2
          go_quiet (fail)
          go_wp2
          go_roundw
          case rel => exact ⟨k + 1, by omega, by go_num, HN.out, _, rfl⟩
          case measure => simp [intOf]; omega
        · have HR := Lib.hid (same_no (ne_at hlt hlt2 hx))
          have hb := (Lib.bytes_beq_false_iff xs[k] ys[k]).2 hx
          clear hx hno
          go_wp2
          go_quiet (fail)
          go_wp2
          go_ret
          exact ⟨ret_bool HR.out.symm, _, World.drewN_drewN _ _ _⟩
      · have he : k = xs.length := by omega
        have HR := Lib.hid (same_yes (eqTo_all (he ▸ hno) HL.out))
        clear he hno
        go_wp2_with fail
        go_ret
        exact ⟨ret_bool HR.out.symm, n, rfl⟩
  · have HR := Lib.hid (same_no (x := xs) (y := ys) (fun e => hl (by rw [e])))
    go_enter Tryz.func85, Tryz.ntmps85
    go_wp2_with fail
    go_ret
    exact ⟨ret_bool HR.out.symm, 0, rfl⟩
end Go.Proofs.YtlikmgkjilmjpaaGreat

/-
  The model's EqualType.
-/
namespace Go.Proofs.YtlikmgkjilmjpaaGreat
open Go.RowKit
end Go.Proofs.YtlikmgkjilmjpaaGreat

/-
  Schemas and databases as lists: what the document's chapter 9 asks of them, in plain words. Hangs on no function of the program.
-/
namespace Go.Proofs.YtlikmgkjilmjpaaGreat
open Go.RowKit

def declB (d : Dc) : Bool := nameB d.1 && rowB d.2
def namesOf (xs : Sc) : List ByteArray := xs.map fun d => d.1
def schB (xs : Sc) : Bool := xs.all declB && (decide (xs.length ≤ 4) && ascL (namesOf xs))
theorem all_take {α : Type} {f : α → Bool} {xs : List α} {k : Nat} (h : (xs.take k).all f = true) (hk : k < xs.length) (hf : f xs[k] = true) : (xs.take (k + 1)).all f = true := by
  rw [List.take_add_one, List.getElem?_eq_getElem hk, List.all_append, h]
  simp [hf]
theorem all_no {α : Type} {f : α → Bool} {xs : List α} {k : Nat} (hk : k < xs.length) (hf : f xs[k] = false) : xs.all f = false := by
  rw [List.all_eq_false]
  exact ⟨xs[k], List.getElem_mem hk, by simp [hf]⟩
theorem sch_no {xs : Sc} {k : Nat} (hk : k < xs.length) (hf : declB xs[k] = false) : schB xs = false := by unfold schB; rw [all_no hk hf]; rfl
theorem sch_all {xs : Sc} (h : (xs.take xs.length).all declB = true) : schB xs = (decide (xs.length ≤ 4) && ascL (namesOf xs)) := by
  rw [List.take_length] at h
  unfold schB
  rw [h]
  rfl
theorem namesOf_take (xs : Sc) (k : Nat) (hk : k < xs.length) : (namesOf (xs.take (k + 1))).map Value.string = (namesOf (xs.take k)).map Value.string ++ [.string xs[k].1] := by
  unfold namesOf
  rw [List.take_add_one, List.getElem?_eq_getElem hk, List.map_append, List.map_append]
  rfl
noncomputable def sameDc (a b : Dc) : Bool := decide (a.1 = b.1) && same a.2 b.2
def allPairs {α β : Type} (f : α → β → Bool) (xs : List α) (ys : List β) : Bool := (xs.zip ys).all fun p => f p.1 p.2
theorem pairs_no {α β : Type} {f : α → β → Bool} {xs : List α} {ys : List β} {k : Nat} (h1 : k < xs.length) (h2 : k < ys.length) (hf : f xs[k] ys[k] = false) : allPairs f xs ys = false := by
  unfold allPairs
  have hk : k < (xs.zip ys).length := by rw [List.length_zip]; omega
  exact all_no hk (by rw [List.getElem_zip]; exact hf)
def PairsTo {α β : Type} (f : α → β → Bool) (xs : List α) (ys : List β) (k : Nat) : Prop := ((xs.zip ys).take k).all (fun p => f p.1 p.2) = true
theorem pairsTo_zero {α β : Type} (f : α → β → Bool) (xs : List α) (ys : List β) : PairsTo f xs ys 0 := by simp [PairsTo]
theorem pairsTo_more {α β : Type} {f : α → β → Bool} {xs : List α} {ys : List β} {k : Nat} (h : PairsTo f xs ys k) (h1 : k < xs.length) (h2 : k < ys.length) (hf : f xs[k] ys[k] = true) : PairsTo f xs ys (k + 1) := by
  have hk : k < (xs.zip ys).length := by rw [List.length_zip]; omega
  exact all_take h hk (by rw [List.getElem_zip]; exact hf)
theorem pairsTo_all {α β : Type} {f : α → β → Bool} {xs : List α} {ys : List β} (h : PairsTo f xs ys xs.length) : allPairs f xs ys = true := by
  unfold PairsTo at h
  rw [List.take_of_length_le (by rw [List.length_zip]; omega)] at h
  exact h
noncomputable def eqScB (a b : Sc) : Bool := decide (a.length = b.length) && allPairs sameDc a b
end Go.Proofs.YtlikmgkjilmjpaaGreat

/-
  The different texts of a list, each at its first place: plain lists.
-/
namespace Go.Proofs.YtlikmgkjilmjpaaGreat

theorem idx_neg {o : List ByteArray} {x : ByteArray} (h : ¬ x ∈ o) : Lib.idxOfS o x < 0 := by
  rcases Int.lt_or_le (Lib.idxOfS o x) 0 with h1 | h1
  · exact h1
  · exact absurd ((Lib.idxOfS_nonneg_iff o x).1 h1) h
theorem idx_pos {o : List ByteArray} {x : ByteArray} (h : x ∈ o) : ¬ Lib.idxOfS o x < 0 := by
  have := (Lib.idxOfS_nonneg_iff o x).2 h
  omega
def addU (o : List ByteArray) (x : ByteArray) : List ByteArray := if Lib.idxOfS o x < 0 then o ++ [x] else o
def uq (o xs : List ByteArray) : List ByteArray := xs.foldl addU o
theorem uq_nil (o : List ByteArray) : uq o [] = o := rfl
theorem uq_app (o a b : List ByteArray) : uq o (a ++ b) = uq (uq o a) b := by simp [uq, List.foldl_append]
theorem uq_succ (o xs : List ByteArray) (k : Nat) (h : k < xs.length) : uq o (xs.take (k + 1)) = addU (uq o (xs.take k)) xs[k] := by
  rw [List.take_succ_eq_append_getElem h, uq_app]; rfl
theorem addU_in {o : List ByteArray} {x : ByteArray} (h : x ∈ o) : addU o x = o := by simp [addU, idx_pos h]
theorem addU_new {o : List ByteArray} {x : ByteArray} (h : ¬ x ∈ o) : addU o x = o ++ [x] := by simp [addU, idx_neg h]
theorem addU_len (o : List ByteArray) (x : ByteArray) : (addU o x).length ≤ o.length + 1 := by
  unfold addU
  split
  · simp
  · omega
theorem uq_len : ∀ (xs o : List ByteArray), (uq o xs).length ≤ o.length + xs.length
  | [], o => by simp [uq]
  | x :: r, o => by
    have h1 := uq_len r (addU o x)
    have h2 := addU_len o x
    simp only [uq, List.foldl_cons, List.length_cons] at h1 ⊢
    omega
theorem mem_addU {o : List ByteArray} {x y : ByteArray} : y ∈ addU o x ↔ y ∈ o ∨ y = x := by
  by_cases h : x ∈ o
  · rw [addU_in h]
    constructor
    · exact .inl
    · rintro (h1 | rfl)
      · exact h1
      · exact h
  · rw [addU_new h]
    simp
theorem mem_uq : ∀ {xs o : List ByteArray} {y : ByteArray}, y ∈ uq o xs ↔ y ∈ o ∨ y ∈ xs
  | [], o, y => by simp [uq]
  | x :: r, o, y => by
    have := @mem_uq r (addU o x) y
    simp only [uq, List.foldl_cons] at this ⊢
    rw [this, mem_addU, List.mem_cons]
    constructor
    · rintro ((h | h) | h) <;> simp [h]
    · rintro (h | h | h) <;> simp [h]
theorem nodup_addU {o : List ByteArray} {x : ByteArray} (h : o.Nodup) : (addU o x).Nodup := by
  by_cases hx : x ∈ o
  · rw [addU_in hx]; exact h
  · rw [addU_new hx]
    refine List.nodup_append.2 ⟨h, by simp, fun a ha b hb e => ?_⟩
    rw [List.mem_singleton] at hb
    subst hb
    subst e
    exact hx ha
theorem nodup_uq : ∀ {xs o : List ByteArray}, o.Nodup → (uq o xs).Nodup
  | [], _, h => h
  | x :: r, o, h => by
    show (uq (addU o x) r).Nodup
    exact nodup_uq (nodup_addU h)
end Go.Proofs.YtlikmgkjilmjpaaGreat

/-
  Lists of texts in strictly ascending order: one list for one set; an element put in; a sorted list without repeats. Plain lists.
-/
namespace Go.Proofs.YtlikmgkjilmjpaaGreat

theorem less_eq : ∀ (x y : List UInt8), Op.bytesLess x y = decide (x < y)
  | _, [] => by simp [Op.bytesLess]
  | [], b :: y => by simp [Op.bytesLess]
  | a :: x, b :: y => by
    rw [Op.bytesLess, less_eq x y, Bool.eq_iff_iff]
    simp [List.cons_lt_cons_iff]
/-- the text precedes the other one -/
def Lt (x y : ByteArray) : Prop := x.data.toList < y.data.toList
theorem lt_iff (x y : ByteArray) : Op.bytesLess x.toList y.toList = true ↔ Lt x y := by
  rw [less_eq, ByteArray.toList_eq, ByteArray.toList_eq, decide_eq_true_eq]; rfl
theorem not_lt_iff (x y : ByteArray) : Op.bytesLess x.toList y.toList = false ↔ ¬ Lt x y := by
  rw [← lt_iff, Bool.not_eq_true]
theorem Lt.irrefl (x : ByteArray) : ¬ Lt x x := List.lt_irrefl _
theorem Lt.trans {x y z : ByteArray} (h : Lt x y) (k : Lt y z) : Lt x z := List.lt_trans h k
theorem Lt.asymm {x y : ByteArray} (h : Lt x y) : ¬ Lt y x := fun k => Lt.irrefl x (h.trans k)
theorem lt_of_ne {a b : List UInt8} (h : a ≤ b) (hne : a ≠ b) : a < b := by
  rcases Classical.em (a < b) with h1 | h1
  · exact h1
  · exact absurd (List.le_antisymm h (List.not_lt.1 h1)) hne
theorem Lt.total {x y : ByteArray} (h : ¬ Lt x y) (hne : x ≠ y) : Lt y x := by
  have h1 : y.data.toList ≤ x.data.toList := List.not_lt.1 h
  exact lt_of_ne h1 (fun e => hne (ByteArray.ext (Array.toList_inj.1 e.symm)))

/-- strictly ascending -/
def Asc (l : List ByteArray) : Prop := l.Pairwise Lt
theorem asc_unique : ∀ {o p : List ByteArray}, Asc o → Asc p → (∀ y, y ∈ o ↔ y ∈ p) → o = p
  | [], [], _, _, _ => rfl
  | [], b :: p, _, _, h => by have := (h b).2 (by simp); simp at this
  | a :: o, [], _, _, h => by have := (h a).1 (by simp); simp at this
  | a :: o, b :: p, ho, hp, h => by
    obtain ⟨h1, h2⟩ := List.pairwise_cons.1 ho
    obtain ⟨k1, k2⟩ := List.pairwise_cons.1 hp
    have hab : a = b := by
      rcases List.mem_cons.1 ((h a).1 (by simp)) with e | e
      · exact e
      · rcases List.mem_cons.1 ((h b).2 (by simp)) with e' | e'
        · exact e'.symm
        · exact absurd (h1 b e') (k1 a e).asymm
    subst hab
    have hop : o = p := asc_unique h2 k2 (fun y => by
      constructor
      · intro hy
        rcases List.mem_cons.1 ((h y).1 (by simp [hy])) with e | e
        · subst e; exact absurd (h1 y hy) (Lt.irrefl y)
        · exact e
      · intro hy
        rcases List.mem_cons.1 ((h y).2 (by simp [hy])) with e | e
        · subst e; exact absurd (k1 y hy) (Lt.irrefl y)
        · exact e)
    rw [hop]

/-- all up to this place precede x -/
def LtTo (o : List ByteArray) (x : ByteArray) (a : Nat) : Prop := ∀ y ∈ o.take a, Lt y x
theorem ltTo_zero (o : List ByteArray) (x : ByteArray) : LtTo o x 0 := by intro y h; simp at h
theorem ltTo_succ {o : List ByteArray} {x : ByteArray} {a : Nat} (h : LtTo o x a) (ha : a < o.length) (hx : Lt o[a] x) : LtTo o x (a + 1) := by
  intro y hy
  rw [List.take_succ_eq_append_getElem ha, List.mem_append, List.mem_singleton] at hy
  rcases hy with hy | rfl
  · exact h y hy
  · exact hx
theorem put_asc {o : List ByteArray} {x : ByteArray} {a : Nat} (ho : Asc o) (h : LtTo o x a) (hge : ∀ (ha : a < o.length), ¬ Lt o[a] x ∧ o[a] ≠ x) : Asc (o.take a ++ [x] ++ o.drop a) := by
  have ho' : Asc (o.take a ++ o.drop a) := by rw [List.take_append_drop]; exact ho
  obtain ⟨h1, h2, h3⟩ := List.pairwise_append.1 ho'
  have hd : ∀ y ∈ o.drop a, Lt x y := by
    intro y hy
    rcases Nat.lt_or_ge a o.length with ha | ha
    · rw [List.drop_eq_getElem_cons ha] at hy h2
      have hx := Lt.total (hge ha).1 (hge ha).2
      rcases List.mem_cons.1 hy with rfl | hy
      · exact hx
      · exact hx.trans ((List.pairwise_cons.1 h2).1 y hy)
    · rw [List.drop_of_length_le ha] at hy; simp at hy
  refine List.pairwise_append.2 ⟨List.pairwise_append.2 ⟨h1, List.pairwise_singleton _ _, fun y hy z hz => ?_⟩, h2, fun y hy z hz => ?_⟩
  · rw [List.mem_singleton] at hz
    subst hz
    exact h y hy
  · rcases List.mem_append.1 hy with hy | hy
    · exact h3 y hy z hz
    · rw [List.mem_singleton] at hy
      subst hy
      exact hd z hz
theorem put_mem {o : List ByteArray} {x y : ByteArray} {a : Nat} : y ∈ o.take a ++ [x] ++ o.drop a ↔ y ∈ o ∨ y = x := by
  have : y ∈ o ↔ y ∈ o.take a ∨ y ∈ o.drop a := by rw [← List.mem_append, List.take_append_drop]
  rw [this]
  simp only [List.mem_append, List.mem_singleton]
  constructor
  · rintro ((h | h) | h) <;> simp [h]
  · rintro ((h | h) | h) <;> simp [h]

/-! ### the library's sort of a list without repeats -/
def bytesOf (l : List ByteArray) : List (List UInt8) := l.map (·.data.toList)
def textsOf (l : List (List UInt8)) : List ByteArray := l.map fun b => ⟨b.toArray⟩
theorem texts_bytes (l : List ByteArray) : textsOf (bytesOf l) = l := by
  unfold textsOf bytesOf
  rw [List.map_map]
  conv => rhs; rw [← List.map_id l]
  rfl
theorem bytes_texts (l : List (List UInt8)) : bytesOf (textsOf l) = l := by
  unfold textsOf bytesOf
  rw [List.map_map]
  conv => rhs; rw [← List.map_id l]
  apply List.map_congr_left
  intro b _
  simp
theorem enc_texts (l : List (List UInt8)) : l.map encStr = (textsOf l).map Value.string := by
  unfold textsOf
  rw [List.map_map]
  rfl
def sorted (l : List ByteArray) : List ByteArray := textsOf ((bytesOf l).mergeSort fun x y => decide (x ≤ y))
theorem sorted_len (l : List ByteArray) : (sorted l).length = l.length := by simp [sorted, textsOf, bytesOf]
theorem sorted_mem (l : List ByteArray) (y : ByteArray) : y ∈ sorted l ↔ y ∈ l := by
  have e : y ∈ sorted l ↔ y ∈ textsOf (bytesOf l) := by
    unfold sorted textsOf
    exact ((List.mergeSort_perm (bytesOf l) _).map _).mem_iff
  rw [e, texts_bytes]
theorem sorted_asc {l : List ByteArray} (h : l.Nodup) : Asc (sorted l) := by
  have hb : (bytesOf l).Nodup := by
    refine List.pairwise_map.2 (h.imp fun {a b} hne e => hne ?_)
    exact ByteArray.ext (Array.toList_inj.1 e)
  have tr : ∀ a b c : List UInt8, decide (a ≤ b) = true → decide (b ≤ c) = true → decide (a ≤ c) = true := fun a b c h1 h2 => by
    rw [decide_eq_true_eq] at h1 h2 ⊢
    exact List.le_trans h1 h2
  have tot : ∀ a b : List UInt8, (decide (a ≤ b) || decide (b ≤ a)) = true := fun a b => by
    rw [Bool.or_eq_true, decide_eq_true_eq, decide_eq_true_eq]
    exact List.le_total a b
  have h1 := List.pairwise_mergeSort tr tot (bytesOf l)
  have h2 : ((bytesOf l).mergeSort fun x y => decide (x ≤ y)).Nodup := (List.mergeSort_perm (bytesOf l) _).nodup_iff.2 hb
  unfold sorted textsOf Asc
  refine List.pairwise_map.2 ((h1.and h2).imp fun {a b} hab => ?_)
  show (⟨a.toArray⟩ : ByteArray).data.toList < (⟨b.toArray⟩ : ByteArray).data.toList
  have hle : a ≤ b := by have := hab.1; rwa [decide_eq_true_eq] at this
  simpa using lt_of_ne hle hab.2
end Go.Proofs.YtlikmgkjilmjpaaGreat

/-
  The order of values: kinds, numbers, how many parts, labels, then the parts. It is an order, and none but equal values compare as equal. Plain lists and trees.
-/
namespace Go.Proofs.YtlikmgkjilmjpaaGreat

/-- the first answer that is not 0 -/
def orC (a b : Int) : Int := if a = 0 then b else a
def numC (a b : Int) : Int := if a < b then -1 else if b < a then 1 else 0
def ltB (x y : ByteArray) : Bool := Op.bytesLess x.toList y.toList
def strC (x y : ByteArray) : Int := if ltB x y = true then -1 else if ltB y x = true then 1 else 0
section
variable {α β : Type}
def lexC (c : α → α → Int) : List α → List α → Int
  | [], [] => 0
  | [], _ :: _ => -1
  | _ :: _, [] => 1
  | x :: xs, y :: ys => orC (c x y) (lexC c xs ys)
def pairC (c : α → α → Int) (d : β → β → Int) (p q : α × β) : Int := orC (c p.1 q.1) (d p.2 q.2)
structure Ord (c : α → α → Int) : Prop where
  zero : ∀ x y, c x y = 0 ↔ x = y
  neg : ∀ x y, c y x = - c x y
  trans : ∀ x y z, c x y < 0 → c y z < 0 → c x z < 0
theorem orC_zero (a b : Int) : orC a b = 0 ↔ a = 0 ∧ b = 0 := by unfold orC; split <;> simp_all
theorem orC_neg (a b : Int) : orC (-a) (-b) = - orC a b := by
  unfold orC
  by_cases h : a = 0
  · simp [h]
  · simp [h]
theorem orC_lt (a b : Int) : orC a b < 0 ↔ a < 0 ∨ (a = 0 ∧ b < 0) := by unfold orC; split <;> omega
theorem Ord.pair {c : α → α → Int} {d : β → β → Int} (hc : Ord c) (hd : Ord d) : Ord (pairC c d) where
  zero x y := by
    unfold pairC
    rw [orC_zero, hc.zero, hd.zero]
    exact ⟨fun h => Prod.ext h.1 h.2, fun h => by subst h; exact ⟨rfl, rfl⟩⟩
  neg x y := by
    unfold pairC
    rw [hc.neg x.1 y.1, hd.neg x.2 y.2, orC_neg]
  trans x y z h1 h2 := by
    unfold pairC at *
    rw [orC_lt] at *
    rcases h1 with h1 | ⟨h1, h1'⟩
    · rcases h2 with h2 | ⟨h2, h2'⟩
      · exact .inl (hc.trans _ _ _ h1 h2)
      · rw [← (hc.zero _ _).1 h2]; exact .inl h1
    · rw [(hc.zero _ _).1 h1]
      rcases h2 with h2 | ⟨h2, h2'⟩
      · exact .inl h2
      · exact .inr ⟨h2, hd.trans _ _ _ h1' h2'⟩
theorem Ord.numC : Ord numC where
  zero x y := by unfold Proofs.YtlikmgkjilmjpaaGreat.numC; split <;> (try split) <;> simp <;> omega
  neg x y := by unfold Proofs.YtlikmgkjilmjpaaGreat.numC; repeat' split
                all_goals omega
  trans x y z h1 h2 := by unfold Proofs.YtlikmgkjilmjpaaGreat.numC at *; repeat' split
                          all_goals (split at h1 <;> split at h2 <;> omega)
theorem ltB_iff (x y : ByteArray) : ltB x y = true ↔ Lt x y := lt_iff x y
theorem strC_cases (x y : ByteArray) : (Lt x y ∧ strC x y = -1) ∨ (Lt y x ∧ strC x y = 1) ∨ (x = y ∧ strC x y = 0) := by
  unfold strC
  by_cases h : ltB x y = true
  · exact .inl ⟨(ltB_iff x y).1 h, by rw [if_pos h]⟩
  · by_cases k : ltB y x = true
    · exact .inr (.inl ⟨(ltB_iff y x).1 k, by rw [if_neg h, if_pos k]⟩)
    · refine .inr (.inr ⟨Classical.byContradiction fun hne => k ((ltB_iff y x).2 (Lt.total (fun h' => h ((ltB_iff x y).2 h')) hne)), by rw [if_neg h, if_neg k]⟩)
theorem strC_lt (x y : ByteArray) : strC x y < 0 ↔ Lt x y := by
  rcases strC_cases x y with ⟨h, e⟩ | ⟨h, e⟩ | ⟨h, e⟩
  · rw [e]; exact ⟨fun _ => h, fun _ => by decide⟩
  · rw [e]; exact ⟨fun k => by omega, fun k => absurd k h.asymm⟩
  · rw [e]; subst h; exact ⟨fun k => by omega, fun k => absurd k (Lt.irrefl x)⟩
theorem Ord.strC : Ord strC where
  zero x y := by
    rcases strC_cases x y with ⟨h, e⟩ | ⟨h, e⟩ | ⟨h, e⟩
    · rw [e]; exact ⟨fun k => by omega, fun k => by subst k; exact absurd h (Lt.irrefl x)⟩
    · rw [e]; exact ⟨fun k => by omega, fun k => by subst k; exact absurd h (Lt.irrefl x)⟩
    · rw [e]; exact ⟨fun _ => h, fun _ => rfl⟩
  neg x y := by
    rcases strC_cases x y with ⟨h, e⟩ | ⟨h, e⟩ | ⟨h, e⟩ <;> rcases strC_cases y x with ⟨k, f⟩ | ⟨k, f⟩ | ⟨k, f⟩ <;> rw [e, f]
    all_goals first | rfl | exact absurd h k.asymm | (subst k; exact absurd h (Lt.irrefl _)) | (subst h; exact absurd k (Lt.irrefl _))
  trans x y z h1 h2 := by
    rw [strC_lt] at *
    exact h1.trans h2
theorem lexC_zero {c : α → α → Int} : ∀ xs ys : List α, (∀ x ∈ xs, ∀ y, c x y = 0 ↔ x = y) → (lexC c xs ys = 0 ↔ xs = ys)
  | [], [], _ => by simp [lexC]
  | [], _ :: _, _ => by simp [lexC]
  | _ :: _, [], _ => by simp [lexC]
  | x :: xs, y :: ys, h => by
    rw [lexC, orC_zero, h x (by simp), lexC_zero xs ys (fun z hz => h z (by simp [hz]))]
    simp
theorem lexC_neg {c : α → α → Int} : ∀ xs ys : List α, (∀ x ∈ xs, ∀ y, c y x = - c x y) → lexC c ys xs = - lexC c xs ys
  | [], [], _ => rfl
  | [], _ :: _, _ => rfl
  | _ :: _, [], _ => rfl
  | x :: xs, y :: ys, h => by
    rw [lexC, lexC, h x (by simp), lexC_neg xs ys (fun z hz => h z (by simp [hz])), orC_neg]
theorem lexC_trans {c : α → α → Int} (hz : ∀ x y, c x y = 0 ↔ x = y) : ∀ xs ys zs : List α, (∀ x ∈ xs, ∀ y z, c x y < 0 → c y z < 0 → c x z < 0) → lexC c xs ys < 0 → lexC c ys zs < 0 → lexC c xs zs < 0
  | [], [], zs, _, h1, h2 => h2
  | [], _ :: _, [], _, h1, h2 => by simp [lexC] at h2
  | [], _ :: _, _ :: _, _, h1, h2 => by simp [lexC]
  | _ :: _, [], _, _, h1, h2 => by simp [lexC] at h1
  | x :: xs, y :: ys, [], _, h1, h2 => by simp [lexC] at h2
  | x :: xs, y :: ys, z :: zs, h, h1, h2 => by
    rw [lexC, orC_lt] at *
    rcases h1 with h1 | ⟨h1, h1'⟩
    · rcases h2 with h2 | ⟨h2, h2'⟩
      · exact .inl (h x (by simp) _ _ h1 h2)
      · rw [← (hz _ _).1 h2]; exact .inl h1
    · rw [(hz _ _).1 h1]
      rcases h2 with h2 | ⟨h2, h2'⟩
      · exact .inl h2
      · exact .inr ⟨h2, lexC_trans hz xs ys zs (fun w hw => h w (by simp [hw])) h1' h2'⟩
theorem Ord.list {c : α → α → Int} (h : Ord c) : Ord (lexC c) where
  zero x y := lexC_zero x y fun x _ y => h.zero x y
  neg x y := lexC_neg x y fun x _ y => h.neg x y
  trans x y z := lexC_trans h.zero x y z fun x _ y z => h.trans x y z
end

def keyV (a : VaA) (n : Nat) : Int × Int × Int × List ByteArray := (a.kind, a.num, n, a.labels)
def nodeC (a : VaA) (m : Nat) (b : VaA) (n : Nat) : Int := pairC numC (pairC numC (pairC numC (lexC strC))) (keyV a m) (keyV b n)
theorem ordKey : Ord (pairC numC (pairC numC (pairC numC (lexC strC)))) := Ord.numC.pair (Ord.numC.pair (Ord.numC.pair Ord.strC.list))
theorem keyV_inj {a b : VaA} {m n : Nat} (h : keyV a m = keyV b n) : a = b ∧ m = n := by
  unfold keyV at h
  simp only [Prod.mk.injEq] at h
  obtain ⟨h1, h2, h3, h4⟩ := h
  cases a; cases b
  simp_all
  omega
mutual
def cmpV : Va → Va → Int
  | .node a ks, .node b ls => orC (nodeC a ks.length b ls.length) (cmpVs ks ls)
def cmpVs : List Va → List Va → Int
  | [], [] => 0
  | [], _ :: _ => -1
  | _ :: _, [] => 1
  | k :: ks, l :: ls => orC (cmpV k l) (cmpVs ks ls)
end
theorem cmpVs_eq : ∀ ks ls : List Va, cmpVs ks ls = lexC cmpV ks ls
  | [], [] => by simp [cmpVs, lexC]
  | [], _ :: _ => by simp [cmpVs, lexC]
  | _ :: _, [] => by simp [cmpVs, lexC]
  | k :: ks, l :: ls => by rw [cmpVs, lexC, cmpVs_eq ks ls]
theorem cmpV_node (a b : VaA) (ks ls : List Va) : cmpV (.node a ks) (.node b ls) = orC (nodeC a ks.length b ls.length) (lexC cmpV ks ls) := by
  rw [cmpV, cmpVs_eq]
theorem cmpV_zero : ∀ x y : Va, cmpV x y = 0 ↔ x = y := by
  refine Tr.ind ?_
  intro a ks ih y
  cases y with
  | node b ls =>
    rw [cmpV_node, orC_zero, lexC_zero ks ls ih]
    unfold nodeC
    rw [ordKey.zero]
    constructor
    · rintro ⟨h1, rfl⟩
      rw [(keyV_inj h1).1]
    · intro h
      injection h with h1 h2
      subst h1 h2
      exact ⟨rfl, rfl⟩
theorem cmpV_neg : ∀ x y : Va, cmpV y x = - cmpV x y := by
  refine Tr.ind ?_
  intro a ks ih y
  cases y with
  | node b ls =>
    rw [cmpV_node, cmpV_node, lexC_neg ks ls ih]
    unfold nodeC
    rw [ordKey.neg (keyV a ks.length) (keyV b ls.length), orC_neg]
theorem cmpV_trans : ∀ x y z : Va, cmpV x y < 0 → cmpV y z < 0 → cmpV x z < 0 := by
  refine Tr.ind ?_
  intro a ks ih y z h1 h2
  cases y with
  | node b ls =>
    cases z with
    | node c ms =>
      rw [cmpV_node, orC_lt] at *
      unfold nodeC at *
      rcases h1 with h1 | ⟨h1, h1'⟩
      · rcases h2 with h2 | ⟨h2, h2'⟩
        · exact .inl (ordKey.trans _ _ _ h1 h2)
        · rw [← (ordKey.zero _ _).1 h2]; exact .inl h1
      · rw [(ordKey.zero _ _).1 h1]
        rcases h2 with h2 | ⟨h2, h2'⟩
        · exact .inl h2
        · exact .inr ⟨h2, lexC_trans cmpV_zero ks ls ms ih h1' h2'⟩
theorem ordV : Ord cmpV := ⟨cmpV_zero, cmpV_neg, cmpV_trans⟩
/-- an answer is -1, 0 or 1 -/
def Sgn (n : Int) : Prop := n = -1 ∨ n = 0 ∨ n = 1
theorem Sgn.or {a b : Int} (ha : Sgn a) (hb : Sgn b) : Sgn (orC a b) := by unfold orC; split <;> assumption
theorem numC_sgn (a b : Int) : Sgn (numC a b) := by unfold numC Sgn; repeat' split
                                                    all_goals omega
theorem strC_sgn (a b : ByteArray) : Sgn (strC a b) := by unfold strC Sgn; repeat' split
                                                          all_goals omega
theorem lexC_sgn {α : Type} {c : α → α → Int} : ∀ xs ys : List α, (∀ x ∈ xs, ∀ y, Sgn (c x y)) → Sgn (lexC c xs ys)
  | [], [], _ => .inr (.inl rfl)
  | [], _ :: _, _ => .inl rfl
  | _ :: _, [], _ => .inr (.inr rfl)
  | x :: xs, y :: ys, h => (h x (by simp) y).or (lexC_sgn xs ys fun z hz => h z (by simp [hz]))
theorem nodeC_sgn (a : VaA) (m : Nat) (b : VaA) (n : Nat) : Sgn (nodeC a m b n) :=
  (numC_sgn _ _).or ((numC_sgn _ _).or ((numC_sgn _ _).or (lexC_sgn _ _ fun _ _ _ => strC_sgn _ _)))
theorem cmpV_sgn : ∀ x y : Va, Sgn (cmpV x y) := by
  refine Tr.ind ?_
  intro a ks ih y
  cases y with
  | node b ls =>
    rw [cmpV_node]
    exact (nodeC_sgn _ _ _ _).or (lexC_sgn ks ls ih)
theorem cmpV_self (x : Va) : cmpV x x = 0 := (cmpV_zero x x).2 rfl
end Go.Proofs.YtlikmgkjilmjpaaGreat
