/-
  Merged by program: TyHas, Name.
-/
import Derived.Test.YtlcpekpgkllbkaaGreatN14
import Derived.Test.YtlcpekpgkllbkaaGreatN4
import Derived.Test.YtlcpekpgkllbkaaGreatN1
import Derived.Test.YtlcpekpgkllbkaaGreatProg
import Derived.Laws.RangeString
import Derived.Laws.RangeAny
import Derived.Lib.SlicesS

/-
  The model's search for a kind in a type (l3Has), and its count down by nodes (l3Left).
-/
namespace Go.Proofs.YtlcpekpgkllbkaaGreat
open Go.RowKit

/-- an answer that is true or false; all that was there is as it was -/
def Truth (b : Bool) (w : World) (e : Ending) (w' : World) : Prop := e = .returned (.bool b) ∧ Below w.heap.size w w'

/-- does a kind occur? -/
def Tr.has (q : Int) : Ty → Bool
  | .node a ks => (ks.attach.any fun ⟨t, _⟩ => t.has q) || decide (a.kind = q)
theorem has_node (q : Int) (a : TyA) (ks : List Ty) : Tr.has q (.node a ks) = (ks.any (Tr.has q) || decide (a.kind = q)) := by
  rw [Tr.has]
  congr 1
  rw [Bool.eq_iff_iff, List.any_eq_true, List.any_eq_true]
  constructor
  · rintro ⟨⟨t, ht⟩, _, h⟩; exact ⟨t, ht, h⟩
  · rintro ⟨t, ht, h⟩; exact ⟨⟨t, ht⟩, List.mem_attach _ _, h⟩
/-- none of the first k answers yes -/
def NoTo {β : Type} (f : β → Bool) (ks : List β) (k : Nat) : Prop := ∀ j (h : j < ks.length), j < k → f ks[j] = false
theorem noTo_zero {β : Type} (f : β → Bool) (ks : List β) : NoTo f ks 0 := fun j _ h => by omega
theorem noTo_succ {β : Type} {f : β → Bool} {ks : List β} {k : Nat} (h : NoTo f ks k) (hk : k < ks.length) (hf : f ks[k] = false) : NoTo f ks (k + 1) := by
  intro j hj hlt
  by_cases e : j = k
  · subst e; exact hf
  · exact h j hj (by omega)
theorem noTo_all {β : Type} {f : β → Bool} {ks : List β} (h : NoTo f ks ks.length) : ks.any f = false := by
  rw [Bool.eq_false_iff, Ne, List.any_eq_true]
  rintro ⟨t, ht, hf⟩
  obtain ⟨j, hj, rfl⟩ := List.getElem_of_mem ht
  rw [h j hj hj] at hf
  cases hf
theorem any_at {β : Type} {f : β → Bool} {ks : List β} {k : Nat} (hk : k < ks.length) (hf : f ks[k] = true) : ks.any f = true := List.any_eq_true.2 ⟨_, List.getElem_mem hk, hf⟩

set_option maxHeartbeats 800000 in
theorem l3Has_any (q : Int) : ∀ (t : Ty) (w : World) (cs : List Value), RTy w t cs → Calls Tryz.prog 155 #[.agg cs.toArray, .int .i64 q] w (Truth (t.has q) w) := by
  refine Tr.ind ?_
  intro a ks ih w cs h
  obtain ⟨L, c, A, d, rfl, k1, k2, k3, k4, k5, k6, hp⟩ := h.out
  rw [has_node]
  obtain ⟨W1, hW1⟩ : ∃ W1, w.alloc (.cells #[.int .i64 a.kind, .slice L a.labels.length c, .slice A ks.length d] 48) = W1 := ⟨_, rfl⟩
  have hb0 : Below w.heap.size w W1 := by rw [← hW1]; exact (Below.refl _ _).alloc (Nat.le_refl _) _
  obtain ⟨H, hH⟩ : ∃ H, w.heap.size = H := ⟨_, rfl⟩
  have b0 : Box3 W1 H 48 (.int .i64 a.kind) (.slice L a.labels.length c) (.slice A ks.length d) := by rw [← hW1, ← hH]; exact Box3.new w _ _ _ _
  have HP := Lib.hid hp
  have HI := Lib.hid ih
  have HB0 := Lib.hid hb0
  have B0 := Lib.hid b0
  have HW1 := Lib.hid hW1
  clear hp ih hb0 b0 hW1 k1 k4 k5 h
  go_enter Tryz.func155, Tryz.ntmps155
  go_wp2_with fail
  rw [HW1.out]
  go_loopw [5] (fun i wr => ∃ k : Nat, k ≤ ks.length ∧ i = .int .i64 k ∧ NoTo (Tr.has q) ks k ∧ Below W1.heap.size W1 wr) (fun i _ => ks.length - (intOf i).toNat)
  case atStart => exact ⟨0, Nat.zero_le _, rfl, noTo_zero _ _, Below.refl _ _⟩
  case round =>
    obtain ⟨k, hk, rfl, hno, hb⟩ := hrel
    have hbw := HB0.out.trans (hb.mono HB0.out.size)
    have bk := B0.out.under hb B0.out.lt
    have hbx := bk.c2
    by_cases hlt : k < ks.length
    · obtain ⟨ad, p, c0, c1, c2, rfl, hpe, hr, q0, q1, q2⟩ := kid_at HP.out hbw hlt
      have hc := HI.out ks[k] (List.getElem_mem hlt) wr [c0, c1, c2] hr
      have HC := Lib.hid hc
      have HN := Lib.hid hno
      have HBW := Lib.hid hbw
      clear hc hr hno bk
      go_wp2_with fail
      refine HC.out.mono ?_
      rintro e w2 ⟨rfl, hb2⟩
      have hb3 := hb.trans (hb2.mono hb.size)
      have HB4 := Lib.hid (HBW.out.trans (hb2.mono HBW.out.size))
      by_cases hf : Tr.has q ks[k] = true
      · have hR : Truth (ks.any (Tr.has q) || decide (a.kind = q)) w (.returned (.bool true)) w2 := ⟨by rw [any_at hlt hf]; rfl, HB4.out⟩
        have HR := Lib.hid hR
        rw [hf]
        clear hR hf
        go_wp2_with fail
        go_ret
        exact HR.out
      · have hf' : Tr.has q ks[k] = false := by simpa using hf
        have HN2 := Lib.hid (noTo_succ HN.out hlt hf')
        rw [hf']
        clear hf hf'
        go_wp2_with fail
        go_roundw
        case rel => exact ⟨k + 1, hlt, by go_num, HN2.out, hb3⟩
        case measure => simp [intOf]; omega
    · have he : k = ks.length := by omega
      have HR : Hid (Truth (ks.any (Tr.has q) || decide (a.kind = q)) w (.returned (.bool (decide (a.kind = q)))) wr) := by
        rw [noTo_all (he ▸ hno), Bool.false_or]
        exact ⟨rfl, hbw⟩
      have hbx0 := bk.c0
      clear he hno bk
      go_wp2_with fail
      go_ret
      exact HR.out

/-- what is left of a number of nodes, -1: there were more -/
def Left (n : Nat) (left : Int) (w : World) (e : Ending) (w' : World) : Prop := ∃ r : Int, e = .returned (.int .i64 r) ∧ -1 ≤ r ∧ r ≤ left ∧ (0 ≤ r → r + n = left) ∧ (r < 0 → left < n) ∧ Below w.heap.size w w'

set_option maxHeartbeats 800000 in
theorem l3Left_any : ∀ (t : Ty) (w : World) (cs : List Value) (left : Int), RTy w t cs → 0 ≤ left → left ≤ 1048577 → Calls Tryz.prog 163 #[.agg cs.toArray, .int .i64 left] w (Left t.size left w) := by
  refine Tr.ind ?_
  intro a ks ih w cs left h hl0 hl1
  obtain ⟨L, c, A, d, rfl, k1, k2, k3, k4, k5, k6, hp⟩ := h.out
  rw [size_node]
  obtain ⟨W1, hW1⟩ : ∃ W1, w.alloc (.cells #[.int .i64 a.kind, .slice L a.labels.length c, .slice A ks.length d] 48) = W1 := ⟨_, rfl⟩
  have hb0 : Below w.heap.size w W1 := by rw [← hW1]; exact (Below.refl _ _).alloc (Nat.le_refl _) _
  obtain ⟨H, hH⟩ : ∃ H, w.heap.size = H := ⟨_, rfl⟩
  have b0 : Box3 W1 H 48 (.int .i64 a.kind) (.slice L a.labels.length c) (.slice A ks.length d) := by rw [← hW1, ← hH]; exact Box3.new w _ _ _ _
  have HP := Lib.hid hp
  have HI := Lib.hid ih
  have HB0 := Lib.hid hb0
  have B0 := Lib.hid b0
  have HW1 := Lib.hid hW1
  clear hp ih hb0 b0 hW1 k1 k4 k5 h
  go_enter Tryz.func163, Tryz.ntmps163
  go_wp2_with fail
  rw [HW1.out]
  go_loopw [1, 5] (fun l i wr => ∃ (k : Nat) (r : Int), k ≤ ks.length ∧ i = .int .i64 k ∧ l = .int .i64 r ∧ -1 ≤ r ∧ r < left ∧ (0 ≤ r → r + 1 + ((ks.take k).map Tr.size).sum = left) ∧ (r < 0 → left < 1 + (((ks.take k).map Tr.size).sum : Nat)) ∧ Below W1.heap.size W1 wr) (fun _ i _ => ks.length - (intOf i).toNat)
  case atStart => exact ⟨0, _, Nat.zero_le _, rfl, rfl, by omega, by omega, by intro _; simp, by intro _; simp; omega, Below.refl _ _⟩
  case round =>
    obtain ⟨k, r, hk, rfl, rfl, hr1, hr2, hr3, hr4, hb⟩ := hrel
    have hbw := HB0.out.trans (hb.mono HB0.out.size)
    have bk := B0.out.under hb B0.out.lt
    have hbx := bk.c2
    by_cases hlt : k < ks.length
    · by_cases hr0 : 0 ≤ r
      · obtain ⟨ad, p, c0, c1, c2, rfl, hpe, hr, q0, q1, q2⟩ := kid_at HP.out hbw hlt
        have hc := HI.out ks[k] (List.getElem_mem hlt) wr [c0, c1, c2] r hr hr0 (by omega)
        have hst := sum_take_succ Tr.size ks k hlt
        have HC := Lib.hid hc
        have HST := Lib.hid hst
        have HR3 := Lib.hid (hr3 hr0)
        clear hc hr hst bk hr3 hr4
        go_wp2_with fail
        refine HC.out.mono ?_
        rintro e w2 ⟨r2, rfl, hq1, hq2, hq3, hq4, hb2⟩
        have hb3 := hb.trans (hb2.mono hb.size)
        have h3 := HR3.out
        have h4 := HST.out
        have HQ3 : Hid (0 ≤ r2 → r2 + 1 + ((ks.take (k + 1)).map Tr.size).sum = left) := fun h => by have := hq3 h; omega
        have HQ4 : Hid (r2 < 0 → left < 1 + (((ks.take (k + 1)).map Tr.size).sum : Nat)) := fun h => by have := hq4 h; omega
        clear hq3 hq4 h3 h4
        go_wp2_with fail
        go_roundw
        case rel => exact ⟨k + 1, r2, hlt, by go_num, rfl, hq1, by omega, HQ3.out, HQ4.out, hb3⟩
        case measure => simp [intOf]; omega
      · have hle := sum_take_le Tr.size ks k
        have HR : Hid (Left (1 + (ks.map Tr.size).sum) left w (.returned (.int .i64 r)) wr) := ⟨r, rfl, hr1, by omega, fun h => absurd h hr0, fun h => by have := hr4 h; omega, hbw⟩
        clear bk hr3 hr4 hle
        go_wp2_with fail
        go_ret
        exact HR.out
    · have he : k = ks.length := by omega
      have HR : Hid (Left (1 + (ks.map Tr.size).sum) left w (.returned (.int .i64 r)) wr) := by
        rw [he, List.take_length] at hr3 hr4
        exact ⟨r, rfl, hr1, by omega, fun h => by have := hr3 h; omega, fun h => by have := hr4 h; omega, hbw⟩
      clear he bk hr3 hr4
      go_wp2_with fail
      go_ret
      exact HR.out
end Go.Proofs.YtlcpekpgkllbkaaGreat

/-
  Whether a text is a name: the model reads its bytes, the program its runes; they give one answer for every text, valid UTF-8 or not.
-/
namespace Go.Proofs.YtlcpekpgkllbkaaGreat
open Go.RowKit

def letN (u : Nat) : Bool := decide (97 ≤ u) && decide (u ≤ 122)
def digN (u : Nat) : Bool := decide (48 ≤ u) && decide (u ≤ 57)
/-- may the byte u stand at place k of a name? -/
def okN (k u : Nat) : Bool := letN u || (decide (k ≠ 0) && digN u)
def nameB (s : ByteArray) : Bool := ((List.range s.size).all fun k => okN k (s.get! k).toNat) && (decide (1 ≤ s.size) && (decide (s.size ≤ 4) && (!(s.toList == [105, 102]) && !(s.toList == [102, 111, 114]))))
def NmTo (s : ByteArray) (k : Nat) : Prop := ∀ j, j < k → okN j (s.get! j).toNat = true
theorem get_bang (s : ByteArray) (k : Nat) (h : k < s.size) : s.get! k = s[k]'h := by
  have := get_at s k h
  simpa using this
theorem nmTo_zero (s : ByteArray) : NmTo s 0 := fun j h => by omega
theorem okN_of {k u : Nat} (h : (97 ≤ u ∧ u ≤ 122) ∨ (k ≠ 0 ∧ 48 ≤ u ∧ u ≤ 57)) : okN k u = true := by
  unfold okN letN digN
  rcases h with ⟨h1, h2⟩ | ⟨h1, h2, h3⟩
  · simp [h1, h2]
  · simp [h1, h2, h3]
theorem okN_not {k u : Nat} (h1 : ¬ (97 ≤ u ∧ u ≤ 122)) (h2 : k = 0 ∨ u < 48 ∨ 57 < u) : okN k u = false := by
  unfold okN letN digN
  have e1 : (decide (97 ≤ u) && decide (u ≤ 122)) = false := by simpa using h1
  rw [e1, Bool.false_or]
  simp
  omega
theorem nmTo_succ {s : ByteArray} {k : Nat} (h : NmTo s k) (hk : k < s.size) (hg : (97 ≤ (s[k]'hk).toNat ∧ (s[k]'hk).toNat ≤ 122) ∨ (k ≠ 0 ∧ 48 ≤ (s[k]'hk).toNat ∧ (s[k]'hk).toNat ≤ 57)) : NmTo s (k + 1) := by
  intro j hj
  by_cases e : j = k
  · subst e
    rw [get_bang s j hk]
    exact okN_of hg
  · exact h j (by omega)
theorem name_no {s : ByteArray} {k : Nat} (hk : k < s.size) (h1 : ¬ (97 ≤ (s[k]'hk).toNat ∧ (s[k]'hk).toNat ≤ 122)) (h2 : k = 0 ∨ (s[k]'hk).toNat < 48 ∨ 57 < (s[k]'hk).toNat) : nameB s = false := by
  have h := okN_not h1 h2
  rw [← get_bang s k hk] at h
  unfold nameB
  have e : ((List.range s.size).all fun k => okN k (s.get! k).toNat) = false := by
    rw [Bool.eq_false_iff, Ne, List.all_eq_true]
    intro hall
    have := hall k (by simpa using hk)
    rw [h] at this
    cases this
  rw [e, Bool.false_and]
theorem name_all {s : ByteArray} (h : NmTo s s.size) : nameB s = (decide (1 ≤ s.size) && (decide (s.size ≤ 4) && (!(s.toList == [105, 102]) && !(s.toList == [102, 111, 114])))) := by
  unfold nameB
  have e : ((List.range s.size).all fun k => okN k (s.get! k).toNat) = true := by
    rw [List.all_eq_true]
    intro j hj
    exact h j (by simpa using hj)
  rw [e, Bool.true_and]
theorem ret_nm {a b : Bool} (h : a = b) : Ending.returned (.bool a) = .returned (.bool b) := by rw [h]

/-- an answer that is true or false, the world as it was -/
def Says (b : Bool) (w : World) (e : Ending) (w' : World) : Prop := e = .returned (.bool b) ∧ w = w'

set_option maxHeartbeats 1600000 in
theorem specName_any (s : ByteArray) (w : World) (hs : s.size ≤ 1048576) : Calls Tryz.prog 80 #[.string s] w (Says (nameB s) w) := by
  go_enter Tryz.func80, Tryz.ntmps80
  go_wp2
  go_loop [3] (fun i => ∃ k : Nat, k ≤ s.size ∧ i = .int .i64 k ∧ NmTo s k) (fun i => s.size - (intOf i).toNat)
  case atStart => exact ⟨0, Nat.zero_le _, rfl, nmTo_zero _⟩
  case round =>
    obtain ⟨k, hk, rfl, hno⟩ := hrel
    by_cases hlt : k < s.size
    · have HN := Lib.hid hno
      clear hno
      by_cases hL : (97 : Int) ≤ (s[k].toNat : Int) ∧ (s[k].toNat : Int) ≤ 122
      · obtain ⟨ha, hb⟩ := hL
        go_wp2
        go_round
        case rel => exact ⟨k + 1, by omega, by go_num, nmTo_succ HN.out hlt (.inl ⟨by omega, by omega⟩)⟩
        case measure => simp [intOf]; omega
      · rcases Nat.eq_zero_or_pos k with rfl | hkp
        · have HX := Lib.hid (name_no hlt (by omega) (.inl rfl))
          by_cases ha : (97 : Int) ≤ (s[0].toNat : Int)
          · have hb : (122 : Int) < (s[0].toNat : Int) := by omega
            have hb' : decide ((s[0].toNat : Int) ≤ 122) = false := by simpa using hb
            clear hL
            go_wp2
            go_ret
            exact ⟨ret_nm HX.out.symm, rfl⟩
          · clear hL
            go_wp2
            go_ret
            exact ⟨ret_nm HX.out.symm, rfl⟩
        · have hk0 : ((k : Int) == 0) = false := by simp; omega
          have hk1 : ¬ k = 0 := by omega
          by_cases ha : (97 : Int) ≤ (s[k].toNat : Int)
          · have hb : (122 : Int) < (s[k].toNat : Int) := by omega
            have hc : (57 : Int) < (s[k].toNat : Int) := by omega
            have hd : (48 : Int) ≤ (s[k].toNat : Int) := by omega
            have hb' : decide ((s[k].toNat : Int) ≤ 122) = false := by simpa using hb
            have HX := Lib.hid (name_no hlt (by omega) (.inr (.inr (by omega))))
            clear hL
            go_wp2
            go_ret
            exact ⟨ret_nm HX.out.symm, rfl⟩
          · clear hL
            by_cases hc : (48 : Int) ≤ (s[k].toNat : Int)
            · by_cases hd : (s[k].toNat : Int) ≤ 57
              · go_wp2
                go_round
                case rel => exact ⟨k + 1, by omega, by go_num, nmTo_succ HN.out hlt (.inr ⟨by omega, by omega, by omega⟩)⟩
                case measure => simp [intOf]; omega
              · have HX := Lib.hid (name_no hlt (by omega) (.inr (.inr (by omega))))
                go_wp2
                go_ret
                exact ⟨ret_nm HX.out.symm, rfl⟩
            · have HX := Lib.hid (name_no hlt (by omega) (.inr (.inl (by omega))))
              go_wp2
              go_ret
              exact ⟨ret_nm HX.out.symm, rfl⟩
    · have he : k = s.size := by omega
      subst he
      have HN := Lib.hid (name_all hno)
      clear hno
      by_cases h1 : (1 : Int) ≤ (s.size : Int)
      · by_cases h4 : (s.size : Int) ≤ 4
        · cases e1 : (s.toList == [105, 102]) <;> cases e2 : (s.toList == [102, 111, 114])
          all_goals
            have HX : Hid (nameB s = (!(s.toList == [105, 102]) && !(s.toList == [102, 111, 114]))) := by
              rw [HN.out]
              simp [show 1 ≤ s.size by omega, show s.size ≤ 4 by omega, Hid]
            rw [e1, e2] at HX
            go_wp2
            go_ret
            exact ⟨ret_nm HX.out.symm, rfl⟩
        · have HX : Hid (nameB s = false) := by
            rw [HN.out]
            simp [show ¬ s.size ≤ 4 by omega, Hid]
          go_wp2
          go_ret
          exact ⟨ret_nm HX.out.symm, rfl⟩
      · have HX : Hid (nameB s = false) := by
          rw [HN.out]
          simp [show ¬ 1 ≤ s.size by omega, Hid]
        go_wp2
        go_ret
        exact ⟨ret_nm HX.out.symm, rfl⟩
end Go.Proofs.YtlcpekpgkllbkaaGreat
