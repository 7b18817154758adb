/-
  Merged by program: TyValid, TyRow, TySame, Texts, TySameS.
-/
import Derived.Test.YtlcpekpgkllbkaaT24
import Derived.Lib.SlicesS
import Derived.StillTailTactics

/-
  The model's IsValidType, IsData.
-/
namespace Go.Proofs.Ytlcpekpgkllbkaa
open Go.RowKit

theorem RTy.three {w : World} {t : Ty} {cs : List Value} (h : RTy w t cs) : ∃ c0 c1 c2, cs = [c0, c1, c2] := by
  have hl : cs.length = 3 := Reads.len h
  match cs, hl with
  | [a, b, c], _ => exact ⟨a, b, c, rfl⟩
/-- an argument that is boxed: its box, and the world with the box in it -/
theorem boxed {w : World} {t : Ty} {cs : List Value} (h : RTy w t cs) : ∃ c0 c1 c2 W1 H, cs = [c0, c1, c2] ∧ w.heap.size = H ∧ w.alloc (.cells #[c0, c1, c2] 36) = W1 ∧ Box3 W1 H 36 c0 c1 c2 ∧ Below w.heap.size w W1 := by
  obtain ⟨c0, c1, c2, rfl⟩ := h.three
  exact ⟨c0, c1, c2, _, _, rfl, rfl, rfl, Box3.new w _ _ _ _, (Below.refl _ _).alloc (Nat.le_refl _) _⟩

def validB (t : Ty) : Bool := decide (t.size ≤ 24) && (decide (t.deep ≤ 7) && t.form)

set_option maxHeartbeats 800000 in
theorem specValid_any (t : Ty) (w : World) (cs : List Value) (h : RTy w t cs) (hw : wt t ≤ 1048576) : Calls Try.prog 76 #[.agg cs.toArray] w (Truth (validB t) w) := by
  have hz := size_wt t
  obtain ⟨c0, c1, c2, W1, H, rfl, hH, hW1, hbox, hb0⟩ := boxed h
  have HD := Lib.hid (fun W (hB : Below w.heap.size w W) => specDepth_any t W _ (h.keep hB) (by omega))
  have HF := Lib.hid (fun W (hB : Below w.heap.size w W) => l3Form_any t W _ (h.keep hB) hw)
  have HL := Lib.hid (l3Left_any t W1 _ 24 (h.keep hb0) (by omega) (by omega))
  have hdz : t.deep ≤ 1048577 := Nat.le_trans (deep_le_size t) (by omega)
  have HDZ := Lib.hid hdz
  have HW1 := Lib.hid hW1
  have B0 := Lib.hid hbox
  have HB0 := Lib.hid hb0
  have x0 := hbox.c0
  have x1 := hbox.c1
  have x2 := hbox.c2
  clear h hw hz hdz hW1 hbox hb0
  go_enter Try.func76, Try.ntmps76
  go_wp2_with fail
  rw [HW1.out]
  go_wp2_with fail
  refine HL.out.mono ?_
  rintro e w1 ⟨r, rfl, r1, r2, r3, r4, hb1⟩
  have HB1 := Lib.hid (HB0.out.trans (hb1.mono HB0.out.size))
  have B1 := Lib.hid (B0.out.under hb1 B0.out.lt)
  clear x0 x1 x2
  by_cases hr : 0 ≤ r
  · have hsz : t.size ≤ 24 := by have := r3 hr; omega
    have HV : Hid (validB t = (decide (t.deep ≤ 7) && t.form)) := Lib.hid (by unfold validB; simp [hsz])
    have HC := Lib.hid (HD.out w1 HB1.out)
    have x0 := B1.out.c0
    have x1 := B1.out.c1
    have x2 := B1.out.c2
    clear hsz hb1 r3 r4
    have hdz := HDZ.out
    obtain ⟨dp, hdp⟩ : ∃ dp, t.deep = dp := ⟨_, rfl⟩
    rw [hdp] at HV HC hdz
    clear hdp
    go_wp2_with fail
    refine HC.out.mono ?_
    rintro e w2 ⟨rfl, hb2⟩
    have HB2 := Lib.hid (HB1.out.trans (hb2.mono HB1.out.size))
    have B2 := Lib.hid (B1.out.under hb2 B1.out.lt)
    clear x0 x1 x2
    by_cases hd : dp ≤ 7
    · have HV2 : Hid (validB t = t.form) := Lib.hid (by rw [HV.out]; simp [hd])
      have HG := Lib.hid (HF.out w2 HB2.out)
      have x0 := B2.out.c0
      have x1 := B2.out.c1
      have x2 := B2.out.c2
      clear hb2
      go_wp2_with fail
      refine HG.out.mono ?_
      rintro e w3 ⟨rfl, hb3⟩
      have HR := Lib.hid (truth_iff HV2.out (HB2.out.trans (hb3.mono HB2.out.size)))
      clear hb3
      go_wp2_with fail
      go_ret
      exact HR.out
    · have HR := Lib.hid (truth_iff (a := validB t) (b := false) (by rw [HV.out]; simp [hd]) HB2.out)
      clear hb2
      go_wp2_with fail
      go_ret
      exact HR.out
  · have HR := Lib.hid (truth_iff (a := validB t) (b := false) (by unfold validB; have := r4 (by omega); simp; omega) HB1.out)
    clear hb1 r3 r4
    go_wp2_with fail
    go_ret
    exact HR.out

def dataB (t : Ty) : Bool := validB t && !(Tr.has 5 t)
end Go.Proofs.Ytlcpekpgkllbkaa

/-
  The model's IsRow.
-/
namespace Go.Proofs.Ytlcpekpgkllbkaa
open Go.RowKit

def baseB (t : Ty) : Bool := decide (t.top.kind = 1) || decide (t.top.kind = 2)
def rowB (t : Ty) : Bool := validB t && (decide (t.top.kind = 3) && t.kids.all baseB)

theorem l3Base_any (t : Ty) (w : World) (cs : List Value) (h : RTy w t cs) : Calls Try.prog 77 #[.agg cs.toArray] w (Truth (baseB t) w) := by
  obtain ⟨a, ks⟩ := t
  obtain ⟨L, c, A, d, rfl, k1, k2, k3, k4, k5, k6, hp⟩ := h.out
  clear h hp k1 k5
  have hR : ∀ (b : Bool) (cs : Array Value), (decide (a.kind = 1) || decide (a.kind = 2)) = b → Truth (baseB (.node a ks)) w (.returned (.bool b)) (w.alloc (.cells cs 36)) := fun b _ hb => truth_iff hb ((Below.refl _ _).alloc (Nat.le_refl _) _)
  have HR := Lib.hid hR
  clear hR
  go_enter Try.func77, Try.ntmps77
  have HR1 := Lib.hid (fun cs => HR.out (a.kind == 1 || a.kind == 2) cs rfl)
  clear HR
  by_cases h1 : a.kind = 1
  · have h1b : (a.kind == 1) = true := by simp [h1]
    rw [h1b] at HR1
    clear h1b
    go_wp2_with fail
    go_ret
    exact HR1.out _
  · go_wp2_with fail
    go_ret
    exact HR1.out _

set_option maxHeartbeats 800000 in
theorem specRow_any (t : Ty) (w : World) (cs : List Value) (h : RTy w t cs) (hw : wt t ≤ 1048576) : Calls Try.prog 38 #[.agg cs.toArray] w (Truth (rowB t) w) := by
  obtain ⟨a, ks⟩ := t
  obtain ⟨L, c, A, d, rfl, k1, k2, k3, k4, k5, k6, hp⟩ := h.out
  obtain ⟨W1, hW1⟩ : ∃ W1, w.alloc (.cells #[.int .i64 a.kind, .slice L a.labels.length c, .slice A ks.length d] 36) = W1 := ⟨_, rfl⟩
  have hb0 : Below w.heap.size w W1 := by rw [← hW1]; exact (Below.refl _ _).alloc (Nat.le_refl _) _
  obtain ⟨H, hH⟩ : ∃ H, w.heap.size = H := ⟨_, rfl⟩
  have b0 : Box3 W1 H 36 (.int .i64 a.kind) (.slice L a.labels.length c) (.slice A ks.length d) := by rw [← hW1, ← hH]; exact Box3.new w _ _ _ _
  have HV := Lib.hid (specValid_any (.node a ks) W1 _ (h.keep hb0) hw)
  have HW1 := Lib.hid hW1
  have HP := Lib.hid hp
  have B0 := Lib.hid b0
  have HB0 := Lib.hid hb0
  have x0 := b0.c0
  have x1 := b0.c1
  have x2 := b0.c2
  clear h hw hW1 b0 hb0 hp k1 k5
  go_enter Try.func38, Try.ntmps38
  go_wp2_with fail
  rw [HW1.out]
  go_wp2_with fail
  refine HV.out.mono ?_
  rintro e w1 ⟨rfl, hb1⟩
  have HB1 := Lib.hid (HB0.out.trans (hb1.mono HB0.out.size))
  have b1 := B0.out.under hb1 B0.out.lt
  have B1 := Lib.hid b1
  clear hb1 x0 x1 x2
  have x0 := b1.c0
  clear b1
  cases hv : validB (.node a ks)
  · have HR := Lib.hid (truth_iff (a := rowB (.node a ks)) (b := false) (by unfold rowB; rw [hv]; rfl) HB1.out)
    clear hv
    go_wp2_with fail
    go_ret
    exact HR.out
  · by_cases h3 : a.kind = 3
    · have HE : Hid (rowB (.node a ks) = ks.all baseB) := Lib.hid (by unfold rowB; rw [hv]; simp [Tr.top, Tr.kids, h3])
      clear hv
      go_wp2_with fail
      go_loopw [3] (fun i wr => ∃ k : Nat, k ≤ ks.length ∧ i = .int .i64 k ∧ AllTo baseB ks k ∧ Below w1.heap.size w1 wr) (fun i _ => ks.length - (intOf i).toNat)
      case atStart => exact ⟨0, Nat.zero_le _, rfl, allTo_zero _ _, Below.refl _ _⟩
      case round =>
        obtain ⟨k, hk, rfl, hno, hb⟩ := hrel
        have hbw := HB1.out.trans (hb.mono HB1.out.size)
        have bk := B1.out.under hb B1.out.lt
        have hbx := bk.c2
        clear bk
        by_cases hlt : k < ks.length
        · obtain ⟨ad, p, c0, c1, c2, rfl, hpe, hr, q0, q1, q2⟩ := kid_at HP.out hbw hlt
          have HC := Lib.hid (l3Base_any ks[k] wr [c0, c1, c2] hr)
          have HN := Lib.hid hno
          have HBW := Lib.hid hbw
          clear hr hno
          go_wp2_with fail
          refine HC.out.mono ?_
          rintro e w2 ⟨rfl, hb2⟩
          have hb3 := hb.trans (hb2.mono hb.size)
          have HB4 := Lib.hid (HBW.out.trans (hb2.mono HBW.out.size))
          cases hf : baseB ks[k]
          · have HR := Lib.hid (truth_iff (a := rowB (.node a ks)) (b := false) (by rw [HE.out, all_not hlt hf]) HB4.out)
            clear hf
            go_wp2_with fail
            go_ret
            exact HR.out
          · have HN2 := Lib.hid (allTo_succ HN.out hlt hf)
            clear hf
            go_wp2_with fail
            go_roundw
            case rel => exact ⟨k + 1, hlt, by go_num, HN2.out, hb3⟩
            case measure => simp [intOf]; omega
        · have he : k = ks.length := by omega
          have HR := Lib.hid (truth_iff (a := rowB (.node a ks)) (b := true) (by rw [HE.out]; exact allTo_all (he ▸ hno)) hbw)
          clear he hno
          go_wp2_with fail
          go_ret
          exact HR.out
    · have HR := Lib.hid (truth_iff (a := rowB (.node a ks)) (b := false) (by unfold rowB; simp [Tr.top, h3]) HB1.out)
      clear hv
      go_wp2_with fail
      go_ret
      exact HR.out
end Go.Proofs.Ytlcpekpgkllbkaa

/-
  The model's EqualType: it says whether the two trees are one.
-/
namespace Go.Proofs.Ytlcpekpgkllbkaa
open Go.RowKit

/-- are the two one? -/
noncomputable def same {β : Type} (x y : β) : Bool := @decide (x = y) (Classical.propDecidable _)
theorem same_yes {β : Type} {x y : β} (h : x = y) : same x y = true := by unfold same; simp [h]
theorem same_no {β : Type} {x y : β} (h : x ≠ y) : same x y = false := by unfold same; simp [h]

def EqTo {β : Type} (xs ys : List β) (k : Nat) : Prop := ∀ j, j < k → xs[j]? = ys[j]?
theorem eqTo_zero {β : Type} (xs ys : List β) : EqTo xs ys 0 := fun j h => by omega
theorem eqTo_succ {β : Type} {xs ys : List β} {k : Nat} (h : EqTo xs ys k) (h1 : k < xs.length) (h2 : k < ys.length) (he : xs[k] = ys[k]) : EqTo xs ys (k + 1) := by
  intro j hj
  by_cases e : j = k
  · subst e
    rw [List.getElem?_eq_getElem h1, List.getElem?_eq_getElem h2, he]
  · exact h j (by omega)
theorem eqTo_all {β : Type} {xs ys : List β} (h : EqTo xs ys xs.length) (hl : xs.length = ys.length) : xs = ys := by
  apply List.ext_getElem?
  intro j
  by_cases hj : j < xs.length
  · exact h j hj
  · rw [List.getElem?_eq_none (by omega), List.getElem?_eq_none (by omega)]
theorem ne_at {β : Type} {xs ys : List β} {k : Nat} (h1 : k < xs.length) (h2 : k < ys.length) (he : xs[k] ≠ ys[k]) : xs ≠ ys := by
  rintro rfl
  exact he rfl

theorem ty_ne {a b : TyA} {ks js : List Ty} (h : a.kind ≠ b.kind ∨ a.labels ≠ b.labels ∨ ks ≠ js) : same (Tr.node a ks) (Tr.node b js) = false := by
  apply same_no
  intro e
  injection e with e1 e2
  subst e1
  subst e2
  rcases h with h | h | h <;> exact h rfl
theorem ty_eq {a b : TyA} {ks js : List Ty} (h1 : a.kind = b.kind) (h2 : a.labels = b.labels) (h3 : ks = js) : same (Tr.node a ks) (Tr.node b js) = true := by
  apply same_yes
  obtain ⟨k, l⟩ := a
  obtain ⟨k', l'⟩ := b
  simp only at h1 h2
  rw [h1, h2, h3]
theorem same_iff {β : Type} {x y : β} : same x y = true ↔ x = y := by unfold same; simp
theorem same_iff_no {β : Type} {x y : β} : same x y = false ↔ x ≠ y := by unfold same; simp

end Go.Proofs.Ytlcpekpgkllbkaa

/-
  The model's l3Texts.
-/
namespace Go.Proofs.Ytlcpekpgkllbkaa
open Go.RowKit
set_option maxHeartbeats 800000 in
set_option maxRecDepth 100000 in
theorem l3Texts_any (A B : Option Addr) (c d : Nat) (xs ys : List ByteArray) (w : World) (hA : Sl w A (xs.map Value.string)) (hB : Sl w B (ys.map Value.string)) (hn : xs.length ≤ 9223372036854775807) :
    Calls Try.prog 92 #[.slice A xs.length c, .slice B ys.length d] w (Tells (same xs ys) w) := by
  by_cases hl : xs.length = ys.length
  · have HL := Lib.hid hl
    rw [← hl]
    clear hl
    go_enter Try.func92, Try.ntmps92
    go_wp2_with fail
    go_loopw [5] (fun i wr => ∃ k : Nat, k ≤ xs.length ∧ i = .int .i64 k ∧ EqTo xs ys k ∧ ∃ n, wr = w.drewN n) (fun i _ => xs.length - (intOf i).toNat)
    case atStart => exact ⟨0, Nat.zero_le _, rfl, eqTo_zero _ _, 0, rfl⟩
    case round =>
      obtain ⟨k, hk, rfl, hno, n, rfl⟩ := hrel
      by_cases hlt : k < xs.length
      · have hlt2 : k < ys.length := by have := HL.out; omega
        obtain ⟨ad, rfl, hc⟩ := hA k (.string xs[k]) (by simp [hlt])
        obtain ⟨bd, rfl, hd⟩ := hB k (.string ys[k]) (by simp [hlt2])
        by_cases hx : xs[k] = ys[k]
        · have HN := Lib.hid (eqTo_succ hno hlt hlt2 hx)
          rw [← hx] at hd
          clear hx hno
          go_wp2
          go_quiet (fail)
          go_wp2
          go_roundw
          case rel => exact ⟨k + 1, by omega, by go_num, HN.out, _, rfl⟩
          case measure => simp [intOf]; omega
        · have HR := Lib.hid (same_no (ne_at hlt hlt2 hx))
          have hb := (Lib.bytes_beq_false_iff xs[k] ys[k]).2 hx
          clear hx hno
          go_wp2
          go_quiet (fail)
          go_wp2
          go_ret
          exact ⟨ret_bool HR.out.symm, _, World.drewN_drewN _ _ _⟩
      · have he : k = xs.length := by omega
        have HR := Lib.hid (same_yes (eqTo_all (he ▸ hno) HL.out))
        clear he hno
        go_wp2_with fail
        go_ret
        exact ⟨ret_bool HR.out.symm, n, rfl⟩
  · have HR := Lib.hid (same_no (x := xs) (y := ys) (fun e => hl (by rw [e])))
    go_enter Try.func92, Try.ntmps92
    go_wp2_with fail
    go_ret
    exact ⟨ret_bool HR.out.symm, 0, rfl⟩
end Go.Proofs.Ytlcpekpgkllbkaa

/-
  The model's EqualType.
-/
namespace Go.Proofs.Ytlcpekpgkllbkaa
open Go.RowKit
set_option maxHeartbeats 1600000 in
set_option maxRecDepth 100000 in
theorem specEq_any : ∀ (t s : Ty) (w : World) (cs ds : List Value), RTy w t cs → RTy w s ds → Calls Try.prog 68 #[.agg cs.toArray, .agg ds.toArray] w (Truth (same t s) w) := by
  refine Tr.ind ?_
  intro a ks ih s w cs ds h h'
  obtain ⟨b, js⟩ := s
  obtain ⟨L, c, A, d, rfl, k1, k2, k3, k4, k5, k6, hp⟩ := h.out
  obtain ⟨L', c', A', d', rfl, k1', k2', k3', k4', k5', k6', hp'⟩ := h'.out
  obtain ⟨p, hp0⟩ : ∃ p, a.kind = p := ⟨_, rfl⟩
  obtain ⟨q, hq0⟩ : ∃ q, b.kind = q := ⟨_, rfl⟩
  obtain ⟨n, hn0⟩ : ∃ n, ks.length = n := ⟨_, rfl⟩
  obtain ⟨m, hm0⟩ : ∃ m, js.length = m := ⟨_, rfl⟩
  rw [hp0, hn0]
  rw [hq0, hm0]
  rw [hp0] at k2 k3
  rw [hq0] at k2' k3'
  rw [hn0] at k6
  rw [hm0] at k6'
  obtain ⟨W1, hW1⟩ : ∃ W1, (w.alloc (.cells #[.int .i64 p, .slice L a.labels.length c, .slice A n d] 36)).alloc (.cells #[.int .i64 q, .slice L' b.labels.length c', .slice A' m d'] 36) = W1 := ⟨_, rfl⟩
  obtain ⟨H, hH⟩ : ∃ H, w.heap.size = H := ⟨_, rfl⟩
  have b0 : Box3 W1 H 36 (.int .i64 p) (.slice L a.labels.length c) (.slice A n d) := by rw [← hW1, ← hH]; exact (Box3.new w _ _ _ _).alloc _
  have b1 : Box3 W1 (H + 1) 36 (.int .i64 q) (.slice L' b.labels.length c') (.slice A' m d') := by
    rw [← hW1, ← hH]
    have := Box3.new (w.alloc (.cells #[.int .i64 p, .slice L a.labels.length c, .slice A n d] 36)) 36 (.int .i64 q) (.slice L' b.labels.length c') (.slice A' m d')
    simpa using this
  have hb1 : Below w.heap.size w W1 := by rw [← hW1]; exact ((Below.refl _ _).alloc (Nat.le_refl _) _).alloc (by simp) _
  have HW1 := Lib.hid hW1
  have HP := Lib.hid (hp.keep hb1)
  have HP' := Lib.hid (hp'.keep hb1)
  have HT := Lib.hid (l3Texts_any L L' c c' a.labels b.labels W1 (k1.below hb1) (k1'.below hb1) k4)
  have HB1 := Lib.hid hb1
  have HI := Lib.hid ih
  have HK := Lib.hid hp0
  have HK' := Lib.hid hq0
  have HN := Lib.hid hn0
  have HN' := Lib.hid hm0
  have B0 := Lib.hid b0
  have B1 := Lib.hid b1
  clear hp hp' ih k1 k1' k5 k5' h h' hb1 hp0 hq0 hn0 hm0
  by_cases hpq : p = q
  · subst hpq
    have x1 := b0.c1
    have y1 := b1.c1
    clear b0 b1 hW1
    go_enter Try.func68, Try.ntmps68
    go_wp2_with fail
    rw [HW1.out]
    refine HT.out.mono ?_
    rintro e W2 ⟨rfl, nd, hW2⟩
    have hb2 : Below W1.heap.size W1 W2 := by rw [hW2]; exact below_drewN (Below.refl _ _) nd
    have hz : H + 1 < W1.heap.size := B1.out.lt
    have B20 := Lib.hid (B0.out.under hb2 B0.out.lt)
    have B21 := Lib.hid (B1.out.under hb2 hz)
    have HB2 := Lib.hid (HB1.out.trans (hb2.mono HB1.out.size))
    have HP2 := Lib.hid (HP.out.keep hb2)
    have HP2' := Lib.hid (HP'.out.keep hb2)
    clear hb2 hW2 x1 y1 hz
    cases hlb : same a.labels b.labels
    · have HR := Lib.hid (truth_iff (a := same (Tr.node a ks) (Tr.node b js)) (b := false) (ty_ne (Or.inr (Or.inl (same_iff_no.1 hlb)))) HB2.out)
      clear hlb
      go_wp2_with fail
      go_ret
      exact HR.out
    · have HLB := Lib.hid (same_iff.1 hlb)
      have x2 := B20.out.c2
      have y2 := B21.out.c2
      clear hlb
      by_cases hnm : n = m
      · subst hnm
        clear x2 y2
        have x2 := B20.out.c2
        have y2 := B21.out.c2
        go_wp2_with fail
        go_loopw [5] (fun i wr => ∃ k : Nat, k ≤ n ∧ i = .int .i64 k ∧ EqTo ks js k ∧ Below W2.heap.size W2 wr) (fun i _ => n - (intOf i).toNat)
        case atStart => exact ⟨0, Nat.zero_le _, rfl, eqTo_zero _ _, Below.refl _ _⟩
        case round =>
          obtain ⟨k, hk, rfl, hno, hb⟩ := hrel
          have z2 := (B20.out.under hb B20.out.lt).c2
          have v2 := (B21.out.under hb B21.out.lt).c2
          have HBW := Lib.hid (HB2.out.trans (hb.mono HB2.out.size))
          have HBR := Lib.hid hb
          by_cases hlt : k < n
          · have hlk : k < ks.length := by rw [HN.out]; exact hlt
            have hlj : k < js.length := by rw [HN'.out]; exact hlt
            obtain ⟨ad, p1, c0, c1, c2, rfl, hpe, hr, q0, q1, q2⟩ := kid_at HP2.out hb hlk
            obtain ⟨bd, p2, d0, d1, d2, rfl, hpe', hr', q0', q1', q2'⟩ := kid_at HP2'.out hb hlj
            have HR := Lib.hid hr
            have HR' := Lib.hid hr'
            have HNO := Lib.hid hno
            clear hr hr' hb hno
            go_wp2_with fail
            go_still_tail 10, (by kernel_rfl)
            change wpList _ _ _ _ _ wr.drew
            have hd : Below wr.heap.size wr wr.drew := (Below.refl _ _).drew
            have HC := Lib.hid (HI.out ks[k] (List.getElem_mem hlk) js[k] wr.drew [c0, c1, c2] [d0, d1, d2] (HR.out.keep hd) (HR'.out.keep hd))
            have HBW2 := Lib.hid (HBW.out.trans (hd.mono HBW.out.size))
            have HBR2 := Lib.hid (HBR.out.trans (hd.mono HBR.out.size))
            clear hd
            go_wp2_with fail
            refine HC.out.mono ?_
            rintro e w3 ⟨rfl, hb3⟩
            have HBW3 := Lib.hid (HBW2.out.trans (hb3.mono HBW2.out.size))
            have HBR3 := Lib.hid (HBR2.out.trans (hb3.mono HBR2.out.size))
            clear hb3
            cases hf : same ks[k] js[k]
            · have HR := Lib.hid (truth_iff (a := same (Tr.node a ks) (Tr.node b js)) (b := false) (ty_ne (Or.inr (Or.inr (ne_at hlk hlj (same_iff_no.1 hf))))) HBW3.out)
              clear hf
              go_wp2_with fail
              go_ret
              exact HR.out
            · have HN2 := Lib.hid (eqTo_succ HNO.out hlk hlj (same_iff.1 hf))
              clear hf
              go_wp2_with fail
              go_roundw
              case rel => exact ⟨k + 1, hlt, by go_num, HN2.out, HBR3.out⟩
              case measure => simp [intOf]; omega
          · have he : k = n := by omega
            have hks : ks = js := eqTo_all (by rw [HN.out, ← he]; exact hno) (by rw [HN.out, HN'.out])
            have HR := Lib.hid (truth_iff (a := same (Tr.node a ks) (Tr.node b js)) (b := true) (ty_eq (by rw [HK.out, HK'.out]) HLB.out hks) HBW.out)
            clear he hno hks hb
            go_wp2_with fail
            go_ret
            exact HR.out
      · have HR := Lib.hid (truth_iff (a := same (Tr.node a ks) (Tr.node b js)) (b := false) (ty_ne (Or.inr (Or.inr (fun e => hnm (by rw [← HN.out, ← HN'.out, e]))))) HB2.out)
        go_wp2_with fail
        go_ret
        exact HR.out
  · have HR := Lib.hid (fun cs ds => truth_iff (w := w) (w' := (w.alloc (.cells cs 36)).alloc (.cells ds 36)) (a := same (Tr.node a ks) (Tr.node b js)) (b := false) (ty_ne (Or.inl (by rw [HK.out, HK'.out]; exact hpq))) (((Below.refl _ _).alloc (Nat.le_refl _) _).alloc (by simp) _))
    clear b0 b1 hW1
    go_enter Try.func68, Try.ntmps68
    go_wp2_with fail
    go_ret
    exact HR.out _ _
end Go.Proofs.Ytlcpekpgkllbkaa
