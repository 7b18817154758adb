/-
  Merged by program: TySameS, SchD.
-/
import Derived.Test.YtlcpekpgkllbkaaE33
import Derived.Test.YtlcpekpgkllbkaaE13
import Derived.Test.YtlcpekpgkllbkaaE22
import Derived.Test.YtlcpekpgkllbkaaE31

/-
  The model's EqualType.
-/
namespace Go.Proofs.Ytlcpekpgkllbkaa
open Go.RowKit
set_option maxHeartbeats 1600000 in
set_option maxRecDepth 100000 in
theorem specEq_any : ∀ (t s : Ty) (w : World) (cs ds : List Value), RTy w t cs → RTy w s ds → Calls Try.prog 68 #[.agg cs.toArray, .agg ds.toArray] w (Truth (same t s) w) := by
  refine Tr.ind ?_
  intro a ks ih s w cs ds h h'
  obtain ⟨b, js⟩ := s
  obtain ⟨L, c, A, d, rfl, k1, k2, k3, k4, k5, k6, hp⟩ := h.out
  obtain ⟨L', c', A', d', rfl, k1', k2', k3', k4', k5', k6', hp'⟩ := h'.out
  obtain ⟨p, hp0⟩ : ∃ p, a.kind = p := ⟨_, rfl⟩
  obtain ⟨q, hq0⟩ : ∃ q, b.kind = q := ⟨_, rfl⟩
  obtain ⟨n, hn0⟩ : ∃ n, ks.length = n := ⟨_, rfl⟩
  obtain ⟨m, hm0⟩ : ∃ m, js.length = m := ⟨_, rfl⟩
  rw [hp0, hn0]
  rw [hq0, hm0]
  rw [hp0] at k2 k3
  rw [hq0] at k2' k3'
  rw [hn0] at k6
  rw [hm0] at k6'
  obtain ⟨W1, hW1⟩ : ∃ W1, (w.alloc (.cells #[.int .i64 p, .slice L a.labels.length c, .slice A n d] 36)).alloc (.cells #[.int .i64 q, .slice L' b.labels.length c', .slice A' m d'] 36) = W1 := ⟨_, rfl⟩
  obtain ⟨H, hH⟩ : ∃ H, w.heap.size = H := ⟨_, rfl⟩
  have b0 : Box3 W1 H 36 (.int .i64 p) (.slice L a.labels.length c) (.slice A n d) := by rw [← hW1, ← hH]; exact (Box3.new w _ _ _ _).alloc _
  have b1 : Box3 W1 (H + 1) 36 (.int .i64 q) (.slice L' b.labels.length c') (.slice A' m d') := by
    rw [← hW1, ← hH]
    have := Box3.new (w.alloc (.cells #[.int .i64 p, .slice L a.labels.length c, .slice A n d] 36)) 36 (.int .i64 q) (.slice L' b.labels.length c') (.slice A' m d')
    simpa using this
  have hb1 : Below w.heap.size w W1 := by rw [← hW1]; exact ((Below.refl _ _).alloc (Nat.le_refl _) _).alloc (by simp) _
  have HW1 := Lib.hid hW1
  have HP := Lib.hid (hp.keep hb1)
  have HP' := Lib.hid (hp'.keep hb1)
  have HT := Lib.hid (l3Texts_any L L' c c' a.labels b.labels W1 (k1.below hb1) (k1'.below hb1) k4)
  have HB1 := Lib.hid hb1
  have HI := Lib.hid ih
  have HK := Lib.hid hp0
  have HK' := Lib.hid hq0
  have HN := Lib.hid hn0
  have HN' := Lib.hid hm0
  have B0 := Lib.hid b0
  have B1 := Lib.hid b1
  clear hp hp' ih k1 k1' k5 k5' h h' hb1 hp0 hq0 hn0 hm0
  by_cases hpq : p = q
  · subst hpq
    have x1 := b0.c1
    have y1 := b1.c1
    clear b0 b1 hW1
    go_enter Try.func68, Try.ntmps68
    go_wp2_with fail
    rw [HW1.out]
    refine HT.out.mono ?_
    rintro e W2 ⟨rfl, nd, hW2⟩
    have hb2 : Below W1.heap.size W1 W2 := by rw [hW2]; exact below_drewN (Below.refl _ _) nd
    have hz : H + 1 < W1.heap.size := B1.out.lt
    have B20 := Lib.hid (B0.out.under hb2 B0.out.lt)
    have B21 := Lib.hid (B1.out.under hb2 hz)
    have HB2 := Lib.hid (HB1.out.trans (hb2.mono HB1.out.size))
    have HP2 := Lib.hid (HP.out.keep hb2)
    have HP2' := Lib.hid (HP'.out.keep hb2)
    clear hb2 hW2 x1 y1 hz
    cases hlb : same a.labels b.labels
    · have HR := Lib.hid (truth_iff (a := same (Tr.node a ks) (Tr.node b js)) (b := false) (ty_ne (Or.inr (Or.inl (same_iff_no.1 hlb)))) HB2.out)
      clear hlb
      go_wp2_with fail
      go_ret
      exact HR.out
    · have HLB := Lib.hid (same_iff.1 hlb)
      have x2 := B20.out.c2
      have y2 := B21.out.c2
      clear hlb
      by_cases hnm : n = m
      · subst hnm
        clear x2 y2
        have x2 := B20.out.c2
        have y2 := B21.out.c2
        go_wp2_with fail
        go_loopw [5] (fun i wr => ∃ k : Nat, k ≤ n ∧ i = .int .i64 k ∧ EqTo ks js k ∧ Below W2.heap.size W2 wr) (fun i _ => n - (intOf i).toNat)
        case atStart => exact ⟨0, Nat.zero_le _, rfl, eqTo_zero _ _, Below.refl _ _⟩
        case round =>
          obtain ⟨k, hk, rfl, hno, hb⟩ := hrel
          have z2 := (B20.out.under hb B20.out.lt).c2
          have v2 := (B21.out.under hb B21.out.lt).c2
          have HBW := Lib.hid (HB2.out.trans (hb.mono HB2.out.size))
          have HBR := Lib.hid hb
          by_cases hlt : k < n
          · have hlk : k < ks.length := by rw [HN.out]; exact hlt
            have hlj : k < js.length := by rw [HN'.out]; exact hlt
            obtain ⟨ad, p1, c0, c1, c2, rfl, hpe, hr, q0, q1, q2⟩ := kid_at HP2.out hb hlk
            obtain ⟨bd, p2, d0, d1, d2, rfl, hpe', hr', q0', q1', q2'⟩ := kid_at HP2'.out hb hlj
            have HR := Lib.hid hr
            have HR' := Lib.hid hr'
            have HNO := Lib.hid hno
            clear hr hr' hb hno
            go_wp2_with fail
            go_still_tail 10, (by kernel_rfl)
            change wpList _ _ _ _ _ wr.drew
            have hd : Below wr.heap.size wr wr.drew := (Below.refl _ _).drew
            have HC := Lib.hid (HI.out ks[k] (List.getElem_mem hlk) js[k] wr.drew [c0, c1, c2] [d0, d1, d2] (HR.out.keep hd) (HR'.out.keep hd))
            have HBW2 := Lib.hid (HBW.out.trans (hd.mono HBW.out.size))
            have HBR2 := Lib.hid (HBR.out.trans (hd.mono HBR.out.size))
            clear hd
            go_wp2_with fail
            refine HC.out.mono ?_
            rintro e w3 ⟨rfl, hb3⟩
            have HBW3 := Lib.hid (HBW2.out.trans (hb3.mono HBW2.out.size))
            have HBR3 := Lib.hid (HBR2.out.trans (hb3.mono HBR2.out.size))
            clear hb3
            cases hf : same ks[k] js[k]
            · have HR := Lib.hid (truth_iff (a := same (Tr.node a ks) (Tr.node b js)) (b := false) (ty_ne (Or.inr (Or.inr (ne_at hlk hlj (same_iff_no.1 hf))))) HBW3.out)
              clear hf
              go_wp2_with fail
              go_ret
              exact HR.out
            · have HN2 := Lib.hid (eqTo_succ HNO.out hlk hlj (same_iff.1 hf))
              clear hf
              go_wp2_with fail
              go_roundw
              case rel => exact ⟨k + 1, hlt, by go_num, HN2.out, HBR3.out⟩
              case measure => simp [intOf]; omega
          · have he : k = n := by omega
            have hks : ks = js := eqTo_all (by rw [HN.out, ← he]; exact hno) (by rw [HN.out, HN'.out])
            have HR := Lib.hid (truth_iff (a := same (Tr.node a ks) (Tr.node b js)) (b := true) (ty_eq (by rw [HK.out, HK'.out]) HLB.out hks) HBW.out)
            clear he hno hks hb
            go_wp2_with fail
            go_ret
            exact HR.out
      · have HR := Lib.hid (truth_iff (a := same (Tr.node a ks) (Tr.node b js)) (b := false) (ty_ne (Or.inr (Or.inr (fun e => hnm (by rw [← HN.out, ← HN'.out, e]))))) HB2.out)
        go_wp2_with fail
        go_ret
        exact HR.out
  · have HR := Lib.hid (fun cs ds => truth_iff (w := w) (w' := (w.alloc (.cells cs 36)).alloc (.cells ds 36)) (a := same (Tr.node a ks) (Tr.node b js)) (b := false) (ty_ne (Or.inl (by rw [HK.out, HK'.out]; exact hpq))) (((Below.refl _ _).alloc (Nat.le_refl _) _).alloc (by simp) _))
    clear b0 b1 hW1
    go_enter Try.func68, Try.ntmps68
    go_wp2_with fail
    go_ret
    exact HR.out _ _
end Go.Proofs.Ytlcpekpgkllbkaa

/-
  Schemas and databases as lists: what the document's chapter 9 asks of them, in plain words. Hangs on no function of the program.
-/
namespace Go.Proofs.Ytlcpekpgkllbkaa
open Go.RowKit

def declB (d : Dc) : Bool := nameB d.1 && rowB d.2
def namesOf (xs : Sc) : List ByteArray := xs.map fun d => d.1
def schB (xs : Sc) : Bool := xs.all declB && (decide (xs.length ≤ 4) && ascL (namesOf xs))
theorem all_take {α : Type} {f : α → Bool} {xs : List α} {k : Nat} (h : (xs.take k).all f = true) (hk : k < xs.length) (hf : f xs[k] = true) : (xs.take (k + 1)).all f = true := by
  rw [List.take_add_one, List.getElem?_eq_getElem hk, List.all_append, h]
  simp [hf]
theorem all_no {α : Type} {f : α → Bool} {xs : List α} {k : Nat} (hk : k < xs.length) (hf : f xs[k] = false) : xs.all f = false := by
  rw [List.all_eq_false]
  exact ⟨xs[k], List.getElem_mem hk, by simp [hf]⟩
theorem sch_no {xs : Sc} {k : Nat} (hk : k < xs.length) (hf : declB xs[k] = false) : schB xs = false := by unfold schB; rw [all_no hk hf]; rfl
theorem sch_all {xs : Sc} (h : (xs.take xs.length).all declB = true) : schB xs = (decide (xs.length ≤ 4) && ascL (namesOf xs)) := by
  rw [List.take_length] at h
  unfold schB
  rw [h]
  rfl
theorem namesOf_take (xs : Sc) (k : Nat) (hk : k < xs.length) : (namesOf (xs.take (k + 1))).map Value.string = (namesOf (xs.take k)).map Value.string ++ [.string xs[k].1] := by
  unfold namesOf
  rw [List.take_add_one, List.getElem?_eq_getElem hk, List.map_append, List.map_append]
  rfl
noncomputable def sameDc (a b : Dc) : Bool := decide (a.1 = b.1) && same a.2 b.2
def allPairs {α β : Type} (f : α → β → Bool) (xs : List α) (ys : List β) : Bool := (xs.zip ys).all fun p => f p.1 p.2
theorem pairs_no {α β : Type} {f : α → β → Bool} {xs : List α} {ys : List β} {k : Nat} (h1 : k < xs.length) (h2 : k < ys.length) (hf : f xs[k] ys[k] = false) : allPairs f xs ys = false := by
  unfold allPairs
  have hk : k < (xs.zip ys).length := by rw [List.length_zip]; omega
  exact all_no hk (by rw [List.getElem_zip]; exact hf)
def PairsTo {α β : Type} (f : α → β → Bool) (xs : List α) (ys : List β) (k : Nat) : Prop := ((xs.zip ys).take k).all (fun p => f p.1 p.2) = true
theorem pairsTo_zero {α β : Type} (f : α → β → Bool) (xs : List α) (ys : List β) : PairsTo f xs ys 0 := by simp [PairsTo]
theorem pairsTo_more {α β : Type} {f : α → β → Bool} {xs : List α} {ys : List β} {k : Nat} (h : PairsTo f xs ys k) (h1 : k < xs.length) (h2 : k < ys.length) (hf : f xs[k] ys[k] = true) : PairsTo f xs ys (k + 1) := by
  have hk : k < (xs.zip ys).length := by rw [List.length_zip]; omega
  exact all_take h hk (by rw [List.getElem_zip]; exact hf)
theorem pairsTo_all {α β : Type} {f : α → β → Bool} {xs : List α} {ys : List β} (h : PairsTo f xs ys xs.length) : allPairs f xs ys = true := by
  unfold PairsTo at h
  rw [List.take_of_length_le (by rw [List.length_zip]; omega)] at h
  exact h
noncomputable def eqScB (a b : Sc) : Bool := decide (a.length = b.length) && allPairs sameDc a b
end Go.Proofs.Ytlcpekpgkllbkaa
