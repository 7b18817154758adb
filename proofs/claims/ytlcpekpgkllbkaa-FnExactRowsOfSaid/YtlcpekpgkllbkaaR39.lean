/-
  Merged by program: Pre2C, NodC, NumW, CmpS.
-/
import Derived.Test.YtlcpekpgkllbkaaR37
import Derived.Test.YtlcpekpgkllbkaaR24
import Derived.Test.YtlcpekpgkllbkaaR33
import Derived.Test.YtlcpekpgkllbkaaR10
import Derived.Test.YtlcpekpgkllbkaaR4
import Derived.Test.YtlcpekpgkllbkaaR1
import Derived.Test.YtlcpekpgkllbkaaR7
import Derived.Test.YtlcpekpgkllbkaaR23
import Derived.Test.YtlcpekpgkllbkaaR22
import Derived.StillTailTactics
import Derived.Deep.RegionHeld3

/-
  Two values compared node by node in the order of the walk by pairs. Hangs on no program.
-/
namespace Go.Proofs.Ytlcpekpgkllbkaa
open Go.RowKit

/-- the first pair of nodes that is not alike decides -/
def ndC (p : Va × Va) : Int := nodeC p.1.top p.1.kids.length p.2.top p.2.kids.length
def fstC : List (Va × Va) → Int
  | [] => 0
  | p :: ps => orC (ndC p) (fstC ps)
theorem orC_nil2 (a : Int) : orC a 0 = a := by unfold orC; split <;> simp_all
theorem orC_ass (a b c : Int) : orC (orC a b) c = orC a (orC b c) := by
  unfold orC
  by_cases h : a = 0
  · simp [h]
  · simp [h]
theorem fstC_app (ps qs : List (Va × Va)) : fstC (ps ++ qs) = orC (fstC ps) (fstC qs) := by
  induction ps with
  | nil => rfl
  | cons p ps ih => rw [List.cons_append, fstC, ih, fstC, orC_ass]
theorem ndC_len {x y : Va} (h : ndC (x, y) = 0) : x.kids.length = y.kids.length := by
  unfold ndC nodeC at h
  exact (keyV_inj ((ordKey.zero _ _).1 h)).2
theorem fstC_pre2 : ∀ x y : Va, fstC (pre2 x y) = cmpV x y := by
  refine Tr.ind ?_
  intro a ks ih y
  obtain ⟨b, ls⟩ := y
  have hL : ∀ (ts us : List Va), (∀ t ∈ ts, t ∈ ks) → ts.length = us.length → fstC (pairL ts us) = lexC cmpV ts us := by
    intro ts
    induction ts with
    | nil =>
      intro us _ hl
      match us, hl with
      | [], _ => rfl
    | cons t ts iht =>
      intro us hm hl
      match us, hl with
      | u :: us, hl =>
        rw [pairL_cons, fstC_app, ih t (hm t (by simp)) u, iht us (fun z hz => hm z (by simp [hz])) (by simpa using hl)]
        rfl
  rw [pre2_top, fstC, cmpV_node]
  show orC (nodeC a ks.length b ls.length) (fstC (pairL ks ls)) = _
  by_cases h0 : nodeC a ks.length b ls.length = 0
  · rw [hL ks ls (fun _ h => h) (ndC_len (x := .node a ks) (y := .node b ls) h0)]
  · unfold orC
    rw [if_neg h0, if_neg h0]
/-- up to k all is alike, the k-th pair is not -/
theorem cmpV_at {x y : Va} {k : Nat} {p : Va × Va} (h : ∀ j q, j < k → (pre2 x y)[j]? = some q → ndC q = 0) (hk : (pre2 x y)[k]? = some p) (hp : ndC p ≠ 0) : cmpV x y = ndC p := by
  rw [← fstC_pre2]
  generalize pre2 x y = ps at h hk
  induction ps generalizing k with
  | nil => simp at hk
  | cons q ps ih =>
    cases k with
    | zero =>
      simp at hk
      subst hk
      rw [fstC]
      unfold orC
      rw [if_neg hp]
    | succ k =>
      rw [fstC, h 0 q (by omega) rfl]
      exact ih (k := k) (fun j r hj hr => h (j + 1) r (by omega) (by simpa using hr)) (by simpa using hk)
theorem cmpV_all {x y : Va} (h : ∀ q ∈ pre2 x y, ndC q = 0) : cmpV x y = 0 := by
  rw [← fstC_pre2]
  generalize pre2 x y = ps at h
  induction ps with
  | nil => rfl
  | cons q ps ih =>
    rw [fstC, h q (by simp)]
    exact ih fun r hr => h r (by simp [hr])
end Go.Proofs.Ytlcpekpgkllbkaa

/-
  What clients of an iterator over nodes keep. Hangs on no program (but for the type of a counter).
-/
namespace Go.Proofs.Ytlcpekpgkllbkaa
open Go.RowKit

/-- the first of the k-th pair is ds k -/
def DRd (ds : Nat → Nat) (k : Nat) (v : Array Value) : Prop := ∃ u, v = #[.int .i64 (ds k : Int), u]
theorem DRd.size {ds : Nat → Nat} {k : Nat} {v : Array Value} (h : DRd ds k v) : v.size = 2 := by
  obtain ⟨u, rfl⟩ := h
  rfl
theorem GivesN.weaken {N : Fence} {n : Nat} {P : Program} {g : Nat} {lb : Array Value} {M : Nat} {Rd Rd' : Nat → Array Value → Prop} {On Keep : Nat → Prop} {W : World} (h : GivesN N n P g lb M Rd On Keep W) (hR : ∀ k v, Rd k v → Rd' k v) : GivesN N n P g lb M Rd' On Keep W :=
  fun l J Jx hJ hB hY h0 => h l J Jx hJ hB (fun k v F W1 hk hj hr => hY k v F W1 hk hj (hR k v hr)) h0
/-- a variable in block H holds f k; nothing below has changed -/
def NumI (w : World) (H : Nat) (f : Nat → Nat) (N k : Nat) (F : Nat → Prop) (W : World) : Prop := k ≤ N ∧ F = (fun b => b = H) ∧ Boxed W H 3 (.int .i64 (f k : Int)) ∧ Below w.heap.size w W
theorem NumI.keep {w A C : World} {H : Nat} {f : Nat → Nat} {N k : Nat} {F : Nat → Prop} {D : Nat} (h : NumI w H f N k F A) (hh : Held (fun i => i < D ∨ F i) A C) (hD : w.heap.size ≤ D := by omega) : NumI w H f N k F C := by
  obtain ⟨h1, rfl, h3, h4⟩ := h
  exact ⟨h1, rfl, (hh.block H h3.lt (.inr rfl)).trans h3, h4.trans (hh.below h4.size fun i hi => .inl (by omega))⟩
theorem NumI.bnd {w A : World} {H : Nat} {f : Nat → Nat} {N k : Nat} {F : Nat → Prop} (h : NumI w H f N k F A) (hH : w.heap.size = H) : ∀ b, F b → ¬ b < w.heap.size ∧ b < A.heap.size := by
  obtain ⟨_, rfl, h3, _⟩ := h
  rintro b rfl
  exact ⟨by omega, h3.lt⟩
end Go.Proofs.Ytlcpekpgkllbkaa

/-
  A call that answers a number and leaves the world as it was.
-/
namespace Go.Proofs.Ytlcpekpgkllbkaa
open Go.RowKit

def Num (n : Int) (w : World) (e : Ending) (w' : World) : Prop := e = .returned (.int .i64 n) ∧ w = w'
end Go.Proofs.Ytlcpekpgkllbkaa

/-
  The model's CompareValues.
-/
namespace Go.Proofs.Ytlcpekpgkllbkaa
open Go.RowKit

theorem gtr_run (t : TypeId) (x y : ByteArray) {b : Bool} (h : Op.bytesLess y.toList x.toList = b) : binOp .gtr t (.string x) (.string y) = pure (.bool b) := by
  have he : (!Op.bytesLess x.toList y.toList && !x.toList == y.toList) = b := by
    rw [← h]
    by_cases h1 : Op.bytesLess y.toList x.toList = true
    · have l := (lt_iff y x).1 h1
      have h2 := (not_lt_iff x y).2 l.asymm
      have h3 : (x.toList == y.toList) = false := by
        rw [beq_eq_false_iff_ne, ByteArray.toList_eq, ByteArray.toList_eq]
        intro e
        have : x = y := ByteArray.ext (Array.toList_inj.1 e)
        subst this
        exact Lt.irrefl x l
      rw [h1, h2, h3]; rfl
    · have h1' : Op.bytesLess y.toList x.toList = false := by simpa using h1
      rw [h1']
      by_cases h2 : x = y
      · subst h2
        simp
      · have l := Lt.total ((not_lt_iff y x).1 h1') (fun e => h2 e.symm)
        rw [(lt_iff x y).2 l]; rfl
  simp [binOp, Op.stringOp, he]

theorem bit_any (w : World) (b : Bool) : Calls Try.prog 118 #[.bool b] w (Num (if b = true then 1 else 0) w) := by
  go_enter Try.func118, Try.ntmps118
  cases b
  · go_wp2_with fail
    go_ret
    exact ⟨rfl, rfl⟩
  · go_wp2_with fail
    go_ret
    exact ⟨rfl, rfl⟩
set_option maxRecDepth 100000 in
theorem l5Number_any (a b : Int) (w : World) : Calls Try.prog 94 #[.int .i64 a, .int .i64 b] w (Num (numC a b) w) := by
  have HT := Lib.hid (bit_any w true)
  have HF := Lib.hid (bit_any w false)
  by_cases h1 : a < b
  · have hN : numC a b = -1 := by unfold numC; rw [if_pos h1]
    have h2 : ¬ b < a := by omega
    have HR : Hid (Num (numC a b) w (.returned (.int .i64 (-1))) w) := ⟨by rw [hN], rfl⟩
    clear hN
    go_enter Try.func94, Try.ntmps94
    go_wp2_with fail
    refine HF.out.mono ?_
    rintro e w' ⟨rfl, rfl⟩
    go_wp2_with fail
    refine HT.out.mono ?_
    rintro e w' ⟨rfl, rfl⟩
    go_wp2_with fail
    go_ret
    exact HR.out
  · by_cases h2 : b < a
    · have hN : numC a b = 1 := by unfold numC; rw [if_neg h1, if_pos h2]
      have HR : Hid (Num (numC a b) w (.returned (.int .i64 1)) w) := ⟨by rw [hN], rfl⟩
      clear hN
      go_enter Try.func94, Try.ntmps94
      go_wp2_with fail
      refine HT.out.mono ?_
      rintro e w' ⟨rfl, rfl⟩
      go_wp2_with fail
      rw [decide_eq_false (by omega)]
      refine HF.out.mono ?_
      rintro e w' ⟨rfl, rfl⟩
      go_wp2_with fail
      go_ret
      exact HR.out
    · have hN : numC a b = 0 := by unfold numC; rw [if_neg h1, if_neg h2]
      have HR : Hid (Num (numC a b) w (.returned (.int .i64 0)) w) := ⟨by rw [hN], rfl⟩
      clear hN
      go_enter Try.func94, Try.ntmps94
      go_wp2_with fail
      refine HF.out.mono ?_
      rintro e w' ⟨rfl, rfl⟩
      go_wp2_with fail
      rw [decide_eq_false (by omega)]
      refine HF.out.mono ?_
      rintro e w' ⟨rfl, rfl⟩
      go_wp2_with fail
      go_ret
      exact HR.out

theorem lexC_at {xs ys : List ByteArray} {k : Nat} (h1 : k < xs.length) (h2 : k < ys.length) : lexC strC (xs.drop k) (ys.drop k) = orC (strC xs[k] ys[k]) (lexC strC (xs.drop (k + 1)) (ys.drop (k + 1))) := by
  rw [List.drop_eq_getElem_cons h1, List.drop_eq_getElem_cons h2, lexC]
set_option maxHeartbeats 1600000 in
set_option maxRecDepth 100000 in
theorem l5Labels_any (A B : Option Addr) (c d : Nat) (xs ys : List ByteArray) (w : World) (h : Sl w A (xs.map Value.string)) (h' : Sl w B (ys.map Value.string)) (hn : xs.length ≤ 9223372036854775807) :
    Calls Try.prog 95 #[.slice A xs.length c, .slice B ys.length d] w (Counts (lexC strC xs ys) w) := by
  have HX := Lib.hid h
  have HY := Lib.hid h'
  clear h h'
  obtain ⟨N, hN⟩ : ∃ N, lexC strC xs ys = N := ⟨_, rfl⟩
  rw [hN]
  go_enter Try.func95, Try.ntmps95
  go_wp2_with fail
  go_loopw [5] (fun i wr => ∃ k : Nat, i = .int .i64 (k : Int) ∧ k ≤ xs.length ∧ k ≤ ys.length ∧ lexC strC (xs.drop k) (ys.drop k) = N ∧ ∃ n, wr = w.drewN n) (fun i _ => xs.length - (intOf i).toNat)
  case atStart => exact ⟨0, rfl, Nat.zero_le _, Nat.zero_le _, hN, 0, rfl⟩
  case round =>
    obtain ⟨k, rfl, hk, hk', hz, n, rfl⟩ := hrel
    have HZ := Lib.hid hz
    clear hz hN
    by_cases hlt : k < xs.length
    · obtain ⟨ad, rfl, hc⟩ := HX.out k (.string (xs[k]'hlt)) (by simp [hlt])
      by_cases hlt' : k < ys.length
      · obtain ⟨bd, rfl, hc'⟩ := HY.out k (.string (ys[k]'hlt')) (by simp [hlt'])
        have hs := lexC_at hlt hlt'
        rw [HZ.out] at hs
        by_cases he : xs[k] = ys[k]
        · have HS : Hid (lexC strC (xs.drop (k + 1)) (ys.drop (k + 1)) = N) := by
            show _ = _
            rw [hs, (Ord.strC.zero _ _).2 he]; rfl
          rw [← he] at hc'
          clear hs he
          go_wp2
          go_quiet (fail)
          go_wp2
          go_roundw
          case rel => exact ⟨k + 1, by go_num, hlt, hlt', HS.out, _, rfl⟩
          case measure => simp [intOf]; omega
        · have hb := (Lib.bytes_beq_false_iff xs[k] ys[k]).2 he
          have hne : strC xs[k] ys[k] ≠ 0 := fun e => he ((Ord.strC.zero _ _).1 e)
          have HC : Hid (N = strC xs[k] ys[k]) := by
            show _ = _
            rw [hs]; unfold orC; rw [if_neg hne]
          have hsd : strC xs[k] ys[k] = if ltB xs[k] ys[k] = true then -1 else if ltB ys[k] xs[k] = true then 1 else 0 := rfl
          unfold ltB at hsd
          rcases strC_cases xs[k] ys[k] with ⟨hl, hv⟩ | ⟨hl, hv⟩ | ⟨hl, hv⟩
          · have l1 : Op.bytesLess xs[k].toList ys[k].toList = true := (lt_iff _ _).2 hl
            have l2 : Op.bytesLess ys[k].toList xs[k].toList = false := (not_lt_iff _ _).2 hl.asymm
            have hq := gtr_run 9 xs[k] ys[k] l2
            have HR : Hid (∀ w' r, r = -1 → Below w.heap.size w w' → Counts N w (.returned (.int .i64 r)) w') := fun w' r hr hb => ⟨by rw [HC.out, hv, hr], hb⟩
            clear hs hsd he hne hv hl
            have HD := Lib.hid hc
            go_wp2
            go_quiet (fail)
            go_wp2
            have HTT := Lib.hid (fun W => bit_any W true)
            have HFF := Lib.hid (fun W => bit_any W false)
            go_region_held3 (fun W => W.cell? (ad.add k) = some (.string xs[k]) ∧ W.cell? (bd.add k) = some (.string ys[k]))
              (first | (refine ⟨?_, ?_⟩ <;> assumption) | go_keep)
              (first
                | (go_at_call 118; refine (HTT.out _).mono ?_; rintro e w' ⟨rfl, rfl⟩)
                | (go_at_call 118; refine (HFF.out _).mono ?_; rintro e w' ⟨rfl, rfl⟩))
            go_wp2_with fail
            go_ret
            exact HR.out _ _ (by decide) (below_drewN (Below.refl _ _) _)
          · have l1 : Op.bytesLess ys[k].toList xs[k].toList = true := (lt_iff _ _).2 hl
            have l2 : Op.bytesLess xs[k].toList ys[k].toList = false := (not_lt_iff _ _).2 hl.asymm
            have hq := gtr_run 9 xs[k] ys[k] l1
            have HR : Hid (∀ w' r, r = 1 → Below w.heap.size w w' → Counts N w (.returned (.int .i64 r)) w') := fun w' r hr hb => ⟨by rw [HC.out, hv, hr], hb⟩
            clear hs hsd he hne hv hl
            have HD := Lib.hid hc
            go_wp2
            go_quiet (fail)
            go_wp2
            have HTT := Lib.hid (fun W => bit_any W true)
            have HFF := Lib.hid (fun W => bit_any W false)
            go_region_held3 (fun W => W.cell? (ad.add k) = some (.string xs[k]) ∧ W.cell? (bd.add k) = some (.string ys[k]))
              (first | (refine ⟨?_, ?_⟩ <;> assumption) | go_keep)
              (first
                | (go_at_call 118; refine (HTT.out _).mono ?_; rintro e w' ⟨rfl, rfl⟩)
                | (go_at_call 118; refine (HFF.out _).mono ?_; rintro e w' ⟨rfl, rfl⟩))
            go_wp2_with fail
            go_ret
            exact HR.out _ _ (by decide) (below_drewN (Below.refl _ _) _)
          · exact absurd hl he
      · have hN : N = 1 := by
          have e : ys.drop k = [] := List.drop_eq_nil_of_le (by omega)
          rw [← HZ.out, e, List.drop_eq_getElem_cons hlt]
          rfl
        have hnc : numC xs.length ys.length = 1 := by unfold numC; rw [if_neg (by omega), if_pos (by omega)]
        have HC := Lib.hid (l5Number_any xs.length ys.length (w.drewN n))
        rw [hnc] at HC
        subst hN
        clear hnc
        go_wp2_with fail
        refine HC.out.mono ?_
        rintro e w' ⟨rfl, rfl⟩
        go_wp2_with fail
        go_ret
        exact ⟨rfl, below_drewN (Below.refl _ _) n⟩
    · have hN : N = numC xs.length ys.length := by
        rw [← HZ.out, List.drop_eq_nil_of_le (by omega)]
        unfold numC
        by_cases hlt' : xs.length < ys.length
        · rw [List.drop_eq_getElem_cons (by omega : k < ys.length), if_pos (by omega)]
          rfl
        · rw [List.drop_eq_nil_of_le (by omega), if_neg (by omega), if_neg (by omega)]
          rfl
      have HC := Lib.hid (l5Number_any xs.length ys.length (w.drewN n))
      rw [← hN] at HC
      clear hN
      go_wp2_with fail
      refine HC.out.mono ?_
      rintro e w' ⟨rfl, rfl⟩
      go_wp2_with fail
      go_ret
      exact ⟨rfl, below_drewN (Below.refl _ _) n⟩
theorem lexC_atV {xs ys : List Va} {k : Nat} (h1 : k < xs.length) (h2 : k < ys.length) : lexC cmpV (xs.drop k) (ys.drop k) = orC (cmpV xs[k] ys[k]) (lexC cmpV (xs.drop (k + 1)) (ys.drop (k + 1))) := by
  rw [List.drop_eq_getElem_cons h1, List.drop_eq_getElem_cons h2, lexC]
theorem orC_assoc' (a b c : Int) : orC (orC a b) c = orC a (orC b c) := by
  unfold orC
  by_cases h : a = 0
  · simp [h]
  · simp [h]
theorem orC_zl (a : Int) : orC 0 a = a := rfl
theorem orC_zr (a : Int) : orC a 0 = a := by unfold orC; split <;> simp_all
theorem orC_ne {a : Int} (h : a ≠ 0) (b : Int) : orC a b = a := by unfold orC; rw [if_neg h]
theorem cmpV_out (a b : VaA) (ks js : List Va) : cmpV (.node a ks) (.node b js) = orC (numC a.kind b.kind) (orC (numC a.num b.num) (orC (numC ks.length js.length) (orC (lexC strC a.labels b.labels) (lexC cmpV ks js)))) := by
  rw [cmpV_node]
  unfold nodeC
  show orC (orC _ (orC _ (orC _ _))) _ = _
  rw [orC_assoc', orC_assoc', orC_assoc']
  rfl
set_option maxHeartbeats 2000000 in
set_option maxRecDepth 100000 in
theorem specCmp_any : ∀ (t s : Va) (w : World) (cs ds : List Value), RVa w t cs → RVa w s ds → Calls Try.prog 71 #[.agg cs.toArray, .agg ds.toArray] w (Counts (cmpV t s) w) := by
  refine Tr.ind ?_
  intro a ks ih s w cs ds h h'
  obtain ⟨b, js⟩ := s
  obtain ⟨L, c, A, d, rfl, k1, k2, k3, hp⟩ := h.out
  obtain ⟨L', c', A', d', rfl, k1', k2', k3', hp'⟩ := h'.out
  have hv := cmpV_out a b ks js
  obtain ⟨N, hN⟩ : ∃ N, cmpV (.node a ks) (.node b js) = N := ⟨_, rfl⟩
  rw [hN] at hv ⊢
  obtain ⟨m, hm⟩ : ∃ m, ks.length = m := ⟨_, rfl⟩
  obtain ⟨n, hn⟩ : ∃ n, js.length = n := ⟨_, rfl⟩
  obtain ⟨W1, hW1⟩ : ∃ W1, (w.alloc (.cells #[.int .i64 a.kind, .int .i64 a.num, .slice L a.labels.length c, .slice A ks.length d] 92)).alloc (.cells #[.int .i64 b.kind, .int .i64 b.num, .slice L' b.labels.length c', .slice A' js.length d'] 92) = W1 := ⟨_, rfl⟩
  obtain ⟨H, hH⟩ : ∃ H, w.heap.size = H := ⟨_, rfl⟩
  have b0 : Box4 W1 H 92 (.int .i64 a.kind) (.int .i64 a.num) (.slice L a.labels.length c) (.slice A ks.length d) := by rw [← hW1, ← hH]; exact (Box4.new w _ _ _ _ _).alloc _
  have b1 : Box4 W1 (H + 1) 92 (.int .i64 b.kind) (.int .i64 b.num) (.slice L' b.labels.length c') (.slice A' js.length d') := by
    rw [← hW1, ← hH]
    have := Box4.new (w.alloc (.cells #[.int .i64 a.kind, .int .i64 a.num, .slice L a.labels.length c, .slice A ks.length d] 92)) 92 (.int .i64 b.kind) (.int .i64 b.num) (.slice L' b.labels.length c') (.slice A' js.length d')
    simpa using this
  have hb1 : Below w.heap.size w W1 := by rw [← hW1]; exact ((Below.refl _ _).alloc (Nat.le_refl _) _).alloc (by simp) _
  have HP := Lib.hid (hp.keep hb1)
  have HP' := Lib.hid (hp'.keep hb1)
  have HLab := Lib.hid (l5Labels_any L L' c c' a.labels b.labels W1 (k1.below hb1) (k1'.below hb1) k2.2.2.2.2.1)
  have HNK := Lib.hid (l5Number_any a.kind b.kind W1)
  have HNN := Lib.hid (l5Number_any a.num b.num W1)
  have HNL := Lib.hid (l5Number_any ks.length js.length W1)
  have HB1 := Lib.hid hb1
  have HI := Lib.hid ih
  have HM := Lib.hid hm
  have HNJ := Lib.hid hn
  have B0 := Lib.hid b0
  have B1 := Lib.hid b1
  have x0 := b0.c0
  have x1 := b0.c1
  have x2 := b0.c2
  have x3 := b0.c3
  have y0 := b1.c0
  have y1 := b1.c1
  have y2 := b1.c2
  have y3 := b1.c3
  have HV := Lib.hid hv
  rw [hm] at x3 hW1 HNL HV k3
  rw [hn] at y3 hW1 HNL HV k3'
  rw [hm, hn]
  have HW1 := Lib.hid hW1
  clear hp hp' ih k1 k1' k2 k2' h h' hb1 b0 b1 hv hN hm hn hW1
  by_cases e0 : a.kind = b.kind
  · have z0 : numC a.kind b.kind = 0 := (Ord.numC.zero _ _).2 e0
    rw [z0] at HV
    rw [← e0] at y0 HW1 ⊢
    clear HNK z0
    by_cases e1 : a.num = b.num
    · have z1 : numC a.num b.num = 0 := (Ord.numC.zero _ _).2 e1
      rw [z1] at HV
      rw [← e1] at y1 HW1 ⊢
      clear HNN z1
      by_cases e2 : m = n
      · have z2 : numC (m : Int) (n : Int) = 0 := (Ord.numC.zero _ _).2 (by omega)
        rw [z2] at HV
        rw [← e2] at y3 HW1 HNJ ⊢
        have HV2 : Hid (N = orC (lexC strC a.labels b.labels) (lexC cmpV ks js)) := HV.out
        clear HNL z2 HV e0 e1 e2
        obtain ⟨r, hr⟩ : ∃ r, lexC strC a.labels b.labels = r := ⟨_, rfl⟩
        rw [hr] at HV2 HLab
        clear hr
        go_enter Try.func71, Try.ntmps71
        go_wp2_with fail
        rw [HW1.out]
        go_wp2_with fail
        refine HLab.out.mono ?_
        rintro e W2 ⟨rfl, hb2⟩
        have hz : H + 1 < W1.heap.size := B1.out.lt
        have B20 := Lib.hid (B0.out.under hb2 B0.out.lt)
        have B21 := Lib.hid (B1.out.under hb2 hz)
        have HB2 := Lib.hid (HB1.out.trans (hb2.mono HB1.out.size))
        have HP2 := Lib.hid (HP.out.keep hb2)
        have HP2' := Lib.hid (HP'.out.keep hb2)
        rw [HM.out] at B20
        rw [HNJ.out] at B21
        clear hb2 x0 x1 x2 x3 y0 y1 y2 y3 hz
        go_wp2_with fail
        go_loopw [5, 6] (fun q i wr => ∃ (k : Nat) (r : Int), k ≤ m ∧ i = .int .i64 k ∧ q = .int .i64 r ∧ orC r (lexC cmpV (ks.drop k) (js.drop k)) = N ∧ Below W2.heap.size W2 wr) (fun _ i _ => m - (intOf i).toNat)
        case atStart => exact ⟨0, r, Nat.zero_le _, rfl, rfl, HV2.out.symm, Below.refl _ _⟩
        case round =>
          obtain ⟨k, r, hk, rfl, rfl, hno, hb⟩ := hrel
          have z2 := (B20.out.under hb B20.out.lt).c3
          have v2 := (B21.out.under hb B21.out.lt).c3
          have HBW := Lib.hid (HB2.out.trans (hb.mono HB2.out.size))
          have HBR := Lib.hid hb
          by_cases hlt : k < m
          · by_cases hr0 : r = 0
            · subst hr0
              have hlk : k < ks.length := by rw [HM.out]; exact hlt
              have hlj : k < js.length := by rw [HNJ.out]; exact hlt
              obtain ⟨ad, p1, c0, c1, c2, c3, rfl, hpe, hr, q0, q1, q2, q3⟩ := vid_at HP2.out hb hlk
              obtain ⟨bd, p2, d0, d1, d2, d3, rfl, hpe', hr', q0', q1', q2', q3'⟩ := vid_at HP2'.out hb hlj
              have HR := Lib.hid hr
              have HR' := Lib.hid hr'
              have HNO : Hid (orC (cmpV ks[k] js[k]) (lexC cmpV (ks.drop (k + 1)) (js.drop (k + 1))) = N) := by
                rw [lexC_atV hlk hlj, orC_zl] at hno; exact hno
              clear hr hr' hb hno
              go_wp2_with fail
              go_still_tail 10, (by kernel_rfl)
              change wpList _ _ _ _ _ wr.drew
              have hd : Below wr.heap.size wr wr.drew := (Below.refl _ _).drew
              have HC := Lib.hid (HI.out ks[k] (List.getElem_mem hlk) js[k] wr.drew [c0, c1, c2, c3] [d0, d1, d2, d3] (HR.out.keep hd) (HR'.out.keep hd))
              have HBW2 := Lib.hid (HBW.out.trans (hd.mono HBW.out.size))
              have HBR2 := Lib.hid (HBR.out.trans (hd.mono HBR.out.size))
              clear hd
              go_wp2_with fail
              refine HC.out.mono ?_
              rintro e w3 ⟨rfl, hb3⟩
              have HBW3 := Lib.hid (HBW2.out.trans (hb3.mono HBW2.out.size))
              have HBR3 := Lib.hid (HBR2.out.trans (hb3.mono HBR2.out.size))
              clear hb3
              go_wp2_with fail
              go_roundw
              case rel => exact ⟨k + 1, _, hlt, by go_num, rfl, HNO.out, HBR3.out⟩
              case measure => simp [intOf]; omega
            · have HR : Hid (Counts N w (.returned (.int .i64 r)) wr) := ⟨by rw [← hno, orC_ne hr0], HBW.out⟩
              clear hno hb
              go_wp2_with fail
              go_ret
              exact HR.out
          · have he : k = m := by omega
            have HR : Hid (Counts N w (.returned (.int .i64 r)) wr) := by
              refine ⟨?_, HBW.out⟩
              rw [← hno, List.drop_eq_nil_of_le (by rw [HM.out]; omega), List.drop_eq_nil_of_le (by rw [HNJ.out]; omega)]
              show _ = Ending.returned (.int .i64 (orC r 0))
              rw [orC_zr]
            clear he hno hb
            go_wp2_with fail
            go_ret
            exact HR.out
      · have hne : numC (m : Int) (n : Int) ≠ 0 := fun e => e2 (by have := (Ord.numC.zero _ _).1 e; omega)
        have HR : Hid (∀ W', Below W1.heap.size W1 W' → Counts N w (.returned (.int .i64 (numC m n))) W') := fun W' hb => ⟨by rw [HV.out, orC_zl, orC_zl, orC_ne hne], HB1.out.trans (hb.mono HB1.out.size)⟩
        clear hne e0 e1
        go_enter Try.func71, Try.ntmps71
        go_wp2_with fail
        rw [HW1.out]
        go_wp2_with fail
        refine HNL.out.mono ?_
        rintro e W2 ⟨rfl, rfl⟩
        go_wp2_with fail
        go_ret
        exact HR.out _ (Below.refl _ _)
    · have hne : numC a.num b.num ≠ 0 := fun e => e1 ((Ord.numC.zero _ _).1 e)
      have HR : Hid (∀ W', Below W1.heap.size W1 W' → Counts N w (.returned (.int .i64 (numC a.num b.num))) W') := fun W' hb => ⟨by rw [HV.out, orC_zl, orC_ne hne], HB1.out.trans (hb.mono HB1.out.size)⟩
      clear hne e0
      go_enter Try.func71, Try.ntmps71
      go_wp2_with fail
      rw [HW1.out]
      go_wp2_with fail
      refine HNN.out.mono ?_
      rintro e W2 ⟨rfl, rfl⟩
      go_wp2_with fail
      go_ret
      exact HR.out _ (Below.refl _ _)
  · have hne : numC a.kind b.kind ≠ 0 := fun e => e0 ((Ord.numC.zero _ _).1 e)
    have HR : Hid (∀ W', Below W1.heap.size W1 W' → Counts N w (.returned (.int .i64 (numC a.kind b.kind))) W') := fun W' hb => ⟨by rw [HV.out, orC_ne hne], HB1.out.trans (hb.mono HB1.out.size)⟩
    clear hne
    go_enter Try.func71, Try.ntmps71
    go_wp2_with fail
    rw [HW1.out]
    go_wp2_with fail
    refine HNK.out.mono ?_
    rintro e W2 ⟨rfl, rfl⟩
    go_wp2_with fail
    go_ret
    exact HR.out _ (Below.refl _ _)
end Go.Proofs.Ytlcpekpgkllbkaa
