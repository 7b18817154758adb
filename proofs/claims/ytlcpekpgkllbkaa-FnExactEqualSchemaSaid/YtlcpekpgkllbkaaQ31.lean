/-
  Merged by program: HasD, DbD, EqScS.
-/
import Derived.Test.YtlcpekpgkllbkaaQ26
import Derived.Test.YtlcpekpgkllbkaaQ12
import Derived.Test.YtlcpekpgkllbkaaQ28
import Derived.Test.YtlcpekpgkllbkaaQ30
import Derived.Test.YtlcpekpgkllbkaaQ27
import Derived.Deep.RegionHeld3
import Derived.StillTailTactics

/-
  Whether a value has a type, over trees: by recursion on the type; what a data type looks like.
-/
namespace Go.Proofs.Ytlcpekpgkllbkaa

mutual
def hasT : Ty → Va → Bool
  | .node a ks, v =>
    if a.kind = 1 then decide (v.top.kind = 1) && (decide (v.top.labels.length = 0) && decide (v.kids.length = 0))
    else if a.kind = 2 then decide (v.top.kind = 2) && (decide (v.top.num = 0 ∨ v.top.num = 1) && (decide (v.top.labels.length = 0) && decide (v.kids.length = 0)))
    else if a.kind = 3 then decide (v.top.kind = 3) && (decide (v.top.num = 0) && (decide (v.top.labels = a.labels) && hasTs ks v.kids))
    else decide (v.top.kind = 4) && (decide (v.top.num = 0) && (decide (v.top.labels.length = 0) && v.kids.all fun x => hasTh ks x))
def hasTs : List Ty → List Va → Bool
  | [], [] => true
  | t :: ts, v :: vs => hasT t v && hasTs ts vs
  | [], _ :: _ => false
  | _ :: _, [] => false
def hasTh : List Ty → Va → Bool
  | [], _ => true
  | t :: _, v => hasT t v
end
theorem hasTs_len : ∀ {ts : List Ty} {vs : List Va}, hasTs ts vs = true → ts.length = vs.length
  | [], [], _ => rfl
  | t :: ts, v :: vs, h => by
    rw [hasTs, Bool.and_eq_true] at h
    simp [hasTs_len h.2]
  | [], _ :: _, h => by simp [hasTs] at h
  | _ :: _, [], h => by simp [hasTs] at h
/-- the types are the values', from the k-th on -/
theorem hasTs_step {ts : List Ty} {vs : List Va} {k : Nat} (h1 : k < ts.length) (h2 : k < vs.length) : hasTs (ts.drop k) (vs.drop k) = (hasT ts[k] vs[k] && hasTs (ts.drop (k + 1)) (vs.drop (k + 1))) := by
  rw [List.drop_eq_getElem_cons h1, List.drop_eq_getElem_cons h2, hasTs]
theorem hasTs_end {ts : List Ty} {vs : List Va} {k : Nat} (h1 : ts.length ≤ k) (h2 : vs.length ≤ k) : hasTs (ts.drop k) (vs.drop k) = true := by
  rw [List.drop_eq_nil_of_le h1, List.drop_eq_nil_of_le h2, hasTs]
/-- a data type -/
def DatT (t : Ty) : Prop := t.form = true ∧ Tr.has 5 t = false
theorem DatT.of {t : Ty} (h : dataB t = true) : DatT t := by
  unfold dataB validB at h
  simp only [Bool.and_eq_true, Bool.not_eq_true'] at h
  exact ⟨h.1.2.2, h.2⟩
theorem DatT.kid {a : TyA} {ks : List Ty} (h : DatT (.node a ks)) {t : Ty} (ht : t ∈ ks) : DatT t := by
  obtain ⟨h1, h2⟩ := h
  rw [form_node, Bool.and_eq_true, List.all_eq_true] at h1
  rw [has_node, Bool.or_eq_false_iff] at h2
  refine ⟨h1.1 t ht, ?_⟩
  have := h2.1
  rw [List.any_eq_false] at this
  simpa using this t ht
/-- the four kinds of data types -/
theorem DatT.cases {a : TyA} {ks : List Ty} (h : DatT (.node a ks)) :
    ((a.kind = 1 ∨ a.kind = 2) ∧ a.labels.length = 0 ∧ ks.length = 0) ∨ (a.kind = 3 ∧ ks.length = a.labels.length) ∨ (a.kind = 4 ∧ a.labels.length = 0 ∧ ks.length = 1) := by
  obtain ⟨h1, h2⟩ := h
  rw [form_node, Bool.and_eq_true] at h1
  have hf := h1.2
  rw [has_node, Bool.or_eq_false_iff] at h2
  have h5 : a.kind ≠ 5 := by simpa using h2.2
  unfold formA at hf
  by_cases h3 : a.kind = 3
  · rw [if_pos h3] at hf
    simp only [Bool.and_eq_true, decide_eq_true_eq] at hf
    exact .inr (.inl ⟨h3, hf.1⟩)
  · rw [if_neg h3] at hf
    simp only [Bool.and_eq_true, decide_eq_true_eq] at hf
    obtain ⟨_, hl, hw⟩ := hf
    unfold want at hw
    by_cases k1 : a.kind = 1
    · rw [if_pos k1] at hw
      exact .inl ⟨.inl k1, hl, by omega⟩
    · by_cases k2 : a.kind = 2
      · rw [if_neg k1, if_pos k2] at hw
        exact .inl ⟨.inr k2, hl, by omega⟩
      · by_cases k4 : a.kind = 4
        · rw [if_neg k1, if_neg k2, if_pos k4] at hw
          exact .inr (.inr ⟨k4, hl, by omega⟩)
        · rw [if_neg k1, if_neg k2, if_neg k4, if_neg h5] at hw
          omega
def hasV (v : Va) (t : Ty) : Bool := dataB t && (decide (v.size ≤ 2000) && hasT t v)
end Go.Proofs.Ytlcpekpgkllbkaa

/-
  When two databases are equal, in plain words. Hangs on no function of the program.
-/
namespace Go.Proofs.Ytlcpekpgkllbkaa
open Go.RowKit

def sameVa (u v : Va) : Bool := decide (cmpV u v = 0)
def sameDd (a b : Dd) : Bool := decide (a.1 = b.1) && (decide (a.2.length = b.2.length) && allPairs sameVa a.2 b.2)
def eqDbB (a b : Db) : Bool := decide (a.length = b.length) && allPairs sameDd a b
noncomputable def tdataB (x : Dc) (d : Dd) : Bool := decide (d.1 = x.1) && (decide (d.2.length ≤ 8) && d.2.all fun v => hasV v x.2)
noncomputable def dbB (xs : Sc) (ds : Db) : Bool := schB xs && (decide (xs.length = ds.length) && allPairs tdataB xs ds)
theorem str_neS {s t : ByteArray} (h : s ≠ t) : (s.toList == t.toList) = false := by
  rw [beq_eq_false_iff_ne, ByteArray.toList_eq, ByteArray.toList_eq]
  intro e
  exact h (ByteArray.ext (Array.toList_inj.1 e))
end Go.Proofs.Ytlcpekpgkllbkaa

/-
  The model's EqualSchema.
-/
namespace Go.Proofs.Ytlcpekpgkllbkaa
open Go.RowKit

def EqInv (t s : Sc) (w : World) (i : Value) (wr : World) : Prop := ∃ k : Nat, k ≤ t.length ∧ i = .int .i64 (k : Int) ∧ PairsTo sameDc t s k ∧ Below w.heap.size w wr

set_option maxRecDepth 100000 in
set_option maxHeartbeats 6400000 in
theorem specEqSc_any (t s : Sc) (w : World) (cs ds : List Value) (h : RSc w t cs) (h' : RSc w s ds) : Calls Try.prog 32 #[.agg cs.toArray, .agg ds.toArray] w (Truth (eqScB t s) w) := by
  obtain ⟨A, c, rfl, hl, _, hp⟩ := h.open
  obtain ⟨B, d, rfl, hl', _, hp'⟩ := h'.open
  obtain ⟨W1, hW1⟩ : ∃ W1, (w.alloc (.cells #[.slice A t.length c] 29)).alloc (.cells #[.slice B s.length d] 29) = W1 := ⟨_, rfl⟩
  obtain ⟨H, hH⟩ : ∃ H, w.heap.size = H := ⟨_, rfl⟩
  have b0 : Box1 W1 H 29 (.slice A t.length c) := by rw [← hW1, ← hH]; exact (Box1.new w _ _).alloc _
  have b1 : Box1 W1 (H + 1) 29 (.slice B s.length d) := by
    rw [← hW1, ← hH]
    have := Box1.new (w.alloc (.cells #[.slice A t.length c] 29)) 29 (.slice B s.length d)
    simpa using this
  have hb1 : Below w.heap.size w W1 := by rw [← hW1]; exact ((Below.refl _ _).alloc (Nat.le_refl _) _).alloc (by simp) _
  have HA := Lib.hid (fun (W : World) (hB : Below W1.heap.size W1 W) => b0.under hB b0.lt)
  have HB := Lib.hid (fun (W : World) (hB : Below W1.heap.size W1 W) => b1.under hB b1.lt)
  have HB1 := Lib.hid hb1
  have HP := Lib.hid (hp.keep hb1)
  have HP' := Lib.hid (hp'.keep hb1)
  have HW1 := Lib.hid hW1
  have HT : Hid (∀ b W, b = eqScB t s → Below W1.heap.size W1 W → Truth (eqScB t s) w (.returned (.bool b)) W) := Lib.hid (fun b W hb hB => ⟨by rw [hb], hb1.trans (hB.mono hb1.size)⟩)
  have HI0 : Hid (EqInv t s W1 (.int .i64 0) W1) := Lib.hid ⟨0, Nat.zero_le _, rfl, pairsTo_zero _ _ _, Below.refl _ _⟩
  have x0 := b0.c0
  have y0 := b1.c0
  clear h h' hp hp' hW1 b0 b1 hb1
  by_cases hlen : t.length = s.length
  rotate_left
  · have HR := Lib.hid (HT.out false W1 (by unfold eqScB; rw [decide_eq_false hlen]; rfl) (Below.refl _ _))
    generalize t.length = n at *
    generalize s.length = m at *
    go_enter Try.func32, Try.ntmps32
    go_wp2_with fail
    rw [HW1.out]
    go_wp2_with fail
    go_ret
    exact HR.out
  have HE : Hid (∀ b, b = allPairs sameDc t s → b = eqScB t s) := Lib.hid (fun b hb => by unfold eqScB; rw [decide_eq_true hlen, hb]; rfl)
  have HLEN := Lib.hid hlen
  rw [← hlen] at HB HW1 y0 ⊢
  clear hlen hl'
  go_enter Try.func32, Try.ntmps32
  go_wp2_with fail
  rw [HW1.out]
  go_wp2_with fail
  go_loopw [5] (fun i wr => EqInv t s W1 i wr) (fun i _ => t.length - (intOf i).toNat)
  case atStart => exact HI0.out
  case round =>
    obtain ⟨k, hk, rfl, hpt, hb⟩ := hrel
    clear x0 y0
    have x0 := (HA.out wr hb).c0
    have y0 := (HB.out wr hb).c0
    by_cases hlt : k < t.length
    · have hlt' : k < s.length := by have := HLEN.out; omega
      obtain ⟨ad, p, c0, c1, c2, c3, rfl, hpe, hr, q0, q1, q2, q3⟩ := rl_at4 kDc_n HP.out hb hlt
      obtain ⟨bd, p', d0, d1, d2, d3, rfl, hpe', hr', q0', q1', q2', q3'⟩ := rl_at4 kDc_n HP'.out hb hlt'
      obtain ⟨tk, TL, TA, tl, tc, ta, td, hcs, hs, hy⟩ := kDc_open hr
      obtain ⟨tk', TL', TA', tl', tc', ta', td', hds, hs', hy'⟩ := kDc_open hr'
      simp only [List.cons.injEq, and_true] at hcs hds
      obtain ⟨rfl, rfl, rfl, rfl⟩ := hcs
      obtain ⟨rfl, rfl, rfl, rfl⟩ := hds
      have HNO : Hid (sameDc t[k] s[k] = false → ∀ W, Below wr.heap.size wr W → Truth (eqScB t s) w (.returned (.bool false)) W) := Lib.hid (fun hf W hB => HT.out false W (HE.out false (pairs_no hlt hlt' hf).symm) (hb.trans (hB.mono hb.size)))
      have HMORE : Hid (sameDc t[k] s[k] = true → ∀ W i, Below wr.heap.size wr W → i = .int .i64 ((k + 1 : Nat) : Int) → EqInv t s W1 i W) := Lib.hid (fun hf W i hB hi => ⟨k + 1, hlt, hi, pairsTo_more hpt hlt hlt' hf, hb.trans (hB.mono hb.size)⟩)
      have HSD : Hid (sameDc t[k] s[k] = (decide (t[k].1 = s[k].1) && same t[k].2 s[k].2)) := Lib.hid rfl
      have HEQ := Lib.hid (specEq_any t[k].2 s[k].2 wr.drew _ _ (kTy.keep hy (Below.refl _ _).drew) (kTy.keep hy' (Below.refl _ _).drew))
      generalize sameDc t[k] s[k] = sd at HNO HMORE HSD
      generalize same t[k].2 s[k].2 = sm at HSD HEQ
      generalize t[k].1 = nm at *
      generalize s[k].1 = nm' at *
      clear hr hr' hs hs' hy hy' hpt hk
      by_cases hn : nm = nm'
      · subst hn
        have HNF : Hid (sm = false → ∀ W, Below wr.heap.size wr W → Truth (eqScB t s) w (.returned (.bool false)) W) := Lib.hid (fun hf => HNO.out (by rw [HSD.out, hf]; simp))
        have HNT : Hid (sm = true → ∀ W i, Below wr.heap.size wr W → i = .int .i64 ((k + 1 : Nat) : Int) → EqInv t s W1 i W) := Lib.hid (fun hf => HMORE.out (by rw [HSD.out, hf]; simp))
        clear HNO HMORE HSD
        have HF : Hid (∀ W : World, Below wr.drew.heap.size wr.drew W → W.cell? ⟨H, 0, none⟩ = some (.slice (some ad) t.length c) ∧ W.cell? ⟨H + 1, 0, none⟩ = some (.slice (some bd) t.length d) ∧ W.cell? p = some (.string nm) ∧ W.cell? ⟨p.block, p.off + 1, none⟩ = some (.int .i64 tk) ∧ W.cell? ⟨p.block, p.off + 2, none⟩ = some (.slice TL tl tc) ∧ W.cell? ⟨p.block, p.off + 3, none⟩ = some (.slice TA ta td) ∧ W.cell? p' = some (.string nm) ∧ W.cell? ⟨p'.block, p'.off + 1, none⟩ = some (.int .i64 tk') ∧ W.cell? ⟨p'.block, p'.off + 2, none⟩ = some (.slice TL' tl' tc') ∧ W.cell? ⟨p'.block, p'.off + 3, none⟩ = some (.slice TA' ta' td')) := Lib.hid (fun W hB => by
          have up : ∀ (q : Addr) (u : Value), wr.cell? q = some u → W.cell? q = some u := fun q u h => (hB.cell (World.block_lt_of_cell? wr.drew _ h)).trans h
          exact ⟨up _ _ x0, up _ _ y0, up _ _ q0, up _ _ q1, up _ _ q2, up _ _ q3, up _ _ q0', up _ _ q1', up _ _ q2', up _ _ q3'⟩)
        go_wp2_with fail
        go_region_held3 (fun W => W.cell? ⟨H, 0, none⟩ = some (.slice (some ad) t.length c) ∧ W.cell? ⟨H + 1, 0, none⟩ = some (.slice (some bd) t.length d) ∧ W.cell? p = some (.string nm) ∧ W.cell? ⟨p.block, p.off + 1, none⟩ = some (.int .i64 tk) ∧ W.cell? ⟨p.block, p.off + 2, none⟩ = some (.slice TL tl tc) ∧ W.cell? ⟨p.block, p.off + 3, none⟩ = some (.slice TA ta td) ∧ W.cell? p' = some (.string nm) ∧ W.cell? ⟨p'.block, p'.off + 1, none⟩ = some (.int .i64 tk') ∧ W.cell? ⟨p'.block, p'.off + 2, none⟩ = some (.slice TL' tl' tc') ∧ W.cell? ⟨p'.block, p'.off + 3, none⟩ = some (.slice TA' ta' td'))
          (first | (refine ⟨?_, ?_, ?_, ?_, ?_, ?_, ?_, ?_, ?_, ?_⟩ <;> assumption) | go_keep)
          (first
            | (go_at_call 68; refine HEQ.out.mono ?_; rintro e w2 ⟨rfl, hb2⟩; have HB2 := Lib.hid (show Below wr.heap.size wr w2 from (Below.refl wr.heap.size wr).drew.trans hb2); obtain ⟨a0, a1, a2, a3, a4, a5, a6, a7, a8, a9⟩ := HF.out w2 hb2; clear hb2))
        cases hsm : sm
        · have HR := Lib.hid (HNF.out hsm w2 HB2.out)
          clear hsm HNF HNT
          go_wp2_with fail
          go_ret
          exact HR.out
        · have HR := Lib.hid (HNT.out hsm w2)
          clear hsm HNF HNT
          go_wp2_with fail
          go_roundw
          case rel => exact HR.out _ HB2.out (by go_num)
          case measure => simp [intOf]; omega
      · have HR := Lib.hid (HNO.out (by rw [HSD.out, decide_eq_false hn]; rfl))
        have f1 := str_neS hn
        clear hn HMORE HEQ
        go_wp2_with fail
        go_quiet (fail)
        go_wp2_with fail
        go_ret
        exact HR.out _ (below_drewN (Below.refl _ _) _)
    · have he : k = t.length := by omega
      subst he
      have HR := Lib.hid (HT.out true wr (HE.out true (pairsTo_all hpt).symm) hb)
      clear hpt hb hk
      go_wp2_with fail
      go_ret
      exact HR.out
end Go.Proofs.Ytlcpekpgkllbkaa
