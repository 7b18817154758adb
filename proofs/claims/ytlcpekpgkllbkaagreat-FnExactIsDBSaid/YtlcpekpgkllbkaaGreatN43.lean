/-
  Merged by program: IsDbS.
-/
import Derived.Test.YtlcpekpgkllbkaaGreatN20
import Derived.Test.YtlcpekpgkllbkaaGreatN42
import Derived.Test.YtlcpekpgkllbkaaGreatN8
import Derived.Test.YtlcpekpgkllbkaaGreatN13
import Derived.Deep.RegionHeld3
import Derived.StillTailTactics

/-
  The model's IsDB.
-/
namespace Go.Proofs.YtlcpekpgkllbkaaGreat
open Go.RowKit

def IsdInv (t : Sc) (s : Db) (w : World) (i : Value) (wr : World) : Prop := ∃ k : Nat, k ≤ t.length ∧ i = .int .i64 (k : Int) ∧ PairsTo tdataB t s k ∧ Below w.heap.size w wr
def IsrInv (us : List Va) (ty : Ty) (w : World) (i : Value) (wr : World) : Prop := ∃ k : Nat, k ≤ us.length ∧ i = .int .i64 (k : Int) ∧ (us.take k).all (fun v => hasV v ty) = true ∧ Below w.heap.size w wr

set_option maxRecDepth 100000 in
set_option maxHeartbeats 6400000 in
theorem specIsDb_any (t : Sc) (s : Db) (w : World) (cs ds : List Value) (h : RSc w t cs) (h' : RDb w s ds) (hw : wSc t ≤ 1048576) : Calls Tryz.prog 21 #[.agg cs.toArray, .agg ds.toArray] w (Truth (dbB t s) w) := by
  obtain ⟨A, c, rfl, hl, _, hp⟩ := h.open
  obtain ⟨B, d, rfl, hl', _, hp'⟩ := h'.open
  obtain ⟨W1, hW1⟩ : ∃ W1, (w.alloc (.cells #[.slice A t.length c] 26)).alloc (.cells #[.slice B s.length d] 29) = W1 := ⟨_, rfl⟩
  obtain ⟨H, hH⟩ : ∃ H, w.heap.size = H := ⟨_, rfl⟩
  have b0 : Box1 W1 H 26 (.slice A t.length c) := by rw [← hW1, ← hH]; exact (Box1.new w _ _).alloc _
  have b1 : Box1 W1 (H + 1) 29 (.slice B s.length d) := by
    rw [← hW1, ← hH]
    have := Box1.new (w.alloc (.cells #[.slice A t.length c] 26)) 29 (.slice B s.length d)
    simpa using this
  have hb1 : Below w.heap.size w W1 := by rw [← hW1]; exact ((Below.refl _ _).alloc (Nat.le_refl _) _).alloc (by simp) _
  have HSCH := Lib.hid (specSch_any t W1 _ (h.keep hb1) hw)
  have HWT := Lib.hid hw
  have HA := Lib.hid (fun (W : World) (hB : Below W1.heap.size W1 W) => b0.under hB b0.lt)
  have HB := Lib.hid (fun (W : World) (hB : Below W1.heap.size W1 W) => b1.under hB b1.lt)
  have HP := Lib.hid (hp.keep hb1)
  have HP' := Lib.hid (hp'.keep hb1)
  have HW1 := Lib.hid hW1
  have HT : Hid (∀ b W, b = dbB t s → Below W1.heap.size W1 W → Truth (dbB t s) w (.returned (.bool b)) W) := Lib.hid (fun b W hb hB => ⟨by rw [hb], hb1.trans (hB.mono hb1.size)⟩)
  have x0 := b0.c0
  have y0 := b1.c0
  clear h h' hp hp' hW1 b0 b1 hb1 hw
  cases hsb : schB t
  · have HR := Lib.hid (fun W => HT.out false W (by unfold dbB; rw [hsb]; rfl))
    rw [hsb] at HSCH
    clear hsb
    go_enter Tryz.func21, Tryz.ntmps21
    go_wp2_with fail
    rw [HW1.out]
    go_wp2_with fail
    refine HSCH.out.mono ?_
    rintro e w2 ⟨rfl, hb2⟩
    have HRR := Lib.hid (HR.out w2 hb2)
    clear hb2
    go_wp2_with fail
    go_ret
    exact HRR.out
  rw [hsb] at HSCH
  go_enter Tryz.func21, Tryz.ntmps21
  go_wp2_with fail
  rw [HW1.out]
  go_wp2_with fail
  refine HSCH.out.mono ?_
  rintro e w2 ⟨rfl, hb2⟩
  have HB2 := Lib.hid hb2
  clear x0 y0
  have x0 := (HA.out w2 hb2).c0
  have y0 := (HB.out w2 hb2).c0
  clear hb2
  by_cases hlen : t.length = s.length
  rotate_left
  · have HR := Lib.hid (HT.out false w2 (by unfold dbB; rw [decide_eq_false hlen]; simp) HB2.out)
    have f1 : ((t.length : Int) != (s.length : Int)) = true := by simp; omega
    generalize t.length = n at *
    generalize s.length = m at *
    clear hlen
    go_wp2_with fail
    go_ret
    exact HR.out
  have HE : Hid (∀ b, b = allPairs tdataB t s → b = dbB t s) := Lib.hid (fun b hb => by unfold dbB; rw [hsb, decide_eq_true hlen, hb]; rfl)
  have HLEN := Lib.hid hlen
  rw [← hlen] at HB y0
  have HI0 : Hid (IsdInv t s W1 (.int .i64 0) w2) := Lib.hid ⟨0, Nat.zero_le _, rfl, pairsTo_zero _ _ _, HB2.out⟩
  clear hlen hl' hsb HSCH
  go_wp2_with fail
  go_loopw [5] (fun i wr => IsdInv t s W1 i wr) (fun i _ => t.length - (intOf i).toNat)
  case atStart => exact HI0.out
  case round =>
    obtain ⟨k, hk, rfl, hpt, hb⟩ := hrel
    clear x0 y0
    have x0 := (HA.out wr hb).c0
    have y0 := (HB.out wr hb).c0
    by_cases hlt : k < t.length
    · have hlt' : k < s.length := by have := HLEN.out; omega
      obtain ⟨ad, p, c0, c1, c2, c3, rfl, hpe, hr, q0, q1, q2, q3⟩ := rl_at4 kDc_n HP.out hb hlt
      obtain ⟨bd, p', d0, d1, rfl, hpe', hr', q0', q1'⟩ := rl_at2 kDd_n HP'.out hb hlt'
      obtain ⟨tk, TL, TA, tl, tc, ta, td, hcs, hs, hy⟩ := kDc_open hr
      obtain ⟨TB, tb, te, hds, hs', hy'⟩ := kDd_open hr'
      simp only [List.cons.injEq, and_true] at hcs hds
      obtain ⟨rfl, rfl, rfl, rfl⟩ := hcs
      obtain ⟨rfl, rfl⟩ := hds
      obtain ⟨rfl, hvl, _, hvs⟩ := kVas_slice hy'
      obtain ⟨_, hwty, _⟩ := dc_bounds hlt HWT.out
      have HNO : Hid (tdataB t[k] s[k] = false → ∀ W, Below wr.heap.size wr W → Truth (dbB t s) w (.returned (.bool false)) W) := Lib.hid (fun hf W hB => HT.out false W (HE.out false (pairs_no hlt hlt' hf).symm) (hb.trans (hB.mono hb.size)))
      have HMORE : Hid (tdataB t[k] s[k] = true → ∀ W i, Below wr.heap.size wr W → i = .int .i64 ((k + 1 : Nat) : Int) → IsdInv t s W1 i W) := Lib.hid (fun hf W i hB hi => ⟨k + 1, hlt, hi, pairsTo_more hpt hlt hlt' hf, hb.trans (hB.mono hb.size)⟩)
      have HSD : Hid (tdataB t[k] s[k] = (decide (s[k].1 = t[k].1) && (decide (s[k].2.length ≤ 8) && s[k].2.all fun v => hasV v t[k].2))) := Lib.hid rfl
      generalize tdataB t[k] s[k] = sd at HNO HMORE HSD
      generalize t[k].2 = ty at *
      generalize s[k].2 = vs at *
      generalize t[k].1 = nm at *
      generalize s[k].1 = nm' at *
      have HVS := Lib.hid hvs
      have HTY := Lib.hid (fun (W : World) (hB : Below wr.heap.size wr W) => kTy.keep hy hB)
      have HWTY := Lib.hid hwty
      clear hr hr' hs hs' hy hy' hpt hk hvs hwty
      by_cases hn : nm' = nm
      rotate_left
      · have HR := Lib.hid (HNO.out (by rw [HSD.out, decide_eq_false hn]; rfl))
        have f1 := str_neS hn
        clear hn HMORE
        go_wp2_with fail
        go_quiet (fail)
        go_wp2_with fail
        go_ret
        exact HR.out _ (below_drewN (Below.refl _ _) _)
      subst hn
      by_cases h8 : vs.length ≤ 8
      rotate_left
      · have HR := Lib.hid (HNO.out (by rw [HSD.out, decide_eq_false h8]; simp))
        clear HMORE
        go_wp2_with fail
        go_quiet (fail)
        go_wp2_with fail
        go_ret
        exact HR.out _ (below_drewN (Below.refl _ _) _)
      have HNF : Hid ((vs.all fun v => hasV v ty) = false → ∀ W, Below wr.heap.size wr W → Truth (dbB t s) w (.returned (.bool false)) W) := Lib.hid (fun hf => HNO.out (by rw [HSD.out, hf]; simp))
      have HNT : Hid ((vs.all fun v => hasV v ty) = true → ∀ W i, Below wr.heap.size wr W → i = .int .i64 ((k + 1 : Nat) : Int) → IsdInv t s W1 i W) := Lib.hid (fun hf => HMORE.out (by rw [HSD.out, hf, decide_eq_true h8]; simp))
      have HCE : Hid (∀ W : World, Below wr.heap.size wr W → W.cell? ⟨H, 0, none⟩ = some (.slice (some ad) t.length c) ∧ W.cell? ⟨p.block, p.off + 1, none⟩ = some (.int .i64 tk) ∧ W.cell? ⟨p.block, p.off + 2, none⟩ = some (.slice TL tl tc) ∧ W.cell? ⟨p.block, p.off + 3, none⟩ = some (.slice TA ta td)) := Lib.hid (fun W hB => by
        have up : ∀ (q : Addr) (u : Value), wr.cell? q = some u → W.cell? q = some u := fun q u h => (hB.cell (World.block_lt_of_cell? wr _ h)).trans h
        exact ⟨up _ _ x0, up _ _ q1, up _ _ q2, up _ _ q3⟩)
      clear HNO HMORE HSD
      go_wp2_with fail
      go_quiet (fail)
      go_wp2_with fail
      have HI2 : Hid (IsrInv vs ty wr (.int .i64 0) (wr.drewN nq)) := Lib.hid ⟨0, Nat.zero_le _, rfl, by simp, below_drewN (Below.refl _ _) _⟩
      go_loopw [7] (fun i wr2 => IsrInv vs ty wr i wr2) (fun i _ => vs.length - (intOf i).toNat)
      case atStart => exact HI2.out
      case round =>
        obtain ⟨i, hik, rfl, hall, hb⟩ := hrel
        have HBO := Lib.hid hb
        clear x0 y0 q0 q1 q2 q3 q0' q1'
        obtain ⟨z0, z1, z2, z3⟩ := HCE.out wr hb
        by_cases hlt2 : i < vs.length
        · obtain ⟨ae, r, e0, e1, e2, e3, rfl, hre, hr, g0, g1, g2, g3⟩ := vid_at HVS.out HBO.out hlt2
          have hd : Below wr.heap.size wr wr.drew := (Below.refl _ _).drew
          have HCM := Lib.hid (specHas_any vs[i] ty wr.drew _ _ (hr.keep hd) (HTY.out wr.drew (HBO.out.trans (hd.mono HBO.out.size))) HWTY.out)
          have HN2 : Hid (hasV vs[i] ty = false → ∀ W, Below wr.heap.size wr W → Truth (dbB t s) w (.returned (.bool false)) W) := Lib.hid (fun hf W hB => HNF.out (all_no hlt2 hf) W (HBO.out.trans (hB.mono HBO.out.size)))
          have HM2 : Hid (hasV vs[i] ty = true → ∀ W j, Below wr.heap.size wr W → j = .int .i64 ((i + 1 : Nat) : Int) → IsrInv vs ty _ j W) := Lib.hid (fun hf W j hB hj => ⟨i + 1, hlt2, hj, all_take hall hlt2 hf, HBO.out.trans (hB.mono HBO.out.size)⟩)
          have HF : Hid (∀ W : World, Below wr.drew.heap.size wr.drew W → W.cell? ⟨H, 0, none⟩ = some (.slice (some ad) t.length c) ∧ W.cell? ⟨p.block, p.off + 1, none⟩ = some (.int .i64 tk) ∧ W.cell? ⟨p.block, p.off + 2, none⟩ = some (.slice TL tl tc) ∧ W.cell? ⟨p.block, p.off + 3, none⟩ = some (.slice TA ta td) ∧ W.cell? r = some e0 ∧ W.cell? ⟨r.block, r.off + 1, none⟩ = some e1 ∧ W.cell? ⟨r.block, r.off + 2, none⟩ = some e2 ∧ W.cell? ⟨r.block, r.off + 3, none⟩ = some e3) := Lib.hid (fun W hB => by
            have up : ∀ (q : Addr) (u : Value), wr.cell? q = some u → W.cell? q = some u := fun q u h => (hB.cell (World.block_lt_of_cell? wr.drew _ h)).trans h
            exact ⟨up _ _ z0, up _ _ z1, up _ _ z2, up _ _ z3, up _ _ g0, up _ _ g1, up _ _ g2, up _ _ g3⟩)
          generalize hasV vs[i] ty = cv at HCM HN2 HM2
          clear hr hall hb hik hd
          go_wp2_with fail
          go_region_held3 (fun W => W.cell? ⟨H, 0, none⟩ = some (.slice (some ad) t.length c) ∧ W.cell? ⟨p.block, p.off + 1, none⟩ = some (.int .i64 tk) ∧ W.cell? ⟨p.block, p.off + 2, none⟩ = some (.slice TL tl tc) ∧ W.cell? ⟨p.block, p.off + 3, none⟩ = some (.slice TA ta td) ∧ W.cell? r = some e0 ∧ W.cell? ⟨r.block, r.off + 1, none⟩ = some e1 ∧ W.cell? ⟨r.block, r.off + 2, none⟩ = some e2 ∧ W.cell? ⟨r.block, r.off + 3, none⟩ = some e3)
            (first | (refine ⟨?_, ?_, ?_, ?_, ?_, ?_, ?_, ?_⟩ <;> assumption) | go_keep)
            (first
              | (go_at_call 69; refine HCM.out.mono ?_; rintro e w2 ⟨rfl, hb2⟩; have HB2 := Lib.hid (show Below wr.heap.size wr w2 from (Below.refl wr.heap.size wr).drew.trans hb2); obtain ⟨a0, a1, a2, a3, a4, a5, a6, a7⟩ := HF.out w2 hb2; clear hb2))
          cases hc0 : cv
          · have HR := Lib.hid (HN2.out hc0 w2 HB2.out)
            clear hc0 HN2 HM2
            go_wp2_with fail
            go_ret
            exact HR.out
          · have HR := Lib.hid (HM2.out hc0 w2)
            clear hc0 HN2 HM2
            go_wp2_with fail
            go_roundw
            case rel => exact HR.out _ HB2.out (by go_num)
            case measure => simp [intOf]; omega
        · have he : i = vs.length := by omega
          subst he
          have HR := Lib.hid (HNT.out (by rw [List.take_length] at hall; exact hall) wr)
          clear hall hik
          go_wp2_with fail
          go_roundw
          case rel => exact HR.out _ HBO.out (by go_num)
          case measure => simp [intOf]; omega
    · have he : k = t.length := by omega
      subst he
      have HR := Lib.hid (HT.out true wr (HE.out true (pairsTo_all hpt).symm) hb)
      clear hpt hb hk
      go_wp2_with fail
      go_ret
      exact HR.out
end Go.Proofs.YtlcpekpgkllbkaaGreat
