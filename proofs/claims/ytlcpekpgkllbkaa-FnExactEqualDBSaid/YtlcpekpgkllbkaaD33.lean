/-
  Merged by program: EqDbS.
-/
import Derived.Test.YtlcpekpgkllbkaaD29
import Derived.Test.YtlcpekpgkllbkaaD32
import Derived.Test.YtlcpekpgkllbkaaD10
import Derived.Test.YtlcpekpgkllbkaaD15
import Derived.Test.YtlcpekpgkllbkaaD16
import Derived.Test.YtlcpekpgkllbkaaD19
import Derived.Deep.RegionHeld3
import Derived.StillTailTactics

/-
  The model's EqualDB.
-/
namespace Go.Proofs.Ytlcpekpgkllbkaa
open Go.RowKit

def EqdInv (t s : Db) (w : World) (i : Value) (wr : World) : Prop := ∃ k : Nat, k ≤ t.length ∧ i = .int .i64 (k : Int) ∧ PairsTo sameDd t s k ∧ Below w.heap.size w wr
def EqrInv (us vs : List Va) (w : World) (i : Value) (wr : World) : Prop := ∃ k : Nat, k ≤ us.length ∧ i = .int .i64 (k : Int) ∧ PairsTo sameVa us vs k ∧ Below w.heap.size w wr

set_option maxRecDepth 100000 in
set_option maxHeartbeats 6400000 in
theorem specEqDb_any (t s : Db) (w : World) (cs ds : List Value) (h : RDb w t cs) (h' : RDb w s ds) : Calls Try.prog 34 #[.agg cs.toArray, .agg ds.toArray] w (Truth (eqDbB t s) w) := by
  obtain ⟨A, c, rfl, hl, _, hp⟩ := h.open
  obtain ⟨B, d, rfl, hl', _, hp'⟩ := h'.open
  obtain ⟨W1, hW1⟩ : ∃ W1, (w.alloc (.cells #[.slice A t.length c] 51)).alloc (.cells #[.slice B s.length d] 51) = W1 := ⟨_, rfl⟩
  obtain ⟨H, hH⟩ : ∃ H, w.heap.size = H := ⟨_, rfl⟩
  have b0 : Box1 W1 H 51 (.slice A t.length c) := by rw [← hW1, ← hH]; exact (Box1.new w _ _).alloc _
  have b1 : Box1 W1 (H + 1) 51 (.slice B s.length d) := by
    rw [← hW1, ← hH]
    have := Box1.new (w.alloc (.cells #[.slice A t.length c] 51)) 51 (.slice B s.length d)
    simpa using this
  have hb1 : Below w.heap.size w W1 := by rw [← hW1]; exact ((Below.refl _ _).alloc (Nat.le_refl _) _).alloc (by simp) _
  have HA := Lib.hid (fun (W : World) (hB : Below W1.heap.size W1 W) => b0.under hB b0.lt)
  have HB := Lib.hid (fun (W : World) (hB : Below W1.heap.size W1 W) => b1.under hB b1.lt)
  have HB1 := Lib.hid hb1
  have HP := Lib.hid (hp.keep hb1)
  have HP' := Lib.hid (hp'.keep hb1)
  have HW1 := Lib.hid hW1
  have HT : Hid (∀ b W, b = eqDbB t s → Below W1.heap.size W1 W → Truth (eqDbB t s) w (.returned (.bool b)) W) := Lib.hid (fun b W hb hB => ⟨by rw [hb], hb1.trans (hB.mono hb1.size)⟩)
  have HI0 : Hid (EqdInv t s W1 (.int .i64 0) W1) := Lib.hid ⟨0, Nat.zero_le _, rfl, pairsTo_zero _ _ _, Below.refl _ _⟩
  have x0 := b0.c0
  have y0 := b1.c0
  clear h h' hp hp' hW1 b0 b1 hb1
  by_cases hlen : t.length = s.length
  rotate_left
  · have HR := Lib.hid (HT.out false W1 (by unfold eqDbB; rw [decide_eq_false hlen]; rfl) (Below.refl _ _))
    generalize t.length = n at *
    generalize s.length = m at *
    go_enter Try.func34, Try.ntmps34
    go_wp2_with fail
    rw [HW1.out]
    go_wp2_with fail
    go_ret
    exact HR.out
  have HE : Hid (∀ b, b = allPairs sameDd t s → b = eqDbB t s) := Lib.hid (fun b hb => by unfold eqDbB; rw [decide_eq_true hlen, hb]; rfl)
  have HLEN := Lib.hid hlen
  rw [← hlen] at HB HW1 y0 ⊢
  clear hlen hl'
  go_enter Try.func34, Try.ntmps34
  go_wp2_with fail
  rw [HW1.out]
  go_wp2_with fail
  go_loopw [5] (fun i wr => EqdInv t s W1 i wr) (fun i _ => t.length - (intOf i).toNat)
  case atStart => exact HI0.out
  case round =>
    obtain ⟨k, hk, rfl, hpt, hb⟩ := hrel
    clear x0 y0
    have x0 := (HA.out wr hb).c0
    have y0 := (HB.out wr hb).c0
    by_cases hlt : k < t.length
    · have hlt' : k < s.length := by have := HLEN.out; omega
      obtain ⟨ad, p, c0, c1, rfl, hpe, hr, q0, q1⟩ := rl_at2 kDd_n HP.out hb hlt
      obtain ⟨bd, p', d0, d1, rfl, hpe', hr', q0', q1'⟩ := rl_at2 kDd_n HP'.out hb hlt'
      obtain ⟨TA, ta, td, hcs, hs, hy⟩ := kDd_open hr
      obtain ⟨TB, tb, te, hds, hs', hy'⟩ := kDd_open hr'
      simp only [List.cons.injEq, and_true] at hcs hds
      obtain ⟨rfl, rfl⟩ := hcs
      obtain ⟨rfl, rfl⟩ := hds
      obtain ⟨rfl, hul, _, hus⟩ := kVas_slice hy
      obtain ⟨rfl, hvl, _, hvs⟩ := kVas_slice hy'
      have HNO : Hid (sameDd t[k] s[k] = false → ∀ W, Below wr.heap.size wr W → Truth (eqDbB t s) w (.returned (.bool false)) W) := Lib.hid (fun hf W hB => HT.out false W (HE.out false (pairs_no hlt hlt' hf).symm) (hb.trans (hB.mono hb.size)))
      have HMORE : Hid (sameDd t[k] s[k] = true → ∀ W i, Below wr.heap.size wr W → i = .int .i64 ((k + 1 : Nat) : Int) → EqdInv t s W1 i W) := Lib.hid (fun hf W i hB hi => ⟨k + 1, hlt, hi, pairsTo_more hpt hlt hlt' hf, hb.trans (hB.mono hb.size)⟩)
      have HSD : Hid (sameDd t[k] s[k] = (decide (t[k].1 = s[k].1) && (decide (t[k].2.length = s[k].2.length) && allPairs sameVa t[k].2 s[k].2))) := Lib.hid rfl
      generalize sameDd t[k] s[k] = sd at HNO HMORE HSD
      generalize t[k].2 = us at *
      generalize s[k].2 = vs at *
      generalize t[k].1 = nm at *
      generalize s[k].1 = nm' at *
      have HUS := Lib.hid hus
      have HVS := Lib.hid hvs
      obtain ⟨W5, hW5⟩ : ∃ W5, (wr.alloc (.cells #[.string nm, .slice TA us.length td] 86)).alloc (.cells #[.string nm', .slice TB vs.length te] 86) = W5 := ⟨_, rfl⟩
      obtain ⟨G, hG⟩ : ∃ G, wr.heap.size = G := ⟨_, rfl⟩
      have g0 : Box2 W5 G 86 (.string nm) (.slice TA us.length td) := by rw [← hW5, ← hG]; exact (Box2.new wr _ _ _).alloc _
      have g1 : Box2 W5 (G + 1) 86 (.string nm') (.slice TB vs.length te) := by
        rw [← hW5, ← hG]
        have := Box2.new (wr.alloc (.cells #[.string nm, .slice TA us.length td] 86)) 86 (.string nm') (.slice TB vs.length te)
        simpa using this
      have hb5 : Below wr.heap.size wr W5 := by rw [← hW5]; exact ((Below.refl _ _).alloc (Nat.le_refl _) _).alloc (by simp) _
      have HB5 := Lib.hid hb5
      have HG0 := Lib.hid (fun (W : World) (hB : Below W5.heap.size W5 W) => g0.under hB g0.lt)
      have HG1 := Lib.hid (fun (W : World) (hB : Below W5.heap.size W5 W) => g1.under hB g1.lt)
      have HW5 := Lib.hid hW5
      have old : ∀ (q : Addr) (u : Value), wr.cell? q = some u → (wr.alloc (.cells #[.string nm, .slice TA us.length td] 86)).cell? q = some u := fun q u h => (((Below.refl wr.heap.size wr).alloc (Nat.le_refl _) _).cell (World.block_lt_of_cell? wr _ h)).trans h
      have y0 := old _ _ y0
      have q0' := old _ _ q0'
      have q1' := old _ _ q1'
      have z0 := g0.c0
      have z1 := g0.c1
      have v0 := g1.c0
      have v1 := g1.c1
      clear hr hr' hs hs' hy hy' hpt hk hus hvs hW5 g0 g1 hb5 old
      by_cases hn : nm = nm'
      rotate_left
      · have HR := Lib.hid (HNO.out (by rw [HSD.out, decide_eq_false hn]; rfl) W5 HB5.out)
        have f1 := str_neS hn
        clear hn HMORE
        go_wp2_with fail
        rw [HW5.out]
        go_wp2_with fail
        go_ret
        exact HR.out
      subst hn
      by_cases hm : us.length = vs.length
      rotate_left
      · have HR := Lib.hid (HNO.out (by rw [HSD.out, decide_eq_false hm]; simp) W5 HB5.out)
        have f1 : ((us.length : Int) != (vs.length : Int)) = true := by simp; omega
        generalize us.length = m1 at *
        generalize vs.length = m2 at *
        clear hm HMORE
        go_wp2_with fail
        rw [HW5.out]
        go_wp2_with fail
        go_ret
        exact HR.out
      have HNF : Hid (allPairs sameVa us vs = false → ∀ W, Below wr.heap.size wr W → Truth (eqDbB t s) w (.returned (.bool false)) W) := Lib.hid (fun hf => HNO.out (by rw [HSD.out, hf]; simp))
      have HNT : Hid (allPairs sameVa us vs = true → ∀ W i, Below wr.heap.size wr W → i = .int .i64 ((k + 1 : Nat) : Int) → EqdInv t s W1 i W) := Lib.hid (fun hf => HMORE.out (by rw [HSD.out, hf, decide_eq_true hm]; simp))
      have HM := Lib.hid hm
      rw [← hm] at HG1 HW5 v1 q1'
      obtain ⟨m, hme⟩ : ∃ m, us.length = m := ⟨_, rfl⟩
      rw [hme] at HG0 HG1 HW5 z1 v1 y0 q0' q1 q1'
      have HME := Lib.hid hme
      have hmu : m ≤ 9223372036854775807 := by omega
      clear hm HNO HMORE HSD hme hul hvl
      go_wp2_with fail
      rw [HW5.out]
      go_wp2_with fail
      have HI2 : Hid (EqrInv us vs W5 (.int .i64 0) W5) := Lib.hid ⟨0, Nat.zero_le _, rfl, pairsTo_zero _ _ _, Below.refl _ _⟩
      go_loopw [8] (fun i wr => EqrInv us vs W5 i wr) (fun i _ => m - (intOf i).toNat)
      case atStart => exact HI2.out
      case round =>
        obtain ⟨i, hik, rfl, hpt, hb⟩ := hrel
        have HBO := Lib.hid (HB5.out.trans (hb.mono HB5.out.size))
        clear x0 y0 z0 z1 v0 v1 q0 q1 q0' q1'
        have z1 := (HG0.out wr hb).c1
        have v1 := (HG1.out wr hb).c1
        by_cases hlt2 : i < us.length
        · have hlt2' : i < vs.length := by have := HM.out; omega
          have him : i < m := by have := HME.out; omega
          obtain ⟨ae, r, e0, e1, e2, e3, rfl, hre, hr, g0, g1, g2, g3⟩ := vid_at HUS.out HBO.out hlt2
          obtain ⟨af, r', f0, f1, f2, f3, rfl, hre', hr', g0', g1', g2', g3'⟩ := vid_at HVS.out HBO.out hlt2'
          have HCM := Lib.hid (specCmp_any us[i] vs[i] wr.drew _ _ (hr.keep (Below.refl _ _).drew) (hr'.keep (Below.refl _ _).drew))
          have HN2 : Hid (cmpV us[i] vs[i] ≠ 0 → ∀ W, Below wr.heap.size wr W → Truth (eqDbB t s) w (.returned (.bool false)) W) := Lib.hid (fun hf W hB => HNF.out (pairs_no hlt2 hlt2' (decide_eq_false hf)) W (HBO.out.trans (hB.mono HBO.out.size)))
          have HM2 : Hid (cmpV us[i] vs[i] = 0 → ∀ W j, Below wr.heap.size wr W → j = .int .i64 ((i + 1 : Nat) : Int) → EqrInv us vs W5 j W) := Lib.hid (fun hf W j hB hj => ⟨i + 1, hlt2, hj, pairsTo_more hpt hlt2 hlt2' (decide_eq_true hf), hb.trans (hB.mono hb.size)⟩)
          have HF : Hid (∀ W : World, Below wr.drew.heap.size wr.drew W → W.cell? ⟨G, 1, none⟩ = some (.slice (some ae) m td) ∧ W.cell? ⟨G + 1, 1, none⟩ = some (.slice (some af) m te) ∧ W.cell? r = some e0 ∧ W.cell? ⟨r.block, r.off + 1, none⟩ = some e1 ∧ W.cell? ⟨r.block, r.off + 2, none⟩ = some e2 ∧ W.cell? ⟨r.block, r.off + 3, none⟩ = some e3 ∧ W.cell? r' = some f0 ∧ W.cell? ⟨r'.block, r'.off + 1, none⟩ = some f1 ∧ W.cell? ⟨r'.block, r'.off + 2, none⟩ = some f2 ∧ W.cell? ⟨r'.block, r'.off + 3, none⟩ = some f3) := Lib.hid (fun W hB => by
            have up : ∀ (q : Addr) (u : Value), wr.cell? q = some u → W.cell? q = some u := fun q u h => (hB.cell (World.block_lt_of_cell? wr.drew _ h)).trans h
            exact ⟨up _ _ z1, up _ _ v1, up _ _ g0, up _ _ g1, up _ _ g2, up _ _ g3, up _ _ g0', up _ _ g1', up _ _ g2', up _ _ g3'⟩)
          generalize cmpV us[i] vs[i] = cv at HCM HN2 HM2
          clear hr hr' hpt hb hik hlt2 hlt2'
          go_wp2_with fail
          go_region_held3 (fun W => W.cell? ⟨G, 1, none⟩ = some (.slice (some ae) m td) ∧ W.cell? ⟨G + 1, 1, none⟩ = some (.slice (some af) m te) ∧ W.cell? r = some e0 ∧ W.cell? ⟨r.block, r.off + 1, none⟩ = some e1 ∧ W.cell? ⟨r.block, r.off + 2, none⟩ = some e2 ∧ W.cell? ⟨r.block, r.off + 3, none⟩ = some e3 ∧ W.cell? r' = some f0 ∧ W.cell? ⟨r'.block, r'.off + 1, none⟩ = some f1 ∧ W.cell? ⟨r'.block, r'.off + 2, none⟩ = some f2 ∧ W.cell? ⟨r'.block, r'.off + 3, none⟩ = some f3)
            (first | (refine ⟨?_, ?_, ?_, ?_, ?_, ?_, ?_, ?_, ?_, ?_⟩ <;> assumption) | go_keep)
            (first
              | (go_at_call 71; refine HCM.out.mono ?_; rintro e w2 ⟨rfl, hb2⟩; have HB2 := Lib.hid (show Below wr.heap.size wr w2 from (Below.refl wr.heap.size wr).drew.trans hb2); obtain ⟨a0, a1, a2, a3, a4, a5, a6, a7, a8, a9⟩ := HF.out w2 hb2; clear hb2))
          by_cases hc0 : cv = 0
          · subst hc0
            have HR := Lib.hid (HM2.out rfl w2)
            clear HN2 HM2
            go_wp2_with fail
            go_roundw
            case rel => exact HR.out _ HB2.out (by go_num)
            case measure => simp [intOf]; omega
          · have HR := Lib.hid (HN2.out hc0 w2 HB2.out)
            have fc : (cv != 0) = true := by simp [hc0]
            clear hc0 HN2 HM2
            go_wp2_with fail
            go_ret
            exact HR.out
        · have he : i = m := by have := HME.out; omega
          have hall : allPairs sameVa us vs = true := pairsTo_all (by have := HME.out; rw [this, ← he]; exact hpt)
          have HR := Lib.hid (HNT.out hall wr)
          have him : ¬ i < m := by omega
          clear he hall hpt hik hlt2
          go_wp2_with fail
          go_roundw
          case rel => exact HR.out _ HBO.out (by go_num)
          case measure => simp [intOf]; omega
    · have he : k = t.length := by omega
      subst he
      have HR := Lib.hid (HT.out true wr (HE.out true (pairsTo_all hpt).symm) hb)
      clear hpt hb hk
      go_wp2_with fail
      go_ret
      exact HR.out
end Go.Proofs.Ytlcpekpgkllbkaa
