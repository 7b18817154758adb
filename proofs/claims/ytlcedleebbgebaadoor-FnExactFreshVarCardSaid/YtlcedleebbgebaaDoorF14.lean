/-
  Merged by program: FrsI.
-/
import Derived.Test.YtlcedleebbgebaaDoorF11
import Derived.Test.YtlcedleebbgebaaDoorF13

/-
  The program's countNames and FreshVar.
-/
namespace Go.Proofs.YtlcedleebbgebaaDoor
open Go.RowKit Go.Maps

/-- the map of the counts, new -/
def CntOf (xs : List ByteArray) (w : World) (e : Ending) (w' : World) : Prop := ∃ b n, e = .returned (.map (some b)) ∧ n ≤ xs.length ∧ CntM w' b n xs ∧ Below w.heap.size w w'
set_option maxRecDepth 100000 in
set_option maxHeartbeats 1600000 in
theorem countNames_any (A : Option Addr) (c : Nat) (xs : List ByteArray) (w : World) (h : Sl w A (xs.map Value.string)) (hn : xs.length ≤ 1048576) (hx : ∀ x ∈ xs, x.size ≤ maxLen) :
    Calls Tryd.prog 11 #[.slice A xs.length c] w (CntOf xs w) := by
  have HS := Lib.hid h
  have HX := Lib.hid hx
  obtain ⟨W1, hW1⟩ : ∃ W1, w.alloc (.map #[] 0) = W1 := ⟨_, rfl⟩
  obtain ⟨H, hH⟩ : ∃ H, w.heap.size = H := ⟨_, rfl⟩
  have HB1 : Hid (Below w.heap.size w W1) := Lib.hid (by rw [← hW1]; exact (Below.refl _ _).alloc (Nat.le_refl _) _)
  have HM1 : Hid (CntM W1 H 0 []) := Lib.hid (by rw [← hW1, ← hH]; exact CntM.made w)
  have HH := Lib.hid hH
  have HW1 := Lib.hid hW1
  have hmm := @run_makeMap Tryd.prog
  clear h hx hW1
  go_enter Tryd.func11, Tryd.ntmps11
  go_wp2_with fail
  rw [HW1.out]
  clear hH
  go_loopw [9] (fun v wr => ∃ k : Nat, v = .int .i64 k ∧ k ≤ xs.length ∧ Hid (CntM wr H k (xs.take k)) ∧ Hid (Below w.heap.size w wr)) (fun v _ => xs.length - (intOf v).toNat)
  case atStart => exact ⟨0, rfl, Nat.zero_le _, HM1, HB1⟩
  case round =>
    obtain ⟨k, rfl, hk, HM, HB⟩ := hrel
    by_cases hlt : k < xs.length
    · obtain ⟨ad, rfl, hc⟩ := HS.out k (.string xs[k]) (by simp [hlt])
      have hc2 := (HB.out.cell (World.block_lt_of_cell? w _ hc)).trans hc
      have hsz := HX.out xs[k] (List.getElem_mem hlt)
      have hlk := HM.out.look hsz
      have hct := cntB_le (xs.take k) xs[k]
      have htk : (xs.take k).length = k := by rw [List.length_take]; omega
      rw [htk] at hct
      obtain ⟨w', hst, hM', hg⟩ := HM.out.step (by rw [htk]; omega) (by unfold maxLen; omega) hsz
      have HN : Hid (CntM w' H (k + 1) (xs.take (k + 1))) := Lib.hid (by
        have e : xs.take (k + 1) = xs.take k ++ [xs[k]] := by rw [List.take_add_one, List.getElem?_eq_getElem hlt]; rfl
        rw [e]; exact hM')
      have HB' : Hid (Below w.heap.size w w') := Lib.hid (HB.out.grown hg HB.out.size (fun q hq => by injection hq with hq; have := HH.out; omega))
      clear hM' hg hc hsz htk
      generalize cntB (xs.take k) xs[k] = q at hlk hst hct
      generalize xs[k] = x at hc2 hlk hst
      go_wp2_with fail
      go_roundw
      case rel => exact ⟨k + 1, by go_num, by omega, HN, HB'⟩
      case measure => simp [intOf]; omega
    · have he : k = xs.length := by omega
      subst he
      have HP : Hid (CntOf xs w (.returned (.map (some H))) wr) := Lib.hid ⟨H, xs.length, rfl, Nat.le_refl _, by have := HM.out; rwa [List.take_length] at this, HB.out⟩
      go_wp2_with fail
      go_ret
      exact HP.out
set_option maxRecDepth 100000 in
set_option maxHeartbeats 1600000 in
theorem implFresh_any (A : Option Addr) (c : Nat) (xs : List ByteArray) (w : World) (h : Sl w A (xs.map Value.string)) (hn : xs.length ≤ 1048576) (hx : ∀ x ∈ xs, x.size ≤ maxLen) (ht : TabOk w) :
    Calls Tryd.prog 7 #[.slice A xs.length c] w (FreshPost xs w) := by
  have HT := Lib.hid ht
  clear ht
  go_enter Tryd.func7, Tryd.ntmps7
  go_wp2_with fail
  refine (countNames_any A c xs w h hn hx).mono ?_
  rintro e w1 ⟨b, n, rfl, hnn, hm, hb1⟩
  have HB1 := Lib.hid hb1
  have HM1 := Lib.hid hm
  clear hb1 hm h hx
  go_wp2_with fail
  go_loopw [4] (fun v wr => ∃ k : Nat, v = .int .i64 k ∧ 1 ≤ k ∧ Hid (AllTo xs k) ∧ Hid (CntM wr b n xs) ∧ Hid (Below w.heap.size w wr)) (fun v _ => xs.length + 2 - (intOf v).toNat)
  case atStart => exact ⟨1, rfl, Nat.le_refl _, Lib.hid (allTo_one xs), HM1, HB1⟩
  case round =>
    obtain ⟨k, rfl, h1, hall, HM, HB⟩ := hrel
    have hk : k ≤ 1048577 := by have := allTo_le hall.out; omega
    have HK := Lib.hid (allTo_le hall.out)
    go_wp2_with fail
    refine (implFmtInt_any k (by omega) (by omega) wr (HT.out.keep HB.out).1).mono ?_
    rintro e w2 ⟨rfl, hb2⟩
    have HB2 := Lib.hid (HB.out.trans (hb2.mono HB.out.size))
    have HM2 := Lib.hid (HM.out.below hb2)
    have hsz := fvb_size k h1 (by omega)
    have hit : (Lib.itoa (k : Int)).length ≤ 19 := by
      rw [itoa_pos _ (by omega)]
      exact digs_len _ (by omega)
    have hlk := HM2.out.look (s := fvb k) (by unfold maxLen; omega)
    have HF : Hid ((⟨#[118]⟩ : ByteArray) ++ ⟨(Lib.itoa (k : Int)).toArray⟩ = fvb k) := Lib.hid rfl
    clear hb2 hsz
    by_cases hm : fvb k ∈ xs
    · have hi : ¬ (cntB xs (fvb k) : Int) = 0 := by
        intro e
        exact (cntB_zero.1 (by omega)) hm
      have hi2 : ((cntB xs (fvb k) : Int) == 0) = false := by simpa using hi
      have HN := Lib.hid (allTo_succ hall.out hm)
      have hlk2 : (Instr.lookup 30 (.map (some b)) (.string ((⟨#[118]⟩ : ByteArray) ++ ⟨(Lib.itoa (k : Int)).toArray⟩)) false).run Tryd.prog w2 = .ok (.int .i64 (cntB xs (fvb k) : Int)) w2 := hlk
      clear hm hlk hi
      generalize (cntB xs (fvb k) : Int) = q at hlk2 hi2
      go_wp2_with fail
      go_roundw
      case rel => exact ⟨k + 1, by go_num, by omega, HN, HM2, HB2⟩
      case measure => have := HK.out; simp [intOf]; omega
    · have hlk2 : (Instr.lookup 30 (.map (some b)) (.string ((⟨#[118]⟩ : ByteArray) ++ ⟨(Lib.itoa (k : Int)).toArray⟩)) false).run Tryd.prog w2 = .ok (.int .i64 0) w2 := by
        have e := cntB_zero.2 hm
        rw [e] at hlk
        exact hlk
      have HP : Hid (FreshPost xs w (.returned (.string ((⟨#[118]⟩ : ByteArray) ++ ⟨(Lib.itoa (k : Int)).toArray⟩))) w2) := Lib.hid ⟨k, ⟨h1, hall.out, hm⟩, HK.out, rfl, HB2.out⟩
      clear hm hlk
      go_wp2_with fail
      go_ret
      exact HP.out
end Go.Proofs.YtlcedleebbgebaaDoor
