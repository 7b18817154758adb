/-
  Merged by program: FrsS.
-/
import Derived.Test.YtlcedleebbgebaaDoorF3
import Derived.Test.YtlcedleebbgebaaDoorF4
import Derived.Test.YtlcedleebbgebaaDoorF6

/-
  The model's FreshVar: the first new name.
-/
namespace Go.Proofs.YtlcedleebbgebaaDoor
open Go.RowKit

theorem idx_mem {xs : List ByteArray} {x : ByteArray} (h : x ∈ xs) : ¬ Lib.idxOfS xs x < 0 := by
  intro hlt
  have gen : ∀ (zs : List ByteArray) (i : Nat), x ∈ zs → 0 ≤ Lib.idxFromS zs x i := by
    intro zs
    induction zs with
    | nil => intro i h; cases h
    | cons z zs ih =>
      intro i h
      unfold Lib.idxFromS
      split
      · omega
      · rcases List.mem_cons.1 h with e | e
        · subst e; contradiction
        · exact ih (i + 1) e
  have := gen xs 0 h
  unfold Lib.idxOfS at hlt
  omega
theorem idx_no {xs : List ByteArray} {x : ByteArray} (h : ¬ x ∈ xs) : Lib.idxOfS xs x < 0 := by
  rw [idx_miss (fun j hj e => h (by rw [← e, List.getD_eq_getElem?_getD, List.getElem?_eq_getElem hj]; simp))]
  decide
set_option maxRecDepth 100000 in
set_option maxHeartbeats 1600000 in
theorem specFresh_any (A : Option Addr) (c : Nat) (xs : List ByteArray) (w : World) (h : Sl w A (xs.map Value.string)) (hn : xs.length ≤ 1048576) :
    Calls Tryd.prog 5 #[.slice A xs.length c] w (FreshPost xs w) := by
  have HS := Lib.hid h
  clear h
  go_enter Tryd.func5, Tryd.ntmps5
  go_wp2_with fail
  go_loopw [3] (fun v wr => ∃ k : Nat, v = .int .i64 k ∧ 1 ≤ k ∧ Hid (AllTo xs k) ∧ Below w.heap.size w wr) (fun v _ => xs.length + 2 - (intOf v).toNat)
  case atStart => exact ⟨1, rfl, Nat.le_refl _, Lib.hid (allTo_one xs), Below.refl _ _⟩
  case round =>
    obtain ⟨k, rfl, h1, hall, hb⟩ := hrel
    have hk : k ≤ 1048577 := by have := allTo_le hall.out; omega
    have HK := Lib.hid (allTo_le hall.out)
    have HB := Lib.hid hb
    clear hb
    go_wp2_with fail
    refine (specFmtInt_any k (by omega) (by omega) wr).mono ?_
    rintro e w1 ⟨rfl, hb1⟩
    have HB1 := Lib.hid (HB.out.trans (hb1.mono HB.out.size))
    have HSZ := Lib.hid (fvb_size k h1 (by omega))
    have hit : (Lib.itoa (k : Int)).length ≤ 19 := by
      rw [itoa_pos _ (by omega)]
      exact digs_len _ (by omega)
    clear hb1
    have HX := Lib.hid (specIndex_any A c xs (fvb k) w1 (HS.out.below HB1.out) (by omega))
    have HF : Hid ((⟨#[118]⟩ : ByteArray) ++ ⟨(Lib.itoa (k : Int)).toArray⟩ = fvb k) := Lib.hid rfl
    go_wp2_with fail
    rw [HF.out]
    refine HX.out.mono ?_
    rintro e w2 ⟨rfl, rfl⟩
    by_cases hm : fvb k ∈ xs
    · have hi := idx_mem hm
      have HN := Lib.hid (allTo_succ hall.out hm)
      clear hm
      go_wp2_with fail
      go_roundw
      case rel => exact ⟨k + 1, by go_num, by omega, HN.out, HB1.out⟩
      case measure => have := HK.out; simp [intOf]; omega
    · have hi := idx_no hm
      have HP : Hid (FreshPost xs w (.returned (.string (fvb k))) w1) := Lib.hid ⟨k, ⟨h1, hall.out, hm⟩, HK.out, rfl, HB1.out⟩
      clear hm
      go_wp2_with fail
      go_ret
      exact HP.out
end Go.Proofs.YtlcedleebbgebaaDoor
