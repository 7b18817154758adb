/-
  Merged by program: Format.
-/
import Derived.Test.YtlcedleebbgebaaDoorF2
import Derived.Test.YtlcedleebbgebaaDoorShelf

/-
  The decimal representation: the model's FormatInt and the program's give the same text, for every integer.
-/
namespace Go.Proofs.YtlcedleebbgebaaDoor
open Go.RowKit

set_option maxRecDepth 100000 in
set_option maxHeartbeats 1600000 in
theorem specFmtInt_any (n : Int) (h0 : -9223372036854775808 ≤ n) (h1 : n ≤ 9223372036854775807) (w : World) :
    Calls Tryd.prog 9 #[.int .i64 n] w (Text (Lib.itoa n) w) := by
  by_cases hz : n = 0
  · subst hz
    have H := Lib.hid itoa_zero
    go_enter Tryd.func9, Tryd.ntmps9
    go_wp2
    go_ret
    exact ⟨(congrArg (fun l : List UInt8 => Ending.returned (.string ⟨l.toArray⟩)) H.out).symm, Below.refl _ _⟩
  · by_cases hneg : n < 0
    · have HI := Lib.hid (itoa_neg n hneg)
      have hz0 : (n == 0) = false := by simpa using hz
      go_enter Tryd.func9, Tryd.ntmps9
      go_wp2
      go_loopw [0, 4] (fun v o wr => FInv n w v o wr) (fun v _ _ => (intOf v).natAbs)
      case atStart => exact ⟨n, [], rfl, rfl, h0, h1, fun h => by omega, fun h => by omega, by simp, Below.refl _ _⟩
      case round =>
        obtain ⟨m, l, rfl, rfl, hm0, hm1, hs1, hs2, hd, hb⟩ := hrel
        have hm2 : m ≤ 0 := hs1 hneg
        have hl : l.length ≤ 19 := by
          have h2 := digs_len n.natAbs (by omega)
          rw [hd, List.length_append] at h2
          omega
        have HD := Lib.hid hd
        clear hd hs1 hs2
        by_cases hm : m < 0
        · have hcv := run_text_one wr
          have ht := tmod_neg m hm
          have ht1 := ht.1
          have ht2 := ht.2.1
          have HT := Lib.hid ht.2.2
          clear ht
          by_cases hd0 : m.tmod 10 < 0
          · go_wp2
            go_roundw
            case rel => exact finv_neg hneg hm0 hm HD.out (hb.alloc hb.size _) rfl _ rfl
            case measure => have := HT.out.2; simp only [intOf]; omega
          · go_wp2
            go_roundw
            case rel => exact finv_neg hneg hm0 hm HD.out (hb.alloc hb.size _) (by omega) _ rfl
            case measure => have := HT.out.2; simp only [intOf]; omega
        · have he : m = 0 := by omega
          subst he
          have HF : Hid (Ending.returned (.string (⟨#[45]⟩ ++ ⟨l.toArray⟩)) = Ending.returned (.string ⟨(Lib.itoa n).toArray⟩)) := by
            have e : l = digs n.natAbs := by rw [HD.out]; rfl
            rw [HI.out, push_front, e]; rfl
          go_wp2
          go_ret
          exact ⟨HF.out, hb⟩
    · have hpos : 0 < n := by omega
      have HI := Lib.hid (itoa_pos n hpos)
      have hz0 : (n == 0) = false := by simpa using hz
      have hn0 : ¬ n < 0 := hneg
      go_enter Tryd.func9, Tryd.ntmps9
      go_wp2
      go_loopw [0, 4] (fun v o wr => FInv n w v o wr) (fun v _ _ => (intOf v).natAbs)
      case atStart => exact ⟨n, [], rfl, rfl, h0, h1, fun h => by omega, fun h => by omega, by simp, Below.refl _ _⟩
      case round =>
        obtain ⟨m, l, rfl, rfl, hm0, hm1, hs1, hs2, hd, hb⟩ := hrel
        have hm2 : 0 ≤ m := hs2 hpos
        have hl : l.length ≤ 19 := by
          have h2 := digs_len n.natAbs (by omega)
          rw [hd, List.length_append] at h2
          omega
        have HD := Lib.hid hd
        clear hd hs1 hs2
        by_cases hm : 0 < m
        · have hcv := run_text_one wr
          have HT := Lib.hid (tmod_pos m hm)
          go_wp2
          go_roundw
          case rel => exact finv_pos hpos hm1 hm HD.out (hb.alloc hb.size _) rfl _ rfl
          case measure => have := HT.out.2; simp only [intOf]; omega
        · have he : m = 0 := by omega
          subst he
          have HF : Hid (Ending.returned (.string ⟨l.toArray⟩) = Ending.returned (.string ⟨(Lib.itoa n).toArray⟩)) := by
            have e : l = digs n.natAbs := by rw [HD.out]; rfl
            rw [HI.out, e]; rfl
          go_wp2
          go_ret
          exact ⟨HF.out, hb⟩
end Go.Proofs.YtlcedleebbgebaaDoor
