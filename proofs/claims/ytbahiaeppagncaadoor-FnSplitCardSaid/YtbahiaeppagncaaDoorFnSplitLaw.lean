/-
  The law of splitting, walked: joining the parts restores the text, there are as many as the model's, and no part holds the byte.
-/
import Derived.Test.YtbahiaeppagncaaDoorDrawS
import Derived.Test.YtbahiaeppagncaaDoorJoinI
namespace Go.Proofs.YtbahiaeppagncaaDoor
open Go.RowKit

theorem splitL_free (c : UInt8) : ∀ (l : List UInt8), ∀ p ∈ splitL c l, c ∉ p
  | [], p, hp => by
    simp only [splitL, List.mem_singleton] at hp
    subst hp
    simp
  | b :: r, p, hp => by
    rw [splitL] at hp
    split at hp
    · rcases List.mem_cons.1 hp with rfl | hp
      · simp
      · exact splitL_free c r p hp
    · rename_i hb
      split at hp
      · simp only [List.mem_singleton] at hp
        subst hp
        simpa using fun e => hb e.symm
      · rename_i h t he
        have ih := splitL_free c r
        rw [he] at ih
        rcases List.mem_cons.1 hp with rfl | hp
        · have := ih h (by simp)
          simp only [List.mem_cons, not_or]
          exact ⟨fun e => hb e.symm, this⟩
        · exact ih p (by simp [hp])
theorem joinTail_cons (sep x : List UInt8) (r : List (List UInt8)) : Lib.joinTail sep (x :: r) = sep ++ x ++ Lib.joinTail sep r := by simp [Lib.joinTail]
theorem join_split (c : UInt8) (l : List UInt8) : Lib.join (splitL c l) [c] = l := by
  induction l with
  | nil => rfl
  | cons b r ih =>
    have hl := splitL_len c r
    cases hs : splitL c r with
    | nil => rw [hs] at hl; simp at hl
    | cons h t =>
      rw [hs, Lib.join_cons] at ih
      rw [splitL]
      split
      · rename_i hb
        rw [hs, Lib.join_cons, joinTail_cons, List.nil_append, List.append_assoc, ih, hb]
        rfl
      · rw [hs]
        simp only
        rw [Lib.join_cons, List.cons_append, ih]

def SplitInv (w : World) (g : Nat) (xs : List ByteArray) (i : Value) (wr : World) : Prop := ∃ j : Nat, j ≤ xs.length ∧ i = .int .i64 j ∧ Sl wr (some ⟨g, 0, none⟩) (xs.map Value.string) ∧ Below w.heap.size w wr

set_option maxHeartbeats 1600000 in
theorem fnSplit_law (A : Option Addr) (cap : Nat) (bs : List UInt8) (w : World) (hn : bs.length ≤ 9223372036854775807) (hsl : Sl w A (bcells bs)) (hm : MaxL w) :
    Calls Tryd.prog 4 #[.slice A bs.length cap] w (LawYes w) := by
  have HM := Lib.hid hm
  have HS := Lib.hid hsl
  clear hm hsl
  go_enter Tryd.func4, Tryd.ntmps4
  go_wp2_with fail
  refine (big_any A bs.length cap w).mono ?_
  rintro e w0 ⟨rfl, rfl⟩
  by_cases hbig : 1048576 < bs.length
  · go_wp2_with fail
    go_ret
    exact ⟨rfl, Below.refl _ _⟩
  · have hcode : Code w A bs := ⟨HS.out, by omega⟩
    have HC := Lib.hid hcode
    clear hcode
    go_wp2_with fail
    refine (drawSplit_any A cap bs w HC.out).mono ?_
    rintro e w1 ⟨s, c, rfl, hs, hb1⟩
    have HB1 := Lib.hid hb1
    have HM1 := Lib.hid (HM.out.below hb1)
    clear hb1
    go_wp2_with fail
    refine (implSplit_any s c w1 (by omega) HM1.out).mono ?_
    rintro e w2 ⟨g, gc, xs, rfl, hown, hb2, hp⟩
    have hlen := splitL_len c s.data.toList
    rw [size_data, ← hp, List.length_map] at hlen
    have hx1 : xs.length ≤ 1001 := by omega
    have hcap : xs.length ≤ gc := by
      rcases hown.2 with ⟨h1, _⟩ | ⟨g', c', cur, hv, _, _, hc, _⟩
      · cases h1
      · injection hv with _ _ hv
        subst hv
        exact hc
    have s2 := Lib.hid (Sl.of_own hown)
    have HP := Lib.hid hp
    have HB2 := Lib.hid (HB1.out.trans (hb2.mono HB1.out.size))
    have hcv := run_text_one w2 (c.toNat : Int)
    rw [show (UInt8.ofNat ((c.toNat : Int)).toNat) = c from by simp] at hcv
    have ha : Below w2.heap.size w2 (w2.alloc (.cells #[.int .u8 c.toNat] 5)) := (Below.refl _ _).alloc (Nat.le_refl _) _
    have hjs : jn xs ⟨#[c]⟩ = s.data.toList := by
      show Lib.join (xs.map (·.data.toList)) [c] = _
      rw [hp, join_split]
    have htot : total xs ≤ 1000 := by
      have h1 := lens_total xs
      cases xs with
      | nil => simp [total]
      | cons y r =>
        have h2 : (jn (y :: r) ⟨#[c]⟩).length = s.size := by rw [hjs, size_data]
        unfold jn at h2
        rw [List.map_cons] at h1 h2
        rw [Lib.join_length] at h2
        omega
    have HA2 := Lib.hid ha
    have HJ := Lib.hid hjs
    clear hown hp hlen hb2 ha hjs
    go_wp2_with fail
    refine (implJoin_any g gc xs ⟨#[c]⟩ _ (s2.out.below HA2.out) hcap (by omega) (by show xs.length * 1 + total xs ≤ _; omega)).mono ?_
    rintro e w3 ⟨rfl, hb3⟩
    have HB3' := Lib.hid (HA2.out.trans (hb3.mono HA2.out.size))
    have s3 := Lib.hid (s2.out.below HB3'.out)
    have HB3 := Lib.hid (HB2.out.trans (HB3'.out.mono HB2.out.size))
    have hst : (⟨(jn xs ⟨#[c]⟩).toArray⟩ : ByteArray) = s := by
      rw [HJ.out]
    rw [hst]
    clear hb3 hst hcv
    go_wp2_with fail
    refine (specSplit_any s c w3 (by omega)).mono ?_
    rintro e w4 ⟨g4, c4, ys, rfl, hown4, hb4, hp4⟩
    obtain rfl : xs = ys := map_data_inj (HP.out.trans hp4.symm)
    have s4 := s3.out.below hb4
    have hb14 := HB3.out.trans (hb4.mono HB3.out.size)
    clear hown4 hb4 hp4
    have S4 := Lib.hid s4
    have HB4 := Lib.hid hb14
    clear s4 hb14
    go_wp2_with fail
    go_loopw [6] (fun i wr => SplitInv w g xs i wr) (fun i _ => xs.length - (intOf i).toNat)
    case atStart => exact ⟨0, Nat.zero_le _, rfl, S4.out, HB4.out⟩
    case round =>
      obtain ⟨j, hj, rfl, hsj, hbj⟩ := hrel
      by_cases hlt : j < xs.length
      · obtain ⟨ad, ead, hc⟩ := hsj j (.string xs[j]) (by simp [hlt])
        injection ead with ead
        subst ead
        rw [Addr.add_lit, Nat.zero_add] at hc
        have hfree : splitL c xs[j].data.toList = [xs[j].data.toList] := splitL_none c _ (splitL_free c s.data.toList _ (by rw [← HP.out]; exact List.mem_map.2 ⟨xs[j], List.getElem_mem hlt, rfl⟩))
        have hsz : xs[j].size ≤ 1048576 := by
          have h1 := total_take_succ xs j xs[j] (List.getElem?_eq_getElem hlt)
          have h2 := total_take_le xs (j + 1)
          omega
        have HF := Lib.hid hfree
        have HSj := Lib.hid hsj
        have HBj := Lib.hid hbj
        have HMj := Lib.hid (HM.out.below hbj)
        clear hfree hsj hbj
        go_wp2_with fail
        refine (implSplit_any xs[j] c wr hsz HMj.out).mono ?_
        rintro e w5 ⟨g5, c5, zs, rfl, hown5, hb5, hp5⟩
        have hz : zs.length = 1 := by
          have := congrArg List.length (hp5.trans HF.out)
          simpa using this
        have HZ := Lib.hid hz
        have HR : Hid (Sl w5 (some ⟨g, 0, none⟩) (xs.map Value.string) ∧ Below w.heap.size w w5) := ⟨HSj.out.below hb5, HBj.out.trans (hb5.mono HBj.out.size)⟩
        rw [hz]
        clear hown5 hb5 hp5 hz hc
        go_wp2_with fail
        go_roundw
        case rel => exact ⟨j + 1, hlt, by go_num, HR.out.1, HR.out.2⟩
        case measure => simp [intOf]; omega
      · go_wp2_with fail
        go_ret
        exact ⟨rfl, hbj⟩
end Go.Proofs.YtbahiaeppagncaaDoor
