/-
  The model's SplitByte and the program's: each gives the parts in new memory.
-/
import Derived.Test.YtbahiaeppagncaaDoorSplitA
import Derived.Test.YtbahiaeppagncaaDoorShelf
import Derived.Test.YtbahiaeppagncaaDoorFormat
import Derived.OwnWalk
import Derived.WalkLawsBesides
namespace Go.Proofs.YtbahiaeppagncaaDoor
open Go.RowKit

theorem infoStr : (Tryd.prog.info? 9).map (fun i => (i.zero, i.size, i.bytes)) = some (some (.string ⟨#[]⟩), 1, 16) := by kernel_rfl

/-- a list of strings in memory that the call owns: a value, what it owns, and what was there stays -/
def SlOwn (e : TypeId) (P : List ByteArray → Prop) (w : World) (en : Ending) (w' : World) : Prop :=
  ∃ (g cap : Nat) (xs : List ByteArray), en = .returned (.slice (some ⟨g, 0, none⟩) xs.length cap) ∧ w'.ownsRow w.heap.size e 1 (.slice (some ⟨g, 0, none⟩) xs.length cap) xs.length (xs.map Value.string) ∧ Below w.heap.size w w' ∧ P xs

/-- what strings.Split wants of the library's variable -/
def MaxL (w : World) : Prop := ∃ m, w.cell? ⟨3, 0, none⟩ = some (.int .i64 m)
theorem MaxL.below {w w' : World} (h : MaxL w) (hb : Below w.heap.size w w') : MaxL w' := by
  obtain ⟨m, hm⟩ := h
  exact ⟨m, (hb.cell (World.block_lt_of_cell? w _ hm)).trans hm⟩

theorem own_made (w : World) (e : TypeId) (xs : List ByteArray) (hn : xs.length ≤ maxLen) :
    (w.alloc (.cells (xs.map Value.string).toArray e)).ownsRow w.heap.size e 1 (.slice (some ⟨w.heap.size, 0, none⟩) xs.length xs.length) xs.length (xs.map Value.string) :=
  ⟨by simp, .inr ⟨w.heap.size, xs.length, (xs.map Value.string).toArray, rfl, Nat.le_refl _, heap_alloc_new w _, Nat.le_refl _, hn, by simp, List.take_of_length_le (by simp)⟩⟩
theorem own_base {w : World} {b b' : Nat} {e : TypeId} {g n cap : Nat} {xs : List Value} (h : w.ownsRow b e 1 (.slice (some ⟨g, 0, none⟩) n cap) n xs) (hb : b' ≤ b) : w.ownsRow b' e 1 (.slice (some ⟨g, 0, none⟩) n cap) n xs := by
  refine ⟨h.1, ?_⟩
  rcases h.2 with ⟨h1, _⟩ | ⟨g', c', cur, hv, hg, r⟩
  · cases h1
  · exact .inr ⟨g', c', cur, hv, by omega, r⟩

set_option maxHeartbeats 400000 in
theorem implSplit_any (s : ByteArray) (c : UInt8) (w : World) (hs : s.size ≤ 1048576) (hm : MaxL w) :
    Calls Tryd.prog 18 #[.string s, .int .u8 c.toNat] w (SlOwn 9 (fun xs => xs.map (·.data.toList) = splitL c s.data.toList) w) := by
  have hcv := run_text_one w (c.toNat : Int)
  rw [show (UInt8.ofNat ((c.toNat : Int)).toNat) = c from by simp] at hcv
  have hd := split_data s c
  have hlen := splitL_len c s.data.toList
  rw [size_data] at hlen
  have hb0 : Below w.heap.size w (w.alloc (.cells #[.int .u8 c.toNat] 5)) := (Below.refl _ _).alloc (Nat.le_refl _) _
  obtain ⟨m, hm'⟩ := hm.below hb0
  obtain ⟨xs, hxs⟩ : ∃ xs, xs = Lib.splitB ⟨#[c]⟩ 0 (Lib.countB s ⟨#[c]⟩) s := ⟨_, rfl⟩
  have hn : xs.length = Lib.countB s ⟨#[c]⟩ + 1 := by
    have h1 : xs.length = (splitL c s.data.toList).length := by rw [hxs, ← hd, List.length_map]
    have h2 : (Lib.splitB ⟨#[c]⟩ 0 (Lib.countB s ⟨#[c]⟩) s).length = Lib.countB s ⟨#[c]⟩ + 1 := split_count s c
    rw [hxs, h2]
  have hl : xs.length ≤ 1048577 := by rw [hxs, ← List.length_map (f := (·.data.toList)), hd]; omega
  have call := Lib.hid (Tryd.strings_Split s ⟨#[c]⟩ m _ (by omega) hm' (show 1 ≤ 1 from Nat.le_refl 1))
  rw [← hxs] at hd
  have HD := Lib.hid hd
  have HX := Lib.hid hxs
  have HN := Lib.hid hn
  clear hd hm hlen hxs hn hm'
  go_enter Tryd.func18, Tryd.ntmps18
  go_wp2_with fail
  refine (call.out).mono ?_
  rintro e w1 ⟨rfl, rfl⟩
  rw [← HX.out, ← HN.out]
  have hown := own_made (w.alloc (.cells #[.int .u8 c.toNat] 5)) 9 xs (by unfold maxLen; omega)
  have hown' := own_base hown (b' := w.heap.size) (by simp)
  have e1 : (w.alloc (.cells #[.int .u8 c.toNat] 5)).heap.size = w.heap.size + 1 := by simp
  rw [e1] at hown'
  have HO := Lib.hid hown'
  clear hown' e1
  have HB := Lib.hid (hb0.alloc hb0.size (.cells (xs.map Value.string).toArray 9))
  clear hown hb0
  go_wp2_with fail
  go_ret
  exact ⟨_, _, xs, rfl, HO.out, HB.out, HD.out⟩

set_option maxRecDepth 100000 in
set_option maxHeartbeats 1600000 in
theorem specSplit_any (s : ByteArray) (c : UInt8) (w : World) (hs : s.size ≤ 1048576) :
    Calls Tryd.prog 20 #[.string s, .int .u8 c.toNat] w (SlOwn 9 (fun xs => xs.map (·.data.toList) = splitL c s.data.toList) w) := by
  obtain ⟨i0, hi, hz0, hz1, hz2⟩ := info_parts infoStr
  go_enter Tryd.func20, Tryd.ntmps20
  have hLs := size_data s
  have HL := Lib.hid hLs
  clear hLs
  go_wp2_with fail
  go_loopw [5, 6, 7] (fun v f i wr => ∃ (xs : List ByteArray) (fr k : Nat), f = .int .i64 fr ∧ i = .int .i64 k ∧ wr.ownsRow w.heap.size 9 1 v xs.length (xs.map Value.string) ∧ Below w.heap.size w wr ∧ SState c s.data.toList xs fr k ∧ xs.length ≤ k ∧ fr ≤ k ∧ k ≤ s.size + 1) (fun _ _ i _ => s.size + 1 - (intOf i).toNat)
  case atStart =>
    exact ⟨[], 0, 0, rfl, rfl, World.ownsRow_made w #[] 0 (Nat.le_refl _) (by unfold maxLen; omega) rfl, (Below.refl _ _).alloc (Nat.le_refl _) _, sstate_start _ _, Nat.le_refl _, Nat.le_refl _, by omega⟩
  case round =>
    obtain ⟨xs, fr, k, rfl, rfl, hown, hb, hst, hxk, hfk, hks⟩ := hrel
    have HS := Lib.hid hst
    clear hst
    by_cases hlt : k < s.size
    · have hL : k < s.data.toList.length := by rw [HL.out]; exact hlt
      have hget : s.data.toList[k] = s[k]'hlt := rfl
      by_cases hc : s[k]'hlt = c
      · skip
        have hex : (s.extract fr k).data.toList = (s.data.toList.drop fr).take (k - fr) := Lib.extract_data s fr k
        have hcut := sstate_cut HS.out hL (by rw [hget]; exact hc) _ hex
        have HC := Lib.hid hcut
        have hne : ((k : Int) == (s.size : Int)) = false := by simp; omega
        have hn2 : (((s[k]'hlt).toNat : Int) == (c.toNat : Int)) = true := by simp [hc]
        clear hcut hex hget hL
        go_wp2_with (at_builtin; refine wpList_append_own _ rfl (.tmp 26) (.tmp 31) 31 rfl w.heap.size 9 i0 (.string ⟨#[]⟩) 1 16 Tryd.underlying31 hi hz0 hz1 hz2 rfl (by decide) _ _ _ rfl (hown.alloc _) ⟨wr.heap.size, 0, none⟩ 1 1 [.string (s.extract fr k)] rfl rfl (by intro t u ht; match t, ht with | 0, ht => simp at ht; subst ht; simp [Addr.add]) (by intro u hu; simp at hu; subst hu; rfl) (by unfold maxLen; omega) (by omega) (by have := hb.size; simp; omega) ?_; intro v1 w1 hown1 hg1 _)
        have hb1 : Below w.heap.size w w1 := (hb.alloc hb.size _).grown hg1 (by have := hb.size; simp; omega) (fun g hg => (hown.lt g hg).1)
        have HO : Hid (w1.ownsRow w.heap.size 9 1 v1 (xs ++ [s.extract fr k]).length ((xs ++ [s.extract fr k]).map Value.string)) := by
          have e1 : (xs ++ [s.extract fr k]).length = xs.length + 1 := by simp
          have e2 : (xs ++ [s.extract fr k]).map Value.string = xs.map Value.string ++ [.string (s.extract fr k)] := by simp
          rw [e1, e2]
          exact hown1
        clear hown1 hown
        go_roundw
        case rel => exact ⟨xs ++ [s.extract fr k], k + 1, k + 1, by go_num, by go_num, HO.out, hb1, HC.out, by simp; omega, by omega, by omega⟩
        case measure => simp [intOf]; omega
      · have hcut := sstate_skip HS.out hL (by rw [hget]; exact hc)
        have HC := Lib.hid hcut
        have HO := Lib.hid hown
        have hne : ((k : Int) == (s.size : Int)) = false := by simp; omega
        have hn2 : (((s[k]'hlt).toNat : Int) == (c.toNat : Int)) = false := by
          simp
          intro e
          exact hc (UInt8.toNat_inj.1 (by omega))
        clear hcut hget hL hown
        go_wp2_with fail
        go_roundw
        case rel => exact ⟨xs, fr, k + 1, rfl, by go_num, HO.out, hb, HC.out, by omega, by omega, by omega⟩
        case measure => simp [intOf]; omega
    · by_cases hks2 : k = s.size
      · skip
        have hex : (s.extract fr k).data.toList = (s.data.toList.drop fr).take (k - fr) := Lib.extract_data s fr k
        have hcut := (by have h := HS.out; rw [show k = s.data.toList.length by rw [HL.out]; exact hks2] at h ⊢; exact sstate_last h (s.extract fr s.data.toList.length) (by rw [HL.out] at *; rw [← hks2] at *; exact hex) : SState c s.data.toList (xs ++ [s.extract fr k]) (k + 1) (k + 1))
        have HC := Lib.hid hcut
        have hne : ((k : Int) == (s.size : Int)) = true := by simp [hks2]
        have HK := Lib.hid hks2
        have hle : k ≤ s.size := by omega
        clear hcut hex hks2
        go_wp2_with (at_builtin; refine wpList_append_own _ rfl (.tmp 26) (.tmp 31) 31 rfl w.heap.size 9 i0 (.string ⟨#[]⟩) 1 16 Tryd.underlying31 hi hz0 hz1 hz2 rfl (by decide) _ _ _ rfl (hown.alloc _) ⟨wr.heap.size, 0, none⟩ 1 1 [.string (s.extract fr k)] rfl rfl (by intro t u ht; match t, ht with | 0, ht => simp at ht; subst ht; simp [Addr.add]) (by intro u hu; simp at hu; subst hu; rfl) (by unfold maxLen; omega) (by omega) (by have := hb.size; simp; omega) ?_; intro v1 w1 hown1 hg1 _)
        have hb1 : Below w.heap.size w w1 := (hb.alloc hb.size _).grown hg1 (by have := hb.size; simp; omega) (fun g hg => (hown.lt g hg).1)
        have HO : Hid (w1.ownsRow w.heap.size 9 1 v1 (xs ++ [s.extract fr k]).length ((xs ++ [s.extract fr k]).map Value.string)) := by
          have e1 : (xs ++ [s.extract fr k]).length = xs.length + 1 := by simp
          have e2 : (xs ++ [s.extract fr k]).map Value.string = xs.map Value.string ++ [.string (s.extract fr k)] := by simp
          rw [e1, e2]
          exact hown1
        clear hown1 hown
        go_roundw
        case rel => exact ⟨xs ++ [s.extract fr k], k + 1, k + 1, by go_num, by go_num, HO.out, hb1, HC.out, by simp; omega, by omega, by omega⟩
        case measure => simp [intOf]; omega
      · have hend := sstate_end HS.out (by rw [HL.out]; omega)
        have HE := Lib.hid hend
        have hgt : ¬ k ≤ s.size := by omega
        have hlen := splitL_len c s.data.toList
        have hx1 : 1 ≤ xs.length := by
          have := congrArg List.length hend
          rw [List.length_map] at this
          omega
        clear hend hlen
        obtain ⟨g, cap, rfl⟩ : ∃ g cap, u5 = .slice (some ⟨g, 0, none⟩) xs.length cap := by
          rcases hown.2 with ⟨_, h2⟩ | ⟨g, cap, cur, hv, _⟩
          · omega
          · exact ⟨g, cap, hv⟩
        have HO := Lib.hid hown
        clear hown
        go_wp2_with fail
        go_ret
        exact ⟨g, cap, xs, rfl, HO.out, hb, HE.out⟩
end Go.Proofs.YtbahiaeppagncaaDoor
