/-
  The draws of chapter 2: short lists of short texts, a short text.
-/
import Derived.Test.YtgelkgkmkckinaaPick
import Derived.Test.YtgelkgkmkckinaaApp
import Derived.Test.YtgelkgkmkckinaaJoinB
import Derived.Test.YtgelkgkmkckinaaSortS
namespace Go.Proofs.Ytgelkgkmkckinaa
open Go.RowKit

def Short (zs : List ByteArray) : Prop := zs.length ≤ 5 ∧ ∀ z ∈ zs, z.size ≤ 4
/-- a short list in new memory; nothing else but the cursor's block has turned -/
def L2Post (b : Nat) (w : World) (e : Ending) (w' : World) : Prop :=
  ∃ (zs : List ByteArray) (A : Option Addr) (c : Nat), e = .returned (.slice A zs.length c) ∧ Short zs ∧ w'.ownsRow w.heap.size 9 1 (.slice A zs.length c) zs.length (zs.map Value.string) ∧ Cur w' b ∧ w.grownBy w' (some b)
def picks6 : List ByteArray := [⟨#[97]⟩, ⟨#[98]⟩, ⟨#[100]⟩, ⟨#[120, 49]⟩, ⟨#[120, 50]⟩, ⟨#[97]⟩]
theorem picks6_bd : ∀ x ∈ picks6, x.size ≤ 4 := by decide
def LInv (n b : Nat) (w : World) (v i : Value) (wr : World) : Prop :=
  ∃ (k : Nat) (o : List ByteArray) (A : Option Addr) (c : Nat), k ≤ n ∧ i = .int .i64 k ∧ v = .slice A o.length c ∧ Hid (o.length = k ∧ ∀ z ∈ o, z.size ≤ 4) ∧ wr.ownsRow w.heap.size 9 1 (.slice A o.length c) o.length (o.map Value.string) ∧ Cur wr b ∧ w.grownBy wr (some b)
theorem linv_more {n b k : Nat} {o : List ByteArray} {x : ByteArray} {w wr : World} {v i : Value} (hk : k < n) (ho : o.length = k ∧ ∀ z ∈ o, z.size ≤ 4) (hx : x.size ≤ 4) (hi : i = .int .i64 ((k + 1 : Nat) : Int))
    (h : wr.ownsRow w.heap.size 9 1 v (o.length + 1) (o.map Value.string ++ [.string x])) (hc : Cur wr b) (hg : w.grownBy wr (some b)) : LInv n b w v i wr := by
  obtain ⟨A, c, rfl⟩ := own_shape h
  refine ⟨k + 1, o ++ [x], A, c, hk, hi, by simp, ⟨by simp [ho.1], fun z hz => ?_⟩, by simpa using h, hc, hg⟩
  rcases List.mem_append.1 hz with hz | hz
  · exact ho.2 z hz
  · rw [List.mem_singleton] at hz
    subst hz
    exact hx

set_option maxRecDepth 100000 in
set_option maxHeartbeats 1600000 in
theorem l2List_any (b : Nat) (w : World) (hcur : Cur w b) : Calls Try.prog 30 #[.pointer (some ⟨b, 0, none⟩)] w (L2Post b w) := by
  obtain ⟨i0, hi, hz0, hz1, hz2⟩ := info_parts infoStr
  have hbw := hcur.lt
  have hb0 : Below w.heap.size w (w.alloc (.cells #[] 9)) := (Below.refl _ _).alloc (Nat.le_refl _) _
  have HC := Lib.hid (hcur.below hb0)
  have HG0 := Lib.hid (grown_of_below (row := some b) hb0)
  have HO0 : Hid ((w.alloc (.cells #[] 9)).ownsRow w.heap.size 9 1 (.slice (some ⟨w.heap.size, 0, none⟩) 0 0) 0 []) := World.ownsRow_made w #[] 0 (Nat.le_refl _) (by unfold maxLen; omega) rfl
  clear hcur hb0
  go_enter Try.func30, Try.ntmps30
  go_wp2_with fail
  refine (l1Below_any b 6 _ HC.out (by omega) (by omega)).mono ?_
  rintro e w1 ⟨x, rfl, hx0, hx1, hc1, hg1⟩
  obtain ⟨n, rfl⟩ : ∃ n : Nat, x = (n : Int) := ⟨x.toNat, by omega⟩
  have hn5 : n ≤ 5 := by omega
  have HC1 := Lib.hid hc1
  have HG1 := Lib.hid (grown_trans_row HG0.out hg1)
  have HO1 : Hid (w1.ownsRow w.heap.size 9 1 (.slice (some ⟨w.heap.size, 0, none⟩) 0 0) 0 []) := HO0.out.kept hg1 (.inr (fun e => by simp [Value.ownBlock] at e; omega))
  clear hc1 hg1 HC HO0 HG0
  go_wp2_with fail
  go_loopw [3, 5] (fun v i wr => LInv n b w v i wr) (fun _ i _ => n - (intOf i).toNat)
  case atStart => exact ⟨0, [], some ⟨w.heap.size, 0, none⟩, 0, Nat.zero_le _, rfl, rfl, ⟨rfl, fun z hz => by simp at hz⟩, HO1.out, HC1.out, HG1.out⟩
  case round =>
    obtain ⟨k, o, A, c, hk, rfl, rfl, ho, hown, hc, hg⟩ := hrel
    have hol : o.length ≤ 5 := by have := ho.out.1; omega
    have HO := Lib.hid hown
    have HC := Lib.hid hc
    have HG := Lib.hid hg
    have hzw := hg.size
    clear hown hc hg
    by_cases hlt : k < n
    · go_wp2_with fail
      refine (l1Pick_new b picks6 wr HC.out (by decide) (by decide)).mono ?_
      rintro e w2 ⟨y, hy, rfl, hc2, hg2⟩
      have hys := picks6_bd y hy
      have hzw2 := hg2.size
      have ho2 : w2.ownsRow w.heap.size 9 1 (.slice A o.length c) o.length (o.map Value.string) := HO.out.kept hg2 (.inr (fun e => by have := (HO.out.lt b e).1; omega))
      have HO2 := Lib.hid (ho2.alloc (.cells #[.string y] 9))
      have hb2 : Below w2.heap.size w2 (w2.alloc (.cells #[.string y] 9)) := (Below.refl _ _).alloc (Nat.le_refl _) _
      have HC2 := Lib.hid (hc2.below hb2)
      have HG2 := Lib.hid (grown_trans_row (grown_trans_row HG.out hg2) (grown_of_below (row := some b) hb2))
      clear hy hc2 hg2 ho2 hb2
      go_wp2_with (at_builtin; refine wpList_append_sl _ rfl (.tmp 14) (.tmp 18) 24 rfl w.heap.size 9 i0 _ 16 Try.underlying24 hi hz0 hz1 hz2 rfl (.slice A o.length c) o.length (o.map Value.string) rfl HO2.out (some ⟨w2.heap.size, 0, none⟩) 1 1 [.string y] rfl rfl (sl_one _ _ _) (strs_oneCell [y]) (by unfold maxLen; omega) (by omega) (by simp; omega) ?_; intro v' w3 hown3 hg3 _)
      have hc3 : Cur w3 b := HC2.out.grownNew hg3 (fun g hg => by have := (HO2.out.lt g hg).1; omega)
      have hgw3 : w.grownBy w3 (some b) := grown_new HG2.out hg3 (fun g hg => (HO2.out.lt g hg).1)
      go_roundw
      case rel => exact linv_more hlt ho.out hys (by go_num) hown3 hc3 hgw3
      case measure => simp [intOf]; omega
    · have HR : Hid (L2Post b w (.returned (.slice A o.length c)) wr) := ⟨o, A, c, rfl, ⟨hol, ho.out.2⟩, HO.out, HC.out, HG.out⟩
      clear ho HO HC HG
      go_wp2_with fail
      go_ret
      exact HR.out
end Go.Proofs.Ytgelkgkmkckinaa
