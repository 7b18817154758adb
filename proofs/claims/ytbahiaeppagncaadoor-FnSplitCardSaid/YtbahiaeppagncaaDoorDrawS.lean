/-
  The draw of a text and a byte to split at; the law of splitting, walked: joining the parts restores the text, and no part holds the byte.
-/
import Derived.Test.YtbahiaeppagncaaDoorDrawA
import Derived.Test.YtbahiaeppagncaaDoorSplitLaw
import Derived.Test.YtbahiaeppagncaaDoorNumbersLaw
namespace Go.Proofs.YtbahiaeppagncaaDoor
open Go.RowKit

theorem l1PickInt_new (b : Nat) (xs : List Int) (w : World) (hcur : Cur w b) (h1 : 1 ≤ xs.length) (h2 : xs.length ≤ 1000000) :
    Calls Tryd.prog 34 #[.pointer (some ⟨b, 0, none⟩), .slice (some ⟨w.heap.size, 0, none⟩) xs.length xs.length] (w.alloc (.cells (xs.map (Value.int .i64)).toArray 3))
      (fun e w' => ∃ x ∈ xs, e = .returned (.int .i64 x) ∧ Cur w' b ∧ w.grownBy w' (some b)) := by
  have hb : Below w.heap.size w (w.alloc (.cells (xs.map (Value.int .i64)).toArray 3)) := (Below.refl _ _).alloc (Nat.le_refl _) _
  refine (l1PickInt_any b w.heap.size xs.length xs _ (hcur.below hb) (sl_new w (xs.map (Value.int .i64)).toArray 3) (by have := hcur.lt; omega) h1 h2).mono ?_
  rintro e w2 ⟨u, hu, rfl, hc, hg⟩
  obtain ⟨x, hx, rfl⟩ := List.mem_map.1 hu
  exact ⟨x, hx, rfl, hc, grown_trans_row (grown_of_below hb) hg⟩

set_option maxHeartbeats 800000 in
theorem drawSplit_any (A : Option Addr) (cap : Nat) (bs : List UInt8) (w : World) (h : Code w A bs) : Calls Tryd.prog 17 #[.slice A bs.length cap] w (SomeSplit w) := by
  have H := Lib.hid (l1New_any A cap bs w h.1 h.2)
  clear h
  go_enter Tryd.func17, Tryd.ntmps17
  go_wp2_with fail
  refine (H.out).mono ?_
  rintro e w1 ⟨b, rfl, hbw, hc, hb⟩
  have HB := Lib.hid hb
  have HC := Lib.hid hc
  clear hb hc
  go_wp2_with fail
  refine (l1Pick_new b texts6 w1 HC.out (by decide) (by decide)).mono ?_
  rintro e w2 ⟨s, hs, rfl, hc2, hg2⟩
  have HS := Lib.hid (texts6_bd s hs)
  have HC2 := Lib.hid hc2
  have HB2 := Lib.hid (below_of_grown HB.out hg2 HB.out.size hbw)
  clear hs hc2 hg2
  go_wp2_with fail
  refine (l1PickInt_new b bys w2 HC2.out (by decide) (by decide)).mono ?_
  rintro e w3 ⟨x, hx, rfl, hc3, hg3⟩
  have hx0 := bys_bd x hx
  have HB3 := Lib.hid (below_of_grown HB2.out hg3 HB2.out.size hbw)
  obtain ⟨c, rfl⟩ : ∃ c : UInt8, x = (c.toNat : Int) := ⟨UInt8.ofNat x.toNat, by rw [UInt8.toNat_ofNat']; omega⟩
  have hlo : (0 : Int) ≤ (c.toNat : Int) := by omega
  have hhi : (c.toNat : Int) ≤ 255 := by omega
  clear hx hc3 hg3 hx0
  go_wp2_with fail
  go_ret2
  exact ⟨s, c, rfl, HS.out, HB3.out⟩
end Go.Proofs.YtbahiaeppagncaaDoor
