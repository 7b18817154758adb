/-
  Picks from a list; the draws of chapter 1.
-/
import Derived.Test.YtbahiaeppagncaaDoorDraw
import Derived.Test.YtbahiaeppagncaaDoorFormat
namespace Go.Proofs.YtbahiaeppagncaaDoor
open Go.RowKit

theorem Cur.below {w w' : World} {b : Nat} (h : Cur w b) (hb : Below w.heap.size w w') : Cur w' b := by
  obtain ⟨A, cap, bs, i, q, h1, h2, h3, h4, h5⟩ := h
  exact ⟨A, cap, bs, i, q, by rw [hb.block b (Array.getElem?_eq_some_iff.1 h1).1]; exact h1, h2.below hb, h3, h4, h5⟩
theorem Cur.lt {w : World} {b : Nat} (h : Cur w b) : b < w.heap.size := by
  obtain ⟨A, cap, bs, i, q, h1, _⟩ := h
  exact (Array.getElem?_eq_some_iff.1 h1).1
theorem sl_new (w : World) (xs : Array Value) (t : TypeId) : Sl (w.alloc (.cells xs t)) (some ⟨w.heap.size, 0, none⟩) xs.toList := by
  intro j u hj
  refine ⟨_, rfl, ?_⟩
  rw [Addr.add_lit, Nat.zero_add, cell_of_row _ _ j xs t (0, 0) (heap_alloc_new w _)]
  simpa using hj

def PickPost (xs : List Value) (b : Nat) (w : World) (e : Ending) (w' : World) : Prop := ∃ x ∈ xs, e = .returned x ∧ Cur w' b ∧ w.grownBy w' (some b)

set_option maxHeartbeats 800000 in
theorem l1Pick_any (b g c : Nat) (xs : List ByteArray) (w : World) (hcur : Cur w b) (hsl : Sl w (some ⟨g, 0, none⟩) (xs.map Value.string)) (hg : g ≠ b) (h1 : 1 ≤ xs.length) (h2 : xs.length ≤ 1000000) :
    Calls Tryd.prog 31 #[.pointer (some ⟨b, 0, none⟩), .slice (some ⟨g, 0, none⟩) xs.length c] w (PickPost (xs.map Value.string) b w) := by
  have HC := Lib.hid hcur
  have HS := Lib.hid hsl
  clear hcur hsl
  go_enter Tryd.func31, Tryd.ntmps31
  go_wp2_with fail
  refine (l1Below_any b (xs.length : Int) w HC.out (by omega) (by omega)).mono ?_
  rintro e w1 ⟨x, rfl, hx0, hx1, hc, hgr⟩
  obtain ⟨j, rfl⟩ : ∃ j : Nat, x = (j : Int) := ⟨x.toNat, by omega⟩
  have hj : j < xs.length := by omega
  obtain ⟨ad, ead, hcell⟩ := (HS.out.grown hgr hg) j (.string xs[j]) (by simp [hj])
  injection ead with ead
  subst ead
  rw [Addr.add_lit, Nat.zero_add] at hcell
  have HR : Hid (Cur w1 b ∧ w.grownBy w1 (some b)) := ⟨hc, hgr⟩
  have HM : Hid (Value.string xs[j] ∈ xs.map Value.string) := List.mem_map.2 ⟨xs[j], List.getElem_mem hj, rfl⟩
  clear hc hgr
  go_wp2_with fail
  go_ret
  exact ⟨_, HM.out, rfl, HR.out⟩

set_option maxHeartbeats 800000 in
theorem l1PickInt_any (b g c : Nat) (xs : List Int) (w : World) (hcur : Cur w b) (hsl : Sl w (some ⟨g, 0, none⟩) (xs.map (Value.int .i64))) (hg : g ≠ b) (h1 : 1 ≤ xs.length) (h2 : xs.length ≤ 1000000) :
    Calls Tryd.prog 34 #[.pointer (some ⟨b, 0, none⟩), .slice (some ⟨g, 0, none⟩) xs.length c] w (PickPost (xs.map (Value.int .i64)) b w) := by
  have HC := Lib.hid hcur
  have HS := Lib.hid hsl
  clear hcur hsl
  go_enter Tryd.func34, Tryd.ntmps34
  go_wp2_with fail
  refine (l1Below_any b (xs.length : Int) w HC.out (by omega) (by omega)).mono ?_
  rintro e w1 ⟨x, rfl, hx0, hx1, hc, hgr⟩
  obtain ⟨j, rfl⟩ : ∃ j : Nat, x = (j : Int) := ⟨x.toNat, by omega⟩
  have hj : j < xs.length := by omega
  obtain ⟨ad, ead, hcell⟩ := (HS.out.grown hgr hg) j (.int .i64 xs[j]) (by simp [hj])
  injection ead with ead
  subst ead
  rw [Addr.add_lit, Nat.zero_add] at hcell
  have HR : Hid (Cur w1 b ∧ w.grownBy w1 (some b)) := ⟨hc, hgr⟩
  have HM : Hid (Value.int .i64 xs[j] ∈ xs.map (Value.int .i64)) := List.mem_map.2 ⟨xs[j], List.getElem_mem hj, rfl⟩
  clear hc hgr
  go_wp2_with fail
  go_ret
  exact ⟨_, HM.out, rfl, HR.out⟩

/-- a pick from a list that is written out -/
theorem l1Pick_new (b : Nat) (xs : List ByteArray) (w : World) (hcur : Cur w b) (h1 : 1 ≤ xs.length) (h2 : xs.length ≤ 1000000) :
    Calls Tryd.prog 31 #[.pointer (some ⟨b, 0, none⟩), .slice (some ⟨w.heap.size, 0, none⟩) xs.length xs.length] (w.alloc (.cells (xs.map Value.string).toArray 9))
      (fun e w' => ∃ x ∈ xs, e = .returned (.string x) ∧ Cur w' b ∧ w.grownBy w' (some b)) := by
  have hb : Below w.heap.size w (w.alloc (.cells (xs.map Value.string).toArray 9)) := (Below.refl _ _).alloc (Nat.le_refl _) _
  refine (l1Pick_any b w.heap.size xs.length xs _ (hcur.below hb) (sl_new w (xs.map Value.string).toArray 9) (by have := hcur.lt; omega) h1 h2).mono ?_
  rintro e w2 ⟨u, hu, rfl, hc, hg⟩
  obtain ⟨x, hx, rfl⟩ := List.mem_map.1 hu
  exact ⟨x, hx, rfl, hc, grown_trans_row ⟨hb.os, hb.tape, hb.output, hb.size, fun i hi _ => hb.block i hi⟩ hg⟩

def wholes : List Int := [0, 1, -1, 9, 10, 999999, 1000000, 999999999999, 1000000000000, -999999999999, 9223372036854775807, -9223372036854775808]

def wholeObj : Obj := .cells (wholes.map (Value.int .i64)).toArray 3
theorem wholes_below {w : World} : Below w.heap.size w (w.alloc wholeObj) := (Below.refl _ _).alloc (Nat.le_refl _) _
theorem wholes_sl {w : World} : Sl (w.alloc wholeObj) (some ⟨w.heap.size, 0, none⟩) (wholes.map (Value.int .i64)) := by
  exact sl_new w (wholes.map (Value.int .i64)).toArray 3
theorem wholes_bd : ∀ v ∈ wholes, -9223372036854775808 ≤ v ∧ v ≤ 9223372036854775807 := by decide
theorem grown_of_below {w w' : World} {row : Option Nat} (h : Below w.heap.size w w') : w.grownBy w' row := ⟨h.os, h.tape, h.output, h.size, fun i hi _ => h.block i hi⟩

set_option maxRecDepth 100000 in
set_option maxHeartbeats 1600000 in
theorem l1Whole_any (b : Nat) (w : World) (hcur : Cur w b) : Calls Tryd.prog 25 #[.pointer (some ⟨b, 0, none⟩)] w (DPost b (-9223372036854775808) 9223372036854775807 w) := by
  have HC := Lib.hid hcur
  clear hcur
  go_enter Tryd.func25, Tryd.ntmps25
  go_wp2_with fail
  refine (l1Below_any b 3 w HC.out (by omega) (by omega)).mono ?_
  rintro e w1 ⟨x, rfl, hx0, hx1, hc, hg⟩
  have HC1 := Lib.hid hc
  have HG1 := Lib.hid hg
  clear hc hg
  by_cases e0 : x = 0
  · subst e0
    go_wp2_with fail
    refine (l1PickInt_any b w1.heap.size 12 wholes _ (HC1.out.below wholes_below) wholes_sl (by have := HC1.out.lt; omega) (by decide) (by decide)).mono ?_
    rintro e w2 ⟨u, hu, rfl, hc, hg⟩
    obtain ⟨v, hv, rfl⟩ := List.mem_map.1 hu
    have HR : Hid (DPost b (-9223372036854775808) 9223372036854775807 w (.returned (.int .i64 v)) w2) := ⟨v, rfl, (wholes_bd v hv).1, (wholes_bd v hv).2, hc, grown_trans_row HG1.out (grown_trans_row (grown_of_below wholes_below) hg)⟩
    clear hc hg hu hv
    go_wp2_with fail
    go_ret
    exact HR.out
  · by_cases e1 : x = 1
    · subst e1
      go_wp2_with fail
      refine (l1Below_any b 1000000 w1 HC1.out (by omega) (by omega)).mono ?_
      rintro e w2 ⟨y, rfl, hy0, hy1, hc, hg⟩
      have HR : Hid (∀ v : Int, v = y - 500000 → DPost b (-9223372036854775808) 9223372036854775807 w (.returned (.int .i64 v)) w2) := fun v hv => ⟨v, rfl, by omega, by omega, hc, grown_trans_row HG1.out hg⟩
      clear hc hg
      go_wp2_with fail
      go_ret
      exact HR.out _ rfl
    · have e0b : (x == 0) = false := by simpa using e0
      have e1b : (x == 1) = false := by simpa using e1
      go_wp2_with fail
      refine (l1Below_any b 20 w1 HC1.out (by omega) (by omega)).mono ?_
      rintro e w2 ⟨y, rfl, hy0, hy1, hc, hg⟩
      have HR : Hid (DPost b (-9223372036854775808) 9223372036854775807 w (.returned (.int .i64 y)) w2) := ⟨y, rfl, by omega, by omega, hc, grown_trans_row HG1.out hg⟩
      clear hc hg
      go_wp2_with fail
      go_ret
      exact HR.out

/-- the draw's argument: a list of bytes that was there before -/
def Code (w : World) (A : Option Addr) (bs : List UInt8) : Prop := Sl w A (bcells bs) ∧ bs.length ≤ 1048576
theorem Code.below {w w' : World} {A : Option Addr} {bs : List UInt8} (h : Code w A bs) (hb : Below w.heap.size w w') : Code w' A bs := ⟨h.1.below hb, h.2⟩

/-- some integer -/
def SomeInt (w : World) (e : Ending) (w' : World) : Prop := ∃ n : Int, e = .returned (.int .i64 n) ∧ -9223372036854775808 ≤ n ∧ n ≤ 9223372036854775807 ∧ Below w.heap.size w w'
theorem drawFormat_any (A : Option Addr) (cap : Nat) (bs : List UInt8) (w : World) (h : Code w A bs) : Calls Tryd.prog 10 #[.slice A bs.length cap] w (SomeInt w) := by
  have H := Lib.hid (l1New_any A cap bs w h.1 h.2)
  clear h
  go_enter Tryd.func10, Tryd.ntmps10
  go_wp2_with fail
  refine (H.out).mono ?_
  rintro e w1 ⟨b, rfl, hbw, hc, hb⟩
  have HB := Lib.hid hb
  have HC := Lib.hid hc
  clear hb hc
  go_wp2_with fail
  refine (l1Whole_any b w1 HC.out).mono ?_
  rintro e w2 ⟨x, rfl, hx0, hx1, hc2, hg⟩
  have HR : Hid (SomeInt w (.returned (.int .i64 x)) w2) := ⟨x, rfl, hx0, hx1, below_of_grown HB.out hg HB.out.size hbw⟩
  clear hx0 hx1 hc2 hg
  go_wp2_with fail
  go_ret
  exact HR.out

/-- some short text -/
def SomeText (w : World) (e : Ending) (w' : World) : Prop := ∃ s : ByteArray, e = .returned (.string s) ∧ s.size ≤ 1000 ∧ Below w.heap.size w w'
theorem itoa_len (n : Int) (h0 : -9223372036854775808 ≤ n) (h1 : n ≤ 9223372036854775807) : (Lib.itoa n).length ≤ 1000 := by
  by_cases hz : n = 0
  · subst hz; rw [itoa_zero]; decide
  · have := digs_len n.natAbs (by omega)
    by_cases hn : n < 0
    · rw [itoa_neg n hn]; simp; omega
    · rw [itoa_pos n (by omega)]; omega

def texts12 : List ByteArray := [⟨#[]⟩, ⟨#[48, 48]⟩, ⟨#[48, 49]⟩, ⟨#[45, 49]⟩, ⟨#[43, 49]⟩, ⟨#[120]⟩, ⟨#[57, 57, 57, 57, 57, 57]⟩, ⟨#[49, 48, 48, 48, 48, 48, 48]⟩, ⟨#[45, 48]⟩, ⟨#[45]⟩, ⟨#[32, 49]⟩, ⟨#[49, 32]⟩]
theorem texts12_bd : ∀ x ∈ texts12, x.size ≤ 1000 := by decide

set_option maxHeartbeats 800000 in
theorem drawParse_any (A : Option Addr) (cap : Nat) (bs : List UInt8) (w : World) (h : Code w A bs) : Calls Tryd.prog 14 #[.slice A bs.length cap] w (SomeText w) := by
  have H := Lib.hid (l1New_any A cap bs w h.1 h.2)
  clear h
  go_enter Tryd.func14, Tryd.ntmps14
  go_wp2_with fail
  refine (H.out).mono ?_
  rintro e w1 ⟨b, rfl, hbw, hc, hb⟩
  have HB := Lib.hid hb
  have HC := Lib.hid hc
  clear hb hc
  go_wp2_with fail
  refine (l1Once_any b 2 w1 HC.out (by omega) (by omega)).mono ?_
  rintro e w2 ⟨y, rfl, hc2, hg⟩
  have HC2 := Lib.hid hc2
  have HB2 := Lib.hid (below_of_grown HB.out hg HB.out.size hbw)
  clear hc2 hg
  cases y
  · go_wp2_with fail
    refine (l1Pick_new b texts12 w2 HC2.out (by decide) (by decide)).mono ?_
    rintro e w3 ⟨x, hx, rfl, hc3, hg3⟩
    have HR : Hid (SomeText w (.returned (.string x)) w3) := ⟨x, rfl, texts12_bd x hx, below_of_grown HB2.out hg3 HB2.out.size hbw⟩
    clear hx hc3 hg3
    go_wp2_with fail
    go_ret
    exact HR.out
  · go_wp2_with fail
    refine (l1Whole_any b w2 HC2.out).mono ?_
    rintro e w3 ⟨x, rfl, hx0, hx1, hc3, hg3⟩
    have HB3 := Lib.hid (below_of_grown HB2.out hg3 HB2.out.size hbw)
    have HL := Lib.hid (itoa_len x hx0 hx1)
    clear hc3 hg3
    go_wp2_with fail
    refine (specFormat_any x hx0 hx1 w3).mono ?_
    rintro e w4 ⟨rfl, hb4⟩
    have HB4 := Lib.hid (HB3.out.trans (hb4.mono HB3.out.size))
    clear hb4 hx0 hx1
    go_wp2_with fail
    go_ret
    exact ⟨_, rfl, by show (Lib.itoa x).toArray.size ≤ 1000; have := HL.out; simpa using this, HB4.out⟩

def texts6 : List ByteArray := [⟨#[]⟩, ⟨#[97]⟩, ⟨#[97, 44, 98]⟩, ⟨#[44]⟩, ⟨#[97, 44, 44, 98, 44]⟩, ⟨#[97, 10, 98, 10]⟩]
theorem texts6_bd : ∀ x ∈ texts6, x.size ≤ 1000 := by decide
def bys : List Int := [44, 10]
theorem bys_bd : ∀ v ∈ bys, 0 ≤ v ∧ v ≤ 255 := by decide
/-- some short text, some byte -/
def SomeSplit (w : World) (e : Ending) (w' : World) : Prop := ∃ (s : ByteArray) (c : UInt8), e = .returned (.tuple #[.string s, .int .u8 c.toNat]) ∧ s.size ≤ 1000 ∧ Below w.heap.size w w'
end Go.Proofs.YtbahiaeppagncaaDoor
