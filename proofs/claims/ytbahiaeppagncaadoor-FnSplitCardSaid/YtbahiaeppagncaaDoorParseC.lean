/-
  The program's reading of a numeral: what it answers, and that where it cannot it panics (inside).
-/
import Derived.Test.YtbahiaeppagncaaDoorParseB
import Derived.Test.YtbahiaeppagncaaDoorFormatLaw
import Derived.Defers
import Derived.Recover
import Derived.BigQuiet
import Derived.WalkLawsBesides
import Derived.Deep.QuietTactic
namespace Go.Proofs.YtbahiaeppagncaaDoor
open Go.RowKit

/-- what the parsing wants of the library's variables -/
structure Vars (w : World) : Prop where
  pow : Lib.TabIs Tryd.prog w "internal/strconv.uint64pow10" .u64 Lib.pow10Tab
  syn : ∃ tp p, w.var? Tryd.prog "strconv.ErrSyntax" = some #[.iface tp p]
  rng : ∃ tp p, w.var? Tryd.prog "strconv.ErrRange" = some #[.iface tp p]
  size : 0 < w.heap.size ∧ 1 < w.heap.size ∧ 2 < w.heap.size

theorem gSyn : Tryd.prog.globalNamed "strconv.ErrSyntax" = some 1 := by kernel_rfl
theorem gRng : Tryd.prog.globalNamed "strconv.ErrRange" = some 2 := by kernel_rfl
theorem var_below {w w' : World} {name : String} {g : Nat} {cs : Array Value} (hg : Tryd.prog.globalNamed name = some g) (hlt : g < w.heap.size) (h : w.var? Tryd.prog name = some cs) (hb : Below w.heap.size w w') : w'.var? Tryd.prog name = some cs := by
  unfold World.var? at h ⊢
  rw [hg] at h ⊢
  simpa [hb.block g hlt] using h
theorem Vars.below {w w' : World} (h : Vars w) (hb : Below w.heap.size w w') : Vars w' := by
  obtain ⟨tp, p, h1⟩ := h.syn
  obtain ⟨tq, q, h2⟩ := h.rng
  have hs := hb.size
  have hz := h.size
  exact ⟨tab_below gPow hz.1 h.pow hb, ⟨tp, p, var_below gSyn hz.2.1 h1 hb⟩, ⟨tq, q, var_below gRng hz.2.2 h2 hb⟩, by omega, by omega, by omega⟩

/-- it panics, with a text; what was there is as it was -/
def Dies (w : World) (e : Ending) (w' : World) : Prop := ∃ sv : Value, e = .panicked [{ v := .iface 9 sv, recovered := false }] ∧ Below w.heap.size w w'

theorem below_bytes (w : World) (t : ByteArray) : Below w.heap.size w (Lib.bytesWorld w 5 t) := by
  unfold Lib.bytesWorld World.freeze
  rw [if_neg (by decide)]
  have h := (Below.refl w.heap.size w).drew.alloc (Nat.le_refl _) (.cells (Lib.bytesCells w 5 t) 5)
  refine ⟨h.os, h.tape, h.output, by simp, fun k hk => ?_⟩
  rw [Array.getElem?_modify, if_neg (by simp; omega)]
  exact h.block k hk

set_option maxHeartbeats 1600000 in
theorem must_syntax (s : ByteArray) (lo hi : Int) (hs : s.size ≤ 281474976710656) (h : Lib.atoiAll s.data.toList = Lib.NumEnd.syntax) (w : World) (hv : Vars w) :
    Calls Tryd.prog 29 #[.string s, .int .i64 lo, .int .i64 hi] w (Dies w) := by
  obtain ⟨tp, p, h1⟩ := hv.syn
  have H := Lib.hid (Tryd.strconv_Atoi_syntax_var s hs h tp p w h1)
  clear h h1 hv
  go_enter Tryd.func29, Tryd.ntmps29
  go_wp2_with fail
  refine (H.out).mono ?_
  rintro e w1 ⟨N, rfl, hN, hcell, hb⟩
  have HC := Lib.hid hcell
  clear hcell
  go_wp2_with fail
  exact ⟨rfl, _, rfl, hb⟩

set_option maxHeartbeats 1600000 in
theorem must_range (s : ByteArray) (lo hi : Int) (hs : s.size ≤ 281474976710656) (h : Lib.atoiAll s.data.toList = .range) (w : World) (hv : Vars w) :
    Calls Tryd.prog 29 #[.string s, .int .i64 lo, .int .i64 hi] w (Dies w) := by
  obtain ⟨tp, p, h1⟩ := hv.rng
  have H := Lib.hid (Tryd.strconv_Atoi_range_var s hs h tp p w h1)
  clear h h1 hv
  go_enter Tryd.func29, Tryd.ntmps29
  go_wp2_with fail
  refine (H.out).mono ?_
  rintro e w1 ⟨N, rfl, hN, hcell, hb⟩
  have HC := Lib.hid hcell
  clear hcell
  go_wp2_with fail
  exact ⟨rfl, _, rfl, hb⟩

/-- Atoi's answer where there is one -/
theorem atoi_ok (s : ByteArray) (hs : s.size ≤ 281474976710656) (v : Int) (h : Lib.atoiAll s.data.toList = .ok v) (w : World) :
    Calls Tryd.prog 40 #[.string s] w fun e w' => e = .returned (.tuple #[.int .i64 v, .nilIface]) ∧ Below w.heap.size w w' :=
  (Tryd.strconv_Atoi_ok s (by omega) v h w).mono fun e w' ⟨he, hw⟩ => ⟨he, by
    rcases hw with rfl | ⟨t, rfl⟩
    · exact Below.refl _ _
    · exact below_bytes w t⟩

set_option maxHeartbeats 1600000 in
theorem must_out (s : ByteArray) (lo hi v : Int) (hs : s.size ≤ 281474976710656) (h : Lib.atoiAll s.data.toList = .ok v) (hout : v < lo ∨ hi < v) (w : World) :
    Calls Tryd.prog 29 #[.string s, .int .i64 lo, .int .i64 hi] w (Dies w) := by
  have H := Lib.hid (atoi_ok s hs v h w)
  clear h
  by_cases hlo : v < lo
  · clear hout
    go_enter Tryd.func29, Tryd.ntmps29
    go_wp2_with fail
    refine (H.out).mono ?_
    rintro e w1 ⟨rfl, hb⟩
    go_wp2_with fail
    exact ⟨rfl, _, rfl, hb⟩
  · have hhi : hi < v := by omega
    clear hout
    go_enter Tryd.func29, Tryd.ntmps29
    go_wp2_with fail
    refine (H.out).mono ?_
    rintro e w1 ⟨rfl, hb⟩
    go_wp2_with fail
    exact ⟨rfl, _, rfl, hb⟩

def MustPost (v : Int) (s : ByteArray) (w : World) (e : Ending) (w' : World) : Prop :=
  (Lib.itoa v = s.data.toList ∧ e = .returned (.int .i64 v) ∧ Below w.heap.size w w') ∨ (Lib.itoa v ≠ s.data.toList ∧ Dies w e w')
set_option maxHeartbeats 1600000 in
theorem must_in (s : ByteArray) (lo hi v : Int) (hs : s.size ≤ 281474976710656) (h : Lib.atoiAll s.data.toList = .ok v) (hlo : lo ≤ v) (hhi : v ≤ hi) (hlo0 : -9223372036854775808 ≤ lo) (hhi0 : hi ≤ 9223372036854775807) (w : World) (hv : Vars w) :
    Calls Tryd.prog 29 #[.string s, .int .i64 lo, .int .i64 hi] w (MustPost v s w) := by
  have H := Lib.hid (atoi_ok s hs v h w)
  have hv0 : -9223372036854775808 ≤ v := by omega
  have hv1 : v ≤ 9223372036854775807 := by omega
  have HV := Lib.hid hv
  clear h hv
  go_enter Tryd.func29, Tryd.ntmps29
  go_wp2_with fail
  refine (H.out).mono ?_
  rintro e w1 ⟨rfl, hb⟩
  go_wp2_with fail
  refine (implFormat_any v hv0 hv1 w1 (HV.out.below hb).pow).mono ?_
  rintro e w2 ⟨rfl, hb2⟩
  go_wp2_with fail
  · have hc : (!Lib.itoa v == s.toList) = true := by assumption
    have hne : Lib.itoa v ≠ s.data.toList := by
      rw [Lib.toList_data] at hc
      simpa using hc
    exact ⟨rfl, .inr ⟨hne, _, rfl, hb.trans (hb2.mono hb.size)⟩⟩
  · have hc : (!Lib.itoa v == s.toList) = false := by assumption
    have heq : Lib.itoa v = s.data.toList := by
      rw [Lib.toList_data] at hc
      simpa using hc
    have HE := Lib.hid heq
    clear heq
    go_ret
    exact .inl ⟨HE.out, rfl, hb.trans (hb2.mono hb.size)⟩

/-- THE PROGRAM's READING: the number between lo and hi whose representation s is, or a panic where there is none -/
def Must (s : ByteArray) (lo hi : Int) (w : World) (e : Ending) (w' : World) : Prop :=
  (∃ v, lo ≤ v ∧ v ≤ hi ∧ Lib.itoa v = s.data.toList ∧ e = .returned (.int .i64 v) ∧ Below w.heap.size w w') ∨ ((∀ v, lo ≤ v → v ≤ hi → Lib.itoa v ≠ s.data.toList) ∧ Dies w e w')
theorem must_any (s : ByteArray) (lo hi : Int) (hs : s.size ≤ 281474976710656) (hlo : -1000000000000000000 < lo) (hhi : hi < 1000000000000000000) (w : World) (hv : Vars w) :
    Calls Tryd.prog 29 #[.string s, .int .i64 lo, .int .i64 hi] w (Must s lo hi w) := by
  have back : ∀ v, lo ≤ v → v ≤ hi → Lib.itoa v = s.data.toList → Lib.atoiAll s.data.toList = .ok v := fun v h1 h2 e => by rw [← e]; exact atoi_itoa v (by omega) (by omega)
  rcases h : Lib.atoiAll s.data.toList with u | _ | _
  · by_cases hin : lo ≤ u ∧ u ≤ hi
    · refine (must_in s lo hi u hs h hin.1 hin.2 (by omega) (by omega) w hv).mono fun e w' hd => ?_
      rcases hd with ⟨he, h1, h2⟩ | ⟨he, hd⟩
      · exact .inl ⟨u, hin.1, hin.2, he, h1, h2⟩
      · refine .inr ⟨fun v h1 h2 e2 => ?_, hd⟩
        have := back v h1 h2 e2
        rw [h] at this
        injection this with this
        exact he (this ▸ e2)
    · refine (must_out s lo hi u hs h (by omega) w).mono fun e w' hd => .inr ⟨fun v h1 h2 e2 => ?_, hd⟩
      have := back v h1 h2 e2
      rw [h] at this
      injection this with this
      subst this
      exact hin ⟨h1, h2⟩
  · refine (must_syntax s lo hi hs h w hv).mono fun e w' hd => .inr ⟨fun v h1 h2 he => ?_, hd⟩
    rw [back v h1 h2 he] at h
    cases h
  · refine (must_range s lo hi hs h w hv).mono fun e w' hd => .inr ⟨fun v h1 h2 he => ?_, hd⟩
    rw [back v h1 h2 he] at h
    cases h
end Go.Proofs.YtbahiaeppagncaaDoor
