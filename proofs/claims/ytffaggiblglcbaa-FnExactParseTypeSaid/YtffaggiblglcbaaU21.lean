/-
  Merged by program: RdS.
-/
import Derived.Test.YtffaggiblglcbaaU17
import Derived.Test.YtffaggiblglcbaaU20
import Derived.RegionTactic
import Derived.Deep.QuietTactic
import Derived.BigQuiet
import Derived.IntWalk
import Derived.Lib.SplitLaws

/-
  The model's reader of types: what it takes from the text (l4Take, l4Must, l4Word).
-/
namespace Go.Proofs.Ytffaggiblglcbaa
open Go.RowKit

/-- from the place p on, the text reads r -/
def At (s : ByteArray) (r : List UInt8) (p : Nat) : Prop := p ≤ s.size ∧ s.data.toList.drop p = r
theorem At.len {s : ByteArray} {r : List UInt8} {p : Nat} (h : At s r p) : p + r.length = s.size := by
  obtain ⟨h1, rfl⟩ := h
  rw [List.length_drop, size_data]
  omega
theorem At.zero (s : ByteArray) : At s s.data.toList 0 := ⟨Nat.zero_le _, rfl⟩
theorem At.cons {s : ByteArray} {x : UInt8} {r : List UInt8} {p : Nat} (h : At s (x :: r) p) : At s r (p + 1) ∧ p < s.size ∧ ∀ hp : p < s.size, s[p]'hp = x := by
  have h0 := h.len
  obtain ⟨h1, h2⟩ := h
  have hp : p < s.size := by simp at h0; omega
  refine ⟨⟨by omega, ?_⟩, hp, fun _ => ?_⟩
  · rw [← List.drop_drop, h2]
    rfl
  · have := congrArg (fun l => l[0]?) h2
    simp only [List.getElem?_drop, List.getElem?_cons_zero, Nat.add_zero] at this
    have h3 := List.getElem?_eq_some_iff.1 this
    obtain ⟨h4, h5⟩ := h3
    rw [← h5]
    simp [ByteArray.getElem_eq_getElem_data]
theorem At.app {s : ByteArray} {l r : List UInt8} {p : Nat} (h : At s (l ++ r) p) : At s r (p + l.length) ∧ s.extract p (p + l.length) = bs l := by
  have h0 := h.len
  obtain ⟨h1, h2⟩ := h
  rw [List.length_append] at h0
  refine ⟨⟨by omega, ?_⟩, ?_⟩
  · rw [← List.drop_drop, h2, List.drop_left]
  · apply ByteArray.ext
    apply Array.ext'
    have := Lib.extract_data s p (p + l.length)
    rw [this, h2, Nat.add_sub_cancel_left, List.take_left]
    rfl
/-- the model's reader: the text, what is left of it, whether something went wrong -/
def RdSt (w : World) (b : Nat) (s : ByteArray) (r : List UInt8) (bad : Bool) : Prop := ∃ p : Nat, Box3 w b 54 (.string s) (.int .i64 p) (.bool bad) ∧ At s r p
/-- what l4Take finds -/
def tkB (bad : Bool) (c : UInt8) (r : List UInt8) : Option (List UInt8) := if bad = true then none else tk c r
def TakeP (b : Nat) (s : ByteArray) (r : List UInt8) (bad : Bool) (c : UInt8) (w : World) (e : Ending) (w' : World) : Prop :=
  e = .returned (.bool (tkB bad c r).isSome) ∧ RdSt w' b s ((tkB bad c r).getD r) bad ∧ Fr b b w.heap.size w w'
theorem takeP_no {b : Nat} {s : ByteArray} {r : List UInt8} {bad : Bool} {c : UInt8} {w : World} {p n : Nat} (h : Box3 w b 54 (.string s) (.int .i64 p) (.bool bad)) (ha : At s r p) (ht : tkB bad c r = none) : TakeP b s r bad c w (.returned (.bool false)) (w.drewN n) := by
  unfold TakeP
  rw [ht]
  exact ⟨rfl, ⟨p, h, ha⟩, ⟨rfl, rfl, rfl, Nat.le_refl _, fun _ _ _ _ => rfl⟩⟩

theorem takeP_yes {b : Nat} {s : ByteArray} {r : List UInt8} {c : UInt8} {w : World} {p n : Nat} (h : Box3 w b 54 (.string s) (.int .i64 p) (.bool false)) (ha : At s (c :: r) p) : TakeP b s (c :: r) false c w (.returned (.bool true)) ((w.drewN n).setCell ⟨b, 1, none⟩ (.int .i64 ((p : Int) + 1))) := by
  unfold TakeP
  rw [show tkB false c (c :: r) = some r from tk_same c r]
  refine ⟨rfl, ⟨p + 1, ?_, ha.cons.1⟩, ((Fr.refl b b _ w).drewN n).setP 1 _⟩
  have h' : Box3 (w.drewN n) b 54 (.string s) (.int .i64 p) (.bool false) := h
  exact h'.set1 _

set_option maxHeartbeats 800000 in
set_option maxRecDepth 100000 in
theorem l4Take_any (b : Nat) (s : ByteArray) (r : List UInt8) (bad : Bool) (c : UInt8) (w : World) (h : RdSt w b s r bad) (hs : s.size ≤ 1048576) :
    Calls Try.prog 66 #[.pointer (some ⟨b, 0, none⟩), .string ⟨#[c]⟩] w (TakeP b s r bad c w) := by
  obtain ⟨p, hb, ha⟩ := h
  have hlen := ha.len
  cases bad with
  | true =>
    have x0 := hb.c0
    have x1 := hb.c1
    have x2 := hb.c2
    have HF : Hid (∀ n, TakeP b s r true c w (.returned (.bool false)) (w.drewN n)) := Lib.hid (fun n => takeP_no hb ha rfl)
    clear ha hlen hb
    go_enter Try.func66, Try.ntmps66
    go_upto_region 1 with (fail)
    go_quiet (fail)
    go_wp2_with fail
    go_ret
    exact HF.out _
  | false =>
    have x0 := hb.c0
    have x1 := hb.c1
    have x2 := hb.c2
    have hw1 : IntKind.i64.wrap ((p : Int) + 1) = (p : Int) + 1 := IntWalk.i64_in _ (by omega)
    have hz1 : (⟨#[c]⟩ : ByteArray).size = 1 := rfl
    cases r with
    | nil =>
      have HF : Hid (∀ n, TakeP b s [] false c w (.returned (.bool false)) (w.drewN n)) := Lib.hid (fun n => takeP_no hb ha rfl)
      have hgt : (p : Int) + 1 > (s.size : Int) := by simp at hlen; omega
      clear ha hlen hb
      go_enter Try.func66, Try.ntmps66
      go_upto_region 1 with (fail)
      go_quiet (fail)
      go_wp2_with fail
      go_ret
      exact HF.out _
    | cons x r =>
      obtain ⟨ha2, hp, _⟩ := ha.cons
      have hex : s.extract p (p + 1) = ⟨#[x]⟩ := (At.app (l := [x]) ha).2
      obtain ⟨m, hm⟩ : ∃ m, m = p + 1 := ⟨_, rfl⟩
      rw [← hm] at hex
      have hm2 : ((p : Int) + 1).toNat = m := by omega
      have hle : (p : Int) + 1 ≤ (s.size : Int) := by omega
      have hle0 : (0 : Int) ≤ (p : Int) + 1 := by omega
      have hle1 : (p : Int) ≤ (p : Int) + 1 := by omega
      by_cases hxc : x = c
      · subst hxc
        have HF : Hid (∀ n, TakeP b s (x :: r) false x w (.returned (.bool true)) ((w.drewN n).setCell ⟨b, 1, none⟩ (.int .i64 ((p : Int) + 1)))) := Lib.hid (fun n => takeP_yes hb ha)
        have hne : (x == x) = true := by simp
        have hlf : ¬ ((s.size : Int) < (p : Int) + 1) := by omega
        have y1 := hb.free 1
        clear ha hlen hb ha2 hm
        go_enter Try.func66, Try.ntmps66
        go_upto_region 1 with (fail)
        go_quiet (fail)
        go_wp2_with fail
        go_ret
        exact HF.out _
      · have HF : Hid (∀ n, TakeP b s (x :: r) false c w (.returned (.bool false)) (w.drewN n)) := Lib.hid (fun n => takeP_no hb ha (tk_other _ hxc))
        have hne : (x == c) = false := by rw [beq_eq_false_iff_ne]; exact hxc
        have hlf : ¬ ((s.size : Int) < (p : Int) + 1) := by omega
        clear ha hlen hb ha2 hm
        go_enter Try.func66, Try.ntmps66
        go_upto_region 1 with (fail)
        go_quiet (fail)
        go_wp2_with fail
        go_ret
        exact HF.out _

/-- what l4Must leaves -/
def MustP (b : Nat) (s : ByteArray) (r : List UInt8) (bad : Bool) (c : UInt8) (w : World) (e : Ending) (w' : World) : Prop :=
  e = .returned (.tuple #[]) ∧ RdSt w' b s ((tkB bad c r).getD r) (!(tkB bad c r).isSome) ∧ Fr b b w.heap.size w w'
set_option maxHeartbeats 800000 in
set_option maxRecDepth 100000 in
theorem l4Must_any (b : Nat) (s : ByteArray) (r : List UInt8) (bad : Bool) (c : UInt8) (w : World) (h : RdSt w b s r bad) (hs : s.size ≤ 1048576) :
    Calls Try.prog 69 #[.pointer (some ⟨b, 0, none⟩), .string ⟨#[c]⟩] w (MustP b s r bad c w) := by
  have HT := Lib.hid (l4Take_any b s r bad c w h hs)
  obtain ⟨p, hb, ha⟩ := h
  have x2 := hb.c2
  cases bad with
  | true =>
    have HF : Hid (MustP b s r true c w (.returned (.tuple #[])) (w.setCell ⟨b, 2, none⟩ (.bool true))) := Lib.hid ⟨rfl, ⟨p, hb.set2 _, ha⟩, (Fr.refl b b _ w).setP 2 _⟩
    have y2 := hb.free 2
    clear HT ha hb
    go_enter Try.func69, Try.ntmps69
    go_wp2_with fail
    go_end0
    exact HF.out
  | false =>
    clear ha hb
    unfold TakeP at HT
    unfold MustP
    cases ho : tkB false c r with
    | none =>
      rw [ho] at HT
      simp only [Option.isSome_none, Option.getD_none, Bool.not_false] at HT ⊢
      clear ho
      go_enter Try.func69, Try.ntmps69
      go_wp2_with fail
      refine HT.out.mono ?_
      rintro e w1 ⟨rfl, ⟨p1, hb1, ha1⟩, hf1⟩
      have y0 := hb1.c2
      have y2 := hb1.free 2
      have HF : Hid ((Ending.returned (Value.tuple #[]) = .returned (.tuple #[])) ∧ RdSt (w1.setCell ⟨b, 2, none⟩ (.bool true)) b s r true ∧ Fr b b w.heap.size w (w1.setCell ⟨b, 2, none⟩ (.bool true))) := Lib.hid ⟨rfl, ⟨p1, hb1.set2 _, ha1⟩, hf1.setP 2 _⟩
      clear hb1 ha1 hf1
      go_wp2_with fail
      go_end0
      exact ⟨rfl, HF.out.2⟩
    | some r' =>
      rw [ho] at HT
      simp only [Option.isSome_some, Option.getD_some, Bool.not_true] at HT ⊢
      clear ho
      go_enter Try.func69, Try.ntmps69
      go_wp2_with fail
      refine HT.out.mono ?_
      rintro e w1 ⟨rfl, ⟨p1, hb1, ha1⟩, hf1⟩
      have y0 := hb1.c2
      have y2 := hb1.free 2
      have HF : Hid ((Ending.returned (Value.tuple #[]) = .returned (.tuple #[])) ∧ RdSt (w1.setCell ⟨b, 2, none⟩ (.bool false)) b s r' false ∧ Fr b b w.heap.size w (w1.setCell ⟨b, 2, none⟩ (.bool false))) := Lib.hid ⟨rfl, ⟨p1, hb1.set2 _, ha1⟩, hf1.setP 2 _⟩
      clear hb1 ha1 hf1
      go_wp2_with fail
      go_end0
      exact ⟨rfl, HF.out.2⟩
end Go.Proofs.Ytffaggiblglcbaa
