/-
  Merged by program: RdS, Cut.
-/
import Derived.Test.YtffaggiblglcbaaV14
import Derived.Test.YtffaggiblglcbaaV17
import Derived.RegionTactic
import Derived.Deep.QuietTactic
import Derived.BigQuiet
import Derived.IntWalk
import Derived.Lib.SplitLaws
import Derived.Test.YtffaggiblglcbaaShelf

/-
  The model's reader of types: what it takes from the text (l4Take, l4Must, l4Word).
-/
namespace Go.Proofs.Ytffaggiblglcbaa
open Go.RowKit

/-- from the place p on, the text reads r -/
def At (s : ByteArray) (r : List UInt8) (p : Nat) : Prop := p ≤ s.size ∧ s.data.toList.drop p = r
theorem At.len {s : ByteArray} {r : List UInt8} {p : Nat} (h : At s r p) : p + r.length = s.size := by
  obtain ⟨h1, rfl⟩ := h
  rw [List.length_drop, size_data]
  omega
theorem At.zero (s : ByteArray) : At s s.data.toList 0 := ⟨Nat.zero_le _, rfl⟩
theorem At.cons {s : ByteArray} {x : UInt8} {r : List UInt8} {p : Nat} (h : At s (x :: r) p) : At s r (p + 1) ∧ p < s.size ∧ ∀ hp : p < s.size, s[p]'hp = x := by
  have h0 := h.len
  obtain ⟨h1, h2⟩ := h
  have hp : p < s.size := by simp at h0; omega
  refine ⟨⟨by omega, ?_⟩, hp, fun _ => ?_⟩
  · rw [← List.drop_drop, h2]
    rfl
  · have := congrArg (fun l => l[0]?) h2
    simp only [List.getElem?_drop, List.getElem?_cons_zero, Nat.add_zero] at this
    have h3 := List.getElem?_eq_some_iff.1 this
    obtain ⟨h4, h5⟩ := h3
    rw [← h5]
    simp [ByteArray.getElem_eq_getElem_data]
theorem At.app {s : ByteArray} {l r : List UInt8} {p : Nat} (h : At s (l ++ r) p) : At s r (p + l.length) ∧ s.extract p (p + l.length) = bs l := by
  have h0 := h.len
  obtain ⟨h1, h2⟩ := h
  rw [List.length_append] at h0
  refine ⟨⟨by omega, ?_⟩, ?_⟩
  · rw [← List.drop_drop, h2, List.drop_left]
  · apply ByteArray.ext
    apply Array.ext'
    have := Lib.extract_data s p (p + l.length)
    rw [this, h2, Nat.add_sub_cancel_left, List.take_left]
    rfl
/-- the model's reader: the text, what is left of it, whether something went wrong -/
def RdSt (w : World) (b : Nat) (s : ByteArray) (r : List UInt8) (bad : Bool) : Prop := ∃ p : Nat, Box3 w b 54 (.string s) (.int .i64 p) (.bool bad) ∧ At s r p
/-- what l4Take finds -/
def tkB (bad : Bool) (c : UInt8) (r : List UInt8) : Option (List UInt8) := if bad = true then none else tk c r
def TakeP (b : Nat) (s : ByteArray) (r : List UInt8) (bad : Bool) (c : UInt8) (w : World) (e : Ending) (w' : World) : Prop :=
  e = .returned (.bool (tkB bad c r).isSome) ∧ RdSt w' b s ((tkB bad c r).getD r) bad ∧ Fr b b w.heap.size w w'
theorem takeP_no {b : Nat} {s : ByteArray} {r : List UInt8} {bad : Bool} {c : UInt8} {w : World} {p n : Nat} (h : Box3 w b 54 (.string s) (.int .i64 p) (.bool bad)) (ha : At s r p) (ht : tkB bad c r = none) : TakeP b s r bad c w (.returned (.bool false)) (w.drewN n) := by
  unfold TakeP
  rw [ht]
  exact ⟨rfl, ⟨p, h, ha⟩, ⟨rfl, rfl, rfl, Nat.le_refl _, fun _ _ _ _ => rfl⟩⟩

theorem takeP_yes {b : Nat} {s : ByteArray} {r : List UInt8} {c : UInt8} {w : World} {p n : Nat} (h : Box3 w b 54 (.string s) (.int .i64 p) (.bool false)) (ha : At s (c :: r) p) : TakeP b s (c :: r) false c w (.returned (.bool true)) ((w.drewN n).setCell ⟨b, 1, none⟩ (.int .i64 ((p : Int) + 1))) := by
  unfold TakeP
  rw [show tkB false c (c :: r) = some r from tk_same c r]
  refine ⟨rfl, ⟨p + 1, ?_, ha.cons.1⟩, ((Fr.refl b b _ w).drewN n).setP 1 _⟩
  have h' : Box3 (w.drewN n) b 54 (.string s) (.int .i64 p) (.bool false) := h
  exact h'.set1 _

set_option maxHeartbeats 800000 in
set_option maxRecDepth 100000 in
theorem l4Take_any (b : Nat) (s : ByteArray) (r : List UInt8) (bad : Bool) (c : UInt8) (w : World) (h : RdSt w b s r bad) (hs : s.size ≤ 1048576) :
    Calls Try.prog 66 #[.pointer (some ⟨b, 0, none⟩), .string ⟨#[c]⟩] w (TakeP b s r bad c w) := by
  obtain ⟨p, hb, ha⟩ := h
  have hlen := ha.len
  cases bad with
  | true =>
    have x0 := hb.c0
    have x1 := hb.c1
    have x2 := hb.c2
    have HF : Hid (∀ n, TakeP b s r true c w (.returned (.bool false)) (w.drewN n)) := Lib.hid (fun n => takeP_no hb ha rfl)
    clear ha hlen hb
    go_enter Try.func66, Try.ntmps66
    go_upto_region 1 with (fail)
    go_quiet (fail)
    go_wp2_with fail
    go_ret
    exact HF.out _
  | false =>
    have x0 := hb.c0
    have x1 := hb.c1
    have x2 := hb.c2
    have hw1 : IntKind.i64.wrap ((p : Int) + 1) = (p : Int) + 1 := IntWalk.i64_in _ (by omega)
    have hz1 : (⟨#[c]⟩ : ByteArray).size = 1 := rfl
    cases r with
    | nil =>
      have HF : Hid (∀ n, TakeP b s [] false c w (.returned (.bool false)) (w.drewN n)) := Lib.hid (fun n => takeP_no hb ha rfl)
      have hgt : (p : Int) + 1 > (s.size : Int) := by simp at hlen; omega
      clear ha hlen hb
      go_enter Try.func66, Try.ntmps66
      go_upto_region 1 with (fail)
      go_quiet (fail)
      go_wp2_with fail
      go_ret
      exact HF.out _
    | cons x r =>
      obtain ⟨ha2, hp, _⟩ := ha.cons
      have hex : s.extract p (p + 1) = ⟨#[x]⟩ := (At.app (l := [x]) ha).2
      obtain ⟨m, hm⟩ : ∃ m, m = p + 1 := ⟨_, rfl⟩
      rw [← hm] at hex
      have hm2 : ((p : Int) + 1).toNat = m := by omega
      have hle : (p : Int) + 1 ≤ (s.size : Int) := by omega
      have hle0 : (0 : Int) ≤ (p : Int) + 1 := by omega
      have hle1 : (p : Int) ≤ (p : Int) + 1 := by omega
      by_cases hxc : x = c
      · subst hxc
        have HF : Hid (∀ n, TakeP b s (x :: r) false x w (.returned (.bool true)) ((w.drewN n).setCell ⟨b, 1, none⟩ (.int .i64 ((p : Int) + 1)))) := Lib.hid (fun n => takeP_yes hb ha)
        have hne : (x == x) = true := by simp
        have hlf : ¬ ((s.size : Int) < (p : Int) + 1) := by omega
        have y1 := hb.free 1
        clear ha hlen hb ha2 hm
        go_enter Try.func66, Try.ntmps66
        go_upto_region 1 with (fail)
        go_quiet (fail)
        go_wp2_with fail
        go_ret
        exact HF.out _
      · have HF : Hid (∀ n, TakeP b s (x :: r) false c w (.returned (.bool false)) (w.drewN n)) := Lib.hid (fun n => takeP_no hb ha (tk_other _ hxc))
        have hne : (x == c) = false := by rw [beq_eq_false_iff_ne]; exact hxc
        have hlf : ¬ ((s.size : Int) < (p : Int) + 1) := by omega
        clear ha hlen hb ha2 hm
        go_enter Try.func66, Try.ntmps66
        go_upto_region 1 with (fail)
        go_quiet (fail)
        go_wp2_with fail
        go_ret
        exact HF.out _

/-- what l4Must leaves -/
def MustP (b : Nat) (s : ByteArray) (r : List UInt8) (bad : Bool) (c : UInt8) (w : World) (e : Ending) (w' : World) : Prop :=
  e = .returned (.tuple #[]) ∧ RdSt w' b s ((tkB bad c r).getD r) (!(tkB bad c r).isSome) ∧ Fr b b w.heap.size w w'
set_option maxHeartbeats 800000 in
set_option maxRecDepth 100000 in
theorem l4Must_any (b : Nat) (s : ByteArray) (r : List UInt8) (bad : Bool) (c : UInt8) (w : World) (h : RdSt w b s r bad) (hs : s.size ≤ 1048576) :
    Calls Try.prog 69 #[.pointer (some ⟨b, 0, none⟩), .string ⟨#[c]⟩] w (MustP b s r bad c w) := by
  have HT := Lib.hid (l4Take_any b s r bad c w h hs)
  obtain ⟨p, hb, ha⟩ := h
  have x2 := hb.c2
  cases bad with
  | true =>
    have HF : Hid (MustP b s r true c w (.returned (.tuple #[])) (w.setCell ⟨b, 2, none⟩ (.bool true))) := Lib.hid ⟨rfl, ⟨p, hb.set2 _, ha⟩, (Fr.refl b b _ w).setP 2 _⟩
    have y2 := hb.free 2
    clear HT ha hb
    go_enter Try.func69, Try.ntmps69
    go_wp2_with fail
    go_end0
    exact HF.out
  | false =>
    clear ha hb
    unfold TakeP at HT
    unfold MustP
    cases ho : tkB false c r with
    | none =>
      rw [ho] at HT
      simp only [Option.isSome_none, Option.getD_none, Bool.not_false] at HT ⊢
      clear ho
      go_enter Try.func69, Try.ntmps69
      go_wp2_with fail
      refine HT.out.mono ?_
      rintro e w1 ⟨rfl, ⟨p1, hb1, ha1⟩, hf1⟩
      have y0 := hb1.c2
      have y2 := hb1.free 2
      have HF : Hid ((Ending.returned (Value.tuple #[]) = .returned (.tuple #[])) ∧ RdSt (w1.setCell ⟨b, 2, none⟩ (.bool true)) b s r true ∧ Fr b b w.heap.size w (w1.setCell ⟨b, 2, none⟩ (.bool true))) := Lib.hid ⟨rfl, ⟨p1, hb1.set2 _, ha1⟩, hf1.setP 2 _⟩
      clear hb1 ha1 hf1
      go_wp2_with fail
      go_end0
      exact ⟨rfl, HF.out.2⟩
    | some r' =>
      rw [ho] at HT
      simp only [Option.isSome_some, Option.getD_some, Bool.not_true] at HT ⊢
      clear ho
      go_enter Try.func69, Try.ntmps69
      go_wp2_with fail
      refine HT.out.mono ?_
      rintro e w1 ⟨rfl, ⟨p1, hb1, ha1⟩, hf1⟩
      have y0 := hb1.c2
      have y2 := hb1.free 2
      have HF : Hid ((Ending.returned (Value.tuple #[]) = .returned (.tuple #[])) ∧ RdSt (w1.setCell ⟨b, 2, none⟩ (.bool false)) b s r' false ∧ Fr b b w.heap.size w (w1.setCell ⟨b, 2, none⟩ (.bool false))) := Lib.hid ⟨rfl, ⟨p1, hb1.set2 _, ha1⟩, hf1.setP 2 _⟩
      clear hb1 ha1 hf1
      go_wp2_with fail
      go_end0
      exact ⟨rfl, HF.out.2⟩
end Go.Proofs.Ytffaggiblglcbaa

/-
  The program's reader of types: strings.Cut at a colon; the variables that its closures share; read.
-/
namespace Go.Proofs.Ytffaggiblglcbaa
open Go.RowKit

/-- what strings.Cut gives ahead of the first colon -/
def labOf (r : List UInt8) : List UInt8 := match cutC r with
  | some p => p.1
  | none => r
theorem index_cut (r : List UInt8) : Lib.indexByte r 58 = match cutC r with
    | some p => (p.1.length : Int)
    | none => -1 := by
  induction r with
  | nil => rfl
  | cons x r ih =>
    unfold Lib.indexByte cutC
    by_cases hx : x = 58
    · subst hx
      simp
    · rw [if_neg (by simp [hx]), if_neg hx, ih]
      cases cutC r with
      | none => simp
      | some p => simp <;> omega
theorem labOf_len (r : List UInt8) : (labOf r).length ≤ r.length := by
  unfold labOf
  cases h : cutC r with
  | none => exact Nat.le_refl _
  | some p =>
    have := congrArg List.length (cutC_some (show cutC r = some (p.1, p.2) from h))
    simp at this
    show p.1.length ≤ r.length
    omega
def CutP (r : List UInt8) (w : World) (e : Ending) (w' : World) : Prop := ∃ (y : ByteArray) (ok : Bool) (n : Nat), e = .returned (.tuple #[.string (bs (labOf r)), .string y, .bool ok]) ∧ w' = w.drewN n
theorem cutp_of {r l : List UInt8} {w : World} {y : ByteArray} {ok : Bool} {n : Nat} (h : labOf r = l) : CutP r w (.returned (.tuple #[.string (bs l), .string y, .bool ok])) (w.drewN n) := by
  subst h
  exact ⟨y, ok, n, rfl, rfl⟩
theorem bs_take (r l q : List UInt8) (h : r = l ++ 58 :: q) : (bs r).extract 0 l.length = bs l := by
  apply ByteArray.ext
  apply Array.ext'
  have := Lib.extract_data (bs r) 0 l.length
  rw [this]
  rw [bs_data, h]
  simp [bs]

set_option maxHeartbeats 800000 in
set_option maxRecDepth 100000 in
theorem inCut_any (r : List UInt8) (w : World) (hr : r.length ≤ 1048576) : Calls Try.prog 78 #[.string (bs r), .string ⟨#[58]⟩] w (CutP r w) := by
  have HI := Lib.hid (Try.stringslite_Index_one (bs r) 58 w)
  have hix := index_cut r
  rw [bs_data] at HI
  rw [hix] at HI
  have hsz : (bs r).size = r.length := rfl
  cases hc : cutC r with
  | none =>
    rw [hc] at HI
    have HL : Hid (labOf r = r) := Lib.hid (by unfold labOf; rw [hc])
    clear hix hc
    go_enter Try.func78, Try.ntmps78
    go_wp2_with fail
    refine HI.out.mono ?_
    rintro e w1 ⟨rfl, rfl⟩
    go_wp2_with fail
    go_ret3
    exact cutp_of (n := 0) HL.out
  | some p =>
    obtain ⟨l, q⟩ := p
    rw [hc] at HI
    have hrl := cutC_some hc
    have hex := bs_take r l q hrl
    have hln := congrArg List.length hrl
    simp only [List.length_append, List.length_cons] at hln
    have HL : Hid (labOf r = l) := Lib.hid (by unfold labOf; rw [hc])
    obtain ⟨i, hi⟩ : ∃ i, l.length = i := ⟨_, rfl⟩
    simp only [hi] at HI
    rw [hi] at hex hln
    have c1 : (0 : Int) ≤ (i : Int) := by omega
    have c2 : (i : Int) ≤ ((bs r).size : Int) := by rw [hsz]; omega
    have c3 : (0 : Int) ≤ (i : Int) + 1 := by omega
    have c4 : (i : Int) + 1 ≤ ((bs r).size : Int) := by rw [hsz]; omega
    have hw1 : IntKind.i64.wrap ((i : Int) + 1) = (i : Int) + 1 := IntWalk.i64_in _ (by omega)
    have hm2 : ((i : Int) + 1).toNat = i + 1 := by omega
    have hil : i ≤ r.length := by omega
    have hil1 : (i : Int) + 1 ≤ (r.length : Int) := by omega
    clear hix hc hrl hi
    obtain ⟨S, hS⟩ : ∃ S, bs r = S := ⟨_, rfl⟩
    rw [hS] at HI hex hsz c2 c4 ⊢
    clear hS
    go_enter Try.func78, Try.ntmps78
    go_wp2_with fail
    refine HI.out.mono ?_
    rintro e w1 ⟨rfl, rfl⟩
    go_upto_region 3 with (fail)
    go_quiet (fail)
    go_wp2_with fail
    go_ret3
    exact cutp_of HL.out

set_option maxHeartbeats 800000 in
theorem cut_any (r : List UInt8) (w : World) (hr : r.length ≤ 1048576) : Calls Try.prog 58 #[.string (bs r), .string ⟨#[58]⟩] w (CutP r w) := by
  have HC := Lib.hid (inCut_any r w hr)
  generalize hS : bs r = S at HC ⊢
  clear hS
  go_enter Try.func58, Try.ntmps58
  go_wp2_with fail
  refine HC.out.mono ?_
  rintro e w1 ⟨y, ok, n, rfl, rfl⟩
  go_wp2_with fail
  go_ret3
  exact ⟨y, ok, n, rfl, rfl⟩

/-! the variables that the closures of cutType share: from the block H on -/
def ptr (k : Nat) : Value := .pointer (some ⟨k, 0, none⟩)
def fnRead (H : Nat) : Value := .func (.func 55) #[] #[.pointer (some ⟨H + 2, 0, none⟩), .pointer (some ⟨H, 0, none⟩)]
def fnArg (H : Nat) : Value := .func (.func 56) #[] #[.pointer (some ⟨H + 4, 0, none⟩)]
def fnLab (H : Nat) : Value := .func (.func 57) #[] #[.pointer (some ⟨H, 0, none⟩), .pointer (some ⟨H + 2, 0, none⟩), .pointer (some ⟨H + 5, 0, none⟩)]
def fnFld (H : Nat) : Value := .func (.func 59) #[] #[.pointer (some ⟨H + 7, 0, none⟩), .pointer (some ⟨H + 6, 0, none⟩), .pointer (some ⟨H + 5, 0, none⟩)]
def fnTyp (H : Nat) : Value := .func (.func 60) #[] #[.pointer (some ⟨H + 3, 0, none⟩), .pointer (some ⟨H + 5, 0, none⟩), .pointer (some ⟨H + 8, 0, none⟩), .pointer (some ⟨H + 6, 0, none⟩)]
/-- what none of them turns -/
structure Con (H : Nat) (s : ByteArray) (w : World) : Prop where
  cs : Boxed w H 9 (.string s)
  ct : Boxed w (H + 4) 82 (fnTyp H)
  cr : Boxed w (H + 5) 83 (fnRead H)
  ca : Boxed w (H + 6) 85 (fnArg H)
  cl : Boxed w (H + 7) 85 (fnLab H)
  cf : Boxed w (H + 8) 85 (fnFld H)
/-- the text, what is left of it, how many nodes were met -/
def St (H : Nat) (s : ByteArray) (n : Nat) (r : List UInt8) (w : World) : Prop := Con H s w ∧ (∃ p : Nat, Boxed w (H + 2) 3 (.int .i64 p) ∧ At s r p) ∧ Boxed w (H + 3) 3 (.int .i64 n)
section
variable {H n : Nat} {s : ByteArray} {r : List UInt8} {w w' : World}
theorem Con.lt (h : Con H s w) : H + 8 < w.heap.size := h.cf.lt
theorem Con.fr (h : Con H s w) {B : Nat} (hf : Fr (H + 2) (H + 3) B w w') (hB : H + 8 < B) : Con H s w' :=
  ⟨Boxed.fr h.cs hf (by omega) (by omega) (by omega), Boxed.fr h.ct hf (by omega) (by omega) (by omega), Boxed.fr h.cr hf (by omega) (by omega) (by omega), Boxed.fr h.ca hf (by omega) (by omega) (by omega), Boxed.fr h.cl hf (by omega) (by omega) (by omega), Boxed.fr h.cf hf (by omega) (by omega) (by omega)⟩
theorem Con.grown (h : Con H s w) {row : Option Nat} (hg : w.grownBy w' row) (hr : ∀ k, row = some k → H + 8 < k) : Con H s w' := by
  have ne : ∀ x, x ≤ H + 8 → some x ≠ row := fun x hx e => by have := hr x e.symm; omega
  exact ⟨Boxed.grown h.cs hg (ne _ (by omega)), Boxed.grown h.ct hg (ne _ (by omega)), Boxed.grown h.cr hg (ne _ (by omega)), Boxed.grown h.ca hg (ne _ (by omega)), Boxed.grown h.cl hg (ne _ (by omega)), Boxed.grown h.cf hg (ne _ (by omega))⟩
theorem St.grown (h : St H s n r w) {row : Option Nat} (hg : w.grownBy w' row) (hr : ∀ k, row = some k → H + 8 < k) : St H s n r w' := by
  obtain ⟨h1, ⟨p, h2, h3⟩, h4⟩ := h
  have ne : ∀ x, x ≤ H + 8 → some x ≠ row := fun x hx e => by have := hr x e.symm; omega
  exact ⟨h1.grown hg hr, ⟨p, Boxed.grown h2 hg (ne _ (by omega)), h3⟩, Boxed.grown h4 hg (ne _ (by omega))⟩
theorem St.under (h : St H s n r w) (hb : Below w.heap.size w w') : St H s n r w' := h.grown (row := none) (grown_of_below hb) (fun k hk => by cases hk)
theorem St.setPos (h : St H s n r w) {r' : List UInt8} {p : Nat} (ha : At s r' p) {u : Value} (hu : u = .int .i64 p) : St H s n r' (w.setCell ⟨H + 2, 0, none⟩ u) := by
  subst hu
  obtain ⟨h1, ⟨q, h2, h3⟩, h4⟩ := h
  have far : ∀ x, x ≠ H + 2 → x ≠ (⟨H + 2, 0, none⟩ : Addr).block := fun x hx => hx
  exact ⟨⟨Boxed.far h1.cs (far _ (by omega)) _, Boxed.far h1.ct (far _ (by omega)) _, Boxed.far h1.cr (far _ (by omega)) _, Boxed.far h1.ca (far _ (by omega)) _, Boxed.far h1.cl (far _ (by omega)) _, Boxed.far h1.cf (far _ (by omega)) _⟩, ⟨p, Boxed.set h2 _, ha⟩, Boxed.far h4 (far _ (by omega)) _⟩
theorem St.setNum (h : St H s n r w) {m : Nat} {u : Value} (hu : u = .int .i64 m) : St H s m r (w.setCell ⟨H + 3, 0, none⟩ u) := by
  subst hu
  obtain ⟨h1, ⟨q, h2, h3⟩, h4⟩ := h
  have far : ∀ x, x ≠ H + 3 → x ≠ (⟨H + 3, 0, none⟩ : Addr).block := fun x hx => hx
  exact ⟨⟨Boxed.far h1.cs (far _ (by omega)) _, Boxed.far h1.ct (far _ (by omega)) _, Boxed.far h1.cr (far _ (by omega)) _, Boxed.far h1.ca (far _ (by omega)) _, Boxed.far h1.cl (far _ (by omega)) _, Boxed.far h1.cf (far _ (by omega)) _⟩, ⟨q, Boxed.far h2 (far _ (by omega)) _, h3⟩, Boxed.set h4 _⟩
theorem St.lt (h : St H s n r w) : H + 8 < w.heap.size := h.1.lt
end

/-- what read leaves -/
def ReadC (H : Nat) (s : ByteArray) (n : Nat) (r : List UInt8) (c : UInt8) (w : World) (e : Ending) (w' : World) : Prop :=
  e = .returned (.bool (tk c r).isSome) ∧ St H s n ((tk c r).getD r) w' ∧ Fr (H + 2) (H + 3) w.heap.size w w'
set_option maxHeartbeats 800000 in
set_option maxRecDepth 100000 in
theorem read_any (H : Nat) (s : ByteArray) (n : Nat) (r : List UInt8) (c : UInt8) (q : Int) (hq : q = c.toNat) (w : World) (h : St H s n r w) (hs : s.size ≤ 1048576) :
    Calls Try.prog 55 #[.int .u8 q, .pointer (some ⟨H + 2, 0, none⟩), .pointer (some ⟨H, 0, none⟩)] w (ReadC H s n r c w) := by
  have H0 := Lib.hid h
  obtain ⟨h1, ⟨p, h2, ha⟩, h4⟩ := h
  have hlen := ha.len
  have x0 := h1.cs.cell
  have x1 := h2.cell
  have y1 := Boxed.free h2
  have hps : p ≤ s.size := by omega
  cases r with
  | nil =>
    have HF : Hid (ReadC H s n [] c w (.returned (.bool false)) w) := Lib.hid ⟨rfl, H0.out, Fr.refl _ _ _ _⟩
    have hpe : p = s.size := by simpa using hlen
    subst hpe
    clear h1 h2 h4 ha hlen
    go_enter Try.func55, Try.ntmps55
    go_wp2_with fail
    go_ret
    exact HF.out
  | cons x r =>
    obtain ⟨ha2, hps2, hget⟩ := ha.cons
    have hget2 : s[p]'hps2 = x := hget hps2
    have hne : ((p : Int) == (s.size : Int)) = false := by simp; omega
    have hlt : (p : Int) < (s.size : Int) := by omega
    by_cases hxc : x = c
    · subst hxc
      have hqe : q = (x.toNat : Int) := hq
      subst hqe
      have HF : Hid (∀ u, u = .int .i64 ((p + 1 : Nat) : Int) → ReadC H s n (x :: r) x w (.returned (.bool true)) (w.setCell ⟨H + 2, 0, none⟩ u)) := Lib.hid (fun u hu => by
        unfold ReadC
        rw [tk_same]
        exact ⟨rfl, H0.out.setPos ha2 hu, (Fr.refl _ _ _ _).setP 0 _⟩)
      clear h1 h2 h4 ha ha2 hlen hget hq
      go_enter Try.func55, Try.ntmps55
      go_wp2_with fail
      go_ret
      exact HF.out _ (by go_num)
    · have HF : Hid (ReadC H s n (x :: r) c w (.returned (.bool false)) w) := Lib.hid (by
        unfold ReadC
        rw [tk_other _ hxc]
        exact ⟨rfl, H0.out, Fr.refl _ _ _ _⟩)
      have hqn : ((x.toNat : Int) == q) = false := by
        rw [beq_eq_false_iff_ne, hq]
        intro e
        exact hxc (UInt8.toNat_inj.1 (by omega))
      clear h1 h2 h4 ha ha2 hlen hget hq
      go_enter Try.func55, Try.ntmps55
      go_wp2_with fail
      go_ret
      exact HF.out
end Go.Proofs.Ytffaggiblglcbaa
