/-
  Merged by program: RdW.
-/
import Derived.Test.YtffaggiblglcbaaV18

/-
  The model's l4Word.
-/
namespace Go.Proofs.Ytffaggiblglcbaa
open Go.RowKit

/-- the place of the model's reader -/
def placeOf (w : World) (b : Nat) : Nat := match w.cell? ⟨b, 1, none⟩ with
  | some v => (intOf v).toNat
  | none => 0
theorem placeOf_box {w : World} {b p : Nat} {t : TypeId} {x z : Value} (h : Box3 w b t x (.int .i64 p) z) : placeOf w b = p := by
  unfold placeOf
  rw [h.c1]
  simp [intOf]
theorem isW_digit {x : UInt8} (h1 : (48 : Int) ≤ (x.toNat : Int)) (h2 : (x.toNat : Int) ≤ 57) : isW x = true := by
  unfold isW
  have a : 48 ≤ x.toNat := by omega
  have b : x.toNat ≤ 57 := by omega
  simp [a, b]
theorem isW_letter {x : UInt8} (h1 : (97 : Int) ≤ (x.toNat : Int)) (h2 : (x.toNat : Int) ≤ 122) : isW x = true := by
  unfold isW
  have a : 97 ≤ x.toNat := by omega
  have b : x.toNat ≤ 122 := by omega
  simp [a, b]
theorem isW_no {x : UInt8} (h : (x.toNat : Int) < 48 ∨ (57 < (x.toNat : Int) ∧ (x.toNat : Int) < 97) ∨ 122 < (x.toNat : Int)) : isW x = false := by
  unfold isW
  rw [Bool.eq_false_iff, Ne, Bool.or_eq_true, Bool.and_eq_true, Bool.and_eq_true, decide_eq_true_eq, decide_eq_true_eq, decide_eq_true_eq, decide_eq_true_eq]
  omega
theorem word_yes {x : UInt8} {r : List UInt8} (h : isW x = true) : word (x :: r) = (x :: (word r).1, (word r).2) := by
  conv => lhs; unfold word
  rw [if_pos h]
theorem word_not {x : UInt8} {r : List UInt8} (h : isW x = false) : word (x :: r) = ([], x :: r) := by
  unfold word
  rw [if_neg (by rw [h]; decide)]
/-- what l4Word finds -/
def WordP (b : Nat) (s : ByteArray) (r : List UInt8) (bad : Bool) (w : World) (e : Ending) (w' : World) : Prop :=
  e = .returned (.string (bs (word r).1)) ∧ RdSt w' b s (word r).2 bad ∧ Fr b b w.heap.size w w'
/-- what its loop keeps: the part l is read, q is left -/
def WInv (b : Nat) (s : ByteArray) (r : List UInt8) (bad : Bool) (p0 : Nat) (w wr : World) : Prop :=
  ∃ l q, word r = (l ++ (word q).1, (word q).2) ∧ r = l ++ q ∧ Box3 wr b 54 (.string s) (.int .i64 ((p0 + l.length : Nat) : Int)) (.bool bad) ∧ At s q (p0 + l.length) ∧ Fr b b w.heap.size w wr
theorem winv_more {b : Nat} {s : ByteArray} {r l q : List UInt8} {x : UInt8} {bad : Bool} {p0 n : Nat} {w wr : World} (h1 : word r = (l ++ (word (x :: q)).1, (word (x :: q)).2)) (h2 : r = l ++ x :: q) (hb : Box3 wr b 54 (.string s) (.int .i64 ((p0 + l.length : Nat) : Int)) (.bool bad))
    (ha : At s (x :: q) (p0 + l.length)) (hf : Fr b b w.heap.size w wr) (hx : isW x = true) {u : Value} (hu : u = .int .i64 ((p0 + l.length + 1 : Nat) : Int)) : WInv b s r bad p0 w ((wr.drewN n).setCell ⟨b, 1, none⟩ u) := by
  have e : p0 + (l ++ [x]).length = p0 + l.length + 1 := by simp; omega
  refine ⟨l ++ [x], q, ?_, by rw [h2]; simp, ?_, by rw [e]; exact ha.cons.1, (hf.drewN n).setP 1 _⟩
  · rw [h1, word_yes hx]
    simp
  · rw [e, hu]
    have h' : Box3 (wr.drewN n) b 54 (.string s) (.int .i64 ((p0 + l.length : Nat) : Int)) (.bool bad) := hb
    exact h'.set1 _
theorem winv_end {b : Nat} {s : ByteArray} {r l q : List UInt8} {bad : Bool} {p0 n : Nat} {w wr : World} (h1 : word r = (l ++ (word q).1, (word q).2)) (h2 : r = l ++ q) (hb : Box3 wr b 54 (.string s) (.int .i64 ((p0 + l.length : Nat) : Int)) (.bool bad))
    (ha : At s q (p0 + l.length)) (ha0 : At s r p0) (hf : Fr b b w.heap.size w wr) (hx : word q = ([], q)) : s.extract p0 (p0 + l.length) = bs (word r).1 ∧ WordP b s r bad w (.returned (.string (bs (word r).1))) (wr.drewN n) := by
  rw [hx, List.append_nil] at h1
  rw [h2] at ha0
  refine ⟨by rw [h1]; exact ha0.app.2, rfl, ⟨p0 + l.length, hb, ?_⟩, hf.drewN n⟩
  rw [h1]
  exact ha
theorem word_stop (q : List UInt8) (h : ∀ x r, q = x :: r → isW x = false) : word q = ([], q) := by
  cases q with
  | nil => rfl
  | cons x r => exact word_not (h x r rfl)

set_option maxHeartbeats 3200000 in
set_option maxRecDepth 100000 in
theorem l4Word_any (b : Nat) (s : ByteArray) (r : List UInt8) (bad : Bool) (w : World) (h : RdSt w b s r bad) (hs : s.size ≤ 1048576) :
    Calls Try.prog 82 #[.pointer (some ⟨b, 0, none⟩)] w (WordP b s r bad w) := by
  obtain ⟨p0, hb, ha0⟩ := h
  have x0 := hb.c0
  have x1 := hb.c1
  have x2 := hb.c2
  have HB := Lib.hid hb
  have HA := Lib.hid ha0
  clear hb ha0
  go_enter Try.func82, Try.ntmps82
  go_wp2_with fail
  go_loopw [] (fun wr => WInv b s r bad p0 w wr) (fun wr => s.size - placeOf wr b)
  case atStart => exact ⟨[], r, by simp, rfl, HB.out, HA.out, Fr.refl _ _ _ _⟩
  case round =>
    clear x0 x1 x2
    obtain ⟨l, q, h1, h2, hbx, ha, hf⟩ := hrel
    have hlen := ha.len
    obtain ⟨p, hp⟩ : ∃ p, p0 + l.length = p := ⟨_, rfl⟩
    have hp0 : p0 ≤ p := by omega
    have x0 := hbx.c0
    have x1 := hbx.c1
    have x2 := hbx.c2
    have y1 := hbx.free 1
    have hpl := placeOf_box hbx
    rw [hp] at x1 hlen hpl
    have hw1 : IntKind.i64.wrap ((p : Int) + 1) = (p : Int) + 1 := IntWalk.i64_in _ (by omega)
    have hps : p ≤ s.size := by omega
    cases q with
    | nil =>
      have HE := Lib.hid (fun n => winv_end (n := n) h1 h2 hbx ha HA.out hf (word_stop [] (fun x r e => by cases e)))
      have hge : ¬ ((p : Int) < (s.size : Int)) := by simp at hlen; omega
      have hge2 : ¬ (p < s.size) := by omega
      have hpi : (p0 : Int) ≤ (p : Int) := by omega
      have hpj : (p : Int) ≤ (s.size : Int) := by omega
      rw [hp] at HE
      clear h1 h2 hbx ha hf hlen
      go_upto_region 1 with (fail)
      go_quiet (fail)
      go_upto_region 1 with (fail)
      go_quiet (fail)
      go_wp2_with fail
      go_ret
      rw [(HE.out 0).1]
      rw [World.drewN_drewN]
      exact (HE.out _).2
    | cons x q =>
      obtain ⟨ha2, hps2, hget⟩ := ha.cons
      rw [hp] at hps2 ha2
      have hget2 : s[p]'hps2 = x := by have := hget (by rw [hp]; exact hps2); simpa only [hp] using this
      have hlt : (p : Int) < (s.size : Int) := by omega
      have hpi : (p0 : Int) ≤ (p : Int) := by omega
      have hpj : (p : Int) ≤ (s.size : Int) := by omega
      by_cases hx : isW x = true
      · have HM : Hid (∀ n (u : Value), u = .int .i64 ((p + 1 : Nat) : Int) → WInv b s r bad p0 w ((wr.drewN n).setCell ⟨b, 1, none⟩ u)) := Lib.hid (fun n u hu => winv_more h1 h2 hbx ha hf hx (by rw [hp]; exact hu))
        have HPL : Hid (∀ n, placeOf ((wr.drewN n).setCell ⟨b, 1, none⟩ (.int .i64 ((p : Int) + 1))) b = p + 1) := Lib.hid (fun n => by
          have h' : Box3 (wr.drewN n) b 54 (.string s) (.int .i64 ((p0 + l.length : Nat) : Int)) (.bool bad) := hbx
          exact placeOf_box (p := p + 1) (h'.set1 _))
        have hpl2 := hpl
        clear h1 h2 hbx ha ha2 hf hlen hget
        have HPW := Lib.hid hpl
        clear hpl hpl2
        by_cases d1 : (x.toNat : Int) ≤ 57
        · have d2 : (48 : Int) ≤ (x.toNat : Int) := by
            unfold isW at hx
            simp only [Bool.or_eq_true, Bool.and_eq_true, decide_eq_true_eq] at hx
            omega
          have d3 : x.toNat ≤ 57 := by omega
          have d3i : (x.toNat : Int) ≤ 57 := by omega
          have d4 : 48 ≤ x.toNat := by omega
          have d4i : 48 ≤ (x.toNat : Int) := by omega
          clear hx
          go_upto_region 1 with (fail)
          go_quiet (fail)
          go_wp2_with fail
          go_roundw
          case rel => exact HM.out _ _ (by go_num)
          case measure => rw [HPL.out, HPW.out]; omega
        · have d2 : (97 : Int) ≤ (x.toNat : Int) ∧ (x.toNat : Int) ≤ 122 := by
            unfold isW at hx
            simp only [Bool.or_eq_true, Bool.and_eq_true, decide_eq_true_eq] at hx
            omega
          obtain ⟨d5, d6⟩ := d2
          have d3 : ¬ x.toNat ≤ 57 := by omega
          have d3i : ¬ (x.toNat : Int) ≤ 57 := by omega
          have d4 : 48 ≤ x.toNat := by omega
          have d4i : 48 ≤ (x.toNat : Int) := by omega
          have d7 : 97 ≤ x.toNat := by omega
          have d7i : 97 ≤ (x.toNat : Int) := by omega
          have d8 : x.toNat ≤ 122 := by omega
          have d8i : (x.toNat : Int) ≤ 122 := by omega
          clear hx
          go_upto_region 1 with (fail)
          go_quiet (fail)
          go_wp2_with fail
          go_roundw
          case rel => exact HM.out _ _ (by go_num)
          case measure => rw [HPL.out, HPW.out]; omega
      · have hx' : isW x = false := by simpa using hx
        have HE := Lib.hid (fun n => winv_end (n := n) h1 h2 hbx ha HA.out hf (word_not hx'))
        rw [hp] at HE
        have hn : (x.toNat : Int) < 48 ∨ (57 < (x.toNat : Int) ∧ (x.toNat : Int) < 97) ∨ 122 < (x.toNat : Int) := by
          unfold isW at hx
          rw [Bool.or_eq_true, Bool.and_eq_true, Bool.and_eq_true, decide_eq_true_eq, decide_eq_true_eq, decide_eq_true_eq, decide_eq_true_eq] at hx
          omega
        have HPW := Lib.hid hpl
        clear h1 h2 hbx ha ha2 hf hlen hget hx hx' hpl
        rcases hn with d0 | ⟨d0, d1⟩ | d0
        · have f1 : decide ((48 : Int) ≤ (x.toNat : Int)) = false := decide_eq_false (by omega)
          have f2 : decide ((97 : Int) ≤ (x.toNat : Int)) = false := decide_eq_false (by omega)
          clear d0
          go_upto_region 1 with (fail)
          go_quiet (fail)
          go_upto_region 1 with (fail)
          go_quiet (fail)
          go_wp2_with fail
          go_ret
          rw [(HE.out 0).1]
          rw [World.drewN_drewN]
          exact (HE.out _).2
        · have f1 : decide ((48 : Int) ≤ (x.toNat : Int)) = true := decide_eq_true (by omega)
          have f2 : decide ((x.toNat : Int) ≤ 57) = false := decide_eq_false (by omega)
          have f3 : decide ((97 : Int) ≤ (x.toNat : Int)) = false := decide_eq_false (by omega)
          clear d0 d1
          go_upto_region 1 with (fail)
          go_quiet (fail)
          go_upto_region 1 with (fail)
          go_quiet (fail)
          go_wp2_with fail
          go_ret
          rw [(HE.out 0).1]
          rw [World.drewN_drewN]
          exact (HE.out _).2
        · have f1 : decide ((48 : Int) ≤ (x.toNat : Int)) = true := decide_eq_true (by omega)
          have f2 : decide ((x.toNat : Int) ≤ 57) = false := decide_eq_false (by omega)
          have f3 : decide ((97 : Int) ≤ (x.toNat : Int)) = true := decide_eq_true (by omega)
          have f4 : decide ((x.toNat : Int) ≤ 122) = false := decide_eq_false (by omega)
          clear d0
          go_upto_region 1 with (fail)
          go_quiet (fail)
          go_upto_region 1 with (fail)
          go_quiet (fail)
          go_wp2_with fail
          go_ret
          rw [(HE.out 0).1]
          rw [World.drewN_drewN]
          exact (HE.out _).2
end Go.Proofs.Ytffaggiblglcbaa
