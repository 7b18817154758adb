/-
  Merged by program: Digs.
-/
import Derived.Test.YtlcedleebbgebaaDoorF1
import Derived.Test.YtlcedleebbgebaaDoorProg
import Derived.Lib.ItoaNum
import Derived.Laws.IdiomStrings

/-
  Decimal digits, as lists of bytes; what a loop over them keeps; the text of one byte.
-/
namespace Go.Proofs.YtlcedleebbgebaaDoor
open Go.RowKit

/-- the digits of a number, none for 0 -/
def digs (u : Nat) : List UInt8 := if u = 0 then [] else Lib.decDigits u
theorem digs_step (u : Nat) (h : u ≠ 0) : digs u = digs (u / 10) ++ [UInt8.ofNat (48 + u % 10)] := by
  unfold digs
  rw [if_neg h, Lib.decDigits]
  by_cases h10 : u < 10
  · rw [dif_pos h10, if_pos (by omega), Nat.mod_eq_of_lt h10]; rfl
  · rw [dif_neg h10, if_neg (by omega)]
theorem digs_zero : digs 0 = [] := rfl
theorem nDigits_le : ∀ (k u : Nat), u < 10 ^ (k + 1) → Lib.nDigits u ≤ k + 1
  | 0, u, h => by rw [Lib.nDigits_small (by simpa using h)]; omega
  | k + 1, u, h => by
    by_cases h10 : u < 10
    · rw [Lib.nDigits_small h10]; omega
    · rw [Lib.nDigits_big h10]
      have := nDigits_le k (u / 10) (by rw [Nat.pow_succ] at h; omega)
      omega
theorem digs_len (u : Nat) (h : u ≤ 9223372036854775808) : (digs u).length ≤ 19 := by
  unfold digs
  split
  · simp
  · rw [Lib.decDigits_length]
    exact nDigits_le 18 u (by omega)
theorem itoa_neg (n : Int) (h : n < 0) : Lib.itoa n = 45 :: digs n.natAbs := by
  unfold Lib.itoa digs
  rw [if_pos h, if_neg (by omega)]
theorem itoa_pos (n : Int) (h : 0 < n) : Lib.itoa n = digs n.natAbs := by
  unfold Lib.itoa digs
  rw [if_neg (by omega), if_neg (by omega)]
  congr 1
  omega
theorem itoa_zero : Lib.itoa 0 = [48] := by
  unfold Lib.itoa
  rw [if_neg (by omega), Lib.decDigits]
  rfl
theorem push_front (c : UInt8) (l : List UInt8) : (⟨#[c]⟩ : ByteArray) ++ ⟨l.toArray⟩ = ⟨(c :: l).toArray⟩ := by
  apply ByteArray.ext
  simp

theorem tmod_neg (m : Int) (h : m < 0) : -9 ≤ m.tmod 10 ∧ m.tmod 10 ≤ 0 ∧ m.tmod 10 = -((m.natAbs % 10 : Nat) : Int) ∧ m.tdiv 10 = -((m.natAbs / 10 : Nat) : Int) := by
  obtain ⟨u, rfl⟩ : ∃ u : Nat, m = -(u : Int) := ⟨m.natAbs, by omega⟩
  rw [Int.neg_tmod, Int.neg_tdiv, Int.natAbs_neg, Int.natAbs_natCast]
  have e1 : (u : Int).tmod 10 = ((u % 10 : Nat) : Int) := rfl
  have e2 : (u : Int).tdiv 10 = ((u / 10 : Nat) : Int) := rfl
  rw [e1, e2]
  omega
theorem tmod_pos (m : Int) (h : 0 < m) : m % 10 = ((m.natAbs % 10 : Nat) : Int) ∧ m / 10 = ((m.natAbs / 10 : Nat) : Int) := by omega

/-- what the loop keeps: the digits of what is left, and those that stand already -/
def FInv (n : Int) (w : World) (v o : Value) (wr : World) : Prop :=
  ∃ (m : Int) (l : List UInt8), v = .int .i64 m ∧ o = .string ⟨l.toArray⟩ ∧ -9223372036854775808 ≤ m ∧ m ≤ 9223372036854775807 ∧ (n < 0 → m ≤ 0) ∧ (0 < n → 0 ≤ m) ∧ digs n.natAbs = digs m.natAbs ++ l ∧ Below w.heap.size w wr
theorem finv_neg {n m d : Int} {w w' : World} {l : List UInt8} (hn : n < 0) (h0 : -9223372036854775808 ≤ m) (h : m < 0) (hd : digs n.natAbs = digs m.natAbs ++ l) (hb : Below w.heap.size w w') (e : d = 48 + -m.tmod 10) (x : Value) (hx : x = .string (⟨#[UInt8.ofNat d.toNat]⟩ ++ ⟨l.toArray⟩)) :
    FInv n w (.int .i64 (m.tdiv 10)) x w' := by
  obtain ⟨t1, t2, t3, t4⟩ := tmod_neg m h
  refine ⟨m.tdiv 10, UInt8.ofNat d.toNat :: l, rfl, by rw [hx, push_front], by omega, by omega, fun _ => by omega, fun _ => by omega, ?_, hb⟩
  have e1 : (m.tdiv 10).natAbs = m.natAbs / 10 := by omega
  have e2 : d.toNat = 48 + m.natAbs % 10 := by omega
  rw [hd, digs_step m.natAbs (by omega), e1, e2]
  simp
theorem finv_pos {n m d : Int} {w w' : World} {l : List UInt8} (hn : 0 < n) (h1 : m ≤ 9223372036854775807) (h : 0 < m) (hd : digs n.natAbs = digs m.natAbs ++ l) (hb : Below w.heap.size w w') (e : d = 48 + m % 10) (x : Value) (hx : x = .string (⟨#[UInt8.ofNat d.toNat]⟩ ++ ⟨l.toArray⟩)) :
    FInv n w (.int .i64 (m / 10)) x w' := by
  refine ⟨m / 10, UInt8.ofNat d.toNat :: l, rfl, by rw [hx, push_front], by omega, by omega, fun _ => by omega, fun _ => by omega, ?_, hb⟩
  have e1 : (m / 10).natAbs = m.natAbs / 10 := by omega
  have e2 : d.toNat = 48 + m.natAbs % 10 := by omega
  rw [hd, digs_step m.natAbs (by omega), e1, e2]
  simp
/-- the text of one byte, just made -/
theorem run_text_one (w : World) (x : Int) : (convert 32 9 (.slice (some ⟨w.heap.size, 0, none⟩) 1 1)).run Tryd.prog (w.alloc (.cells #[.int .u8 x] 5)) = .ok (.string ⟨#[UInt8.ofNat x.toNat]⟩) (w.alloc (.cells #[.int .u8 x] 5)) := by
  rw [run_convert_bytes_string _ 32 9 5 _ 1 1 Tryd.underlying32 Tryd.underlying5 Tryd.underlying9]
  rw [run_bytesToString (w.alloc (.cells #[.int .u8 x] 5)) _ 1 1 [x] (run_loadCells_list (P := Tryd.prog) (w.alloc (.cells #[.int .u8 x] 5)) ⟨w.heap.size, 0, none⟩ ([x].map (Value.int .u8)) (fun j v hj => by
    match j, hj with
    | 0, hj =>
      simp at hj
      subst hj
      simp [Addr.add, World.cell?_alloc_new]
    | j + 1, hj => simp at hj))]
  rfl

end Go.Proofs.YtlcedleebbgebaaDoor
