/-
  Plain facts on decimal numerals: their value, that they are digits, how long they are, and that Go's Atoi reads them back.
-/
import Derived.Test.YtbahiaeppagncaaDoorFormat
import Derived.Lib.AtoiAll
import Derived.Lib.AtoiAllCases
namespace Go.Proofs.YtbahiaeppagncaaDoor

def dval (acc : Nat) (c : UInt8) : Nat := 10 * acc + (c.toNat - 48)
/-- the number that a row of digits spells -/
def lval (l : List UInt8) : Nat := l.foldl dval 0
def isDig (c : UInt8) : Prop := 48 ≤ c.toNat ∧ c.toNat ≤ 57
instance (c : UInt8) : Decidable (isDig c) := by unfold isDig; infer_instance

theorem lval_snoc (l : List UInt8) (c : UInt8) : lval (l ++ [c]) = 10 * lval l + (c.toNat - 48) := by simp [lval, dval]
theorem dig_toNat (d : Nat) (h : d < 10) : (UInt8.ofNat (48 + d)).toNat = 48 + d := by
  rw [UInt8.toNat_ofNat']
  omega
theorem decDigits_ne (u : Nat) : Lib.decDigits u ≠ [] := by
  rw [Lib.decDigits]
  split <;> simp
theorem lval_dec (u : Nat) : lval (Lib.decDigits u) = u := by
  induction u using Nat.strongRecOn with
  | _ u ih =>
    rw [Lib.decDigits]
    by_cases h : u < 10
    · rw [dif_pos h]
      show 10 * 0 + ((UInt8.ofNat (48 + u)).toNat - 48) = u
      rw [dig_toNat u h]
      omega
    · rw [dif_neg h, lval_snoc, ih (u / 10) (by omega), dig_toNat _ (by omega)]
      omega
theorem dec_digs (u : Nat) : ∀ c ∈ Lib.decDigits u, isDig c := by
  induction u using Nat.strongRecOn with
  | _ u ih =>
    rw [Lib.decDigits]
    by_cases h : u < 10
    · rw [dif_pos h]
      intro c hc
      simp only [List.mem_singleton] at hc
      subst hc
      unfold isDig
      rw [dig_toNat u h]
      omega
    · rw [dif_neg h]
      intro c hc
      rcases List.mem_append.1 hc with hc | hc
      · exact ih (u / 10) (by omega) c hc
      · simp only [List.mem_singleton] at hc
        subst hc
        unfold isDig
        rw [dig_toNat _ (by omega)]
        omega
theorem dec_len (k u : Nat) (h : u < 10 ^ (k + 1)) : 1 ≤ (Lib.decDigits u).length ∧ (Lib.decDigits u).length ≤ k + 1 := by
  rw [Lib.decDigits_length]
  exact ⟨Lib.nDigits_pos u, nDigits_le k u h⟩
theorem fold_lt : ∀ (l : List UInt8) (a : Nat), (∀ c ∈ l, isDig c) → l.foldl dval a < (a + 1) * 10 ^ l.length
  | [], a, _ => by simp
  | c :: r, a, h => by
    have h2 := h c (by simp)
    unfold isDig at h2
    have h1 := fold_lt r (dval a c) (fun x hx => h x (by simp [hx]))
    have h3 : (dval a c + 1) * 10 ^ r.length ≤ ((a + 1) * 10) * 10 ^ r.length := Nat.mul_le_mul_right _ (by unfold dval; omega)
    rw [List.foldl_cons, List.length_cons, Nat.pow_succ]
    have h4 : (a + 1) * (10 ^ r.length * 10) = ((a + 1) * 10) * 10 ^ r.length := by rw [Nat.mul_comm (10 ^ r.length) 10, Nat.mul_assoc]
    omega
theorem lval_lt (l : List UInt8) (h : ∀ c ∈ l, isDig c) : lval l < 10 ^ l.length := by
  have := fold_lt l 0 h
  unfold lval
  omega

/-- the least and the greatest: how the model reads a numeral: a sign, and what stands behind it -/
theorem itoa_signed (n : Int) : Lib.itoa n = if n < 0 then 45 :: Lib.decDigits n.natAbs else Lib.decDigits n.natAbs := by
  unfold Lib.itoa
  by_cases h : n < 0
  · rw [if_pos h, if_pos h]
  · rw [if_neg h, if_neg h]
    congr 1
    omega

theorem pu_snoc : ∀ (l : List UInt8) (acc a : Nat) (c : UInt8), Lib.parseUint10 acc l = .ok a → Lib.parseUint10 acc (l ++ [c]) = Lib.parseUint10 a [c]
  | [], acc, a, c, h => by
    simp only [Lib.parseUint10, Lib.NumEnd.ok.injEq] at h
    subst h
    rfl
  | d :: r, acc, a, c, h => by
    simp only [Lib.parseUint10, List.cons_append] at h ⊢
    split at h
    · rename_i h1
      rw [if_pos h1]
      split at h
      · cases h
      · rename_i h2
        rw [if_neg h2]
        split at h
        · cases h
        · rename_i h3
          rw [if_neg h3]
          have := pu_snoc r _ a c h
          simpa [Lib.parseUint10] using this
    · cases h
theorem pu_one (a : Nat) (c : UInt8) (hc : isDig c) (h : a < 100000000000000000) : Lib.parseUint10 a [c] = .ok (10 * a + (c.toNat - 48)) := by
  unfold isDig at hc
  simp only [Lib.parseUint10]
  rw [if_pos hc, if_neg (by omega), if_neg (by omega)]
  congr 1
  omega
theorem pu_dec (u : Nat) (h : u < 1000000000000000000) : Lib.parseUint10 0 (Lib.decDigits u) = .ok u := by
  induction u using Nat.strongRecOn with
  | _ u ih =>
    rw [Lib.decDigits]
    by_cases h10 : u < 10
    · rw [dif_pos h10, pu_one 0 _ (by unfold isDig; rw [dig_toNat u h10]; omega) (by omega), dig_toNat u h10]
      congr 1
      omega
    · rw [dif_neg h10, pu_snoc _ _ _ _ (ih (u / 10) (by omega) (by omega)), pu_one _ _ (by unfold isDig; rw [dig_toNat _ (by omega)]; omega) (by omega), dig_toNat _ (by omega)]
      congr 1
      omega
theorem pm_dec (u : Nat) (h : u < 1000000000000000000) : Lib.parseMag (Lib.decDigits u) = .ok u := by
  unfold Lib.parseMag
  rw [if_neg (decDigits_ne u), pu_dec u h]

/-- Atoi reads back what FormatInt writes -/
theorem atoi_itoa (n : Int) (h0 : -1000000000000000000 < n) (h1 : n < 1000000000000000000) : Lib.atoiAll (Lib.itoa n) = .ok n := by
  rw [itoa_signed]
  have hm := pm_dec n.natAbs (by omega)
  by_cases hneg : n < 0
  · rw [if_pos hneg, Lib.atoiAll_minus, hm]
    unfold Lib.signed
    simp only
    rw [if_neg (by omega)]
    congr 1
    omega
  · rw [if_neg hneg]
    cases hd : Lib.decDigits n.natAbs with
    | nil => exact absurd hd (decDigits_ne _)
    | cons c r =>
      have hc : isDig c := dec_digs n.natAbs c (by rw [hd]; simp)
      unfold isDig at hc
      rw [hd] at hm
      rw [Lib.atoiAll_plain c r (by omega) (by omega), hm]
      unfold Lib.signless
      simp only
      rw [if_neg (by omega)]
      congr 1
      omega
end Go.Proofs.YtbahiaeppagncaaDoor
