/-
  Merged by program: ParseA, PrsE.
-/
import Derived.Test.YtkchjinfjggoeaaGreatDoorF16
import Derived.Lib.AtoiAll
import Derived.Lib.AtoiAllCases
import Derived.Test.YtkchjinfjggoeaaGreatDoorF11
import Derived.Test.YtkchjinfjggoeaaGreatDoorF19

/-
  Plain facts on decimal numerals: their value, that they are digits, how long they are, and that Go's Atoi reads them back.
-/
namespace Go.Proofs.YtkchjinfjggoeaaGreatDoor

def dval (acc : Nat) (c : UInt8) : Nat := 10 * acc + (c.toNat - 48)
/-- the number that a row of digits spells -/
def lval (l : List UInt8) : Nat := l.foldl dval 0
def isDig (c : UInt8) : Prop := 48 ≤ c.toNat ∧ c.toNat ≤ 57
instance (c : UInt8) : Decidable (isDig c) := by unfold isDig; infer_instance

theorem lval_snoc (l : List UInt8) (c : UInt8) : lval (l ++ [c]) = 10 * lval l + (c.toNat - 48) := by simp [lval, dval]
theorem dig_toNat (d : Nat) (h : d < 10) : (UInt8.ofNat (48 + d)).toNat = 48 + d := by
  rw [UInt8.toNat_ofNat']
  omega
theorem decDigits_ne (u : Nat) : Lib.decDigits u ≠ [] := by
  rw [Lib.decDigits]
  split <;> simp
theorem lval_dec (u : Nat) : lval (Lib.decDigits u) = u := by
  induction u using Nat.strongRecOn with
  | _ u ih =>
    rw [Lib.decDigits]
    by_cases h : u < 10
    · rw [dif_pos h]
      show 10 * 0 + ((UInt8.ofNat (48 + u)).toNat - 48) = u
      rw [dig_toNat u h]
      omega
    · rw [dif_neg h, lval_snoc, ih (u / 10) (by omega), dig_toNat _ (by omega)]
      omega
theorem dec_digs (u : Nat) : ∀ c ∈ Lib.decDigits u, isDig c := by
  induction u using Nat.strongRecOn with
  | _ u ih =>
    rw [Lib.decDigits]
    by_cases h : u < 10
    · rw [dif_pos h]
      intro c hc
      simp only [List.mem_singleton] at hc
      subst hc
      unfold isDig
      rw [dig_toNat u h]
      omega
    · rw [dif_neg h]
      intro c hc
      rcases List.mem_append.1 hc with hc | hc
      · exact ih (u / 10) (by omega) c hc
      · simp only [List.mem_singleton] at hc
        subst hc
        unfold isDig
        rw [dig_toNat _ (by omega)]
        omega
theorem dec_len (k u : Nat) (h : u < 10 ^ (k + 1)) : 1 ≤ (Lib.decDigits u).length ∧ (Lib.decDigits u).length ≤ k + 1 := by
  rw [Lib.decDigits_length]
  exact ⟨Lib.nDigits_pos u, nDigits_le k u h⟩
theorem fold_lt : ∀ (l : List UInt8) (a : Nat), (∀ c ∈ l, isDig c) → l.foldl dval a < (a + 1) * 10 ^ l.length
  | [], a, _ => by simp
  | c :: r, a, h => by
    have h2 := h c (by simp)
    unfold isDig at h2
    have h1 := fold_lt r (dval a c) (fun x hx => h x (by simp [hx]))
    have h3 : (dval a c + 1) * 10 ^ r.length ≤ ((a + 1) * 10) * 10 ^ r.length := Nat.mul_le_mul_right _ (by unfold dval; omega)
    rw [List.foldl_cons, List.length_cons, Nat.pow_succ]
    have h4 : (a + 1) * (10 ^ r.length * 10) = ((a + 1) * 10) * 10 ^ r.length := by rw [Nat.mul_comm (10 ^ r.length) 10, Nat.mul_assoc]
    omega
theorem lval_lt (l : List UInt8) (h : ∀ c ∈ l, isDig c) : lval l < 10 ^ l.length := by
  have := fold_lt l 0 h
  unfold lval
  omega

/-- the least and the greatest: how the model reads a numeral: a sign, and what stands behind it -/
theorem itoa_signed (n : Int) : Lib.itoa n = if n < 0 then 45 :: Lib.decDigits n.natAbs else Lib.decDigits n.natAbs := by
  unfold Lib.itoa
  by_cases h : n < 0
  · rw [if_pos h, if_pos h]
  · rw [if_neg h, if_neg h]
    congr 1
    omega

theorem pu_snoc : ∀ (l : List UInt8) (acc a : Nat) (c : UInt8), Lib.parseUint10 acc l = .ok a → Lib.parseUint10 acc (l ++ [c]) = Lib.parseUint10 a [c]
  | [], acc, a, c, h => by
    simp only [Lib.parseUint10, Lib.NumEnd.ok.injEq] at h
    subst h
    rfl
  | d :: r, acc, a, c, h => by
    simp only [Lib.parseUint10, List.cons_append] at h ⊢
    split at h
    · rename_i h1
      rw [if_pos h1]
      split at h
      · cases h
      · rename_i h2
        rw [if_neg h2]
        split at h
        · cases h
        · rename_i h3
          rw [if_neg h3]
          have := pu_snoc r _ a c h
          simpa [Lib.parseUint10] using this
    · cases h
theorem pu_one (a : Nat) (c : UInt8) (hc : isDig c) (h : a < 100000000000000000) : Lib.parseUint10 a [c] = .ok (10 * a + (c.toNat - 48)) := by
  unfold isDig at hc
  simp only [Lib.parseUint10]
  rw [if_pos hc, if_neg (by omega), if_neg (by omega)]
  congr 1
  omega
theorem pu_dec (u : Nat) (h : u < 1000000000000000000) : Lib.parseUint10 0 (Lib.decDigits u) = .ok u := by
  induction u using Nat.strongRecOn with
  | _ u ih =>
    rw [Lib.decDigits]
    by_cases h10 : u < 10
    · rw [dif_pos h10, pu_one 0 _ (by unfold isDig; rw [dig_toNat u h10]; omega) (by omega), dig_toNat u h10]
      congr 1
      omega
    · rw [dif_neg h10, pu_snoc _ _ _ _ (ih (u / 10) (by omega) (by omega)), pu_one _ _ (by unfold isDig; rw [dig_toNat _ (by omega)]; omega) (by omega), dig_toNat _ (by omega)]
      congr 1
      omega
theorem pm_dec (u : Nat) (h : u < 1000000000000000000) : Lib.parseMag (Lib.decDigits u) = .ok u := by
  unfold Lib.parseMag
  rw [if_neg (decDigits_ne u), pu_dec u h]

/-- Atoi reads back what FormatInt writes -/
theorem atoi_itoa (n : Int) (h0 : -1000000000000000000 < n) (h1 : n < 1000000000000000000) : Lib.atoiAll (Lib.itoa n) = .ok n := by
  rw [itoa_signed]
  have hm := pm_dec n.natAbs (by omega)
  by_cases hneg : n < 0
  · rw [if_pos hneg, Lib.atoiAll_minus, hm]
    unfold Lib.signed
    simp only
    rw [if_neg (by omega)]
    congr 1
    omega
  · rw [if_neg hneg]
    cases hd : Lib.decDigits n.natAbs with
    | nil => exact absurd hd (decDigits_ne _)
    | cons c r =>
      have hc : isDig c := dec_digs n.natAbs c (by rw [hd]; simp)
      unfold isDig at hc
      rw [hd] at hm
      rw [Lib.atoiAll_plain c r (by omega) (by omega), hm]
      unfold Lib.signless
      simp only
      rw [if_neg (by omega)]
      congr 1
      omega
end Go.Proofs.YtkchjinfjggoeaaGreatDoor

/-
  Reading a term from its text, as the model does (sqE); what it finds in a valid term's text. Hangs on no function of the program.
-/
namespace Go.Proofs.YtkchjinfjggoeaaGreatDoor
open Go.RowKit

/-- several bytes taken -/
def tks : List UInt8 → List UInt8 → Option (List UInt8)
  | [], r => some r
  | c :: m, r => (tk c r).bind (tks m)
theorem tks_same (m r : List UInt8) : tks m (m ++ r) = some r := by
  induction m with
  | nil => rfl
  | cons c m ih => rw [List.cons_append, tks, tk_same]; exact ih
theorem tks_some {m r r' : List UInt8} (h : tks m r = some r') : r = m ++ r' := by
  induction m generalizing r with
  | nil => injection h
  | cons c m ih =>
    obtain ⟨r1, h1, h2⟩ := Option.bind_eq_some_iff.1 h
    rw [tk_some h1, ih h2]
    rfl
theorem tks_one (c : UInt8) (r : List UInt8) : tks [c] r = tk c r := by
  unfold tks
  cases tk c r <;> rfl
theorem tks_other {c x : UInt8} (m r : List UInt8) (h : x ≠ c) : tks (c :: m) (x :: r) = none := by rw [tks, tk_other r h]; rfl

/-- the number that a word spells -/
noncomputable def numP (l : List UInt8) : Option Int := open Classical in if h : ∃ n : Int, 0 ≤ n ∧ n ≤ 999999 ∧ Lib.itoa n = l then some h.choose else none
theorem itoa_inj {n m : Int} (h1 : 0 ≤ n) (h2 : n ≤ 999999) (h3 : 0 ≤ m) (h4 : m ≤ 999999) (h : Lib.itoa n = Lib.itoa m) : n = m := by
  have e1 := atoi_itoa n (by omega) (by omega)
  have e2 := atoi_itoa m (by omega) (by omega)
  rw [h, e2] at e1
  injection e1 with e1
  exact e1.symm
theorem numP_of {l : List UInt8} {n : Int} (h1 : 0 ≤ n) (h2 : n ≤ 999999) (h : Lib.itoa n = l) : numP l = some n := by
  unfold numP
  have hx : ∃ n : Int, 0 ≤ n ∧ n ≤ 999999 ∧ Lib.itoa n = l := ⟨n, h1, h2, h⟩
  rw [dif_pos hx]
  obtain ⟨k1, k2, k3⟩ := hx.choose_spec
  rw [itoa_inj k1 k2 h1 h2 (k3.trans h.symm)]
theorem numP_none {l : List UInt8} (h : ∀ n : Int, 0 ≤ n → n ≤ 999999 → Lib.itoa n ≠ l) : numP l = none := by
  unfold numP
  rw [dif_neg]
  rintro ⟨n, h1, h2, h3⟩
  exact h n h1 h2 h3

def ty0 : Ty := .node ⟨0, []⟩ []
/-- a node without a type, without labels -/
def teN (p : Int) (nm : List UInt8) (q : Int) (ks : List Te) : Te := .node ⟨p, bs nm, q, ty0, []⟩ ks
def teT (p : Int) (nm : List UInt8) (t : Ty) (ks : List Te) : Te := .node ⟨p, bs nm, 0, t, []⟩ ks
def teR (ls : List ByteArray) (ks : List Te) : Te := .node ⟨5, bs [], 0, ty0, ls⟩ ks

abbrev RdE := List UInt8 → Option (Te × List UInt8)
/-- some terms between spaces, and the closing parenthesis -/
def sqA (Q : RdE) : Bool → Nat → List UInt8 → Option (List Te × List UInt8)
  | _, 0, r => (tk 41 r).map fun r' => ([], r')
  | f, k + 1, r => (if f = true then some r else tk 32 r).bind fun r1 => (Q r1).bind fun x => (sqA Q false k x.2).map fun y => (x.1 :: y.1, y.2)
/-- what follows the first term in parentheses -/
def sqR (Q : RdE) (t : Te) (r : List UInt8) : Option (Te × List UInt8) :=
  match tks [43, 43] r with
  | some r1 => (sqA Q true 1 r1).map fun y => (teN 9 [] 0 (t :: y.1), y.2)
  | none => match tk 32 r with
  | some r1 => (sqA Q true 1 r1).map fun y => (teN 14 [] 0 (t :: y.1), y.2)
  | none => match r with
  | c :: r1 => if arB ⟨#[c]⟩ = 2 then (sqA Q true 1 r1).map fun y => (teN 4 [c] 0 (t :: y.1), y.2) else none
  | [] => none
def sqO (Q : RdE) (r : List UInt8) : Option (Te × List UInt8) :=
  match tk 92 r with
  | some r1 => (tk 58 (word r1).2).bind fun r2 => (sq 7 r2).bind fun x => (tk 46 x.2).bind fun r3 => (sqA Q true 1 r3).map fun y => (teT 13 (word r1).1 x.1 y.1, y.2)
  | none => match tks [102, 111, 114, 32] r with
  | some r1 => (tks [60, 45] (word r1).2).bind fun r2 => (sqA Q true 2 r2).map fun y => (teN 10 (word r1).1 0 y.1, y.2)
  | none => match tks [105, 102, 32] r with
  | some r1 => (sqA Q true 3 r1).map fun y => (teN 11 [] 0 y.1, y.2)
  | none => match tks [101, 109, 112, 116, 121, 32] r with
  | some r1 => (sqA Q true 1 r1).map fun y => (teN 15 [] 0 y.1, y.2)
  | none => match tks [99, 111, 117, 110, 116, 32] r with
  | some r1 => (sqA Q true 1 r1).map fun y => (teN 16 [] 0 y.1, y.2)
  | none => match tk 33 r with
  | some r1 => (sqA Q true 1 r1).map fun y => (teN 4 [33] 0 y.1, y.2)
  | none => (Q r).bind fun x => sqR Q x.1 x.2
/-- the fields of a record -/
def sqG (Q : RdE) : Nat → List UInt8 → Option (List ByteArray × List Te × List UInt8)
  | 0, _ => none
  | k + 1, r => (tk 61 (word r).2).bind fun r1 => (Q r1).bind fun x => match tk 44 x.2 with
      | some r3 => (sqG Q k r3).map fun y => (bs (word r).1 :: y.1, x.1 :: y.2.1, y.2.2)
      | none => (tk 125 x.2).map fun r3 => ([bs (word r).1], [x.1], r3)
def sqB (Q : RdE) (r : List UInt8) : Option (Te × List UInt8) :=
  match tk 58 r with
  | some r1 => (sq 7 r1).bind fun x => (tk 93 x.2).map fun r3 => (teT 7 [] x.1 [], r3)
  | none => (Q r).bind fun x => (tk 93 x.2).map fun r3 => (teN 8 [] 0 [x.1], r3)
noncomputable def sqFirst (Q : RdE) (r : List UInt8) : Option (Te × List UInt8) :=
  if r = [] then none else
  match tks [35, 116] r with
  | some r1 => some (teN 3 [] 1 [], r1)
  | none => match tks [35, 102] r with
  | some r1 => some (teN 3 [] 0 [], r1)
  | none => match tk 64 r with
  | some r1 => some (teN 12 (word r1).1 0 [], (word r1).2)
  | none => match tk 123 r with
  | some r1 => (sqG Q (r1.length + 1) r1).map fun y => (teR y.1 y.2.1, y.2.2)
  | none => match tk 91 r with
  | some r1 => sqB Q r1
  | none => match tk 40 r with
  | some r1 => sqO Q r1
  | none => if 48 ≤ (r.headD 0).toNat ∧ (r.headD 0).toNat ≤ 57 then (numP (word r).1).map fun n => (teN 2 [] n [], (word r).2) else some (teN 1 (word r).1 0 [], (word r).2)
/-- the fields taken of a term -/
def sqDots : Nat → Te → List UInt8 → Te × List UInt8
  | 0, t, r => (t, r)
  | k + 1, t, r => match tk 46 r with
    | some r1 => sqDots k (teN 6 (word r1).1 0 [t]) (word r1).2
    | none => (t, r)
noncomputable def sqE : Nat → RdE
  | 0, _ => none
  | D + 1, r => (sqFirst (sqE D) r).map fun x => sqDots x.2.length x.1 x.2

/-! the size of what is read -/
theorem wt_ty0 : wt ty0 = 0 := wt_leaf 0
theorem wte_N (p : Int) (nm : List UInt8) (q : Int) (ks : List Te) : wte (teN p nm q ks) = nm.length + (ks.length + (ks.map wte).sum) := by
  unfold teN
  rw [wte_node]
  unfold wteA wteK
  simp only [wt_ty0, bs_size, total, List.length_nil, List.map_nil, List.sum_nil]
  omega
theorem wte_T (p : Int) (nm : List UInt8) (t : Ty) (ks : List Te) : wte (teT p nm t ks) = nm.length + wt t + (ks.length + (ks.map wte).sum) := by
  unfold teT
  rw [wte_node]
  unfold wteA wteK
  simp only [bs_size, total, List.length_nil, List.map_nil, List.sum_nil]
  omega
theorem wte_R (ls : List ByteArray) (ks : List Te) : wte (teR ls ks) = ls.length + total ls + (ks.length + (ks.map wte).sum) := by
  unfold teR
  rw [wte_node]
  unfold wteA wteK
  simp only [wt_ty0, bs_size, List.length_nil]
  omega
def RdOk (Q : RdE) : Prop := ∀ r t r', Q r = some (t, r') → wte t + r'.length ≤ r.length
theorem tk_len {c : UInt8} {r r' : List UInt8} (h : tk c r = some r') : r.length = r'.length + 1 := by rw [tk_some h]; rfl
theorem tks_len {m r r' : List UInt8} (h : tks m r = some r') : r.length = m.length + r'.length := by rw [tks_some h, List.length_append]
theorem sqA_wt {Q : RdE} (hQ : RdOk Q) : ∀ (f : Bool) (k : Nat) (r : List UInt8) (ts : List Te) (r' : List UInt8), sqA Q f k r = some (ts, r') → ts.length = k ∧ (if f = true then 0 else k) + (k - 1) + 1 + (ts.map wte).sum + r'.length ≤ r.length + (if f = true then 0 else k - 1)
  | f, 0, r, ts, r', h => by
    unfold sqA at h
    obtain ⟨r1, h1, h2⟩ := Option.map_eq_some_iff.1 h
    injection h2 with h2 h3
    subst h2 h3
    have := tk_len h1
    simp
    omega
  | f, k + 1, r, ts, r', h => by
    unfold sqA at h
    obtain ⟨r1, h1, h⟩ := Option.bind_eq_some_iff.1 h
    obtain ⟨⟨t, r2⟩, h2, h⟩ := Option.bind_eq_some_iff.1 h
    obtain ⟨⟨us, r3⟩, h3, h4⟩ := Option.map_eq_some_iff.1 h
    injection h4 with h4 h5
    subst h4 h5
    obtain ⟨e1, e2⟩ := sqA_wt hQ false k r2 us r3 h3
    have e3 := hQ _ _ _ h2
    simp only [Bool.false_eq_true, if_false] at e2
    refine ⟨by simp [e1], ?_⟩
    simp only [List.map_cons, List.sum_cons]
    cases f with
    | true =>
      simp only [if_true] at h1 ⊢
      injection h1 with h1
      subst h1
      omega
    | false =>
      simp only [Bool.false_eq_true, if_false] at h1 ⊢
      have e4 := tk_len h1
      omega
theorem sqG_wt {Q : RdE} (hQ : RdOk Q) : ∀ (k : Nat) (r : List UInt8) (ls : List ByteArray) (ts : List Te) (r' : List UInt8), sqG Q k r = some (ls, ts, r') → ls.length + total ls + (ts.length + (ts.map wte).sum) + r'.length ≤ r.length
  | 0, _, _, _, _, h => by cases h
  | k + 1, r, ls, ts, r', h => by
    unfold sqG at h
    obtain ⟨r1, h1, h⟩ := Option.bind_eq_some_iff.1 h
    obtain ⟨⟨t, r2⟩, h2, h⟩ := Option.bind_eq_some_iff.1 h
    have e1 := tk_len h1
    have e2 := hQ _ _ _ h2
    have e3 := word_len r
    dsimp only at h
    cases h3 : tk 44 r2 with
    | some r3 =>
      rw [h3] at h
      obtain ⟨⟨ks, us, r4⟩, h4, h5⟩ := Option.map_eq_some_iff.1 h
      injection h5 with h5 h6
      injection h6 with h6 h7
      subst h5 h6 h7
      have e4 := sqG_wt hQ k _ _ _ _ h4
      have e5 := tk_len h3
      simp only [List.length_cons, List.map_cons, List.sum_cons, total_cons, bs_size]
      omega
    | none =>
      rw [h3] at h
      obtain ⟨r4, h4, h5⟩ := Option.map_eq_some_iff.1 h
      injection h5 with h5 h6
      injection h6 with h6 h7
      subst h5 h6 h7
      have e5 := tk_len h4
      simp only [List.length_cons, List.map_cons, List.sum_cons, bs_size, List.length_nil, List.map_nil, List.sum_nil, total]
      omega
theorem sqA_one {Q : RdE} (hQ : RdOk Q) {k : Nat} {p : Int} {nm : List UInt8} {q : Int} {r : List UInt8} {t : Te} {r' : List UInt8} (h : (sqA Q true k r).map (fun y => (teN p nm q y.1, y.2)) = some (t, r')) : wte t + r'.length ≤ r.length + nm.length + 1 := by
  obtain ⟨⟨us, r1⟩, h1, h2⟩ := Option.map_eq_some_iff.1 h
  injection h2 with h2 h3
  subst h2 h3
  obtain ⟨e1, e2⟩ := sqA_wt hQ _ _ _ _ _ h1
  simp only [if_true] at e2
  dsimp only
  rw [wte_N, e1]
  omega
theorem sqA_two {Q : RdE} (hQ : RdOk Q) {p : Int} {nm : List UInt8} {q : Int} {r : List UInt8} {t u : Te} {r' : List UInt8} (h : (sqA Q true 1 r).map (fun y => (teN p nm q (u :: y.1), y.2)) = some (t, r')) : wte t + r'.length ≤ r.length + nm.length + 1 + wte u := by
  obtain ⟨⟨us, r1⟩, h1, h2⟩ := Option.map_eq_some_iff.1 h
  injection h2 with h2 h3
  subst h2 h3
  obtain ⟨e1, e2⟩ := sqA_wt hQ _ _ _ _ _ h1
  simp only [if_true] at e2
  dsimp only
  rw [wte_N, List.length_cons, List.map_cons, List.sum_cons, e1]
  omega
theorem sqR_wt {Q : RdE} (hQ : RdOk Q) {u : Te} {r : List UInt8} {t : Te} {r' : List UInt8} (h : sqR Q u r = some (t, r')) : wte t + r'.length ≤ r.length + 1 + wte u := by
  unfold sqR at h
  split at h
  · rename_i r1 h1
    have e1 := tks_len h1
    have e2 := sqA_two hQ h
    simp only [List.length_cons, List.length_nil] at e1 e2
    omega
  split at h
  · rename_i r1 h1
    have e1 := tk_len h1
    have e2 := sqA_two hQ h
    simp only [List.length_nil] at e2
    omega
  split at h
  · split at h
    · have e2 := sqA_two hQ h
      simp only [List.length_cons, List.length_nil] at e2 ⊢
      omega
    · cases h
  · cases h
theorem sqO_wt {Q : RdE} (hQ : RdOk Q) {r : List UInt8} {t : Te} {r' : List UInt8} (h : sqO Q r = some (t, r')) : wte t + r'.length ≤ r.length + 1 := by
  unfold sqO at h
  split at h
  · rename_i r1 h1
    obtain ⟨r2, h2, h⟩ := Option.bind_eq_some_iff.1 h
    obtain ⟨⟨y, r3⟩, h3, h⟩ := Option.bind_eq_some_iff.1 h
    obtain ⟨r4, h4, h⟩ := Option.bind_eq_some_iff.1 h
    obtain ⟨⟨us, r5⟩, h5, h6⟩ := Option.map_eq_some_iff.1 h
    injection h6 with h6 h7
    subst h6 h7
    have e1 := tk_len h1
    have e2 := tk_len h2
    have e3 := sq_wt _ _ _ _ h3
    have e4 := tk_len h4
    obtain ⟨e5, e6⟩ := sqA_wt hQ _ _ _ _ _ h5
    have e7 := word_len r1
    simp only [if_true] at e6
    dsimp only at e4 ⊢
    rw [wte_T, e5]
    omega
  split at h
  · rename_i r1 h1
    obtain ⟨r2, h2, h⟩ := Option.bind_eq_some_iff.1 h
    have e1 := tks_len h1
    have e2 := tks_len h2
    have e3 := sqA_one hQ h
    have e7 := word_len r1
    simp only [List.length_cons, List.length_nil] at e1 e2
    omega
  split at h
  · rename_i r1 h1
    have e1 := tks_len h1
    have e3 := sqA_one hQ h
    simp only [List.length_cons, List.length_nil] at e1 e3
    omega
  split at h
  · rename_i r1 h1
    have e1 := tks_len h1
    have e3 := sqA_one hQ h
    simp only [List.length_cons, List.length_nil] at e1 e3
    omega
  split at h
  · rename_i r1 h1
    have e1 := tks_len h1
    have e3 := sqA_one hQ h
    simp only [List.length_cons, List.length_nil] at e1 e3
    omega
  split at h
  · rename_i r1 h1
    have e1 := tk_len h1
    have e3 := sqA_one hQ h
    simp only [List.length_cons, List.length_nil] at e3
    omega
  obtain ⟨⟨u, r1⟩, h1, h⟩ := Option.bind_eq_some_iff.1 h
  have e1 := hQ _ _ _ h1
  have e2 := sqR_wt hQ h
  dsimp only at e2
  omega
theorem sqB_wt {Q : RdE} (hQ : RdOk Q) {r : List UInt8} {t : Te} {r' : List UInt8} (h : sqB Q r = some (t, r')) : wte t + r'.length ≤ r.length + 1 := by
  unfold sqB at h
  split at h
  · rename_i r1 h1
    obtain ⟨⟨y, r2⟩, h2, h⟩ := Option.bind_eq_some_iff.1 h
    obtain ⟨r3, h3, h4⟩ := Option.map_eq_some_iff.1 h
    injection h4 with h4 h5
    subst h4 h5
    have e1 := tk_len h1
    have e2 := sq_wt _ _ _ _ h2
    have e3 := tk_len h3
    dsimp only at e3
    rw [wte_T]
    simp only [List.length_nil, List.map_nil, List.sum_nil]
    omega
  · obtain ⟨⟨y, r2⟩, h2, h⟩ := Option.bind_eq_some_iff.1 h
    obtain ⟨r3, h3, h4⟩ := Option.map_eq_some_iff.1 h
    injection h4 with h4 h5
    subst h4 h5
    have e2 := hQ _ _ _ h2
    have e3 := tk_len h3
    dsimp only at e3
    rw [wte_N]
    simp only [List.length_nil, List.length_cons, List.map_nil, List.sum_nil, List.map_cons, List.sum_cons]
    omega
theorem sqFirst_wt {Q : RdE} (hQ : RdOk Q) : RdOk (sqFirst Q) := by
  intro r t r' h
  unfold sqFirst at h
  split at h
  · cases h
  split at h
  · rename_i r1 h1
    injection h with h; injection h with h2 h3
    subst h2 h3
    have e1 := tks_len h1
    rw [wte_N]
    simp only [List.length_nil, List.map_nil, List.sum_nil]
    omega
  split at h
  · rename_i r1 h1
    injection h with h; injection h with h2 h3
    subst h2 h3
    have e1 := tks_len h1
    rw [wte_N]
    simp only [List.length_nil, List.map_nil, List.sum_nil]
    omega
  split at h
  · rename_i r1 h1
    injection h with h; injection h with h2 h3
    subst h2 h3
    have e1 := tk_len h1
    have e7 := word_len r1
    rw [wte_N]
    simp only [List.length_nil, List.map_nil, List.sum_nil]
    omega
  split at h
  · rename_i r1 h1
    obtain ⟨⟨ls, ts, r2⟩, h2, h3⟩ := Option.map_eq_some_iff.1 h
    injection h3 with h3 h4
    subst h3 h4
    have e1 := tk_len h1
    have e2 := sqG_wt hQ _ _ _ _ _ h2
    dsimp only
    rw [wte_R]
    omega
  split at h
  · rename_i r1 h1
    have e1 := tk_len h1
    have e2 := sqB_wt hQ h
    omega
  split at h
  · rename_i r1 h1
    have e1 := tk_len h1
    have e2 := sqO_wt hQ h
    omega
  have e7 := word_len r
  split at h
  · obtain ⟨n, h2, h3⟩ := Option.map_eq_some_iff.1 h
    injection h3 with h3 h4
    subst h3 h4
    rw [wte_N]
    simp only [List.length_nil, List.map_nil, List.sum_nil]
    omega
  · injection h with h; injection h with h2 h3
    subst h2 h3
    rw [wte_N]
    simp only [List.length_nil, List.map_nil, List.sum_nil]
    omega
theorem sqDots_wt : ∀ (k : Nat) (t : Te) (r : List UInt8), wte (sqDots k t r).1 + (sqDots k t r).2.length ≤ wte t + r.length
  | 0, _, _ => Nat.le_refl _
  | k + 1, t, r => by
    unfold sqDots
    split
    · rename_i r1 h1
      have e1 := tk_len h1
      have e2 := sqDots_wt k (teN 6 (word r1).1 0 [t]) (word r1).2
      have e7 := word_len r1
      rw [wte_N] at e2
      simp only [List.length_nil, List.length_cons, List.map_nil, List.sum_nil, List.map_cons, List.sum_cons] at e2
      omega
    · exact Nat.le_refl _
theorem sqE_wt : ∀ D, RdOk (sqE D)
  | 0, _, _, _, h => by cases h
  | D + 1, r, t, r', h => by
    unfold sqE at h
    obtain ⟨⟨u, r1⟩, h1, h2⟩ := Option.map_eq_some_iff.1 h
    have e1 := sqFirst_wt (sqE_wt D) _ _ _ h1
    have e2 := sqDots_wt r1.length u r1
    dsimp only at h2
    rw [h2] at e2
    dsimp only at e2
    omega
end Go.Proofs.YtkchjinfjggoeaaGreatDoor
