/-
  Merged by program: Prs.
-/
import Derived.Test.YtkchjinfjggoeaaGreatDoorF11
import Derived.Test.YtkchjinfjggoeaaGreatDoorF15

/-
  Reading a type from its text, as the program does (rd) and as the model does (sq): two readers, and that they find the same valid types. Hangs on no function of the program.
-/
namespace Go.Proofs.YtkchjinfjggoeaaGreatDoor
open Go.RowKit

/-- a byte taken -/
def tk (c : UInt8) : List UInt8 → Option (List UInt8)
  | x :: r => if x = c then some r else none
  | [] => none
theorem tk_same (c : UInt8) (r : List UInt8) : tk c (c :: r) = some r := by simp [tk]
theorem tk_other {c x : UInt8} (r : List UInt8) (h : x ≠ c) : tk c (x :: r) = none := by simp [tk, h]
theorem tk_some {c : UInt8} {r r' : List UInt8} (h : tk c r = some r') : r = c :: r' := by
  cases r with
  | nil => cases h
  | cons x q =>
    have h' : (if x = c then some q else none) = some r' := h
    split at h'
    · rename_i e; subst e; injection h' with h'; subst h'; rfl
    · cases h'
/-- up to a colon, and what follows it -/
def cutC : List UInt8 → Option (List UInt8 × List UInt8)
  | [] => none
  | x :: r => if x = 58 then some ([], r) else (cutC r).map fun p => (x :: p.1, p.2)
theorem cutC_some {r l q : List UInt8} : cutC r = some (l, q) → r = l ++ 58 :: q := by
  induction r generalizing l with
  | nil => intro h; cases h
  | cons x r ih =>
    intro h
    unfold cutC at h
    split at h
    · rename_i e
      injection h with h
      injection h with h1 h2
      subst h1 h2 e
      rfl
    · obtain ⟨⟨a, b⟩, h1, h2⟩ := Option.map_eq_some_iff.1 h
      injection h2 with h3 h4
      subst h3 h4
      rw [ih h1]
      rfl
theorem cutC_at {l q : List UInt8} (h : ∀ x ∈ l, x ≠ 58) : cutC (l ++ 58 :: q) = some (l, q) := by
  induction l with
  | nil => simp [cutC]
  | cons x l ih =>
    have hx := h x (by simp)
    rw [List.cons_append, cutC, if_neg hx, ih (fun y hy => h y (by simp [hy]))]
    rfl
theorem cutC_none {r : List UInt8} (h : cutC r = none) : ∀ x ∈ r, x ≠ 58 := by
  induction r with
  | nil => simp
  | cons x r ih =>
    unfold cutC at h
    split at h
    · cases h
    · rename_i hx
      rw [Option.map_eq_none_iff] at h
      intro y hy
      rcases List.mem_cons.1 hy with rfl | hy
      · exact hx
      · exact ih h y hy

/-- the fields of a record, as the program reads them -/
def rdF (P : List UInt8 → Nat → Option (Ty × List UInt8 × Nat)) : Nat → List UInt8 → Nat → Option (List ByteArray × List Ty × List UInt8 × Nat)
  | 0, _, _ => none
  | k + 1, r, n => (cutC r).bind fun p => (P p.2 n).bind fun x => match tk 44 x.2.1 with
      | some r3 => (rdF P k r3 x.2.2).map fun y => (bs p.1 :: y.1, x.1 :: y.2.1, y.2.2)
      | none => (tk 125 x.2.1).map fun r3 => ([bs p.1], [x.1], r3, x.2.2)
/-- a type, as the program reads it: the rest of the text, the number of nodes so far -/
def rd : Nat → List UInt8 → Nat → Option (Ty × List UInt8 × Nat)
  | 0, _, _ => none
  | d + 1, r, n => if 24 ≤ n then none else
    match tk 73 r with
    | some r1 => some (.node ⟨1, []⟩ [], r1, n + 1)
    | none => match tk 66 r with
    | some r1 => some (.node ⟨2, []⟩ [], r1, n + 1)
    | none => match tk 123 r with
    | some r1 => (rdF (rd d) (d + 1) r1 (n + 1)).map fun y => (.node ⟨3, y.1⟩ y.2.1, y.2.2)
    | none => match tk 91 r with
    | some r1 => (rd d r1 (n + 1)).bind fun x => (tk 93 x.2.1).map fun r3 => (.node ⟨4, []⟩ [x.1], r3, x.2.2)
    | none => (tk 40 r).bind fun r1 => (rd d r1 (n + 1)).bind fun x => (tk 62 x.2.1).bind fun r2 => (rd d r2 x.2.2).bind fun y => (tk 41 y.2.1).map fun r3 => (.node ⟨5, []⟩ [x.1, y.1], r3, y.2.2)

def isW (x : UInt8) : Bool := (decide (48 ≤ x.toNat) && decide (x.toNat ≤ 57)) || (decide (97 ≤ x.toNat) && decide (x.toNat ≤ 122))
/-- the longest word, and what follows it -/
def word : List UInt8 → List UInt8 × List UInt8
  | [] => ([], [])
  | x :: r => if isW x = true then (x :: (word r).1, (word r).2) else ([], x :: r)
/-- the fields of a record, as the model reads them -/
def sqF (Q : List UInt8 → Option (Ty × List UInt8)) : Nat → List UInt8 → Option (List ByteArray × List Ty × List UInt8)
  | 0, _ => none
  | k + 1, r => (tk 58 (word r).2).bind fun r1 => (Q r1).bind fun x => match tk 44 x.2 with
      | some r3 => (sqF Q k r3).map fun y => (bs (word r).1 :: y.1, x.1 :: y.2.1, y.2.2)
      | none => (tk 125 x.2).map fun r3 => ([bs (word r).1], [x.1], r3)
/-- a type, as the model reads it: what follows it -/
def sq : Nat → List UInt8 → Option (Ty × List UInt8)
  | 0, _ => none
  | D + 1, r =>
    match tk 73 r with
    | some r1 => some (.node ⟨1, []⟩ [], r1)
    | none => match tk 66 r with
    | some r1 => some (.node ⟨2, []⟩ [], r1)
    | none => match tk 123 r with
    | some r1 => (sqF (sq D) (r1.length + 1) r1).map fun y => (.node ⟨3, y.1⟩ y.2.1, y.2.2)
    | none => match tk 91 r with
    | some r1 => (sq D r1).bind fun x => (tk 93 x.2).map fun r3 => (.node ⟨4, []⟩ [x.1], r3)
    | none => (tk 40 r).bind fun r1 => (sq D r1).bind fun x => (tk 62 x.2).bind fun r2 => (sq D r2).bind fun y => (tk 41 y.2).map fun r3 => (.node ⟨5, []⟩ [x.1, y.1], r3)

theorem word_len (r : List UInt8) : (word r).1.length + (word r).2.length = r.length := by
  induction r with
  | nil => rfl
  | cons x r ih =>
    unfold word
    split
    · simp only [List.length_cons]; omega
    · simp
theorem word_app (r : List UInt8) : (word r).1 ++ (word r).2 = r := by
  induction r with
  | nil => rfl
  | cons x r ih =>
    unfold word
    split
    · rw [List.cons_append, ih]
    · rfl
theorem word_at {l q : List UInt8} (h : ∀ x ∈ l, isW x = true) : word (l ++ 58 :: q) = (l, 58 :: q) := by
  induction l with
  | nil => simp [word, isW]
  | cons x l ih =>
    rw [List.cons_append, word, if_pos (h x (by simp)), ih (fun y hy => h y (by simp [hy]))]

/-! the size of what is read -/
theorem total_cons (x : ByteArray) (ls : List ByteArray) : total (x :: ls) = x.size + total ls := by simp [total]
theorem wt_leaf (q : Int) : wt (.node ⟨q, []⟩ []) = 0 := by rw [wt_node]; simp [wtA, wtK, total]
theorem wt_rec (ls : List ByteArray) (ts : List Ty) : wt (.node ⟨3, ls⟩ ts) = ls.length + total ls + (ts.length + (ts.map wt).sum) := by rw [wt_node]; rfl
theorem wt_one (q : Int) (t : Ty) : wt (.node ⟨q, []⟩ [t]) = wt t + 1 := by rw [wt_node]; simp [wtA, wtK, total]; omega
theorem wt_two (q : Int) (t u : Ty) : wt (.node ⟨q, []⟩ [t, u]) = wt t + wt u + 2 := by rw [wt_node]; simp [wtA, wtK, total]; omega

theorem rdF_wt {P : List UInt8 → Nat → Option (Ty × List UInt8 × Nat)} (hP : ∀ r n t r' n', P r n = some (t, r', n') → wt t + r'.length + 1 ≤ r.length) :
    ∀ k r n ls ts r' n', rdF P k r n = some (ls, ts, r', n') → ls.length + total ls + (ts.length + (ts.map wt).sum) + r'.length ≤ r.length
  | 0, _, _, _, _, _, _, h => by cases h
  | k + 1, r, n, ls, ts, r', n', h => by
    unfold rdF at h
    obtain ⟨⟨l, r1⟩, h1, h⟩ := Option.bind_eq_some_iff.1 h
    obtain ⟨⟨t, r2, n2⟩, h2, h⟩ := Option.bind_eq_some_iff.1 h
    have e1 := congrArg List.length (cutC_some h1)
    have e2 := hP _ _ _ _ _ h2
    simp only [List.length_append, List.length_cons] at e1
    dsimp only at h e2
    cases h3 : tk 44 r2 with
    | some r3 =>
      rw [h3] at h
      obtain ⟨⟨ls', ts', q⟩, h4, h5⟩ := Option.map_eq_some_iff.1 h
      injection h5 with e4 h5
      injection h5 with e5 h5
      subst e4 e5 h5
      have e3 := congrArg List.length (tk_some h3)
      have e6 := rdF_wt hP k r3 n2 ls' ts' r' n' h4
      rw [total_cons, bs_size]
      simp only [List.length_cons, List.map_cons, List.sum_cons] at e3 e6 ⊢
      omega
    | none =>
      rw [h3] at h
      obtain ⟨r3, h4, h5⟩ := Option.map_eq_some_iff.1 h
      injection h5 with e4 h5
      injection h5 with e5 h5
      injection h5 with e6 e7
      subst e4 e5 e6
      have e3 := congrArg List.length (tk_some h4)
      rw [total_cons, bs_size]
      simp only [List.length_cons, List.length_nil, List.map_cons, List.sum_cons, List.map_nil, List.sum_nil, total_nil] at e3 ⊢
      omega
theorem sqF_wt {Q : List UInt8 → Option (Ty × List UInt8)} (hQ : ∀ r t r', Q r = some (t, r') → wt t + r'.length + 1 ≤ r.length) :
    ∀ k r ls ts r', sqF Q k r = some (ls, ts, r') → ls.length + total ls + (ts.length + (ts.map wt).sum) + r'.length ≤ r.length
  | 0, _, _, _, _, h => by cases h
  | k + 1, r, ls, ts, r', h => by
    unfold sqF at h
    obtain ⟨r1, h1, h⟩ := Option.bind_eq_some_iff.1 h
    obtain ⟨⟨t, r2⟩, h2, h⟩ := Option.bind_eq_some_iff.1 h
    have e0 := word_len r
    have e1 := congrArg List.length (tk_some h1)
    have e2 := hQ _ _ _ h2
    simp only [List.length_cons] at e1
    dsimp only at h e2
    cases h3 : tk 44 r2 with
    | some r3 =>
      rw [h3] at h
      obtain ⟨⟨ls', ts', q⟩, h4, h5⟩ := Option.map_eq_some_iff.1 h
      injection h5 with e4 h5
      injection h5 with e5 h5
      subst e4 e5 h5
      have e3 := congrArg List.length (tk_some h3)
      have e6 := sqF_wt hQ k r3 ls' ts' q h4
      rw [total_cons, bs_size]
      simp only [List.length_cons, List.map_cons, List.sum_cons] at e3 e6 ⊢
      omega
    | none =>
      rw [h3] at h
      obtain ⟨r3, h4, h5⟩ := Option.map_eq_some_iff.1 h
      injection h5 with e4 h5
      injection h5 with e5 h5
      subst e4 e5 h5
      have e3 := congrArg List.length (tk_some h4)
      rw [total_cons, bs_size]
      simp only [List.length_cons, List.length_nil, List.map_cons, List.sum_cons, List.map_nil, List.sum_nil, total_nil] at e3 ⊢
      omega
theorem rd_wt : ∀ d r n t r' n', rd d r n = some (t, r', n') → wt t + r'.length + 1 ≤ r.length
  | 0, _, _, _, _, _, h => by cases h
  | d + 1, r, n, t, r', n', h => by
    unfold rd at h
    split at h
    · cases h
    · cases h1 : tk 73 r with
      | some r1 =>
        rw [h1] at h
        injection h with h; injection h with e1 h; injection h with e2 _
        subst e1 e2
        have e3 := congrArg List.length (tk_some h1)
        rw [wt_leaf]
        simp only [List.length_cons] at e3
        omega
      | none =>
        rw [h1] at h
        dsimp only at h
        cases h2 : tk 66 r with
        | some r1 =>
          rw [h2] at h
          injection h with h; injection h with e1 h; injection h with e2 _
          subst e1 e2
          have e3 := congrArg List.length (tk_some h2)
          rw [wt_leaf]
          simp only [List.length_cons] at e3
          omega
        | none =>
          rw [h2] at h
          dsimp only at h
          cases h3 : tk 123 r with
          | some r1 =>
            rw [h3] at h
            obtain ⟨⟨ls, ts, q⟩, h4, h5⟩ := Option.map_eq_some_iff.1 h
            injection h5 with e1 h5
            subst e1 h5
            have e3 := congrArg List.length (tk_some h3)
            have e4 := rdF_wt (rd_wt d) _ _ _ _ _ _ _ h4
            rw [wt_rec]
            simp only [List.length_cons] at e3
            dsimp only
            omega
          | none =>
            rw [h3] at h
            dsimp only at h
            cases h4 : tk 91 r with
            | some r1 =>
              rw [h4] at h
              obtain ⟨⟨t1, r2, n2⟩, h5, h⟩ := Option.bind_eq_some_iff.1 h
              obtain ⟨r3, h6, h7⟩ := Option.map_eq_some_iff.1 h
              injection h7 with e1 h7; injection h7 with e2 _
              subst e1 e2
              have e3 := congrArg List.length (tk_some h4)
              have e4 := rd_wt d _ _ _ _ _ h5
              have e5 := congrArg List.length (tk_some h6)
              rw [wt_one]
              simp only [List.length_cons] at e3 e5
              dsimp only
              omega
            | none =>
              rw [h4] at h
              obtain ⟨r1, h5, h⟩ := Option.bind_eq_some_iff.1 h
              obtain ⟨⟨t1, r2, n2⟩, h6, h⟩ := Option.bind_eq_some_iff.1 h
              obtain ⟨r3, h7, h⟩ := Option.bind_eq_some_iff.1 h
              obtain ⟨⟨t2, r4, n4⟩, h8, h⟩ := Option.bind_eq_some_iff.1 h
              obtain ⟨r5, h9, h10⟩ := Option.map_eq_some_iff.1 h
              injection h10 with e1 h10; injection h10 with e2 _
              subst e1 e2
              have e3 := congrArg List.length (tk_some h5)
              have e4 := rd_wt d _ _ _ _ _ h6
              have e5 := congrArg List.length (tk_some h7)
              have e6 := rd_wt d _ _ _ _ _ h8
              have e7 := congrArg List.length (tk_some h9)
              rw [wt_two]
              simp only [List.length_cons] at e3 e5 e7
              dsimp only
              omega
theorem sq_wt : ∀ D r t r', sq D r = some (t, r') → wt t + r'.length + 1 ≤ r.length
  | 0, _, _, _, h => by cases h
  | D + 1, r, t, r', h => by
    unfold sq at h
    cases h1 : tk 73 r with
    | some r1 =>
      rw [h1] at h
      injection h with h; injection h with e1 e2
      subst e1 e2
      have e3 := congrArg List.length (tk_some h1)
      rw [wt_leaf]
      simp only [List.length_cons] at e3
      omega
    | none =>
      rw [h1] at h
      dsimp only at h
      cases h2 : tk 66 r with
      | some r1 =>
        rw [h2] at h
        injection h with h; injection h with e1 e2
        subst e1 e2
        have e3 := congrArg List.length (tk_some h2)
        rw [wt_leaf]
        simp only [List.length_cons] at e3
        omega
      | none =>
        rw [h2] at h
        dsimp only at h
        cases h3 : tk 123 r with
        | some r1 =>
          rw [h3] at h
          obtain ⟨⟨ls, ts, q⟩, h4, h5⟩ := Option.map_eq_some_iff.1 h
          injection h5 with e1 h5
          subst e1 h5
          have e3 := congrArg List.length (tk_some h3)
          have e4 := sqF_wt (sq_wt D) _ _ _ _ _ h4
          rw [wt_rec]
          simp only [List.length_cons] at e3
          dsimp only
          omega
        | none =>
          rw [h3] at h
          dsimp only at h
          cases h4 : tk 91 r with
          | some r1 =>
            rw [h4] at h
            obtain ⟨⟨t1, r2⟩, h5, h⟩ := Option.bind_eq_some_iff.1 h
            obtain ⟨r3, h6, h7⟩ := Option.map_eq_some_iff.1 h
            injection h7 with e1 e2
            subst e1 e2
            have e3 := congrArg List.length (tk_some h4)
            have e4 := sq_wt D _ _ _ h5
            have e5 := congrArg List.length (tk_some h6)
            rw [wt_one]
            simp only [List.length_cons] at e3 e5
            dsimp only
            omega
          | none =>
            rw [h4] at h
            obtain ⟨r1, h5, h⟩ := Option.bind_eq_some_iff.1 h
            obtain ⟨⟨t1, r2⟩, h6, h⟩ := Option.bind_eq_some_iff.1 h
            obtain ⟨r3, h7, h⟩ := Option.bind_eq_some_iff.1 h
            obtain ⟨⟨t2, r4⟩, h8, h⟩ := Option.bind_eq_some_iff.1 h
            obtain ⟨r5, h9, h10⟩ := Option.map_eq_some_iff.1 h
            injection h10 with e1 e2
            subst e1 e2
            have e3 := congrArg List.length (tk_some h5)
            have e4 := sq_wt D _ _ _ h6
            have e5 := congrArg List.length (tk_some h7)
            have e6 := sq_wt D _ _ _ h8
            have e7 := congrArg List.length (tk_some h9)
            rw [wt_two]
            simp only [List.length_cons] at e3 e5 e7
            dsimp only
            omega
end Go.Proofs.YtkchjinfjggoeaaGreatDoor
