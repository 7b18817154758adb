/-
  Merged by program: PrsB.
-/
import Derived.Test.YtkchjinfjggoeaaGreatDoorF18

/-
  The two readers find the same valid types: the one whose text is the text.
-/
namespace Go.Proofs.YtkchjinfjggoeaaGreatDoor
open Go.RowKit

/-- the fields of a record as text, up to its end and on -/
def recT : List ByteArray → List Ty → List UInt8 → List UInt8
  | l :: ls, t :: ts, q => l.data.toList ++ 58 :: (t.txt ++ (if ts = [] then 125 :: q else 44 :: recT ls ts q))
  | _, _, q => 125 :: q
theorem recT_tail : ∀ (ls : List ByteArray) (ts : List Ty) (q : List UInt8), ls.length = ts.length → Lib.joinTail [44] (List.zipWith (fun l t => l.data.toList ++ 58 :: Tr.txt t) ls ts) ++ 125 :: q = (if ts = [] then 125 :: q else 44 :: recT ls ts q)
  | [], [], q, _ => by simp [Lib.joinTail]
  | l :: ls, t :: ts, q, h => by
    have ih := recT_tail ls ts q (by simpa using h)
    rw [if_neg (by simp)]
    unfold recT
    rw [← ih]
    simp [Lib.joinTail]
  | [], _ :: _, _, h => by simp at h
  | _ :: _, [], _, h => by simp at h
theorem recT_join (ls : List ByteArray) (ts : List Ty) (q : List UInt8) (h : ls.length = ts.length) (h1 : 1 ≤ ts.length) : Lib.join (List.zipWith (fun l t => l.data.toList ++ 58 :: Tr.txt t) ls ts) [44] ++ 125 :: q = recT ls ts q := by
  match ls, ts, h, h1 with
  | [], [], _, h1 => simp at h1
  | [], _ :: _, h, _ => simp at h
  | _ :: _, [], h, _ => simp at h
  | l :: ls, t :: ts, h, _ =>
    unfold recT
    rw [List.zipWith_cons_cons, Lib.join_cons, ← recT_tail ls ts q (by simpa using h)]
    simp
theorem parts_zip (a : TyA) (ks : List Ty) (h3 : a.kind = 3) (h : a.labels.length = ks.length) : partsT a ks = List.zipWith (fun l t => l.data.toList ++ 58 :: Tr.txt t) a.labels ks := by
  apply List.ext_getElem?
  intro i
  by_cases hi : i < ks.length
  · rw [partsT_at a ks i hi, List.getElem?_zipWith, List.getElem?_eq_getElem hi, List.getElem?_eq_getElem (by omega)]
    unfold partT
    rw [if_pos h3]
    simp [List.getD, show i < a.labels.length by omega]
  · rw [List.getElem?_eq_none (by rw [partsT_len]; omega), List.getElem?_eq_none (by rw [List.length_zipWith]; omega)]
theorem txt_rec (ls : List ByteArray) (ks : List Ty) (q : List UInt8) (h : ls.length = ks.length) (h1 : 1 ≤ ks.length) : Tr.txt (.node ⟨3, ls⟩ ks) ++ q = 123 :: recT ls ks q := by
  rw [txt_node, parts_zip ⟨3, ls⟩ ks rfl h, ← recT_join ls ks q h h1]
  simp [nodeT]
theorem txt_bag (t : Ty) : Tr.txt (.node ⟨4, []⟩ [t]) = 91 :: (t.txt ++ [93]) := by
  rw [txt_node]
  simp [nodeT, partsT, partT]
theorem txt_fun (t u : Ty) : Tr.txt (.node ⟨5, []⟩ [t, u]) = 40 :: (t.txt ++ 62 :: (u.txt ++ [41])) := by
  rw [txt_node]
  simp [nodeT, partsT, partT, Lib.join_cons, Lib.joinTail]
theorem txt_int : Tr.txt (.node ⟨1, []⟩ []) = [73] := by rw [txt_node]; simp [nodeT]
theorem txt_bool : Tr.txt (.node ⟨2, []⟩ []) = [66] := by rw [txt_node]; simp [nodeT]

/-! what the program reads is the text of what it finds -/
theorem rdF_txt {P : List UInt8 → Nat → Option (Ty × List UInt8 × Nat)} (hP : ∀ r n t r' n', P r n = some (t, r', n') → r = t.txt ++ r') :
    ∀ k r n ls ts r' n', rdF P k r n = some (ls, ts, r', n') → ls.length = ts.length ∧ 1 ≤ ts.length ∧ r = recT ls ts r'
  | 0, _, _, _, _, _, _, h => by cases h
  | k + 1, r, n, ls, ts, r', n', h => by
    unfold rdF at h
    obtain ⟨⟨l, r1⟩, h1, h⟩ := Option.bind_eq_some_iff.1 h
    obtain ⟨⟨t, r2, n2⟩, h2, h⟩ := Option.bind_eq_some_iff.1 h
    have e1 := cutC_some h1
    have e2 := hP _ _ _ _ _ h2
    dsimp only at h e2
    cases h3 : tk 44 r2 with
    | some r3 =>
      rw [h3] at h
      obtain ⟨⟨ls', ts', q⟩, h4, h5⟩ := Option.map_eq_some_iff.1 h
      injection h5 with e4 h5
      injection h5 with e5 h5
      subst e4 e5 h5
      have e3 := tk_some h3
      obtain ⟨f1, f2, f3⟩ := rdF_txt hP k r3 n2 ls' ts' r' n' h4
      refine ⟨by simp [f1], by simp, ?_⟩
      unfold recT
      rw [if_neg (by intro e; subst e; simp at f2), bs_data, ← f3, ← e3, ← e2, ← e1]
    | none =>
      rw [h3] at h
      obtain ⟨r3, h4, h5⟩ := Option.map_eq_some_iff.1 h
      injection h5 with e4 h5
      injection h5 with e5 h5
      injection h5 with e6 e7
      subst e4 e5 e6
      have e3 := tk_some h4
      refine ⟨rfl, by simp, ?_⟩
      unfold recT
      rw [if_pos rfl, bs_data, ← e3, ← e2, ← e1]
theorem rd_txt : ∀ d r n t r' n', rd d r n = some (t, r', n') → r = t.txt ++ r'
  | 0, _, _, _, _, _, h => by cases h
  | d + 1, r, n, t, r', n', h => by
    unfold rd at h
    split at h
    · cases h
    · cases h1 : tk 73 r with
      | some r1 =>
        rw [h1] at h
        injection h with h; injection h with e1 h; injection h with e2 _
        subst e1 e2
        rw [txt_int]
        exact tk_some h1
      | none =>
        rw [h1] at h
        dsimp only at h
        cases h2 : tk 66 r with
        | some r1 =>
          rw [h2] at h
          injection h with h; injection h with e1 h; injection h with e2 _
          subst e1 e2
          rw [txt_bool]
          exact tk_some h2
        | none =>
          rw [h2] at h
          dsimp only at h
          cases h3 : tk 123 r with
          | some r1 =>
            rw [h3] at h
            obtain ⟨⟨ls, ts, q⟩, h4, h5⟩ := Option.map_eq_some_iff.1 h
            injection h5 with e1 h5
            subst e1 h5
            obtain ⟨f1, f2, f3⟩ := rdF_txt (rd_txt d) _ _ _ _ _ _ _ h4
            dsimp only at f1 f2 f3 ⊢
            rw [txt_rec ls ts r' f1 f2, ← f3]
            exact tk_some h3
          | none =>
            rw [h3] at h
            dsimp only at h
            cases h4 : tk 91 r with
            | some r1 =>
              rw [h4] at h
              obtain ⟨⟨t1, r2, n2⟩, h5, h⟩ := Option.bind_eq_some_iff.1 h
              obtain ⟨r3, h6, h7⟩ := Option.map_eq_some_iff.1 h
              injection h7 with e1 h7; injection h7 with e2 _
              subst e1 e2
              have e4 := rd_txt d _ _ _ _ _ h5
              have e5 : r2 = 93 :: r3 := tk_some h6
              rw [tk_some h4, txt_bag, e4, e5]
              simp
            | none =>
              rw [h4] at h
              obtain ⟨r1, h5, h⟩ := Option.bind_eq_some_iff.1 h
              obtain ⟨⟨t1, r2, n2⟩, h6, h⟩ := Option.bind_eq_some_iff.1 h
              obtain ⟨r3, h7, h⟩ := Option.bind_eq_some_iff.1 h
              obtain ⟨⟨t2, r4, n4⟩, h8, h⟩ := Option.bind_eq_some_iff.1 h
              obtain ⟨r5, h9, h10⟩ := Option.map_eq_some_iff.1 h
              injection h10 with e1 h10; injection h10 with e2 _
              subst e1 e2
              have e4 : r2 = 62 :: r3 := tk_some h7
              have e5 : r4 = 41 :: r5 := tk_some h9
              rw [tk_some h5, txt_fun, rd_txt d _ _ _ _ _ h6, e4, rd_txt d _ _ _ _ _ h8, e5]
              simp

/-! how many nodes were met -/
theorem rdF_num {P : List UInt8 → Nat → Option (Ty × List UInt8 × Nat)} (hP : ∀ r n t r' n', P r n = some (t, r', n') → n < n' ∧ n' ≤ 24) : ∀ k r n ls ts r' n', rdF P k r n = some (ls, ts, r', n') → n < n' ∧ n' ≤ 24
  | 0, _, _, _, _, _, _, h => by cases h
  | k + 1, r, n, ls, ts, r', n', h => by
    unfold rdF at h
    obtain ⟨⟨l, r1⟩, h1, h⟩ := Option.bind_eq_some_iff.1 h
    obtain ⟨⟨t, r2, n2⟩, h2, h⟩ := Option.bind_eq_some_iff.1 h
    have e2 := hP _ _ _ _ _ h2
    dsimp only at h
    cases h3 : tk 44 r2 with
    | some r3 =>
      rw [h3] at h
      obtain ⟨⟨ls', ts', q, m⟩, h4, h5⟩ := Option.map_eq_some_iff.1 h
      injection h5 with e4 h5
      injection h5 with e5 h5
      injection h5 with e6 e7
      have e8 := rdF_num hP k r3 n2 ls' ts' q m h4
      try dsimp only at e7
      omega
    | none =>
      rw [h3] at h
      obtain ⟨r3, h4, h5⟩ := Option.map_eq_some_iff.1 h
      injection h5 with e4 h5
      injection h5 with e5 h5
      injection h5 with e6 e7
      try dsimp only at e7
      omega
theorem rd_num : ∀ d r n t r' n', rd d r n = some (t, r', n') → n < n' ∧ n' ≤ 24
  | 0, _, _, _, _, _, h => by cases h
  | d + 1, r, n, t, r', n', h => by
    unfold rd at h
    split at h
    · cases h
    · cases h1 : tk 73 r with
      | some r1 =>
        rw [h1] at h
        injection h with h; injection h with e1 h; injection h with e2 e3
        omega
      | none =>
        rw [h1] at h
        dsimp only at h
        cases h2 : tk 66 r with
        | some r1 =>
          rw [h2] at h
          injection h with h; injection h with e1 h; injection h with e2 e3
          omega
        | none =>
          rw [h2] at h
          dsimp only at h
          cases h3 : tk 123 r with
          | some r1 =>
            rw [h3] at h
            obtain ⟨⟨ls, ts, q, m⟩, h4, h5⟩ := Option.map_eq_some_iff.1 h
            injection h5 with e1 h5
            injection h5 with e2 e3
            have e4 := rdF_num (rd_num d) _ _ _ _ _ _ _ h4
            omega
          | none =>
            rw [h3] at h
            dsimp only at h
            cases h4 : tk 91 r with
            | some r1 =>
              rw [h4] at h
              obtain ⟨⟨t1, r2, n2⟩, h5, h⟩ := Option.bind_eq_some_iff.1 h
              obtain ⟨r3, h6, h7⟩ := Option.map_eq_some_iff.1 h
              injection h7 with e1 h7; injection h7 with e2 e3
              have e4 := rd_num d _ _ _ _ _ h5
              dsimp only at e3
              omega
            | none =>
              rw [h4] at h
              obtain ⟨r1, h5, h⟩ := Option.bind_eq_some_iff.1 h
              obtain ⟨⟨t1, r2, n2⟩, h6, h⟩ := Option.bind_eq_some_iff.1 h
              obtain ⟨r3, h7, h⟩ := Option.bind_eq_some_iff.1 h
              obtain ⟨⟨t2, r4, n4⟩, h8, h⟩ := Option.bind_eq_some_iff.1 h
              obtain ⟨r5, h9, h10⟩ := Option.map_eq_some_iff.1 h
              injection h10 with e1 h10; injection h10 with e2 e3
              have e4 := rd_num d _ _ _ _ _ h6
              have e5 := rd_num d _ _ _ _ _ h8
              dsimp only at e3 e5
              omega

/-! a type of the right form is read back -/
theorem name_word {x : ByteArray} (h : nameB x = true) : ∀ u ∈ x.data.toList, isW u = true := by
  unfold nameB at h
  rw [Bool.and_eq_true, List.all_eq_true] at h
  intro u hu
  obtain ⟨i, hi, rfl⟩ := List.getElem_of_mem hu
  have hs : i < x.size := by rw [← size_data]; exact hi
  have h1 := h.1 i (List.mem_range.2 hs)
  rw [get_bang x i hs] at h1
  have e : x[i]'hs = x.data.toList[i] := by simp [ByteArray.getElem_eq_getElem_data]
  rw [e] at h1
  unfold okN letN digN at h1
  unfold isW
  simp only [Bool.or_eq_true, Bool.and_eq_true, decide_eq_true_eq] at h1 ⊢
  rcases h1 with h1 | ⟨_, h1⟩
  · exact .inr h1
  · exact .inl h1
theorem word_colon {l : List UInt8} (h : ∀ u ∈ l, isW u = true) : ∀ u ∈ l, u ≠ 58 := by
  intro u hu e
  subst e
  have := h 58 hu
  revert this
  decide
/-- a list of types that is read back -/
def sizesL (ks : List Ty) : Nat := (ks.map Tr.size).sum
theorem sizesL_cons (t : Ty) (ks : List Ty) : sizesL (t :: ks) = t.size + sizesL ks := by simp [sizesL]
theorem size_pos' (t : Ty) : 1 ≤ t.size := by
  cases t with
  | node a ks => rw [size_node]; omega
theorem rdF_back {P : List UInt8 → Nat → Option (Ty × List UInt8 × Nat)} : ∀ (ls : List ByteArray) (ts : List Ty) (k : Nat) (q : List UInt8) (n : Nat), ls.length = ts.length → 1 ≤ ts.length → (∀ x ∈ ls, nameB x = true) →
      n + sizesL ts ≤ 24 → 24 < n + k → (∀ t ∈ ts, ∀ m q, n ≤ m → m + t.size ≤ 24 → P (t.txt ++ q) m = some (t, q, m + t.size)) → rdF P k (recT ls ts q) n = some (ls, ts, q, n + sizesL ts)
  | [], [], _, _, _, _, h1, _, _, _, _ => by simp at h1
  | [], _ :: _, _, _, _, h, _, _, _, _, _ => by simp at h
  | _ :: _, [], _, _, _, h, _, _, _, _, _ => by simp at h
  | l :: ls, t :: ts, k, q, n, h, _, hn, hs, hk, hP => by
    rw [sizesL_cons] at hs
    have htp := size_pos' t
    obtain ⟨j, rfl⟩ : ∃ j, k = j + 1 := ⟨k - 1, by omega⟩
    unfold rdF recT
    rw [cutC_at (word_colon (name_word (hn l (by simp))))]
    simp only [Option.bind_some]
    rw [hP t (by simp) n _ (Nat.le_refl _) (by omega)]
    simp only [Option.bind_some]
    by_cases he : ts = []
    · subst he
      have hl0 : ls = [] := List.eq_nil_of_length_eq_zero (by simpa using h)
      subst hl0
      rw [if_pos rfl, tk_other _ (by decide), tk_same]
      simp [sizesL, bs_of]
    · rw [if_neg he, tk_same]
      simp only
      have h1 : 1 ≤ ts.length := by
        rcases Nat.eq_zero_or_pos ts.length with e | e
        · exact absurd (List.eq_nil_of_length_eq_zero e) he
        · exact e
      rw [rdF_back ls ts j q (n + t.size) (by simpa using h) h1 (fun x hx => hn x (by simp [hx])) (by omega) (by omega) (fun u hu m q h1 h2 => hP u (by simp [hu]) m q (by omega) h2)]
      simp [bs_of, sizesL_cons, Nat.add_assoc]
theorem labB_names {ls : List ByteArray} (h : labB ls = true) : ∀ x ∈ ls, nameB x = true := by
  unfold labB at h
  rw [Bool.and_eq_true, List.all_eq_true] at h
  exact h.1
theorem labB_one {ls : List ByteArray} (h : labB ls = true) : 1 ≤ ls.length := by
  unfold labB at h
  simp only [Bool.and_eq_true, decide_eq_true_eq] at h
  omega
theorem size_sizesL (a : TyA) (ks : List Ty) : (Tr.node a ks).size = 1 + sizesL ks := size_node a ks
theorem len_two {β : Type} {xs : List β} (h : xs.length = 2) : ∃ x y, xs = [x, y] := by
  match xs, h with
  | [x, y], _ => exact ⟨x, y, rfl⟩
theorem rd_back : ∀ (t : Ty), t.form = true → ∀ (d : Nat) (q : List UInt8) (n : Nat), 24 < n + d → n + t.size ≤ 24 → rd d (t.txt ++ q) n = some (t, q, n + t.size) := by
  refine Tr.ind ?_
  rintro ⟨kd, ls⟩ ks ih hf d q n hd hs
  obtain ⟨hfk, hfa⟩ := form_kids hf
  rw [size_sizesL] at hs ⊢
  obtain ⟨d, rfl⟩ : ∃ j, d = j + 1 := ⟨d - 1, by omega⟩
  unfold rd
  rw [if_neg (by omega)]
  have hfc := form_cases hfa
  dsimp only at hfc
  rcases hfc with ⟨rfl, hkl, hlb, -⟩ | ⟨hl0, ⟨rfl, hk⟩ | ⟨rfl, hk⟩ | ⟨rfl, hk, -⟩ | ⟨rfl, hk⟩⟩
  · have h1 := labB_one hlb
    rw [txt_rec ls ks q hkl.symm (by omega), tk_other _ (by decide), tk_other _ (by decide), tk_same]
    simp only
    rw [rdF_back ls ks (d + 1) q (n + 1) hkl.symm (by omega) (labB_names hlb) (by omega) (by omega) (fun t ht m q h1 h2 => ih t ht (hfk t ht) d q m (by omega) h2)]
    simp [Nat.add_assoc]
  all_goals
    have e : ls = [] := List.eq_nil_of_length_eq_zero hl0
    subst e
  · have e : ks = [] := List.eq_nil_of_length_eq_zero hk
    subst e
    rw [txt_int, List.cons_append, List.nil_append, tk_same]
    simp [sizesL]
  · have e : ks = [] := List.eq_nil_of_length_eq_zero hk
    subst e
    rw [txt_bool, List.cons_append, List.nil_append, tk_other _ (by decide), tk_same]
    simp [sizesL]
  · obtain ⟨t, rfl⟩ := List.length_eq_one_iff.1 hk
    rw [txt_bag, List.cons_append, tk_other _ (by decide), tk_other _ (by decide), tk_other _ (by decide), tk_same]
    simp only
    rw [sizesL_cons] at hs
    rw [List.append_assoc, ih t (by simp) (hfk t (by simp)) d _ (n + 1) (by omega) (by omega)]
    simp [tk_same, sizesL, Nat.add_assoc]
  · obtain ⟨t, u, rfl⟩ := len_two hk
    have e1 : sizesL [t, u] = t.size + u.size := by simp [sizesL]
    rw [e1] at hs ⊢
    have e2 : 40 :: (t.txt ++ 62 :: (u.txt ++ [41])) ++ q = 40 :: (t.txt ++ (62 :: (u.txt ++ (41 :: q)))) := by simp
    rw [txt_fun, e2, tk_other _ (by decide), tk_other _ (by decide), tk_other _ (by decide), tk_other _ (by decide), tk_same]
    simp only [Option.bind_some]
    rw [ih t (by simp) (hfk t (by simp)) d _ (n + 1) (by omega) (by omega)]
    simp only [Option.bind_some, tk_same]
    rw [ih u (by simp) (hfk u (by simp)) d _ (n + 1 + t.size) (by omega) (by omega)]
    simp [tk_same, Nat.add_assoc]

theorem sqF_back {Q : List UInt8 → Option (Ty × List UInt8)} : ∀ (ls : List ByteArray) (ts : List Ty) (k : Nat) (q : List UInt8), ls.length = ts.length → 1 ≤ ts.length → (∀ x ∈ ls, nameB x = true) →
      (recT ls ts q).length < k → (∀ t ∈ ts, ∀ q, Q (t.txt ++ q) = some (t, q)) → sqF Q k (recT ls ts q) = some (ls, ts, q)
  | [], [], _, _, _, h1, _, _, _ => by simp at h1
  | [], _ :: _, _, _, h, _, _, _, _ => by simp at h
  | _ :: _, [], _, _, h, _, _, _, _ => by simp at h
  | l :: ls, t :: ts, k, q, h, _, hn, hk, hQ => by
    obtain ⟨j, rfl⟩ : ∃ j, k = j + 1 := ⟨k - 1, by omega⟩
    unfold sqF
    unfold recT at hk ⊢
    rw [word_at (name_word (hn l (by simp))), tk_same]
    simp only [Option.bind_some]
    rw [hQ t (by simp)]
    simp only [Option.bind_some]
    by_cases he : ts = []
    · subst he
      have hl0 : ls = [] := List.eq_nil_of_length_eq_zero (by simpa using h)
      subst hl0
      rw [if_pos rfl, tk_other _ (by decide), tk_same]
      simp [bs_of]
    · rw [if_neg he] at hk ⊢
      rw [tk_same]
      simp only
      have h1 : 1 ≤ ts.length := by
        rcases Nat.eq_zero_or_pos ts.length with e | e
        · exact absurd (List.eq_nil_of_length_eq_zero e) he
        · exact e
      simp only [List.length_append, List.length_cons] at hk
      rw [sqF_back ls ts j q (by simpa using h) h1 (fun x hx => hn x (by simp [hx])) (by omega) (fun u hu => hQ u (by simp [hu]))]
      simp [bs_of]
theorem kid_deep {a : TyA} {ks : List Ty} {t : Ty} (h : t ∈ ks) : t.deep + 1 ≤ (Tr.node a ks).deep := by
  obtain ⟨i, hi, rfl⟩ := List.getElem_of_mem h
  rw [deepTo_all]
  have : ∀ k, i < k → k ≤ ks.length → ks[i].deep ≤ deepTo ks k := by
    intro k
    induction k with
    | zero => intro h; omega
    | succ k ih =>
      intro h1 h2
      rw [deepTo_succ ks k h2]
      by_cases e : i = k
      · subst e; exact Nat.le_max_right _ _
      · exact Nat.le_trans (ih (by omega) (by omega)) (Nat.le_max_left _ _)
  have := this ks.length hi (Nat.le_refl _)
  omega
theorem sq_back : ∀ (t : Ty), t.form = true → ∀ (D : Nat) (q : List UInt8), t.deep ≤ D → sq D (t.txt ++ q) = some (t, q) := by
  refine Tr.ind ?_
  rintro ⟨kd, ls⟩ ks ih hf D q hD
  obtain ⟨hfk, hfa⟩ := form_kids hf
  have hdp : 1 ≤ D := by rw [deepTo_all] at hD; omega
  obtain ⟨D, rfl⟩ : ∃ j, D = j + 1 := ⟨D - 1, by omega⟩
  have hkd : ∀ t ∈ ks, t.deep ≤ D := fun t ht => by have := kid_deep (a := ⟨kd, ls⟩) ht; omega
  unfold sq
  have hfc := form_cases hfa
  dsimp only at hfc
  rcases hfc with ⟨rfl, hkl, hlb, -⟩ | ⟨hl0, ⟨rfl, hk⟩ | ⟨rfl, hk⟩ | ⟨rfl, hk, -⟩ | ⟨rfl, hk⟩⟩
  · have h1 := labB_one hlb
    rw [txt_rec ls ks q hkl.symm (by omega), tk_other _ (by decide), tk_other _ (by decide), tk_same]
    simp only
    rw [sqF_back ls ks _ q hkl.symm (by omega) (labB_names hlb) (by omega) (fun t ht q => ih t ht (hfk t ht) D q (hkd t ht))]
    simp
  all_goals
    have e : ls = [] := List.eq_nil_of_length_eq_zero hl0
    subst e
  · have e : ks = [] := List.eq_nil_of_length_eq_zero hk
    subst e
    rw [txt_int, List.cons_append, List.nil_append, tk_same]
  · have e : ks = [] := List.eq_nil_of_length_eq_zero hk
    subst e
    rw [txt_bool, List.cons_append, List.nil_append, tk_other _ (by decide), tk_same]
  · obtain ⟨t, rfl⟩ := List.length_eq_one_iff.1 hk
    rw [txt_bag, List.cons_append, tk_other _ (by decide), tk_other _ (by decide), tk_other _ (by decide), tk_same]
    simp only
    rw [List.append_assoc, ih t (by simp) (hfk t (by simp)) D _ (hkd t (by simp))]
    simp [tk_same]
  · obtain ⟨t, u, rfl⟩ := len_two hk
    have e2 : 40 :: (t.txt ++ 62 :: (u.txt ++ [41])) ++ q = 40 :: (t.txt ++ (62 :: (u.txt ++ (41 :: q)))) := by simp
    rw [txt_fun, e2, tk_other _ (by decide), tk_other _ (by decide), tk_other _ (by decide), tk_other _ (by decide), tk_same]
    simp only [Option.bind_some]
    rw [ih t (by simp) (hfk t (by simp)) D _ (hkd t (by simp))]
    simp only [Option.bind_some, tk_same]
    rw [ih u (by simp) (hfk u (by simp)) D _ (hkd u (by simp))]
    simp [tk_same]

/-- what the program's ParseType finds -/
def prsI (s : List UInt8) : Option Ty := match rd 25 s 0 with
  | some (t, [], _) => if validB t = true then some t else none
  | _ => none
/-- what the model's ParseType finds -/
def prsS (s : List UInt8) : Option Ty := match sq 7 s with
  | some (t, []) => if txtV t = s then some t else none
  | _ => none
theorem valid_parts {t : Ty} (h : validB t = true) : t.size ≤ 24 ∧ t.deep ≤ 7 ∧ t.form = true := by
  unfold validB at h
  simp only [Bool.and_eq_true, decide_eq_true_eq] at h
  exact h
theorem prsI_iff (s : List UInt8) (t : Ty) : prsI s = some t ↔ validB t = true ∧ t.txt = s := by
  constructor
  · intro h
    unfold prsI at h
    split at h
    · rename_i u m hu
      split at h
      · rename_i hv
        injection h with h
        subst h
        have := rd_txt _ _ _ _ _ _ hu
        rw [List.append_nil] at this
        exact ⟨hv, this.symm⟩
      · cases h
    · cases h
  · rintro ⟨hv, rfl⟩
    obtain ⟨h1, h2, h3⟩ := valid_parts hv
    have := rd_back t h3 25 [] 0 (by omega) (by omega)
    rw [List.append_nil] at this
    unfold prsI
    rw [this]
    simp [hv]
theorem prsS_iff (s : List UInt8) (t : Ty) : prsS s = some t ↔ validB t = true ∧ t.txt = s := by
  constructor
  · intro h
    unfold prsS at h
    split at h
    · rename_i u hu
      split at h
      · rename_i hv
        injection h with h
        subst h
        have h1 := sq_wt _ _ _ _ hu
        unfold txtV at hv
        split at hv
        · rename_i hb
          exact ⟨hb, hv⟩
        · subst hv
          simp at h1
      · cases h
    · cases h
  · rintro ⟨hv, rfl⟩
    obtain ⟨h1, h2, h3⟩ := valid_parts hv
    have := sq_back t h3 7 [] h2
    rw [List.append_nil] at this
    unfold prsS
    rw [this]
    simp [hv, txtV]
theorem prs_same (s : List UInt8) : prsI s = prsS s := by
  apply Option.ext
  intro t
  rw [prsI_iff, prsS_iff]
end Go.Proofs.YtkchjinfjggoeaaGreatDoor
