/-
  Merged by program: PrsEB.
-/
import Derived.Test.YtkchjinfjggoeaaGreatDoorF20

/-
  The model's reader of terms finds a valid term in its own text. Hangs on no function of the program.
-/
namespace Go.Proofs.YtkchjinfjggoeaaGreatDoor
open Go.RowKit

/-- what follows goes on no word -/
def Tl (q : List UInt8) : Prop := ∀ x ∈ q.head?, isW x = false
theorem tl_nil : Tl [] := fun x h => by simp at h
theorem tl_cons {c : UInt8} {q : List UInt8} (h : isW c = false) : Tl (c :: q) := fun x hx => by simp at hx; subst hx; exact h
theorem word_tl {l q : List UInt8} (h : ∀ x ∈ l, isW x = true) (hq : Tl q) : word (l ++ q) = (l, q) := by
  induction l with
  | nil =>
    cases q with
    | nil => rfl
    | cons c q =>
      have := hq c (by simp)
      simp [word, this]
  | cons x l ih =>
    rw [List.cons_append, word, if_pos (h x (by simp)), ih (fun y hy => h y (by simp [hy]))]
theorem kid_deepE {α : Type} {a : α} {ks : List (Tr α)} {t : Tr α} (h : t ∈ ks) : t.deep + 1 ≤ (Tr.node a ks).deep := by
  obtain ⟨i, hi, rfl⟩ := List.getElem_of_mem h
  rw [deepTo_all]
  have : ∀ k, i < k → k ≤ ks.length → ks[i].deep ≤ deepTo ks k := by
    intro k
    induction k with
    | zero => intro h; omega
    | succ k ih =>
      intro h1 h2
      rw [deepTo_succ ks k h2]
      by_cases e : i = k
      · subst e; exact Nat.le_max_right _ _
      · exact Nat.le_trans (ih (by omega) (by omega)) (Nat.le_max_left _ _)
  have := this ks.length hi (Nat.le_refl _)
  omega

/-! a node of the right form -/
structure Form (a : TeA) (n : Nat) : Prop where
  name : nmB a.kind = true → nameB a.name = true
  none : nmB a.kind = false → a.kind ≠ 4 → a.name = bs []
  op : a.kind = 4 → arB a.name ≠ 0
  type : tyB a.kind = true → validB a.type = true
  noty : tyB a.kind = false → a.type = ty0
  lab : a.kind = 5 → labB a.labels = true
  nolab : a.kind ≠ 5 → a.labels = []
  num : 0 ≤ a.num ∧ a.num ≤ mostN a.kind
  len : (n : Int) = arN a.kind a.name a.labels.length
theorem bs_nil_of {s : ByteArray} (h : (s.toList == []) = true) : s = bs [] := by
  have h1 : s.toList = [] := by simpa using h
  rw [ByteArray.toList_eq] at h1
  rw [← bs_of s, h1]
theorem form_of {a : TeA} {n : Nat} (h : nodeE a n = true) : Form a n := by
  unfold nodeE fieldsB at h
  simp only [Bool.and_eq_true, decide_eq_true_eq] at h
  obtain ⟨⟨h1, h2, h3, h4⟩, h5⟩ := h
  refine ⟨fun e => ?_, fun e e4 => ?_, fun e => ?_, fun e => ?_, fun e => ?_, fun e => ?_, fun e => ?_, ?_, h5⟩
  · by_cases e4 : a.kind = 4
    · rw [e4] at e; exact absurd e (by decide)
    · rwa [nameOk_named e e4] at h1
  · rw [nameOk_un e e4, Bool.and_eq_true] at h1
    exact bs_nil_of h1.2
  · rw [e, nameOk_op] at h1
    intro e0
    rw [e0] at h1
    revert h1; decide
  · rwa [typeOk_yes e] at h2
  · rw [typeOk_no e] at h2
    simp only [Bool.and_eq_true, decide_eq_true_eq] at h2
    obtain ⟨_, k1, k2, k3⟩ := h2
    generalize a.type = T at k1 k2 k3 ⊢
    obtain ⟨⟨kd, ls⟩, ks⟩ := T
    have e1 : ls = [] := List.eq_nil_of_length_eq_zero k2
    have e2 : ks = [] := List.eq_nil_of_length_eq_zero k3
    have e3 : kd = 0 := k1
    rw [e1, e2, e3]
    rfl
  · unfold labOk at h3; rwa [if_pos e] at h3
  · unfold labOk at h3
    rw [if_neg e, decide_eq_true_eq] at h3
    exact List.eq_nil_of_length_eq_zero h3
  · unfold numOk at h4
    simpa using h4
theorem kinds_of {a : TeA} {n : Nat} (h : Form a n) : a.kind = 1 ∨ a.kind = 2 ∨ a.kind = 3 ∨ a.kind = 4 ∨ a.kind = 5 ∨ a.kind = 6 ∨ a.kind = 7 ∨ a.kind = 8 ∨ a.kind = 9 ∨ a.kind = 10 ∨ a.kind = 11 ∨ a.kind = 12 ∨ a.kind = 13 ∨ a.kind = 14 ∨ a.kind = 15 ∨ a.kind = 16 := by
  have h1 := h.len
  unfold arN at h1
  repeat' split at h1
  all_goals omega
theorem formE_kids {a : TeA} {ks : List Te} (h : (Tr.node a ks : Te).formE = true) : (∀ t ∈ ks, t.formE = true) ∧ Form a ks.length := by
  rw [formE_node, Bool.and_eq_true, List.all_eq_true] at h
  exact ⟨h.1, form_of h.2⟩
theorem num_zero {a : TeA} {n : Nat} (h : Form a n) (h2 : a.kind ≠ 2) (h3 : a.kind ≠ 3) : a.num = 0 := by
  have := h.num
  unfold mostN at this
  rw [if_neg h2, if_neg h3] at this
  omega
theorem node_N {a : TeA} {ks : List Te} (h : Form a ks.length) (p : Int) (e : a.kind = p) (ht : tyB p = false) (h5 : p ≠ 5) : (Tr.node a ks : Te) = teN p a.name.data.toList a.num ks := by
  subst e
  unfold teN
  rw [bs_of, ← h.noty ht, ← h.nolab h5]
theorem node_T {a : TeA} {ks : List Te} (h : Form a ks.length) (p : Int) (e : a.kind = p) (h2 : p ≠ 2) (h3 : p ≠ 3) (h5 : p ≠ 5) : (Tr.node a ks : Te) = teT p a.name.data.toList a.type ks := by
  subst e
  have := num_zero h h2 h3
  unfold teT
  rw [bs_of, ← this, ← h.nolab h5]
theorem name_ne {a : TeA} {n : Nat} (h : Form a n) (hn : nmB a.kind = false) (h4 : a.kind ≠ 4) : a.name.data.toList = [] := by rw [h.none hn h4]; rfl

/-! the text of each kind -/
theorem parts_zero (a : TeA) : partsY a [] = [] := rfl
theorem parts_one (a : TeA) (h5 : a.kind ≠ 5) (u : Te) : partsY a [u] = [u.ttx] := by simp [partsY, partY, h5]
theorem parts_two (a : TeA) (h5 : a.kind ≠ 5) (u v : Te) : partsY a [u, v] = [u.ttx, v.ttx] := by simp [partsY, partY, h5]
theorem parts_three (a : TeA) (h5 : a.kind ≠ 5) (u v x : Te) : partsY a [u, v, x] = [u.ttx, v.ttx, x.ttx] := by simp [partsY, partY, h5]
def recE : List ByteArray → List Te → List UInt8 → List UInt8
  | l :: ls, t :: ts, q => l.data.toList ++ 61 :: (t.ttx ++ (if ts = [] then 125 :: q else 44 :: recE ls ts q))
  | _, _, q => 125 :: q
theorem recE_tail : ∀ (ls : List ByteArray) (ts : List Te) (q : List UInt8), ls.length = ts.length → Lib.joinTail [44] (List.zipWith (fun l t => l.data.toList ++ 61 :: Tr.ttx t) ls ts) ++ 125 :: q = (if ts = [] then 125 :: q else 44 :: recE ls ts q)
  | [], [], q, _ => by simp [Lib.joinTail]
  | l :: ls, t :: ts, q, h => by
    have ih := recE_tail ls ts q (by simpa using h)
    rw [if_neg (by simp)]
    unfold recE
    rw [← ih]
    simp [Lib.joinTail]
  | [], _ :: _, _, h => by simp at h
  | _ :: _, [], _, h => by simp at h
theorem recE_join (ls : List ByteArray) (ts : List Te) (q : List UInt8) (h : ls.length = ts.length) (h1 : 1 ≤ ts.length) : Lib.join (List.zipWith (fun l t => l.data.toList ++ 61 :: Tr.ttx t) ls ts) [44] ++ 125 :: q = recE ls ts q := by
  match ls, ts, h, h1 with
  | [], [], _, h1 => simp at h1
  | [], _ :: _, h, _ => simp at h
  | _ :: _, [], h, _ => simp at h
  | l :: ls, t :: ts, h, _ =>
    unfold recE
    rw [List.zipWith_cons_cons, Lib.join_cons, ← recE_tail ls ts q (by simpa using h)]
    simp
theorem partsY_zip (a : TeA) (ks : List Te) (h3 : a.kind = 5) (h : a.labels.length = ks.length) : partsY a ks = List.zipWith (fun l t => l.data.toList ++ 61 :: Tr.ttx t) a.labels ks := by
  apply List.ext_getElem?
  intro i
  by_cases hi : i < ks.length
  · rw [partsY_at a ks i hi, List.getElem?_zipWith, List.getElem?_eq_getElem hi, List.getElem?_eq_getElem (by omega)]
    unfold partY
    rw [if_pos h3]
    simp [List.getD, show i < a.labels.length by omega]
  · rw [List.getElem?_eq_none (by rw [partsY_len]; omega), List.getElem?_eq_none (by rw [List.length_zipWith]; omega)]
theorem ttx_rec {a : TeA} {ks : List Te} (e : a.kind = 5) (q : List UInt8) (h : a.labels.length = ks.length) (h1 : 1 ≤ ks.length) : Tr.ttx (.node a ks) ++ q = 123 :: recE a.labels ks q := by
  rw [ttx_node, partsY_zip a ks e h, ← recE_join a.labels ks q h h1, e]
  simp [nodeY]

/-! fields taken of a term -/
theorem sqDots_fuel : ∀ (k : Nat) (t : Te) (r : List UInt8) (k' : Nat), r.length ≤ k → r.length ≤ k' → sqDots k t r = sqDots k' t r
  | 0, t, r, k', h, _ => by
    have e : r = [] := List.eq_nil_of_length_eq_zero (by omega)
    subst e
    cases k' with
    | zero => rfl
    | succ k' => rfl
  | k + 1, t, r, k', h, h' => by
    cases k' with
    | zero =>
      have e : r = [] := List.eq_nil_of_length_eq_zero (by omega)
      subst e
      rfl
    | succ k' =>
      unfold sqDots
      split
      · rename_i r1 h1
        have e1 := tk_len h1
        have e2 := word_len r1
        exact sqDots_fuel k _ _ k' (by omega) (by omega)
      · rfl
theorem sqDots_no (k : Nat) (t : Te) {c : UInt8} (q : List UInt8) (h : c ≠ 46) : sqDots k t (c :: q) = (t, c :: q) := by
  cases k with
  | zero => rfl
  | succ k =>
    unfold sqDots
    rw [tk_other _ h]
theorem sqDots_nil (k : Nat) (t : Te) : sqDots k t [] = (t, []) := by cases k <;> rfl
theorem sqDots_yes (t : Te) {nm q : List UInt8} (h : ∀ x ∈ nm, isW x = true) (hq : Tl q) : sqDots (46 :: (nm ++ q)).length t (46 :: (nm ++ q)) = sqDots q.length (teN 6 nm 0 [t]) q := by
  rw [List.length_cons]
  conv => lhs; unfold sqDots
  rw [tk_same]
  simp only
  rw [word_tl h hq]
  exact sqDots_fuel _ _ _ _ (by simp) (Nat.le_refl _)

/-! what a term's text begins with -/
structure HeadOk (r : List UInt8) : Prop where
  lam : tk 92 r = none
  for_ : tks [102, 111, 114, 32] r = none
  if_ : tks [105, 102, 32] r = none
  empty : tks [101, 109, 112, 116, 121, 32] r = none
  count : tks [99, 111, 117, 110, 116, 32] r = none
  not : tk 33 r = none
  colon : tk 58 r = none
  plus : tk 43 r = none
theorem head_byte {c : UInt8} (r : List UInt8) (h : c ≠ 92 ∧ c ≠ 102 ∧ c ≠ 105 ∧ c ≠ 101 ∧ c ≠ 99 ∧ c ≠ 33 ∧ c ≠ 58 ∧ c ≠ 43) : HeadOk (c :: r) :=
  ⟨tk_other _ h.1, tks_other _ _ h.2.1, tks_other _ _ h.2.2.1, tks_other _ _ h.2.2.2.1, tks_other _ _ h.2.2.2.2.1, tk_other _ h.2.2.2.2.2.1, tk_other _ h.2.2.2.2.2.2.1, tk_other _ h.2.2.2.2.2.2.2⟩
theorem word_begins {m l q : List UInt8} (hm : ∀ x ∈ m, isW x = true) (hl : ∀ x ∈ l, isW x = true) (hq : Tl q) {r' : List UInt8} (h : tks (m ++ [32]) (l ++ q) = some r') : l = m := by
  have e := tks_some h
  have e1 := word_tl hl hq
  rw [e, List.append_assoc, List.cons_append, List.nil_append, word_tl hm (tl_cons (by decide))] at e1
  exact (congrArg Prod.fst e1).symm
theorem name_facts {x : ByteArray} (h : nameB x = true) : (∀ u ∈ x.data.toList, isW u = true) ∧ x.data.toList.length ≤ 4 ∧ x.data.toList ≠ [105, 102] ∧ x.data.toList ≠ [102, 111, 114] ∧ ∃ c l, x.data.toList = c :: l ∧ 97 ≤ c.toNat ∧ c.toNat ≤ 122 := by
  have h0 := name_word h
  unfold nameB at h
  simp only [Bool.and_eq_true, List.all_eq_true, decide_eq_true_eq] at h
  obtain ⟨h1, h2, h3, h4, h5⟩ := h
  rw [ByteArray.toList_eq] at h4 h5
  refine ⟨h0, by rw [size_data]; exact h3, fun e => by rw [e] at h4; revert h4; decide, fun e => by rw [e] at h5; revert h5; decide, ?_⟩
  have h6 := h1 0 (List.mem_range.2 (by omega))
  rw [get_bang x 0 (by omega)] at h6
  cases hx : x.data.toList with
  | nil =>
    have := size_data x
    rw [hx, List.length_nil] at this
    omega
  | cons c l =>
    refine ⟨c, l, rfl, ?_⟩
    have e : x[0]'(by omega) = x.data.toList[0]'(by rw [size_data]; omega) := by simp [ByteArray.getElem_eq_getElem_data]
    rw [e] at h6
    simp only [hx, List.getElem_cons_zero] at h6
    unfold okN letN at h6
    simpa using h6
theorem head_name {x : ByteArray} (h : nameB x = true) {q : List UInt8} (hq : Tl q) : HeadOk (x.data.toList ++ q) := by
  obtain ⟨h1, h2, h3, h4, c, l, h5, h6, h7⟩ := name_facts h
  have hb : ∀ (m : List UInt8), (∀ u ∈ m, isW u = true) → x.data.toList ≠ m → tks (m ++ [32]) (x.data.toList ++ q) = none := fun m hm hne => by
    cases ht : tks (m ++ [32]) (x.data.toList ++ q) with
    | none => rfl
    | some r' => exact absurd (word_begins hm h1 hq ht) hne
  have hk : ∀ d : UInt8, d.toNat < 97 → tk d (x.data.toList ++ q) = none := fun d hd => by
    rw [h5, List.cons_append]
    exact tk_other _ (fun e => by subst e; omega)
  refine ⟨hk _ (by decide), hb [102, 111, 114] (by decide) h4, hb [105, 102] (by decide) h3, hb [101, 109, 112, 116, 121] (by decide) (fun e => by rw [e] at h2; simp at h2), hb [99, 111, 117, 110, 116] (by decide) (fun e => by rw [e] at h2; simp at h2), hk _ (by decide), hk _ (by decide), ?_⟩
  rw [h5, List.cons_append]
  exact tk_other _ (fun e => by subst e; revert h6; decide)
theorem dig_facts {n : Int} (h0 : 0 ≤ n) : ∃ c l, Lib.itoa n = c :: l ∧ (48 ≤ c.toNat ∧ c.toNat ≤ 57) ∧ ∀ u ∈ Lib.itoa n, isW u = true := by
  have e : Lib.itoa n = Lib.decDigits n.natAbs := by rw [itoa_signed, if_neg (by omega)]
  rw [e]
  have hd := dec_digs n.natAbs
  cases hx : Lib.decDigits n.natAbs with
  | nil => exact absurd hx (decDigits_ne _)
  | cons c l =>
    rw [hx] at hd
    refine ⟨c, l, rfl, hd c (by simp), fun u hu => ?_⟩
    have := hd u hu
    unfold isDig at this
    unfold isW
    simp [this]

theorem ttx_1 {a : TeA} (ks : List Te) (e : a.kind = 1) : Tr.ttx (.node a ks) = a.name.data.toList := by rw [ttx_node, e]; simp [nodeY]
theorem ttx_2 {a : TeA} (ks : List Te) (e : a.kind = 2) : Tr.ttx (.node a ks) = Lib.itoa a.num := by rw [ttx_node, e]; simp [nodeY]
theorem ttx_3 {a : TeA} (ks : List Te) (e : a.kind = 3) : Tr.ttx (.node a ks) = [35, if a.num = 1 then 116 else 102] := by rw [ttx_node, e]; simp [nodeY]
theorem ttx_4a {a : TeA} {u : Te} (e : a.kind = 4) : Tr.ttx (.node a [u]) = 40 :: 33 :: (u.ttx ++ [41]) := by rw [ttx_node, parts_one a (by omega), e]; simp [nodeY]
theorem ttx_4b {a : TeA} {u v : Te} (e : a.kind = 4) : Tr.ttx (.node a [u, v]) = 40 :: (u.ttx ++ (a.name.data.toList ++ (v.ttx ++ [41]))) := by rw [ttx_node, parts_two a (by omega), e]; simp [nodeY]
theorem ttx_6 {a : TeA} {u : Te} (e : a.kind = 6) : Tr.ttx (.node a [u]) = u.ttx ++ 46 :: a.name.data.toList := by rw [ttx_node, parts_one a (by omega), e]; simp [nodeY]
theorem ttx_7 {a : TeA} (ks : List Te) (e : a.kind = 7) : Tr.ttx (.node a ks) = 91 :: 58 :: (a.type.txt ++ [93]) := by rw [ttx_node, e]; simp [nodeY]
theorem ttx_8 {a : TeA} {u : Te} (e : a.kind = 8) : Tr.ttx (.node a [u]) = 91 :: (u.ttx ++ [93]) := by rw [ttx_node, parts_one a (by omega), e]; simp [nodeY]
theorem ttx_9 {a : TeA} {u v : Te} (e : a.kind = 9) : Tr.ttx (.node a [u, v]) = 40 :: (u.ttx ++ 43 :: 43 :: (v.ttx ++ [41])) := by rw [ttx_node, parts_two a (by omega), e]; simp [nodeY]
theorem ttx_10 {a : TeA} {u v : Te} (e : a.kind = 10) : Tr.ttx (.node a [u, v]) = 40 :: 102 :: 111 :: 114 :: 32 :: (a.name.data.toList ++ 60 :: 45 :: (u.ttx ++ 32 :: (v.ttx ++ [41]))) := by rw [ttx_node, parts_two a (by omega), e]; simp [nodeY]
theorem ttx_11 {a : TeA} {u v x : Te} (e : a.kind = 11) : Tr.ttx (.node a [u, v, x]) = 40 :: 105 :: 102 :: 32 :: (u.ttx ++ 32 :: (v.ttx ++ 32 :: (x.ttx ++ [41]))) := by rw [ttx_node, parts_three a (by omega), e]; simp [nodeY, Lib.join_cons, Lib.joinTail]
theorem ttx_12 {a : TeA} (ks : List Te) (e : a.kind = 12) : Tr.ttx (.node a ks) = 64 :: a.name.data.toList := by rw [ttx_node, e]; simp [nodeY]
theorem ttx_13 {a : TeA} {u : Te} (e : a.kind = 13) : Tr.ttx (.node a [u]) = 40 :: 92 :: (a.name.data.toList ++ 58 :: (a.type.txt ++ 46 :: (u.ttx ++ [41]))) := by rw [ttx_node, parts_one a (by omega), e]; simp [nodeY]
theorem ttx_14 {a : TeA} {u v : Te} (e : a.kind = 14) : Tr.ttx (.node a [u, v]) = 40 :: (u.ttx ++ 32 :: (v.ttx ++ [41])) := by rw [ttx_node, parts_two a (by omega), e]; simp [nodeY, Lib.join_cons, Lib.joinTail]
theorem ttx_15 {a : TeA} {u : Te} (e : a.kind = 15) : Tr.ttx (.node a [u]) = 40 :: 101 :: 109 :: 112 :: 116 :: 121 :: 32 :: (u.ttx ++ [41]) := by rw [ttx_node, parts_one a (by omega), e]; simp [nodeY]
theorem ttx_16 {a : TeA} {u : Te} (e : a.kind = 16) : Tr.ttx (.node a [u]) = 40 :: 99 :: 111 :: 117 :: 110 :: 116 :: 32 :: (u.ttx ++ [41]) := by rw [ttx_node, parts_one a (by omega), e]; simp [nodeY]

theorem len_none {β : Type} {xs : List β} (h : xs.length = 0) : xs = [] := List.eq_nil_of_length_eq_zero h
theorem len_three {β : Type} {xs : List β} (h : xs.length = 3) : ∃ x y z, xs = [x, y, z] := by
  match xs, h with
  | [x, y, z], _ => exact ⟨x, y, z, rfl⟩
/-- how many parts a node of each kind has -/
theorem len_0 {a : TeA} {ks : List Te} (h : Form a ks.length) (e : a.kind = 1 ∨ a.kind = 2 ∨ a.kind = 3 ∨ a.kind = 7 ∨ a.kind = 12) : ks = [] := by
  have h1 := h.len
  unfold arN at h1
  rw [if_pos e] at h1
  exact len_none (by omega)
theorem len_1 {a : TeA} {ks : List Te} (h : Form a ks.length) (e : a.kind = 6 ∨ a.kind = 8 ∨ a.kind = 13 ∨ a.kind = 15 ∨ a.kind = 16) : ∃ u, ks = [u] := by
  have h1 := h.len
  unfold arN at h1
  rw [if_neg (by omega), if_neg (by omega), if_neg (by omega), if_pos e] at h1
  exact List.length_eq_one_iff.1 (by omega)
theorem len_2 {a : TeA} {ks : List Te} (h : Form a ks.length) (e : a.kind = 9 ∨ a.kind = 10 ∨ a.kind = 14) : ∃ u v, ks = [u, v] := by
  have h1 := h.len
  unfold arN at h1
  rw [if_neg (by omega), if_neg (by omega), if_neg (by omega), if_neg (by omega), if_pos e] at h1
  exact len_two (by omega)
theorem len_3 {a : TeA} {ks : List Te} (h : Form a ks.length) (e : a.kind = 11) : ∃ u v x, ks = [u, v, x] := by
  have h1 := h.len
  unfold arN at h1
  rw [if_neg (by omega), if_neg (by omega), if_neg (by omega), if_neg (by omega), if_neg (by omega), if_pos e] at h1
  exact len_three (by omega)
theorem op_cases {a : TeA} {ks : List Te} (h : Form a ks.length) (e : a.kind = 4) : (a.name.data.toList = [33] ∧ ∃ u, ks = [u]) ∨ (∃ c, a.name.data.toList = [c] ∧ arB ⟨#[c]⟩ = 2 ∧ (c = 43 ∨ c = 45 ∨ c = 61 ∨ c = 60 ∨ c = 38 ∨ c = 124) ∧ ∃ u v, ks = [u, v]) := by
  have h1 := h.len
  have h2 := h.op e
  unfold arN at h1
  rw [if_neg (by omega), if_pos e] at h1
  have two : ∀ c : UInt8, (c = 43 ∨ c = 45 ∨ c = 61 ∨ c = 60 ∨ c = 38 ∨ c = 124) → (ByteArray.mk #[c]).toList = [c] → (a.name.toList == [c]) = true → arB a.name = 2 → (∃ c, a.name.data.toList = [c] ∧ arB ⟨#[c]⟩ = 2 ∧ (c = 43 ∨ c = 45 ∨ c = 61 ∨ c = 60 ∨ c = 38 ∨ c = 124) ∧ ∃ u v, ks = [u, v]) := fun c hc hl he ha => by
    have he : a.name.toList = [c] := by simpa using he
    refine ⟨c, by rw [← ByteArray.toList_eq]; exact he, ?_, hc, len_two (by omega)⟩
    rw [← ha]
    unfold arB
    rw [hl, he]
  have one : ∀ c : UInt8, (ByteArray.mk #[c]).toList = [c] := fun c => by rw [ByteArray.toList_eq]
  cases e0 : (a.name.toList == [43]) with
  | true => exact .inr (two 43 (by decide) (one _) e0 (by unfold arB; simp only [e0, if_true]))
  | false =>
  cases e1 : (a.name.toList == [45]) with
  | true => exact .inr (two 45 (by decide) (one _) e1 (by unfold arB; simp only [e0, e1, if_true, Bool.false_eq_true, if_false]))
  | false =>
  cases e2 : (a.name.toList == [61]) with
  | true => exact .inr (two 61 (by decide) (one _) e2 (by unfold arB; simp only [e0, e1, e2, if_true, Bool.false_eq_true, if_false]))
  | false =>
  cases e3 : (a.name.toList == [60]) with
  | true => exact .inr (two 60 (by decide) (one _) e3 (by unfold arB; simp only [e0, e1, e2, e3, if_true, Bool.false_eq_true, if_false]))
  | false =>
  cases e4 : (a.name.toList == [38]) with
  | true => exact .inr (two 38 (by decide) (one _) e4 (by unfold arB; simp only [e0, e1, e2, e3, e4, if_true, Bool.false_eq_true, if_false]))
  | false =>
  cases e5 : (a.name.toList == [124]) with
  | true => exact .inr (two 124 (by decide) (one _) e5 (by unfold arB; simp only [e0, e1, e2, e3, e4, e5, if_true, Bool.false_eq_true, if_false]))
  | false =>
  cases e6 : (a.name.toList == [33]) with
  | true =>
    have he : a.name.toList = [33] := by simpa using e6
    have ha : arB a.name = 1 := by unfold arB; simp only [e0, e1, e2, e3, e4, e5, e6, if_true, Bool.false_eq_true, if_false]
    exact .inl ⟨by rw [← ByteArray.toList_eq]; exact he, List.length_eq_one_iff.1 (by omega)⟩
  | false => exact absurd (by unfold arB; simp only [e0, e1, e2, e3, e4, e5, e6, Bool.false_eq_true, if_false]) h2
theorem head_ok : ∀ (t : Te), t.formE = true → ∀ (q : List UInt8), Tl q → HeadOk (t.ttx ++ q) := by
  refine Tr.ind ?_
  intro a ks ih hf q hq
  obtain ⟨hk, h⟩ := formE_kids hf
  rcases kinds_of h with e | e | e | e | e | e | e | e | e | e | e | e | e | e | e | e
  · rw [ttx_1 ks e]
    exact head_name (h.name (by rw [e]; decide)) hq
  · rw [ttx_2 ks e]
    obtain ⟨c, l, h1, h2, _⟩ := dig_facts h.num.1
    rw [h1, List.cons_append]
    have hc : ∀ d : UInt8, 57 < d.toNat ∨ d.toNat < 48 → c ≠ d := fun d hd e => by subst e; omega
    exact head_byte _ ⟨hc _ (by decide), hc _ (by decide), hc _ (by decide), hc _ (by decide), hc _ (by decide), hc _ (by decide), hc _ (by decide), hc _ (by decide)⟩
  · rw [ttx_3 ks e, List.cons_append]
    exact head_byte _ (by decide)
  · rcases op_cases h e with ⟨_, u, rfl⟩ | ⟨c, _, _, _, u, v, rfl⟩
    · rw [ttx_4a e, List.cons_append]
      exact head_byte _ (by decide)
    · rw [ttx_4b e, List.cons_append]
      exact head_byte _ (by decide)
  · have h1 := labB_one (h.lab e)
    have h2 := h.len
    unfold arN at h2
    rw [if_neg (by omega), if_neg (by omega), if_pos e] at h2
    rw [ttx_rec e q (by omega) (by omega)]
    exact head_byte _ (by decide)
  · obtain ⟨u, rfl⟩ := len_1 h (by omega)
    rw [ttx_6 e, List.append_assoc]
    exact ih u (by simp) (hk u (by simp)) _ (tl_cons (by decide))
  · rw [ttx_7 ks e, List.cons_append]
    exact head_byte _ (by decide)
  · obtain ⟨u, rfl⟩ := len_1 h (by omega)
    rw [ttx_8 e, List.cons_append]
    exact head_byte _ (by decide)
  · obtain ⟨u, v, rfl⟩ := len_2 h (by omega)
    rw [ttx_9 e, List.cons_append]
    exact head_byte _ (by decide)
  · obtain ⟨u, v, rfl⟩ := len_2 h (by omega)
    rw [ttx_10 e, List.cons_append]
    exact head_byte _ (by decide)
  · obtain ⟨u, v, x, rfl⟩ := len_3 h e
    rw [ttx_11 e, List.cons_append]
    exact head_byte _ (by decide)
  · rw [ttx_12 ks e, List.cons_append]
    exact head_byte _ (by decide)
  · obtain ⟨u, rfl⟩ := len_1 h (by omega)
    rw [ttx_13 e, List.cons_append]
    exact head_byte _ (by decide)
  · obtain ⟨u, v, rfl⟩ := len_2 h (by omega)
    rw [ttx_14 e, List.cons_append]
    exact head_byte _ (by decide)
  · obtain ⟨u, rfl⟩ := len_1 h (by omega)
    rw [ttx_15 e, List.cons_append]
    exact head_byte _ (by decide)
  · obtain ⟨u, rfl⟩ := len_1 h (by omega)
    rw [ttx_16 e, List.cons_append]
    exact head_byte _ (by decide)
end Go.Proofs.YtkchjinfjggoeaaGreatDoor
