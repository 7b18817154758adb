/-
  Merged by program: CmpD.
-/
import Derived.Test.YtlcpekpgkllbkaaT26
import Derived.Test.YtlcpekpgkllbkaaT7

/-
  The order of values: kinds, numbers, how many parts, labels, then the parts. It is an order, and none but equal values compare as equal. Plain lists and trees.
-/
namespace Go.Proofs.Ytlcpekpgkllbkaa

/-- the first answer that is not 0 -/
def orC (a b : Int) : Int := if a = 0 then b else a
def numC (a b : Int) : Int := if a < b then -1 else if b < a then 1 else 0
def ltB (x y : ByteArray) : Bool := Op.bytesLess x.toList y.toList
def strC (x y : ByteArray) : Int := if ltB x y = true then -1 else if ltB y x = true then 1 else 0
section
variable {α β : Type}
def lexC (c : α → α → Int) : List α → List α → Int
  | [], [] => 0
  | [], _ :: _ => -1
  | _ :: _, [] => 1
  | x :: xs, y :: ys => orC (c x y) (lexC c xs ys)
def pairC (c : α → α → Int) (d : β → β → Int) (p q : α × β) : Int := orC (c p.1 q.1) (d p.2 q.2)
structure Ord (c : α → α → Int) : Prop where
  zero : ∀ x y, c x y = 0 ↔ x = y
  neg : ∀ x y, c y x = - c x y
  trans : ∀ x y z, c x y < 0 → c y z < 0 → c x z < 0
theorem orC_zero (a b : Int) : orC a b = 0 ↔ a = 0 ∧ b = 0 := by unfold orC; split <;> simp_all
theorem orC_neg (a b : Int) : orC (-a) (-b) = - orC a b := by
  unfold orC
  by_cases h : a = 0
  · simp [h]
  · simp [h]
theorem orC_lt (a b : Int) : orC a b < 0 ↔ a < 0 ∨ (a = 0 ∧ b < 0) := by unfold orC; split <;> omega
theorem Ord.pair {c : α → α → Int} {d : β → β → Int} (hc : Ord c) (hd : Ord d) : Ord (pairC c d) where
  zero x y := by
    unfold pairC
    rw [orC_zero, hc.zero, hd.zero]
    exact ⟨fun h => Prod.ext h.1 h.2, fun h => by subst h; exact ⟨rfl, rfl⟩⟩
  neg x y := by
    unfold pairC
    rw [hc.neg x.1 y.1, hd.neg x.2 y.2, orC_neg]
  trans x y z h1 h2 := by
    unfold pairC at *
    rw [orC_lt] at *
    rcases h1 with h1 | ⟨h1, h1'⟩
    · rcases h2 with h2 | ⟨h2, h2'⟩
      · exact .inl (hc.trans _ _ _ h1 h2)
      · rw [← (hc.zero _ _).1 h2]; exact .inl h1
    · rw [(hc.zero _ _).1 h1]
      rcases h2 with h2 | ⟨h2, h2'⟩
      · exact .inl h2
      · exact .inr ⟨h2, hd.trans _ _ _ h1' h2'⟩
theorem Ord.numC : Ord numC where
  zero x y := by unfold Proofs.Ytlcpekpgkllbkaa.numC; split <;> (try split) <;> simp <;> omega
  neg x y := by unfold Proofs.Ytlcpekpgkllbkaa.numC; repeat' split
                all_goals omega
  trans x y z h1 h2 := by unfold Proofs.Ytlcpekpgkllbkaa.numC at *; repeat' split
                          all_goals (split at h1 <;> split at h2 <;> omega)
theorem ltB_iff (x y : ByteArray) : ltB x y = true ↔ Lt x y := lt_iff x y
theorem strC_cases (x y : ByteArray) : (Lt x y ∧ strC x y = -1) ∨ (Lt y x ∧ strC x y = 1) ∨ (x = y ∧ strC x y = 0) := by
  unfold strC
  by_cases h : ltB x y = true
  · exact .inl ⟨(ltB_iff x y).1 h, by rw [if_pos h]⟩
  · by_cases k : ltB y x = true
    · exact .inr (.inl ⟨(ltB_iff y x).1 k, by rw [if_neg h, if_pos k]⟩)
    · refine .inr (.inr ⟨Classical.byContradiction fun hne => k ((ltB_iff y x).2 (Lt.total (fun h' => h ((ltB_iff x y).2 h')) hne)), by rw [if_neg h, if_neg k]⟩)
theorem strC_lt (x y : ByteArray) : strC x y < 0 ↔ Lt x y := by
  rcases strC_cases x y with ⟨h, e⟩ | ⟨h, e⟩ | ⟨h, e⟩
  · rw [e]; exact ⟨fun _ => h, fun _ => by decide⟩
  · rw [e]; exact ⟨fun k => by omega, fun k => absurd k h.asymm⟩
  · rw [e]; subst h; exact ⟨fun k => by omega, fun k => absurd k (Lt.irrefl x)⟩
theorem Ord.strC : Ord strC where
  zero x y := by
    rcases strC_cases x y with ⟨h, e⟩ | ⟨h, e⟩ | ⟨h, e⟩
    · rw [e]; exact ⟨fun k => by omega, fun k => by subst k; exact absurd h (Lt.irrefl x)⟩
    · rw [e]; exact ⟨fun k => by omega, fun k => by subst k; exact absurd h (Lt.irrefl x)⟩
    · rw [e]; exact ⟨fun _ => h, fun _ => rfl⟩
  neg x y := by
    rcases strC_cases x y with ⟨h, e⟩ | ⟨h, e⟩ | ⟨h, e⟩ <;> rcases strC_cases y x with ⟨k, f⟩ | ⟨k, f⟩ | ⟨k, f⟩ <;> rw [e, f]
    all_goals first | rfl | exact absurd h k.asymm | (subst k; exact absurd h (Lt.irrefl _)) | (subst h; exact absurd k (Lt.irrefl _))
  trans x y z h1 h2 := by
    rw [strC_lt] at *
    exact h1.trans h2
theorem lexC_zero {c : α → α → Int} : ∀ xs ys : List α, (∀ x ∈ xs, ∀ y, c x y = 0 ↔ x = y) → (lexC c xs ys = 0 ↔ xs = ys)
  | [], [], _ => by simp [lexC]
  | [], _ :: _, _ => by simp [lexC]
  | _ :: _, [], _ => by simp [lexC]
  | x :: xs, y :: ys, h => by
    rw [lexC, orC_zero, h x (by simp), lexC_zero xs ys (fun z hz => h z (by simp [hz]))]
    simp
theorem lexC_neg {c : α → α → Int} : ∀ xs ys : List α, (∀ x ∈ xs, ∀ y, c y x = - c x y) → lexC c ys xs = - lexC c xs ys
  | [], [], _ => rfl
  | [], _ :: _, _ => rfl
  | _ :: _, [], _ => rfl
  | x :: xs, y :: ys, h => by
    rw [lexC, lexC, h x (by simp), lexC_neg xs ys (fun z hz => h z (by simp [hz])), orC_neg]
theorem lexC_trans {c : α → α → Int} (hz : ∀ x y, c x y = 0 ↔ x = y) : ∀ xs ys zs : List α, (∀ x ∈ xs, ∀ y z, c x y < 0 → c y z < 0 → c x z < 0) → lexC c xs ys < 0 → lexC c ys zs < 0 → lexC c xs zs < 0
  | [], [], zs, _, h1, h2 => h2
  | [], _ :: _, [], _, h1, h2 => by simp [lexC] at h2
  | [], _ :: _, _ :: _, _, h1, h2 => by simp [lexC]
  | _ :: _, [], _, _, h1, h2 => by simp [lexC] at h1
  | x :: xs, y :: ys, [], _, h1, h2 => by simp [lexC] at h2
  | x :: xs, y :: ys, z :: zs, h, h1, h2 => by
    rw [lexC, orC_lt] at *
    rcases h1 with h1 | ⟨h1, h1'⟩
    · rcases h2 with h2 | ⟨h2, h2'⟩
      · exact .inl (h x (by simp) _ _ h1 h2)
      · rw [← (hz _ _).1 h2]; exact .inl h1
    · rw [(hz _ _).1 h1]
      rcases h2 with h2 | ⟨h2, h2'⟩
      · exact .inl h2
      · exact .inr ⟨h2, lexC_trans hz xs ys zs (fun w hw => h w (by simp [hw])) h1' h2'⟩
theorem Ord.list {c : α → α → Int} (h : Ord c) : Ord (lexC c) where
  zero x y := lexC_zero x y fun x _ y => h.zero x y
  neg x y := lexC_neg x y fun x _ y => h.neg x y
  trans x y z := lexC_trans h.zero x y z fun x _ y z => h.trans x y z
end

def keyV (a : VaA) (n : Nat) : Int × Int × Int × List ByteArray := (a.kind, a.num, n, a.labels)
def nodeC (a : VaA) (m : Nat) (b : VaA) (n : Nat) : Int := pairC numC (pairC numC (pairC numC (lexC strC))) (keyV a m) (keyV b n)
theorem ordKey : Ord (pairC numC (pairC numC (pairC numC (lexC strC)))) := Ord.numC.pair (Ord.numC.pair (Ord.numC.pair Ord.strC.list))
theorem keyV_inj {a b : VaA} {m n : Nat} (h : keyV a m = keyV b n) : a = b ∧ m = n := by
  unfold keyV at h
  simp only [Prod.mk.injEq] at h
  obtain ⟨h1, h2, h3, h4⟩ := h
  cases a; cases b
  simp_all
  omega
mutual
def cmpV : Va → Va → Int
  | .node a ks, .node b ls => orC (nodeC a ks.length b ls.length) (cmpVs ks ls)
def cmpVs : List Va → List Va → Int
  | [], [] => 0
  | [], _ :: _ => -1
  | _ :: _, [] => 1
  | k :: ks, l :: ls => orC (cmpV k l) (cmpVs ks ls)
end
theorem cmpVs_eq : ∀ ks ls : List Va, cmpVs ks ls = lexC cmpV ks ls
  | [], [] => by simp [cmpVs, lexC]
  | [], _ :: _ => by simp [cmpVs, lexC]
  | _ :: _, [] => by simp [cmpVs, lexC]
  | k :: ks, l :: ls => by rw [cmpVs, lexC, cmpVs_eq ks ls]
theorem cmpV_node (a b : VaA) (ks ls : List Va) : cmpV (.node a ks) (.node b ls) = orC (nodeC a ks.length b ls.length) (lexC cmpV ks ls) := by
  rw [cmpV, cmpVs_eq]
theorem cmpV_zero : ∀ x y : Va, cmpV x y = 0 ↔ x = y := by
  refine Tr.ind ?_
  intro a ks ih y
  cases y with
  | node b ls =>
    rw [cmpV_node, orC_zero, lexC_zero ks ls ih]
    unfold nodeC
    rw [ordKey.zero]
    constructor
    · rintro ⟨h1, rfl⟩
      rw [(keyV_inj h1).1]
    · intro h
      injection h with h1 h2
      subst h1 h2
      exact ⟨rfl, rfl⟩
theorem cmpV_neg : ∀ x y : Va, cmpV y x = - cmpV x y := by
  refine Tr.ind ?_
  intro a ks ih y
  cases y with
  | node b ls =>
    rw [cmpV_node, cmpV_node, lexC_neg ks ls ih]
    unfold nodeC
    rw [ordKey.neg (keyV a ks.length) (keyV b ls.length), orC_neg]
theorem cmpV_trans : ∀ x y z : Va, cmpV x y < 0 → cmpV y z < 0 → cmpV x z < 0 := by
  refine Tr.ind ?_
  intro a ks ih y z h1 h2
  cases y with
  | node b ls =>
    cases z with
    | node c ms =>
      rw [cmpV_node, orC_lt] at *
      unfold nodeC at *
      rcases h1 with h1 | ⟨h1, h1'⟩
      · rcases h2 with h2 | ⟨h2, h2'⟩
        · exact .inl (ordKey.trans _ _ _ h1 h2)
        · rw [← (ordKey.zero _ _).1 h2]; exact .inl h1
      · rw [(ordKey.zero _ _).1 h1]
        rcases h2 with h2 | ⟨h2, h2'⟩
        · exact .inl h2
        · exact .inr ⟨h2, lexC_trans cmpV_zero ks ls ms ih h1' h2'⟩
theorem ordV : Ord cmpV := ⟨cmpV_zero, cmpV_neg, cmpV_trans⟩
/-- an answer is -1, 0 or 1 -/
def Sgn (n : Int) : Prop := n = -1 ∨ n = 0 ∨ n = 1
theorem Sgn.or {a b : Int} (ha : Sgn a) (hb : Sgn b) : Sgn (orC a b) := by unfold orC; split <;> assumption
theorem numC_sgn (a b : Int) : Sgn (numC a b) := by unfold numC Sgn; repeat' split
                                                    all_goals omega
theorem strC_sgn (a b : ByteArray) : Sgn (strC a b) := by unfold strC Sgn; repeat' split
                                                          all_goals omega
theorem lexC_sgn {α : Type} {c : α → α → Int} : ∀ xs ys : List α, (∀ x ∈ xs, ∀ y, Sgn (c x y)) → Sgn (lexC c xs ys)
  | [], [], _ => .inr (.inl rfl)
  | [], _ :: _, _ => .inl rfl
  | _ :: _, [], _ => .inr (.inr rfl)
  | x :: xs, y :: ys, h => (h x (by simp) y).or (lexC_sgn xs ys fun z hz => h z (by simp [hz]))
theorem nodeC_sgn (a : VaA) (m : Nat) (b : VaA) (n : Nat) : Sgn (nodeC a m b n) :=
  (numC_sgn _ _).or ((numC_sgn _ _).or ((numC_sgn _ _).or (lexC_sgn _ _ fun _ _ _ => strC_sgn _ _)))
theorem cmpV_sgn : ∀ x y : Va, Sgn (cmpV x y) := by
  refine Tr.ind ?_
  intro a ks ih y
  cases y with
  | node b ls =>
    rw [cmpV_node]
    exact (nodeC_sgn _ _ _ _).or (lexC_sgn ks ls ih)
theorem cmpV_self (x : Va) : cmpV x x = 0 := (cmpV_zero x x).2 rfl
end Go.Proofs.Ytlcpekpgkllbkaa
