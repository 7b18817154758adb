/-
  Merged by program: TeMark.
-/
import Derived.Test.YthcfgpjldhiinaaT39
import Derived.Test.YthcfgpjldhiinaaT11

/-
  The walks of the laws' markTermS, markTerm.
-/
namespace Go.Proofs.Ythcfgpjldhiinaa
open Go.RowKit

/-- the first i of the row are marked -/
def EInv (ks : List Te) (w : World) (A : Option Addr) (d : Nat) (fs : Nat → List Nat) (k0 : Int) (kv iv : Value) (wr : World) : Prop :=
  ∃ (i : Nat) (ks' : List Te) (xs : List Value), i ≤ ks.length ∧ iv = .int .i64 i ∧ kv = .int .i64 (k0 + cntEK (ks.take i)) ∧ ks'.length = i ∧ HeldEK k0 ks' (k0 + cntEK (ks.take i)) ∧ wr.ownsRow 0 38 8 (.slice A ks.length d) ks.length xs ∧
    (∀ j t, ks'[j]? = some t → OTe wr t (part8 xs j) (fs j)) ∧ (∀ j t, i ≤ j → ks[j]? = some t → OTe wr t (part8 xs j) (fs j)) ∧ Only (blk A ++ (List.range ks.length).flatMap fs) w wr
def set4 (xs : List Value) (i : Nat) (u0 u1 u2 u3 : Value) : List Value := (((xs.set (i * 8) u0).set (i * 8 + 1) u1).set (i * 8 + 2) u2).set (i * 8 + 3) u3
theorem set4_other (xs : List Value) (i j : Nat) (u0 u1 u2 u3 : Value) (h : j ≠ i) : part8 (set4 xs i u0 u1 u2 u3) j = part8 xs j := by
  refine part8_ext fun m hm => ?_
  unfold set4
  rw [List.getElem?_set_ne (by omega), List.getElem?_set_ne (by omega), List.getElem?_set_ne (by omega), List.getElem?_set_ne (by omega)]
theorem set4_at (xs : List Value) (i : Nat) (u0 u1 u2 u3 : Value) (h : i * 8 + 8 ≤ xs.length) : part8 (set4 xs i u0 u1 u2 u3) i = u0 :: u1 :: u2 :: u3 :: (part8 xs i).drop 4 := by
  have hl : (set4 xs i u0 u1 u2 u3).length = xs.length := by simp [set4]
  apply List.ext_getElem?
  intro m
  by_cases hm : m < 8
  · rw [part8_get _ _ _ hm]
    unfold set4
    match m, hm with
    | 0, _ =>
      have h0 : i * 8 < xs.length := by omega
      simp [h0]
    | 1, _ =>
      have h0 : i * 8 + 1 < xs.length := by omega
      simp [h0]
    | 2, _ =>
      have h0 : i * 8 + 2 < xs.length := by omega
      simp [h0]
    | 3, _ =>
      have h0 : i * 8 + 3 < xs.length := by omega
      simp [h0]
    | m + 4, hm =>
      rw [List.getElem?_set_ne (by omega), List.getElem?_set_ne (by omega), List.getElem?_set_ne (by omega), List.getElem?_set_ne (by omega), List.getElem?_cons_succ, List.getElem?_cons_succ, List.getElem?_cons_succ, List.getElem?_cons_succ, List.getElem?_drop, part8_get _ _ _ (by omega)]
      congr 1
      omega
  · rw [List.getElem?_eq_none (by rw [part8_len _ _ (by rw [hl]; exact h)]; omega), List.getElem?_eq_none (by simp [part8_len _ _ h]; omega)]
/-- one more node of the row is marked -/
theorem einv_more {ks : List Te} {w wr w1 w2 : World} {A : Option Addr} {g d : Nat} {fs : Nat → List Nat} {k0 : Int} {i : Nat} {ks' : List Te} {xs : List Value} {t' : Te} {u0 u1 u2 u3 kv iv : Value} (hA : A = some ⟨g, 0, none⟩) (hnd : (blk A ++ (List.range ks.length).flatMap fs).Nodup) (hi : i < ks.length)
    (hlen : ks'.length = i) (hdone : ∀ j t, ks'[j]? = some t → OTe wr t (part8 xs j) (fs j)) (hrest : ∀ j t, i ≤ j → ks[j]? = some t → OTe wr t (part8 xs j) (fs j)) (honly : Only (blk A ++ (List.range ks.length).flatMap fs) w wr)
    (hst : w1.ownsRow 0 38 8 (.slice A ks.length d) ks.length (set4 xs i u0 u1 u2 u3)) (ho1 : Only [g] wr w1) (ho2 : Only (fs i) w1 w2) (hnew : OTe w2 t' (part8 (set4 xs i u0 u1 u2 u3) i) (fs i)) (hheld : HeldEK k0 (ks' ++ [t']) (k0 + cntEK (ks.take (i + 1))))
    (hkv : kv = .int .i64 (k0 + cntEK (ks.take (i + 1)))) (hiv : iv = .int .i64 ((i + 1 : Nat) : Int)) : EInv ks w A d fs k0 kv iv w2 := by
  have hgA : g ∈ blk A := by rw [hA]; simp [blk]
  obtain ⟨hndA, hndF, hdis⟩ := List.nodup_append.1 hnd
  have hfi : ∀ x ∈ fs i, x ∈ (List.range ks.length).flatMap fs := fun x hx => flat_mem hi hx
  have hgf : ∀ j, j < ks.length → g ∉ fs j := fun j hj hm => hdis g hgA g (flat_mem hj hm) rfl
  have hoth : ∀ j, j < ks.length → j ≠ i → ∀ t, OTe wr t (part8 xs j) (fs j) → OTe w2 t (part8 (set4 xs i u0 u1 u2 u3) j) (fs j) := by
    intro j hj hne t ht
    rw [set4_other xs i j _ _ _ _ hne]
    refine (ht.only ho1 (fun b hb hm => ?_)).only ho2 (fun b hb hm => flat_apart hndF hj hi hne hb hm)
    have e : b = g := by simpa using hm
    subst e
    exact hgf j hj hb
  refine ⟨i + 1, ks' ++ [t'], set4 xs i u0 u1 u2 u3, hi, hiv, hkv, by simp [hlen], hheld, ?_, ?_, ?_, ?_⟩
  · exact own_only hst ho2 (fun b hb hm => hdis b hb b (hfi b hm) rfl)
  · intro j t hj
    rcases Nat.lt_or_ge j i with h | h
    · rw [List.getElem?_append_left (by omega)] at hj
      exact hoth j (by omega) (by omega) t (hdone j t hj)
    · have hji : j = i := by
        have := (List.getElem?_eq_some_iff.1 hj).1
        simp [hlen] at this
        omega
      subst hji
      rw [List.getElem?_append_right (by omega), hlen, Nat.sub_self] at hj
      have e : t' = t := by simpa using hj
      subst e
      exact hnew
  · intro j t hj ht
    exact hoth j ((List.getElem?_eq_some_iff.1 ht).1) (by omega) t (hrest j t (by omega) ht)
  · refine (honly.trans (ho1.more (fun x hx => ?_))).trans (ho2.more (fun x hx => List.mem_append.2 (.inr (hfi x hx))))
    have e : x = g := by simpa using hx
    subst e
    simp [hgA]
theorem top_node {α : Type} (a : α) (ks : List (Tr α)) : (Tr.node a ks).top = a := rfl
theorem kids_node {α : Type} (a : α) (ks : List (Tr α)) : (Tr.node a ks).kids = ks := rfl
/-- the calls that mark one node of the row, with the cells that lie between them -/
theorem row_marks {ks : List Te} {w wr w1 : World} {g d : Nat} {fs : Nat → List Nat} {k0 K : Int} {i n m T S : Nat} {ks' : List Te} {xs : List Value} {a : TeA} {cs : List Te} {TL TA L B : Option Addr} {tc td c d' : Nat} (hnd : (blk (some (⟨g, 0, none⟩ : Addr)) ++ (List.range ks.length).flatMap fs).Nodup) (hi : i < ks.length)
    (hk : ks[i] = .node a cs) (hKids : MarkEKids cs) (hk0 : 0 < k0) (hkb : k0 + cntEK ks ≤ 1000000000000) (hlen : ks'.length = i) (hheld : HeldEK k0 ks' (k0 + cntEK (ks.take i))) (hrow : wr.ownsRow 0 38 8 (.slice (some ⟨g, 0, none⟩) ks.length d) ks.length xs)
    (hdone : ∀ j t, ks'[j]? = some t → OTe wr t (part8 xs j) (fs j)) (hrest : ∀ j t, i ≤ j → ks[j]? = some t → OTe wr t (part8 xs j) (fs j)) (honly : Only (blk (some (⟨g, 0, none⟩ : Addr)) ++ (List.range ks.length).flatMap fs) w wr) (hKe : k0 + cntEK (ks.take i) = K)
    (hst : w1.ownsRow 0 38 8 (.slice (some ⟨g, 0, none⟩) ks.length d) ks.length (set4 xs i (.int .i64 K) (.string (markB (K + 1))) (.int .i64 (K + 2)) (.int .i64 (K + 3)))) (ho1 : Only [g] wr w1) (hn : a.type.top.labels.length = n) (hm : a.labels.length = m) (hT : cntK a.type.kids = T) (hS : cntEK cs = S)
    (hpart : part8 xs i = [.int .i64 a.kind, .string a.name, .int .i64 a.num, .int .i64 a.type.top.kind, .slice TL n tc, .slice TA a.type.kids.length td, .slice L m c, .slice B cs.length d']) :
    Calls Try.prog 23 #[.slice TL n tc, .int .i64 (K + 4)] w1 fun e w2 => e = .returned (.int .i64 (K + 4 + n)) ∧ w2.cell? ⟨g, i * 8 + 5, none⟩ = some (.slice TA a.type.kids.length td) ∧
    Calls Try.prog 56 #[.slice TA a.type.kids.length td, .int .i64 (K + 4 + n)] w2 fun e w3 => e = .returned (.int .i64 (K + 4 + n + T)) ∧ w3.cell? ⟨g, i * 8 + 6, none⟩ = some (.slice L m c) ∧
    Calls Try.prog 23 #[.slice L m c, .int .i64 (K + 4 + n + T)] w3 fun e w4 => e = .returned (.int .i64 (K + 4 + n + T + m)) ∧ w4.cell? ⟨g, i * 8 + 7, none⟩ = some (.slice B cs.length d') ∧
    Calls Try.prog 45 #[.slice B cs.length d', .int .i64 (K + 4 + n + T + m)] w4 fun e w5 => e = .returned (.int .i64 (K + 4 + n + T + m + S)) ∧ ∀ kv iv, kv = Value.int .i64 (K + 4 + n + T + m + S) → iv = Value.int .i64 ((i + 1 : Nat) : Int) → EInv ks w (some ⟨g, 0, none⟩) d fs k0 kv iv w5 := by
  have hxl : xs.length = ks.length * 8 := hrow.1
  have hct := cntEK_take ks i hi
  have hcle := cntEK_take_le ks (i + 1)
  have htc : a.type.cnt = 1 + n + T := by
    obtain ⟨kind, name, num, ⟨ta, tks⟩, labels⟩ := a
    have := cnt_node ta tks
    rw [← hn, ← hT]
    exact this
  rw [hk, cntE_node, htc, hm, hS] at hct
  have hgA : g ∈ blk (some (⟨g, 0, none⟩ : Addr)) := by simp [blk]
  obtain ⟨_, hndF, hdis⟩ := List.nodup_append.1 hnd
  have hgf : g ∉ fs i := fun hm => hdis g hgA g (flat_mem hi hm) rfl
  have hold := hrest i (.node a cs) (Nat.le_refl _) (by rw [List.getElem?_eq_getElem hi, hk])
  have h1 := (hold.only ho1 (fun b hb hm => by
    have e : b = g := by simpa using hm
    subst e
    exact hgf hb)).stamp K (K + 2) (K + 3) (markB (K + 1)) ⟨by omega, by omega⟩ ⟨by omega, by omega⟩ ⟨by omega, by omega⟩ (markB_size _ (by omega) (by omega))
  have hset := set4_at xs i (.int .i64 K) (.string (markB (K + 1))) (.int .i64 (K + 2)) (.int .i64 (K + 3)) (by omega)
  have hcell : ∀ (W : World) (j : Nat), Only (fs i) w1 W → 4 ≤ j → j < 8 → W.cell? ⟨g, i * 8 + j, none⟩ = (part8 xs i)[j]? := by
    intro W j ho h4 h8
    have hr := own_only hst ho (fun b hb hm => by
      have e : b = g := by simpa [blk] using hb
      subst e
      exact hgf hm)
    rw [hr.cellAt _ (by omega), part8_get _ _ _ h8]
    unfold set4
    rw [List.getElem?_set_ne (by omega), List.getElem?_set_ne (by omega), List.getElem?_set_ne (by omega), List.getElem?_set_ne (by omega)]
  obtain ⟨TL', TA', L', B', tc', td', c', d2, hcs, hcalls⟩ := node_marks _ cs hKids w1 _ _ h1 (K + 4) (by omega) (by
    show K + 4 + (a.type.top.labels.length : Int) + cntK a.type.kids + a.labels.length + cntEK cs ≤ _
    rw [hn, hm, hT, hS]
    omega)
  rw [hpart] at hcs hcell
  simp only [List.drop_succ_cons, List.drop_zero, top_node, kids_node, hn, hm] at hcs hcalls
  simp only [List.cons.injEq, Value.slice.injEq, true_and, and_true] at hcs
  obtain ⟨⟨rfl, rfl⟩, ⟨rfl, rfl⟩, ⟨rfl, rfl⟩, rfl, rfl⟩ := hcs
  rw [hT, hS] at hcalls
  refine hcalls.mono ?_
  rintro e w2 ⟨rfl, ho2, hc2⟩
  refine ⟨rfl, hcell w2 5 ho2 (by decide) (by decide), hc2.mono ?_⟩
  rintro e w3 ⟨rfl, ho3, hc3⟩
  refine ⟨rfl, hcell w3 6 ho3 (by decide) (by decide), hc3.mono ?_⟩
  rintro e w4 ⟨rfl, ho4, hc4⟩
  refine ⟨rfl, hcell w4 7 ho4 (by decide) (by decide), hc4.mono ?_⟩
  rintro e w5 ⟨rfl, ho5, ts, js, hheldT, hheldE, hnew⟩
  have hlast : k0 + (cntEK (ks.take (i + 1)) : Int) = K + 4 + n + T + m + S := by omega
  refine ⟨rfl, fun kv iv hkv hiv => einv_more (u0 := .int .i64 K) (u1 := .string (markB (K + 1))) (u2 := .int .i64 (K + 2)) (u3 := .int .i64 (K + 3)) rfl hnd hi hlen hdone hrest honly hst ho1 ho5 (by rw [hset]; exact hnew) ?_ (by rw [hlast]; exact hkv) hiv⟩
  rw [hlast]
  rw [hKe] at hheld
  exact hheld.snoc hheldT hheldE

set_option maxRecDepth 100000 in
set_option maxHeartbeats 6000000 in
theorem markEKids_any (ks : List Te) (ih : ∀ t ∈ ks, MarkEKids t.kids) : MarkEKids ks := by
  intro w A d xs fs k0 hown hkids hnd hlen hk0 hkb
  have HI := Lib.hid ih
  have HND := Lib.hid hnd
  have HOW := Lib.hid hown
  have HKD := Lib.hid hkids
  clear ih hnd hown hkids
  go_enter Try.func45, Try.ntmps45
  go_wp2_with fail
  go_loopw [1, 5] (fun kv iv wr => EInv ks w A d fs k0 kv iv wr) (fun _ iv _ => ks.length - (intOf iv).toNat)
  case atStart => exact ⟨0, [], xs, Nat.zero_le _, rfl, by simp [cntEK], rfl, by simpa [cntEK] using HeldEK.nil k0, HOW.out, fun j t hj => by simp at hj, fun j t _ hj => HKD.out j t hj, Only.refl _ _⟩
  case round =>
    obtain ⟨i, ks', ys, hi, rfl, rfl, hkl, hheld, hrow, hdone, hrest, honly⟩ := hrel
    have hyl : ys.length = ks.length * 8 := hrow.1
    by_cases hlt : i < ks.length
    · have hold := hrest i ks[i] (Nat.le_refl _) (List.getElem?_eq_getElem hlt)
      obtain ⟨a, cs, hnode⟩ : ∃ a cs, ks[i] = .node a cs := ⟨_, _, (match ks[i] with | .node a cs => rfl : ks[i] = .node ks[i].top ks[i].kids)⟩
      rw [hnode] at hold
      obtain ⟨TL, TA, L, B, tc, td, c, d', fpT, zs, fs2, hpart, _, _, _, _, _, _, _, _⟩ := otetree hold
      have hct := cntEK_take ks i hlt
      have hcle := cntEK_take_le ks (i + 1)
      have hK := HI.out ks[i] (List.getElem_mem hlt)
      rw [hnode] at hK
      obtain ⟨g, rfl⟩ : ∃ g, A = some ⟨g, 0, none⟩ := by
        rcases hrow.2 with ⟨_, h0⟩ | ⟨g, _, _, hv, _⟩
        · omega
        · injection hv with e _ _
          exact ⟨g, e⟩
      obtain ⟨n, hn⟩ : ∃ n, a.type.top.labels.length = n := ⟨_, rfl⟩
      obtain ⟨m, hm⟩ : ∃ m, a.labels.length = m := ⟨_, rfl⟩
      obtain ⟨T, hT⟩ : ∃ T, cntK a.type.kids = T := ⟨_, rfl⟩
      obtain ⟨S, hS⟩ : ∃ S, cntEK cs = S := ⟨_, rfl⟩
      have htc : a.type.cnt = 1 + n + T := by
        obtain ⟨kind, name, num, ⟨ta, tks⟩, labels⟩ := a
        have := cnt_node ta tks
        rw [← hn, ← hT]
        exact this
      rw [hnode, cntE_node, htc, hm, hS] at hct
      rw [hn, hm] at hpart
      obtain ⟨K, hKe⟩ : ∃ K : Int, k0 + cntEK (ks.take i) = K := ⟨_, rfl⟩
      have hq : ∀ j, j < 8 → ys[i * 8 + j]? = (part8 ys i)[j]? := fun j hj => (part8_get _ _ _ hj).symm
      rw [hpart] at hq
      have q0 : wr.cell? ⟨g, i * 8, none⟩ = some (.int .i64 a.kind) := by rw [hrow.cellAt _ (by omega)]; exact hq 0 (by decide)
      have f0 := hrow.frozenAt (i * 8)
      have hst0 := hrow.stored (i * 8) (.int .i64 K)
      obtain ⟨W0, hW0⟩ : ∃ W0, wr.setCell ⟨g, i * 8, none⟩ (.int .i64 K) = W0 := ⟨_, rfl⟩
      have hst00 := hst0.1
      have hg0 := hst0.2
      rw [hW0] at hst00 hg0
      have HC0 := Lib.hid (markText_any (K + 1) (by omega) (by omega) W0)
      have HALL : Hid (∀ (v : World), Below W0.heap.size W0 v → v.cell? ⟨g, i * 8 + 1, none⟩ = some (.string a.name) ∧ v.cell? ⟨g, i * 8 + 2, none⟩ = some (.int .i64 a.num) ∧ v.cell? ⟨g, i * 8 + 3, none⟩ = some (.int .i64 a.type.top.kind) ∧ v.cell? ⟨g, i * 8 + 4, none⟩ = some (.slice TL n tc) ∧
          v.frozen? ⟨g, i * 8 + 1, none⟩ = false ∧ v.frozen? ⟨g, i * 8 + 2, none⟩ = false ∧ v.frozen? ⟨g, i * 8 + 3, none⟩ = false ∧
          Calls Try.prog 23 #[.slice TL n tc, .int .i64 (K + 4)] (((v.setCell ⟨g, i * 8 + 1, none⟩ (.string ⟨(mtext (K + 1)).toArray⟩)).setCell ⟨g, i * 8 + 2, none⟩ (.int .i64 (K + 2))).setCell ⟨g, i * 8 + 3, none⟩ (.int .i64 (K + 3))) fun e w2 => e = .returned (.int .i64 (K + 4 + n)) ∧ w2.cell? ⟨g, i * 8 + 5, none⟩ = some (.slice TA a.type.kids.length td) ∧
          Calls Try.prog 56 #[.slice TA a.type.kids.length td, .int .i64 (K + 4 + n)] w2 fun e w3 => e = .returned (.int .i64 (K + 4 + n + T)) ∧ w3.cell? ⟨g, i * 8 + 6, none⟩ = some (.slice L m c) ∧
          Calls Try.prog 23 #[.slice L m c, .int .i64 (K + 4 + n + T)] w3 fun e w4 => e = .returned (.int .i64 (K + 4 + n + T + m)) ∧ w4.cell? ⟨g, i * 8 + 7, none⟩ = some (.slice B cs.length d') ∧
          Calls Try.prog 45 #[.slice B cs.length d', .int .i64 (K + 4 + n + T + m)] w4 fun e w5 => e = .returned (.int .i64 (K + 4 + n + T + m + S)) ∧ ∀ kv iv, kv = Value.int .i64 (K + 4 + n + T + m + S) → iv = Value.int .i64 ((i + 1 : Nat) : Int) → EInv ks w (some ⟨g, 0, none⟩) d fs k0 kv iv w5) := Lib.hid (by
        intro v hb
        have hv := own_only hst00 (Only.of_below (fp := []) hb) (fun b _ => by simp)
        have hset : ∀ j, 1 ≤ j → j < 8 → v.cell? ⟨g, i * 8 + j, none⟩ = [Value.int .i64 a.kind, .string a.name, .int .i64 a.num, .int .i64 a.type.top.kind, .slice TL n tc, .slice TA a.type.kids.length td, .slice L m c, .slice B cs.length d'][j]? := fun j h1 h8 => by
          rw [hv.cellAt _ (by omega), List.getElem?_set_ne (by omega)]
          exact hq j h8
        refine ⟨hset 1 (by decide) (by decide), hset 2 (by decide) (by decide), hset 3 (by decide) (by decide), hset 4 (by decide) (by decide), hv.frozenAt _, hv.frozenAt _, hv.frozenAt _, ?_⟩
        have s1 := hv.stored (i * 8 + 1) (.string ⟨(mtext (K + 1)).toArray⟩)
        have s2 := s1.1.stored (i * 8 + 2) (.int .i64 (K + 2))
        have s3 := s2.1.stored (i * 8 + 3) (.int .i64 (K + 3))
        have hg1 := grown_below hg0 hb
        have hg3 := grown_set (j := i * 8 + 3) (grown_set (j := i * 8 + 2) (grown_set (j := i * 8 + 1) hg1 (.string ⟨(mtext (K + 1)).toArray⟩)) (.int .i64 (K + 2))) (.int .i64 (K + 3))
        exact row_marks HND.out hlt hnode hK hk0 hkb hkl hheld hrow hdone hrest honly hKe s3.1 (Only.of_grown hg3 (fun x e => by injection e with e; simp [e])) hn hm hT hS hpart)
      have HW0 := Lib.hid hW0
      have hKb : K + 4 + (n : Int) + T + m + S ≤ 1000000000000 := by omega
      have hK0 : 0 < K := by omega
      rw [hKe]
      clear hold hnode hpart hct hcle hK hn hm hT hS htc hKe hq hst0 hst00 hg0 hW0 hkl hheld hrow hdone hrest honly hkb
      go_wp2_with fail
      rw [HW0.out]
      refine HC0.out.mono ?_
      rintro e v ⟨rfl, hb⟩
      obtain ⟨q1, q2, q3, q4, f1, f2, f3, hc1⟩ := HALL.out v hb
      have HC1 := Lib.hid hc1
      clear hc1 hb q0 f0 HALL HC0
      go_wp2_with fail
      rw [show K + 1 + 1 = K + 2 by omega, show K + 2 + 1 = K + 3 by omega, show K + 3 + 1 = K + 4 by omega]
      refine HC1.out.mono ?_
      rintro e w2 ⟨rfl, q5, hc2⟩
      have HC2 := Lib.hid hc2
      clear hc2 q1 q2 q3 q4 f1 f2 f3 HC1
      go_wp2_with fail
      refine HC2.out.mono ?_
      rintro e w3 ⟨rfl, q6, hc3⟩
      have HC3 := Lib.hid hc3
      clear hc3 q5 HC2
      go_wp2_with fail
      refine HC3.out.mono ?_
      rintro e w4 ⟨rfl, q7, hc4⟩
      have HC4 := Lib.hid hc4
      clear hc4 q6 HC3
      go_wp2_with fail
      refine HC4.out.mono ?_
      rintro e w5 ⟨rfl, hfin⟩
      have HF := Lib.hid hfin
      clear hfin q7 HC4
      go_wp2_with fail
      go_roundw
      case rel => exact HF.out _ _ rfl (by go_num)
      case measure => simp [intOf]; omega
    · have he : i = ks.length := by omega
      have HF : Hid (MarkedEK ks A d fs k0 w (.returned (.int .i64 (k0 + cntEK (ks.take i)))) wr) := by
        rw [he, List.take_length]
        rw [he, List.take_length] at hheld
        exact ⟨ks', ys, rfl, by omega, hheld, hrow, hdone, honly⟩
      clear he hkl hheld hrow hdone hrest honly
      go_wp2_with fail
      go_ret
      exact HF.out

theorem markETree : ∀ t : Te, MarkEKids t.kids := by
  refine Tr.ind ?_
  intro a ks ih
  exact markEKids_any ks ih

/-- a term that holds marks: its own kind, name and numbers are as they were -/
def HeldTe (k : Int) (t : Te) (k' : Int) : Prop := ∃ (ty : Ty) (k1 : Int) (m : Nat) (cs : List Te), t = .node ⟨t.top.kind, t.top.name, t.top.num, ty, marksB k1 m⟩ cs ∧ HeldT k ty k1 ∧ HeldEK (k1 + m) cs k'
def MarkedTe (cs : List Value) (fp : List Nat) (k : Int) (w : World) (e : Ending) (w' : World) : Prop :=
  ∃ (t' : Te) (k' : Int), e = .returned (.int .i64 k') ∧ 0 < k' ∧ k' ≤ 1000000000000 ∧ OTe w' t' cs fp ∧ HeldTe k t' k' ∧ Only fp w w'

theorem box8_only {w w' : World} {g : Nat} {t : TypeId} {a0 a1 a2 a3 a4 a5 a6 a7 : Value} {fp : List Nat} (h : Box8 w g t a0 a1 a2 a3 a4 a5 a6 a7) (ho : Only fp w w') (hne : g ∉ fp) : Box8 w' g t a0 a1 a2 a3 a4 a5 a6 a7 := (ho.block g h.lt hne).trans h

theorem oty_lt {w : World} {t : Ty} {cs : List Value} {fp : List Nat} (h : OTy w t cs fp) : ∀ b ∈ fp, b < w.heap.size := by
  induction h with
  | node a ks L A c d xs fs h0 h1 h2 h3 h4 h5 ih =>
    intro b hb
    rw [List.mem_append, List.mem_append, List.mem_flatMap] at hb
    rcases hb with (hb | hb) | ⟨j, hj, hb⟩
    · exact (h1.lt b ((blk_own L _ c b).2 hb)).2
    · exact (h3.lt b ((blk_own A _ d b).2 hb)).2
    · have hj' := List.mem_range.1 hj
      exact ih j _ (List.getElem?_eq_getElem hj') b hb
theorem oty_cells {t' : Ty} {w : World} {TL TA : Option Addr} {tk : Int} {n m tc td : Nat} {fp : List Nat} (h : OTy w t' [.int .i64 tk, .slice TL n tc, .slice TA m td] fp) : t'.top.kind = tk ∧ t'.top.labels.length = n ∧ t'.kids.length = m := by
  obtain ⟨a, ks⟩ := t'
  obtain ⟨L, A, c, d, xs, fs, e, _⟩ := otree h
  simp only [List.cons.injEq, Value.int.injEq, Value.slice.injEq, true_and, and_true] at e
  exact ⟨e.1.symm, e.2.1.2.1.symm, e.2.2.2.1.symm⟩

set_option maxRecDepth 100000 in
set_option maxHeartbeats 1600000 in
theorem markTerm_any (t : Te) (w : World) (cs : List Value) (fp : List Nat) (k : Int) (h : OTe w t cs fp) (hk : 0 < k) (hkb : k + t.cntE ≤ 1000000000000) : Calls Try.prog 22 #[.agg cs.toArray, .int .i64 k] w (MarkedTe cs fp k w) := by
  obtain ⟨a, ks⟩ := t
  obtain ⟨TL, TA, L, A, tc, td, c, d, fpT, xs, fs, rfl, rfl, haok, hT, hl, hcl, hrow, hkids, hnd⟩ := otetree h
  rw [cntE_node] at hkb
  obtain ⟨hP, hQ, hPQ⟩ := List.nodup_append.1 hnd
  obtain ⟨nL, nA, nF, dLA, dLF, dAF⟩ := nodup3.1 hQ
  obtain ⟨n, hn⟩ : ∃ n, a.type.top.labels.length = n := ⟨_, rfl⟩
  obtain ⟨p, hp⟩ : ∃ p, a.type.kids.length = p := ⟨_, rfl⟩
  obtain ⟨m, hm⟩ : ∃ m, a.labels.length = m := ⟨_, rfl⟩
  obtain ⟨tk, htk⟩ : ∃ tk, a.type.top.kind = tk := ⟨_, rfl⟩
  obtain ⟨C, hC⟩ : ∃ C, a.type.cnt = C := ⟨_, rfl⟩
  have hC1 : 1 ≤ C := by
    obtain ⟨kind, name, num, ⟨ta, tks⟩, labels⟩ := a
    have := cnt_node ta tks
    rw [← hC]
    show 1 ≤ (Tr.node ta tks).cnt
    omega
  rw [hC, hm] at hkb
  rw [hn, hp, htk] at hT ⊢
  rw [hm] at hl ⊢
  obtain ⟨W1, hW1⟩ : ∃ W1, w.alloc (.cells #[.int .i64 a.kind, .string a.name, .int .i64 a.num, .int .i64 tk, .slice TL n tc, .slice TA p td, .slice L m c, .slice A ks.length d] 38) = W1 := ⟨_, rfl⟩
  obtain ⟨H, hH⟩ : ∃ H, w.heap.size = H := ⟨_, rfl⟩
  have b0 : Box8 W1 H 38 (.int .i64 a.kind) (.string a.name) (.int .i64 a.num) (.int .i64 tk) (.slice TL n tc) (.slice TA p td) (.slice L m c) (.slice A ks.length d) := by rw [← hW1, ← hH]; exact Box8.new w _ _ _ _ _ _ _ _ _
  have hb1 : Below w.heap.size w W1 := by rw [← hW1]; exact (Below.refl _ _).alloc (Nat.le_refl _) _
  have ho0 : Only ([] : List Nat) w W1 := Only.of_below hb1
  have hT1 := hT.only ho0 (fun b _ => by simp)
  have hHT : H ∉ fpT := fun hx => by have := oty_lt hT H hx; omega
  have hHL : H ∉ blk L := fun hx => by have := (hl.lt H ((blk_own L m c H).2 hx)).2; omega
  have HC1 := Lib.hid (markTypeX_any a.type W1 _ _ k hT1 hk (by omega))
  have HALL : Hid (∀ (w2 : World) (t' : Ty) (k1 : Int), k1 + 1 = k + C → OTy w2 t' [.int .i64 tk, .slice TL n tc, .slice TA p td] fpT → HeldT k t' k1 → Only fpT W1 w2 → w2.cell? ⟨H, 6, none⟩ = some (.slice L m c) ∧
      Calls Try.prog 23 #[.slice L m c, .int .i64 k1] w2 (fun e w3 => e = .returned (.int .i64 (k1 + m)) ∧ w3.cell? ⟨H, 7, none⟩ = some (.slice A ks.length d) ∧
      Calls Try.prog 45 #[.slice A ks.length d, .int .i64 (k1 + m)] w3 (fun e w4 => ∃ v : Int, e = .returned (.int .i64 v) ∧ MarkedTe [.int .i64 a.kind, .string a.name, .int .i64 a.num, .int .i64 tk, .slice TL n tc, .slice TA p td, .slice L m c, .slice A ks.length d] (fpT ++ (blk L ++ blk A ++ (List.range ks.length).flatMap fs)) k w (.returned (.int .i64 v)) w4))) := Lib.hid (by
    intro w2 t' k1 hk1 hT2 hheldT ho2
    refine ⟨(box8_only b0 ho2 hHT).c6, ?_⟩
    have hl2 := own_only (own_only hl ho0 (fun b _ => by simp)) ho2 (fun b hb hm => hPQ b hm b (by simp [hb]) rfl)
    refine (markS_any L m c k1 _ w2 hl2 (strs_strs _) (by omega) (by omega)).mono ?_
    rintro e w3 ⟨rfl, hl3, ho3⟩
    refine ⟨rfl, (box8_only (box8_only b0 ho2 hHT) ho3 hHL).c7, ?_⟩
    have hrow3 := own_only (own_only (own_only hrow ho0 (fun b _ => by simp)) ho2 (fun b hb hm => hPQ b hm b (by simp [hb]) rfl)) ho3 (fun b hb hm => dLA b hm hb)
    have hk3 : ∀ j t, ks[j]? = some t → OTe w3 t (part8 xs j) (fs j) := fun j t hj =>
      have hjl := (List.getElem?_eq_some_iff.1 hj).1
      (((hkids j t hj).only ho0 (fun b _ => by simp)).only ho2 (fun b hb hm => hPQ b hm b (List.mem_append.2 (.inr (flat_mem hjl hb))) rfl)).only ho3 (fun b hb hm => dLF b hm (flat_mem hjl hb))
    refine (markEKids_any ks (fun t _ => markETree t) w3 A d xs fs (k1 + m) hrow3 hk3 (List.nodup_append.2 ⟨nA, nF, fun x hx y hy e => dAF x hx (e ▸ hy)⟩) hcl (by omega) (by omega)).mono ?_
    rintro e w4 ⟨js, ys', rfl, hjl, hheld, hrow4, hkids4, ho4⟩
    have hml := marksB_len k1 m
    refine ⟨_, rfl, .node ⟨a.kind, a.name, a.num, t', marksB k1 m⟩ js, _, rfl, by omega, by omega, ?_, ⟨t', k1, m, js, rfl, hheldT, hheld⟩, ?_⟩
    · have hlab4 := own_only hl3 ho4 (fun b hb hm => by
        rcases List.mem_append.1 hm with h | h
        · exact dLA b hb h
        · exact dLF b hb h)
      have hty4 := (hT2.only ho3 (fun b hb hm => hPQ b hb b (by simp [hm]) rfl)).only ho4 (fun b hb hm => hPQ b hb b (by
        rcases List.mem_append.1 hm with h | h
        · simp [h]
        · exact List.mem_append.2 (.inr h)) rfl)
      obtain ⟨x1, x2, x3⟩ := oty_cells hty4
      obtain ⟨b1, b2, b3, b4, b5, b6, b7⟩ := haok
      have hnode := OTe.node (w := w4) ⟨a.kind, a.name, a.num, t', marksB k1 m⟩ js TL TA L A tc td c d fpT ys' fs ⟨b1, b2, b3, b4, b5, by show (marksB _ m).length ≤ _; rw [hml]; omega, marksB_size _ m (by omega) (by omega)⟩
        (by
          show OTy w4 t' [.int .i64 t'.top.kind, .slice TL t'.top.labels.length tc, .slice TA t'.kids.length td] _
          rw [x1, x2, x3]
          exact hty4)
        (by show w4.ownsRow 0 9 1 (.slice L (marksB _ m).length c) (marksB _ m).length _; rw [hml, ← marks_eq]; exact hlab4) (by omega) (by rw [hjl]; exact hrow4) hkids4 (by rw [hjl]; exact hnd)
      have e3 : (.slice L (marksB k1 m).length c : Value) = .slice L m c := by rw [hml]
      have e4 : (.slice A js.length d : Value) = .slice A ks.length d := by rw [hjl]
      have e5 : (.int .i64 t'.top.kind : Value) = .int .i64 tk := by rw [x1]
      have e6 : (.slice TL t'.top.labels.length tc : Value) = .slice TL n tc := by rw [x2]
      have e7 : (.slice TA t'.kids.length td : Value) = .slice TA p td := by rw [x3]
      dsimp only at hnode
      rw [e3, e4, e5, e6, e7, hjl] at hnode
      exact hnode
    · refine (((ho0.more (fun x hx => by cases hx)).trans (ho2.more (fun x hx => by simp [hx]))).trans (ho3.more (fun x hx => by simp [hx]))).trans (ho4.more (fun x hx => List.mem_append.2 (.inr ?_)))
      rcases List.mem_append.1 hx with h | h
      · simp [h]
      · exact List.mem_append.2 (.inr h))
  have HW1 := Lib.hid hW1
  have x3 := b0.c3
  have x4 := b0.c4
  have x5 := b0.c5
  have hk1b : ∀ k1 : Int, k1 + 1 = k + C → 0 ≤ k1 ∧ k1 + (m : Int) ≤ 1000000000000 := fun k1 h => by omega
  have HKB := Lib.hid hk1b
  have hCe := Lib.hid hC
  clear h hT hl hrow hkids hnd hP hQ hPQ nL nA nF dLA dLF dAF hn hp hm htk hW1 b0 hb1 ho0 hT1 hHT hHL haok hkb hk1b hC hC1 hcl
  go_enter Try.func22, Try.ntmps22
  go_wp2_with fail
  rw [HW1.out]
  go_wp2_with fail
  refine HC1.out.mono ?_
  rintro e w2 ⟨t', k1, rfl, hk1, hT2, hheldT, ho2⟩
  rw [hCe.out] at hk1
  obtain ⟨r2, hcall⟩ := HALL.out w2 t' k1 hk1 hT2 hheldT ho2
  have hkr := HKB.out k1 hk1
  have HC2 := Lib.hid hcall
  clear hcall hT2 hheldT ho2 x3 x4 x5 HALL HC1 hk1
  go_wp2_with fail
  refine HC2.out.mono ?_
  rintro e w3 ⟨rfl, r3, hc3⟩
  have HC3 := Lib.hid hc3
  clear hc3 r2 HC2
  go_wp2_with fail
  refine HC3.out.mono ?_
  rintro e w4 ⟨v, rfl, hfin⟩
  have HF := Lib.hid hfin
  clear hfin HC3 r3
  go_wp2_with fail
  go_ret
  exact HF.out
end Go.Proofs.Ythcfgpjldhiinaa
