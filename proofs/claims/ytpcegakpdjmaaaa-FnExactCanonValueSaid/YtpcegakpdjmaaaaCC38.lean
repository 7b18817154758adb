/-
  Merged by program: SrtM.
-/
import Derived.Test.YtpcegakpdjmaaaaCC10
import Derived.Test.YtpcegakpdjmaaaaCC37
import Derived.Test.YtpcegakpdjmaaaaCC22
import Derived.StillTailTactics

/-
  The model's l5Sort: plain lists of elements with their cells.
-/
namespace Go.Proofs.Ytpcegakpdjmaaaa
open Go.RowKit

/-- an element as it lies in memory: the value, its four cells, its blocks -/
abbrev Tri := Va × List Value × List Nat
def cellsL (L : List Tri) : List Value := (L.map (·.2.1)).flatten
def leT (x y : Tri) : Prop := leV x.1 y.1 = true
def lenV : Value → Nat
  | .slice _ n _ => n
  | _ => 0
def SortPost (w : World) (L : List Tri) (A : Option Addr) (c : Nat) (e : Ending) (w' : World) : Prop :=
  ∃ L' A' c', e = .returned (.slice A' L.length c') ∧ L'.Perm L ∧ L'.Pairwise leT ∧ Below w.heap.size w w' ∧ Sl w' A' (cellsL L') ∧ L.length ≤ c' ∧ ((A' = A ∧ c' = c ∧ L' = L) ∨ w'.ownsRow w.heap.size 30 4 (.slice A' L.length c') L.length (cellsL L'))

theorem cellsL_cons (p : Tri) (L : List Tri) : cellsL (p :: L) = p.2.1 ++ cellsL L := rfl
theorem cellsL_append (L M : List Tri) : cellsL (L ++ M) = cellsL L ++ cellsL M := by unfold cellsL; rw [List.map_append, List.flatten_append]
theorem cellsL_len {L : List Tri} (h : ∀ p ∈ L, p.2.1.length = 4) : (cellsL L).length = L.length * 4 := by
  induction L with
  | nil => rfl
  | cons p L ih =>
    rw [cellsL_cons, List.length_append, h p (by simp), ih fun q hq => h q (by simp [hq]), List.length_cons]
    omega

theorem own_sl {w : World} {base size n c : Nat} {e : TypeId} {A : Option Addr} {xs : List Value} (h : w.ownsRow base e size (.slice A n c) n xs) : Sl w A xs := by
  intro j u hj
  rcases h.2 with ⟨h1, h2⟩ | ⟨g, cap, cur, hv, _⟩
  · have := h.1
    rw [h2, Nat.zero_mul] at this
    have : xs = [] := List.eq_nil_of_length_eq_zero this
    subst this
    simp at hj
  · injection hv with h1 h2 h3
    subst h1
    exact ⟨_, rfl, h.cells (g := g) rfl j u hj⟩
theorem own_cap4 {w : World} {base size n c : Nat} {e : TypeId} {A : Option Addr} {xs : List Value} (h : w.ownsRow base e size (.slice A n c) n xs) : n ≤ c := by
  rcases h.2 with ⟨h1, h2⟩ | ⟨g, cap, cur, hv, _, _, hc, _⟩
  · omega
  · injection hv with _ _ hv
    omega
theorem Sl.front {w : World} {A : Option Addr} {xs ys : List Value} (h : Sl w A (xs ++ ys)) : Sl w A xs := by
  intro j u hj
  exact h j u (by rw [List.getElem?_append_left (List.getElem?_eq_some_iff.1 hj).1]; exact hj)
theorem Sl.back {w : World} {ad : Addr} {xs ys : List Value} (h : Sl w (some ad) (xs ++ ys)) : Sl w (some (ad.add xs.length)) ys := by
  intro j u hj
  obtain ⟨ad', e, hc⟩ := h (xs.length + j) u (by rw [List.getElem?_append_right (by omega), Nat.add_sub_cancel_left]; exact hj)
  injection e with e
  subst e
  refine ⟨_, rfl, ?_⟩
  rw [← hc]
  congr 1
  unfold Addr.add
  by_cases a : j = 0
  · subst a
    by_cases b : xs.length = 0
    · simp [b]
    · simp
  · by_cases b : xs.length = 0
    · rw [if_neg a, if_pos b, if_neg (by omega), b, Nat.zero_add]
    · rw [if_neg a, if_neg b, if_neg (by omega), Nat.add_assoc]
theorem Sl.four {w : World} {ad : Addr} {c0 c1 c2 c3 : Value} {rest : List Value} (h : Sl w (some ad) ([c0, c1, c2, c3] ++ rest)) : w.cell? ad = some c0 ∧ w.cell? ⟨ad.block, ad.off + 1, none⟩ = some c1 ∧ w.cell? ⟨ad.block, ad.off + 2, none⟩ = some c2 ∧ w.cell? ⟨ad.block, ad.off + 3, none⟩ = some c3 := by
  have g : ∀ j u, ([c0, c1, c2, c3] ++ rest)[j]? = some u → w.cell? (ad.add j) = some u := fun j u hj => by
    obtain ⟨ad', e, hc⟩ := h j u hj
    injection e with e
    subst e
    exact hc
  exact ⟨g 0 c0 rfl, g 1 c1 rfl, g 2 c2 rfl, g 3 c3 rfl⟩
theorem sl_at {w : World} {ad : Addr} {xs : List Value} (h : Sl w (some ad) xs) : ∀ j u, xs[j]? = some u → w.cell? (ad.add j) = some u := fun j u hj => by
  obtain ⟨ad', e, hc⟩ := h j u hj
  injection e with e
  subst e
  exact hc
theorem sl_lit {w : World} {a b c d : Value} {t : TypeId} : Sl (w.alloc (.cells #[a, b, c, d] t)) (some ⟨w.heap.size, 0, none⟩) [a, b, c, d] :=
  own_sl (World.ownsRow_lit (base := 0) (size := 4) w #[a, b, c, d] 1 (Nat.zero_le _) (by unfold maxLen; omega) rfl)
theorem tri_one {L : List Tri} {w : World} (h : ∀ p ∈ L, RVa w p.1 p.2.1) : ∀ u ∈ cellsL L, u.oneCell' = true := by
  intro u hu
  unfold cellsL at hu
  obtain ⟨cs, hcs, hm⟩ := List.mem_flatten.1 hu
  obtain ⟨p, hp, rfl⟩ := List.mem_map.1 hcs
  obtain ⟨_, _, _, _, e, _⟩ := (h p hp).open
  rw [e] at hm
  simp only [List.mem_cons, List.not_mem_nil, or_false] at hm
  rcases hm with rfl | rfl | rfl | rfl <;> rfl

theorem rest_at {w : World} {b1 : Addr} {kb m : Nat} {xs : List Value} (h : Sl w (some (b1.add 4)) xs) (hm : m + 1 ≤ kb) (hx : xs.length = m * 4) : ∃ b2, (if kb = 1 then some b1 else some (⟨b1.block, b1.off + 4, none⟩ : Addr)) = some b2 ∧ Sl w (some b2) xs := by
  by_cases e : kb = 1
  · have : xs = [] := List.eq_nil_of_length_eq_zero (by omega)
    subst this
    exact ⟨b1, by rw [if_pos e], fun j u hj => by simp at hj⟩
  · exact ⟨b1.add 4, by rw [if_neg e]; rfl, h⟩
theorem own_base {w : World} {b0 b1 size n : Nat} {e : TypeId} {v : Value} {xs : List Value} (h : w.ownsRow b1 e size v n xs) (hb : b0 ≤ b1) : w.ownsRow b0 e size v n xs :=
  ⟨h.1, h.2.imp id fun ⟨g, cap, cur, h1, h2, h3⟩ => ⟨g, cap, cur, h1, Nat.le_trans hb h2, h3⟩⟩
theorem leT_trans {x y z : Tri} (h : leT x y) (k : leT y z) : leT x z := leV_trans h k
theorem leT_lt {q p : Tri} (h : cmpV q.1 p.1 < 0) : leT q p := by unfold leT; rw [leV_iff]; omega
theorem leT_ge {q p : Tri} (h : ¬ cmpV q.1 p.1 < 0) : leT p q := by unfold leT; rw [leV_iff, cmpV_neg]; omega

set_option maxRecDepth 100000 in
set_option maxHeartbeats 4000000 in
theorem l5Sort_any : ∀ (n : Nat) (L : List Tri) (w : World) (A : Option Addr) (c : Nat), L.length = n → n ≤ 1048577 → n ≤ c → Sl w A (cellsL L) → (∀ p ∈ L, RVa w p.1 p.2.1) → Calls Try.prog 48 #[.slice A L.length c] w (SortPost w L A c) := by
  obtain ⟨i0, hi0, hz0, hz1, hz2⟩ := info_parts infoVa
  intro n
  induction n using Nat.strongRecOn with
  | _ n ih =>
  intro L w A c hL hn hc hA hR
  by_cases h2 : n < 2
  · have HR : Hid (SortPost w L A c (.returned (.slice A L.length c)) w) := by
      refine ⟨L, A, c, rfl, List.Perm.refl _, ?_, Below.refl _ _, hA, by omega, .inl ⟨rfl, rfl, rfl⟩⟩
      match L, hL with
      | [], _ => exact .nil
      | [x], _ => simp
      | _ :: _ :: _, h => simp at h; omega
    rw [hL] at HR ⊢
    clear hA hR ih
    go_enter Try.func48, Try.ntmps48
    go_wp2_with fail
    go_ret
    exact HR.out
  · have hpos : 0 < n / 2 := by omega
    have hlt : n / 2 < n := by omega
    have hi2 : ¬ ((n : Int) < 2) := by omega
    have hlen4 : ∀ p ∈ L, p.2.1.length = 4 := fun p hp => (hR p hp).len
    have hsplit : cellsL L = cellsL (L.take (n / 2)) ++ cellsL (L.drop (n / 2)) := by rw [← cellsL_append, List.take_append_drop]
    have hl1 : (L.take (n / 2)).length = n / 2 := by rw [List.length_take]; omega
    have hl2 : (L.drop (n / 2)).length = n - n / 2 := by rw [List.length_drop]; omega
    have m1 : ∀ p ∈ L.take (n / 2), p ∈ L := fun p hp => List.mem_of_mem_take hp
    have m2 : ∀ p ∈ L.drop (n / 2), p ∈ L := fun p hp => List.mem_of_mem_drop hp
    have c1 := cellsL_len fun p hp => hlen4 p (m1 p hp)
    have c2 := cellsL_len fun p hp => hlen4 p (m2 p hp)
    rw [hl1] at c1
    rw [hl2] at c2
    obtain ⟨ad, rfl⟩ : ∃ ad, A = some ad := by
      obtain ⟨u, hu⟩ : ∃ u, (cellsL L)[0]? = some u := ⟨_, List.getElem?_eq_getElem (by rw [hsplit, List.length_append]; omega)⟩
      obtain ⟨ad, e, _⟩ := hA 0 u hu
      exact ⟨ad, e⟩
    rw [hsplit] at hA
    have s1 := hA.front
    have s2 := hA.back
    rw [c1] at s2
    have hown0 : (w.alloc (.cells #[] 30)).ownsRow w.heap.size 30 4 (.slice (some ⟨w.heap.size, 0, none⟩) 0 0) 0 [] := World.ownsRow_lit w #[] 0 (Nat.le_refl _) (by unfold maxLen; omega) rfl
    have hb0 := below_alloc w (.cells #[] 30)
    have hc1 : ∀ j u, (cellsL (L.take (n / 2)))[j]? = some u → (w.alloc (.cells #[] 30)).cell? (ad.add j) = some u := fun j u hj => by
      obtain ⟨ad', e, hc⟩ := (s1.below hb0) j u hj
      injection e with e
      subst e
      exact hc
    have HSRT := Lib.hid (fun (W : World) (A1 : Option Addr) (k1 : Nat) (hB : Below w.heap.size w W) h3 (h4 : Sl W A1 _) => ih (n / 2) hlt (L.take (n / 2)) W A1 k1 hl1 (by omega) h3 h4 fun p hp => (hR p (m1 p hp)).keep hB)
    have HSRT2 := Lib.hid (fun (W : World) (A1 : Option Addr) (k1 : Nat) (hB : Below w.heap.size w W) h3 (h4 : Sl W A1 _) => ih (n - n / 2) (by omega) (L.drop (n / 2)) W A1 k1 hl2 (by omega) h3 h4 fun p hp => (hR p (m2 p hp)).keep hB)
    rw [hl1] at HSRT
    rw [hl2] at HSRT2
    have HO := Lib.hid hown0
    have HC1 := Lib.hid hc1
    have HN1 := Lib.hid (tri_one fun p hp => hR p (m1 p hp))
    have HN2 := Lib.hid (tri_one fun p hp => hR p (m2 p hp))
    have HL1 := Lib.hid c1
    have HL2 := Lib.hid c2
    have HS2 := Lib.hid s2
    have HRR := Lib.hid hR
    have HBB := Lib.hid hb0
    have HLL := Lib.hid hL
    have HE1 := Lib.hid hl1
    have HE2 := Lib.hid hl2
    have HM1 := Lib.hid m1
    have HM2 := Lib.hid m2
    rw [hL]
    clear hA hR ih hlen4 hsplit hl1 hl2 m1 m2 c1 c2 s1 s2 hown0 hb0 hc1 hL
    go_enter Try.func48, Try.ntmps48
    go_wp2_with (at_builtin; refine wpList_append_own_at _ rfl _ _ 28 rfl w.heap.size 30 i0 (.agg #[.int .i64 0, .int .i64 0, .slice none 0 0, .slice none 0 0]) 4 64 Try.underlying28 hi0 hz0 hz1 hz2 rfl (by decide) (.slice (some ⟨w.heap.size, 0, none⟩) 0 0) 0 [] rfl HO.out ad (n / 2) c (cellsL (L.take (n / 2))) rfl HL1.out HC1.out HN1.out (by unfold maxLen; omega) (by omega) (by simp) ?_; intro v1 w1 ho1 hg1 _ _; rw [Nat.zero_add, List.nil_append] at ho1; obtain ⟨A1, k1, rfl⟩ := own_is ho1)
    have hb1 : Below w.heap.size w w1 := HBB.out.grown hg1 (by simp) (fun k hk => by have e : some w.heap.size = some k := hk; injection e with e; omega)
    refine (HSRT.out w1 A1 k1 hb1 (own_cap4 ho1) (own_sl ho1)).mono ?_
    rintro e w2 ⟨La, Aa, ca, rfl, pa, sa, ba, ra, hca, _⟩
    have hb2 := hb1.trans (ba.mono hb1.size)
    have hown2 : (w2.alloc (.cells #[] 30)).ownsRow w2.heap.size 30 4 (.slice (some ⟨w2.heap.size, 0, none⟩) 0 0) 0 [] := World.ownsRow_lit w2 #[] 0 (Nat.le_refl _) (by unfold maxLen; omega) rfl
    have hbz2 := below_alloc w2 (.cells #[] 30)
    have hc2 : ∀ j u, (cellsL (L.drop (n / 2)))[j]? = some u → (w2.alloc (.cells #[] 30)).cell? ((ad.add (n / 2 * 4)).add j) = some u := fun j u hj => by
      obtain ⟨ad', e, hc⟩ := (HS2.out.below (hb2.trans (hbz2.mono hb2.size))) j u hj
      injection e with e
      subst e
      exact hc
    rw [HE1.out] at hca ⊢
    have HO2 := Lib.hid hown2
    have HC2 := Lib.hid hc2
    have HB2 := Lib.hid hb2
    have HBZ2 := Lib.hid hbz2
    have PA := Lib.hid pa
    have SA := Lib.hid sa
    have RA := Lib.hid ra
    have HCA := Lib.hid hca
    clear ho1 hg1 pa sa ba ra hca hb1 hb2 hbz2 hown2 hc2
    go_wp2_with (at_builtin; refine wpList_append_own_at _ rfl _ _ 28 rfl w2.heap.size 30 i0 (.agg #[.int .i64 0, .int .i64 0, .slice none 0 0, .slice none 0 0]) 4 64 Try.underlying28 hi0 hz0 hz1 hz2 rfl (by decide) (.slice (some ⟨w2.heap.size, 0, none⟩) 0 0) 0 [] rfl HO2.out (ad.add (n / 2 * 4)) (n - n / 2) (c - n / 2) (cellsL (L.drop (n / 2))) rfl HL2.out HC2.out HN2.out (by unfold maxLen; omega) (by omega) (by simp) ?_; intro v3 w3 ho3 hg3 _ _; rw [Nat.zero_add, List.nil_append] at ho3; obtain ⟨A3, k3, rfl⟩ := own_is ho3)
    have hbw3 : Below w2.heap.size w2 w3 := HBZ2.out.grown hg3 (by simp) (fun k hk => by have e : some w2.heap.size = some k := hk; injection e with e; omega)
    have hb3 := HB2.out.trans (hbw3.mono HB2.out.size)
    refine (HSRT2.out w3 A3 k3 hb3 (own_cap4 ho3) (own_sl ho3)).mono ?_
    rintro e w4 ⟨Lb, Ab, cb, rfl, pb, sb, bb, rb, hcb, _⟩
    have hb4 := hb3.trans (bb.mono hb3.size)
    have hb24 := hbw3.trans (bb.mono hbw3.size)
    have ra4 := RA.out.below hb24
    rw [HE2.out] at hcb ⊢
    have hla : La.length = n / 2 := PA.out.length_eq.trans HE1.out
    have hlb : Lb.length = n - n / 2 := pb.length_eq.trans HE2.out
    have hperm : (La ++ Lb).Perm L := by
      have := PA.out.append pb
      rwa [List.take_append_drop] at this
    have hR4 : ∀ p ∈ L, RVa w4 p.1 p.2.1 := fun p hp => (HRR.out p hp).keep hb4
    have len4 : ∀ {M : List Tri}, (∀ p ∈ M, p ∈ L) → (cellsL M).length = M.length * 4 := fun hm => cellsL_len fun p hp => (hR4 p (hm p hp)).len
    have ain : ∀ p ∈ La, p ∈ L := fun p hp => HM1.out p (PA.out.mem_iff.1 hp)
    have bin : ∀ p ∈ Lb, p ∈ L := fun p hp => HM2.out p (pb.mem_iff.1 hp)
    obtain ⟨aa, rfl⟩ : ∃ aa, Aa = some aa := by
      obtain ⟨u, hu⟩ : ∃ u, (cellsL La)[0]? = some u := ⟨_, List.getElem?_eq_getElem (by rw [len4 ain]; omega)⟩
      obtain ⟨x, e, _⟩ := ra4 0 u hu
      exact ⟨x, e⟩
    obtain ⟨ab, rfl⟩ : ∃ ab, Ab = some ab := by
      obtain ⟨u, hu⟩ : ∃ u, (cellsL Lb)[0]? = some u := ⟨_, List.getElem?_eq_getElem (by rw [len4 bin]; omega)⟩
      obtain ⟨x, e, _⟩ := rb 0 u hu
      exact ⟨x, e⟩
    obtain ⟨R, hRdef⟩ : ∃ R : Value → Value → Value → World → Prop, ∀ a b o wr, R a b o wr ↔ ∃ (P Q M : List Tri) (a1 b1 : Addr) (ca cb co : Nat) (Ao : Option Addr), a = .slice (some a1) P.length ca ∧ b = .slice (some b1) Q.length cb ∧ o = .slice Ao M.length co ∧ P.length ≤ ca ∧ Q.length ≤ cb ∧ Sl w4 (some a1) (cellsL P) ∧ Sl w4 (some b1) (cellsL Q) ∧
        wr.ownsRow w4.heap.size 30 4 (.slice Ao M.length co) M.length (cellsL M) ∧ (M ++ (P ++ Q)).Perm L ∧ P.Pairwise leT ∧ Q.Pairwise leT ∧ M.Pairwise leT ∧ (∀ m ∈ M, ∀ x ∈ P ++ Q, leT m x) ∧ Below w4.heap.size w4 wr := ⟨_, fun _ _ _ _ => Iff.rfl⟩
    have hown4 : (w4.alloc (.cells #[] 30)).ownsRow w4.heap.size 30 4 (.slice (some ⟨w4.heap.size, 0, none⟩) 0 0) 0 [] := World.ownsRow_lit w4 #[] 0 (Nat.le_refl _) (by unfold maxLen; omega) rfl
    have HR0 : Hid (R (.slice (some aa) (n / 2) ca) (.slice (some ab) (n - n / 2) cb) (.slice (some ⟨w4.heap.size, 0, none⟩) 0 0) (w4.alloc (.cells #[] 30))) := by
      show R _ _ _ _
      rw [hRdef]
      exact ⟨La, Lb, [], aa, ab, ca, cb, 0, _, by rw [hla], by rw [hlb], rfl, by have := HCA.out; omega, by omega, ra4, rb, hown4, hperm, SA.out, sb, .nil, fun m hm => (by cases hm), below_alloc w4 _⟩
    have HRD := Lib.hid hRdef
    have HR4 := Lib.hid hR4
    have HB4 := Lib.hid hb4
    clear ho3 hg3 hbw3 hb3 pb sb bb rb hcb hb4 hb24 ra4 hla hlb hperm hR4 len4 ain bin hRdef hown4
    go_wp2_with fail
    go_loopw [3, 4, 5] (fun a b o wr => R a b o wr) (fun a b _ _ => lenV a + lenV b)
    case atStart => exact HR0.out
    case round =>
      rw [HRD.out] at hrel
      obtain ⟨P, Q, M, a1, b1, ka, kb, ko, Ao, rfl, rfl, rfl, h1, h2', h3, h4, h5, h6, h7, h8, h9, h10, h11⟩ := hrel
      have hmem : ∀ p, p ∈ P ∨ p ∈ Q ∨ p ∈ M → p ∈ L := fun p hp => h6.mem_iff.1 (by
        rw [List.mem_append, List.mem_append]
        rcases hp with h | h | h
        · exact .inr (.inl h)
        · exact .inr (.inr h)
        · exact .inl h)
      have hle := h6.length_eq
      simp only [List.length_append, HLL.out] at hle
      have HN := Lib.hid (fun (hx : ∀ p ∈ P, p ∈ L) => tri_one fun p hp => HR4.out p (hx p hp))
      have HNQ := Lib.hid (fun (hx : ∀ p ∈ Q, p ∈ L) => tri_one fun p hp => HR4.out p (hx p hp))
      have hpl := cellsL_len (L := P) fun p hp => (HR4.out p (hmem p (.inl hp))).len
      have hql := cellsL_len (L := Q) fun p hp => (HR4.out p (hmem p (.inr (.inl hp)))).len
      have hpo := HN.out fun p hp => hmem p (.inl hp)
      have hqo := HNQ.out fun p hp => hmem p (.inr (.inl hp))
      have HFIN : Hid (P = [] ∨ Q = [] → ∀ A8 N8 k8 w8, N8 = n → w8.ownsRow w4.heap.size 30 4 (.slice A8 N8 k8) N8 (cellsL M ++ cellsL P ++ cellsL Q) → Below w4.heap.size w4 w8 → SortPost w L (some ad) c (.returned (.slice A8 N8 k8)) w8) := by
        intro hor A8 N8 k8 w8 hN ho hb
        subst hN
        rw [List.append_assoc, ← cellsL_append, ← cellsL_append] at ho
        have hcap := own_cap4 ho
        have hPQ : (P ++ Q).Pairwise leT := by
          rcases hor with h | h
          · rw [h, List.nil_append]; exact h8
          · rw [h, List.append_nil]; exact h7
        rw [← HLL.out] at ho ⊢
        exact ⟨M ++ (P ++ Q), A8, k8, rfl, h6, List.pairwise_append.2 ⟨h9, hPQ, h10⟩, HB4.out.trans (hb.mono HB4.out.size), own_sl ho, by rw [HLL.out]; exact hcap, .inr (own_base ho HB4.out.size)⟩
      by_cases hPQ : P = [] ∨ Q = []
      · have HF2 := Lib.hid (HFIN.out hPQ)
        have hP := h3.below h11
        have hB0 := h11
        have HP1 := Lib.hid (sl_at (h3.below h11))
        have HQ1 := Lib.hid (fun W' (hB : Below w4.heap.size w4 W') => sl_at (h4.below hB))
        have HOM := Lib.hid h5
        have HBW := Lib.hid h11
        have HPL := Lib.hid hpl
        have HQL := Lib.hid hql
        have HPO := Lib.hid hpo
        have HQO := Lib.hid hqo
        have s4 := h11.size
        have hnot : ((0 : Int) < (P.length : Int)) → ¬ ((0 : Int) < (Q.length : Int)) := fun hp hq => by
          rcases hPQ with h | h
          · rw [h] at hp; simp at hp
          · rw [h] at hq; simp at hq
        clear h1 h2' h3 h4 h5 h6 h7 h8 h9 h10 h11 hmem hpl hql hpo hqo hPQ hP hB0 HFIN HN HNQ
        obtain ⟨mp, hmp⟩ : ∃ mp, P.length = mp := ⟨_, rfl⟩
        obtain ⟨mq, hmq⟩ : ∃ mq, Q.length = mq := ⟨_, rfl⟩
        obtain ⟨mm, hmm⟩ : ∃ mm, M.length = mm := ⟨_, rfl⟩
        simp only [hmp, hmq, hmm] at HOM HPL HQL hle hnot ⊢
        clear hmp hmq hmm
        by_cases hp0 : (0 : Int) < (mp : Int)
        · have hq0 := hnot hp0
          clear hnot
          go_wp2_with (first
            | (at_builtin; refine wpList_append_own_at _ rfl _ _ 28 rfl w4.heap.size 30 i0 (.agg #[.int .i64 0, .int .i64 0, .slice none 0 0, .slice none 0 0]) 4 64 Try.underlying28 hi0 hz0 hz1 hz2 rfl (by decide) (.slice A7 (mm + mp) k7) (mm + mp) (cellsL M ++ cellsL P) rfl HO7.out b1 mq kb (cellsL Q) rfl HQL.out (HQ1.out _ HB7.out) HQO.out (by unfold maxLen; omega) (by omega) HB7.out.size ?_; intro v8 w8 ho8 hg8 _ _; obtain ⟨A8, k8, rfl⟩ := own_is ho8; have HX := Lib.hid (HF2.out A8 (mm + mp + mq) k8 w8 (by omega) ho8 (HB7.out.grown hg8 HB7.out.size (fun k hk => (HO7.out.lt k hk).1))); clear ho8 hg8)
            | (at_builtin; refine wpList_append_own_at _ rfl _ _ 28 rfl w4.heap.size 30 i0 (.agg #[.int .i64 0, .int .i64 0, .slice none 0 0, .slice none 0 0]) 4 64 Try.underlying28 hi0 hz0 hz1 hz2 rfl (by decide) (.slice Ao mm ko) mm (cellsL M) rfl HOM.out a1 mp ka (cellsL P) rfl HPL.out HP1.out HPO.out (by unfold maxLen; omega) (by omega) s4 ?_; intro v7 w7 ho7 hg7 _ _; obtain ⟨A7, k7, rfl⟩ := own_is ho7; have HO7 := Lib.hid ho7; have HB7 := Lib.hid (HBW.out.grown hg7 s4 (fun k hk => (HOM.out.lt k hk).1)); clear ho7 hg7))
          go_ret
          exact HX.out
        · clear hnot
          go_wp2_with (first
            | (at_builtin; refine wpList_append_own_at _ rfl _ _ 28 rfl w4.heap.size 30 i0 (.agg #[.int .i64 0, .int .i64 0, .slice none 0 0, .slice none 0 0]) 4 64 Try.underlying28 hi0 hz0 hz1 hz2 rfl (by decide) (.slice A7 (mm + mp) k7) (mm + mp) (cellsL M ++ cellsL P) rfl HO7.out b1 mq kb (cellsL Q) rfl HQL.out (HQ1.out _ HB7.out) HQO.out (by unfold maxLen; omega) (by omega) HB7.out.size ?_; intro v8 w8 ho8 hg8 _ _; obtain ⟨A8, k8, rfl⟩ := own_is ho8; have HX := Lib.hid (HF2.out A8 (mm + mp + mq) k8 w8 (by omega) ho8 (HB7.out.grown hg8 HB7.out.size (fun k hk => (HO7.out.lt k hk).1))); clear ho8 hg8)
            | (at_builtin; refine wpList_append_own_at _ rfl _ _ 28 rfl w4.heap.size 30 i0 (.agg #[.int .i64 0, .int .i64 0, .slice none 0 0, .slice none 0 0]) 4 64 Try.underlying28 hi0 hz0 hz1 hz2 rfl (by decide) (.slice Ao mm ko) mm (cellsL M) rfl HOM.out a1 mp ka (cellsL P) rfl HPL.out HP1.out HPO.out (by unfold maxLen; omega) (by omega) s4 ?_; intro v7 w7 ho7 hg7 _ _; obtain ⟨A7, k7, rfl⟩ := own_is ho7; have HO7 := Lib.hid ho7; have HB7 := Lib.hid (HBW.out.grown hg7 s4 (fun k hk => (HOM.out.lt k hk).1)); clear ho7 hg7))
          go_ret
          exact HX.out
      have hPne : P ≠ [] := fun h => hPQ (.inl h)
      have hQne : Q ≠ [] := fun h => hPQ (.inr h)
      clear HFIN HN HNQ hpl hql hpo hqo hPQ hle
      match P, Q, hPne, hQne with
      | p :: P, q :: Q, _, _ =>
        have hp := (HR4.out p (hmem p (.inl (by simp)))).keep h11
        have hq := (HR4.out q (hmem q (.inr (.inl (by simp))))).keep h11
        obtain ⟨p1, p2, p3⟩ := p
        obtain ⟨q1, q2, q3⟩ := q
        obtain ⟨u0, u1, u2, u3, hu⟩ := hp.four
        obtain ⟨v0, v1, v2, v3, hv⟩ := hq.four
        simp only at hu hv
        subst hu hv
        obtain ⟨x0, x1, x2, x3⟩ := (h3.below h11).four
        obtain ⟨y0, y1, y2, y3⟩ := (h4.below h11).four
        have hdr : Below wr.heap.size wr wr.drew := (Below.refl _ _).drew
        have HC := Lib.hid (specCmp_any q1 p1 wr.drew _ _ (hq.keep hdr) (hp.keep hdr))
        go_wp2_with fail
        go_still_tail 6, (by kernel_rfl)
        change wpList _ _ _ _ _ wr.drew
        go_wp2_with fail
        refine HC.out.mono ?_
        rintro e w6 ⟨rfl, hb6⟩
        have hbw : Below wr.heap.size wr w6 := hdr.trans (hb6.mono hdr.size)
        have hb46 : Below w4.heap.size w4 w6 := h11.trans (hbw.mono h11.size)
        have hle := h6.length_eq
        simp only [List.length_append, List.length_cons, HLL.out] at hle
        simp only [List.length_cons] at h1 h2'
        have ho6 : w6.ownsRow w4.heap.size 30 4 (.slice Ao M.length ko) M.length (cellsL M) := own_keep h5 (row := none) ⟨hbw.os, hbw.tape, hbw.output, hbw.size, fun i hi _ => hbw.block i hi⟩ (fun b _ => by simp)
        have s4 := hb46.size
        obtain ⟨x0', x1', x2', x3'⟩ := (h3.below hb46).four
        obtain ⟨y0', y1', y2', y3'⟩ := (h4.below hb46).four
        have hone : (∀ u ∈ [u0, u1, u2, u3], u.oneCell' = true) ∧ ∀ u ∈ [v0, v1, v2, v3], u.oneCell' = true :=
          ⟨fun u hu => tri_one (L := [(p1, [u0, u1, u2, u3], p3)]) (w := wr) (fun x hx => by simp at hx; subst hx; exact hp) u (by simpa [cellsL] using hu), fun u hu => tri_one (L := [(q1, [v0, v1, v2, v3], q3)]) (w := wr) (fun x hx => by simp at hx; subst hx; exact hq) u (by simpa [cellsL] using hu)⟩
        have l4 : ∀ {K : List Tri}, (∀ p ∈ K, p ∈ L) → (cellsL K).length = K.length * 4 := fun hk => cellsL_len fun p hp => (HR4.out p (hk p hp)).len
        have hPl := l4 (K := P) fun p hp => hmem p (.inl (by simp [hp]))
        have hQl := l4 (K := Q) fun p hp => hmem p (.inr (.inl (by simp [hp])))
        obtain ⟨b2, hb2e, hb2s⟩ := rest_at h4.back h2' hQl
        obtain ⟨a2, ha2e, ha2s⟩ := rest_at h3.back h1 hPl
        have HLT : Hid (cmpV q1 p1 < 0 → ∀ A7 k7 w7, w7.ownsRow w4.heap.size 30 4 (.slice A7 (M.length + 1) k7) (M.length + 1) (cellsL M ++ [v0, v1, v2, v3]) → (w6.alloc (.cells #[v0, v1, v2, v3] 30)).grownBy w7 (Value.slice Ao M.length ko).ownBlock →
            R (.slice (some a1) (P.length + 1) ka) (.slice (if kb = 1 then some b1 else some ⟨b1.block, b1.off + 4, none⟩) Q.length (kb - 1)) (.slice A7 (M.length + 1) k7) w7) := by
          intro hc A7 k7 w7 ho hg
          rw [HRD.out, hb2e]
          have hqp : leT (q1, [v0, v1, v2, v3], q3) (p1, [u0, u1, u2, u3], p3) := leT_lt hc
          obtain ⟨h7a, h7b⟩ := List.pairwise_cons.1 h7
          obtain ⟨h8a, h8b⟩ := List.pairwise_cons.1 h8
          refine ⟨(p1, [u0, u1, u2, u3], p3) :: P, Q, M ++ [(q1, [v0, v1, v2, v3], q3)], a1, b2, ka, kb - 1, k7, A7, rfl, rfl, by rw [List.length_append]; rfl, h1, by omega, h3, hb2s, ?_, ?_, h7, h8b, ?_, ?_, ?_⟩
          · rw [List.length_append, cellsL_append]
            exact ho
          · refine List.Perm.trans ?_ h6
            rw [List.append_assoc]
            exact List.Perm.append_left _ (List.perm_middle (l₁ := (p1, [u0, u1, u2, u3], p3) :: P)).symm
          · refine List.pairwise_append.2 ⟨h9, by simp, fun m hm x hx => ?_⟩
            simp at hx
            subst hx
            exact h10 m hm _ (by simp)
          · intro m hm x hx
            rcases List.mem_append.1 hm with hm | hm
            · refine h10 m hm x ?_
              rcases List.mem_append.1 hx with hx | hx
              · exact List.mem_append.2 (.inl hx)
              · exact List.mem_append.2 (.inr (List.mem_cons_of_mem _ hx))
            · simp at hm
              subst hm
              rcases List.mem_append.1 hx with hx | hx
              · rcases List.mem_cons.1 hx with rfl | hx
                · exact hqp
                · exact leT_trans hqp (h7a x hx)
              · exact h8a x hx
          · exact (hb46.alloc hb46.size _).grown hg (by simp; omega) (fun k hk => (ho6.lt k hk).1)
        have HGE : Hid (¬ cmpV q1 p1 < 0 → ∀ A7 k7 w7, w7.ownsRow w4.heap.size 30 4 (.slice A7 (M.length + 1) k7) (M.length + 1) (cellsL M ++ [u0, u1, u2, u3]) → (w6.alloc (.cells #[u0, u1, u2, u3] 30)).grownBy w7 (Value.slice Ao M.length ko).ownBlock →
            R (.slice (if ka = 1 then some a1 else some ⟨a1.block, a1.off + 4, none⟩) P.length (ka - 1)) (.slice (some b1) (Q.length + 1) kb) (.slice A7 (M.length + 1) k7) w7) := by
          intro hc A7 k7 w7 ho hg
          rw [HRD.out, ha2e]
          have hpq : leT (p1, [u0, u1, u2, u3], p3) (q1, [v0, v1, v2, v3], q3) := leT_ge hc
          obtain ⟨h7a, h7b⟩ := List.pairwise_cons.1 h7
          obtain ⟨h8a, h8b⟩ := List.pairwise_cons.1 h8
          refine ⟨P, (q1, [v0, v1, v2, v3], q3) :: Q, M ++ [(p1, [u0, u1, u2, u3], p3)], a2, b1, ka - 1, kb, k7, A7, rfl, rfl, by rw [List.length_append]; rfl, by omega, h2', ha2s, h4, ?_, ?_, h7b, h8, ?_, ?_, ?_⟩
          · rw [List.length_append, cellsL_append]
            exact ho
          · rw [List.append_assoc]
            exact h6
          · refine List.pairwise_append.2 ⟨h9, by simp, fun m hm x hx => ?_⟩
            simp at hx
            subst hx
            exact h10 m hm _ (by simp)
          · intro m hm x hx
            rcases List.mem_append.1 hm with hm | hm
            · refine h10 m hm x ?_
              rcases List.mem_append.1 hx with hx | hx
              · exact List.mem_append.2 (.inl (List.mem_cons_of_mem _ hx))
              · exact List.mem_append.2 (.inr hx)
            · simp at hm
              subst hm
              rcases List.mem_append.1 hx with hx | hx
              · exact h7a x hx
              · rcases List.mem_cons.1 hx with rfl | hx
                · exact hpq
                · exact leT_trans hpq (h8a x hx)
          · exact (hb46.alloc hb46.size _).grown hg (by simp; omega) (fun k hk => (ho6.lt k hk).1)
        clear x0 x1 x2 x3 y0 y1 y2 y3 hdr hb6 HC hp hq hbw
        by_cases hcmp : cmpV q1 p1 < 0
        · have HNX := Lib.hid (HLT.out hcmp)
          clear HLT HGE l4
          have hO := ho6.alloc (.cells #[v0, v1, v2, v3] 30)
          have HO6 := Lib.hid hO
          have HSL := Lib.hid (sl_at (sl_lit (w := w6) (a := v0) (b := v1) (c := v2) (d := v3) (t := 30)))
          have HONE := Lib.hid hone
          generalize cmpV q1 p1 = N at hcmp ⊢
          clear h3 h4 h5 h6 h7 h8 h9 h10 h11 hmem hO hone ha2e hb2e ha2s hb2s hPl hQl ho6
          go_wp2_with (at_builtin; refine wpList_append_own_at _ rfl _ _ 28 rfl w4.heap.size 30 i0 (.agg #[.int .i64 0, .int .i64 0, .slice none 0 0, .slice none 0 0]) 4 64 Try.underlying28 hi0 hz0 hz1 hz2 rfl (by decide) (.slice Ao M.length ko) M.length (cellsL M) rfl HO6.out ⟨w6.heap.size, 0, none⟩ 1 1 [v0, v1, v2, v3] rfl rfl HSL.out HONE.out.2 (by unfold maxLen; omega) (by omega) (by simp; omega) ?_; intro v7 w7 ho7 hg7 _ _; obtain ⟨A7, k7, rfl⟩ := own_is ho7; have HX := Lib.hid (HNX.out A7 k7 w7 ho7 hg7); clear ho7 hg7)
          exact ⟨HX.out, by simp [lenV]⟩
        · have HNX := Lib.hid (HGE.out hcmp)
          clear HLT HGE l4
          have hO := ho6.alloc (.cells #[u0, u1, u2, u3] 30)
          have HO6 := Lib.hid hO
          have HSL := Lib.hid (sl_at (sl_lit (w := w6) (a := u0) (b := u1) (c := u2) (d := u3) (t := 30)))
          have HONE := Lib.hid hone
          generalize cmpV q1 p1 = N at hcmp ⊢
          clear h3 h4 h5 h6 h7 h8 h9 h10 h11 hmem hO hone ha2e hb2e ha2s hb2s hPl hQl ho6
          go_wp2_with (at_builtin; refine wpList_append_own_at _ rfl _ _ 28 rfl w4.heap.size 30 i0 (.agg #[.int .i64 0, .int .i64 0, .slice none 0 0, .slice none 0 0]) 4 64 Try.underlying28 hi0 hz0 hz1 hz2 rfl (by decide) (.slice Ao M.length ko) M.length (cellsL M) rfl HO6.out ⟨w6.heap.size, 0, none⟩ 1 1 [u0, u1, u2, u3] rfl rfl HSL.out HONE.out.1 (by unfold maxLen; omega) (by omega) (by simp; omega) ?_; intro v7 w7 ho7 hg7 _ _; obtain ⟨A7, k7, rfl⟩ := own_is ho7; have HX := Lib.hid (HNX.out A7 k7 w7 ho7 hg7); clear ho7 hg7)
          exact ⟨HX.out, by simp [lenV]⟩
end Go.Proofs.Ytpcegakpdjmaaaa
