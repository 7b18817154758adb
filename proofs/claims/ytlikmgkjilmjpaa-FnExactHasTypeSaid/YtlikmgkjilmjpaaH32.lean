/-
  Merged by program: ValSeq.
-/
import Derived.Test.YtlikmgkjilmjpaaH25
import Derived.Test.YtlikmgkjilmjpaaH29
import Derived.Test.YtlikmgkjilmjpaaH10
import Derived.Test.YtlikmgkjilmjpaaH27
import Derived.Test.YtlikmgkjilmjpaaH31
import Derived.WalkSmall
import Derived.OwnWalkIn
import Derived.Maps.OwnIn

/-
  The program's valueLists: all lists of a value, each later than the node that it belongs to.
-/
namespace Go.Proofs.Ytlikmgkjilmjpaa
open Go.RowKit Go.Shelf

attribute [local go_sem] Oper.semAt_some

theorem infoVas : (Try.prog.info? 28).map (fun i => (i.zero, i.size, i.bytes)) = some (some (.slice none 0 0), 1, 24) := by kernel_rfl
def FnAtV (p : Nat) (s : Value) (w : World) (e : Ending) (w' : World) : Prop := e = .returned (.func (.func 99) #[] #[.pointer (some ⟨p, 0, none⟩), .pointer (some ⟨p + 1, 0, none⟩)]) ∧ w' = (w.alloc (.cells #[s] 28)).alloc (.cells #[.func (.func 54) #[] #[]] 75)
theorem listsV_any (w : World) (A : Option Addr) (n c : Nat) : Calls Try.prog 72 #[.slice A n c, .func (.func 54) #[] #[]] w (FnAtV w.heap.size (.slice A n c) w) := by
  have hR : Hid (FnAtV w.heap.size (.slice A n c) w (.returned (.func (.func 99) #[] #[.pointer (some ⟨w.heap.size, 0, none⟩), .pointer (some ⟨w.heap.size + 1, 0, none⟩)])) ((w.alloc (.cells #[.slice A n c] 28)).alloc (.cells #[.func (.func 54) #[] #[]] 75))) := ⟨rfl, rfl⟩
  go_enter Try.func72, Try.ntmps72
  go_wp2_with fail
  go_ret
  exact hR.out
theorem valueLists_any (w : World) (A : Option Addr) (n c : Nat) : Calls Try.prog 39 #[.slice A n c] w (FnAtV w.heap.size (.slice A n c) w) := by
  have HC := Lib.hid (listsV_any w A n c)
  go_enter Try.func39, Try.ntmps39
  go_wp2_with fail
  refine HC.out.mono ?_
  rintro e w2 ⟨rfl, rfl⟩
  go_wp2_with fail
  go_ret
  exact ⟨rfl, rfl⟩

/-- the stack as it lies in memory -/
def RestV (J : Stk → (Nat → Prop) → World → Prop) (B Bf : Nat) (S T : Stk) (v : Value) (F : Nat → Prop) (wr : World) : Prop :=
  wr.ownsRow B 28 1 v T.length (T.reverse.map (·.2)) ∧ (∀ g, v.ownBlock = some g → ¬ F g) ∧ J S F wr ∧ B ≤ wr.heap.size ∧ Boxed wr Bf 75 (.func (.func 54) #[] #[]) ∧ Bf < B
/-- what the iterator's loop keeps -/
def StkInv (J : Stk → (Nat → Prop) → World → Prop) (B Bf M : Nat) (S : Stk) (v : Value) (wr : World) : Prop := wS S ≤ M ∧ ∃ F, RestV J B Bf S S v F wr

theorem RestV.held {J : Stk → (Nat → Prop) → World → Prop} {lo B Bf : Nat} {S T : Stk} {v : Value} {F : Nat → Prop} {A C : World} (hJ : ∀ S F A C, J S F A → Held (fun i => i < lo ∨ F i) A C → J S F C) (h : RestV J B Bf S T v F A) (hb : Below A.heap.size A C) : RestV J B Bf S T v F C := by
  obtain ⟨h1, h2, h3, h4, h5, h6⟩ := h
  exact ⟨h1.kept (row := none) ⟨hb.os, hb.tape, hb.output, hb.size, fun i hi _ => hb.block i hi⟩ (by cases hv : v.ownBlock <;> simp), h2, hJ _ _ _ _ h3 (Held.of_below hb fun i hi _ => hi), Nat.le_trans h4 hb.size, (hb.block _ h5.lt).trans h5, h6⟩
theorem own_held {w w' : World} {base size : Nat} {e : TypeId} {v : Value} {n : Nat} {xs : List Value} (h : w.ownsRow base e size v n xs) (hb : ∀ g, v.ownBlock = some g → w'.heap[g]? = w.heap[g]?) : w'.ownsRow base e size v n xs := by
  refine ⟨h.1, h.2.imp id ?_⟩
  rintro ⟨g, cap, cur, rfl, h1, h2, h3⟩
  exact ⟨g, cap, cur, rfl, h1, (hb g rfl).trans h2, h3⟩
/-- what the loop over the parts keeps -/
def KidInv (J : Stk → (Nat → Prop) → World → Prop) (B Bf lo : Nat) (ts : List Va) (As : Nat → Value) (S : Stk) (s : Value) (F : Nat → Prop) (p i : Value) (wr : World) : Prop :=
  ∃ k, k ≤ ts.length ∧ i = .int .i64 (k : Int) ∧ RestV J B Bf (pushAll ts As S) (pushTo ts As S k) p F wr ∧ RowC lo F wr s ts As
theorem RowC.at {lo : Nat} {F : Nat → Prop} {w : World} {A : Option Addr} {n c : Nat} {ts : List Va} {As : Nat → Value} (h : RowC lo F w (.slice A n c) ts As) {k : Nat} (hk : k < ts.length) :
    ∃ ad p k0 k1 L l lc A' c', A = some ad ∧ ad.add (k * 4) = p ∧ As k = .slice A' ts[k].kids.length c' ∧ w.cell? p = some (.int .i64 k0) ∧ w.cell? ⟨p.block, p.off + 1, none⟩ = some (.int .i64 k1) ∧ w.cell? ⟨p.block, p.off + 2, none⟩ = some (.slice L l lc) ∧ w.cell? ⟨p.block, p.off + 3, none⟩ = some (.slice A' ts[k].kids.length c') := by
  obtain ⟨A1, c1, h1, h2, h3⟩ := h
  injection h1 with e1 e2 e3
  subst e1
  obtain ⟨ad, d0, d1, L, l, d2, A', c', rfl, k2, k3, q0, q1, q2, q3⟩ := h3 k _ (List.getElem?_eq_getElem hk)
  refine ⟨ad, _, d0, d1, L, l, d2, A', c', rfl, rfl, k3, q0, ?_, ?_, ?_⟩
  · rw [← addr_next ad (k * 4) 1 (by omega)]; exact q1
  · rw [← addr_next ad (k * 4) 2 (by omega)]; exact q2
  · rw [← addr_next ad (k * 4) 3 (by omega), ← k3]; exact q3
theorem cell_one_at (w : World) (v : Value) (t : TypeId) : ∀ j u, [v][j]? = some u → (w.alloc (.cells #[v] t)).cell? ((⟨w.heap.size, 0, none⟩ : Addr).add j) = some u := by
  intro j u hj
  match j, hj with
  | 0, hj => simp at hj; subst hj; simp [Addr.add]
  | j + 1, hj => simp at hj

set_option maxRecDepth 100000 in
set_option maxHeartbeats 4000000 in
theorem valueLists1_gives (ts0 : List Va) (A0 : Option Addr) (c0 : Nat) (lo : Nat) (n Bx : Nat) (hn : 2 ≤ n) (W : World) (hlo : lo ≤ W.heap.size) (Keep : Nat → Prop) (hkx : Keep (Bx + 1)) (hbox : Boxed W Bx 28 (.slice A0 ts0.length c0)) (hbox2 : Boxed W (Bx + 1) 75 (.func (.func 54) #[] #[])) (hM : wS [(ts0, .slice A0 ts0.length c0)] ≤ 4194304) :
    GivesV Fence.wide n Try.prog 99 #[.pointer (some ⟨Bx, 0, none⟩), .pointer (some ⟨Bx + 1, 0, none⟩)] [(ts0, .slice A0 ts0.length c0)] lo Keep W := by
  intro l J Jx hJ hJB hY h0
  obtain ⟨i0, hi, hz0, hz1, hz2⟩ := info_parts infoVas
  have x0 := hbox.cell
  have h1 : 1 ≤ n := by omega
  obtain ⟨s0, hs0⟩ : ∃ s0 : Value, (.slice A0 ts0.length c0) = s0 := ⟨_, rfl⟩
  refine callsIn_of_wp Try.func99 rfl trivial ?_ rfl
  simp only [Try.ntmps99, List.size_toArray, List.length_cons, List.length_nil, Nat.reduceAdd, Nat.reduceSub, Array.replicate_succ, Array.replicate_zero, List.push_toArray, List.append_toArray, List.nil_append, List.cons_append]
  have H0 : Hid (StkInv J W.heap.size (Bx + 1) 4194304 [(ts0, .slice A0 ts0.length c0)] (.slice (some ⟨W.heap.size, 0, none⟩) 1 1) (W.alloc (.cells #[.slice A0 ts0.length c0] 28))) := by
    obtain ⟨F, hF⟩ := h0
    refine ⟨hM, F, ?_, ?_, hJ _ _ _ _ hF (Held.of_below ((Below.refl _ _).alloc (Nat.le_refl _) _) fun i hi _ => hi), by simp, (((Below.refl W.heap.size W).alloc (Nat.le_refl _) _).block _ hbox2.lt).trans hbox2, hbox2.lt⟩
    · exact World.ownsRow_lit W #[.slice A0 ts0.length c0] 1 (Nat.le_refl _) (by unfold maxLen; omega) rfl
    · intro g hg hf
      have := (hJB _ _ _ hF g hf).2
      injection hg with hg
      simp at hg
      omega
  have HJ := Lib.hid hJ
  have HJB := Lib.hid hJB
  have HY := Lib.hid hY
  have HKX := Lib.hid hkx
  clear hJ hJB hY h0 hM hbox hbox2 hs0 hkx
  gi_wp2
  gi_loopw [4] (fun p wr => ∃ S, StkInv J W.heap.size (Bx + 1) 4194304 S p wr) (fun p wr => Classical.epsilon (Least fun m => ∃ S, StkInv J W.heap.size (Bx + 1) 4194304 S p wr ∧ m = wS S))
  case atStart => exact ⟨_, H0.out⟩
  case round =>
    obtain ⟨p, hp0⟩ : ∃ p, u4 = p := ⟨_, rfl⟩
    rw [hp0] at hrel ⊢
    obtain ⟨k0, hk0⟩ := hrel
    have hle := least_at (Q := fun m => ∃ S, StkInv J W.heap.size (Bx + 1) 4194304 S p wr ∧ m = wS S) ⟨k0, hk0, rfl⟩
    obtain ⟨μ, hμ⟩ : ∃ μ, Classical.epsilon (Least fun m => ∃ S, StkInv J W.heap.size (Bx + 1) 4194304 S p wr ∧ m = wS S) = μ := ⟨_, rfl⟩
    rw [hμ] at hle
    obtain ⟨⟨S, ⟨hk, F, hrow, hnF, hJS, hB, hbf, hBf⟩, hmu⟩, _⟩ := hle
    clear hk0 k0
    have HMU := Lib.hid hμ
    have HME := Lib.hid hmu
    clear hμ hmu x0
    match S with
    | [] =>
      obtain ⟨A, c, rfl⟩ := own_is hrow
      clear hrow hnF
      gi_wp2
      go_end0
      exact ⟨⟨_, rfl⟩, .inl ⟨F, hJS⟩⟩
    | (ts, s) :: S' =>
      obtain ⟨m, hm⟩ : ∃ m, S'.length = m := ⟨_, rfl⟩
      have hrow' : wr.ownsRow W.heap.size 28 1 p (m + 1) (S'.reverse.map (·.2) ++ [s]) := by
        rw [← hm]; simpa using hrow
      have hml : m ≤ 4194304 := by
        have := wS_len ((ts, s) :: S'); simp only [List.length_cons] at this; omega
      have hxl : (S'.reverse.map (·.2)).length = m := by simpa using hm
      obtain ⟨g, cap, rfl⟩ := ownsRow_succ hrow'
      have hpop := ownsRow_pop (last := [s]) (by rw [hxl]; omega) hrow'
      have hc0 : wr.cell? ⟨g, m, none⟩ = some s := by
        rw [hrow'.cellAt m (by omega), List.getElem?_append_right (by omega), hxl]
        simp
      have hgF : ¬ F g := hnF g rfl
      have hglt := (hrow'.lt g rfl).2
      have hcap : m ≤ cap := by
        rcases hrow'.2 with ⟨h0, _⟩ | ⟨g', cap', cur, hv, _, _, h3, _⟩
        · cases h0
        · injection hv with _ _ hv; omega
      have HPOP := Lib.hid hpop
      have HM := Lib.hid hm
      have HYS := HY.out ts s S' F wr hJS
      obtain ⟨fn, tmps, assign, body, hy, hR⟩ := HYS
      have HK := Lib.hid hk
      have hnf : ¬ F (Bx + 1) := fun h => (HJB.out _ _ _ hJS _ h).1 HKX.out
      clear hrow hrow' hpop hm hxl hnF hk hJS
      gi_wp2
      refine hR.mono ?_
      rintro e W3 (⟨rfl, hH3, As, F', hF', hrc, hJ3⟩ | ⟨rfl, hJx3⟩)
      · obtain ⟨A, c, rfl, hlen, hcells⟩ := hrc
        have hsz3 := hH3.size
        have hbf3 := (hH3.block _ hbf.lt hnf).trans hbf
        have hgF' : ¬ F' g := fun h => (hF' g h).elim hgF (fun h => by omega)
        have hR0 : RestV J W.heap.size (Bx + 1) (pushAll ts As S') S' (.slice (some ⟨g, 0, none⟩) m cap) F' W3 := by
          refine ⟨by rw [HM.out]; exact own_held HPOP.out (fun q hq => by injection hq with hq; subst hq; exact hH3.block _ hglt hgF), fun q hq => by injection hq with hq; subst hq; exact hgF', hJ3, by omega, hbf3, hBf⟩
        have hK0 : KidInv J W.heap.size (Bx + 1) lo ts As S' (.slice A ts.length c) F' (.slice (some ⟨g, 0, none⟩) m cap) (.int .i64 0) W3 := ⟨0, Nat.zero_le _, rfl, hR0, A, c, rfl, hlen, hcells⟩
        have HK0 := Lib.hid hK0
        clear hcells hH3 hJ3 hR0 hK0 hF' hgF hc0 hgF' hbf hbf3 hnf
        gi_wp2
        gi_loopw [4, 30] (fun p i w3 => KidInv J W.heap.size (Bx + 1) lo ts As S' (.slice A ts.length c) F' p i w3) (fun _ i _ => ts.length - (intOf i).toNat)
        case atStart => exact HK0.out
        case round =>
          obtain ⟨k, hk, rfl, hrs, hrc⟩ := hrel
          have hlT := wS_len (pushTo ts As S' k)
          have hwT := wS_pushTo ts As S' k hk
          have hwk := HK.out
          rw [wS_cons] at hwk
          have hsk := sum_take_le Tr.size ts k
          have hT : (pushTo ts As S' k).length ≤ 4194304 := by
            show List.length _ ≤ _
            have e1 : sizesV (ts.take k) ≤ sizesV ts := hsk
            simp only at hwk
            omega
          by_cases hlt : k < ts.length
          · obtain ⟨ad, q, e0, e1, L, ll, lc, A', c', hA, hqe, hAk, q0, q1, q2, q3⟩ := hrc.at hlt
            obtain ⟨V, vc, rfl⟩ := own_is hrs.1
            have y0 := hrs.2.2.2.2.1.cell
            have nb := Box4.new wr 30 (.int .i64 e0) (.int .i64 e1) (.slice L ll lc) (.slice A' ts[k].kids.length c')
            have yb1 := hrs.2.2.2.2.1.alloc (.cells #[.int .i64 e0, .int .i64 e1, .slice L ll lc, .slice A' ts[k].kids.length c'] 30)
            have yb2 := yb1.alloc (.cells #[.int .i64 e0, .int .i64 e1, .slice L ll lc, .slice A' ts[k].kids.length c'] 30)
            have nb2 := nb.alloc (.cells #[.int .i64 e0, .int .i64 e1, .slice L ll lc, .slice A' ts[k].kids.length c'] 30)
            have y1 := yb1.cell
            have y2 := yb2.cell
            have z0 := nb2.c0
            have z1 := nb2.c1
            have z2 := nb2.c2
            have z3 := nb2.c3
            clear nb yb1 yb2 nb2
            by_cases hz : ts[k].kids.length = 0
            · have HN : Hid (∀ i, i = Value.int .i64 ((k + 1 : Nat) : Int) → ∀ w4, Below wr.heap.size wr w4 → KidInv J W.heap.size (Bx + 1) lo ts As S' (.slice A ts.length c) F' (.slice V (pushTo ts As S' k).length vc) i w4) := by
                intro i hi w4 hb4
                refine ⟨k + 1, hlt, hi, ?_, hrc.held (Held.of_below hb4 fun i hi _ => hi)⟩
                rw [pushTo_more hlt, if_pos hz]
                exact hrs.held HJ.out hb4
              rw [hz] at q3 z0 z1 z2 z3 y1 y2
              subst hA
              clear hrs hrc hlT hwT hwk hsk
              gi_wp2_with (refine ⟨trivial, ?_⟩; gi_at_call 54; refine (callsIn_wide.2 (argsV_any _ _ _ _ _)).mono ?_; rintro e w8 ⟨rfl, rfl⟩)
              go_roundw
              case rel => exact HN.out _ (by go_num) _ (((Below.refl _ _).alloc (Nat.le_refl _) _).alloc (by simp) _)
              case measure => simp [intOf]; omega
            · have hown2 := ((((hrs.1.alloc (.cells #[.int .i64 e0, .int .i64 e1, .slice L ll lc, .slice A' ts[k].kids.length c'] 30)).alloc (.cells #[.int .i64 e0, .int .i64 e1, .slice L ll lc, .slice A' ts[k].kids.length c'] 30)).alloc (.cells #[.int .i64 e0, .int .i64 e1, .slice L ll lc, .slice A' ts[k].kids.length c'] 30)).alloc (.cells #[.slice A' ts[k].kids.length c'] 28))
              have hcl := cell_one_at (((wr.alloc (.cells #[.int .i64 e0, .int .i64 e1, .slice L ll lc, .slice A' ts[k].kids.length c'] 30)).alloc (.cells #[.int .i64 e0, .int .i64 e1, .slice L ll lc, .slice A' ts[k].kids.length c'] 30)).alloc (.cells #[.int .i64 e0, .int .i64 e1, .slice L ll lc, .slice A' ts[k].kids.length c'] 30)) (.slice A' ts[k].kids.length c') 28
              rw [World.size_alloc, World.size_alloc, World.size_alloc] at hcl
              have HN : Hid (∀ v' w4, w4.ownsRow W.heap.size 28 1 v' ((pushTo ts As S' k).length + 1) ((pushTo ts As S' k).reverse.map (·.2) ++ [.slice A' ts[k].kids.length c']) →
                  ((((wr.alloc (.cells #[.int .i64 e0, .int .i64 e1, .slice L ll lc, .slice A' ts[k].kids.length c'] 30)).alloc (.cells #[.int .i64 e0, .int .i64 e1, .slice L ll lc, .slice A' ts[k].kids.length c'] 30)).alloc (.cells #[.int .i64 e0, .int .i64 e1, .slice L ll lc, .slice A' ts[k].kids.length c'] 30)).alloc (.cells #[.slice A' ts[k].kids.length c'] 28)).grownBy w4 (Value.slice V (pushTo ts As S' k).length vc).ownBlock →
                  (v'.ownBlock = (Value.slice V (pushTo ts As S' k).length vc).ownBlock ∨ v'.ownBlock = some (wr.heap.size + 1 + 1 + 1 + 1)) → ∀ i, i = Value.int .i64 ((k + 1 : Nat) : Int) → KidInv J W.heap.size (Bx + 1) lo ts As S' (.slice A ts.length c) F' v' i w4) := by
                intro v' w4 ho4 hg4 hor i hi
                have hal : Below wr.heap.size wr ((((wr.alloc (.cells #[.int .i64 e0, .int .i64 e1, .slice L ll lc, .slice A' ts[k].kids.length c'] 30)).alloc (.cells #[.int .i64 e0, .int .i64 e1, .slice L ll lc, .slice A' ts[k].kids.length c'] 30)).alloc (.cells #[.int .i64 e0, .int .i64 e1, .slice L ll lc, .slice A' ts[k].kids.length c'] 30)).alloc (.cells #[.slice A' ts[k].kids.length c'] 28)) := ((((Below.refl _ _).alloc (Nat.le_refl _) _).alloc (by simp) _).alloc (by simp; omega) _).alloc (by simp; omega) _
                have hz4 := hg4.size
                simp only [World.size_alloc] at hz4
                have hhold : Held (fun i => i < lo ∨ F' i) wr w4 := (Held.of_below hal fun i hi _ => hi).trans (Held.grown hg4 fun q hq hlo => by
                  have h1 := hrs.1.lt q hq
                  rcases hlo with h | h
                  · omega
                  · exact hrs.2.1 q hq h)
                refine ⟨k + 1, hlt, hi, ⟨?_, fun q hq hF => ?_, HJ.out _ _ _ _ hrs.2.2.1 hhold, by have := hrs.2.2.2.1; omega, (hg4.block _ (Nat.lt_of_lt_of_le hrs.2.2.2.2.1.lt hal.size) (fun e => by have := hrs.1.lt _ e.symm; have := hrs.2.2.2.2.2; omega)).trans ((hal.block _ hrs.2.2.2.2.1.lt).trans hrs.2.2.2.2.1), hrs.2.2.2.2.2⟩, hrc.held hhold⟩
                · rw [pushTo_more hlt, if_neg hz]
                  simpa [hAk] using ho4
                · have hlt' := (HJB.out _ _ _ hrs.2.2.1 q hF).2
                  rcases hor with h | h
                  · rw [h] at hq; exact hrs.2.1 q hq hF
                  · rw [h] at hq; injection hq with hq; omega
              subst hA
              obtain ⟨M, hM2⟩ : ∃ M, (pushTo ts As S' k).length = M := ⟨_, rfl⟩
              obtain ⟨xs, hxs⟩ : ∃ xs, (pushTo ts As S' k).reverse.map (·.2) = xs := ⟨_, rfl⟩
              obtain ⟨kl, hkl⟩ : ∃ kl, ts[k].kids.length = kl := ⟨_, rfl⟩
              have hBz := hrs.2.2.2.1
              rw [hM2] at hown2 hT HN ⊢
              rw [hxs] at hown2 HN
              rw [hkl] at hown2 HN q3 hcl hz z0 z1 z2 z3 y1 y2
              have hzp : (0 : Int) < (kl : Int) := by omega
              have HO := Lib.hid hown2
              have HCL := Lib.hid hcl
              clear hrs hrc hlT hwT hwk hsk hM2 hxs hkl hown2 hcl hAk
              gi_wp2_with (first | (refine ⟨trivial, ?_⟩; gi_at_call 54; refine (callsIn_wide.2 (argsV_any _ _ _ _ _)).mono ?_; rintro e w8 ⟨rfl, rfl⟩) | (gi_at_builtin; refine wpListIn_append_own_at _ rfl _ _ 77 rfl W.heap.size 28 i0 (.slice none 0 0) 1 24 Try.underlying77 hi hz0 hz1 hz2 rfl (by decide) (.slice V M vc) M xs rfl HO.out ⟨wr.heap.size + 1 + 1 + 1, 0, none⟩ 1 1 [.slice A' kl c'] rfl rfl HCL.out (by simp [Value.oneCell']) (by unfold maxLen; omega) (by omega) (by simp; omega) ?_; intro v' w4 hown4 hg4 _ hor4))
              have HF := Lib.hid (HN.out v' w4 hown4 hg4 (by simpa using hor4))
              clear hown4 hg4 hor4
              gi_wp2
              go_roundw
              case rel => exact HF.out _ (by go_num)
              case measure => simp [intOf]; omega
          · have he : k = ts.length := by omega
            obtain ⟨V, vc, rfl⟩ := own_is hrs.1
            have HG : Hid (∃ S, StkInv J W.heap.size (Bx + 1) 4194304 S (.slice V (pushTo ts As S' k).length vc) wr ∧ wS S < μ) := by
              have h1 := wS_push ts As S' (.slice A ts.length c)
              refine ⟨pushAll ts As S', ⟨by have := HK.out; omega, F', ?_⟩, by have := HME.out; omega⟩
              rw [he] at hrs ⊢
              exact hrs
            clear hrs hrc hlT hwT hwk hsk he hT
            gi_wp2
            go_roundw
            case rel =>
              obtain ⟨S, h1, h2⟩ := HG.out
              exact ⟨S, h1⟩
            case measure =>
              rw [HMU.out]
              obtain ⟨S, h1, h2⟩ := HG.out
              have h5 := (least_at (Q := fun m => ∃ S, StkInv J W.heap.size (Bx + 1) 4194304 S (.slice V (pushTo ts As S' k).length vc) wr ∧ m = wS S) ⟨S, h1, rfl⟩).2 _ ⟨S, h1, rfl⟩
              omega
      · clear hbf hnf
        gi_wp2
        refine bodyPost_ret (results_none rfl _ _ _) rfl ?_
        exact ⟨⟨_, rfl⟩, .inr hJx3⟩
end Go.Proofs.Ytlikmgkjilmjpaa
