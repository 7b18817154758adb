/-
  Merged by program: TypSeq.
-/
import Derived.Test.YtlcpekpgkllbkaaT33
import Derived.Test.YtlcpekpgkllbkaaT37
import Derived.Test.YtlcpekpgkllbkaaT4
import Derived.Test.YtlcpekpgkllbkaaT36
import Derived.Test.YtlcpekpgkllbkaaT5
import Derived.WalkSmall
import Derived.OwnWalkIn
import Derived.Maps.OwnIn

/-
  The program's valueLists: all lists of a value, each later than the node that it belongs to.
-/
namespace Go.Proofs.Ytlcpekpgkllbkaa
open Go.RowKit Go.Shelf

attribute [local go_sem] Oper.semAt_some

theorem infoTys : (Try.prog.info? 34).map (fun i => (i.zero, i.size, i.bytes)) = some (some (.slice none 0 0), 1, 24) := by kernel_rfl
def FnAtT (p : Nat) (s : Value) (w : World) (e : Ending) (w' : World) : Prop := e = .returned (.func (.func 110) #[] #[.pointer (some ⟨p, 0, none⟩), .pointer (some ⟨p + 1, 0, none⟩)]) ∧ w' = (w.alloc (.cells #[s] 34)).alloc (.cells #[.func (.func 84) #[] #[]] 114)
theorem listsT_any (w : World) (A : Option Addr) (n c : Nat) : Calls Try.prog 83 #[.slice A n c, .func (.func 84) #[] #[]] w (FnAtT w.heap.size (.slice A n c) w) := by
  have hR : Hid (FnAtT w.heap.size (.slice A n c) w (.returned (.func (.func 110) #[] #[.pointer (some ⟨w.heap.size, 0, none⟩), .pointer (some ⟨w.heap.size + 1, 0, none⟩)])) ((w.alloc (.cells #[.slice A n c] 34)).alloc (.cells #[.func (.func 84) #[] #[]] 114))) := ⟨rfl, rfl⟩
  go_enter Try.func83, Try.ntmps83
  go_wp2_with fail
  go_ret
  exact hR.out
/-- the stack as it lies in memory -/
def RestT (J : StkT → (Nat → Prop) → World → Prop) (B Bf : Nat) (S T : StkT) (v : Value) (F : Nat → Prop) (wr : World) : Prop :=
  wr.ownsRow B 34 1 v T.length (T.reverse.map (·.2)) ∧ (∀ g, v.ownBlock = some g → ¬ F g) ∧ J S F wr ∧ B ≤ wr.heap.size ∧ Boxed wr Bf 114 (.func (.func 84) #[] #[]) ∧ Bf < B
/-- what the iterator's loop keeps -/
def StkInvT (J : StkT → (Nat → Prop) → World → Prop) (B Bf M : Nat) (S : StkT) (v : Value) (wr : World) : Prop := wST S ≤ M ∧ ∃ F, RestT J B Bf S S v F wr

theorem RestT.held {J : StkT → (Nat → Prop) → World → Prop} {lo B Bf : Nat} {S T : StkT} {v : Value} {F : Nat → Prop} {A C : World} (hJ : ∀ S F A C, J S F A → Held (fun i => i < lo ∨ F i) A C → J S F C) (h : RestT J B Bf S T v F A) (hb : Below A.heap.size A C) : RestT J B Bf S T v F C := by
  obtain ⟨h1, h2, h3, h4, h5, h6⟩ := h
  exact ⟨h1.kept (row := none) ⟨hb.os, hb.tape, hb.output, hb.size, fun i hi _ => hb.block i hi⟩ (by cases hv : v.ownBlock <;> simp), h2, hJ _ _ _ _ h3 (Held.of_below hb fun i hi _ => hi), Nat.le_trans h4 hb.size, (hb.block _ h5.lt).trans h5, h6⟩
theorem own_heldT {w w' : World} {base size : Nat} {e : TypeId} {v : Value} {n : Nat} {xs : List Value} (h : w.ownsRow base e size v n xs) (hb : ∀ g, v.ownBlock = some g → w'.heap[g]? = w.heap[g]?) : w'.ownsRow base e size v n xs := by
  refine ⟨h.1, h.2.imp id ?_⟩
  rintro ⟨g, cap, cur, rfl, h1, h2, h3⟩
  exact ⟨g, cap, cur, rfl, h1, (hb g rfl).trans h2, h3⟩
/-- what the loop over the parts keeps -/
def KidInvT (J : StkT → (Nat → Prop) → World → Prop) (B Bf lo : Nat) (ts : List Ty) (As : Nat → Value) (S : StkT) (s : Value) (F : Nat → Prop) (p i : Value) (wr : World) : Prop :=
  ∃ k, k ≤ ts.length ∧ i = .int .i64 (k : Int) ∧ RestT J B Bf (pushAllT ts As S) (pushToT ts As S k) p F wr ∧ RowCT lo F wr s ts As
theorem RowCT.at {lo : Nat} {F : Nat → Prop} {w : World} {A : Option Addr} {n c : Nat} {ts : List Ty} {As : Nat → Value} (h : RowCT lo F w (.slice A n c) ts As) {k : Nat} (hk : k < ts.length) :
    ∃ ad p k0 L l lc A' c', A = some ad ∧ ad.add (k * 3) = p ∧ As k = .slice A' ts[k].kids.length c' ∧ w.cell? p = some (.int .i64 k0) ∧ w.cell? ⟨p.block, p.off + 1, none⟩ = some (.slice L l lc) ∧ w.cell? ⟨p.block, p.off + 2, none⟩ = some (.slice A' ts[k].kids.length c') := by
  obtain ⟨A1, c1, h1, h2, h3⟩ := h
  injection h1 with e1 e2 e3
  subst e1
  obtain ⟨ad, d0, L, l, d2, A', c', rfl, k2, k3, q0, q1, q2⟩ := h3 k _ (List.getElem?_eq_getElem hk)
  refine ⟨ad, _, d0, L, l, d2, A', c', rfl, rfl, k3, q0, ?_, ?_⟩
  · rw [← addr_next ad (k * 3) 1 (by omega)]; exact q1
  · rw [← addr_next ad (k * 3) 2 (by omega), ← k3]; exact q2
theorem cell_one_atT (w : World) (v : Value) (t : TypeId) : ∀ j u, [v][j]? = some u → (w.alloc (.cells #[v] t)).cell? ((⟨w.heap.size, 0, none⟩ : Addr).add j) = some u := by
  intro j u hj
  match j, hj with
  | 0, hj => simp at hj; subst hj; simp [Addr.add]
  | j + 1, hj => simp at hj

set_option maxRecDepth 100000 in
set_option maxHeartbeats 4000000 in
theorem lists1T_gives (ts0 : List Ty) (A0 : Option Addr) (c0 : Nat) (lo : Nat) (n Bx : Nat) (hn : 2 ≤ n) (W : World) (hlo : lo ≤ W.heap.size) (Keep : Nat → Prop) (hkx : Keep (Bx + 1)) (hbox : Boxed W Bx 34 (.slice A0 ts0.length c0)) (hbox2 : Boxed W (Bx + 1) 114 (.func (.func 84) #[] #[])) (hM : wST [(ts0, .slice A0 ts0.length c0)] ≤ 4194304) :
    GivesT Fence.wide n Try.prog 110 #[.pointer (some ⟨Bx, 0, none⟩), .pointer (some ⟨Bx + 1, 0, none⟩)] [(ts0, .slice A0 ts0.length c0)] lo Keep W := by
  intro l J Jx hJ hJB hY h0
  obtain ⟨i0, hi, hz0, hz1, hz2⟩ := info_parts infoTys
  have x0 := hbox.cell
  have h1 : 1 ≤ n := by omega
  obtain ⟨s0, hs0⟩ : ∃ s0 : Value, (.slice A0 ts0.length c0) = s0 := ⟨_, rfl⟩
  refine callsIn_of_wp Try.func110 rfl trivial ?_ rfl
  simp only [Try.ntmps110, List.size_toArray, List.length_cons, List.length_nil, Nat.reduceAdd, Nat.reduceSub, Array.replicate_succ, Array.replicate_zero, List.push_toArray, List.append_toArray, List.nil_append, List.cons_append]
  have H0 : Hid (StkInvT J W.heap.size (Bx + 1) 4194304 [(ts0, .slice A0 ts0.length c0)] (.slice (some ⟨W.heap.size, 0, none⟩) 1 1) (W.alloc (.cells #[.slice A0 ts0.length c0] 34))) := by
    obtain ⟨F, hF⟩ := h0
    refine ⟨hM, F, ?_, ?_, hJ _ _ _ _ hF (Held.of_below ((Below.refl _ _).alloc (Nat.le_refl _) _) fun i hi _ => hi), by simp, (((Below.refl W.heap.size W).alloc (Nat.le_refl _) _).block _ hbox2.lt).trans hbox2, hbox2.lt⟩
    · exact World.ownsRow_lit W #[.slice A0 ts0.length c0] 1 (Nat.le_refl _) (by unfold maxLen; omega) rfl
    · intro g hg hf
      have := (hJB _ _ _ hF g hf).2
      injection hg with hg
      simp at hg
      omega
  have HJ := Lib.hid hJ
  have HJB := Lib.hid hJB
  have HY := Lib.hid hY
  have HKX := Lib.hid hkx
  clear hJ hJB hY h0 hM hbox hbox2 hs0 hkx
  gi_wp2
  gi_loopw [4] (fun p wr => ∃ S, StkInvT J W.heap.size (Bx + 1) 4194304 S p wr) (fun p wr => Classical.epsilon (Least fun m => ∃ S, StkInvT J W.heap.size (Bx + 1) 4194304 S p wr ∧ m = wST S))
  case atStart => exact ⟨_, H0.out⟩
  case round =>
    obtain ⟨p, hp0⟩ : ∃ p, u4 = p := ⟨_, rfl⟩
    rw [hp0] at hrel ⊢
    obtain ⟨k0, hk0⟩ := hrel
    have hle := least_at (Q := fun m => ∃ S, StkInvT J W.heap.size (Bx + 1) 4194304 S p wr ∧ m = wST S) ⟨k0, hk0, rfl⟩
    obtain ⟨μ, hμ⟩ : ∃ μ, Classical.epsilon (Least fun m => ∃ S, StkInvT J W.heap.size (Bx + 1) 4194304 S p wr ∧ m = wST S) = μ := ⟨_, rfl⟩
    rw [hμ] at hle
    obtain ⟨⟨S, ⟨hk, F, hrow, hnF, hJS, hB, hbf, hBf⟩, hmu⟩, _⟩ := hle
    clear hk0 k0
    have HMU := Lib.hid hμ
    have HME := Lib.hid hmu
    clear hμ hmu x0
    match S with
    | [] =>
      obtain ⟨A, c, rfl⟩ := own_is hrow
      clear hrow hnF
      gi_wp2
      go_end0
      exact ⟨⟨_, rfl⟩, .inl ⟨F, hJS⟩⟩
    | (ts, s) :: S' =>
      obtain ⟨m, hm⟩ : ∃ m, S'.length = m := ⟨_, rfl⟩
      have hrow' : wr.ownsRow W.heap.size 34 1 p (m + 1) (S'.reverse.map (·.2) ++ [s]) := by
        rw [← hm]; simpa using hrow
      have hml : m ≤ 4194304 := by
        have := wS_lenT ((ts, s) :: S'); simp only [List.length_cons] at this; omega
      have hxl : (S'.reverse.map (·.2)).length = m := by simpa using hm
      obtain ⟨g, cap, rfl⟩ := ownsRow_succ hrow'
      have hpop := ownsRow_pop (last := [s]) (by rw [hxl]; omega) hrow'
      have hc0 : wr.cell? ⟨g, m, none⟩ = some s := by
        rw [hrow'.cellAt m (by omega), List.getElem?_append_right (by omega), hxl]
        simp
      have hgF : ¬ F g := hnF g rfl
      have hglt := (hrow'.lt g rfl).2
      have hcap : m ≤ cap := by
        rcases hrow'.2 with ⟨h0, _⟩ | ⟨g', cap', cur, hv, _, _, h3, _⟩
        · cases h0
        · injection hv with _ _ hv; omega
      have HPOP := Lib.hid hpop
      have HM := Lib.hid hm
      have HYS := HY.out ts s S' F wr hJS
      obtain ⟨fn, tmps, assign, body, hy, hR⟩ := HYS
      have HK := Lib.hid hk
      have hnf : ¬ F (Bx + 1) := fun h => (HJB.out _ _ _ hJS _ h).1 HKX.out
      clear hrow hrow' hpop hm hxl hnF hk hJS
      gi_wp2
      refine hR.mono ?_
      rintro e W3 (⟨rfl, hH3, As, F', hF', hrc, hJ3⟩ | ⟨rfl, hJx3⟩)
      · obtain ⟨A, c, rfl, hlen, hcells⟩ := hrc
        have hsz3 := hH3.size
        have hbf3 := (hH3.block _ hbf.lt hnf).trans hbf
        have hgF' : ¬ F' g := fun h => (hF' g h).elim hgF (fun h => by omega)
        have hR0 : RestT J W.heap.size (Bx + 1) (pushAllT ts As S') S' (.slice (some ⟨g, 0, none⟩) m cap) F' W3 := by
          refine ⟨by rw [HM.out]; exact own_heldT HPOP.out (fun q hq => by injection hq with hq; subst hq; exact hH3.block _ hglt hgF), fun q hq => by injection hq with hq; subst hq; exact hgF', hJ3, by omega, hbf3, hBf⟩
        have hK0 : KidInvT J W.heap.size (Bx + 1) lo ts As S' (.slice A ts.length c) F' (.slice (some ⟨g, 0, none⟩) m cap) (.int .i64 0) W3 := ⟨0, Nat.zero_le _, rfl, hR0, A, c, rfl, hlen, hcells⟩
        have HK0 := Lib.hid hK0
        clear hcells hH3 hJ3 hR0 hK0 hF' hgF hc0 hgF' hbf hbf3 hnf
        gi_wp2
        gi_loopw [4, 30] (fun p i w3 => KidInvT J W.heap.size (Bx + 1) lo ts As S' (.slice A ts.length c) F' p i w3) (fun _ i _ => ts.length - (intOf i).toNat)
        case atStart => exact HK0.out
        case round =>
          obtain ⟨k, hk, rfl, hrs, hrc⟩ := hrel
          have hlT := wS_lenT (pushToT ts As S' k)
          have hwT := wS_pushToT ts As S' k hk
          have hwk := HK.out
          rw [wS_consT] at hwk
          have hsk := sum_take_le Tr.size ts k
          have hT : (pushToT ts As S' k).length ≤ 4194304 := by
            show List.length _ ≤ _
            have e1 : sizesT (ts.take k) ≤ sizesT ts := hsk
            simp only at hwk
            omega
          by_cases hlt : k < ts.length
          · obtain ⟨ad, q, e0, L, ll, lc, A', c', hA, hqe, hAk, q0, q1, q2⟩ := hrc.at hlt
            obtain ⟨V, vc, rfl⟩ := own_is hrs.1
            have y0 := hrs.2.2.2.2.1.cell
            have nb := Box3.new wr 36 (.int .i64 e0) (.slice L ll lc) (.slice A' ts[k].kids.length c')
            have yb1 := hrs.2.2.2.2.1.alloc (.cells #[.int .i64 e0, .slice L ll lc, .slice A' ts[k].kids.length c'] 36)
            have yb2 := yb1.alloc (.cells #[.int .i64 e0, .slice L ll lc, .slice A' ts[k].kids.length c'] 36)
            have nb2 := nb.alloc (.cells #[.int .i64 e0, .slice L ll lc, .slice A' ts[k].kids.length c'] 36)
            have y1 := yb1.cell
            have y2 := yb2.cell
            have z0 := nb2.c0
            have z1 := nb2.c1
            have z2 := nb2.c2
            clear nb yb1 yb2 nb2
            by_cases hz : ts[k].kids.length = 0
            · have HN : Hid (∀ i, i = Value.int .i64 ((k + 1 : Nat) : Int) → ∀ w4, Below wr.heap.size wr w4 → KidInvT J W.heap.size (Bx + 1) lo ts As S' (.slice A ts.length c) F' (.slice V (pushToT ts As S' k).length vc) i w4) := by
                intro i hi w4 hb4
                refine ⟨k + 1, hlt, hi, ?_, hrc.held (Held.of_below hb4 fun i hi _ => hi)⟩
                rw [pushTo_moreT hlt, if_pos hz]
                exact hrs.held HJ.out hb4
              rw [hz] at q2 z0 z1 z2 y1 y2
              subst hA
              clear hrs hrc hlT hwT hwk hsk
              gi_wp2_with (refine ⟨trivial, ?_⟩; gi_at_call 84; refine (callsIn_wide.2 (argsT_any _ _ _ _)).mono ?_; rintro e w8 ⟨rfl, rfl⟩)
              go_roundw
              case rel => exact HN.out _ (by go_num) _ (((Below.refl _ _).alloc (Nat.le_refl _) _).alloc (by simp) _)
              case measure => simp [intOf]; omega
            · have hown2 := ((((hrs.1.alloc (.cells #[.int .i64 e0, .slice L ll lc, .slice A' ts[k].kids.length c'] 36)).alloc (.cells #[.int .i64 e0, .slice L ll lc, .slice A' ts[k].kids.length c'] 36)).alloc (.cells #[.int .i64 e0, .slice L ll lc, .slice A' ts[k].kids.length c'] 36)).alloc (.cells #[.slice A' ts[k].kids.length c'] 34))
              have hcl := cell_one_atT (((wr.alloc (.cells #[.int .i64 e0, .slice L ll lc, .slice A' ts[k].kids.length c'] 36)).alloc (.cells #[.int .i64 e0, .slice L ll lc, .slice A' ts[k].kids.length c'] 36)).alloc (.cells #[.int .i64 e0, .slice L ll lc, .slice A' ts[k].kids.length c'] 36)) (.slice A' ts[k].kids.length c') 34
              rw [World.size_alloc, World.size_alloc, World.size_alloc] at hcl
              have HN : Hid (∀ v' w4, w4.ownsRow W.heap.size 34 1 v' ((pushToT ts As S' k).length + 1) ((pushToT ts As S' k).reverse.map (·.2) ++ [.slice A' ts[k].kids.length c']) →
                  ((((wr.alloc (.cells #[.int .i64 e0, .slice L ll lc, .slice A' ts[k].kids.length c'] 36)).alloc (.cells #[.int .i64 e0, .slice L ll lc, .slice A' ts[k].kids.length c'] 36)).alloc (.cells #[.int .i64 e0, .slice L ll lc, .slice A' ts[k].kids.length c'] 36)).alloc (.cells #[.slice A' ts[k].kids.length c'] 34)).grownBy w4 (Value.slice V (pushToT ts As S' k).length vc).ownBlock →
                  (v'.ownBlock = (Value.slice V (pushToT ts As S' k).length vc).ownBlock ∨ v'.ownBlock = some (wr.heap.size + 1 + 1 + 1 + 1)) → ∀ i, i = Value.int .i64 ((k + 1 : Nat) : Int) → KidInvT J W.heap.size (Bx + 1) lo ts As S' (.slice A ts.length c) F' v' i w4) := by
                intro v' w4 ho4 hg4 hor i hi
                have hal : Below wr.heap.size wr ((((wr.alloc (.cells #[.int .i64 e0, .slice L ll lc, .slice A' ts[k].kids.length c'] 36)).alloc (.cells #[.int .i64 e0, .slice L ll lc, .slice A' ts[k].kids.length c'] 36)).alloc (.cells #[.int .i64 e0, .slice L ll lc, .slice A' ts[k].kids.length c'] 36)).alloc (.cells #[.slice A' ts[k].kids.length c'] 34)) := ((((Below.refl _ _).alloc (Nat.le_refl _) _).alloc (by simp) _).alloc (by simp; omega) _).alloc (by simp; omega) _
                have hz4 := hg4.size
                simp only [World.size_alloc] at hz4
                have hhold : Held (fun i => i < lo ∨ F' i) wr w4 := (Held.of_below hal fun i hi _ => hi).trans (Held.grown hg4 fun q hq hlo => by
                  have h1 := hrs.1.lt q hq
                  rcases hlo with h | h
                  · omega
                  · exact hrs.2.1 q hq h)
                refine ⟨k + 1, hlt, hi, ⟨?_, fun q hq hF => ?_, HJ.out _ _ _ _ hrs.2.2.1 hhold, by have := hrs.2.2.2.1; omega, (hg4.block _ (Nat.lt_of_lt_of_le hrs.2.2.2.2.1.lt hal.size) (fun e => by have := hrs.1.lt _ e.symm; have := hrs.2.2.2.2.2; omega)).trans ((hal.block _ hrs.2.2.2.2.1.lt).trans hrs.2.2.2.2.1), hrs.2.2.2.2.2⟩, hrc.held hhold⟩
                · rw [pushTo_moreT hlt, if_neg hz]
                  simpa [hAk] using ho4
                · have hlt' := (HJB.out _ _ _ hrs.2.2.1 q hF).2
                  rcases hor with h | h
                  · rw [h] at hq; exact hrs.2.1 q hq hF
                  · rw [h] at hq; injection hq with hq; omega
              subst hA
              obtain ⟨M, hM2⟩ : ∃ M, (pushToT ts As S' k).length = M := ⟨_, rfl⟩
              obtain ⟨xs, hxs⟩ : ∃ xs, (pushToT ts As S' k).reverse.map (·.2) = xs := ⟨_, rfl⟩
              obtain ⟨kl, hkl⟩ : ∃ kl, ts[k].kids.length = kl := ⟨_, rfl⟩
              have hBz := hrs.2.2.2.1
              rw [hM2] at hown2 hT HN ⊢
              rw [hxs] at hown2 HN
              rw [hkl] at hown2 HN q2 hcl hz z0 z1 z2 y1 y2
              have hzp : (0 : Int) < (kl : Int) := by omega
              have HO := Lib.hid hown2
              have HCL := Lib.hid hcl
              clear hrs hrc hlT hwT hwk hsk hM2 hxs hkl hown2 hcl hAk
              gi_wp2_with (first | (refine ⟨trivial, ?_⟩; gi_at_call 84; refine (callsIn_wide.2 (argsT_any _ _ _ _)).mono ?_; rintro e w8 ⟨rfl, rfl⟩) | (gi_at_builtin; refine wpListIn_append_own_at _ rfl _ _ 143 rfl W.heap.size 34 i0 (.slice none 0 0) 1 24 Try.underlying143 hi hz0 hz1 hz2 rfl (by decide) (.slice V M vc) M xs rfl HO.out ⟨wr.heap.size + 1 + 1 + 1, 0, none⟩ 1 1 [.slice A' kl c'] rfl rfl HCL.out (by simp [Value.oneCell']) (by unfold maxLen; omega) (by omega) (by simp; omega) ?_; intro v' w4 hown4 hg4 _ hor4))
              have HF := Lib.hid (HN.out v' w4 hown4 hg4 (by simpa using hor4))
              clear hown4 hg4 hor4
              gi_wp2
              go_roundw
              case rel => exact HF.out _ (by go_num)
              case measure => simp [intOf]; omega
          · have he : k = ts.length := by omega
            obtain ⟨V, vc, rfl⟩ := own_is hrs.1
            have HG : Hid (∃ S, StkInvT J W.heap.size (Bx + 1) 4194304 S (.slice V (pushToT ts As S' k).length vc) wr ∧ wST S < μ) := by
              have h1 := wS_pushT ts As S' (.slice A ts.length c)
              refine ⟨pushAllT ts As S', ⟨by have := HK.out; omega, F', ?_⟩, by have := HME.out; omega⟩
              rw [he] at hrs ⊢
              exact hrs
            clear hrs hrc hlT hwT hwk hsk he hT
            gi_wp2
            go_roundw
            case rel =>
              obtain ⟨S, h1, h2⟩ := HG.out
              exact ⟨S, h1⟩
            case measure =>
              rw [HMU.out]
              obtain ⟨S, h1, h2⟩ := HG.out
              have h5 := (least_at (Q := fun m => ∃ S, StkInvT J W.heap.size (Bx + 1) 4194304 S (.slice V (pushToT ts As S' k).length vc) wr ∧ m = wST S) ⟨S, h1, rfl⟩).2 _ ⟨S, h1, rfl⟩
              omega
      · clear hbf hnf
        gi_wp2
        refine bodyPost_ret (results_none rfl _ _ _) rfl ?_
        exact ⟨⟨_, rfl⟩, .inr hJx3⟩
end Go.Proofs.Ytlcpekpgkllbkaa
