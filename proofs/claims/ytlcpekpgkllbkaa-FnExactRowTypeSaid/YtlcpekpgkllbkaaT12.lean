/-
  Merged by program: TyMark.
-/
import Derived.Test.YtlcpekpgkllbkaaT11

/-
  The walks of the laws' markTypeS, markType, heldTypeS, heldType.
-/
namespace Go.Proofs.Ytlcpekpgkllbkaa
open Go.RowKit

theorem otree {w : World} {a : TyA} {ks : List Ty} {cs : List Value} {fp : List Nat} (h : OTy w (.node a ks) cs fp) : ∃ (L A : Option Addr) (c d : Nat) (xs : List Value) (fs : Nat → List Nat), cs = [.int .i64 a.kind, .slice L a.labels.length c, .slice A ks.length d] ∧ fp = blk L ++ blk A ++ (List.range ks.length).flatMap fs ∧ a.ok ∧
    w.ownsRow 0 9 1 (.slice L a.labels.length c) a.labels.length (a.labels.map Value.string) ∧ ks.length ≤ 9223372036854775807 ∧ w.ownsRow 0 36 3 (.slice A ks.length d) ks.length xs ∧ (∀ j t, ks[j]? = some t → OTy w t (part3 xs j) (fs j)) ∧ (blk L ++ blk A ++ (List.range ks.length).flatMap fs).Nodup := by
  cases h with
  | node a ks L A c d xs fs h0 h1 h2 h3 h4 h5 => exact ⟨L, A, c, d, xs, fs, rfl, rfl, h0, h1, h2, h3, h4, h5⟩

set_option maxRecDepth 100000 in
set_option maxHeartbeats 2000000 in
theorem markKids_any (ks : List Ty) (ih : ∀ t ∈ ks, MarkKids t.kids) : MarkKids ks := by
  intro w A d xs fs k0 hown hkids hnd hlen hk0 hkb
  have HI := Lib.hid ih
  have HND := Lib.hid hnd
  have HOW := Lib.hid hown
  have HKD := Lib.hid hkids
  clear ih hnd hown hkids
  go_enter Try.func54, Try.ntmps54
  go_wp2_with fail
  go_loopw [1, 5] (fun kv iv wr => MInv ks w A d fs k0 kv iv wr) (fun _ iv _ => ks.length - (intOf iv).toNat)
  case atStart => exact ⟨0, [], xs, Nat.zero_le _, rfl, by simp [cntK], rfl, by simpa [cntK] using HeldK.nil k0, HOW.out, fun j t hj => by simp at hj, fun j t _ hj => HKD.out j t hj, Only.refl _ _⟩
  case round =>
    obtain ⟨i, ks', ys, hi, rfl, rfl, hkl, hheld, hrow, hdone, hrest, honly⟩ := hrel
    have hyl : ys.length = ks.length * 3 := hrow.1
    by_cases hlt : i < ks.length
    · have hold := hrest i ks[i] (Nat.le_refl _) (List.getElem?_eq_getElem hlt)
      obtain ⟨a, cs, hnode⟩ : ∃ a cs, ks[i] = .node a cs := ⟨_, _, (match ks[i] with | .node a cs => rfl : ks[i] = .node ks[i].top ks[i].kids)⟩
      rw [hnode] at hold
      obtain ⟨L, B, c, d', zs, fs2, hpart, hfs, haok, hl, hcl, hrow2, hkids2, hnd2⟩ := otree hold
      have hct := cntK_take ks i hlt
      have hcle := cntK_take_le ks (i + 1)
      rw [hnode, cnt_node] at hct
      have hK := HI.out ks[i] (List.getElem_mem hlt)
      rw [hnode] at hK
      obtain ⟨g, rfl⟩ : ∃ g, A = some ⟨g, 0, none⟩ := by
        rcases hrow.2 with ⟨_, h0⟩ | ⟨g, _, _, hv, _⟩
        · omega
        · injection hv with e _ _
          exact ⟨g, e⟩
      obtain ⟨n, hn⟩ : ∃ n, a.labels.length = n := ⟨_, rfl⟩
      have HN := Lib.hid hn
      rw [hn] at hpart hl hct
      obtain ⟨T, hT⟩ : ∃ T, cntK (ks.take i) = T := ⟨_, rfl⟩
      rw [hT] at hct
      obtain ⟨w1, hw1⟩ : ∃ w1, wr.setCell ⟨g, i * 3, none⟩ (.int .i64 (k0 + T)) = w1 := ⟨_, rfl⟩
      have hst := hrow.stored (i * 3) (.int .i64 (k0 + (T : Int)))
      rw [hw1] at hst
      have hgA : g ∈ blk (some (⟨g, 0, none⟩ : Addr)) := by simp [blk]
      obtain ⟨_, hndF, hdis⟩ := List.nodup_append.1 HND.out
      have hgf : g ∉ fs i := fun hm => hdis g hgA g (flat_mem hlt hm) rfl
      have ho1 : Only [g] wr w1 := Only.of_grown hst.2 (fun x e => by injection e with e; simp [e])
      rw [hfs] at hgf
      have hl1 := own_only hl ho1 (fun b hb hm => by
        have e : b = g := by simpa using hm
        subst e
        exact hgf (by simp [hb]))
      have hp0 : ys[i * 3]? = some (.int .i64 a.kind) := by have := part3_get ys i 0 (by omega); rw [hpart] at this; simpa using this.symm
      have hp1 : ys[i * 3 + 1]? = some (.slice L n c) := by have := part3_get ys i 1 (by omega); rw [hpart] at this; simpa using this.symm
      have hp2 : ys[i * 3 + 2]? = some (.slice B cs.length d') := by have := part3_get ys i 2 (by omega); rw [hpart] at this; simpa using this.symm
      have q0 : wr.cell? ⟨g, i * 3, none⟩ = some (.int .i64 a.kind) := by rw [hrow.cellAt _ (by omega)]; exact hp0
      have f0 := hrow.frozenAt (i * 3)
      have q1 : wr.cell? ⟨g, i * 3 + 1, none⟩ = some (.slice L n c) := by rw [hrow.cellAt _ (by omega)]; exact hp1
      have HC1 := Lib.hid (markS_any L n c (k0 + T + 1) _ w1 hl1 (strs_strs _) (by omega) (by omega))
      have HALL : Hid (∀ (w2 : World), w2.ownsRow 0 9 1 (.slice L n c) n (marks (k0 + T + 1) n) → Only (blk L) w1 w2 → w2.cell? ⟨g, i * 3 + 2, none⟩ = some (.slice B cs.length d') ∧
          Calls Try.prog 54 #[.slice B cs.length d', .int .i64 (k0 + T + 1 + n)] w2 (fun e w3 => ∃ v : Int, e = .returned (.int .i64 v) ∧ ∀ kv iv, kv = Value.int .i64 v → iv = Value.int .i64 ((i + 1 : Nat) : Int) → MInv ks w (some ⟨g, 0, none⟩) d fs k0 kv iv w3)) := Lib.hid (by
        intro w2 hl2 ho2
        have hnd3 := hnd2
        obtain ⟨nL, nB, nF, dLB, dLF, dBF⟩ := nodup3.1 hnd3
        have hgL : g ∉ blk L := fun hm => hgf (by simp [hm])
        have hr2 : w2.ownsRow 0 36 3 (.slice (some ⟨g, 0, none⟩) ks.length d) ks.length (ys.set (i * 3) (.int .i64 (k0 + T))) := own_only hst.1 ho2 (fun b hb hm => by
          have e : b = g := by simpa [blk] using hb
          subst e
          exact hgL hm)
        have hgB : ∀ b ∈ blk B, b ∉ [g] := fun b hb hm => by
          have e : b = g := by simpa using hm
          subst e
          exact hgf (by simp [hb])
        have hgF : ∀ b ∈ (List.range cs.length).flatMap fs2, b ∉ [g] := fun b hb hm => by
          have e : b = g := by simpa using hm
          subst e
          exact hgf (List.mem_append.2 (.inr hb))
        have hrow22 := own_only (own_only hrow2 ho1 hgB) ho2 (fun b hb hm => dLB b hm hb)
        have hk22 : ∀ j t, cs[j]? = some t → OTy w2 t (part3 zs j) (fs2 j) := fun j t hj =>
          have hjl := (List.getElem?_eq_some_iff.1 hj).1
          ((hkids2 j t hj).only ho1 (fun b hb => hgF b (flat_mem hjl hb))).only ho2 (fun b hb hm => dLF b hm (flat_mem hjl hb))
        refine ⟨by rw [hr2.cellAt _ (by omega), List.getElem?_set_ne (by omega)]; exact hp2, ?_⟩
        refine (hK w2 B d' zs fs2 (k0 + T + 1 + n) hrow22 hk22 (List.nodup_append.2 ⟨nB, nF, fun x hx y hy e => dBF x hx (e ▸ hy)⟩) hcl (by omega) (by show k0 + (T : Int) + 1 + n + cntK cs ≤ _; omega)).mono ?_
        rintro e w3 ⟨js, ys', rfl, hjl, hheld2, hrow3, hkids3, ho3⟩
        refine ⟨_, rfl, fun kv iv hkv hiv => ?_⟩
        exact minv_more (a := a) (cs := cs) (n := n) (w1 := w1) (w2 := w2) (xs := ys) (L := L) (B := B) (c := c) (d' := d') (js := js) (ys' := ys') (fs2 := fs2) rfl HND.out hlt hnode HN.out hfs hk0 hkb hcl hkl hheld hrow hdone hrest honly hpart (by rw [hT]; exact hw1) (by rw [hT]; exact hl2) ho2 hjl (by rw [hT]; exact hheld2) hrow3 hkids3 ho3 (by rw [hT]; exact hkv) hiv)
      have HW1 := Lib.hid hw1
      have hTb : (T : Int) ≤ 1000000000000 := by omega
      have hnb : (n : Int) ≤ 1000000000000 := by omega
      have hkT : k0 + (T : Int) + 1 + n ≤ 1000000000000 := by omega
      rw [hT]
      clear hold hnode hpart hfs haok hl hrow2 hkids2 hnd2 hct hcle hK hn hT hw1 hst hndF hdis hgf ho1 hl1 hp0 hp1 hp2 hkl hheld hrow hdone hrest honly hcl hkb
      go_wp2_with fail
      rw [HW1.out]
      refine HC1.out.mono ?_
      rintro e w2 ⟨rfl, hl2, ho2⟩
      obtain ⟨r2, hcall⟩ := HALL.out w2 hl2 ho2
      have HC2 := Lib.hid hcall
      clear hcall hl2 ho2 q0 f0 q1 HALL HC1
      go_wp2_with fail
      refine HC2.out.mono ?_
      rintro e w3 ⟨v, rfl, hfin⟩
      have HF := Lib.hid hfin
      clear hfin HC2 r2
      go_wp2_with fail
      go_roundw
      case rel => exact HF.out _ _ rfl (by go_num)
      case measure => simp [intOf]; omega
    · have he : i = ks.length := by omega
      have HF : Hid (MarkedK ks A d fs k0 w (.returned (.int .i64 (k0 + cntK (ks.take i)))) wr) := by
        rw [he, List.take_length]
        rw [he, List.take_length] at hheld
        exact ⟨ks', ys, rfl, by omega, hheld, hrow, hdone, honly⟩
      clear he hkl hheld hrow hdone hrest honly
      go_wp2_with fail
      go_ret
      exact HF.out

theorem markTree : ∀ t : Ty, MarkKids t.kids := by
  refine Tr.ind ?_
  intro a ks ih
  exact markKids_any ks ih

/-- a type that holds marks: its own kind is as it was -/
def HeldT (k : Int) (t : Ty) (k' : Int) : Prop := ∃ n cs, t = .node ⟨t.top.kind, marksB k n⟩ cs ∧ HeldK (k + n) cs k'
def MarkedT (cs : List Value) (fp : List Nat) (k : Int) (w : World) (e : Ending) (w' : World) : Prop :=
  ∃ (t' : Ty) (k' : Int), e = .returned (.int .i64 k') ∧ 0 < k' ∧ k' ≤ 1000000000000 ∧ OTy w' t' cs fp ∧ HeldT k t' k' ∧ Only fp w w'
/-- .. and how many marks it took -/
def MarkedTX (t : Ty) (cs : List Value) (fp : List Nat) (k : Int) (w : World) (e : Ending) (w' : World) : Prop :=
  ∃ (t' : Ty) (k' : Int), e = .returned (.int .i64 k') ∧ k' + 1 = k + t.cnt ∧ OTy w' t' cs fp ∧ HeldT k t' k' ∧ Only fp w w'

set_option maxRecDepth 100000 in
set_option maxHeartbeats 1600000 in
theorem markTypeX_any (t : Ty) (w : World) (cs : List Value) (fp : List Nat) (k : Int) (h : OTy w t cs fp) (hk : 0 < k) (hkb : k + t.cnt ≤ 1000000000000) : Calls Try.prog 18 #[.agg cs.toArray, .int .i64 k] w (MarkedTX t cs fp k w) := by
  obtain ⟨a, ks⟩ := t
  obtain ⟨L, A, c, d, xs, fs, rfl, rfl, haok, hl, hcl, hrow, hkids, hnd⟩ := otree h
  rw [cnt_node] at hkb
  obtain ⟨nL, nA, nF, dLA, dLF, dAF⟩ := nodup3.1 hnd
  obtain ⟨n, hn⟩ : ∃ n, a.labels.length = n := ⟨_, rfl⟩
  rw [hn] at hl hkb ⊢
  obtain ⟨W1, hW1⟩ : ∃ W1, w.alloc (.cells #[.int .i64 a.kind, .slice L n c, .slice A ks.length d] 36) = W1 := ⟨_, rfl⟩
  obtain ⟨H, hH⟩ : ∃ H, w.heap.size = H := ⟨_, rfl⟩
  have b0 : Box3 W1 H 36 (.int .i64 a.kind) (.slice L n c) (.slice A ks.length d) := by rw [← hW1, ← hH]; exact Box3.new w _ _ _ _
  have hb1 : Below w.heap.size w W1 := by rw [← hW1]; exact (Below.refl _ _).alloc (Nat.le_refl _) _
  have ho0 : Only ([] : List Nat) w W1 := Only.of_below hb1
  have hl1 := own_only hl ho0 (fun b _ => by simp)
  have hHL : H ∉ blk L := fun hm => by have := (hl.lt H ((blk_own L n c H).2 hm)).2; omega
  have HC1 := Lib.hid (markS_any L n c k _ W1 hl1 (strs_strs _) hk (by omega))
  have HALL : Hid (∀ (w2 : World), w2.ownsRow 0 9 1 (.slice L n c) n (marks k n) → Only (blk L) W1 w2 → w2.cell? ⟨H, 2, none⟩ = some (.slice A ks.length d) ∧
      Calls Try.prog 54 #[.slice A ks.length d, .int .i64 (k + n)] w2 (fun e w3 => ∃ v : Int, e = .returned (.int .i64 v) ∧ MarkedTX (.node a ks) [.int .i64 a.kind, .slice L n c, .slice A ks.length d] (blk L ++ blk A ++ (List.range ks.length).flatMap fs) k w (.returned (.int .i64 v)) w3)) := Lib.hid (by
    intro w2 hl2 ho2
    refine ⟨(box_only b0 ho2 hHL).c2, ?_⟩
    have hrow2 := own_only (own_only hrow ho0 (fun b _ => by simp)) ho2 (fun b hb hm => dLA b hm hb)
    have hk2 : ∀ j t, ks[j]? = some t → OTy w2 t (part3 xs j) (fs j) := fun j t hj =>
      have hjl := (List.getElem?_eq_some_iff.1 hj).1
      ((hkids j t hj).only ho0 (fun b _ => by simp)).only ho2 (fun b hb hm => dLF b hm (flat_mem hjl hb))
    refine (markKids_any ks (fun t _ => markTree t) w2 A d xs fs (k + n) hrow2 hk2 (List.nodup_append.2 ⟨nA, nF, fun x hx y hy e => dAF x hx (e ▸ hy)⟩) hcl (by omega) (by omega)).mono ?_
    rintro e w3 ⟨js, ys', rfl, hjl, hheld, hrow3, hkids3, ho3⟩
    have hml := marksB_len k n
    refine ⟨_, rfl, .node ⟨a.kind, marksB k n⟩ js, _, rfl, by rw [cnt_node, hn]; omega, ?_, ⟨n, js, rfl, hheld⟩, ?_⟩
    · have hlab3 := own_only hl2 ho3 (fun b hb hm => by
        rcases List.mem_append.1 hm with h | h
        · exact dLA b hb h
        · exact dLF b hb h)
      have hnode := OTy.node (w := w3) ⟨a.kind, marksB k n⟩ js L A c d ys' fs ⟨haok.1, haok.2.1, by show (marksB k n).length ≤ _; rw [hml]; omega, marksB_size k n hk (by omega)⟩
        (by show w3.ownsRow 0 9 1 (.slice L (marksB k n).length c) (marksB k n).length _; rw [hml, ← marks_eq]; exact hlab3) (by omega) (by rw [hjl]; exact hrow3) hkids3 (by rw [hjl]; exact hnd)
      have e2 : (.slice L (marksB k n).length c : Value) = .slice L n c := by rw [hml]
      have e3 : (.slice A js.length d : Value) = .slice A ks.length d := by rw [hjl]
      rw [e2, e3, hjl] at hnode
      exact hnode
    · refine ((ho0.more (fun x hx => by cases hx)).trans (ho2.more (fun x hx => by simp [hx]))).trans (ho3.more (fun x hx => ?_))
      rcases List.mem_append.1 hx with h | h
      · simp [h]
      · exact List.mem_append.2 (.inr h))
  have HW1 := Lib.hid hW1
  have x1 := b0.c1
  have hkn : k + (n : Int) ≤ 1000000000000 := by omega
  clear h hl hrow hkids hnd nL nA nF dLA dLF dAF hn hW1 b0 hb1 ho0 hl1 hHL haok hkb
  go_enter Try.func18, Try.ntmps18
  go_wp2_with fail
  rw [HW1.out]
  go_wp2_with fail
  refine HC1.out.mono ?_
  rintro e w2 ⟨rfl, hl2, ho2⟩
  obtain ⟨r2, hcall⟩ := HALL.out w2 hl2 ho2
  have HC2 := Lib.hid hcall
  clear hcall hl2 ho2 x1 HALL HC1
  go_wp2_with fail
  refine HC2.out.mono ?_
  rintro e w3 ⟨v, rfl, hfin⟩
  have HF := Lib.hid hfin
  clear hfin HC2 r2
  go_wp2_with fail
  go_ret
  exact HF.out
theorem markType_any (t : Ty) (w : World) (cs : List Value) (fp : List Nat) (k : Int) (h : OTy w t cs fp) (hk : 0 < k) (hkb : k + t.cnt ≤ 1000000000000) : Calls Try.prog 18 #[.agg cs.toArray, .int .i64 k] w (MarkedT cs fp k w) := by
  have hc : 1 ≤ t.cnt := by
    obtain ⟨a, ks⟩ := t
    rw [cnt_node]
    omega
  refine (markTypeX_any t w cs fp k h hk hkb).mono ?_
  rintro e w' ⟨t', k', rfl, hke, ho, hh, hw⟩
  exact ⟨t', k', rfl, by omega, by omega, ho, hh, hw⟩
end Go.Proofs.Ytlcpekpgkllbkaa
