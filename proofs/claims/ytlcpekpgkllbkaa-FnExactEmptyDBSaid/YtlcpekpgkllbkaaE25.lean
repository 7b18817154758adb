/-
  Merged by program: VaTree, VaMark.
-/
import Derived.Test.YtlcpekpgkllbkaaE20
import Derived.Test.YtlcpekpgkllbkaaE24

/-
  A value of the call's own, taken apart.
-/
namespace Go.Proofs.Ytlcpekpgkllbkaa
open Go.RowKit

theorem ovtree {w : World} {a : VaA} {ks : List Va} {cs : List Value} {fp : List Nat} (h : OVa w (.node a ks) cs fp) : ∃ (L A : Option Addr) (c d : Nat) (xs : List Value) (fs : Nat → List Nat), cs = [.int .i64 a.kind, .int .i64 a.num, .slice L a.labels.length c, .slice A ks.length d] ∧ fp = blk L ++ blk A ++ (List.range ks.length).flatMap fs ∧ a.ok ∧
    w.ownsRow 0 9 1 (.slice L a.labels.length c) a.labels.length (a.labels.map Value.string) ∧ ks.length ≤ 9223372036854775807 ∧ w.ownsRow 0 92 4 (.slice A ks.length d) ks.length xs ∧ (∀ j t, ks[j]? = some t → OVa w t (part4 xs j) (fs j)) ∧ (blk L ++ blk A ++ (List.range ks.length).flatMap fs).Nodup := by
  cases h with
  | node a ks L A c d xs fs h0 h1 h2 h3 h4 h5 => exact ⟨L, A, c, d, xs, fs, rfl, rfl, h0, h1, h2, h3, h4, h5⟩
end Go.Proofs.Ytlcpekpgkllbkaa

/-
  The walks of the laws' markValueS, markValue, heldValueS, heldValue.
-/
namespace Go.Proofs.Ytlcpekpgkllbkaa
open Go.RowKit

set_option maxRecDepth 100000 in
set_option maxHeartbeats 3000000 in
theorem markVKids_any (ks : List Va) (ih : ∀ t ∈ ks, MarkVKids t.kids) : MarkVKids ks := by
  intro w A d xs fs k0 hown hkids hnd hlen hk0 hkb
  have HI := Lib.hid ih
  have HND := Lib.hid hnd
  have HOW := Lib.hid hown
  have HKD := Lib.hid hkids
  clear ih hnd hown hkids
  go_enter Try.func27, Try.ntmps27
  go_wp2_with fail
  go_loopw [1, 5] (fun kv iv wr => MVInv ks w A d fs k0 kv iv wr) (fun _ iv _ => ks.length - (intOf iv).toNat)
  case atStart => exact ⟨0, [], xs, Nat.zero_le _, rfl, by simp [cntVK], rfl, by simpa [cntVK] using HeldVK.nil k0, HOW.out, fun j t hj => by simp at hj, fun j t _ hj => HKD.out j t hj, Only.refl _ _⟩
  case round =>
    obtain ⟨i, ks', ys, hi, rfl, rfl, hkl, hheld, hrow, hdone, hrest, honly⟩ := hrel
    have hyl : ys.length = ks.length * 4 := hrow.1
    by_cases hlt : i < ks.length
    · have hold := hrest i ks[i] (Nat.le_refl _) (List.getElem?_eq_getElem hlt)
      obtain ⟨a, cs, hnode⟩ : ∃ a cs, ks[i] = .node a cs := ⟨_, _, (match ks[i] with | .node a cs => rfl : ks[i] = .node ks[i].top ks[i].kids)⟩
      rw [hnode] at hold
      obtain ⟨L, B, c, d', zs, fs2, hpart, hfs, haok, hl, hcl, hrow2, hkids2, hnd2⟩ := ovtree hold
      have hct := cntVK_take ks i hlt
      have hcle := cntVK_take_le ks (i + 1)
      rw [hnode, cntV_node] at hct
      have hK := HI.out ks[i] (List.getElem_mem hlt)
      rw [hnode] at hK
      obtain ⟨g, rfl⟩ : ∃ g, A = some ⟨g, 0, none⟩ := by
        rcases hrow.2 with ⟨_, h0⟩ | ⟨g, _, _, hv, _⟩
        · omega
        · injection hv with e _ _
          exact ⟨g, e⟩
      obtain ⟨n, hn⟩ : ∃ n, a.labels.length = n := ⟨_, rfl⟩
      have HN := Lib.hid hn
      rw [hn] at hpart hl hct
      obtain ⟨T, hT⟩ : ∃ T, cntVK (ks.take i) = T := ⟨_, rfl⟩
      rw [hT] at hct
      obtain ⟨w1, hw1⟩ : ∃ w1, (wr.setCell ⟨g, i * 4, none⟩ (.int .i64 (k0 + T))).setCell ⟨g, i * 4 + 1, none⟩ (.int .i64 (k0 + T + 1)) = w1 := ⟨_, rfl⟩
      have hst0 := hrow.stored (i * 4) (.int .i64 (k0 + (T : Int)))
      have hst1 := hst0.1.stored (i * 4 + 1) (.int .i64 (k0 + (T : Int) + 1))
      have hst := And.intro hst1.1 (grown_set (j := i * 4 + 1) hst0.2 (.int .i64 (k0 + (T : Int) + 1)))
      rw [hw1] at hst
      have hgA : g ∈ blk (some (⟨g, 0, none⟩ : Addr)) := by simp [blk]
      obtain ⟨_, hndF, hdis⟩ := List.nodup_append.1 HND.out
      have hgf : g ∉ fs i := fun hm => hdis g hgA g (flat_mem hlt hm) rfl
      have ho1 : Only [g] wr w1 := Only.of_grown hst.2 (fun x e => by injection e with e; simp [e])
      rw [hfs] at hgf
      have hl1 := own_only hl ho1 (fun b hb hm => by
        have e : b = g := by simpa using hm
        subst e
        exact hgf (by simp [hb]))
      have hp0 : ys[i * 4]? = some (.int .i64 a.kind) := by have := part4_get ys i 0 (by omega); rw [hpart] at this; simpa using this.symm
      have hpn : ys[i * 4 + 1]? = some (.int .i64 a.num) := by have := part4_get ys i 1 (by omega); rw [hpart] at this; simpa using this.symm
      have hp1 : ys[i * 4 + 2]? = some (.slice L n c) := by have := part4_get ys i 2 (by omega); rw [hpart] at this; simpa using this.symm
      have hp2 : ys[i * 4 + 3]? = some (.slice B cs.length d') := by have := part4_get ys i 3 (by omega); rw [hpart] at this; simpa using this.symm
      have q0 : wr.cell? ⟨g, i * 4, none⟩ = some (.int .i64 a.kind) := by rw [hrow.cellAt _ (by omega)]; exact hp0
      have f0 := hrow.frozenAt (i * 4)
      have qn : wr.cell? ⟨g, i * 4 + 1, none⟩ = some (.int .i64 a.num) := by rw [hrow.cellAt _ (by omega)]; exact hpn
      have f1 := hrow.frozenAt (i * 4 + 1)
      have q1 : wr.cell? ⟨g, i * 4 + 2, none⟩ = some (.slice L n c) := by rw [hrow.cellAt _ (by omega)]; exact hp1
      have HC1 := Lib.hid (markS_any L n c (k0 + T + 2) _ w1 hl1 (strs_strs _) (by omega) (by omega))
      have HALL : Hid (∀ (w2 : World), w2.ownsRow 0 9 1 (.slice L n c) n (marks (k0 + T + 2) n) → Only (blk L) w1 w2 → w2.cell? ⟨g, i * 4 + 3, none⟩ = some (.slice B cs.length d') ∧
          Calls Try.prog 27 #[.slice B cs.length d', .int .i64 (k0 + T + 2 + n)] w2 (fun e w3 => ∃ v : Int, e = .returned (.int .i64 v) ∧ ∀ kv iv, kv = Value.int .i64 v → iv = Value.int .i64 ((i + 1 : Nat) : Int) → MVInv ks w (some ⟨g, 0, none⟩) d fs k0 kv iv w3)) := Lib.hid (by
        intro w2 hl2 ho2
        have hnd3 := hnd2
        obtain ⟨nL, nB, nF, dLB, dLF, dBF⟩ := nodup3.1 hnd3
        have hgL : g ∉ blk L := fun hm => hgf (by simp [hm])
        have hr2 : w2.ownsRow 0 92 4 (.slice (some ⟨g, 0, none⟩) ks.length d) ks.length ((ys.set (i * 4) (.int .i64 (k0 + T))).set (i * 4 + 1) (.int .i64 (k0 + T + 1))) := own_only hst.1 ho2 (fun b hb hm => by
          have e : b = g := by simpa [blk] using hb
          subst e
          exact hgL hm)
        have hgB : ∀ b ∈ blk B, b ∉ [g] := fun b hb hm => by
          have e : b = g := by simpa using hm
          subst e
          exact hgf (by simp [hb])
        have hgF : ∀ b ∈ (List.range cs.length).flatMap fs2, b ∉ [g] := fun b hb hm => by
          have e : b = g := by simpa using hm
          subst e
          exact hgf (List.mem_append.2 (.inr hb))
        have hrow22 := own_only (own_only hrow2 ho1 hgB) ho2 (fun b hb hm => dLB b hm hb)
        have hk22 : ∀ j t, cs[j]? = some t → OVa w2 t (part4 zs j) (fs2 j) := fun j t hj =>
          have hjl := (List.getElem?_eq_some_iff.1 hj).1
          ((hkids2 j t hj).only ho1 (fun b hb => hgF b (flat_mem hjl hb))).only ho2 (fun b hb hm => dLF b hm (flat_mem hjl hb))
        refine ⟨by rw [hr2.cellAt _ (by omega), List.getElem?_set_ne (by omega), List.getElem?_set_ne (by omega)]; exact hp2, ?_⟩
        refine (hK w2 B d' zs fs2 (k0 + T + 2 + n) hrow22 hk22 (List.nodup_append.2 ⟨nB, nF, fun x hx y hy e => dBF x hx (e ▸ hy)⟩) hcl (by omega) (by show k0 + (T : Int) + 2 + n + cntVK cs ≤ _; omega)).mono ?_
        rintro e w3 ⟨js, ys', rfl, hjl, hheld2, hrow3, hkids3, ho3⟩
        refine ⟨_, rfl, fun kv iv hkv hiv => ?_⟩
        exact mvinv_more (a := a) (cs := cs) (n := n) (w1 := w1) (w2 := w2) (xs := ys) (L := L) (B := B) (c := c) (d' := d') (js := js) (ys' := ys') (fs2 := fs2) rfl HND.out hlt hnode HN.out hfs hk0 hkb hcl hkl hheld hrow hdone hrest honly hpart (by rw [hT]; exact hw1) (by rw [hT]; exact hl2) ho2 hjl (by rw [hT]; exact hheld2) hrow3 hkids3 ho3 (by rw [hT]; exact hkv) hiv)
      have HW1 := Lib.hid hw1
      have hTb : (T : Int) ≤ 1000000000000 := by omega
      have hnb : (n : Int) ≤ 1000000000000 := by omega
      have hkT : k0 + (T : Int) + 2 + n ≤ 1000000000000 := by omega
      rw [hT]
      clear hold hnode hpart hfs haok hl hrow2 hkids2 hnd2 hct hcle hK hn hT hw1 hst hndF hdis hgf ho1 hl1 hst0 hst1 hp0 hpn hp1 hp2 hkl hheld hrow hdone hrest honly hcl hkb
      go_wp2_with fail
      rw [HW1.out, show k0 + (T : Int) + 1 + 1 = k0 + T + 2 by omega]
      refine HC1.out.mono ?_
      rintro e w2 ⟨rfl, hl2, ho2⟩
      obtain ⟨r2, hcall⟩ := HALL.out w2 hl2 ho2
      have HC2 := Lib.hid hcall
      clear hcall hl2 ho2 q0 f0 qn f1 q1 HALL HC1
      go_wp2_with fail
      refine HC2.out.mono ?_
      rintro e w3 ⟨v, rfl, hfin⟩
      have HF := Lib.hid hfin
      clear hfin HC2 r2
      go_wp2_with fail
      go_roundw
      case rel => exact HF.out _ _ rfl (by go_num)
      case measure => simp [intOf]; omega
    · have he : i = ks.length := by omega
      have HF : Hid (MarkedVK ks A d fs k0 w (.returned (.int .i64 (k0 + cntVK (ks.take i)))) wr) := by
        rw [he, List.take_length]
        rw [he, List.take_length] at hheld
        exact ⟨ks', ys, rfl, by omega, hheld, hrow, hdone, honly⟩
      clear he hkl hheld hrow hdone hrest honly
      go_wp2_with fail
      go_ret
      exact HF.out

theorem markVTree : ∀ t : Va, MarkVKids t.kids := by
  refine Tr.ind ?_
  intro a ks ih
  exact markVKids_any ks ih

/-- a type that holds marks: its own kind is as it was -/
def HeldVT (k : Int) (t : Va) (k' : Int) : Prop := ∃ n cs, t = .node ⟨t.top.kind, t.top.num, marksB k n⟩ cs ∧ HeldVK (k + n) cs k'
/-- .. the marks go up to at most K -/
def MarkedVTK (K : Int) (cs : List Value) (fp : List Nat) (k : Int) (w : World) (e : Ending) (w' : World) : Prop :=
  ∃ (t' : Va) (k' : Int), e = .returned (.int .i64 k') ∧ 0 < k' ∧ k' ≤ K ∧ OVa w' t' cs fp ∧ HeldVT k t' k' ∧ Only fp w w'
def MarkedVT (cs : List Value) (fp : List Nat) (k : Int) (w : World) (e : Ending) (w' : World) : Prop := MarkedVTK 1000000000000 cs fp k w e w'

end Go.Proofs.Ytlcpekpgkllbkaa
