/-
  Merged by program: VaTree, VaMark, MkDd.
-/
import Derived.Test.YtlcpekpgkllbkaaT15
import Derived.Test.YtlcpekpgkllbkaaT19
import Derived.Test.YtlcpekpgkllbkaaT17
import Derived.Test.YtlcpekpgkllbkaaT14

/-
  A value of the call's own, taken apart.
-/
namespace Go.Proofs.Ytlcpekpgkllbkaa
open Go.RowKit

theorem ovtree {w : World} {a : VaA} {ks : List Va} {cs : List Value} {fp : List Nat} (h : OVa w (.node a ks) cs fp) : ∃ (L A : Option Addr) (c d : Nat) (xs : List Value) (fs : Nat → List Nat), cs = [.int .i64 a.kind, .int .i64 a.num, .slice L a.labels.length c, .slice A ks.length d] ∧ fp = blk L ++ blk A ++ (List.range ks.length).flatMap fs ∧ a.ok ∧
    w.ownsRow 0 9 1 (.slice L a.labels.length c) a.labels.length (a.labels.map Value.string) ∧ ks.length ≤ 9223372036854775807 ∧ w.ownsRow 0 92 4 (.slice A ks.length d) ks.length xs ∧ (∀ j t, ks[j]? = some t → OVa w t (part4 xs j) (fs j)) ∧ (blk L ++ blk A ++ (List.range ks.length).flatMap fs).Nodup := by
  cases h with
  | node a ks L A c d xs fs h0 h1 h2 h3 h4 h5 => exact ⟨L, A, c, d, xs, fs, rfl, rfl, h0, h1, h2, h3, h4, h5⟩
end Go.Proofs.Ytlcpekpgkllbkaa

/-
  The walks of the laws' markValueS, markValue, heldValueS, heldValue.
-/
namespace Go.Proofs.Ytlcpekpgkllbkaa
open Go.RowKit

set_option maxRecDepth 100000 in
set_option maxHeartbeats 3000000 in
theorem markVKids_any (ks : List Va) (ih : ∀ t ∈ ks, MarkVKids t.kids) : MarkVKids ks := by
  intro w A d xs fs k0 hown hkids hnd hlen hk0 hkb
  have HI := Lib.hid ih
  have HND := Lib.hid hnd
  have HOW := Lib.hid hown
  have HKD := Lib.hid hkids
  clear ih hnd hown hkids
  go_enter Try.func27, Try.ntmps27
  go_wp2_with fail
  go_loopw [1, 5] (fun kv iv wr => MVInv ks w A d fs k0 kv iv wr) (fun _ iv _ => ks.length - (intOf iv).toNat)
  case atStart => exact ⟨0, [], xs, Nat.zero_le _, rfl, by simp [cntVK], rfl, by simpa [cntVK] using HeldVK.nil k0, HOW.out, fun j t hj => by simp at hj, fun j t _ hj => HKD.out j t hj, Only.refl _ _⟩
  case round =>
    obtain ⟨i, ks', ys, hi, rfl, rfl, hkl, hheld, hrow, hdone, hrest, honly⟩ := hrel
    have hyl : ys.length = ks.length * 4 := hrow.1
    by_cases hlt : i < ks.length
    · have hold := hrest i ks[i] (Nat.le_refl _) (List.getElem?_eq_getElem hlt)
      obtain ⟨a, cs, hnode⟩ : ∃ a cs, ks[i] = .node a cs := ⟨_, _, (match ks[i] with | .node a cs => rfl : ks[i] = .node ks[i].top ks[i].kids)⟩
      rw [hnode] at hold
      obtain ⟨L, B, c, d', zs, fs2, hpart, hfs, haok, hl, hcl, hrow2, hkids2, hnd2⟩ := ovtree hold
      have hct := cntVK_take ks i hlt
      have hcle := cntVK_take_le ks (i + 1)
      rw [hnode, cntV_node] at hct
      have hK := HI.out ks[i] (List.getElem_mem hlt)
      rw [hnode] at hK
      obtain ⟨g, rfl⟩ : ∃ g, A = some ⟨g, 0, none⟩ := by
        rcases hrow.2 with ⟨_, h0⟩ | ⟨g, _, _, hv, _⟩
        · omega
        · injection hv with e _ _
          exact ⟨g, e⟩
      obtain ⟨n, hn⟩ : ∃ n, a.labels.length = n := ⟨_, rfl⟩
      have HN := Lib.hid hn
      rw [hn] at hpart hl hct
      obtain ⟨T, hT⟩ : ∃ T, cntVK (ks.take i) = T := ⟨_, rfl⟩
      rw [hT] at hct
      obtain ⟨w1, hw1⟩ : ∃ w1, (wr.setCell ⟨g, i * 4, none⟩ (.int .i64 (k0 + T))).setCell ⟨g, i * 4 + 1, none⟩ (.int .i64 (k0 + T + 1)) = w1 := ⟨_, rfl⟩
      have hst0 := hrow.stored (i * 4) (.int .i64 (k0 + (T : Int)))
      have hst1 := hst0.1.stored (i * 4 + 1) (.int .i64 (k0 + (T : Int) + 1))
      have hst := And.intro hst1.1 (grown_set (j := i * 4 + 1) hst0.2 (.int .i64 (k0 + (T : Int) + 1)))
      rw [hw1] at hst
      have hgA : g ∈ blk (some (⟨g, 0, none⟩ : Addr)) := by simp [blk]
      obtain ⟨_, hndF, hdis⟩ := List.nodup_append.1 HND.out
      have hgf : g ∉ fs i := fun hm => hdis g hgA g (flat_mem hlt hm) rfl
      have ho1 : Only [g] wr w1 := Only.of_grown hst.2 (fun x e => by injection e with e; simp [e])
      rw [hfs] at hgf
      have hl1 := own_only hl ho1 (fun b hb hm => by
        have e : b = g := by simpa using hm
        subst e
        exact hgf (by simp [hb]))
      have hp0 : ys[i * 4]? = some (.int .i64 a.kind) := by have := part4_get ys i 0 (by omega); rw [hpart] at this; simpa using this.symm
      have hpn : ys[i * 4 + 1]? = some (.int .i64 a.num) := by have := part4_get ys i 1 (by omega); rw [hpart] at this; simpa using this.symm
      have hp1 : ys[i * 4 + 2]? = some (.slice L n c) := by have := part4_get ys i 2 (by omega); rw [hpart] at this; simpa using this.symm
      have hp2 : ys[i * 4 + 3]? = some (.slice B cs.length d') := by have := part4_get ys i 3 (by omega); rw [hpart] at this; simpa using this.symm
      have q0 : wr.cell? ⟨g, i * 4, none⟩ = some (.int .i64 a.kind) := by rw [hrow.cellAt _ (by omega)]; exact hp0
      have f0 := hrow.frozenAt (i * 4)
      have qn : wr.cell? ⟨g, i * 4 + 1, none⟩ = some (.int .i64 a.num) := by rw [hrow.cellAt _ (by omega)]; exact hpn
      have f1 := hrow.frozenAt (i * 4 + 1)
      have q1 : wr.cell? ⟨g, i * 4 + 2, none⟩ = some (.slice L n c) := by rw [hrow.cellAt _ (by omega)]; exact hp1
      have HC1 := Lib.hid (markS_any L n c (k0 + T + 2) _ w1 hl1 (strs_strs _) (by omega) (by omega))
      have HALL : Hid (∀ (w2 : World), w2.ownsRow 0 9 1 (.slice L n c) n (marks (k0 + T + 2) n) → Only (blk L) w1 w2 → w2.cell? ⟨g, i * 4 + 3, none⟩ = some (.slice B cs.length d') ∧
          Calls Try.prog 27 #[.slice B cs.length d', .int .i64 (k0 + T + 2 + n)] w2 (fun e w3 => ∃ v : Int, e = .returned (.int .i64 v) ∧ ∀ kv iv, kv = Value.int .i64 v → iv = Value.int .i64 ((i + 1 : Nat) : Int) → MVInv ks w (some ⟨g, 0, none⟩) d fs k0 kv iv w3)) := Lib.hid (by
        intro w2 hl2 ho2
        have hnd3 := hnd2
        obtain ⟨nL, nB, nF, dLB, dLF, dBF⟩ := nodup3.1 hnd3
        have hgL : g ∉ blk L := fun hm => hgf (by simp [hm])
        have hr2 : w2.ownsRow 0 92 4 (.slice (some ⟨g, 0, none⟩) ks.length d) ks.length ((ys.set (i * 4) (.int .i64 (k0 + T))).set (i * 4 + 1) (.int .i64 (k0 + T + 1))) := own_only hst.1 ho2 (fun b hb hm => by
          have e : b = g := by simpa [blk] using hb
          subst e
          exact hgL hm)
        have hgB : ∀ b ∈ blk B, b ∉ [g] := fun b hb hm => by
          have e : b = g := by simpa using hm
          subst e
          exact hgf (by simp [hb])
        have hgF : ∀ b ∈ (List.range cs.length).flatMap fs2, b ∉ [g] := fun b hb hm => by
          have e : b = g := by simpa using hm
          subst e
          exact hgf (List.mem_append.2 (.inr hb))
        have hrow22 := own_only (own_only hrow2 ho1 hgB) ho2 (fun b hb hm => dLB b hm hb)
        have hk22 : ∀ j t, cs[j]? = some t → OVa w2 t (part4 zs j) (fs2 j) := fun j t hj =>
          have hjl := (List.getElem?_eq_some_iff.1 hj).1
          ((hkids2 j t hj).only ho1 (fun b hb => hgF b (flat_mem hjl hb))).only ho2 (fun b hb hm => dLF b hm (flat_mem hjl hb))
        refine ⟨by rw [hr2.cellAt _ (by omega), List.getElem?_set_ne (by omega), List.getElem?_set_ne (by omega)]; exact hp2, ?_⟩
        refine (hK w2 B d' zs fs2 (k0 + T + 2 + n) hrow22 hk22 (List.nodup_append.2 ⟨nB, nF, fun x hx y hy e => dBF x hx (e ▸ hy)⟩) hcl (by omega) (by show k0 + (T : Int) + 2 + n + cntVK cs ≤ _; omega)).mono ?_
        rintro e w3 ⟨js, ys', rfl, hjl, hheld2, hrow3, hkids3, ho3⟩
        refine ⟨_, rfl, fun kv iv hkv hiv => ?_⟩
        exact mvinv_more (a := a) (cs := cs) (n := n) (w1 := w1) (w2 := w2) (xs := ys) (L := L) (B := B) (c := c) (d' := d') (js := js) (ys' := ys') (fs2 := fs2) rfl HND.out hlt hnode HN.out hfs hk0 hkb hcl hkl hheld hrow hdone hrest honly hpart (by rw [hT]; exact hw1) (by rw [hT]; exact hl2) ho2 hjl (by rw [hT]; exact hheld2) hrow3 hkids3 ho3 (by rw [hT]; exact hkv) hiv)
      have HW1 := Lib.hid hw1
      have hTb : (T : Int) ≤ 1000000000000 := by omega
      have hnb : (n : Int) ≤ 1000000000000 := by omega
      have hkT : k0 + (T : Int) + 2 + n ≤ 1000000000000 := by omega
      rw [hT]
      clear hold hnode hpart hfs haok hl hrow2 hkids2 hnd2 hct hcle hK hn hT hw1 hst hndF hdis hgf ho1 hl1 hst0 hst1 hp0 hpn hp1 hp2 hkl hheld hrow hdone hrest honly hcl hkb
      go_wp2_with fail
      rw [HW1.out, show k0 + (T : Int) + 1 + 1 = k0 + T + 2 by omega]
      refine HC1.out.mono ?_
      rintro e w2 ⟨rfl, hl2, ho2⟩
      obtain ⟨r2, hcall⟩ := HALL.out w2 hl2 ho2
      have HC2 := Lib.hid hcall
      clear hcall hl2 ho2 q0 f0 qn f1 q1 HALL HC1
      go_wp2_with fail
      refine HC2.out.mono ?_
      rintro e w3 ⟨v, rfl, hfin⟩
      have HF := Lib.hid hfin
      clear hfin HC2 r2
      go_wp2_with fail
      go_roundw
      case rel => exact HF.out _ _ rfl (by go_num)
      case measure => simp [intOf]; omega
    · have he : i = ks.length := by omega
      have HF : Hid (MarkedVK ks A d fs k0 w (.returned (.int .i64 (k0 + cntVK (ks.take i)))) wr) := by
        rw [he, List.take_length]
        rw [he, List.take_length] at hheld
        exact ⟨ks', ys, rfl, by omega, hheld, hrow, hdone, honly⟩
      clear he hkl hheld hrow hdone hrest honly
      go_wp2_with fail
      go_ret
      exact HF.out

theorem markVTree : ∀ t : Va, MarkVKids t.kids := by
  refine Tr.ind ?_
  intro a ks ih
  exact markVKids_any ks ih

/-- a type that holds marks: its own kind is as it was -/
def HeldVT (k : Int) (t : Va) (k' : Int) : Prop := ∃ n cs, t = .node ⟨t.top.kind, t.top.num, marksB k n⟩ cs ∧ HeldVK (k + n) cs k'
/-- .. the marks go up to at most K -/
def MarkedVTK (K : Int) (cs : List Value) (fp : List Nat) (k : Int) (w : World) (e : Ending) (w' : World) : Prop :=
  ∃ (t' : Va) (k' : Int), e = .returned (.int .i64 k') ∧ 0 < k' ∧ k' ≤ K ∧ OVa w' t' cs fp ∧ HeldVT k t' k' ∧ Only fp w w'
def MarkedVT (cs : List Value) (fp : List Nat) (k : Int) (w : World) (e : Ending) (w' : World) : Prop := MarkedVTK 1000000000000 cs fp k w e w'

end Go.Proofs.Ytlcpekpgkllbkaa

/-
  The laws' markDB on a database of the call's own: which blocks turn, and what lies there then.
-/
namespace Go.Proofs.Ytlcpekpgkllbkaa
open Go.RowKit

/-- how many marks a table takes -/
def cntDd (d : Dd) : Nat := 1 + cntVK d.2
def cntDb (t : Db) : Nat := (t.map cntDd).sum
def mtextB (k : Int) : ByteArray := ⟨(mtext k).toArray⟩
/-- the tables hold the marks from k on, k1 is the next -/
inductive HeldDd : Int → Db → Int → Prop where
  | nil (k : Int) : HeldDd k [] k
  | cons (k k1 k2 : Int) (vs : List Va) (ds : Db) (h1 : HeldVK (k + 1) vs k1) (h2 : HeldDd k1 ds k2) : HeldDd k ((mtextB k, vs) :: ds) k2
theorem HeldDd.snoc {k k1 k2 : Int} {ds : Db} {vs : List Va} (h : HeldDd k ds k1) (h2 : HeldVK (k1 + 1) vs k2) : HeldDd k (ds ++ [(mtextB k1, vs)]) k2 := by
  induction h with
  | nil k => exact .cons k k2 k2 vs [] h2 (.nil _)
  | cons k k1 k3 us ds h1 _ ih => exact .cons k k1 k2 us _ h1 (ih h2)
/-- the tables of a database, marked -/
def MarkedDd (xs : Db) (A : Option Addr) (d : Nat) (fp : List Nat) (k : Int) (w : World) (e : Ending) (w' : World) : Prop :=
  ∃ xs' : Db, e = .returned (.int .i64 (k + cntDb xs)) ∧ xs'.length = xs.length ∧ HeldDd k xs' (k + cntDb xs) ∧ OL kDd 86 w' xs' (.slice A xs.length d) fp ∧ Only fp w w'
/-- what the loop keeps -/
def MdInv (xs : Db) (w : World) (A : Option Addr) (d : Nat) (fs : Nat → List Nat) (fp : List Nat) (k0 : Int) (kv iv : Value) (wr : World) : Prop :=
  ∃ (i : Nat) (cells : List Value) (xs' : Db), i ≤ xs.length ∧ iv = .int .i64 (i : Int) ∧ kv = .int .i64 (k0 + (((xs.take i).map cntDd).sum : Nat)) ∧ xs'.length = i ∧ HeldDd k0 xs' (k0 + (((xs.take i).map cntDd).sum : Nat)) ∧ wr.ownsRow 0 86 2 (.slice A xs.length d) xs.length cells ∧
    (∀ (j : Nat) (x : Dd), xs'[j]? = some x → kDd.O wr x (partK 2 cells j) (fs j)) ∧ (∀ (j : Nat) (x : Dd), i ≤ j → xs[j]? = some x → kDd.O wr x (partK 2 cells j) (fs j)) ∧ Only fp w wr

set_option maxRecDepth 100000 in
set_option maxHeartbeats 3200000 in
theorem markDdS_any (xs : Db) (w : World) (A : Option Addr) (d : Nat) (fp : List Nat) (k0 : Int) (h : OL kDd 86 w xs (.slice A xs.length d) fp) (hk0 : 0 < k0) (hkb : k0 + cntDb xs ≤ 1000000000000) :
    Calls Try.prog 66 #[.slice A xs.length d, .int .i64 k0] w (MarkedDd xs A d fp k0 w) := by
  obtain ⟨_, cells, fs, hlen, hown, hkids, hfp, hnd⟩ := h.parts
  have HND := Lib.hid hnd
  have HFP := Lib.hid hfp
  have HI0 : Hid (MdInv xs w A d fs fp k0 (.int .i64 k0) (.int .i64 0) w) := Lib.hid ⟨0, cells, [], Nat.zero_le _, rfl, by simp, rfl, by simpa using HeldDd.nil k0, hown, fun j x hj => by simp at hj, fun j x _ hj => hkids j x hj, Only.refl _ _⟩
  clear h hown hkids hnd
  go_enter Try.func66, Try.ntmps66
  go_wp2_with fail
  go_loopw [1, 5] (fun kv iv wr => MdInv xs w A d fs fp k0 kv iv wr) (fun _ iv _ => xs.length - (intOf iv).toNat)
  case atStart => exact HI0.out
  case round =>
    obtain ⟨i, ys, xs', hi, rfl, rfl, hxl, hheld, hrow, hdone, hrest, honly⟩ := hrel
    have hyl : ys.length = xs.length * 2 := hrow.1
    by_cases hlt : i < xs.length
    · have hold := hrest i xs[i] (Nat.le_refl _) (List.getElem?_eq_getElem hlt)
      obtain ⟨TB, tb, td, hpart, hsz, hvs⟩ := kDd_oopen hold
      obtain ⟨s0, es0, hol⟩ := hvs
      injection es0 with es0 _
      subst es0
      obtain ⟨rfl, zs, fs2, hcl, hrow2, hkids2, hfs, hnd2⟩ := hol.parts
      obtain ⟨us, hus⟩ : ∃ us, xs[i].2 = us := ⟨_, rfl⟩
      rw [hus] at hpart hcl hrow2 hkids2 hfs
      have hct := sum_take_succ cntDd xs i hlt
      have hcle := sum_take_le cntDd xs (i + 1)
      have hci : cntDd xs[i] = 1 + cntVK us := by unfold cntDd; rw [hus]
      have hsum : cntDb xs = (xs.map cntDd).sum := rfl
      rw [hci] at hct
      have hK : MarkVKids us := markVKids_any us fun t _ => markVTree t
      obtain ⟨g, rfl⟩ : ∃ g, A = some ⟨g, 0, none⟩ := by
        rcases hrow.2 with ⟨_, h0⟩ | ⟨g, _, _, hv, _⟩
        · omega
        · injection hv with e _ _
          exact ⟨g, e⟩
      obtain ⟨T, hT⟩ : ∃ T, ((xs.take i).map cntDd).sum = T := ⟨_, rfl⟩
      rw [hT] at hct hheld
      have hgf : g ∉ fs i := fun hm => by
        have h1 := HND.out
        rw [HFP.out] at h1
        exact (List.nodup_append.1 h1).2.2 g (by simp [blk]) g (flat_mem hlt hm) rfl
      have hp : ∀ q, q < 2 → ys[i * 2 + q]? = [Value.string xs[i].1, .slice TB us.length td][q]? := fun q hq => by
        have h1 := partK_get 2 ys i q hq
        rw [show partK 2 ys i = partK 2 ys i from rfl, hpart] at h1
        exact h1.symm
      have hp0 := hp 0 (by omega)
      have hp1 := hp 1 (by omega)
      have q0 : wr.cell? ⟨g, i * 2, none⟩ = some (.string xs[i].1) := by rw [hrow.cellAt _ (by omega)]; exact hp0
      have q1 : wr.cell? ⟨g, i * 2 + 1, none⟩ = some (.slice TB us.length td) := by rw [hrow.cellAt _ (by omega)]; exact hp1
      have hTb : (T : Int) ≤ 1000000000000 := by omega
      have hkT : k0 + (T : Int) + 1 ≤ 1000000000000 := by omega
      have HMT := Lib.hid (markText_any (k0 + T) (by omega) (by omega) wr)
      have HALL : Hid (∀ w1 : World, Below wr.heap.size wr w1 → w1.cell? ⟨g, i * 2, none⟩ = some (.string xs[i].1) ∧ w1.cell? ⟨g, i * 2 + 1, none⟩ = some (.slice TB us.length td) ∧ w1.frozen? ⟨g, i * 2, none⟩ = false ∧
          ∃ w3, w1.setCell ⟨g, i * 2, none⟩ (.string (mtextB (k0 + T))) = w3 ∧
            Calls Try.prog 27 #[.slice TB us.length td, .int .i64 (k0 + T + 1)] w3 (fun e w5 => ∃ v : Int, e = .returned (.int .i64 v) ∧ ∀ kv iv, kv = Value.int .i64 v → iv = Value.int .i64 ((i + 1 : Nat) : Int) → MdInv xs w (some ⟨g, 0, none⟩) d fs fp k0 kv iv w5)) := Lib.hid (by
        intro w1 hb1
        have up : ∀ (q : Addr) (u : Value), wr.cell? q = some u → w1.cell? q = some u := fun q u h => (hb1.cell (World.block_lt_of_cell? wr _ h)).trans h
        have hr1 : w1.ownsRow 0 86 2 (.slice (some ⟨g, 0, none⟩) xs.length d) xs.length ys := own_keep hrow (row := none) (grown_none hb1) (fun b _ => by simp)
        have hst3 := hr1.stored (i * 2) (.string (mtextB (k0 + T)))
        obtain ⟨w3, hw3⟩ : ∃ w3, w1.setCell ⟨g, i * 2, none⟩ (.string (mtextB (k0 + T))) = w3 := ⟨_, rfl⟩
        rw [hw3] at hst3
        have ho3 : Only [g] wr w3 := (Only.of_below hb1).trans (Only.of_grown hst3.2 (fun x e => by injection e with e; simp [e]))
        have hgx : ∀ b, b ∈ fs i → b ∉ [g] := fun b hb hm => by
          have e : b = g := by simpa using hm
          subst e
          exact hgf hb
        have hrow24 := own_only hrow2 ho3 (fun b hb => hgx b (by rw [hfs]; simp [hb]))
        have hk24 : ∀ j t, us[j]? = some t → OVa w3 t (part4 zs j) (fs2 j) := fun j t hj =>
          have hjl := (List.getElem?_eq_some_iff.1 hj).1
          OVa.only (hkids2 j t hj) ho3 (fun b hb => hgx b (by rw [hfs]; exact List.mem_append.2 (.inr (flat_mem hjl hb))))
        refine ⟨up _ _ q0, up _ _ q1, hr1.frozenAt _, w3, hw3, (hK w3 TB td zs fs2 (k0 + T + 1) hrow24 hk24 (by rw [← hfs]; exact hnd2) hcl (by omega) (by omega)).mono ?_⟩
        rintro e w5 ⟨js, ys', rfl, hjl, hheld2, hrow5, hkids5, ho5⟩
        refine ⟨_, rfl, fun kv iv hkv hiv => ?_⟩
        rw [← hfs] at ho5
        have hoAll : Only (g :: fs i) wr w5 := (ho3.more (fun x hx => by simp at hx; simp [hx])).trans (ho5.more (fun x hx => by simp [hx]))
        have hr5 := own_only hst3.1 ho5 (fun b hb hm => by
          have e : b = g := by simpa [blk] using hb
          subst e
          exact hgf hm)
        have hoth : ∀ j, j ≠ i → partK 2 (ys.set (i * 2) (.string (mtextB (k0 + T)))) j = partK 2 ys j := fun j hj => partK_set_other (q := 0) hj (by omega)
        have hkeep : ∀ (j : Nat) (x : Dd), j < xs.length → j ≠ i → kDd.O wr x (partK 2 ys j) (fs j) → kDd.O w5 x (partK 2 (ys.set (i * 2) (.string (mtextB (k0 + T)))) j) (fs j) := fun j x hjx hji hx => by
          rw [hoth j hji]
          refine kDd.only hx hoAll (fun b hb hm => ?_)
          rcases List.mem_cons.1 hm with h | h
          · have h2 := HND.out
            rw [HFP.out] at h2
            exact (List.nodup_append.1 h2).2.2 g (by simp [blk]) b (flat_mem hjx hb) h.symm
          · have h2 := HND.out
            rw [HFP.out] at h2
            exact flat_apart (List.nodup_append.1 h2).2.1 hjx hlt hji hb h
        have hxi : kDd.O w5 (mtextB (k0 + T), js) (partK 2 (ys.set (i * 2) (.string (mtextB (k0 + T)))) i) (fs i) := by
          have e1 : partK 2 (ys.set (i * 2) (.string (mtextB (k0 + T)))) i = [.string (mtextB (k0 + T)), .slice TB js.length td] := by
            apply List.ext_getElem?
            intro q
            by_cases hq : q < 2
            · rw [partK_get _ _ _ _ hq]
              match q, hq with
              | 0, _ => simp [show i * 2 < ys.length by omega]
              | 1, _ =>
                rw [List.getElem?_set_ne (by omega), hp1, hjl]
                rfl
            · rw [List.getElem?_eq_none (by unfold partK; rw [List.length_take]; omega), List.getElem?_eq_none (by simp; omega)]
          rw [e1]
          refine kDd_omake (by have := mtext_len (k0 + T) (by omega) (by omega); show (mtext (k0 + T)).toArray.size ≤ _; rw [List.size_toArray]; omega) ⟨_, rfl, TB, td, ys', fs2, rfl, by rw [hjl]; exact hcl, ?_, fun j t hj => hkids5 j t hj, ?_, hnd2⟩
          · rw [hjl]; exact hrow5
          · rw [hjl]; exact hfs
        refine ⟨i + 1, _, xs' ++ [(mtextB (k0 + T), js)], hlt, hiv, ?_, by simp [hxl], ?_, hr5, fun j x hj => ?_, fun j x hj hx => hkeep j x (List.getElem?_eq_some_iff.1 hx).1 (by omega) (hrest j x (by omega) hx), honly.trans (hoAll.more (fun x hx => ?_))⟩
        · rw [hkv, hct]
          congr 1
          push_cast
          omega
        · rw [hct]
          have h9 := hheld.snoc hheld2
          have e9 : k0 + (T : Int) + 1 + ((cntVK us : Nat) : Int) = k0 + ((T + (1 + cntVK us) : Nat) : Int) := by push_cast; omega
          rw [e9] at h9
          exact h9
        · by_cases e : j = i
          · subst e
            rw [List.getElem?_append_right (by omega), hxl, Nat.sub_self] at hj
            obtain rfl : (mtextB (k0 + T), js) = x := by simpa using hj
            exact hxi
          · have hjl2 : j < xs'.length := by
              have h1 := (List.getElem?_eq_some_iff.1 hj).1
              rw [List.length_append] at h1
              have h2 : [(mtextB (k0 + T), js)].length = 1 := rfl
              omega
            rw [List.getElem?_append_left hjl2] at hj
            exact hkeep j x (by omega) e (hdone j x hj)
        · rw [HFP.out]
          rcases List.mem_cons.1 hx with h | h
          · simp [h, blk]
          · exact List.mem_append.2 (.inr (flat_mem hlt h)))
      rw [hT]
      generalize xs[i].1 = nm at q0 HALL
      generalize us.length = un at q1 HALL
      clear hold hpart hsz hol hcl hrow2 hkids2 hfs hnd2 hct hcle hci hsum hK hT hgf hrow hp hp0 hp1 hrest hdone honly hheld hxl hkb hfp hus
      go_wp2_with fail
      refine HMT.out.mono ?_
      rintro e w1 ⟨rfl, hb1⟩
      obtain ⟨y0, y1, z0, w3, hw3, hc3⟩ := HALL.out w1 hb1
      have HW3 : Hid (w1.setCell ⟨g, i * 2, none⟩ (.string ⟨(mtext (k0 + T)).toArray⟩) = w3) := Lib.hid hw3
      have HC3 := Lib.hid hc3
      clear hw3 hc3 hb1 q0 q1 HALL HMT
      go_wp2_with fail
      rw [HW3.out]
      refine HC3.out.mono ?_
      rintro e w5 ⟨v, rfl, hfin⟩
      have HF := Lib.hid hfin
      clear hfin y0 y1 z0 HC3
      go_wp2_with fail
      go_roundw
      case rel => exact HF.out _ _ rfl (by go_num)
      case measure => simp [intOf]; omega
    · have he : i = xs.length := by omega
      subst he
      have HR : Hid (MarkedDd xs A d fp k0 w (.returned (.int .i64 (k0 + (((xs.take xs.length).map cntDd).sum : Nat)))) wr) := Lib.hid (by
        rw [List.take_length] at hheld ⊢
        refine ⟨xs', rfl, hxl, hheld, ⟨A, d, ys, fs, by rw [hxl], by omega, by rw [hxl]; exact hrow, hdone, by rw [hxl]; exact HFP.out, HND.out⟩, honly⟩)
      clear hrow hrest honly hdone hheld
      go_wp2_with fail
      go_ret
      exact HR.out
end Go.Proofs.Ytlcpekpgkllbkaa
