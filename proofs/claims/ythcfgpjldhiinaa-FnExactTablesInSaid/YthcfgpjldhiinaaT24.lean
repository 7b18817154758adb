/-
  Merged by program: TeTabs.
-/
import Derived.Test.YthcfgpjldhiinaaT10
import Derived.Test.YthcfgpjldhiinaaT20
import Derived.Test.YthcfgpjldhiinaaT11
import Derived.Test.YthcfgpjldhiinaaT4
import Derived.Test.YthcfgpjldhiinaaT17
import Derived.Test.YthcfgpjldhiinaaT23
import Derived.Test.YthcfgpjldhiinaaT19

/-
  The tables of a term; the model's TablesIn.
-/
namespace Go.Proofs.Ythcfgpjldhiinaa
open Go.RowKit

theorem below_box8 (w : World) (cs : Array Value) (t : TypeId) : Below w.heap.size w (w.alloc (.cells cs t)) := (Below.refl _ _).alloc (Nat.le_refl _) _
theorem uq_apart : ∀ (xs o : List ByteArray), (o ++ xs).Nodup → uq o xs = o ++ xs
  | [], o, _ => by simp [uq]
  | x :: r, o, h => by
    have hx : ¬ x ∈ o := fun hm => by
      have := (List.nodup_append.1 h).2.2 x hm x (by simp)
      exact this rfl
    have h2 : ((o ++ [x]) ++ r).Nodup := by simpa using h
    show uq (addU o x) r = _
    rw [addU_new hx, uq_apart r (o ++ [x]) h2]
    simp
theorem uq_own {xs : List ByteArray} (h : xs.Nodup) : uq [] xs = xs := uq_apart xs [] (by simpa using h)

/-- a node's own table -/
def tab0 (a : TeA) : List ByteArray := if a.kind = 12 then [a.name] else []
def Tr.tabs : Te → List ByteArray
  | .node a ks => (ks.attach.map fun ⟨t, _⟩ => t.tabs).foldl uq (tab0 a)
def tabsTo (a : TeA) (ks : List Te) (k : Nat) : List ByteArray := ((ks.take k).map Tr.tabs).foldl uq (tab0 a)
theorem tabs_node (a : TeA) (ks : List Te) : Tr.tabs (.node a ks) = tabsTo a ks ks.length := by
  rw [Tr.tabs, tabsTo, List.take_length]
  congr 1
  exact List.attach_map_val (l := ks) (f := Tr.tabs) ▸ rfl
theorem tabsTo_zero (a : TeA) (ks : List Te) : tabsTo a ks 0 = tab0 a := rfl
theorem tabsTo_succ (a : TeA) (ks : List Te) (k : Nat) (h : k < ks.length) : tabsTo a ks (k + 1) = uq (tabsTo a ks k) ks[k].tabs := by
  unfold tabsTo
  rw [List.take_succ_eq_append_getElem h, List.map_append, List.foldl_append]
  rfl
theorem tab0_nodup (a : TeA) : (tab0 a).Nodup := by unfold tab0; split <;> simp
theorem tab0_len (a : TeA) : (tab0 a).length ≤ 1 := by unfold tab0; split <;> simp
theorem tabsTo_nodup (a : TeA) (ks : List Te) : ∀ k, k ≤ ks.length → (tabsTo a ks k).Nodup
  | 0, _ => tab0_nodup a
  | k + 1, h => by rw [tabsTo_succ a ks k h]; exact nodup_uq (tabsTo_nodup a ks k (by omega))
theorem tabsTo_len (a : TeA) (ks : List Te) (ih : ∀ t ∈ ks, t.tabs.length ≤ t.size) : ∀ k, k ≤ ks.length → (tabsTo a ks k).length ≤ 1 + ((ks.take k).map Tr.size).sum
  | 0, _ => by have := tab0_len a; rw [tabsTo_zero]; simp; omega
  | k + 1, h => by
    have h1 := tabsTo_len a ks ih k (by omega)
    have h2 := uq_len ks[k].tabs (tabsTo a ks k)
    have h3 := sum_take_succ Tr.size ks k h
    have h4 := ih ks[k] (List.getElem_mem h)
    rw [tabsTo_succ a ks k h]
    omega
theorem tabs_len : ∀ t : Te, t.tabs.length ≤ t.size := by
  refine Tr.ind ?_
  intro a ks ih
  have h := tabsTo_len a ks ih ks.length (Nat.le_refl _)
  rw [List.take_length] at h
  rw [tabs_node, size_nodeE]
  exact h

def TbInv (a : TeA) (ks : List Te) (w : World) (K : World → Prop) (v i : Value) (wr : World) : Prop :=
  ∃ k : Nat, k ≤ ks.length ∧ i = .int .i64 k ∧ wr.ownsRow w.heap.size 9 1 v (tabsTo a ks k).length ((tabsTo a ks k).map Value.string) ∧ Below w.heap.size w wr ∧ K wr

set_option maxHeartbeats 3200000 in
set_option maxRecDepth 100000 in
theorem specTabs_any : ∀ (t : Te) (w : World) (cs : List Value), RTe w t cs → t.size ≤ 1048577 → Calls Try.prog 19 #[.agg cs.toArray] w (OwnL t.tabs w) := by
  refine Tr.ind ?_
  intro a ks ih w cs h hs
  obtain ⟨TL, tc, TA, td, L, c, A, d, rfl, hT, k1, k2, k6, _, hp⟩ := h.out
  obtain ⟨i0, hi, hz0, hz1, hz2⟩ := info_parts infoStr
  rw [size_nodeE] at hs
  obtain ⟨W1, hW1⟩ : ∃ W1, w.alloc (.cells #[.int .i64 a.kind, .string a.name, .int .i64 a.num, .int .i64 a.type.top.kind, .slice TL a.type.top.labels.length tc, .slice TA a.type.kids.length td, .slice L a.labels.length c, .slice A ks.length d] 38) = W1 := ⟨_, rfl⟩
  obtain ⟨H, hH⟩ : ∃ H, w.heap.size = H := ⟨_, rfl⟩
  have hb0 : Below w.heap.size w W1 := by rw [← hW1]; exact (Below.refl _ _).alloc (Nat.le_refl _) _
  have b0 : Box8 W1 H 38 (.int .i64 a.kind) (.string a.name) (.int .i64 a.num) (.int .i64 a.type.top.kind) (.slice TL a.type.top.labels.length tc) (.slice TA a.type.kids.length td) (.slice L a.labels.length c) (.slice A ks.length d) := by rw [← hW1, ← hH]; exact Box8.new w _ _ _ _ _ _ _ _ _
  obtain ⟨W2, hW2⟩ : ∃ W2, W1.alloc (.cells #[] 9) = W2 := ⟨_, rfl⟩
  have hz1' : W1.heap.size = H + 1 := by rw [← hW1, ← hH]; simp
  have hb02 : Below w.heap.size w W2 := by rw [← hW2]; exact hb0.alloc hb0.size _
  have bx2 : Box8 W2 H 38 (.int .i64 a.kind) (.string a.name) (.int .i64 a.num) (.int .i64 a.type.top.kind) (.slice TL a.type.top.labels.length tc) (.slice TA a.type.kids.length td) (.slice L a.labels.length c) (.slice A ks.length d) := by rw [← hW2]; exact b0.alloc _
  have ho2 : W2.ownsRow w.heap.size 9 1 (.slice (some ⟨W1.heap.size, 0, none⟩) 0 0) 0 [] := by
    rw [← hW2]
    exact own_mono (World.ownsRow_made W1 #[] 0 (Nat.le_refl _) (by unfold maxLen; omega) rfl) hb0.size
  have hz2' : W2.heap.size = H + 1 + 1 := by rw [← hW2]; simp [hz1']
  rw [hz1'] at ho2
  have HZ2 := Lib.hid hz2'
  have HP := Lib.hid hp
  have HI := Lib.hid ih
  have HB0 := Lib.hid hb0
  have HB2 := Lib.hid hb02
  have HW1 := Lib.hid hW1
  have HW2 := Lib.hid hW2
  have BX := Lib.hid bx2
  have HS := Lib.hid hs
  have HO := Lib.hid ho2
  have HZ := Lib.hid hz1'
  have x0 := b0.c0
  have y0 := bx2.c0
  have y1 := bx2.c1
  obtain ⟨K, hK⟩ : ∃ K : World → Prop, K = fun W => Box8 W H 38 (.int .i64 a.kind) (.string a.name) (.int .i64 a.num) (.int .i64 a.type.top.kind) (.slice TL a.type.top.labels.length tc) (.slice TA a.type.kids.length td) (.slice L a.labels.length c) (.slice A ks.length d) := ⟨_, rfl⟩
  have HK := Lib.hid (fun W (h : K W) => (show Box8 W H 38 (.int .i64 a.kind) (.string a.name) (.int .i64 a.num) (.int .i64 a.type.top.kind) (.slice TL a.type.top.labels.length tc) (.slice TA a.type.kids.length td) (.slice L a.labels.length c) (.slice A ks.length d) from by rw [hK] at h; exact h))
  have HKK : Hid (∀ W W', K W → Below W.heap.size W W' → K W') := Lib.hid (fun W W' h hb => by rw [hK] at h ⊢; exact Box8.under h hb (Box8.lt h))
  have HK2 : Hid (K W2) := Lib.hid (by rw [hK]; exact bx2)
  have HKG : Hid (∀ W W' row, K W → W.grownBy W' row → some H ≠ row → K W') := Lib.hid (fun W W' row h hg hne => by rw [hK] at h ⊢; exact Box8.grown h hg hne)
  have HFIN : Hid (∀ (v : Value) (wr : World), wr.ownsRow w.heap.size 9 1 v (tab0 a).length ((tab0 a).map Value.string) → Below w.heap.size w wr → K wr → TbInv a ks w K v (.int .i64 0) wr) := Lib.hid (fun v wr h1 h2 h3 => ⟨0, Nat.zero_le _, rfl, h1, h2, h3⟩)
  have HLOOP : Hid (∀ (k : Nat) (hk : k < ks.length) (wr : World) (V : Option Addr) (lc : Nat), wr.ownsRow w.heap.size 9 1 (.slice V (tabsTo a ks k).length lc) (tabsTo a ks k).length ((tabsTo a ks k).map Value.string) → Below w.heap.size w wr → K wr → ∀ w2 B lb, w2.ownsRow wr.heap.size 9 1 (.slice B ks[k].tabs.length lb) ks[k].tabs.length (ks[k].tabs.map Value.string) → Below wr.heap.size wr w2 →
      Calls Try.prog 42 #[.slice V (tabsTo a ks k).length lc, .slice B ks[k].tabs.length lb] w2 (fun e w3 => ∃ v, e = .returned v ∧ ∀ i, i = Value.int .i64 ((k + 1 : Nat) : Int) → TbInv a ks w K v i w3)) := Lib.hid (by
    intro k hk wr V lc ho hb hKw w2 B lb hoB hb2
    have h1 := tabsTo_len a ks (fun t _ => tabs_len t) k (by omega)
    have h2 := tabs_len ks[k]
    have h3 := sum_take_succ Tr.size ks k hk
    have h4 := sum_take_le Tr.size ks (k + 1)
    have h5 : 1 ≤ ks[k].size := by cases ks[k] with | node a' ks' => rw [size_nodeE]; omega
    have hu := specUnite_any V B lc lb (tabsTo a ks k) ks[k].tabs w2 (Sl.of_own (own_below ho hb2)) (Sl.of_own hoB) (by omega) (by omega)
    rw [uq_own (tabsTo_nodup a ks k (by omega)), ← tabsTo_succ a ks k hk] at hu
    refine hu.mono fun e w3 hx => ?_
    obtain ⟨V3, c3, he, ho3, hb3⟩ := hx
    have hbw2 := hb.trans (hb2.mono hb.size)
    exact ⟨_, he, fun i hi => ⟨k + 1, hk, hi, own_mono ho3 hbw2.size, hbw2.trans (hb3.mono hbw2.size), HKK.out _ _ (HKK.out _ _ hKw hb2) hb3⟩⟩)
  clear hp ih hb0 b0 hW1 hW2 k1 k2 h hT hs hb02 bx2 ho2 hz1' hz2' hK
  have HTAIL : Hid (∀ (k : Nat) (wr : World) (V : Option Addr) (lc : Nat), k = ks.length → wr.ownsRow w.heap.size 9 1 (.slice V (tabsTo a ks k).length lc) (tabsTo a ks k).length ((tabsTo a ks k).map Value.string) → Below w.heap.size w wr → OwnL (Tr.tabs (.node a ks)) w (.returned (.slice V (tabsTo a ks k).length lc)) wr) := Lib.hid (by
    intro k wr V lc hk ho hb
    subst hk
    rw [tabs_node]
    exact ⟨V, lc, rfl, ho, hb⟩)
  obtain ⟨N, hN⟩ : ∃ N, Tr.tabs (.node a ks) = N := ⟨_, rfl⟩
  rw [hN] at HTAIL ⊢
  clear hN
  go_enter Try.func19, Try.ntmps19
  by_cases hk12 : a.kind = 12
  · have e0 : tab0 a = [a.name] := by unfold tab0; rw [if_pos hk12]
    rw [e0] at HFIN
    have f0 : (a.kind == 12) = true := by simp [hk12]
    have HOC : Hid (∀ u ∈ [Value.string a.name], u.oneCell' = true) := Lib.hid (fun u hu => by simp at hu; subst hu; rfl)
    have O3 := Lib.hid (HO.out.alloc (.cells #[.string a.name] 9))
    have HB3 := Lib.hid (HB2.out.alloc HB2.out.size (.cells #[.string a.name] 9))
    have hsl := sl_one W2 (.string a.name) 9
    rw [HZ2.out] at hsl
    have HSL := Lib.hid hsl
    clear e0 hk12 hsl
    go_wp2_with (at_builtin; rw [HW1.out, HW2.out]; refine wpList_append_sl _ rfl (.tmp 9) (.tmp 12) 24 rfl w.heap.size 9 i0 _ 16 Try.underlying24 hi hz0 hz1 hz2 rfl (.slice (some ⟨H + 1, 0, none⟩) 0 0) 0 [] rfl O3.out (some ⟨H + 1 + 1, 0, none⟩) 1 1 [.string a.name] rfl rfl HSL.out HOC.out (by unfold maxLen; omega) (by omega) HB3.out.size ?_; intro v5 w5 hown5 hg5 hor5; have HSTART := Lib.hid (HFIN.out v5 w5 hown5 (HB3.out.grown hg5 HB3.out.size (fun q hq => by have hh : H + 1 = q := (by injection hq); omega)) (HKG.out _ _ _ (HKK.out _ _ HK2.out (below_box8 _ _ _)) hg5 (fun e => by have hh : H = H + 1 := (by injection e); omega))); clear hown5 hg5 hor5)
    go_loopw [3, 4] (fun v i wr => TbInv a ks w K v i wr) (fun _ i _ => ks.length - (intOf i).toNat)
    case atStart => exact HSTART.out
    case round =>
      obtain ⟨k, hk, rfl, hown, hb, hkw⟩ := hrel
      obtain ⟨V, lc, rfl⟩ := own_shape hown
      have bk := HK.out wr hkw
      have z7 := bk.c7
      have HTL := Lib.hid (fun he => HTAIL.out k wr V lc he hown hb)
      by_cases hlt : k < ks.length
      · obtain ⟨ad, p, c0, c1, c2, c3, c4, c5, c6, c7, rfl, hpe, hr, q0, q1, q2, q3, q4, q5, q6, q7⟩ := tid_at HP.out hb hlt
        have HC := Lib.hid (HI.out ks[k] (List.getElem_mem hlt) wr _ hr (by have h3 := kid_sum_le Tr.size (List.getElem_mem hlt); have := HS.out; omega))
        have HLP := Lib.hid (HLOOP.out k hlt wr V lc hown hb hkw)
        obtain ⟨tb, htb⟩ : ∃ tb, ks[k].tabs = tb := ⟨_, rfl⟩
        rw [htb] at HC HLP
        clear htb hr bk hown hb hkw HTL
        obtain ⟨tn, htn⟩ : ∃ tn, (tabsTo a ks k).length = tn := ⟨_, rfl⟩
        rw [htn] at HLP ⊢
        clear htn
        go_wp2_with fail
        refine HC.out.mono ?_
        rintro e w2 ⟨B, lb, rfl, hoB, hb2⟩
        have HU := Lib.hid (HLP.out w2 B lb hoB hb2)
        clear hoB hb2
        generalize tb.length = tm at HU ⊢
        go_wp2_with fail
        refine HU.out.mono ?_
        rintro e w3 ⟨v, rfl, hinv⟩
        have HIN := Lib.hid hinv
        clear hinv
        go_wp2_with fail
        go_roundw
        case rel => exact HIN.out _ (by go_num)
        case measure => simp [intOf]; omega
      · have HF := Lib.hid (HTL.out (by omega))
        clear HTL bk hown hb hkw
        go_wp2_with fail
        go_ret
        exact HF.out
  · have e0 : tab0 a = [] := by unfold tab0; rw [if_neg hk12]
    have f0 : (a.kind == 12) = false := by simp [hk12]
    rw [e0] at HFIN
    have HSTART := Lib.hid (HFIN.out _ W2 HO.out HB2.out HK2.out)
    clear e0
    go_wp2_with fail
    rw [HW1.out]
    go_wp2_with fail
    rw [HW2.out]
    go_wp2_with fail
    go_loopw [3, 4] (fun v i wr => TbInv a ks w K v i wr) (fun _ i _ => ks.length - (intOf i).toNat)
    case atStart => exact HSTART.out
    case round =>
      obtain ⟨k, hk, rfl, hown, hb, hkw⟩ := hrel
      obtain ⟨V, lc, rfl⟩ := own_shape hown
      have bk := HK.out wr hkw
      have z7 := bk.c7
      have HTL := Lib.hid (fun he => HTAIL.out k wr V lc he hown hb)
      by_cases hlt : k < ks.length
      · obtain ⟨ad, p, c0, c1, c2, c3, c4, c5, c6, c7, rfl, hpe, hr, q0, q1, q2, q3, q4, q5, q6, q7⟩ := tid_at HP.out hb hlt
        have HC := Lib.hid (HI.out ks[k] (List.getElem_mem hlt) wr _ hr (by have h3 := kid_sum_le Tr.size (List.getElem_mem hlt); have := HS.out; omega))
        have HLP := Lib.hid (HLOOP.out k hlt wr V lc hown hb hkw)
        obtain ⟨tb, htb⟩ : ∃ tb, ks[k].tabs = tb := ⟨_, rfl⟩
        rw [htb] at HC HLP
        clear htb hr bk hown hb hkw HTL
        obtain ⟨tn, htn⟩ : ∃ tn, (tabsTo a ks k).length = tn := ⟨_, rfl⟩
        rw [htn] at HLP ⊢
        clear htn
        go_wp2_with fail
        refine HC.out.mono ?_
        rintro e w2 ⟨B, lb, rfl, hoB, hb2⟩
        have HU := Lib.hid (HLP.out w2 B lb hoB hb2)
        clear hoB hb2
        generalize tb.length = tm at HU ⊢
        go_wp2_with fail
        refine HU.out.mono ?_
        rintro e w3 ⟨v, rfl, hinv⟩
        have HIN := Lib.hid hinv
        clear hinv
        go_wp2_with fail
        go_roundw
        case rel => exact HIN.out _ (by go_num)
        case measure => simp [intOf]; omega
      · have HF := Lib.hid (HTL.out (by omega))
        clear HTL bk hown hb hkw
        go_wp2_with fail
        go_ret
        exact HF.out
end Go.Proofs.Ythcfgpjldhiinaa
