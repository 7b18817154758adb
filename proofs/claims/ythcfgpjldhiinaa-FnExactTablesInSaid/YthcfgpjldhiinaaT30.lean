/-
  Merged by program: TabI.
-/
import Derived.Test.YthcfgpjldhiinaaT15
import Derived.Test.YthcfgpjldhiinaaT16
import Derived.Test.YthcfgpjldhiinaaT24
import Derived.Test.YthcfgpjldhiinaaT26
import Derived.Test.YthcfgpjldhiinaaT29

/-
  The program's TablesIn.
-/
namespace Go.Proofs.Ythcfgpjldhiinaa
open Go.RowKit Go.Shelf

attribute [local go_sem] Oper.semAt_some

/-- the names of the tables, one by one -/
def nam1 (p : Nat × Te) : List ByteArray := if p.2.top.kind = 12 then [p.2.top.name] else []
def namT (l : List (Nat × Te)) : List ByteArray := (l.map nam1).flatten
theorem namT_app (l m : List (Nat × Te)) : namT (l ++ m) = namT l ++ namT m := by simp [namT]
theorem namT_len : ∀ l : List (Nat × Te), (namT l).length ≤ l.length
  | [] => Nat.le_refl _
  | p :: l => by
    have := namT_len l
    have h : (nam1 p).length ≤ 1 := by unfold nam1; split <;> simp
    show (nam1 p ++ namT l).length ≤ _
    rw [List.length_append, List.length_cons]
    omega
theorem nodup_tabs (t : Te) : t.tabs.Nodup := by
  cases t with
  | node a ks => rw [tabs_node]; exact tabsTo_nodup a ks _ (Nat.le_refl _)
theorem uq_uq (o xs ys : List ByteArray) : uq o (uq xs ys) = uq (uq o xs) ys := by
  have h : ∀ (ys xs : List ByteArray), uq o (uq xs ys) = uq (uq o xs) ys := by
    intro ys
    induction ys with
    | nil => intro xs; rfl
    | cons y ys ih =>
      intro xs
      show uq o (uq (addU xs y) ys) = uq (addU (uq o xs) y) ys
      rw [ih]
      congr 1
      by_cases hy : y ∈ xs
      · rw [addU_in hy, addU_in (mem_uq.2 (.inr hy))]
      · rw [addU_new hy, uq_app]
        rfl
  exact h ys xs
theorem uq_tabs : ∀ (t : Te) (d : Nat) (o : List ByteArray), uq o t.tabs = uq o (namT (t.pre d)) := by
  refine Tr.ind ?_
  intro a ks ih d o
  have h : ∀ k, k ≤ ks.length → uq o (tabsTo a ks k) = uq o (tab0 a ++ namT (preL (d + 1) (ks.take k))) := by
    intro k
    induction k with
    | zero => intro _; rw [tabsTo_zero, List.take_zero, preL_nil]; simp [namT]
    | succ k ihk =>
      intro hk
      have e : preL (d + 1) (ks.take (k + 1)) = preL (d + 1) (ks.take k) ++ (ks[k]'hk).pre (d + 1) := by
        rw [List.take_succ_eq_append_getElem hk]
        unfold preL
        rw [List.map_append, List.flatten_append]
        simp
      rw [tabsTo_succ a ks k hk, e, uq_uq, ihk (by omega), namT_app, ← List.append_assoc, uq_app, ih _ (List.getElem_mem hk) (d + 1)]
      simp only [uq_app]
  have h2 := h ks.length (Nat.le_refl _)
  rw [List.take_length] at h2
  rw [tabs_node, h2, pre_node]
  rfl
theorem tabs_names (t : Te) : t.tabs = uq [] (namT (t.pre 1)) := by rw [← uq_tabs t 1 [], uq_own (nodup_tabs t)]
/-- the names up to the k-th node -/
def namTo (t : Te) (k : Nat) : List ByteArray := namT ((t.pre 1).take k)
theorem namTo_succ (t : Te) {k : Nat} {p : Nat × Te} (h : (t.pre 1)[k]? = some p) : namTo t (k + 1) = namTo t k ++ nam1 p := by
  unfold namTo
  rw [List.take_add_one, h, namT_app]
  simp [namT]
theorem namTo_len (t : Te) (k : Nat) : (namTo t k).length ≤ (t.pre 1).length := by
  have := namT_len ((t.pre 1).take k)
  have := List.length_take_le k (t.pre 1)
  unfold namTo
  have := @List.length_take _ k (t.pre 1)
  omega
theorem wte_node_mem : ∀ (t : Te) (d : Nat) (p : Nat × Te), p ∈ t.pre d → wte p.2 ≤ wte t := by
  refine Tr.ind ?_
  intro a ks ih d p hp
  rw [pre_node] at hp
  rcases List.mem_cons.1 hp with rfl | hp
  · exact Nat.le_refl _
  · unfold preL at hp
    obtain ⟨l, hl, hp⟩ := List.mem_flatten.1 hp
    obtain ⟨t, ht, rfl⟩ := List.mem_map.1 hl
    have h1 := ih t ht _ p hp
    have h2 : wte t ≤ wte (.node a ks) := by
      rw [wte_node]
      have := kid_sum_le wte ht
      unfold wteK
      omega
    omega
theorem name_le (t : Te) : t.top.name.size ≤ wte t := by
  cases t with
  | node a ks =>
    rw [wte_node]
    show a.name.size ≤ _
    unfold wteA
    omega
theorem nam_size (t : Te) (x : ByteArray) (h : x ∈ namT (t.pre 1)) : x.size ≤ wte t := by
  unfold namT at h
  obtain ⟨l, hl, hx⟩ := List.mem_flatten.1 h
  obtain ⟨p, hp, rfl⟩ := List.mem_map.1 hl
  unfold nam1 at hx
  split at hx
  · rw [List.mem_singleton] at hx
    subst hx
    exact Nat.le_trans (name_le p.2) (wte_node_mem t 1 p hp)
  · cases hx

/-- between two rounds -/
def TabI (t : Te) (w : World) (H Bx k : Nat) (F : Nat → Prop) (W : World) : Prop :=
  k ≤ (t.pre 1).length ∧ H + 1 < W.heap.size ∧ Below w.heap.size w W ∧ ∃ V c, F = (fun b => b = H + 1 ∨ (Value.slice V (namTo t k).length c).ownBlock = some b) ∧ Boxed W (H + 1) 24 (.slice V (namTo t k).length c) ∧
    W.ownsRow (Bx + 2) 9 1 (.slice V (namTo t k).length c) (namTo t k).length ((namTo t k).map Value.string)
theorem TabI.keep {t : Te} {w A C : World} {H Bx k D : Nat} {F : Nat → Prop} (h : TabI t w H Bx k F A) (hh : Held (fun i => i < D ∨ F i) A C) (hD : w.heap.size ≤ D) : TabI t w H Bx k F C := by
  obtain ⟨h1, h2, h3, V, c, rfl, h4, h5⟩ := h
  exact ⟨h1, Nat.lt_of_lt_of_le h2 hh.size, h3.trans (hh.below h3.size fun i hi => .inl (by omega)), V, c, rfl, (hh.block _ h2 (.inr (.inl rfl))).trans h4, own_heldN h5 fun g hg => hh.block g (h5.lt g hg).2 (.inr (.inr hg))⟩
theorem cell_oneT (w : World) (v : Value) (t : TypeId) : ∀ j u, [v][j]? = some u → (w.alloc (.cells #[v] t)).cell? ((⟨w.heap.size, 0, none⟩ : Addr).add j) = some u := by
  intro j u hj
  match j, hj with
  | 0, hj => simp at hj; subst hj; simp [Addr.add]
  | j + 1, hj => simp at hj
theorem cell8_of {W : World} {b : Nat} {c0 c1 c2 c3 c4 c5 c6 c7 : Value} {T : TypeId} (h : W.heap[b]? = some (.cells #[c0, c1, c2, c3, c4, c5, c6, c7] T)) : Box8 W b T c0 c1 c2 c3 c4 c5 c6 c7 := h
/-- what lies in the round's variable -/
def AsgE (v : Array Value) (b : Nat) (W : World) : Prop := ∃ cs, v.getD 1 undef = .agg cs ∧ W.heap[b]? = some (.cells cs 38)
theorem AsgE.held {v : Array Value} {b : Nat} {A C : World} (h : AsgE v b A) (hh : Held (fun i => b ≤ i) A C) : AsgE v b C := by
  obtain ⟨cs, h1, h2⟩ := h
  exact ⟨cs, h1, (hh.block b (Array.getElem?_eq_some_iff.1 h2).1 (Nat.le_refl _)).trans h2⟩

set_option maxRecDepth 100000 in
set_option maxHeartbeats 4000000 in
theorem implTabs_any (t : Te) (w : World) (cs : List Value) (h : RTe w t cs) (hw : wte t ≤ 1048576) : Calls Try.prog 20 #[.agg cs.toArray] w (OwnL t.tabs w) := by
  have hs : t.size ≤ 1048577 := by have := size_wte t; omega
  obtain ⟨c0, c1, c2, c3, c4, c5, c6, c7, rfl⟩ := h.eight
  obtain ⟨i0, hi, hz0, hz1, hz2⟩ := info_parts infoStr
  obtain ⟨H, hH⟩ : ∃ H, w.heap.size = H := ⟨_, rfl⟩
  obtain ⟨W1, hW1⟩ : ∃ W1, w.alloc (.cells #[c0, c1, c2, c3, c4, c5, c6, c7] 38) = W1 := ⟨_, rfl⟩
  obtain ⟨W2, hW2⟩ : ∃ W2, W1.alloc (.cells #[.slice none 0 0] 24) = W2 := ⟨_, rfl⟩
  have hy1 : W1.heap.size = H + 1 := by rw [← hW1, ← hH]; simp
  have hy2 : W2.heap.size = H + 2 := by rw [← hW2]; simp; omega
  have hb1 : Below w.heap.size w W1 := by rw [← hW1]; exact (Below.refl _ _).alloc (Nat.le_refl _) _
  have hb2 : Below w.heap.size w W2 := by rw [← hW2]; exact hb1.alloc hb1.size _
  have hbx : Box8 W2 H 38 c0 c1 c2 c3 c4 c5 c6 c7 := by rw [← hW2, ← hW1, ← hH]; exact (Box8.new w 38 c0 c1 c2 c3 c4 c5 c6 c7).alloc _
  have hbt : Boxed W2 (H + 1) 24 (.slice none 0 0) := by rw [← hW2, ← hy1]; exact Boxed.new W1 _ _
  have HI := Lib.hid (nodesOfE_any w t W2 _ h hb2 hs)
  have HN : Hid ((t.pre 1).length ≤ 1048577) := Lib.hid (by rw [pre_len]; exact hs)
  have HNM : Hid (∀ x ∈ namT (t.pre 1), x.size ≤ 1048576) := Lib.hid (fun x hx => Nat.le_trans (nam_size t x hx) hw)
  have HTB : Hid (uq (uq [] (namT (t.pre 1))) [] = t.tabs) := Lib.hid (tabs_names t).symm
  have HL : Hid (∀ k, (namTo t k).length ≤ (t.pre 1).length) := Lib.hid (namTo_len t)
  have HW1 := Lib.hid hW1
  have HW2 := Lib.hid hW2
  have HB2 := Lib.hid hb2
  have HBT := Lib.hid hbt
  have HZ2 := Lib.hid hy2
  have HH := Lib.hid hH
  have x0 := hbx.c0
  have x1 := hbx.c1
  have x2 := hbx.c2
  have x3 := hbx.c3
  have x4 := hbx.c4
  have x5 := hbx.c5
  have x6 := hbx.c6
  have x7 := hbx.c7
  clear h hw hs hW1 hW2 hb1 hb2 hy1 hy2 hbx hbt hH
  refine (callsIn_wide (n := 9)).1 ?_
  refine callsIn_of_wp_marks Try.func20 rfl trivial ?_ rfl
  simp only [Try.ntmps20, List.size_toArray, List.length_cons, List.length_nil, Nat.reduceAdd, Nat.reduceSub, Array.replicate_succ, Array.replicate_zero, List.push_toArray, List.append_toArray, List.nil_append, List.cons_append]
  have hHz := HH.out
  gi_wp2_with (refine ⟨trivial, ?_⟩; gi_at_call 32; rw [HW1.out, HW2.out]; refine (callsIn_wide.2 HI.out).mono ?_; rintro e W3 ⟨Bx, rfl, hb3, hx1, hx2, hg⟩)
  have hy2 := HZ2.out
  obtain ⟨Keep, hKeep⟩ : ∃ Keep : Nat → Prop, Keep = fun b => b < w.heap.size ∨ b = Bx ∨ b = Bx + 1 := ⟨_, rfl⟩
  have hsz3 := hb3.size
  have hkW : ∀ b, Keep b → b < W3.heap.size := by rw [hKeep]; rintro b (h | h | h) <;> omega
  have hI0 : TabI t w H Bx 0 (fun b => b = H + 1 ∨ (Value.slice none (namTo t 0).length 0).ownBlock = some b) W3 := by
    refine ⟨Nat.zero_le _, by omega, HB2.out.trans (hb3.mono HB2.out.size), none, 0, rfl, (hb3.block _ (by omega)).trans HBT.out, ?_⟩
    exact World.ownsRow_nil _ _ _ _
  have HG := Lib.hid hg
  have HI0 := Lib.hid hI0
  have HKW := Lib.hid hkW
  have HKE := Lib.hid hKeep
  have HB3 := Lib.hid (HB2.out.trans (hb3.mono HB2.out.size))
  clear hg hI0 hkW hKeep hb3 x0 x1 x2 x3 x4 x5 x6 x7
  refine wpIn_givesA (n := 9) (w := W3) rfl (by decide) (gf := 57) (lb := #[.pointer (some ⟨Bx, 0, none⟩), .pointer (some ⟨Bx + 1, 0, none⟩)]) rfl trivial (enters_of Try.func57 (by kernel_rfl) rfl)
    (M := (t.pre 1).length) (Rd := NRd (RTe w) t) (On := fun _ => True) (Keep := Keep) (fun _ _ h => h.size) HKW.out
    (fun W hW hz => HG.out _ Keep W (by decide) (fun b hb => by rw [HKE.out]; exact .inl hb) (by rw [HKE.out]; exact .inr (.inl rfl)) (by rw [HKE.out]; exact .inr (.inr rfl)) (fun b hb => by have := HKW.out b hb; have := hW.size; omega) (Held.of_below hW fun i hi _ => hi))
    (TabI t w H Bx) (fun _ => False) (fun k F A C hi hh => hi.keep hh (by omega)) (fun k F A hi b hb => ?bnd) (fun _ _ hf _ => hf) _ HI0.out
    (fun v b => { tmps := #[.agg #[c0, c1, c2, c3, c4, c5, c6, c7], .pointer (some ⟨H, 0, none⟩), .slice none 0 0, .pointer (some ⟨H + 1, 0, none⟩), undef, .pointer (some ⟨b, 0, none⟩), .agg #[c0, c1, c2, c3, c4, c5, c6, c7], .func (.func 57) #[] #[.pointer (some ⟨Bx, 0, none⟩), .pointer (some ⟨Bx + 1, 0, none⟩)], v.getD 0 undef, v.getD 1 undef, undef, undef, undef, undef, undef, undef, undef, undef, undef, undef], defers := [] }) AsgE (fun _ _ _ _ h hh => h.held hh) ?assign ?body ?done ?stop
  case bnd =>
    obtain ⟨h1, h2, h3, V, c, rfl, h4, h5⟩ := hi
    rw [HKE.out]
    rcases hb with rfl | hb
    · exact ⟨by omega, h2⟩
    · have := h5.lt b hb
      exact ⟨by omega, this.2⟩
  case assign =>
    rintro l k v W K ⟨d, x, cs, hat, rfl, hr⟩ hK
    obtain ⟨q0, q1, q2, q3, q4, q5, q6, q7, rfl⟩ := hr.eight
    obtain ⟨k0, s0, n0, tk, TL, tl, tc, TA, ta, td, L, ll, lc, A, m, dd, rfl, rfl, rfl, rfl, rfl, rfl, rfl, rfl⟩ := hr.shape
    have HK := Lib.hid (hK _ ⟨_, rfl, World.alloc_heap_new W (.cells #[.int .i64 k0, .string s0, .int .i64 n0, .int .i64 tk, .slice TL tl tc, .slice TA ta td, .slice L ll lc, .slice A m dd] 38)⟩ ((Below.refl _ _).alloc (Nat.le_refl _) _))
    clear hK hr hat
    gi_wp2
    simpa using HK.out
  case body =>
    rintro l k s F W b hk ⟨h1, h2, h3, V, c, rfl, h4, h5⟩ ⟨d, x, cs, hat, rfl, hr⟩ ⟨cs', e1, hcell⟩ hb1 hb2 hFb _ _
    have e2 : cs.toArray = cs' := by injection e1
    subst e2
    obtain ⟨TL, tc, TA, td, L, lc, A, dd, rfl, _⟩ := hr.open
    have q0 := (cell8_of hcell).c0
    have q1 := (cell8_of hcell).c1
    have hnx := namTo_succ t hat
    have hll := HL.out k
    have hNN := HN.out
    have hc := h4.cell
    have hf := h4.frozen
    have hbl : b < W.heap.size := (Array.getElem?_eq_some_iff.1 hcell).1
    by_cases h12 : x.top.kind = 12
    · have en : nam1 (d, x) = [x.top.name] := by unfold nam1; rw [if_pos h12]
      rw [en] at hnx
      obtain ⟨y, hy⟩ : ∃ y, x.top.name = y := ⟨_, rfl⟩
      rw [hy] at q1 hnx
      obtain ⟨ns, hns⟩ : ∃ ns, namTo t k = ns := ⟨_, rfl⟩
      rw [hns] at hnx hll h4 h5 hc ⊢
      have hown := h5.alloc (.cells #[.string y] 9)
      have hcl := cell_oneT W (.string y) 9
      have HF : Hid (∀ v' w4, w4.ownsRow (Bx + 2) 9 1 v' (ns.length + 1) (ns.map Value.string ++ [.string y]) → (W.alloc (.cells #[.string y] 9)).grownBy w4 (Value.slice V ns.length c).ownBlock →
          (v'.ownBlock = (Value.slice V ns.length c).ownBlock ∨ v'.ownBlock = some (W.heap.size + 1)) → ∃ V' c', v' = .slice V' (ns.length + 1) c' ∧ Boxed w4 (H + 1) 24 (.slice V ns.length c) ∧ givesPostN (fun _ => True) (TabI t w H Bx) (fun _ => False) k (fun b => b = H + 1 ∨ (Value.slice V ns.length c).ownBlock = some b) W .normal { tmps := #[], defers := [] } (w4.setCell ⟨H + 1, 0, none⟩ (.slice V' (ns.length + 1) c'))) := Lib.hid (by
        intro v' w4 hown4 hg4 hor
        obtain ⟨V', c', rfl⟩ := own_is hown4
        have hal : Below W.heap.size W (W.alloc (.cells #[.string y] 9)) := (Below.refl _ _).alloc (Nat.le_refl _) _
        have hsz := hg4.size
        simp only [World.size_alloc] at hsz
        have hne : (Value.slice V ns.length c).ownBlock ≠ some (H + 1) := fun e => by have := (h5.lt _ e).1; omega
        have hb4 : Boxed w4 (H + 1) 24 (.slice V ns.length c) := by
          have h0 := h4.alloc (.cells #[.string y] 9)
          exact (hg4.block (H + 1) h0.lt (fun e => hne e.symm)).trans h0
        have hne' : (Value.slice V' (ns.length + 1) c').ownBlock ≠ some (H + 1) := fun e => by have := (hown4.lt _ e).1; omega
        have e1 : (namTo t (k + 1)).length = ns.length + 1 := by rw [hnx]; simp
        have e2 : (namTo t (k + 1)).map Value.string = ns.map Value.string ++ [.string y] := by rw [hnx]; simp
        refine ⟨V', c', rfl, hb4, trivial, ?_, fun b => b = H + 1 ∨ (Value.slice V' (ns.length + 1) c').ownBlock = some b, ?_, hk, ?_, ?_, V', c', by rw [e1], by rw [e1]; exact hb4.set _, ?_⟩
        · refine (Held.of_below hal fun i hi _ => hi).trans ((Held.grown hg4 fun q hq hn => hn (.inr hq)).trans (Held.set w4 (fun h => h (.inl rfl)) _))
        · rintro b (h | h)
          · exact .inl (.inl h)
          · rcases hor with e | e
            · exact .inl (.inr (e ▸ h))
            · rw [e] at h; injection h with h; exact .inr (by omega)
        · simp [World.setCell]; omega
        · refine ((h3.alloc h3.size _).grown hg4 (by have := h3.size; simp; omega) fun q hq => by have := (h5.lt q hq).1; omega).setCell (p := ⟨H + 1, 0, none⟩) (by show w.heap.size ≤ H + 1; omega) _
        · rw [e1, e2]
          exact own_heldN hown4 fun q hq => Below.heap_setCell _ _ _ _ (fun e => hne' (by rw [hq, e])))
      have hHlt := h2
      have hBW : Bx + 2 ≤ W.heap.size := by omega
      rw [h12] at q0
      clear h3 h4 h5 hat hr hcell e1 hFb hnx h12 hy hns
      have HO := Lib.hid hown
      have HCL := Lib.hid hcl
      clear hown hcl
      gi_wp2_with (gi_at_builtin; refine wpListIn_append_own_at _ rfl _ _ 24 rfl (Bx + 2) 9 i0 (.string ⟨#[]⟩) 1 16 Try.underlying24 hi hz0 hz1 hz2 rfl (by decide) (.slice V ns.length c) ns.length (ns.map Value.string) rfl HO.out ⟨W.heap.size, 0, none⟩ 1 1 [.string y] rfl rfl HCL.out (by simp [Value.oneCell']) (by unfold maxLen; omega) (by omega) (by simp; omega) ?_; intro v' w4 hown4 hg4 _ hor4; obtain ⟨V', c', rfl, hb4, hpost⟩ := HF.out v' w4 hown4 hg4 (by simpa using hor4); have hc4 := hb4.cell; have hf4 := hb4.frozen; have HP := Lib.hid hpost; clear hown4 hg4 hor4 hb4 hpost)
      exact HP.out
    · have en : nam1 (d, x) = [] := by unfold nam1; rw [if_neg h12]
      rw [en, List.append_nil] at hnx
      have HP : Hid (givesPostN (fun _ => True) (TabI t w H Bx) (fun _ => False) k (fun b => b = H + 1 ∨ (Value.slice V (namTo t k).length c).ownBlock = some b) W .normal { tmps := #[], defers := [] } W) := Lib.hid
        ⟨trivial, Held.refl _ _, _, fun b hb => .inl hb, hk, h2, h3, V, c, by rw [hnx], by rw [hnx]; exact h4, by rw [hnx]; exact h5⟩
      have f12 : (x.top.kind == 12) = false := by simp [h12]
      clear h3 h4 h5 hat hr hcell e1 hFb hnx h12 h1 h2 hb1 hb2 hk hc hf q1
      gi_wp2
      exact HP.out
  case done =>
    rintro F W ⟨h1, h2, h3, V, c, rfl, h4, h5⟩ hK
    have e : namTo t (t.pre 1).length = namT (t.pre 1) := by unfold namTo; rw [List.take_length]
    rw [e] at h4 h5
    have hc := h4.cell
    have hll := HL.out (t.pre 1).length
    rw [e] at hll
    have hNN := HN.out
    have HU := Lib.hid (implUnite_any V none c 0 (namT (t.pre 1)) [] W (Sl.of_own h5) (fun j u hj => by simp at hj) (by simp; omega) HNM.out (by simp))
    have hdl : W3.heap.size < W.heap.size := (Array.getElem?_eq_some_iff.1 hK).1
    have HR : Hid (∀ e w6, OwnL (uq (uq [] (namT (t.pre 1))) []) W e w6 → OwnL t.tabs w e (w6.putObj W3.heap.size (.deferred none)) ∧ w6.heap[W3.heap.size]? = some (.deferred (some []))) := Lib.hid (by
      rintro e w6 ⟨A, d, rfl, ho, hb⟩
      rw [HTB.out] at ho ⊢
      refine ⟨⟨A, d, rfl, ?_, (h3.trans (hb.mono h3.size)).trans (below_put w6 (by omega))⟩, (hb.block _ hdl).trans hK⟩
      have h6 := own_heldN (w' := w6.putObj W3.heap.size (.deferred none)) ho fun q hq => World.putObj_heap_other (by have := (ho.lt q hq).1; omega)
      exact own_mono h6 h3.size)
    have HDW := Lib.hid (fun (w6 : World) (e : Ending) (h : OwnL (uq (uq [] (namT (t.pre 1))) []) W e w6) => HR.out e w6 h)
    generalize (namT (t.pre 1)) = ns at *
    clear h1 h2 h3 h4 h5 hK
    gi_wp2_with (refine ⟨trivial, ?_⟩; gi_at_call 43; refine (callsIn_wide.2 HU.out).mono ?_; rintro e w6 ho; obtain ⟨A6, d6, rfl, _, _⟩ := id ho; have HO6 := Lib.hid (HR.out _ _ ho); clear ho)
    refine ⟨by simp, .inl ⟨_, _, rfl, run_takeDeferred HO6.out.2, ?_⟩⟩
    exact ⟨_, results_tmp (show (Try.f20).results = #[ResultVar.tmp 2] from rfl) _ _ _, HO6.out.1⟩
  case stop =>
    intro W hf
    exact hf.elim
end Go.Proofs.Ythcfgpjldhiinaa
