/-
  Merged by program: Bags.
-/
import Derived.Test.YtfhebkdoheafeaaU29
import Derived.Test.YtfhebkdoheafeaaU34

/-
  The program's CountBags.
-/
namespace Go.Proofs.Ytfhebkdoheafeaa
open Go.RowKit Go.Shelf

attribute [local go_sem] Oper.semAt_some

theorem as_bag_no {q : Int} (h : q ≠ 4) (v : Value) (w : World) : (Instr.typeAssert (.iface (kindT q) v) 56 53 true).run Try.prog w = .ok (.tuple #[.agg #[.int .i64 0, .slice none 0 0, .slice none 0 0], .bool false]) w := by
  rcases kind_cases q with (rfl | rfl | rfl | rfl | rfl) | hk
  · exact as_bag_1 v w
  · exact as_bag_2 v w
  · exact as_bag_3 v w
  · exact absurd rfl h
  · exact as_bag_5 v w
  · rw [hk]; exact as_bag_6 v w
/-- i nodes of a level are looked at -/
def BagInv (w : World) (D : Nat) (W : World) (B q : Nat) (lv : List Ty) (i : Value) (wr : World) : Prop := ∃ k : Nat, k ≤ lv.length ∧ i = .int .i64 k ∧ CountI w B (q + bagsTop (lv.take k)) wr ∧ Apart w.heap.size D W wr

set_option maxRecDepth 100000 in
set_option maxHeartbeats 2000000 in
theorem implBags_any (t : Ty) (w : World) (cs : List Value) (h : RTy w t cs) (hs : t.size ≤ 1048577) : Calls Try.prog 15 #[.agg cs.toArray] w (Counts t.bags w) := by
  obtain ⟨c0, c1, c2, rfl, _⟩ := h.three'
  obtain ⟨H, hH⟩ : ∃ H, w.heap.size = H := ⟨_, rfl⟩
  obtain ⟨W0, hW0⟩ : ∃ W0, (w.alloc (.cells #[c0, c1, c2] 27)).alloc (.cells #[.int .i64 0] 3) = W0 := ⟨_, rfl⟩
  obtain ⟨W2, hW2⟩ : ∃ W2, W0.alloc (.cells #[c0, c1, c2] 27) = W2 := ⟨_, rfl⟩
  have hz0 : W0.heap.size = H + 2 := by rw [← hW0, ← hH]; simp
  have hz2 : W2.heap.size = H + 3 := by rw [← hW2]; simp; omega
  have hb0 : Below w.heap.size w W0 := by rw [← hW0]; exact ((Below.refl _ _).alloc (Nat.le_refl _) _).alloc (by simp) _
  have hb2 : Below w.heap.size w W2 := by rw [← hW2]; exact hb0.alloc hb0.size _
  have hbx : Box3 W2 (H + 2) 27 c0 c1 c2 := by rw [← hW2, ← hz0]; exact Box3.new W0 _ _ _ _
  have hi0 : Boxed W0 (H + 1) 3 (.int .i64 0) := by rw [← hW0, ← hH]; have := Boxed.new (w.alloc (.cells #[c0, c1, c2] 27)) 3 (.int .i64 0); simpa using this
  have hI0 : CountI w (H + 1) (upTo bagsTop [t] 0) W2 := ⟨by rw [← hW2]; exact hi0.alloc _, hb2⟩
  have hL := levels_any W0 c0 c1 c2
  rw [hz0] at hL
  have HL := Lib.hid hL
  have HW0 := Lib.hid hW0
  have HW2 := Lib.hid hW2
  have HB2 := Lib.hid hb2
  have HI0 := Lib.hid hI0
  have HH := Lib.hid hH
  have HZ2 := Lib.hid hz2
  have HT := Lib.hid h
  have HS := Lib.hid hs
  have HBX := Lib.hid hbx
  clear hL hW0 hW2 hb0 hb2 hI0 hi0 hH hz0 hz2 h hs hbx
  refine (callsIn_wide (n := 9)).1 ?_
  refine callsIn_of_wp_marks Try.func15 rfl trivial ?_ rfl
  simp only [Try.ntmps15, List.size_toArray, List.length_cons, List.length_nil, Nat.reduceAdd, Nat.reduceSub, Array.replicate_succ, Array.replicate_zero, List.push_toArray, List.append_toArray, List.nil_append, List.cons_append]
  gi_wp2_with (refine ⟨trivial, ?_⟩; gi_at_call 40; rw [HW0.out]; refine (callsIn_wide.2 HL.out).mono ?_; rintro e W3 ⟨rfl, rfl⟩; rw [HW2.out])
  have hDz := HZ2.out
  have hHz := HH.out
  refine wpIn_gives rfl (by decide) (gf := 78) (lb := #[.pointer (some ⟨H + 2, 0, none⟩)]) rfl trivial (enters_of Try.func78 (by kernel_rfl) rfl)
    (N := t.deep) (Rd := LevRd w t (W2.heap.size + 2)) (lo := w.heap.size) (by omega) (fun W hW hz => ?gives) (fun k v A C hr hk => hr.apart hk)
    (fun k W => CountI w (H + 1) (upTo bagsTop [t] k) W) (fun _ _ => False) (fun k A C hi hb => hi.under hb (by omega) (by omega)) (fun _ _ _ hf _ => hf) HI0.out
    (fun v => { tmps := #[.agg #[c0, c1, c2], .pointer (some ⟨H, 0, none⟩), .int .i64 0, .pointer (some ⟨H + 1, 0, none⟩), v, undef, undef, undef, undef, .agg #[c0, c1, c2], .func (.func 78) #[] #[.pointer (some ⟨H + 2, 0, none⟩)], v, undef, undef, undef, undef, undef, undef, undef, undef, undef, undef, undef, undef, undef, undef, undef, undef, undef], defers := [] }) ?assign ?body ?done ?stop
  case gives =>
    have hg := levels1_gives w t c0 c1 c2 HT.out HS.out (9 - 1) (H + 2) (by decide) W (HB2.out.trans (hW.mono (by omega))) ((hW.block _ (by omega)).trans HBX.out)
    rw [hz] at hg
    exact hg
  case assign =>
    intro l v W K hK
    gi_wp2
    exact hK
  case body =>
    rintro l k v W hk hi ⟨A, c, rfl, hA, hrow⟩
    have hq : upTo bagsTop [t] (k + 1) = upTo bagsTop [t] k + bagsTop (lev [t] k) := rfl
    have hle := upTo_bags [t] (k + 1)
    rw [bagsL_one, hq] at hle
    have hbs := bags_le_size t
    have hSS := HS.out
    have hlen : (lev [t] k).length ≤ 1048577 := Nat.le_trans (len_le_sizes _) (Nat.le_trans (lev_sizes t k) hSS)
    obtain ⟨q, hqq⟩ : ∃ q, upTo bagsTop [t] k = q := ⟨_, rfl⟩
    rw [hqq] at hle hq hi
    have HQ := Lib.hid hq
    have HQM : Hid (q + bagsTop (lev [t] k) ≤ 1048577) := Lib.hid (by omega)
    generalize lev [t] k = lv at HQ HQM hrow hlen ⊢
    have HI := Lib.hid hi
    have HROW := Lib.hid (fun (V : World) (hV : Apart w.heap.size (W2.heap.size + 2) W V) => hrow.apart hA hV)
    have h1 : 1 ≤ 9 - 1 - 1 := by decide
    clear hq hqq hle hbs hi hrow hA hSS
    obtain ⟨m, hm⟩ : ∃ m, lv.length = m := ⟨_, rfl⟩
    rw [hm] at hlen ⊢
    gi_wp2
    gi_loopw [14] (fun i wr => BagInv w W2.heap.size W (H + 1) q lv i wr) (fun i _ => m - (intOf i).toNat)
    case atStart => exact ⟨0, Nat.zero_le _, rfl, HI.out, Apart.refl _ _ _⟩
    case round =>
      obtain ⟨i, hi, rfl, hci, hap⟩ := hrel
      have HCI := Lib.hid hci
      have HAP := Lib.hid hap
      by_cases hlt : i < m
      · have hlt' : i < lv.length := by omega
        obtain ⟨ad, p, c0', c1', c2', rfl, hpe, hrt, q0, q1, q2⟩ := row_at (HROW.out wr (hap.wider (Nat.le_refl _) (by omega))) hlt'
        have hst := sum_take_succ (fun t : Ty => if t.top.kind = 4 then 1 else 0) lv i hlt'
        have hsl := sum_take_le (fun t : Ty => if t.top.kind = 4 then 1 else 0) lv (i + 1)
        obtain ⟨a', ks', hnode⟩ : ∃ a' cs, lv[i] = .node a' cs := ⟨_, _, (match lv[i] with | .node a' cs => rfl : lv[i] = .node lv[i].top lv[i].kids)⟩
        rw [hnode] at hrt hst
        obtain ⟨L2, e2, A2, d2, he, _⟩ := hrt.out
        injection he with e0 he
        injection he with e1 he
        injection he with e3 _
        subst e0 e1 e3
        have hs1 : bagsTop (lv.take (i + 1)) = bagsTop (lv.take i) + (if a'.kind = 4 then 1 else 0) := hst
        have hs2 : bagsTop (lv.take (i + 1)) ≤ bagsTop lv := hsl
        have hqm := HQM.out
        obtain ⟨g, hg⟩ : ∃ g, bagsTop (lv.take i) = g := ⟨_, rfl⟩
        rw [hg] at hs1
        have HCI2 : Hid (CountI w (H + 1) (q + g) wr) := by rw [← hg]; exact hci
        have hqg : q + g ≤ 1048577 := by have := hs1; omega
        obtain ⟨n', hn'⟩ : ∃ n', a'.labels.length = n' := ⟨_, rfl⟩
        obtain ⟨m', hm'⟩ : ∃ m', ks'.length = m' := ⟨_, rfl⟩
        obtain ⟨qk, hqk⟩ : ∃ qk, a'.kind = qk := ⟨_, rfl⟩
        rw [hqk] at hs1 q0
        rw [hn'] at q1
        rw [hm'] at q2
        have HK := Lib.hid (fun V => kind_of qk (.slice L2 n' e2) (.slice A2 m' d2) V)
        obtain ⟨W5, hW5⟩ : ∃ W5, wr.alloc (.cells #[.int .i64 qk, .slice L2 n' e2, .slice A2 m' d2] 27) = W5 := ⟨_, rfl⟩
        have hb5 : Below wr.heap.size wr W5 := by rw [← hW5]; exact (Below.refl _ _).alloc (Nat.le_refl _) _
        have hx5 := Box3.new wr 27 (.int .i64 qk) (.slice L2 n' e2) (.slice A2 m' d2)
        rw [hW5] at hx5
        have y0 := hx5.c0
        have y1 := hx5.c1
        have y2 := hx5.c2
        have HW5 := Lib.hid hW5
        have HB5 := Lib.hid hb5
        clear hst hsl hnode hrt hg hn' hm' hqk hx5 hW5 hb5 hci hap hs2 hqm hlt'
        have HFIN : Hid (∀ (V : World) (x : Nat), bagsTop (lv.take (i + 1)) = x → Apart w.heap.size W2.heap.size wr V → CountI w (H + 1) (q + x) V → ∀ iv, iv = Value.int .i64 ((i + 1 : Nat) : Int) → BagInv w W2.heap.size W (H + 1) q lv iv V) := fun V x hx hV hc iv hiv =>
          ⟨i + 1, by omega, hiv, by rw [hx]; exact hc, HAP.out.trans hV⟩
        by_cases h4 : qk = 4
        · subst h4
          rw [if_pos rfl] at hs1
          have HS1 := Lib.hid hs1
          have a1 := as_bag_4
          clear hs1
          gi_wp2_with (refine ⟨trivial, ?_⟩; gi_at_call 41; rw [HW5.out]; refine (CallsIn.inRound l (callsIn_wide.2 (HK.out W5))).mono ?_; rintro e w6 ⟨rfl, hb6⟩; rw [show kindT 4 = 53 from rfl]; have HB6 := Lib.hid (HB5.out.trans (hb6.mono HB5.out.size)); have hcc := (HCI2.out.under HB6.out HCI2.out.1.lt (by have := HCI2.out.2.size; omega)).1.alloc (.cells #[.int .i64 4, .slice L2 n' e2, .slice A2 m' d2] 53); have z1 := hcc.cell; have z2 := hcc.frozen; clear hcc hb6)
          have HST : Hid (∀ v, v = Value.int .i64 ((q + (g + 1) : Nat) : Int) → ∀ iv, iv = Value.int .i64 ((i + 1 : Nat) : Int) → BagInv w W2.heap.size W (H + 1) q lv iv ((w6.alloc (.cells #[.int .i64 4, .slice L2 n' e2, .slice A2 m' d2] 53)).setCell ⟨H + 1, 0, none⟩ v)) := by
            rintro v rfl iv hiv
            have hc6 := HCI2.out.under HB6.out HCI2.out.1.lt (by have := HCI2.out.2.size; omega)
            have hc7 : CountI w (H + 1) (q + g) (w6.alloc (.cells #[.int .i64 4, .slice L2 n' e2, .slice A2 m' d2] 53)) := ⟨hc6.1.alloc _, hc6.2.alloc hc6.2.size _⟩
            exact HFIN.out _ (g + 1) HS1.out (((Apart.of_below HB6.out).trans (Apart.of_below ((Below.refl _ _).alloc (Nat.le_refl _) _))).trans (Apart.set _ (by show w.heap.size ≤ H + 1; omega) (by show H + 1 < W2.heap.size; omega) _)) (hc7.set (by omega)) iv hiv
          clear HFIN
          gi_wp2
          go_roundw
          case rel => exact HST.out _ (by go_num) _ (by go_num)
          case measure => simp [intOf]; omega
        · have a1 := as_bag_no h4
          rw [if_neg h4] at hs1
          have HS1 := Lib.hid hs1
          clear hs1 h4
          gi_wp2_with (refine ⟨trivial, ?_⟩; gi_at_call 41; rw [HW5.out]; refine (CallsIn.inRound l (callsIn_wide.2 (HK.out W5))).mono ?_; rintro e w6 ⟨rfl, hb6⟩; have HB6 := Lib.hid (HB5.out.trans (hb6.mono HB5.out.size)); have HCC := Lib.hid (HCI2.out.under HB6.out HCI2.out.1.lt (by have := HCI2.out.2.size; omega)); clear hb6)
          have HST : Hid (∀ iv, iv = Value.int .i64 ((i + 1 : Nat) : Int) → BagInv w W2.heap.size W (H + 1) q lv iv (w6.alloc (.cells #[.int .i64 0, .slice none 0 0, .slice none 0 0] 53))) := by
            rintro iv hiv
            exact HFIN.out _ g (by rw [HS1.out]; rfl) ((Apart.of_below HB6.out).trans (Apart.of_below ((Below.refl _ _).alloc (Nat.le_refl _) _))) ⟨HCC.out.1.alloc _, HCC.out.2.alloc HCC.out.2.size _⟩ iv hiv
          clear HFIN
          gi_wp2
          go_roundw
          case rel => exact HST.out _ (by go_num)
          case measure => simp [intOf]; omega
      · have he : i = lv.length := by omega
        have HF : Hid (Apart w.heap.size W2.heap.size W wr ∧ CountI w (H + 1) (upTo bagsTop [t] (k + 1)) wr) := by
          refine ⟨HAP.out, ?_⟩
          have h := HCI.out
          rw [he, List.take_length] at h
          rw [HQ.out]
          exact h
        clear he hci hap
        gi_wp2
        exact HF.out
  case done =>
    intro W hi hK
    rw [upTo_bags_all] at hi
    have hc := hi.1.cell
    have HI := Lib.hid hi
    clear hi
    gi_wp2
    refine ⟨by simp, .inl ⟨_, _, rfl, run_takeDeferred hK, ?_⟩⟩
    exact ⟨_, results_tmp rfl _ _ _, rfl, HI.out.2.trans (below_put W (by omega))⟩
  case stop =>
    intro k W _ hf
    exact hf.elim
end Go.Proofs.Ytfhebkdoheafeaa
