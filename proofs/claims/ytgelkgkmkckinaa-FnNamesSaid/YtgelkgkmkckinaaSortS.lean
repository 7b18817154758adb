/-
  The model's SortNames: each text is put in at its place, in a list of the call's own.
-/
import Derived.Test.YtgelkgkmkckinaaUnite
import Derived.Test.YtgelkgkmkckinaaAscL
import Derived.Deep.RegionLaw
import Derived.Deep.QuietTactic
import Derived.BigQuiet
namespace Go.Proofs.Ytgelkgkmkckinaa
open Go.RowKit

/-- an append whose run is known, as a step of a region that draws its order -/
theorem step_append_run {P : Program} {ops : Array Oper} {o : Oper} {a : Act} {w : World} {K : Act → World → Prop} {Q : Exit → Act → World → Prop} {E : Prop} (hgd : o.guard = none) (s x : Operand) (t : TypeId)
    (ho : o.op = .call { callee := .builtin .append, args := #[s, x], argTypes := #[t, t] }) (vs vx : Value) (hs : a.eval s = vs) (hx : a.eval x = vx)
    (v' : Value) (w' : World) (hr : (Builtin.append_ #[t, t] o.type #[vs, vx]).run P w = .ok v' w') (h : K (a.put o.dst v') w') : if Region.wanted o (yielded ops a.tmps) = true then Oper.wp P o a w K Q else E := by
  have hw : Region.wanted o (yielded ops a.tmps) = true := by simp [Region.wanted, hgd]
  rw [if_pos hw]
  exact Lib.wp_append_run w s x t t ho vs vx hs hx v' w' hr h

theorem own_take {w : World} {base g n c a : Nat} {e : TypeId} {xs : List Value} (h : w.ownsRow base e 1 (.slice (some ⟨g, 0, none⟩) n c) n xs) (ha : a ≤ n) : w.ownsRow base e 1 (.slice (some ⟨g, 0, none⟩) a c) a (xs.take a) := by
  rcases h.2 with ⟨h1, _⟩ | ⟨g', cap, cur, hv, hb, hg, h1, h2, h3, h4⟩
  · cases h1
  · injection hv with e1 e2 e3
    injection e1 with e1
    injection e1 with e1
    subst e1
    subst e3
    have hl := h.1
    refine ⟨by rw [List.length_take]; omega, .inr ⟨g, c, cur, rfl, hb, hg, by omega, h2, h3, ?_⟩⟩
    rw [← h4, List.take_take]
    congr 1
    omega
theorem own_some {w : World} {base : Nat} {e : TypeId} {v : Value} {n : Nat} {xs : List Value} (h : w.ownsRow base e 1 v n xs) (hn : 0 < n) : ∃ g c, v = .slice (some ⟨g, 0, none⟩) n c := by
  rcases h.2 with ⟨_, h0⟩ | ⟨g, cap, cur, rfl, _⟩
  · omega
  · exact ⟨g, cap, rfl⟩
theorem below_alloc' (w : World) (o : Obj) : Below w.heap.size w (w.alloc o) := (Below.refl _ _).alloc (Nat.le_refl _) _
theorem drop_oneCell (xs : List ByteArray) (a : Nat) : ∀ u ∈ (xs.map Value.string).drop a, u.oneCell' = true := fun u hu => strs_oneCell xs u (List.mem_of_mem_drop hu)
/-- where the rest of a slice begins -/
theorem rest_at (g n c a : Nat) (h : n ≤ c) (ha : a ≤ n) : ∃ A2 : Addr, (if c = a then (some ⟨g, 0, none⟩ : Option Addr) else some ⟨g, a, none⟩) = some A2 ∧
    ∀ (w : World) (xs : List Value), xs.length = n → Sl w (some ⟨g, 0, none⟩) xs → Sl w (some A2) (xs.drop a) := by
  by_cases e : c = a
  · refine ⟨⟨g, 0, none⟩, by simp [e], fun w xs hl _ => ?_⟩
    have : xs.drop a = [] := List.drop_of_length_le (by omega)
    rw [this]
    intro j u hj
    simp at hj
  · refine ⟨⟨g, a, none⟩, by simp [e], fun w xs hl hs j u hj => ?_⟩
    rw [List.getElem?_drop] at hj
    obtain ⟨ad, e1, hc⟩ := hs (a + j) u hj
    injection e1 with e1
    subst e1
    rw [Addr.add_lit, Nat.zero_add] at hc
    exact ⟨_, rfl, by rw [Addr.add_lit]; exact hc⟩

/-- what the outer loop keeps: a list of the call's own that holds the texts so far, in order -/
def SInv (xs : List ByteArray) (w : World) (v i : Value) (wr : World) : Prop :=
  ∃ (k : Nat) (o : List ByteArray) (g c : Nat), k ≤ xs.length ∧ i = .int .i64 k ∧ v = .slice (some ⟨g, 0, none⟩) o.length c ∧ Hid (Asc o ∧ (∀ y, y ∈ o ↔ y ∈ xs.take k) ∧ o.length ≤ k) ∧
    wr.ownsRow w.heap.size 9 1 (.slice (some ⟨g, 0, none⟩) o.length c) o.length (o.map Value.string) ∧ Below w.heap.size w wr
theorem mem_take_succ {xs : List ByteArray} {k : Nat} {x y : ByteArray} (hk : k < xs.length) (hx : xs[k] = x) : y ∈ xs.take (k + 1) ↔ y ∈ xs.take k ∨ y = x := by
  rw [List.take_succ_eq_append_getElem hk, List.mem_append, List.mem_singleton, hx]
theorem sinv_same {xs o : List ByteArray} {k g c : Nat} {x : ByteArray} {w wr : World} {i : Value} (hk : k < xs.length) (hx : xs[k] = x) (ho : Asc o ∧ (∀ y, y ∈ o ↔ y ∈ xs.take k) ∧ o.length ≤ k) (hin : x ∈ o) (hi : i = .int .i64 ((k + 1 : Nat) : Int))
    (h : wr.ownsRow w.heap.size 9 1 (.slice (some ⟨g, 0, none⟩) o.length c) o.length (o.map Value.string)) (hb : Below w.heap.size w wr) : SInv xs w (.slice (some ⟨g, 0, none⟩) o.length c) i wr := by
  refine ⟨k + 1, o, g, c, hk, hi, rfl, ⟨ho.1, fun y => ?_, by omega⟩, h, hb⟩
  rw [mem_take_succ hk hx, ← ho.2.1]
  constructor
  · exact .inl
  · rintro (h1 | rfl)
    · exact h1
    · exact hin
theorem sinv_put {xs o : List ByteArray} {k a : Nat} {x : ByteArray} {w wr : World} {v i : Value} (hk : k < xs.length) (hx : xs[k] = x) (ho : Asc o ∧ (∀ y, y ∈ o ↔ y ∈ xs.take k) ∧ o.length ≤ k) (ha : a ≤ o.length) (hlt : LtTo o x a) (hge : ∀ (h : a < o.length), ¬ Lt o[a] x ∧ o[a] ≠ x) (hi : i = .int .i64 ((k + 1 : Nat) : Int))
    (h : wr.ownsRow w.heap.size 9 1 v (a + 1 + (o.length - a)) ((o.map Value.string).take a ++ [.string x] ++ (o.map Value.string).drop a)) (hb : Below w.heap.size w wr) : SInv xs w v i wr := by
  obtain ⟨g, c, rfl⟩ := own_some h (by omega)
  have hl : (o.take a ++ [x] ++ o.drop a).length = a + 1 + (o.length - a) := by
    simp only [List.length_append, List.length_take, List.length_drop, List.length_singleton]
    omega
  refine ⟨k + 1, o.take a ++ [x] ++ o.drop a, g, c, hk, hi, by rw [hl], ⟨put_asc ho.1 hlt hge, fun y => ?_, by rw [hl]; omega⟩, ?_, hb⟩
  · rw [mem_take_succ hk hx, ← ho.2.1]
    exact put_mem
  · rw [hl]
    simpa [List.map_take, List.map_drop] using h

/-- what the inner loop keeps: all up to this place precede x -/
def PInv (o : List ByteArray) (x : ByteArray) (g c : Nat) (w : World) (i : Value) (wr : World) : Prop :=
  ∃ a : Nat, a ≤ o.length ∧ i = .int .i64 a ∧ Hid (LtTo o x a) ∧ wr.ownsRow w.heap.size 9 1 (.slice (some ⟨g, 0, none⟩) o.length c) o.length (o.map Value.string) ∧ Below w.heap.size w wr

set_option maxHeartbeats 6400000 in
theorem specSort_any (A : Option Addr) (c0 : Nat) (xs : List ByteArray) (w : World) (hA : Sl w A (xs.map Value.string)) (hn : xs.length ≤ 1048576) :
    Calls Try.prog 15 #[.slice A xs.length c0] w (fun e w' => ∃ o, Asc o ∧ (∀ y, y ∈ o ↔ y ∈ xs) ∧ o.length ≤ xs.length ∧ OwnL o w e w') := by
  obtain ⟨i0, hi, hz0, hz1, hz2⟩ := info_parts infoStr
  have hle1 : xs.length ≤ 9223372036854775807 := by omega
  go_enter Try.func15, Try.ntmps15
  go_wp2_with fail
  go_loopw [3, 4] (fun v i wr => SInv xs w v i wr) (fun _ i _ => xs.length - (intOf i).toNat)
  case atStart => exact ⟨0, [], w.heap.size, 0, Nat.zero_le _, rfl, rfl, ⟨List.Pairwise.nil, fun y => by simp, Nat.le_refl _⟩, World.ownsRow_made w #[] 0 (Nat.le_refl _) (by unfold maxLen; omega) rfl, (Below.refl _ _).alloc (Nat.le_refl _) _⟩
  case round =>
    obtain ⟨k, o, g, c, hk, rfl, rfl, ho, hown, hb⟩ := hrel
    have hol := ho.out.2.2
    by_cases hlt : k < xs.length
    · obtain ⟨ad, rfl, hc0⟩ := hA k (.string xs[k]) (by simp [hlt])
      obtain ⟨x, hx⟩ : ∃ x, xs[k] = x := ⟨_, rfl⟩
      rw [hx] at hc0
      have hblk := World.block_lt_of_cell? w _ hc0
      have HX := Lib.hid hx
      have HC0 := Lib.hid hc0
      have HW := Lib.hid hown
      have HB := Lib.hid hb
      clear hx hc0 hown hb
      go_wp2_with fail
      go_loopw [5] (fun i wq => PInv o x g c w i wq) (fun i _ => o.length - (intOf i).toNat)
      case atStart => exact ⟨0, Nat.zero_le _, rfl, ltTo_zero _ _, HW.out, HB.out⟩
      case round =>
        obtain ⟨a, ha, rfl, hto, hown, hb⟩ := hrel
        have hc : wr.cell? (ad.add k) = some (.string x) := (hb.cell hblk).trans HC0.out
        have HW2 := Lib.hid hown
        by_cases hal : a < o.length
        · obtain ⟨ad2, e2, hcy⟩ := (Sl.of_own hown) a (.string o[a]) (by simp [hal])
          injection e2 with e2
          subst e2
          rw [Addr.add_lit, Nat.zero_add] at hcy
          obtain ⟨y, hy⟩ : ∃ y, o[a] = y := ⟨_, rfl⟩
          rw [hy] at hcy
          have HY := Lib.hid hy
          clear hy hown
          cases hbl : Op.bytesLess y.toList x.toList
          · by_cases hxy : y = x
            · have hbe := (Lib.bytes_beq_iff y x).2 hxy
              have hin : x ∈ o := by rw [← hxy, ← HY.out]; exact List.getElem_mem hal
              clear hxy
              go_wp2_with fail
              go_quiet (fail)
              go_wp2_with fail
              go_quiet (fail)
              go_wp2_with fail
              go_roundw
              case rel => exact sinv_same hlt HX.out ho.out hin (by go_num) HW2.out (below_drewN hb _)
              case measure => simp [intOf]; omega
            · have hbe := (Lib.bytes_beq_false_iff y x).2 hxy
              have HG : Hid (∀ (h : a < o.length), ¬ Lt o[a] x ∧ o[a] ≠ x) := fun _ => by rw [HY.out]; exact ⟨(not_lt_iff y x).1 hbl, hxy⟩
              clear hxy
              go_wp2_with fail
              go_quiet (fail)
              go_wp2_with fail
              go_quiet (fail)
              generalize hWe : World.drewN (World.drewN wr _) _ = W
              have hoW : W.ownsRow w.heap.size 9 1 (.slice (some ⟨g, 0, none⟩) o.length c) o.length (o.map Value.string) := by rw [← hWe]; exact HW2.out
              have hbW : Below w.heap.size w W := by rw [← hWe]; exact below_drewN (below_drewN hb _) _
              have hcW : W.cell? (ad.add k) = some (.string x) := by rw [← hWe]; exact hc
              have hcap := own_cap hoW
              obtain ⟨A2, hA2, hS2⟩ := rest_at g o.length c a hcap ha
              have hA3 : A2 = ⟨g, a, none⟩ := by
                rw [if_neg (show ¬ c = a by omega)] at hA2
                injection hA2 with h
                exact h.symm
              subst hA3
              clear hA2
              have hgW : g < W.heap.size := (hoW.lt g rfl).2
              have hzW := hbW.size
              have hai : (a : Int) ≤ (o.length : Int) := by omega
              have hac : (a : Int) ≤ (c : Int) := by omega
              have HS2 : Hid (Sl (W.alloc (.cells #[] 9)) (some ⟨g, a, none⟩) ((o.map Value.string).drop a)) := hS2 _ _ (by simp) ((Sl.of_own hoW).below (below_alloc' _ _))
              have HM : Hid ((W.alloc (.cells #[] 9)).ownsRow W.heap.size 9 1 (.slice (some ⟨W.heap.size, 0, none⟩) 0 0) 0 []) := World.ownsRow_made W #[] 0 (Nat.le_refl _) (by unfold maxLen; omega) rfl
              have HOW := Lib.hid hoW
              have HBW := Lib.hid hbW
              have HCW := Lib.hid hcW
              clear hWe hc hoW hbW hcW hS2
              go_wp2_with (at_builtin; refine wpList_append_sl _ rfl (.tmp 46) (.tmp 49) 24 rfl W.heap.size 9 i0 _ 16 Try.underlying24 hi hz0 hz1 hz2 rfl (.slice (some ⟨W.heap.size, 0, none⟩) 0 0) 0 [] rfl HM.out (some ⟨g, a, none⟩) (o.length - a) (c - a) ((o.map Value.string).drop a) rfl (by simp) HS2.out (drop_oneCell o a) (by unfold maxLen; omega) (by omega) (by simp) ?_; intro v1 w1 hown1 hg1 _)
              simp only [Nat.zero_add, List.nil_append] at hown1
              obtain ⟨A3, c3, rfl⟩ := own_shape hown1
              have hzg := hg1.size
              have ho1 : w1.ownsRow w.heap.size 9 1 (.slice (some ⟨g, 0, none⟩) o.length c) o.length (o.map Value.string) := (HOW.out.alloc _).kept hg1 (.inr (fun e => by simp [Value.ownBlock] at e; omega))
              have hb1 : Below w.heap.size w w1 := (HBW.out.alloc hzW _).grown hg1 (by simp; omega) (fun q hq => by simp [Value.ownBlock] at hq; omega)
              have hc1 : w1.cell? (ad.add k) = some (.string x) := (hb1.cell hblk).trans HC0.out
              have hzb := hb1.size
              obtain ⟨v2, w2, hr2, hown2, hg2, _⟩ := run_append_sl (w1.drew.alloc (.cells #[.string x] 9)) w.heap.size 24 24 9 i0 _ 16 Try.underlying24 hi hz0 hz1 hz2 rfl (.slice (some ⟨g, 0, none⟩) a c) a ((o.map Value.string).take a) (own_take ((ho1.drew).alloc _) ha) (some ⟨w1.heap.size, 0, none⟩) 1 1 [.string x] rfl (sl_one w1.drew _ _) (strs_oneCell [x]) (by unfold maxLen; omega) (by omega) (by simp; omega)
              have hr3 : w2.ownsRow W.heap.size 9 1 (.slice A3 (o.length - a) c3) (o.length - a) ((o.map Value.string).drop a) := ((hown1.drew).alloc _).kept hg2 (.inr (fun e => by have := (hown1.lt g e).1; omega))
              have hzg2 := hg2.size
              simp at hzg2
              obtain ⟨v4, w4, hr4, hown4, hg4, _⟩ := run_append_sl w2 w.heap.size 24 24 9 i0 _ 16 Try.underlying24 hi hz0 hz1 hz2 rfl v2 (a + 1) ((o.map Value.string).take a ++ [.string x]) hown2 A3 (o.length - a) c3 ((o.map Value.string).drop a) (by simp) (Sl.of_own hr3) (drop_oneCell o a) (by unfold maxLen; omega) (by omega) (by omega)
              have hb2 : Below w.heap.size w w2 := (hb1.drew.alloc (by simpa using hzb) _).grown hg2 (by simp; omega) (fun q hq => by simp [Value.ownBlock] at hq; have := (ho1.lt g rfl).1; omega)
              have hb4 : Below w.heap.size w w4 := hb2.grown hg4 hb2.size (fun q hq => (hown2.lt q hq).1)
              have HR2 := Lib.hid hr2
              have HR4 := Lib.hid hr4
              have HO4 := Lib.hid hown4
              have HB4 := Lib.hid hb4
              clear hr2 hr4 hown4 hb4 hown2 hown1 ho1 hr3 hb1 hb2 hg1 hg2 hg4
              go_region_law (first | (refine step_append_run rfl (.tmp 53) (.tmp 58) 24 rfl (.slice (some ⟨g, 0, none⟩) a c) (.slice (some ⟨w1.heap.size, 0, none⟩) 1 1) (by simp [Act.eval]) (by simp [Act.eval]) v2 w2 HR2.out ?_) | (refine step_append_run rfl (.tmp 59) (.tmp 60) 24 rfl v2 (.slice A3 (o.length - a) c3) (by simp [Act.eval]) (by simp [Act.eval]) v4 w4 HR4.out ?_))
              go_wp2_with fail
              go_roundw
              case rel => exact sinv_put hlt HX.out ho.out ha hto.out HG.out (by go_num) HO4.out HB4.out
              case measure => simp [intOf]; omega
          · go_wp2_with fail
            go_quiet (fail)
            go_wp2_with fail
            go_roundw
            case rel => exact ⟨a + 1, hal, by go_num, ltTo_succ hto.out hal (by rw [HY.out]; exact (lt_iff y x).1 hbl), HW2.out, below_drewN hb _⟩
            case measure => simp [intOf]; omega
        · have hd : decide ((a : Int) < (o.length : Int)) = false := by simp; omega
          have HG : Hid (∀ (h : a < o.length), ¬ Lt o[a] x ∧ o[a] ≠ x) := fun h => absurd h hal
          clear hown
          go_wp2_with fail
          go_quiet (fail)
          go_wp2_with fail
          go_quiet (fail)
          generalize hWe : World.drewN (World.drewN wr _) _ = W
          have hoW : W.ownsRow w.heap.size 9 1 (.slice (some ⟨g, 0, none⟩) o.length c) o.length (o.map Value.string) := by rw [← hWe]; exact HW2.out
          have hbW : Below w.heap.size w W := by rw [← hWe]; exact below_drewN (below_drewN hb _) _
          have hcW : W.cell? (ad.add k) = some (.string x) := by rw [← hWe]; exact hc
          have hcap := own_cap hoW
          obtain ⟨A2, hA2, hS2⟩ := rest_at g o.length c a hcap ha
          have hgW : g < W.heap.size := (hoW.lt g rfl).2
          have hzW := hbW.size
          have hai : (a : Int) ≤ (o.length : Int) := by omega
          have hac : (a : Int) ≤ (c : Int) := by omega
          have HS2 : Hid (Sl (W.alloc (.cells #[] 9)) (some A2) ((o.map Value.string).drop a)) := hS2 _ _ (by simp) ((Sl.of_own hoW).below (below_alloc' _ _))
          have HM : Hid ((W.alloc (.cells #[] 9)).ownsRow W.heap.size 9 1 (.slice (some ⟨W.heap.size, 0, none⟩) 0 0) 0 []) := World.ownsRow_made W #[] 0 (Nat.le_refl _) (by unfold maxLen; omega) rfl
          have HOW := Lib.hid hoW
          have HBW := Lib.hid hbW
          have HCW := Lib.hid hcW
          clear hWe hc hoW hbW hcW hS2
          go_wp2_with (at_builtin; refine wpList_append_sl _ rfl (.tmp 46) (.tmp 49) 24 rfl W.heap.size 9 i0 _ 16 Try.underlying24 hi hz0 hz1 hz2 rfl (.slice (some ⟨W.heap.size, 0, none⟩) 0 0) 0 [] rfl HM.out (some A2) (o.length - a) (c - a) ((o.map Value.string).drop a) rfl (by simp) HS2.out (drop_oneCell o a) (by unfold maxLen; omega) (by omega) (by simp) ?_; intro v1 w1 hown1 hg1 _)
          simp only [Nat.zero_add, List.nil_append] at hown1
          obtain ⟨A3, c3, rfl⟩ := own_shape hown1
          have hzg := hg1.size
          have ho1 : w1.ownsRow w.heap.size 9 1 (.slice (some ⟨g, 0, none⟩) o.length c) o.length (o.map Value.string) := (HOW.out.alloc _).kept hg1 (.inr (fun e => by simp [Value.ownBlock] at e; omega))
          have hb1 : Below w.heap.size w w1 := (HBW.out.alloc hzW _).grown hg1 (by simp; omega) (fun q hq => by simp [Value.ownBlock] at hq; omega)
          have hc1 : w1.cell? (ad.add k) = some (.string x) := (hb1.cell hblk).trans HC0.out
          have hzb := hb1.size
          obtain ⟨v2, w2, hr2, hown2, hg2, _⟩ := run_append_sl (w1.drew.alloc (.cells #[.string x] 9)) w.heap.size 24 24 9 i0 _ 16 Try.underlying24 hi hz0 hz1 hz2 rfl (.slice (some ⟨g, 0, none⟩) a c) a ((o.map Value.string).take a) (own_take ((ho1.drew).alloc _) ha) (some ⟨w1.heap.size, 0, none⟩) 1 1 [.string x] rfl (sl_one w1.drew _ _) (strs_oneCell [x]) (by unfold maxLen; omega) (by omega) (by simp; omega)
          have hr3 : w2.ownsRow W.heap.size 9 1 (.slice A3 (o.length - a) c3) (o.length - a) ((o.map Value.string).drop a) := ((hown1.drew).alloc _).kept hg2 (.inr (fun e => by have := (hown1.lt g e).1; omega))
          have hzg2 := hg2.size
          simp at hzg2
          obtain ⟨v4, w4, hr4, hown4, hg4, _⟩ := run_append_sl w2 w.heap.size 24 24 9 i0 _ 16 Try.underlying24 hi hz0 hz1 hz2 rfl v2 (a + 1) ((o.map Value.string).take a ++ [.string x]) hown2 A3 (o.length - a) c3 ((o.map Value.string).drop a) (by simp) (Sl.of_own hr3) (drop_oneCell o a) (by unfold maxLen; omega) (by omega) (by omega)
          have hb2 : Below w.heap.size w w2 := (hb1.drew.alloc (by simpa using hzb) _).grown hg2 (by simp; omega) (fun q hq => by simp [Value.ownBlock] at hq; have := (ho1.lt g rfl).1; omega)
          have hb4 : Below w.heap.size w w4 := hb2.grown hg4 hb2.size (fun q hq => (hown2.lt q hq).1)
          have HR2 := Lib.hid hr2
          have HR4 := Lib.hid hr4
          have HO4 := Lib.hid hown4
          have HB4 := Lib.hid hb4
          clear hr2 hr4 hown4 hb4 hown2 hown1 ho1 hr3 hb1 hb2 hg1 hg2 hg4
          go_region_law (first | (refine step_append_run rfl (.tmp 53) (.tmp 58) 24 rfl (.slice (some ⟨g, 0, none⟩) a c) (.slice (some ⟨w1.heap.size, 0, none⟩) 1 1) (by simp [Act.eval]) (by simp [Act.eval]) v2 w2 HR2.out ?_) | (refine step_append_run rfl (.tmp 59) (.tmp 60) 24 rfl v2 (.slice A3 (o.length - a) c3) (by simp [Act.eval]) (by simp [Act.eval]) v4 w4 HR4.out ?_))
          go_wp2_with fail
          go_roundw
          case rel => exact sinv_put hlt HX.out ho.out ha hto.out HG.out (by go_num) HO4.out HB4.out
          case measure => simp [intOf]; omega
    · have he : k = xs.length := by omega
      have HR : Hid (∃ p, Asc p ∧ (∀ y, y ∈ p ↔ y ∈ xs) ∧ p.length ≤ xs.length ∧ OwnL p w (.returned (.slice (some ⟨g, 0, none⟩) o.length c)) wr) := by
        have h1 := ho.out
        rw [he, List.take_length] at h1
        exact ⟨o, h1.1, h1.2.1, h1.2.2, _, _, rfl, hown, hb⟩
      clear he ho hown
      go_wp2_with fail
      go_ret
      exact HR.out
end Go.Proofs.Ytgelkgkmkckinaa
