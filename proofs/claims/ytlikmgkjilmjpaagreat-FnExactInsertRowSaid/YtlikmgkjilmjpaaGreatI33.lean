/-
  Merged by program: OvL, ChgF, ChgG, SeqA.
-/
import Derived.Test.YtlikmgkjilmjpaaGreatI11
import Derived.Test.YtlikmgkjilmjpaaGreatI32
import Derived.Test.YtlikmgkjilmjpaaGreatI24
import Derived.Test.YtlikmgkjilmjpaaGreatI5
import Derived.Test.YtlikmgkjilmjpaaGreatI16
import Derived.Deep.RegionHeld3
import Derived.Deep.Slices
import Derived.Test.YtlikmgkjilmjpaaGreatI21

/-
  Lists of values in new memory, in the words of kinds; what the program's copyValues asks for.
-/
namespace Go.Proofs.YtlikmgkjilmjpaaGreat
open Go.RowKit

theorem ovs_ol {w : World} {ts : List Va} {A : Option Addr} {d : Nat} {fp : List Nat} (h : OVs w ts (.slice A ts.length d) fp) : ∃ fq, OL kVa 47 w ts (.slice A ts.length d) fq ∧ ∀ b, b ∈ fq ↔ b ∈ fp := by
  obtain ⟨A', d', xs, fs, e, h1, h2, h3, h4, h5⟩ := h
  injection e with e1 _ e2
  subst e1 e2
  exact ⟨_, ⟨A, d, xs, fs, rfl, h1, h2, h3, rfl, h4.nodup_iff.2 h5⟩, fun b => h4.mem_iff⟩
theorem madeVs_L {ts : List Va} {w W : World} {e : Ending} {w' : World} (h : MadeVs ts W e w') (hb : Below w.heap.size w W) : MadeL' kVa 47 ts w e w' := by
  obtain ⟨A, d, fp, rfl, ho, hf, hb2⟩ := h
  obtain ⟨fq, h1, h2⟩ := ovs_ol ho
  have := hb.size
  exact ⟨A, d, fq, rfl, h1, fun b hm => by have := hf b ((h2 b).1 hm); omega, hb.trans (hb2.mono hb.size)⟩
theorem copyVs_hyp {ts : List Va} (h : wL wv ts ≤ 1048576) : (∀ t ∈ ts, wv t ≤ 1048576) ∧ ts.length ≤ 1048576 ∧ sizesV ts ≤ 2097151 := by
  have h1 : sizesV ts ≤ (ts.map wv).sum + ts.length := by
    unfold sizesV
    clear h
    induction ts with
    | nil => simp
    | cons t ts ih => have := size_wv t; simp only [List.map_cons, List.sum_cons, List.length_cons]; omega
  refine ⟨fun t ht => ?_, ?_, ?_⟩
  · obtain ⟨j, hj, rfl⟩ := List.getElem_of_mem ht
    exact (wL_le (f := wv) hj h).1
  · unfold wL at h; omega
  · unfold wL at h; omega

end Go.Proofs.YtlikmgkjilmjpaaGreat

/-
  The program's changes of rows: the closures of InsertRow and DeleteRow; the library's Clone.
-/
namespace Go.Proofs.YtlikmgkjilmjpaaGreat
open Go.RowKit

theorem chg_box {w : World} {x : Va} {c0 c1 c2 c3 : Value} (h : RVa w x [c0, c1, c2, c3]) : ∀ u ∈ [c0, c1, c2, c3], u.oneCell' = true := by
  obtain ⟨L, c, A, d, he, _⟩ := h.open
  rw [he]
  intro u hu
  simp only [List.mem_cons, List.not_mem_nil, or_false] at hu
  rcases hu with rfl | rfl | rfl | rfl <;> rfl
theorem chg_cells (w : World) (c0 c1 c2 c3 : Value) (t : TypeId) : Sl (w.alloc (.cells #[c0, c1, c2, c3] t)) (some ⟨w.heap.size, 0, none⟩) [c0, c1, c2, c3] := by
  intro j u hj
  have hx := Box4.new w t c0 c1 c2 c3
  match j, hj with
  | 0, hj => simp at hj; subst hj; exact ⟨_, rfl, hx.c0⟩
  | 1, hj => simp at hj; subst hj; exact ⟨_, rfl, hx.c1⟩
  | 2, hj => simp at hj; subst hj; exact ⟨_, rfl, hx.c2⟩
  | 3, hj => simp at hj; subst hj; exact ⟨_, rfl, hx.c3⟩
  | j + 4, hj => simp at hj
theorem chg_two (w : World) (a b : Value) (t : TypeId) : (w.alloc (.cells #[a, b] t)).cell? ⟨w.heap.size, 0, none⟩ = some a ∧ (w.alloc (.cells #[a, b] t)).cell? ⟨w.heap.size, 1, none⟩ = some b := by
  have h := World.alloc_heap_new w (.cells #[a, b] t)
  exact ⟨cell_of_row _ _ 0 #[a, b] t (0, 0) h, cell_of_row _ _ 1 #[a, b] t (0, 0) h⟩

set_option maxRecDepth 100000 in
set_option maxHeartbeats 1600000 in
/-- the closure of InsertRow, over a variable at block P that holds the row -/
theorem ins1_any (rows : List Va) (v : Va) (w0 w : World) (P : Nat) (A : Option Addr) (d : Nat) (c0 c1 c2 c3 : Value) (hb0 : Below w0.heap.size w0 w) (h : RVas w0 A rows) (hv : RVa w0 v [c0, c1, c2, c3]) (hbx : Box4 w P 47 c0 c1 c2 c3) (hl : rows.length ≤ 1048576) :
    Calls Tryz.prog 35 #[.slice A rows.length d, .pointer (some ⟨P, 0, none⟩)] w (ChgPost (insF v) rows w0 w) := by
  obtain ⟨nws, hnl, hnsl, hn1, hnr⟩ := rvas_cells h
  obtain ⟨n, hn⟩ : ∃ n, rows.length = n := ⟨_, rfl⟩
  rw [hn] at hnl hl ⊢
  obtain ⟨G, hG⟩ : ∃ G, w.heap.size = G := ⟨_, rfl⟩
  obtain ⟨W1, hW1⟩ : ∃ W1, w.alloc (.cells #[c0, c1, c2, c3] 47) = W1 := ⟨_, rfl⟩
  obtain ⟨W2, hW2⟩ : ∃ W2, W1.alloc (.cells #[.slice A n d, .slice (some ⟨G, 0, none⟩) 1 1] 45) = W2 := ⟨_, rfl⟩
  have hz1 : W1.heap.size = G + 1 := by rw [← hW1, ← hG]; simp
  have hb1 : Below w.heap.size w W1 := by rw [← hW1]; exact (Below.refl _ _).alloc (Nat.le_refl _) _
  have hb12 : Below W1.heap.size W1 W2 := by rw [← hW2]; exact (Below.refl _ _).alloc (Nat.le_refl _) _
  have hb2 := hb1.trans (hb12.mono hb1.size)
  have htwo := chg_two W1 (.slice A n d) (.slice (some ⟨G, 0, none⟩) 1 1) 45
  rw [hW2, hz1] at htwo
  have hys : Sl W2 (some ⟨G, 0, none⟩) [c0, c1, c2, c3] := by
    have := chg_cells w c0 c1 c2 c3 47
    rw [hW1, hG] at this
    exact this.below hb12
  have HC := Lib.hid (concV_any (G + 1) A (some ⟨G, 0, none⟩) d 1 n 1 nws [c0, c1, c2, c3] W2 htwo.1 htwo.2 hnl rfl hn1 (chg_box hv) ((hnsl.below hb0).below hb2) hys (by omega))
  have HB2 := Lib.hid hb2
  have HW1 := Lib.hid hW1
  have HW2 := Lib.hid hW2
  have hz1' := hz1
  have x0 := hbx.c0
  have x1 := hbx.c1
  have x2 := hbx.c2
  have x3 := hbx.c3
  have HR : Hid (∀ (A4 : Option Addr) (d4 : Nat) (w4 : World), w4.ownsRow W2.heap.size 47 4 (.slice A4 (n + 1) d4) (n + 1) (nws ++ [c0, c1, c2, c3]) → Below W2.heap.size W2 w4 → ChgPost (insF v) rows w0 w (.returned (.tuple #[.slice A4 (n + 1) d4, .bool true])) w4) := Lib.hid (fun A4 d4 w4 ho hb4 => by
    have hb := hb2.trans (hb4.mono hb2.size)
    refine ⟨hb, .inr ⟨rows ++ [v], A4, d4, rfl, by rw [List.length_append, hn]; rfl, ?_, by rw [List.length_append, hn]; show n + 1 ≤ _; omega, fun U hU => ?_⟩⟩
    · rw [List.length_append, hn]
      exact own_capTy ho
    · have hbU : Below w0.heap.size w0 U := (hb0.trans (hb.mono hb0.size)).trans (hU.below (B := w0.heap.size) (Nat.le_trans hb0.size hb.size) fun i hi => .inl hi)
      refine rvas_row (own_heldK ho hU fun b hm => .inr ?_) (by rw [List.length_append, hn]; rfl) fun j t hj => ?_
      · have := (ho.lt b ((blk_own _ _ _ _).2 hm)).1
        have := hb2.size
        omega
      · rcases Nat.lt_or_ge j rows.length with hlt | hge
        · rw [List.getElem?_append_left hlt] at hj
          rw [part4_apps hnl (by omega)]
          exact (hnr j t hj).keep hbU
        · rw [List.getElem?_append_right hge] at hj
          obtain ⟨q, rfl⟩ : ∃ q, j = n + q := ⟨j - n, by omega⟩
          rw [hn, Nat.add_sub_cancel_left] at hj
          rw [part4_behind hnl]
          match q, hj with
          | 0, hj => simp at hj; subst hj; exact hv.keep hbU
          | q + 1, hj => simp at hj)
  clear hb0 h hv hbx hnl hnsl hn1 hnr hn hb1 hb12 hb2 htwo hys hW1 hW2 hz1
  go_enter Tryz.func35, Tryz.ntmps35
  go_wp2_with (go_at_call 36; rw [HW1.out, HW2.out]; refine HC.out.mono ?_; rintro e w4 ⟨A4, d4, rfl, ho4, hb4⟩; have HF := Lib.hid (HR.out A4 d4 w4 ho4 hb4); clear ho4 hb4)
  go_ret2
  exact HF.out

/-- the library's Clone of tables' data that are there -/
def OwnD (n : Nat) (xs : List Value) (w : World) (e : Ending) (w' : World) : Prop :=
  ∃ (A : Option Addr) (c : Nat), e = .returned (.slice A n c) ∧ w'.ownsRow w.heap.size 66 2 (.slice A n c) n xs ∧ Below w.heap.size w w'
theorem eqlNil (w : World) (ad : Addr) (n c : Nat) : (binOp BinOp.eql 35 (.slice (some ad) n c) (.slice none 0 0)).run Tryz.prog w = .ok (.bool false) w := by kernel_rfl
set_option maxRecDepth 100000 in
set_option maxHeartbeats 1600000 in
theorem clone_any (w : World) (ad : Addr) (n c : Nat) (xs : List Value) (hxl : xs.length = n * 2) (hx1 : ∀ u ∈ xs, u.oneCell' = true) (hA : Sl w (some ad) xs) (hl : n ≤ 1048576) :
    Calls Tryz.prog 59 #[.slice (some ad) n c] w (OwnD n xs w) := by
  obtain ⟨i1, hi1, hy0, hy1, hy2⟩ := info_parts infoDd
  have ho0 := World.ownsRow_made (base := w.heap.size) (size := 2) (e := 66) w #[] 0 (Nat.le_refl _) (by unfold maxLen; omega) (by simp)
  have HO := Lib.hid ho0
  have HSL := Lib.hid (hA.below ((Below.refl _ _).alloc (Nat.le_refl _) (.cells #[] 66) : Below w.heap.size w _))
  have HXL := Lib.hid hxl
  have HX1 := Lib.hid hx1
  have HR : Hid (∀ (v' : Value) (w' : World), w'.ownsRow w.heap.size 66 2 v' (0 + n) ([] ++ xs) → (w.alloc (.cells #[] 66)).grownBy w' (Value.slice (some ⟨w.heap.size, 0, none⟩) 0 0).ownBlock → OwnD n xs w (.returned v') w') := Lib.hid (fun v' w' h1 h2 => by
    rw [Nat.zero_add, List.nil_append] at h1
    obtain ⟨A4, d4, rfl⟩ := own_shape3 h1
    exact ⟨A4, d4, rfl, h1, ((Below.refl _ _).alloc (Nat.le_refl _) _ : Below w.heap.size w _).grown h2 (by simp) (fun q hq => by simp [Value.ownBlock] at hq; omega)⟩)
  have heq := eqlNil w ad n c
  clear hxl hx1 hA ho0
  go_enter Tryz.func59, Tryz.ntmps59
  go_wp2_with (at_builtin; refine wpList_append_slN _ rfl (.tmp 5) (.tmp 6) 35 rfl w.heap.size 66 i1 _ 2 40 Tryz.underlying35 hi1 hy0 hy1 hy2 (by rfl) (by omega) _ _ _ rfl HO.out (some ad) n c xs rfl HXL.out HSL.out HX1.out (by unfold maxLen; omega) (by omega) (by simp) ?_; intro v' w2 hown2 hg2 _; have HF := Lib.hid (HR.out v' w2 hown2 hg2); clear hown2 hg2)
  go_ret
  exact HF.out
end Go.Proofs.YtlikmgkjilmjpaaGreat

/-
  The program's change of rows by DeleteRow.
-/
namespace Go.Proofs.YtlikmgkjilmjpaaGreat
open Go.RowKit

theorem part4_take {xs : List Value} {k j : Nat} (hj : j < k) : part4 (xs.take (k * 4)) j = part4 xs j := part4_ext fun i hi => by rw [List.getElem?_take_of_lt (by omega)]
theorem part4_drop {xs : List Value} {k j : Nat} : part4 (xs.drop (k * 4)) j = part4 xs (k + j) := by
  unfold part4
  rw [List.drop_drop, show k * 4 + j * 4 = (k + j) * 4 by omega]
theorem sl_take {w : World} {A : Option Addr} {xs : List Value} (h : Sl w A xs) (n : Nat) : Sl w A (xs.take n) := by
  intro j u hj
  refine h j u ?_
  rw [List.getElem?_take] at hj
  split at hj
  · exact hj
  · cases hj
theorem sl_drop {w : World} {ad : Addr} {xs : List Value} (h : Sl w (some ad) xs) (n : Nat) : Sl w (some (ad.add n)) (xs.drop n) := by
  intro j u hj
  rw [List.getElem?_drop] at hj
  obtain ⟨ad', e, hc⟩ := h _ u hj
  injection e with e
  subst e
  exact ⟨_, rfl, by rw [Go.Deep.add_add]; exact hc⟩

set_option maxRecDepth 100000 in
set_option maxHeartbeats 3200000 in
/-- the closure of DeleteRow, over a variable at block P that holds the index -/
theorem del1_any (rows : List Va) (k : Int) (w0 w : World) (P : Nat) (A : Option Addr) (d : Nat) (hb0 : Below w0.heap.size w0 w) (h : RVas w0 A rows) (hbx : Boxed w P 3 (.int .i64 k)) (hl : rows.length ≤ 1048576) (hd : rows.length ≤ d) :
    Calls Tryz.prog 47 #[.slice A rows.length d, .pointer (some ⟨P, 0, none⟩)] w (ChgPost (delF k) rows w0 w) := by
  obtain ⟨nws, hnl, hnsl0, hn1, hnr⟩ := rvas_cells h
  have hnsl := hnsl0.below hb0
  have x0 := hbx.cell
  by_cases hk0 : k < 0
  · have HF : Hid (ChgPost (delF k) rows w0 w (.returned (.tuple #[.slice none 0 0, .bool false])) w) := Lib.hid ⟨Below.refl _ _, .inl ⟨by unfold delF; rw [if_neg (by omega)], rfl⟩⟩
    generalize rows.length = n at *
    clear hb0 h hnl hnsl0 hnsl hn1 hnr hbx
    go_enter Tryz.func47, Tryz.ntmps47
    go_wp2_with fail
    go_ret2
    exact HF.out
  by_cases hkn : (rows.length : Int) ≤ k
  · have HF : Hid (ChgPost (delF k) rows w0 w (.returned (.tuple #[.slice none 0 0, .bool false])) w) := Lib.hid ⟨Below.refl _ _, .inl ⟨by unfold delF; rw [if_neg (by omega)], rfl⟩⟩
    generalize rows.length = n at *
    clear hb0 h hnl hnsl0 hnsl hn1 hnr hbx
    go_enter Tryz.func47, Tryz.ntmps47
    go_wp2_with fail
    go_ret2
    exact HF.out
  obtain ⟨q, rfl⟩ : ∃ q : Nat, k = (q : Int) := ⟨k.toNat, by omega⟩
  have hq : q < rows.length := by omega
  obtain ⟨_, ad, rfl, _⟩ : ∃ t ad, A = some ad ∧ rows[q]? = some t := by
    obtain ⟨ps, hp⟩ := h
    obtain ⟨_, ad, e, _⟩ := hp q _ (List.getElem?_eq_getElem hq)
    exact ⟨_, ad, e, List.getElem?_eq_getElem hq⟩
  obtain ⟨n, hn⟩ : ∃ n, rows.length = n := ⟨_, rfl⟩
  obtain ⟨m, hm⟩ : ∃ m, n - (q + 1) = m := ⟨_, rfl⟩
  rw [hn] at hnl hl hd hq hkn ⊢
  obtain ⟨G, hG⟩ : ∃ G, w.heap.size = G := ⟨_, rfl⟩
  obtain ⟨B, hB⟩ : ∃ B : Option Addr, (if d = q + 1 then some ad else some (ad.add ((q + 1) * 4))) = B := ⟨_, rfl⟩
  obtain ⟨W2, hW2⟩ : ∃ W2, (w.alloc (.cells #[.slice (some ad) q d, .slice B m (d - (q + 1))] 45)).drew = W2 := ⟨_, rfl⟩
  have hb2 : Below w.heap.size w W2 := by rw [← hW2]; exact ((Below.refl _ _).alloc (Nat.le_refl _) _).drew
  have htwo := chg_two w (.slice (some ad) q d) (.slice B m (d - (q + 1))) 45
  rw [hG] at htwo
  have htwo : W2.cell? ⟨G, 0, none⟩ = some (.slice (some ad) q d) ∧ W2.cell? ⟨G, 1, none⟩ = some (.slice B m (d - (q + 1))) := by rw [← hW2]; exact htwo
  have hys : Sl w B (nws.drop ((q + 1) * 4)) := by
    by_cases e : d = q + 1
    · have e2 : nws.drop ((q + 1) * 4) = [] := List.drop_eq_nil_of_le (by omega)
      rw [e2]
      intro j u hj
      simp at hj
    · rw [← hB, if_neg e]
      exact sl_drop hnsl _
  have HC := Lib.hid (concV_any G (some ad) B d (d - (q + 1)) q m (nws.take (q * 4)) (nws.drop ((q + 1) * 4)) W2 htwo.1 htwo.2 (by rw [List.length_take]; omega) (by rw [List.length_drop]; omega) (fun u hu => hn1 u (List.mem_of_mem_take hu)) (fun u hu => hn1 u (List.mem_of_mem_drop hu)) ((sl_take hnsl _).below hb2) (hys.below hb2) (by omega))
  have HW2 := Lib.hid hW2
  have HB := Lib.hid hB
  have HR : Hid (∀ (A4 : Option Addr) (d4 : Nat) (w4 : World), w4.ownsRow W2.heap.size 47 4 (.slice A4 (q + m) d4) (q + m) (nws.take (q * 4) ++ nws.drop ((q + 1) * 4)) → Below W2.heap.size W2 w4 → ChgPost (delF q) rows w0 w (.returned (.tuple #[.slice A4 (q + m) d4, .bool true])) w4) := Lib.hid (fun A4 d4 w4 ho hb4 => by
    have hb := hb2.trans (hb4.mono hb2.size)
    have hlen : (rows.take q ++ rows.drop (q + 1)).length = q + m := by rw [List.length_append, List.length_take, List.length_drop]; omega
    have htl : (nws.take (q * 4)).length = q * 4 := by rw [List.length_take]; omega
    refine ⟨hb, .inr ⟨rows.take q ++ rows.drop (q + 1), A4, d4, ?_, by rw [hlen], ?_, by rw [hlen]; omega, fun U hU => ?_⟩⟩
    · unfold delF
      rw [if_pos (by omega)]
      simp
    · rw [hlen]
      exact own_capTy ho
    · have hbU : Below w0.heap.size w0 U := (hb0.trans (hb.mono hb0.size)).trans (hU.below (B := w0.heap.size) (Nat.le_trans hb0.size hb.size) fun i hi => .inl hi)
      refine rvas_row (own_heldK ho hU fun b hm => .inr ?_) hlen fun j t hj => ?_
      · have := (ho.lt b ((blk_own _ _ _ _).2 hm)).1
        have := hb2.size
        omega
      · rcases Nat.lt_or_ge j q with hlt | hge
        · rw [List.getElem?_append_left (by rw [List.length_take]; omega), List.getElem?_take_of_lt hlt] at hj
          rw [part4_apps htl hlt, part4_take hlt]
          exact (hnr j t hj).keep hbU
        · obtain ⟨z, rfl⟩ : ∃ z, j = q + z := ⟨j - q, by omega⟩
          rw [List.getElem?_append_right (by rw [List.length_take]; omega), List.length_take, Nat.min_eq_left (by omega), Nat.add_sub_cancel_left, List.getElem?_drop] at hj
          rw [part4_behind htl, part4_drop]
          exact (hnr _ t hj).keep hbU)
  have HKP : Hid (∀ w4 : World, Below W2.heap.size W2 w4 → w4.cell? ⟨P, 0, none⟩ = some (.int .i64 (q : Int))) := Lib.hid (fun w4 h4 => ((hb2.trans (h4.mono hb2.size)).cell hbx.lt).trans x0)
  have g1 : (q : Int) < (n : Int) := by omega
  have g2 : (0 : Int) ≤ (q : Int) := by omega
  have g3 : (q : Int) ≤ (d : Int) := by omega
  have g4 : (q : Int) + 1 ≤ (n : Int) := by omega
  have g6 : ((q : Int) + 1).toNat = q + 1 := by omega
  have g7 : (n : Int) ≤ (d : Int) := by omega
  have g8 : (0 : Int) ≤ (q : Int) + 1 := by omega
  have g5 : IntKind.i64.wrap ((q : Int) + 1) = (q : Int) + 1 := by rw [IntKind.wrap_i64]; omega
  clear hb0 h hnl hnsl0 hnsl hn1 hnr hbx hb2 htwo hys hB hW2
  go_enter Tryz.func47, Tryz.ntmps47
  go_wp2_with fail
  go_region_held3 (fun W => W.cell? ⟨P, 0, none⟩ = some (.int .i64 (q : Int))) (first | assumption | go_keep)
    (first | (go_at_call 36; rw [HB.out, HW2.out]; refine HC.out.mono ?_; rintro e w4 ⟨A4, d4, rfl, ho4, hb4⟩; have HF := Lib.hid (HR.out A4 d4 w4 ho4 hb4); have y4 := HKP.out w4 hb4; clear ho4 hb4))
  go_wp2_with fail
  go_ret2
  exact HF.out
end Go.Proofs.YtlikmgkjilmjpaaGreat

/-
  A range over a function as in SeqN, whose values are stored into variables of the round (Asg says what lies there). Hangs on no program.
-/
namespace Go.Proofs.YtlikmgkjilmjpaaGreat
open Go.RowKit

section
variable {N : Fence} {n : Nat} {P : Program}
theorem wpIn_givesA {g : Operand} {p0 : Array Tmp} {assign body : Code} {Q : Exit → Act → World → Prop} {a : Act} {w : World}
    (hro : N.round = none) (h1 : 1 ≤ n) {gf : Nat} {lb : Array Value} (hg : a.eval g = .func (.func gf) #[] lb) (hFg : N.fn gf) (eg : ∀ args w, (callFunc gf args).run P w = .ok (.enter gf args) w)
    {M : Nat} {Rd : Nat → Array Value → Prop} {On Keep : Nat → Prop} (hsz : ∀ k v, Rd k v → v.size = p0.size) (hkeep : ∀ b, Keep b → b < w.heap.size)
    (hgives : ∀ W, Below w.heap.size w W → W.heap.size = w.heap.size + 2 → GivesN N (n - 1) P gf lb M Rd On Keep W)
    (I : Nat → (Nat → Prop) → World → Prop) (Ix : World → Prop) (hI : ∀ k F A C, I k F A → Held (fun i => i < w.heap.size ∨ F i) A C → I k F C) (hB : ∀ k F A, I k F A → ∀ b, F b → ¬ Keep b ∧ b < A.heap.size)
    (hIx : ∀ A C, Ix A → Held (fun i => i ≠ w.heap.size + 1) A C → Ix C) (F0 : Nat → Prop) (h0 : I 0 F0 w) (a₁ : Array Value → Nat → Act) (Asg : Array Value → Nat → World → Prop) (hAsg : ∀ v b A C, Asg v b A → Held (fun i => b ≤ i) A C → Asg v b C)
    (hassign : ∀ (l k : Nat) (v : Array Value) (W : World) (K : Act → World → Prop), Rd k v → (∀ Wa, Asg v W.heap.size Wa → Below W.heap.size W Wa → K (a₁ v W.heap.size) Wa) →
      assign.wpIn (N.inRound l) (n - 1 - 1) P (Exit.then K (fun _ _ _ => False)) { tmps := (p0.zip v).foldl (fun tmps (t, u) => tmps.setIfInBounds t u) a.tmps, defers := [] } W)
    (hbody : ∀ (l k : Nat) (s : Array Value) (F : Nat → Prop) (W : World) (b : Nat), k < M → I k F W → Rd k s → Asg s b W → w.heap.size + 2 ≤ b → b ≤ W.heap.size → (∀ i, F i → i < b) → ¬ F w.heap.size → ¬ F (w.heap.size + 1) → body.wpIn (N.inRound l) (n - 1 - 1) P (givesPostN On I Ix k F W) (a₁ s b) W)
    (hdone : ∀ F W, I M F W → W.heap[w.heap.size]? = some (.deferred (some [])) → Q .normal { a with defers := { target := .collected w.heap.size, args := #[] } :: a.defers } W)
    (hstop : ∀ W, Ix W → W.heap[w.heap.size]? = some (.deferred (some [])) → Code.ret.wpIn N n P Q { a with defers := { target := .collected w.heap.size, args := #[] } :: a.defers } W) :
    (Code.rangeFunc g p0 assign body).wpIn N n P Q a w := by
  refine wpIn_rangeFunc ?_
  intro fn hfn
  rw [hro]
  -- the loop's record, in each of its states
  obtain ⟨R, hR⟩ : ∃ R : LoopState → Option Code → Loop, R = fun st pe => { state := st, pending := pe, fn, tmps := a.tmps, params := p0, assign, body, defers := w.heap.size } := ⟨_, rfl⟩
  obtain ⟨D, hD⟩ : ∃ D, w.heap.size = D := ⟨_, rfl⟩
  obtain ⟨W1, hW1⟩ : ∃ W1, (w.alloc (.deferred (some []))).alloc (.loop (R .ready none)) = W1 := ⟨_, rfl⟩
  have hb1 : Below D w W1 := by rw [← hW1, ← hD]; exact ((Below.refl _ w).alloc (Nat.le_refl _) _).alloc (by simp) _
  have hz1 : W1.heap.size = D + 2 := by rw [← hW1, ← hD]; simp
  have hrec : W1.heap[D + 1]? = some (.loop (R .ready none)) := by
    rw [← hW1, ← hD]; have := World.alloc_heap_new (w.alloc (.deferred (some []))) (.loop (R .ready none)); rwa [World.size_alloc] at this
  have hdef : W1.heap[D]? = some (.deferred (some [])) := by
    rw [← hW1, ← hD]; exact (Below.heap_alloc _ _ _ (by simp)).trans (World.alloc_heap_new w _)
  have hGV := hgives W1 (by rw [hD]; exact hb1) (by rw [hD]; exact hz1)
  have hent := run_enterLoop_outer (P := P) (w := w) fn a.tmps p0 assign body
  have hRe : (.loop { state := .ready, pending := none, fn, tmps := a.tmps, params := p0, assign, body, defers := w.heap.size } : Obj) = .loop (R .ready none) := by rw [hR]
  rw [hRe, hW1, hD] at hent
  have hF0 := hB _ _ _ h0
  rw [hD] at hkeep hI hIx hbody hdone hstop hF0
  refine ⟨D + 1, [{ target := .collected D, args := #[] }], W1, { target := .fn (.func gf) lb, args := #[.func (.yield (D + 1)) #[] #[]] }, W1, gf, #[.func (.yield (D + 1)) #[] #[]] ++ lb, W1, hent, ?_, ?_, ?_, fun _ => h1, ?_⟩
  · simp only [resolve, hg]
    simp [go_sem]
  · intro f' hf'; simp [Target.leads] at hf'; subst hf'; exact hFg
  · simp [invoke, go_sem, eg]
  -- what the rounds keep: the client's own, and the loop's record
  obtain ⟨J, hJd⟩ : ∃ J : Nat → (Nat → Prop) → World → Prop, J = fun S F W => ∃ G : Nat → Prop, (∀ b, F b ↔ (G b ∨ b = D ∨ b = D + 1)) ∧ ¬ G D ∧ ¬ G (D + 1) ∧ D + 2 ≤ W.heap.size ∧ I S G W ∧ W.heap[D + 1]? = some (.loop (R .ready none)) ∧ W.heap[D]? = some (.deferred (some [])) := ⟨_, rfl⟩
  refine (hGV (D + 1) J (fun W => Ix W ∧ W.heap[D + 1]? = some (.loop (R .done (some .ret))) ∧ W.heap[D]? = some (.deferred (some []))) ?_ ?_ ?_ ?_).mono ?_
  · rw [hJd]
    rintro S F A C ⟨G, hG, g1, g2, hz, hi, hl, hd⟩ hb
    exact ⟨G, hG, g1, g2, Nat.le_trans hz hb.size, hI _ _ _ _ hi (hb.mono fun i _ h => h.imp (fun h => by rw [hz1]; omega) fun h => (hG i).2 (.inl h)), (hb.block _ (by omega) (.inr ((hG _).2 (.inr (.inr rfl))))).trans hl, (hb.block _ (by omega) (.inr ((hG _).2 (.inr (.inl rfl))))).trans hd⟩
  · rw [hJd]
    rintro S F A ⟨G, hG, g1, g2, hz, hi, hl, hd⟩ b hb
    rcases (hG b).1 hb with h | h | h
    · exact hB _ _ _ hi b h
    · subst h; exact ⟨fun h => by have := hkeep _ h; omega, by omega⟩
    · subst h; exact ⟨fun h => by have := hkeep _ h; omega, by omega⟩
  · rw [hJd]
    rintro k s F W hkM ⟨G, hG, g1, g2, hz, hi, hl, hd⟩ hrd
    have hlt : D + 1 < W.heap.size := by omega
    have hy : (Instr.yield (D + 1) s).run P W = .ok (.round (D + 1) fn ((p0.zip s).foldl (fun tmps (t, u) => tmps.setIfInBounds t u) a.tmps) assign body) W := by
      rw [run_yield (P := P) (args := s) hl (by rw [hR]; exact hsz k s hrd), hR]
    refine ⟨fn, _, assign, body, hy, roundIn_of_wpIn hfn (hassign _ k s W _ hrd fun Wa hasg hba => ?_)⟩
    have hla : Wa.heap[D + 1]? = some (.loop (R .ready none)) := (hba.block _ hlt).trans hl
    have hda : Wa.heap[D]? = some (.deferred (some [])) := (hba.block _ (by omega)).trans hd
    have hsa := hba.size
    refine ⟨_, run_beginRound hla (by rw [hR]), ?_⟩
    clear hy
    obtain ⟨W2, hW2⟩ : ∃ W2, Wa.putObj (D + 1) (.loop { R .ready none with state := .busy }) = W2 := ⟨_, rfl⟩
    have hl2 : W2.heap[D + 1]? = some (.loop { R .ready none with state := .busy }) := by rw [← hW2]; exact World.putObj_heap_same (by omega)
    have hd2 : W2.heap[D]? = some (.deferred (some [])) := by rw [← hW2]; exact (World.putObj_heap_other (by omega)).trans hda
    have hz2 : W2.heap.size = Wa.heap.size := by rw [← hW2]; simp
    have hap : ∀ K : Nat → Prop, ¬ K (D + 1) → Held K Wa W2 := fun K hK => by rw [← hW2]; exact Held.put Wa hK
    have hall : ∀ K : Nat → Prop, Held K W Wa := fun K => Held.of_below hba fun i hi _ => hi
    have hnot : ¬ (D + 1 < D ∨ G (D + 1)) := fun h => h.elim (fun h => by omega) g2
    rw [hW2]
    refine wpIn_mono (hbody _ k s G W2 W.heap.size hkM (hI _ _ _ _ hi ((hall _).trans (hap _ hnot))) hrd (hAsg _ _ _ _ hasg (hap _ (by omega))) (by omega) (by omega) (fun i hgi => (hB _ _ _ hi i hgi).2) g1 g2) ?_
    rintro e a3 W3 hp
    have fin : ∀ (jump : Option Code), Held (fun i => ¬ G i) W2 W3 → (Instr.endRound (D + 1) jump).run P W3 = .ok (.bool jump.isNone) (W3.putObj (D + 1) (.loop (R (if jump.isNone then .ready else .done) jump))) ∧
        (W3.putObj (D + 1) (.loop (R (if jump.isNone then .ready else .done) jump))).heap[D + 1]? = some (.loop (R (if jump.isNone then .ready else .done) jump)) ∧
        (W3.putObj (D + 1) (.loop (R (if jump.isNone then .ready else .done) jump))).heap[D]? = some (.deferred (some [])) := by
      intro jump h3
      have hlt2 : D + 1 < W2.heap.size := (Array.getElem?_eq_some_iff.1 hl2).1
      have hl3 := (h3.block (D + 1) hlt2 g2).trans hl2
      have hr3 := run_endRound (P := P) jump hl3
      rw [hR] at hr3 ⊢
      exact ⟨hr3, World.putObj_heap_same (Array.getElem?_eq_some_iff.1 hl3).1, (World.putObj_heap_other (by omega)).trans ((h3.block D (by omega) g1).trans hd2)⟩
    cases e with
    | normal =>
      obtain ⟨hon, h3, G', hG', hi3⟩ := hp
      obtain ⟨hr, hl4, hd4⟩ := fin none h3
      have n1 : ¬ G' D := fun h => (hG' D h).elim g1 (fun h => by omega)
      have n2 : ¬ G' (D + 1) := fun h => (hG' (D + 1) h).elim g2 (fun h => by omega)
      have hnot' : ¬ (D + 1 < D ∨ G' (D + 1)) := fun h => h.elim (fun h => by omega) n2
      have hz3 := h3.size
      refine ⟨_, _, hr, .inl ⟨rfl, hon, ?_, fun b => G' b ∨ b = D ∨ b = D + 1, fun b hb => ?_, G', fun b => Iff.rfl, n1, n2, by simp; omega, hI _ _ _ _ hi3 (Held.put W3 hnot'), hl4, hd4⟩⟩
      · refine ((hall _).trans (hap _ (fun h => h ((hG _).2 (.inr (.inr rfl)))))).trans ((h3.mono (fun i _ h => fun hg => h ((hG i).2 (.inl hg)))).trans (Held.put W3 (fun h => h ((hG _).2 (.inr (.inr rfl))))))
      · rcases hb with h | h | h
        · rcases hG' b h with h | h
          · exact .inl ((hG b).2 (.inl h))
          · exact .inr (by omega)
        · exact .inl ((hG b).2 (.inr (.inl h)))
        · exact .inl ((hG b).2 (.inr (.inr h)))
    | ret =>
      obtain ⟨h3, hi3⟩ := hp
      obtain ⟨hr, hl4, hd4⟩ := fin (some .ret) h3
      exact ⟨_, _, hr, .inr ⟨rfl, hIx _ _ hi3 (Held.put W3 (fun h => h rfl)), hl4, hd4⟩⟩
    | exit _ => exact hp.elim
    | goto _ => exact hp.elim
    | panic _ => exact hp.elim
    | outgrown => exact hp.elim
  · rw [hJd]
    refine ⟨fun b => F0 b ∨ b = D ∨ b = D + 1, F0, fun b => Iff.rfl, fun h => by have := (hF0 _ h).2; omega, fun h => by have := (hF0 _ h).2; omega, by omega, hI _ _ _ _ h0 (Held.of_below hb1 (fun i hi _ => by omega)), hrec, hdef⟩
  · rw [hJd]
    rintro e W2 ⟨⟨v, rfl⟩, (⟨F, G, hG, g1, g2, hz, hi, hl, hd⟩ | ⟨hi, hl, hd⟩)⟩
    · exact ⟨none, _, by have := run_endLoop (P := P) hl (by rw [hR]; simp); rw [hR] at this; exact this, by rw [hD]; exact hdone G _ (hI _ _ _ _ hi (Held.put W2 (fun h => h.elim (fun h => by omega) g2))) ((World.putObj_heap_other (by omega)).trans hd)⟩
    · exact ⟨some .ret, _, by have := run_endLoop (P := P) hl (by rw [hR]; simp); rw [hR] at this; exact this, by rw [hD]; exact hstop _ (hIx _ _ hi (Held.put W2 (fun h => h rfl))) ((World.putObj_heap_other (by omega)).trans hd)⟩
end
end Go.Proofs.YtlikmgkjilmjpaaGreat
