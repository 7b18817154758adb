/-
  Merged by program: VTxtI.
-/
import Derived.Test.YtckoookgjhngkaaDoorFV21
import Derived.Test.YtckoookgjhngkaaDoorFV30
import Derived.Test.YtckoookgjhngkaaDoorFV31
import Derived.Test.YtckoookgjhngkaaDoorFV40

/-
  The program's textOfValue, FormatValue: the texts of the parts come out of a range over a function.
-/
namespace Go.Proofs.YtckoookgjhngkaaDoor
open Go.RowKit Go.Shelf

attribute [local go_sem] Oper.semAt_some

theorem joinNil_any (sp : ByteArray) (w : World) : Calls Tryd.prog 38 #[.slice none 0 0, .string sp] w (Text [] w) := by
  go_enter Tryd.func38, Tryd.ntmps38
  go_wp2_with (go_at_call 48; refine (Tryd.strings_Join_none _ _ _ _).mono ?_; rintro e w' ⟨rfl, rfl⟩)
  go_ret
  exact ⟨rfl, Below.refl _ _⟩
theorem texts_join {ps : List (List UInt8)} {w w1 : World} {V : Option Addr} {lc : Nat} (h : w1.ownsRow w.heap.size 9 1 (.slice V ps.length lc) ps.length (strsV ps)) (hn : ps.length ≤ 1048576) (hs : lenS ps ≤ 33554432) :
    Calls Tryd.prog 38 #[.slice V ps.length lc, .string ⟨#[44]⟩] w1 (Text (Lib.join ps [44]) w1) := by
  rcases h.2 with ⟨hv, h0⟩ | ⟨g, cap, cur, hv, _⟩
  · have e : ps = [] := List.eq_nil_of_length_eq_zero h0
    subst e
    injection hv with e1 e2 e3
    subst e1 e3
    rw [Lib.join_nil]
    exact joinNil_any ⟨#[44]⟩ w1
  · injection hv with e1 e2 e3
    subst e1
    have hsl := Sl.of_own h
    rw [strsV_map] at hsl
    have hz : (⟨#[44]⟩ : ByteArray).size = 1 := rfl
    have h1 := total_bs ps
    have hcap := own_cap h
    have := implJoin_any g lc (ps.map bs) ⟨#[44]⟩ w1 hsl (by rw [List.length_map]; exact hcap) (by rw [List.length_map]; exact hn) (by rw [List.length_map, h1, hz]; omega)
    rw [List.length_map, jn_bs] at this
    exact this

/-- the table of powers lies in memory -/
def TabOk (w : World) : Prop := Lib.TabIs Tryd.prog w "internal/strconv.uint64pow10" .u64 Lib.pow10Tab ∧ 0 < w.heap.size
theorem TabOk.keep {w w' : World} (h : TabOk w) (hb : Below w.heap.size w w') : TabOk w' := ⟨tab_below gPow h.2 h.1 hb, Nat.lt_of_lt_of_le h.2 hb.size⟩

def boolT (q : Int) : List UInt8 := [35, if q = 1 then 116 else 102]
theorem boolT_node (q : Int) (ps : List (List UInt8)) : nodeX 2 q ps = boolT q := by simp [nodeX, boolT]
theorem textBool_any (q : Int) (w : World) : Calls Tryd.prog 28 #[.int .i64 q] w (Text (boolT q) w) := by
  by_cases h : q = 1
  · subst h
    go_enter Tryd.func28, Tryd.ntmps28
    go_wp2_with fail
    go_ret
    exact ⟨rfl, Below.refl _ _⟩
  · have HR : Hid (Text (boolT q) w (.returned (.string ⟨#[35, 102]⟩)) w) := Lib.hid ⟨by unfold boolT; rw [if_neg h], Below.refl _ _⟩
    have f1 : (q == 1) = false := by simp [h]
    clear h
    go_enter Tryd.func28, Tryd.ntmps28
    go_wp2_with fail
    go_ret
    exact HR.out

def FnAtP (cs : Array Value) (w : World) (e : Ending) (w' : World) : Prop := e = .returned (.func (.func 50) #[] #[.pointer (some ⟨w.heap.size, 0, none⟩)]) ∧ w' = w.alloc (.cells cs 30)
theorem partTexts_any (w : World) (c0 c1 c2 c3 : Value) : Calls Tryd.prog 40 #[.agg #[c0, c1, c2, c3]] w (FnAtP #[c0, c1, c2, c3] w) := by
  have hR : Hid (FnAtP #[c0, c1, c2, c3] w (.returned (.func (.func 50) #[] #[.pointer (some ⟨w.heap.size, 0, none⟩)])) (w.alloc (.cells #[c0, c1, c2, c3] 30))) := ⟨rfl, rfl⟩
  go_enter Tryd.func40, Tryd.ntmps40
  go_wp2_with fail
  go_ret
  exact hR.out

theorem RVa.shapeT {w : World} {v : Va} {c0 c1 c2 c3 : Value} (h : RVa w v [c0, c1, c2, c3]) : ∃ p q L l c A m d, c0 = .int .i64 p ∧ c1 = .int .i64 q ∧ c2 = .slice L l c ∧ c3 = .slice A m d := by
  obtain ⟨L, c, A, d, e, _⟩ := h.open
  simp only [List.cons.injEq, and_true] at e
  exact ⟨_, _, _, _, _, _, _, _, e.1, e.2.1, e.2.2.1, e.2.2.2⟩
/-- what the iterator's loop keeps -/
def PtInv (J : Nat → (Nat → Prop) → World → Prop) (w0 : World) (n : Nat) (i : Value) (wr : World) : Prop := ∃ k F, k ≤ n ∧ i = .int .i64 (k : Int) ∧ J k F wr ∧ Below w0.heap.size w0 wr

set_option maxRecDepth 100000 in
set_option maxHeartbeats 4000000 in
theorem partTexts1_gives (a : VaA) (ks : List Va) (w0 : World) (L A : Option Addr) (c d Bx lo n : Nat) (hn : 2 ≤ n) (hL : Sl w0 L (a.labels.map Value.string)) (hp : RVas w0 A ks) (hbox : Box4 w0 Bx 30 (.int .i64 a.kind) (.int .i64 a.num) (.slice L a.labels.length c) (.slice A ks.length d))
    (hkl : a.kind = 3 → a.labels.length = ks.length) (hw : wv (.node a ks) ≤ 1048576) (hok : ∀ t ∈ ks, t.okV)
    (ih : ∀ t ∈ ks, ∀ (W : World) (cs : List Value), Below w0.heap.size w0 W → RVa W t cs → Calls Tryd.prog 16 #[.agg cs.toArray] W (Text t.vtx W))
    (W : World) (hb0 : Below w0.heap.size w0 W) (hlo : w0.heap.size ≤ lo) :
    GivesF Fence.wide n Tryd.prog 50 #[.pointer (some ⟨Bx, 0, none⟩)] (partsX a ks).length (TextAt (partsX a ks)) lo W := by
  intro l J Jx hJ hJB hY h0
  have hwl := wv_labels hw
  have hkn : ks.length ≤ 1048576 := by rw [wv_node] at hw; unfold wvK at hw; omega
  have hkw : ∀ t ∈ ks, t.vtx.length ≤ 33554432 := fun t ht => by have := vtx_le t (hok t ht); have := Nat.le_trans (kid_wv_le ht) hw; omega
  rw [partsX_len] at hY ⊢
  have h1 : 1 ≤ n := by omega
  have HK0 : Hid (PtInv J w0 ks.length (.int .i64 0) W) := by
    obtain ⟨F, hF⟩ := h0
    exact ⟨0, F, Nat.zero_le _, rfl, hF, hb0⟩
  have HL := Lib.hid hL
  have HP := Lib.hid hp
  have BX := Lib.hid hbox
  have HKL := Lib.hid hkl
  have HWL := Lib.hid hwl.2
  have HI := Lib.hid ih
  have HJ := Lib.hid hJ
  have HJB := Lib.hid hJB
  have HY := Lib.hid hY
  have HKW := Lib.hid hkw
  have bW := hbox.under hb0 hbox.lt
  have x3 := bW.c3
  clear hL hp hbox hkl ih hJ hJB hY h0 hw hwl hkw hok bW
  refine callsIn_of_wp Tryd.func50 rfl trivial ?_ rfl
  simp only [Tryd.ntmps50, List.size_toArray, List.length_cons, List.length_nil, Nat.reduceAdd, Nat.reduceSub, Array.replicate_succ, Array.replicate_zero, List.push_toArray, List.append_toArray, List.nil_append, List.cons_append]
  gi_wp2
  gi_loopw [9] (fun i wr => PtInv J w0 ks.length i wr) (fun i _ => ks.length - (intOf i).toNat)
  case atStart => exact HK0.out
  case round =>
    obtain ⟨k, F, hk, rfl, hJk, hb⟩ := hrel
    clear x3
    by_cases hlt : k < ks.length
    · obtain ⟨ad, p, c0, c1, c2, c3, rfl, hpe, hr, q0, q1, q2, q3⟩ := vid_at HP.out hb hlt
      obtain ⟨e0, e1, e2, e3, e4, e5, e6, e7, rfl, rfl, rfl, rfl⟩ := hr.shapeT
      obtain ⟨W5, hW5⟩ : ∃ W5, wr.alloc (.cells #[.int .i64 e0, .int .i64 e1, .slice e2 e3 e4, .slice e5 e6 e7] 30) = W5 := ⟨_, rfl⟩
      have hb5 : Below wr.heap.size wr W5 := by rw [← hW5]; exact below_box _ _ _
      have hbb := hb.trans (hb5.mono hb.size)
      have hx5 := Box4.new wr 30 (.int .i64 e0) (.int .i64 e1) (.slice e2 e3 e4) (.slice e5 e6 e7)
      rw [hW5] at hx5
      have HC := Lib.hid (HI.out ks[k] (List.getElem_mem hlt) W5 _ hbb (hr.keep hb5))
      have htx := HKW.out ks[k] (List.getElem_mem hlt)
      have HX : Hid (∀ w2, Below W5.heap.size W5 w2 → Below w0.heap.size w0 w2 ∧ J k F w2) := Lib.hid (fun w2 hb2 => ⟨hbb.trans (hb2.mono hbb.size), HJ.out _ _ _ _ hJk (Held.of_below (hb5.trans (hb2.mono hb5.size)) fun i hi _ => hi)⟩)
      have HN : Hid (∀ w2 W3 F', Below w0.heap.size w0 w2 → J k F w2 → Held (fun i => ¬ F i) w2 W3 → J (k + 1) F' W3 → ∀ i, i = Value.int .i64 ((k + 1 : Nat) : Int) → PtInv J w0 ks.length i W3) := Lib.hid (by
        intro w2 W3 F' hb2 hJ2 hh hJ3 i hi
        exact ⟨k + 1, F', hlt, hi, hJ3, hb2.trans (hh.below hb2.size fun i hi hF => by have := (HJB.out _ _ _ hJ2 i hF).1; omega)⟩)
      have HYY : Hid (∀ (x : ByteArray) w2, x = bs (partX a k ks[k].vtx) → J k F w2 → YieldAt Fence.wide (n - 1) Tryd.prog l #[.string x] w2 fun e W' => (e = .returned (.bool true) ∧ Held (fun i => ¬ F i) w2 W' ∧ ∃ F', (∀ b, F' b → F b ∨ w2.heap.size ≤ b) ∧ J (k + 1) F' W') ∨ (e = .returned (.bool false) ∧ Jx W')) := Lib.hid (by
        intro x w2 hx hJ2
        exact HY.out k _ F w2 hlt hJ2 ⟨_, partsX_at a ks k hlt, by rw [hx]⟩)
      have HX0 : Hid (∀ l, k < a.labels.length → a.kind = 3 → a.labels.getD k ⟨#[]⟩ ++ ⟨#[61]⟩ ++ ⟨l.toArray⟩ = bs (partX a k l)) := Lib.hid (fun l h h3 => by have e : a.labels.getD k ⟨#[]⟩ = a.labels[k] := (by simp [List.getD, h]); rw [e]; exact labX_str a k l h h3)
      have HX1 : Hid (∀ l, a.kind ≠ 3 → (⟨l.toArray⟩ : ByteArray) = bs (partX a k l)) := Lib.hid (fun l h3 => partX_str a k l h3)
      obtain ⟨tx, hl⟩ : ∃ tx, ks[k].vtx = tx := ⟨_, rfl⟩
      rw [hl] at HC htx HYY
      have HW5 := Lib.hid hW5
      have HBX : Hid (∀ w2, Below w0.heap.size w0 w2 → Box4 w2 Bx 30 (.int .i64 a.kind) (.int .i64 a.num) (.slice L a.labels.length c) (.slice (some ad) ks.length d)) := Lib.hid (fun w2 hb2 => BX.out.under hb2 BX.out.lt)
      have y0 := hx5.c0
      have y1 := hx5.c1
      have y2 := hx5.c2
      have y3 := hx5.c3
      clear hl hr hbb hb5 hx5 hW5 hJk hb
      by_cases h3 : a.kind = 3
      · have hkl := HKL.out h3
        have hkl2 : k < a.labels.length := by omega
        have HLB : Hid (∀ w2, Below w0.heap.size w0 w2 → ∃ ad2, L = some ad2 ∧ w2.cell? (ad2.add k) = some (.string (a.labels.getD k ⟨#[]⟩))) := Lib.hid (fun w2 hb2 => by
          obtain ⟨ad2, e, hc⟩ := (HL.out.below hb2) k (.string a.labels[k]) (by simp [hkl2])
          exact ⟨ad2, e, by simpa [List.getD, hkl2] using hc⟩)
        have hlz : (a.labels.getD k ⟨#[]⟩).size ≤ 1048576 := by
          have := HWL.out a.labels[k] (List.getElem_mem hkl2)
          simpa [List.getD, hkl2] using this
        have HX2 := Lib.hid (HX0.out tx hkl2 h3)
        obtain ⟨lab, hlab⟩ : ∃ lab, a.labels.getD k ⟨#[]⟩ = lab := ⟨_, rfl⟩
        rw [hlab] at HX2 hlz HLB
        have hn1 : (lab ++ ⟨#[61]⟩ : ByteArray).size = lab.size + 1 := by rw [ByteArray.size_append]; rfl
        rw [hkl] at HBX
        have hls : (⟨tx.toArray⟩ : ByteArray).size = tx.length := rfl
        rw [h3] at HBX
        clear hlab h3 hkl2 hkl HX1 HX0
        gi_wp2_with (refine ⟨trivial, ?_⟩; gi_at_call 16; rw [HW5.out]; refine (callsIn_wide.2 HC.out).mono ?_; rintro e w2 ⟨rfl, hb2⟩; obtain ⟨hbw2, hJ2⟩ := HX.out w2 hb2; have bb := HBX.out w2 hbw2; have z0 := bb.c0; have z2 := bb.c2; obtain ⟨ad2, rfl, z5⟩ := HLB.out w2 hbw2; obtain ⟨fn, tmps, assign, body, hy, hR⟩ := HYY.out _ w2 HX2.out hJ2; have HB2 := Lib.hid hbw2; have HJ2 := Lib.hid hJ2; clear bb hb2 hbw2 hJ2 HC)
        refine hR.mono ?_
        rintro e W3 (⟨rfl, hh, F', _, hJ3⟩ | ⟨rfl, hJx3⟩)
        · have HNN := Lib.hid (HN.out w2 W3 F' HB2.out HJ2.out hh hJ3)
          clear hh hJ3 z0 z2 z5 hR hy
          gi_wp2
          go_roundw
          case rel => exact HNN.out _ (by go_num)
          case measure => simp [intOf]; omega
        · clear z0 z2 z5 hR hy
          gi_wp2
          refine bodyPost_ret (results_none rfl _ _ _) rfl ?_
          exact ⟨⟨_, rfl⟩, .inr hJx3⟩
      · have HX2 := Lib.hid (HX1.out tx h3)
        obtain ⟨kd, hkd⟩ : ∃ kd, a.kind = kd := ⟨_, rfl⟩
        rw [hkd] at HBX h3
        have f3 : (kd == 3) = false := by simp [h3]
        clear h3 hkd HX0 HX1 HKL
        gi_wp2_with (refine ⟨trivial, ?_⟩; gi_at_call 16; rw [HW5.out]; refine (callsIn_wide.2 HC.out).mono ?_; rintro e w2 ⟨rfl, hb2⟩; obtain ⟨hbw2, hJ2⟩ := HX.out w2 hb2; have bb := HBX.out w2 hbw2; have z0 := bb.c0; obtain ⟨fn, tmps, assign, body, hy, hR⟩ := HYY.out _ w2 HX2.out hJ2; have HB2 := Lib.hid hbw2; have HJ2 := Lib.hid hJ2; clear bb hb2 hbw2 hJ2 HC)
        refine hR.mono ?_
        rintro e W3 (⟨rfl, hh, F', _, hJ3⟩ | ⟨rfl, hJx3⟩)
        · have HNN := Lib.hid (HN.out w2 W3 F' HB2.out HJ2.out hh hJ3)
          clear hh hJ3 z0 hR hy
          gi_wp2
          go_roundw
          case rel => exact HNN.out _ (by go_num)
          case measure => simp [intOf]; omega
        · clear z0 hR hy
          gi_wp2
          refine bodyPost_ret (results_none rfl _ _ _) rfl ?_
          exact ⟨⟨_, rfl⟩, .inr hJx3⟩
    · have he : k = ks.length := by omega
      have HE : Hid (∃ F, J ks.length F wr) := Lib.hid ⟨F, he ▸ hJk⟩
      clear he hJk hb
      gi_wp2
      go_end0
      exact ⟨⟨_, rfl⟩, .inl HE.out⟩

set_option maxRecDepth 100000 in
set_option maxHeartbeats 1600000 in
theorem textParts_any (a : VaA) (ks : List Va) (w : World) (L A : Option Addr) (c d : Nat) (hL : Sl w L (a.labels.map Value.string)) (hp : RVas w A ks)
    (hkl : a.kind = 3 → a.labels.length = ks.length) (hw : wv (.node a ks) ≤ 1048576) (hok : ∀ t ∈ ks, t.okV)
    (ih : ∀ t ∈ ks, ∀ (W : World) (cs : List Value), Below w.heap.size w W → RVa W t cs → Calls Tryd.prog 16 #[.agg cs.toArray] W (Text t.vtx W)) :
    Calls Tryd.prog 29 #[.agg #[.int .i64 a.kind, .int .i64 a.num, .slice L a.labels.length c, .slice A ks.length d]] w (Text (Lib.join (partsX a ks) [44]) w) := by
  have hkn : ks.length ≤ 1048576 := by rw [wv_node] at hw; unfold wvK at hw; omega
  have hall := partsX_all a ks hok
  have hlen := partsX_len a ks
  obtain ⟨W1, hW1⟩ : ∃ W1, w.alloc (.cells #[.int .i64 a.kind, .int .i64 a.num, .slice L a.labels.length c, .slice A ks.length d] 30) = W1 := ⟨_, rfl⟩
  obtain ⟨W2, hW2⟩ : ∃ W2, W1.alloc (.cells #[.int .i64 a.kind, .int .i64 a.num, .slice L a.labels.length c, .slice A ks.length d] 30) = W2 := ⟨_, rfl⟩
  obtain ⟨H, hH⟩ : ∃ H, w.heap.size = H := ⟨_, rfl⟩
  have hb1 : Below w.heap.size w W1 := by rw [← hW1]; exact below_box _ _ _
  have hbx : Box4 W1 H 30 (.int .i64 a.kind) (.int .i64 a.num) (.slice L a.labels.length c) (.slice A ks.length d) := by rw [← hW1, ← hH]; exact Box4.new w _ _ _ _ _
  have hb12 : Below W1.heap.size W1 W2 := by rw [← hW2]; exact below_box _ _ _
  have hb2 := hb1.trans (hb12.mono hb1.size)
  have hbx2 : Box4 W2 W1.heap.size 30 (.int .i64 a.kind) (.int .i64 a.num) (.slice L a.labels.length c) (.slice A ks.length d) := by rw [← hW2]; exact Box4.new W1 _ _ _ _ _
  have HPT := Lib.hid (partTexts_any W1 (.int .i64 a.kind) (.int .i64 a.num) (.slice L a.labels.length c) (.slice A ks.length d))
  have HC := Lib.hid (collect_any 50 #[.pointer (some ⟨W1.heap.size, 0, none⟩)] (enters_of Tryd.func50 (by kernel_rfl) rfl) W2 (partsX a ks) (by rw [hlen]; exact hkn)
    (fun W hW => partTexts1_gives a ks W2 L A c d W1.heap.size W2.heap.size (9 - 1) (by decide) (hL.below hb2) (hp.keep hb2) hbx2 hkl hw hok (fun t ht W cs hB hr => ih t ht W cs (hb2.trans (hB.mono hb2.size)) hr) W hW (Nat.le_refl _)))
  have HB2 := Lib.hid hb2
  have HW1 := Lib.hid hW1
  have HW2 := Lib.hid hW2
  have HALL := Lib.hid (show lenS (partsX a ks) ≤ 33554432 by omega)
  have HLEN := Lib.hid (show (partsX a ks).length ≤ 1048576 by omega)
  have x0 := hbx.c0
  have x1 := hbx.c1
  have x2 := hbx.c2
  have x3 := hbx.c3
  clear hb1 hbx hb12 hb2 hbx2 hW1 hW2 hL hp hkl hw hok ih hall hlen
  generalize partsX a ks = ps at HC HALL HLEN ⊢
  obtain ⟨tx, htx⟩ : ∃ tx, Lib.join ps [44] = tx := ⟨_, rfl⟩
  rw [htx]
  have HTX := Lib.hid htx
  clear htx
  generalize a.kind = g0 at HPT HW1 HW2 x0 ⊢
  generalize a.num = g1 at HPT HW1 HW2 x1 ⊢
  generalize a.labels.length = g2 at HPT HW1 HW2 x2 ⊢
  go_enter Tryd.func29, Tryd.ntmps29
  go_wp2_with fail
  rw [HW1.out]
  go_wp2_with fail
  refine HPT.out.mono ?_
  rintro e w2 ⟨rfl, hw2⟩
  rw [HW2.out] at hw2
  subst hw2
  go_wp2_with fail
  refine HC.out.mono ?_
  rintro e w3 ⟨V, lc, rfl, ho, hb3⟩
  have hj := texts_join ho HLEN.out HALL.out
  rw [HTX.out] at hj
  have HJ := Lib.hid hj
  clear hj
  have HB3 := Lib.hid (HB2.out.trans (hb3.mono HB2.out.size))
  clear ho hb3
  generalize ps.length = m at HJ ⊢
  go_wp2_with fail
  refine HJ.out.mono ?_
  rintro e w4 ⟨rfl, hb4⟩
  have HF : Hid (Text tx w (.returned (.string ⟨tx.toArray⟩)) w4) := Lib.hid ⟨rfl, HB3.out.trans (hb4.mono HB3.out.size)⟩
  clear hb4
  go_wp2_with fail
  go_ret
  exact HF.out

set_option maxRecDepth 100000 in
set_option maxHeartbeats 1600000 in
theorem implTextV_any : ∀ (t : Va) (w : World) (cs : List Value), RVa w t cs → t.formV = true → wv t ≤ 1048576 → TabOk w → Calls Tryd.prog 16 #[.agg cs.toArray] w (Text t.vtx w) := by
  refine Tr.ind ?_
  intro a ks ih w cs h hf hw htab
  have hok := h.okV
  obtain ⟨L, c, A, d, rfl, k1, k2, k6, hp⟩ := h.out
  obtain ⟨_, hokk⟩ := (okV_node a ks).1 hok
  obtain ⟨hfk, hfa⟩ := formV_kids hf
  have hnc := nodeV_cases hfa
  have hall := partsX_all a ks hokk
  have hjl : (Lib.join (partsX a ks) [44]).length ≤ 33554432 := by have := join_le (partsX a ks) 44; have := partsX_len a ks; omega
  obtain ⟨W1, hW1⟩ : ∃ W1, w.alloc (.cells #[.int .i64 a.kind, .int .i64 a.num, .slice L a.labels.length c, .slice A ks.length d] 30) = W1 := ⟨_, rfl⟩
  obtain ⟨H, hH⟩ : ∃ H, w.heap.size = H := ⟨_, rfl⟩
  have hb1 : Below w.heap.size w W1 := by rw [← hW1]; exact below_box _ _ _
  have hbx : Box4 W1 H 30 (.int .i64 a.kind) (.int .i64 a.num) (.slice L a.labels.length c) (.slice A ks.length d) := by rw [← hW1, ← hH]; exact Box4.new w _ _ _ _ _
  have HTP := Lib.hid (fun (hkl : a.kind = 3 → a.labels.length = ks.length) => textParts_any a ks W1 L A c d (k1.below hb1) (hp.keep hb1) hkl hw hokk (fun t ht W cs hB hr => ih t ht W cs hr (hfk t ht) (Nat.le_trans (kid_wv_le ht) hw) (htab.keep (hb1.trans (hB.mono hb1.size)))))
  have HFI := Lib.hid (implFmtInt_any a.num k2.2.2.1 k2.2.2.2.1 W1 (htab.keep hb1).1)
  have HFB := Lib.hid (textBool_any a.num W1)
  have HR : Hid (∀ (x : ByteArray) (W : World), x.data.toList = nodeX a.kind a.num (partsX a ks) → Below W1.heap.size W1 W → Text (Tr.vtx (.node a ks)) w (.returned (.string x)) W) := Lib.hid (fun x W hx hB => text_ofS (by rw [hx, vtx_node]) (hb1.trans (hB.mono hb1.size)))
  have HW1 := Lib.hid hW1
  have x0 := hbx.c0
  have x1 := hbx.c1
  have x2 := hbx.c2
  have x3 := hbx.c3
  obtain ⟨N, hN⟩ : ∃ N, Tr.vtx (.node a ks) = N := ⟨_, rfl⟩
  rw [hN] at HR ⊢
  clear hN hW1 hb1 hbx h hf hw htab ih hok k1 k2 k6 hp hokk hfk hfa hall
  generalize partsX a ks = ps at HTP HR hjl
  generalize a.num = q at HTP HFI HFB HR HW1 x1 hnc ⊢
  generalize hkind : a.kind = p at HTP HR HW1 x0 hnc ⊢
  rcases hnc with ⟨rfl, -⟩ | ⟨rfl, -⟩ | ⟨rfl, -, hkl, -⟩ | ⟨rfl, -⟩
  · clear hkind HTP HFB
    go_enter Tryd.func16, Tryd.ntmps16
    go_wp2_with fail
    rw [HW1.out]
    go_wp2_with fail
    refine HFI.out.mono ?_
    rintro e w2 ⟨rfl, hb2⟩
    have HF := Lib.hid (HR.out ⟨(Lib.itoa q).toArray⟩ w2 (by simp [nodeX]) hb2)
    clear hb2
    go_wp2_with fail
    go_ret
    exact HF.out
  · clear hkind HTP HFI
    go_enter Tryd.func16, Tryd.ntmps16
    go_wp2_with fail
    rw [HW1.out]
    go_wp2_with fail
    refine HFB.out.mono ?_
    rintro e w2 ⟨rfl, hb2⟩
    have HF := Lib.hid (HR.out ⟨(boolT q).toArray⟩ w2 (by rw [boolT_node]) hb2)
    clear hb2
    go_wp2_with fail
    go_ret
    exact HF.out
  · have HC := Lib.hid (HTP.out (fun _ => hkl))
    clear hkind HTP HFI HFB hkl
    obtain ⟨tx, htx⟩ : ∃ tx, Lib.join ps [44] = tx := ⟨_, rfl⟩
    rw [htx] at HC hjl
    have HTX := Lib.hid htx
    clear htx
    have hls : (⟨tx.toArray⟩ : ByteArray).size = tx.length := rfl
    have hn1 : (⟨#[123]⟩ ++ ⟨tx.toArray⟩ : ByteArray).size = tx.length + 1 := by rw [ByteArray.size_append, hls]; show 1 + _ = _; omega
    go_enter Tryd.func16, Tryd.ntmps16
    go_wp2_with fail
    rw [HW1.out]
    go_wp2_with fail
    refine HC.out.mono ?_
    rintro e w2 ⟨rfl, hb2⟩
    have HF := Lib.hid (HR.out (⟨#[123]⟩ ++ ⟨tx.toArray⟩ ++ ⟨#[125]⟩) w2 (by simp [nodeX, HTX.out]) hb2)
    clear hb2
    go_wp2_with fail
    go_ret
    exact HF.out
  · have HC := Lib.hid (HTP.out (fun h => by omega))
    clear hkind HTP HFI HFB
    obtain ⟨tx, htx⟩ : ∃ tx, Lib.join ps [44] = tx := ⟨_, rfl⟩
    rw [htx] at HC hjl
    have HTX := Lib.hid htx
    clear htx
    have hls : (⟨tx.toArray⟩ : ByteArray).size = tx.length := rfl
    have hn1 : (⟨#[91]⟩ ++ ⟨tx.toArray⟩ : ByteArray).size = tx.length + 1 := by rw [ByteArray.size_append, hls]; show 1 + _ = _; omega
    go_enter Tryd.func16, Tryd.ntmps16
    go_wp2_with fail
    rw [HW1.out]
    go_wp2_with fail
    refine HC.out.mono ?_
    rintro e w2 ⟨rfl, hb2⟩
    have HF := Lib.hid (HR.out (⟨#[91]⟩ ++ ⟨tx.toArray⟩ ++ ⟨#[93]⟩) w2 (by simp [nodeX, HTX.out]) hb2)
    clear hb2
    go_wp2_with fail
    go_ret
    exact HF.out

set_option maxHeartbeats 800000 in
theorem implFormatV_any (t : Va) (w : World) (cs : List Value) (h : RVa w t cs) (hw : wv t ≤ 1048576) (hs : t.size ≤ 1048577) (htab : TabOk w) : Calls Tryd.prog 7 #[.agg cs.toArray] w (Text (vtxB t) w) := by
  obtain ⟨c0, c1, c2, c3, rfl⟩ := h.four
  obtain ⟨W1, hW1⟩ : ∃ W1, w.alloc (.cells #[c0, c1, c2, c3] 30) = W1 := ⟨_, rfl⟩
  obtain ⟨H, hH⟩ : ∃ H, w.heap.size = H := ⟨_, rfl⟩
  have hbox : Box4 W1 H 30 c0 c1 c2 c3 := by rw [← hW1, ← hH]; exact Box4.new w _ _ _ _ _
  have hb0 : Below w.heap.size w W1 := by rw [← hW1]; exact (Below.refl _ _).alloc (Nat.le_refl _) _
  have HV := Lib.hid (implIsV_any t W1 _ (h.keep hb0) hw hs)
  have HT := Lib.hid (fun W (hB : Below w.heap.size w W) (hf : t.formV = true) => implTextV_any t W _ (h.keep hB) hf hw (htab.keep hB))
  have HW1 := Lib.hid hW1
  have B0 := Lib.hid hbox
  have HB0 := Lib.hid hb0
  have x0 := hbox.c0
  have x1 := hbox.c1
  have x2 := hbox.c2
  have x3 := hbox.c3
  clear h hw hs hW1 hbox hb0 htab
  go_enter Tryd.func7, Tryd.ntmps7
  go_wp2_with fail
  rw [HW1.out]
  go_wp2_with fail
  refine HV.out.mono ?_
  rintro e w1 ⟨rfl, hb1⟩
  have HB1 := Lib.hid (HB0.out.trans (hb1.mono HB0.out.size))
  have b1 := B0.out.under hb1 B0.out.lt
  clear hb1 x0 x1 x2 x3
  have x0 := b1.c0
  have x1 := b1.c1
  have x2 := b1.c2
  have x3 := b1.c3
  clear b1
  cases hv : isvB t
  · have HR : Hid (Text (vtxB t) w (.returned (.string ⟨#[]⟩)) w1) := Lib.hid ⟨by unfold vtxB; rw [hv]; rfl, HB1.out⟩
    clear hv
    go_wp2_with fail
    go_ret
    exact HR.out
  · have hf : t.formV = true := by
      unfold isvB at hv
      simp only [Bool.and_eq_true] at hv
      exact hv.2
    have HC := Lib.hid (HT.out w1 HB1.out hf)
    have HE : Hid (vtxB t = t.vtx) := Lib.hid (by unfold vtxB; rw [hv]; rfl)
    clear hv hf
    go_wp2_with fail
    refine HC.out.mono ?_
    rintro e w2 ⟨rfl, hb2⟩
    have HR : Hid (Text (vtxB t) w (.returned (.string ⟨t.vtx.toArray⟩)) w2) := Lib.hid ⟨by rw [HE.out], HB1.out.trans (hb2.mono HB1.out.size)⟩
    clear hb2 HC
    go_wp2_with fail
    go_ret
    exact HR.out
end Go.Proofs.YtckoookgjhngkaaDoor
