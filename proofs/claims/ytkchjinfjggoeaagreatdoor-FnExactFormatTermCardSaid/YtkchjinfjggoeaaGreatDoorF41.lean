/-
  Merged by program: TWr.
-/
import Derived.Test.YtkchjinfjggoeaaGreatDoorF31
import Derived.Test.YtkchjinfjggoeaaGreatDoorShelfB
import Derived.Test.YtkchjinfjggoeaaGreatDoorF40
import Derived.Test.YtkchjinfjggoeaaGreatDoorF17
import Derived.Lib.OthersKept

/-
  The program's writeTerm, textOfTerm, FormatTerm: texts are written into a builder.
-/
namespace Go.Proofs.YtkchjinfjggoeaaGreatDoor
open Go.RowKit

theorem ownF_below {w w' : World} {b : Nat} {e : TypeId} {v : Value} {n : Nat} {xs : List Value} (h : w.ownsRowF b e 1 v n xs) (hb : Below w.heap.size w w') : w'.ownsRowF b e 1 v n xs := by
  refine ⟨h.1, ?_⟩
  rcases h.2 with h1 | ⟨g, cap, cur, fz, h1, h2, h3, h4⟩
  · exact .inl h1
  · exact .inr ⟨g, cap, cur, fz, h1, h2, (hb.block g (Array.getElem?_eq_some_iff.1 h3).1).trans h3, h4⟩
theorem builder_below {T e : TypeId} {B b : Nat} {xs : List Value} {w w' : World} (h : Lib.IsBuilderF T e B b xs w) (hb : Below w.heap.size w w') : Lib.IsBuilderF T e B b xs w' := by
  have go : ∀ p, Lib.BuilderAtF T e B b p xs w → Lib.BuilderAtF T e B b p xs w' := by
    rintro p ⟨hB, v, h1, h2, h3⟩
    exact ⟨hB, v, (hb.block b (Array.getElem?_eq_some_iff.1 h1).1).trans h1, ownF_below h2 hb, h3⟩
  exact h.elim (fun x => .inl (go _ x)) (fun x => .inr (go _ x))
theorem builder_lt {T e : TypeId} {B b : Nat} {xs : List Value} {w : World} (h : Lib.IsBuilderF T e B b xs w) : B ≤ b ∧ b < w.heap.size := by
  rcases h with ⟨hB, v, h1, _⟩ | ⟨hB, v, h1, _⟩ <;> exact ⟨hB, (Array.getElem?_eq_some_iff.1 h1).1⟩

/-- what a call that writes into the builder leaves -/
def Wrote (B b : Nat) (l : List UInt8) (w : World) (e : Ending) (w' : World) : Prop :=
  e = .returned (.tuple #[]) ∧ Lib.IsBuilderF 94 5 B b (Lib.byteCells l) w' ∧ Below B w w' ∧ Lib.OthersKept 5 (some b) w w'
/-- what the loop keeps -/
def WrInv (w0 w : World) (B b g : Nat) (acc : List UInt8) (ks : List Te) (ar : List (List UInt8)) (i : Value) (wr : World) : Prop :=
  ∃ k : Nat, k ≤ ks.length ∧ i = .int .i64 (k : Int) ∧ Lib.IsBuilderF 94 5 B b (Lib.byteCells (acc ++ wvTo ar (ks.map Tr.ttx) k)) wr ∧ Below B w wr ∧ Lib.OthersKept 5 (some b) w wr ∧ Below w0.heap.size w0 wr ∧ Arnd ar g wr
theorem box8_kept {w w' : World} {g b : Nat} {a0 a1 a2 a3 a4 a5 a6 a7 : Value} (h : Box8 w g 30 a0 a1 a2 a3 a4 a5 a6 a7) (hb : g ≠ b) (hk : Lib.OthersKept 5 (some b) w w') : Box8 w' g 30 a0 a1 a2 a3 a4 a5 a6 a7 :=
  hk g _ h (fun e => hb (Option.some.inj e)) (fun c f e => by injection e with _ e2 _; exact absurd e2 (by decide))
theorem wrote_cells (acc : List UInt8) {s : ByteArray} {x : List UInt8} (h : s.data.toList = x) : Lib.byteCells acc ++ Lib.strCells s = Lib.byteCells (acc ++ x) := by
  rw [Lib.byteCells_append, Lib.strCells_eq, h]
theorem getD_some {xs : List (List UInt8)} {k : Nat} (h : k < xs.length) : xs[k]? = some (xs.getD k []) := by simp [h]

set_option maxRecDepth 100000 in
set_option maxHeartbeats 3200000 in
theorem writeTerm_any (w0 : World) (B b : Nat) (h0B : w0.heap.size ≤ B) (htab : TabOk w0) : ∀ (t : Te) (cs : List Value), RTe w0 t cs → t.formE = true → wte t ≤ 1048576 → ∀ (acc : List UInt8) (w : World), Below w0.heap.size w0 w →
    Lib.IsBuilderF 94 5 B b (Lib.byteCells acc) w → acc.length + t.ttx.length ≤ 1073741824 →
    Calls Tryz.prog 60 #[.pointer (some ⟨b, 0, none⟩), .agg cs.toArray] w (Wrote B b (acc ++ t.ttx) w) := by
  refine Tr.ind ?_
  intro a ks ih cs h hf hw acc w hb0 hbd hlen
  obtain ⟨hfk, hform⟩ := formE_kids hf
  obtain ⟨hwv, hal⟩ := wv_all hform
  have hpre := wv_prefix (arY a) (ks.map Tr.ttx)
  obtain ⟨c0, c1, c2, c3, c4, c5, c6, c7, rfl⟩ := h.eight
  obtain ⟨W1, hW1⟩ : ∃ W1, w.alloc (.cells #[c0, c1, c2, c3, c4, c5, c6, c7] 30) = W1 := ⟨_, rfl⟩
  obtain ⟨H, hH⟩ : ∃ H, w.heap.size = H := ⟨_, rfl⟩
  have hbox : Box8 W1 H 30 c0 c1 c2 c3 c4 c5 c6 c7 := by rw [← hW1, ← hH]; exact Box8.new w _ _ _ _ _ _ _ _ _
  have hb1 : Below w.heap.size w W1 := by rw [← hW1]; exact (Below.refl _ _).alloc (Nat.le_refl _) _
  have hs1 : W1.heap.size = H + 1 := by rw [← hW1, ← hH]; simp
  have hb01 := hb0.trans (hb1.mono hb0.size)
  have hbd1 := builder_below hbd hb1
  have hbl := builder_lt hbd
  have hBw : Below B w W1 := hb1.mono (by omega)
  have HAR := Lib.hid (aroundArgs_any (.node a ks) W1 _ (h.keep hb01) hform hw (htab.keep hb01))
  obtain ⟨TL, tc, TA, td, L, c, A, d, hcs, _, _, _, hkn, _, hkids⟩ := h.out
  simp only [List.cons.injEq, and_true] at hcs
  obtain ⟨-, -, -, -, -, -, -, rfl⟩ := hcs
  have HP := Lib.hid hkids
  have HIH := Lib.hid (fun (t : Te) (ht : t ∈ ks) (cs : List Value) (hr : RTe w0 t cs) => ih t ht cs hr (hfk t ht) (Nat.le_trans (kid_wte_le ht) hw))
  have hkl : ks.length ≤ 1048576 := by rw [wte_node] at hw; unfold wteK at hw; omega
  have HLEN : Hid (∀ k, k ≤ ks.length → acc.length + (wvTo (arY a) (ks.map Tr.ttx) k).length ≤ 1073741824) := Lib.hid (fun k hk => by have := hpre k ks.length hk; rw [hwv] at this; omega)
  have HFIN : Hid (∀ wr, Lib.IsBuilderF 94 5 B b (Lib.byteCells (acc ++ wvTo (arY a) (ks.map Tr.ttx) ks.length)) wr → Below B w wr → Lib.OthersKept 5 (some b) w wr → Wrote B b (acc ++ Tr.ttx (.node a ks)) w (.returned (.tuple #[])) wr) := Lib.hid (fun wr h1 h2 h3 => ⟨rfl, by rw [← hwv]; exact h1, h2, h3⟩)
  have HB0 := Lib.hid hb0
  have HB01 := Lib.hid hb01
  have HBW := Lib.hid hBw
  have HK1 : Hid (Lib.OthersKept 5 (some b) w W1) := Lib.hid (kept_of_below hb1)
  have HBD1 := Lib.hid hbd1
  have HW1 := Lib.hid hW1
  have HBOX := Lib.hid hbox
  have HAL := Lib.hid hal
  have HS : Hid (w0.heap.size ≤ B ∧ B ≤ b ∧ b < H ∧ W1.heap.size = H + 1) := Lib.hid ⟨h0B, hbl.1, by omega, hs1⟩
  have x0 := hbox.c0
  have x1 := hbox.c1
  have x2 := hbox.c2
  have x3 := hbox.c3
  have x4 := hbox.c4
  have x5 := hbox.c5
  have x6 := hbox.c6
  have x7 := hbox.c7
  obtain ⟨txt, htxt⟩ : ∃ txt, Tr.ttx (.node a ks) = txt := ⟨_, rfl⟩
  rw [htxt] at HFIN ⊢
  simp only [show (Tr.node a ks : Te).top = a from rfl] at HAR
  generalize arY a = ar at HAR HLEN HFIN HAL
  clear htxt h hf hw hb0 hbd hlen hfk hform hwv hal hpre hW1 hbox hb1 hs1 hb01 hbd1 hbl hBw hkids ih h0B htab
  go_enter Tryz.func60, Tryz.ntmps60
  go_wp2_with fail
  rw [HW1.out]
  go_wp2_with fail
  refine HAR.out.mono ?_
  rintro e w2 ⟨g, lc, he, har, hg, hb2⟩
  rw [HAL.out] at he
  subst he
  obtain ⟨hS1, hS2, hS3, hS4⟩ := HS.out
  have hbd2 := builder_below HBD1.out hb2
  obtain ⟨s0, q0, hs0⟩ := har.at (getD_some (k := 0) (by rw [HAL.out]; omega))
  have hz0 : s0.size = (wvTo ar (ks.map Tr.ttx) 0).length := by rw [← size_data, hs0]; rfl
  have hl0 := HLEN.out 0 (Nat.zero_le _)
  have hB2 : Below B w w2 := HBW.out.trans (hb2.mono (by omega))
  have hsz2 := hb2.size
  have HC := Lib.hid (Tryz.writeString B b (Lib.byteCells acc) s0 w2 hbd2 (by rw [Lib.byteCells_length]; omega) (by omega))
  have HNX : Hid (∀ w3, Lib.BuilderAtF 94 5 B b (.pointer (some ⟨b, 0, none⟩)) (Lib.byteCells acc ++ Lib.strCells s0) w3 → Below B w2 w3 → Lib.OthersKept 5 (some b) w2 w3 → WrInv w0 w B b g acc ks ar (.int .i64 0) w3) := Lib.hid (fun w3 h1 h2 h3 => by
    refine ⟨0, Nat.zero_le _, rfl, ?_, hB2.trans (h2.mono (by omega)), (HK1.out.trans (kept_of_below hb2)).trans h3, (HB01.out.trans (hb2.mono HB01.out.size)).trans (h2.mono hS1), har.kept (by omega) h3⟩
    rw [show acc ++ wvTo ar (ks.map Tr.ttx) 0 = acc ++ ar.getD 0 [] from rfl, ← wrote_cells acc hs0]
    exact .inr h1)
  have HBX2 : Hid (∀ w3, Lib.OthersKept 5 (some b) w2 w3 → Box8 w3 H 30 c0 c1 c2 c3 c4 c5 c6 (.slice A ks.length d)) := Lib.hid (fun w3 h3 => box8_kept (HBOX.out.under hb2 HBOX.out.lt) (by omega) h3)
  have HG : Hid (g ≠ b) := Lib.hid (by omega)
  clear x0 x1 x2 x3 x4 x5 x6 x7 hbd2 har hg hb2 hz0 hl0 hB2 hsz2 hs0 hS1 hS2 hS3 hS4 HAR
  go_wp2_with fail
  refine HC.out.mono ?_
  rintro e w3 ⟨rfl, h1, h2, h3⟩
  have HI := Lib.hid (HNX.out w3 h1 h2 h3)
  have hbox3 := HBX2.out w3 h3
  have x7 := hbox3.c7
  clear h1 h2 h3 hbox3 q0 HC HNX HBX2
  go_wp2_with fail
  go_loopw [17] (fun i wr => WrInv w0 w B b g acc ks ar i wr) (fun i _ => ks.length - (intOf i).toNat)
  case atStart => exact HI.out
  case round =>
    obtain ⟨k, hk, rfl, hbd, hB, hK, hb, har⟩ := hrel
    clear x7
    by_cases hlt : k < ks.length
    · obtain ⟨ad, p, d0, d1, d2, d3, d4, d5, d6, d7, rfl, hpe, hr, q0, q1, q2, q3, q4, q5, q6, q7⟩ := tid_at HP.out (Below.refl _ _) hlt
      have up : ∀ (q : Addr) (u : Value), w0.cell? q = some u → wr.cell? q = some u := fun q u h => (hb.cell (World.block_lt_of_cell? w0 _ h)).trans h
      replace q0 := up _ _ q0
      replace q1 := up _ _ q1
      replace q2 := up _ _ q2
      replace q3 := up _ _ q3
      replace q4 := up _ _ q4
      replace q5 := up _ _ q5
      replace q6 := up _ _ q6
      replace q7 := up _ _ q7
      have HR0 := Lib.hid hr
      obtain ⟨f0, f1, f2, f3, f4, f5, f6, f7, f8, f9, f10, f11, f12, f13, f14, f15, rfl, rfl, rfl, rfl, rfl, rfl, rfl, rfl⟩ := hr.shape
      obtain ⟨hS1, hS2, hS3, hS4⟩ := HS.out
      obtain ⟨W5, hW5⟩ : ∃ W5, wr.alloc (.cells #[.int .i64 f0, .string f1, .int .i64 f2, .int .i64 f3, .slice f4 f5 f6, .slice f7 f8 f9, .slice f10 f11 f12, .slice f13 f14 f15] 30) = W5 := ⟨_, rfl⟩
      have hb5 : Below wr.heap.size wr W5 := by rw [← hW5]; exact (Below.refl _ _).alloc (Nat.le_refl _) _
      have hbw := hB.size
      have hsw : B ≤ wr.heap.size := by have := builder_lt hbd; omega
      have hB5 : Below B w W5 := hB.trans (hb5.mono hsw)
      have hK5 : Lib.OthersKept 5 (some b) w W5 := hK.trans (kept_of_below hb5)
      have hb05 : Below w0.heap.size w0 W5 := hb.trans (hb5.mono hb.size)
      have har5 : Arnd ar g W5 := by
        obtain ⟨cur, fz, hh, hc⟩ := har
        exact ⟨cur, fz, (hb5.block g (Array.getElem?_eq_some_iff.1 hh).1).trans hh, hc⟩
      have hbx5 : Box8 W5 wr.heap.size 30 (.int .i64 f0) (.string f1) (.int .i64 f2) (.int .i64 f3) (.slice f4 f5 f6) (.slice f7 f8 f9) (.slice f10 f11 f12) (.slice f13 f14 f15) := by rw [← hW5]; exact Box8.new wr _ _ _ _ _ _ _ _ _
      have hl0 := HLEN.out (k + 1) hlt
      have hmap : (ks.map Tr.ttx).getD k [] = Tr.ttx ks[k] := by simp [hlt]
      have hwk : wvTo ar (ks.map Tr.ttx) (k + 1) = wvTo ar (ks.map Tr.ttx) k ++ (Tr.ttx ks[k] ++ ar.getD (k + 1) []) := by rw [← hmap]; rfl
      have HWK := Lib.hid hwk
      rw [hwk, List.length_append, List.length_append] at hl0
      have HC := Lib.hid (HIH.out ks[k] (List.getElem_mem hlt) _ hr (acc ++ wvTo ar (ks.map Tr.ttx) k) W5 hb05 (builder_below hbd hb5) (by rw [List.length_append]; omega))
      have HNX : Hid (∀ (w6 : World), Lib.IsBuilderF 94 5 B b (Lib.byteCells ((acc ++ wvTo ar (ks.map Tr.ttx) k) ++ Tr.ttx ks[k])) w6 → Below B W5 w6 → Lib.OthersKept 5 (some b) W5 w6 →
          ∃ s : ByteArray, w6.cell? ⟨g, k + 1, none⟩ = some (.string s) ∧
          Calls Tryz.prog 99 #[.pointer (some ⟨b, 0, none⟩), .string s] w6 (fun e w7 => e = .returned (.tuple #[.int .i64 s.size, .nilIface]) ∧ ∀ i, i = Value.int .i64 ((k + 1 : Nat) : Int) → WrInv w0 w B b g acc ks ar i w7)) := Lib.hid (fun w6 h1 h2 h3 => by
        have har6 := har5.kept (by exact HG.out) h3
        obtain ⟨s, hc, hs⟩ := har6.at (getD_some (k := k + 1) (by rw [HAL.out]; omega))
        have hsz : s.size = (ar.getD (k + 1) []).length := by rw [← size_data, hs]
        have hs6 : B ≤ w6.heap.size := by have := builder_lt h1; omega
        refine ⟨s, hc, (Tryz.writeString B b _ s w6 h1 (by rw [Lib.byteCells_length, List.length_append, List.length_append]; omega) hs6).mono ?_⟩
        rintro e w7 ⟨rfl, g1, g2, g3⟩
        refine ⟨rfl, fun i hi => ⟨k + 1, hlt, hi, ?_, (hB5.trans h2).trans g2, (hK5.trans h3).trans g3, (hb05.trans (h2.mono hS1)).trans (g2.mono hS1), har6.kept HG.out g3⟩⟩
        rw [HWK.out, show acc ++ (wvTo ar (ks.map Tr.ttx) k ++ (Tr.ttx ks[k] ++ ar.getD (k + 1) [])) = ((acc ++ wvTo ar (ks.map Tr.ttx) k) ++ Tr.ttx ks[k]) ++ ar.getD (k + 1) [] by simp only [List.append_assoc], ← wrote_cells _ hs]
        exact .inr g1)
      have HW5 := Lib.hid hW5
      have x0 := hbx5.c0
      have x1 := hbx5.c1
      have x2 := hbx5.c2
      have x3 := hbx5.c3
      have x4 := hbx5.c4
      have x5 := hbx5.c5
      have x6 := hbx5.c6
      have x7 := hbx5.c7
      generalize acc ++ wvTo ar (ks.map Tr.ttx) k = acc2 at HC HNX
      generalize Tr.ttx ks[k] = tk at HC HNX
      clear hbd hB hK hb har hW5 hb5 hbw hsw hB5 hK5 hb05 har5 hbx5 hl0 hmap hwk HWK up hr hS1 hS2 hS3 hS4
      go_wp2_with fail
      rw [HW5.out]
      go_wp2_with fail
      refine HC.out.mono ?_
      rintro e w6 ⟨rfl, h1, h2, h3⟩
      obtain ⟨s, y0, hws⟩ := HNX.out w6 h1 h2 h3
      have HWS := Lib.hid hws
      clear h1 h2 h3 hws x0 x1 x2 x3 x4 x5 x6 x7 HNX HC
      go_wp2_with fail
      refine HWS.out.mono ?_
      rintro e w7 ⟨rfl, hnx⟩
      have HN := Lib.hid hnx
      clear hnx y0
      go_wp2_with fail
      go_roundw
      case rel => exact HN.out _ (by go_num)
      case measure => simp [intOf]; omega
    · have he : k = ks.length := by omega
      subst he
      have HR := Lib.hid (HFIN.out wr hbd hB hK)
      clear hbd hB hK hb har hk
      go_wp2_with fail
      go_end0
      exact HR.out

set_option maxHeartbeats 1600000 in
theorem implTextE_any (t : Te) (w : World) (cs : List Value) (h : RTe w t cs) (hf : t.formE = true) (hw : wte t ≤ 1048576) (htab : TabOk w) : Calls Tryz.prog 23 #[.agg cs.toArray] w (Text t.ttx w) := by
  have hlen : t.ttx.length ≤ 1073741824 := by have := ttx_le t h.okE; omega
  obtain ⟨c0, c1, c2, c3, c4, c5, c6, c7, rfl⟩ := h.eight
  obtain ⟨W1, hW1⟩ : ∃ W1, w.alloc (.cells #[c0, c1, c2, c3, c4, c5, c6, c7] 30) = W1 := ⟨_, rfl⟩
  obtain ⟨W2, hW2⟩ : ∃ W2, W1.alloc (.cells #[.pointer none, .slice none 0 0] 94) = W2 := ⟨_, rfl⟩
  obtain ⟨H, hH⟩ : ∃ H, w.heap.size = H := ⟨_, rfl⟩
  have hs1 : W1.heap.size = H + 1 := by rw [← hW1, ← hH]; simp
  have hbox : Box8 W2 H 30 c0 c1 c2 c3 c4 c5 c6 c7 := by rw [← hW2]; exact Box8.alloc (by rw [← hW1, ← hH]; exact Box8.new w _ _ _ _ _ _ _ _ _) _
  have hb1 : Below w.heap.size w W1 := by rw [← hW1]; exact (Below.refl _ _).alloc (Nat.le_refl _) _
  have hb2 : Below w.heap.size w W2 := by rw [← hW2]; exact hb1.alloc hb1.size _
  have hbd : Lib.IsBuilderF 94 5 (H + 1) (H + 1) (Lib.byteCells []) W2 := by rw [← hW2, ← hs1]; exact Lib.IsBuilderF.of (Lib.fresh_isBuilder _ _ W1)
  have HC := Lib.hid (writeTerm_any w (H + 1) (H + 1) (by omega) htab t _ h hf hw [] W2 hb2 hbd (by simpa using hlen))
  have HW1 := Lib.hid hW1
  have HW2 := Lib.hid hW2
  have HB2 := Lib.hid hb2
  have HSZ := Lib.hid hs1
  have HH := Lib.hid hH
  have x0 := hbox.c0
  have x1 := hbox.c1
  have x2 := hbox.c2
  have x3 := hbox.c3
  have x4 := hbox.c4
  have x5 := hbox.c5
  have x6 := hbox.c6
  have x7 := hbox.c7
  obtain ⟨tx, htx⟩ : ∃ tx, t.ttx = tx := ⟨_, rfl⟩
  rw [htx] at HC ⊢
  clear htx hlen h hf hw htab hW1 hW2 hb1 hb2 hs1 hbox hbd
  go_enter Tryz.func23, Tryz.ntmps23
  go_wp2_with fail
  rw [HW1.out]
  rw [HW2.out]
  go_wp2_with fail
  refine HC.out.mono ?_
  rintro e w3 ⟨rfl, h1, h2, h3⟩
  have HS := Lib.hid (Tryz.Builder_String_any_k (H + 1) (H + 1) tx w3 h1 (by have := builder_lt h1; omega))
  have HB3 : Hid (Below w.heap.size w w3) := Lib.hid (HB2.out.trans (h2.mono (by rw [HH.out]; omega)))
  clear h1 h2 h3 x0 x1 x2 x3 x4 x5 x6 x7
  go_wp2_with fail
  refine HS.out.mono ?_
  rintro e w4 ⟨rfl, h1, h2, h3⟩
  have HF : Hid (Text tx w (.returned (.string ⟨tx.toArray⟩)) w4) := Lib.hid ⟨rfl, HB3.out.trans (h2.mono (by rw [HH.out]; omega))⟩
  clear h1 h2 h3
  go_wp2_with fail
  go_ret
  exact HF.out

set_option maxHeartbeats 800000 in
theorem implFormatE_any (t : Te) (w : World) (cs : List Value) (h : RTe w t cs) (hw : wte t ≤ 1048576) (htab : TabOk w) (har : ArOk w) : Calls Tryz.prog 8 #[.agg cs.toArray] w (Text (ttxB t) w) := by
  obtain ⟨c0, c1, c2, c3, c4, c5, c6, c7, rfl⟩ := h.eight
  obtain ⟨W1, hW1⟩ : ∃ W1, w.alloc (.cells #[c0, c1, c2, c3, c4, c5, c6, c7] 30) = W1 := ⟨_, rfl⟩
  obtain ⟨H, hH⟩ : ∃ H, w.heap.size = H := ⟨_, rfl⟩
  have hbox : Box8 W1 H 30 c0 c1 c2 c3 c4 c5 c6 c7 := by rw [← hW1, ← hH]; exact Box8.new w _ _ _ _ _ _ _ _ _
  have hb0 : Below w.heap.size w W1 := by rw [← hW1]; exact (Below.refl _ _).alloc (Nat.le_refl _) _
  have HV := Lib.hid (implValidE_any t W1 _ (h.keep hb0) hw (har.keep hb0))
  have HT := Lib.hid (fun W (hB : Below w.heap.size w W) (hf : t.formE = true) => implTextE_any t W _ (h.keep hB) hf hw (htab.keep hB))
  have HW1 := Lib.hid hW1
  have B0 := Lib.hid hbox
  have HB0 := Lib.hid hb0
  have x0 := hbox.c0
  have x1 := hbox.c1
  have x2 := hbox.c2
  have x3 := hbox.c3
  have x4 := hbox.c4
  have x5 := hbox.c5
  have x6 := hbox.c6
  have x7 := hbox.c7
  clear h hw hW1 hbox hb0 htab har
  go_enter Tryz.func8, Tryz.ntmps8
  go_wp2_with fail
  rw [HW1.out]
  go_wp2_with fail
  refine HV.out.mono ?_
  rintro e w1 ⟨rfl, hb1⟩
  have HB1 := Lib.hid (HB0.out.trans (hb1.mono HB0.out.size))
  have b1 := B0.out.under hb1 B0.out.lt
  clear hb1 x0 x1 x2 x3 x4 x5 x6 x7
  have x0 := b1.c0
  have x1 := b1.c1
  have x2 := b1.c2
  have x3 := b1.c3
  have x4 := b1.c4
  have x5 := b1.c5
  have x6 := b1.c6
  have x7 := b1.c7
  clear b1
  cases hv : validE t
  · have HR : Hid (Text (ttxB t) w (.returned (.string ⟨#[]⟩)) w1) := Lib.hid ⟨by unfold ttxB; rw [hv]; rfl, HB1.out⟩
    clear hv
    go_wp2_with fail
    go_ret
    exact HR.out
  · have hf : t.formE = true := by
      unfold validE at hv
      simp only [Bool.and_eq_true] at hv
      exact hv.2.2
    have HC := Lib.hid (HT.out w1 HB1.out hf)
    have HE : Hid (ttxB t = t.ttx) := Lib.hid (by unfold ttxB; rw [hv]; rfl)
    clear hv hf
    go_wp2_with fail
    refine HC.out.mono ?_
    rintro e w2 ⟨rfl, hb2⟩
    have HR : Hid (Text (ttxB t) w (.returned (.string ⟨t.ttx.toArray⟩)) w2) := Lib.hid ⟨by rw [HE.out], HB1.out.trans (hb2.mono HB1.out.size)⟩
    clear hb2
    go_wp2_with fail
    go_ret
    exact HR.out
end Go.Proofs.YtkchjinfjggoeaaGreatDoor
