/-
  Merged by program: TypesLaw.
-/
import Derived.Test.YtfhebkdoheafeaaU25
import Derived.Test.YtfhebkdoheafeaaU26
import Derived.Test.YtfhebkdoheafeaaU29
import Derived.Test.YtfhebkdoheafeaaU35
import Derived.Test.YtfhebkdoheafeaaU34
import Derived.Test.YtfhebkdoheafeaaU36
import Derived.Test.YtfhebkdoheafeaaU40
import Derived.Test.YtfhebkdoheafeaaU43
import Derived.Test.YtfhebkdoheafeaaU44
import Derived.Test.YtfhebkdoheafeaaU45
import Derived.Deep.RegionHeld3

/-
  The walk of laws.FnTypes.
-/
namespace Go.Proofs.Ytfhebkdoheafeaa
open Go.RowKit

/-- a type in a variable -/
structure Var (X : Nat) (t : Ty) (q : Int) (L A : Option Addr) (n c m d : Nat) (W : World) : Prop where
  box : Box3 W X 27 (.int .i64 q) (.slice L n c) (.slice A m d)
  val : At t q L A n c m d 0 W
theorem Var.keep {X : Nat} {t : Ty} {q : Int} {L A : Option Addr} {n c m d : Nat} {W W' : World} (h : Var X t q L A n c m d W) (hb : Below W.heap.size W W') : Var X t q L A n c m d W' :=
  ⟨h.box.under hb h.box.lt, h.val.under hb⟩
theorem Var.new {t : Ty} {q : Int} {L A : Option Addr} {n c m d B : Nat} {w W : World} (h : At t q L A n c m d B w) (hW : w.alloc (.cells #[.int .i64 q, .slice L n c, .slice A m d] 27) = W) : Var w.heap.size t q L A n c m d W := by
  subst hW
  exact ⟨Box3.new w _ _ _ _, (h.low (Nat.zero_le _)).under ((Below.refl _ _).alloc (Nat.le_refl _) _)⟩
theorem At.parts {a : TyA} {ks : List Ty} {q : Int} {L A : Option Addr} {n c m d B : Nat} {w : World} (h : At (.node a ks) q L A n c m d B w) : q = a.kind ∧ m = ks.length ∧ RKids w A ks ∧ (Tr.node a ks : Ty).size ≤ 1001 ∧ ks.length ≤ 1000 := by
  have hs := size_wt (.node a ks)
  have hw := h.wb
  obtain ⟨L', c', A', d', he, k1, k2, k3, k4, k5, k6, hp⟩ := h.reads.out
  injection he with e0 he
  injection he with e1 he
  injection he with e2 _
  injection e0 with _ e0
  injection e2 with e2 e2m e2d
  subst e2
  refine ⟨e0, e2m, hp, by omega, ?_⟩
  rw [wt_node] at hw
  unfold wtK at hw
  omega
theorem row_says {t : Ty} (h : rowB t = true) : t.bags = 0 ∧ dataB t = true := by
  obtain ⟨a, ks⟩ := t
  unfold rowB at h
  simp only [Bool.and_eq_true, decide_eq_true_eq, List.all_eq_true] at h
  obtain ⟨hv, h3, hb⟩ := h
  have h3' : a.kind = 3 := h3
  have hv0 := hv
  unfold validB at hv
  simp only [Bool.and_eq_true, decide_eq_true_eq] at hv
  have hf := hv.2.2
  rw [form_node] at hf
  simp only [Bool.and_eq_true, List.all_eq_true] at hf
  obtain ⟨hk, ha⟩ := hf
  unfold formA at ha
  rw [if_pos h3'] at ha
  simp only [Bool.and_eq_true] at ha
  constructor
  · rw [bags_node, if_neg (by omega)]
    have hz : ∀ s ∈ ks, s.bags = 0 := by
      intro s hs
      have h1 := hk s hs
      have h2 := hb s hs
      obtain ⟨b, ls⟩ := s
      unfold baseB at h2
      simp only [Bool.or_eq_true, decide_eq_true_eq] at h2
      have h2' : b.kind = 1 ∨ b.kind = 2 := h2
      rw [form_node] at h1
      simp only [Bool.and_eq_true] at h1
      have h4 := h1.2
      unfold formA at h4
      rw [if_neg (by omega)] at h4
      simp only [Bool.and_eq_true, decide_eq_true_eq] at h4
      have h5 := h4.2.2
      have h6 : want b.kind = 0 := by unfold want; rcases h2' with h | h <;> simp [h]
      rw [h6] at h5
      have h7 : ls = [] := List.length_eq_zero_iff.1 (by omega)
      subst h7
      rw [bags_node, if_neg (by omega)]
      rfl
    have : ∀ xs : List Ty, (∀ s ∈ xs, s.bags = 0) → (xs.map Tr.bags).sum = 0 := by
      intro xs
      induction xs with
      | nil => intro _; rfl
      | cons x xs ih => intro h; simp [h x (by simp), ih (fun s hs => h s (by simp [hs]))]
    rw [this ks hz]
  · unfold dataB
    rw [hv0]
    simpa using ha.2.2

/-- k parts are counted -/
def FnInv (w : World) (Z : Nat) (ks : List Ty) (X : Nat) (t : Ty) (q : Int) (L A : Option Addr) (n c m d : Nat) (s dd bb i : Value) (wr : World) : Prop :=
  ∃ k : Nat, k ≤ ks.length ∧ i = .int .i64 k ∧ s = .int .i64 ((1 + ((ks.take k).map Tr.size).sum : Nat) : Int) ∧ dd = .int .i64 ((deepTo ks k : Nat) : Int) ∧ bb = .int .i64 ((Z + ((ks.take k).map Tr.bags).sum : Nat) : Int) ∧ Var X t q L A n c m d wr ∧ Below w.heap.size w wr

set_option maxRecDepth 100000 in
set_option maxHeartbeats 16000000 in
theorem fnTypes_law (A0 : Option Addr) (cap : Nat) (bs : List UInt8) (w : World) (hn : bs.length ≤ 9223372036854775807) (hsl : Sl w A0 (bcells bs)) :
    Calls Try.prog 3 #[.slice A0 bs.length cap] w (LawYes w) := by
  have HS := Lib.hid hsl
  clear hsl
  go_enter Try.func3, Try.ntmps3
  go_wp2_with fail
  refine (big_any A0 bs.length cap w).mono ?_
  rintro e w0 ⟨rfl, rfl⟩
  by_cases hbig : 1048576 < bs.length
  · go_wp2_with fail
    go_ret
    exact ⟨rfl, Below.refl _ _⟩
  have hbd : decide ((1048576 : Int) < (bs.length : Int)) = false := by simp; omega
  rw [hbd]
  clear hbd
  have HC := Lib.hid (show Code w A0 bs from ⟨HS.out, by omega⟩)
  clear HS hbig
  go_wp2_with fail
  refine (drawValid_any A0 cap bs w HC.out).mono ?_
  rintro e w1 ⟨t, q, L, A, n, c, m, d, fp, rfl, hot, hfp, hwt, hb⟩
  obtain ⟨W2, hW2⟩ : ∃ W2, w1.alloc (.cells #[.int .i64 q, .slice L n c, .slice A m d] 27) = W2 := ⟨_, rfl⟩
  have hv := Var.new (B := 0) ⟨⟨fp, hot, fun _ _ => Nat.zero_le _⟩, hwt⟩ hW2
  have hb2 : Below w.heap.size w W2 := by rw [← hW2]; exact hb.alloc hb.size _
  obtain ⟨X, hX⟩ : ∃ X, w1.heap.size = X := ⟨_, rfl⟩
  rw [hX] at hv
  obtain ⟨a, ks⟩ := t
  obtain ⟨hqa, hm, hkids, hts, hkl⟩ := hv.val.parts
  subst hm
  clear hkids
  have HV := Lib.hid hv
  have HB := Lib.hid hb2
  have HW2 := Lib.hid hW2
  have HTS := Lib.hid hts
  have HKL := Lib.hid hkl
  have HQ := Lib.hid hqa
  have x0 := hv.box.c0
  have x1 := hv.box.c1
  have x2 := hv.box.c2
  clear hot hfp hwt hb hW2 hv hb2 hqa
  have HEQ : Hid (∀ k, k ≤ ks.length → 1 + ((ks.take k).map Tr.size).sum ≤ 1001 ∧ deepTo ks k ≤ 1001 ∧ ((ks.take k).map Tr.bags).sum ≤ 1001) := Lib.hid (fun k hk => by
    have h0 := HTS.out
    rw [size_node] at h0
    have h1 := sum_take_le Tr.size ks k
    have h2 := sum_take_le Tr.bags ks k
    have h3 := sum_le_sum Tr.bags Tr.size ks (fun t _ => bags_le_size t)
    have h4 := foldl_max_le (m := (ks.map Tr.size).sum) ((ks.take k).map Tr.deep) 0 (Nat.zero_le _) (by
      intro x hx
      obtain ⟨t, ht, rfl⟩ := List.mem_map.1 hx
      exact Nat.le_trans (deep_le_size t) (kid_sum_le Tr.size (List.mem_of_mem_take ht)))
    have h5 : deepTo ks k = ((ks.take k).map Tr.deep).foldl max 0 := rfl
    omega)
  have HIN : Hid (∀ k (h : k < ks.length), ks[k].size ≤ 1001 ∧ ks[k].deep ≤ 1001 ∧ ks[k].bags ≤ 1001) := Lib.hid (fun k hk => by
    have h1 := kid_size_lt (a := a) (List.getElem_mem hk)
    have h2 := HTS.out
    have h3 := deep_le_size ks[k]
    have h4 := bags_le_size ks[k]
    omega)
  have HMA := Lib.hid (fun W (h : At (.node a ks) q L A n c ks.length d 0 W) => (show Calls _ _ _ _ (Counts (Tr.size (.node a ks)) W) from implSize_any _ W _ h.reads (by have := HTS.out; omega)))
  clear hts hkl
  obtain ⟨Z, hZ⟩ : ∃ Z : Nat, (if a.kind = 4 then 1 else 0) = Z := ⟨_, rfl⟩
  have HZ := Lib.hid hZ
  have HZ1 : Hid (Z ≤ 1) := Lib.hid (by rw [← hZ]; split <;> omega)
  have hloop0 : ∀ z : Int, z = (Z : Int) → FnInv w Z ks X (.node a ks) q L A n c ks.length d (.int .i64 1) (.int .i64 0) (.int .i64 z) (.int .i64 0) W2 := by
    rintro z rfl
    exact ⟨0, Nat.zero_le _, rfl, by simp, by simp [deepTo_zero], by simp, HV.out, HB.out⟩
  have HLO := Lib.hid hloop0
  have hq4 : q = 4 → Z = 1 := fun e => by rw [← hZ, if_pos (by rw [← HQ.out]; exact e)]
  have hq4' : ¬ q = 4 → Z = 0 := fun e => by rw [← hZ, if_neg (by rw [← HQ.out]; exact e)]
  clear hloop0 hZ
  by_cases hq : q = 4
  · have HL0 := Lib.hid (HLO.out 1 (by have := hq4 hq; omega))
    clear hq4 hq4' HLO
    subst hq
    go_wp2_with fail
    rw [HW2.out]
    go_wp2_with fail
    clear x0 x1 x2
    go_loopw [4, 5, 6, 7] (fun s dd bb i wr => FnInv w Z ks X (.node a ks) 4 L A n c ks.length d s dd bb i wr) (fun _ _ _ i _ => ks.length - (intOf i).toNat)
    case atStart => exact HL0.out
    case round =>
      clear HL0 HV HB
      obtain ⟨k, hk, rfl, rfl, rfl, rfl, hv, hb⟩ := hrel
      have x2 := hv.box.c2
      have HV := Lib.hid hv
      have HB := Lib.hid hb
      have hz1 := HZ1.out
      have hkl := HKL.out
      by_cases hlt : k < ks.length
      · have hp := hv.val.parts.2.2.1
        obtain ⟨ad, p, c0, c1, c2, rfl, hpe, hr, q0, q1, q2⟩ := kid_at hp (Below.refl _ _) hlt
        have h1 := sum_take_succ Tr.size ks k hlt
        have h2 := sum_take_succ Tr.bags ks k hlt
        have h3 := deepTo_succ ks k hlt
        obtain ⟨e1, e2, e3⟩ := HEQ.out k hk
        obtain ⟨i1, i2, i3⟩ := HIN.out k hlt
        have SZ := Lib.hid (fun (W : World) (h : Below wr.heap.size wr W) => (show Calls _ _ _ _ (Counts ks[k].size W) from implSize_any ks[k] W [c0, c1, c2] (hr.keep h) (by omega)))
        have DP := Lib.hid (fun (W : World) (h : Below wr.heap.size wr W) => (show Calls _ _ _ _ (Counts ks[k].deep W) from implDepth_any ks[k] W [c0, c1, c2] (hr.keep h) (by omega)))
        have BG := Lib.hid (fun (W : World) (h : Below wr.heap.size wr W) => (show Calls _ _ _ _ (Counts ks[k].bags W) from implBags_any ks[k] W [c0, c1, c2] (hr.keep h) (by omega)))
        obtain ⟨n1, hn1⟩ : ∃ n1, ((ks.take k).map Tr.size).sum = n1 := ⟨_, rfl⟩
        obtain ⟨n2, hn2⟩ : ∃ n2, ((ks.take k).map Tr.bags).sum = n2 := ⟨_, rfl⟩
        obtain ⟨n3, hn3⟩ : ∃ n3, deepTo ks k = n3 := ⟨_, rfl⟩
        obtain ⟨m1, hm1⟩ : ∃ m1, ks[k].size = m1 := ⟨_, rfl⟩
        obtain ⟨m2, hm2⟩ : ∃ m2, ks[k].bags = m2 := ⟨_, rfl⟩
        obtain ⟨m3, hm3⟩ : ∃ m3, ks[k].deep = m3 := ⟨_, rfl⟩
        rw [hn1] at h1 e1
        rw [hn2] at h2 e3
        rw [hn3] at h3 e2
        rw [hm1] at h1 i1 SZ
        rw [hm2] at h2 i3 BG
        rw [hm3] at h3 i2 DP
        rw [hn1, hn2, hn3]
        have H1 := Lib.hid h1
        have H2 := Lib.hid h2
        have H3 := Lib.hid h3
        have CL := Lib.hid (fun (W : World) (h : Below wr.heap.size wr W) => (show W.cell? ⟨X, 2, none⟩ = some (.slice (some ad) ks.length d) ∧ W.cell? p = some c0 ∧ W.cell? ⟨p.block, p.off + 1, none⟩ = some c1 ∧ W.cell? ⟨p.block, p.off + 2, none⟩ = some c2 from
          ⟨(h.cell (World.block_lt_of_cell? wr _ x2)).trans x2, (h.cell (World.block_lt_of_cell? wr _ q0)).trans q0, (h.cell (World.block_lt_of_cell? wr _ q1)).trans q1, (h.cell (World.block_lt_of_cell? wr _ q2)).trans q2⟩))
        clear hr hp h1 h2 h3 hn1 hn2 hn3 hm1 hm2 hm3 hv hb
        go_wp2_with fail
        refine (SZ.out wr (Below.refl _ _)).mono ?_
        rintro e w2 ⟨rfl, hb2⟩
        obtain ⟨x2', q0', q1', q2'⟩ := CL.out w2 hb2
        have HB2 := Lib.hid hb2
        clear x2 q0 q1 q2 hb2
        go_wp2_with fail
        refine (BG.out w2 HB2.out).mono ?_
        rintro e w3 ⟨rfl, hb3⟩
        have HB3 := Lib.hid (HB2.out.trans (hb3.mono HB2.out.size))
        obtain ⟨x2, q0, q1, q2⟩ := CL.out w3 HB3.out
        clear x2' q0' q1' q2' hb3
        go_wp2_with fail
        refine (DP.out w3 HB3.out).mono ?_
        rintro e w4 ⟨rfl, hb4⟩
        have HB4 := Lib.hid (HB3.out.trans (hb4.mono HB3.out.size))
        obtain ⟨x2', q0', q1', q2'⟩ := CL.out w4 HB4.out
        clear x2 q0 q1 q2 hb4
        by_cases hgt : n3 < m3
        · go_wp2_with fail
          refine (DP.out w4 HB4.out).mono ?_
          rintro e w5 ⟨rfl, hb5⟩
          have hb5' := HB4.out.trans (hb5.mono HB4.out.size)
          clear x2' q0' q1' q2' hb5
          go_wp2_with fail
          go_roundw
          case rel => exact ⟨k + 1, hlt, by go_num, by rw [H1.out]; go_num, by rw [H3.out, Nat.max_eq_right (by omega)], by rw [H2.out]; go_num, HV.out.keep hb5', HB.out.trans (hb5'.mono HB.out.size)⟩
          case measure => simp [intOf]; omega
        · have hb5' := HB4.out
          clear x2' q0' q1' q2'
          go_wp2_with fail
          go_roundw
          case rel => exact ⟨k + 1, hlt, by go_num, by rw [H1.out]; go_num, by rw [H3.out, Nat.max_eq_left (by omega)], by rw [H2.out]; go_num, HV.out.keep hb5', HB.out.trans (hb5'.mono HB.out.size)⟩
          case measure => simp [intOf]; omega
      · have he : k = ks.length := by omega
        subst he
        have h1 : 1 + ((ks.take ks.length).map Tr.size).sum = (Tr.node a ks : Ty).size := by rw [List.take_length, size_node]
        have h2 : Z + ((ks.take ks.length).map Tr.bags).sum = (Tr.node a ks : Ty).bags := by rw [List.take_length, bags_node, HZ.out]
        have h3 := deepTo_all a ks
        rw [h1, h2]
        have hts := HTS.out
        obtain ⟨_, hdl, _⟩ := HEQ.out ks.length (Nat.le_refl _)
        have SZ := Lib.hid (fun W (h : At (.node a ks) 4 L A n c ks.length d 0 W) => (show Calls _ _ _ _ (Counts (Tr.size (.node a ks)) W) from implSize_any _ W _ h.reads (by omega)))
        have DP := Lib.hid (fun W (h : At (.node a ks) 4 L A n c ks.length d 0 W) => (show Calls _ _ _ _ (Counts (Tr.deep (.node a ks)) W) from implDepth_any _ W _ h.reads (by omega)))
        have BG := Lib.hid (fun W (h : At (.node a ks) 4 L A n c ks.length d 0 W) => (show Calls _ _ _ _ (Counts (Tr.bags (.node a ks)) W) from implBags_any _ W _ h.reads (by omega)))
        have IV := Lib.hid (fun W (h : At (.node a ks) 4 L A n c ks.length d 0 W) => (show Calls _ _ _ _ (Truth (validB (.node a ks)) W) from implValid_any _ W _ h.reads (Nat.le_trans h.wb (by decide))))
        have SV := Lib.hid (fun W (h : At (.node a ks) 4 L A n c ks.length d 0 W) => (show Calls _ _ _ _ (Truth (validB (.node a ks)) W) from specValid_any _ W _ h.reads (Nat.le_trans h.wb (by decide))))
        have ID := Lib.hid (fun W (h : At (.node a ks) 4 L A n c ks.length d 0 W) => (show Calls _ _ _ _ (Truth (dataB (.node a ks)) W) from implData_any _ W _ h.reads (Nat.le_trans h.wb (by decide))))
        have SD := Lib.hid (fun W (h : At (.node a ks) 4 L A n c ks.length d 0 W) => (show Calls _ _ _ _ (Truth (dataB (.node a ks)) W) from specData_any _ W _ h.reads (Nat.le_trans h.wb (by decide))))
        rw [h3] at DP
        obtain ⟨D, hD⟩ : ∃ D, deepTo ks ks.length = D := ⟨_, rfl⟩
        rw [hD] at DP hdl ⊢
        obtain ⟨N1, hN1⟩ : ∃ N, (Tr.node a ks : Ty).size = N := ⟨_, rfl⟩
        rw [hN1] at SZ ⊢
        obtain ⟨N2, hN2⟩ : ∃ N, (Tr.node a ks : Ty).bags = N := ⟨_, rfl⟩
        rw [hN2] at BG ⊢
        obtain ⟨vb, hvb⟩ : ∃ b, validB (.node a ks) = b := ⟨_, rfl⟩
        rw [hvb] at IV SV
        obtain ⟨db, hdb⟩ : ∃ b, dataB (.node a ks) = b := ⟨_, rfl⟩
        rw [hdb] at ID SD
        have VT0 := Lib.hid (HV.out.keep (W' := wr.drew) (Below.refl _ _).drew)
        have HB0 := Lib.hid (HB.out.drew)
        have x0 := hv.box.c0
        have x1 := hv.box.c1
        clear hv hb h1 h2 h3 hts hD hN1 hN2 hvb hdb HV HB HEQ HIN HTS HZ HZ1 HQ HKL hlt hk hz1 hkl
        have hwr : IntKind.i64.wrap ((D : Int) + 1) = (D : Int) + 1 := by rw [IntKind.wrap_i64]; omega
        have DPI : Hid (∀ W, At (.node a ks) 4 L A n c ks.length d 0 W → Calls Try.prog 16 #[.agg #[.int .i64 4, .slice L n c, .slice A ks.length d]] W (Counts (IntKind.i64.wrap ((D : Int) + 1)) W)) := Lib.hid (fun W h => by have h2 := DP.out W h; rw [Int.natCast_add] at h2; rw [hwr]; exact h2)
        clear DP hwr
        go_wp2_with fail
        go_region_held3 (fun W => W.cell? ⟨X, 0, none⟩ = some (.int .i64 4) ∧ W.cell? ⟨X, 1, none⟩ = some (.slice L n c) ∧ W.cell? ⟨X, 2, none⟩ = some (.slice A ks.length d))
          (refine ⟨?_, ?_, ?_⟩ <;> assumption)
          (first
            | (go_at_call 14; refine (SZ.out _ VT0.out.val).mono ?_; rintro e a1 ⟨rfl, hb⟩; have VT1 := Lib.hid (VT0.out.keep hb); have HB1 := Lib.hid (HB0.out.trans (hb.mono HB0.out.size)); have y00 := VT1.out.box.c0; have y01 := VT1.out.box.c1; have y02 := VT1.out.box.c2; clear hb)
            | (go_at_call 16; refine (DPI.out _ VT1.out.val).mono ?_; rintro e a2 ⟨rfl, hb⟩; have VT2 := Lib.hid (VT1.out.keep hb); have HB2 := Lib.hid (HB1.out.trans (hb.mono HB1.out.size)); have y10 := VT2.out.box.c0; have y11 := VT2.out.box.c1; have y12 := VT2.out.box.c2; clear hb)
            | (go_at_call 15; refine (BG.out _ VT2.out.val).mono ?_; rintro e a3 ⟨rfl, hb⟩; have VT3 := Lib.hid (VT2.out.keep hb); have HB3 := Lib.hid (HB2.out.trans (hb.mono HB2.out.size)); have y20 := VT3.out.box.c0; have y21 := VT3.out.box.c1; have y22 := VT3.out.box.c2; clear hb)
            | (go_at_call 17; refine (IV.out _ VT3.out.val).mono ?_; rintro e a4 ⟨rfl, hb⟩; have VT4 := Lib.hid (VT3.out.keep hb); have HB4 := Lib.hid (HB3.out.trans (hb.mono HB3.out.size)); have y30 := VT4.out.box.c0; have y31 := VT4.out.box.c1; have y32 := VT4.out.box.c2; clear hb)
            | (go_at_call 18; refine (SV.out _ VT4.out.val).mono ?_; rintro e a5 ⟨rfl, hb⟩; have VT5 := Lib.hid (VT4.out.keep hb); have HB5 := Lib.hid (HB4.out.trans (hb.mono HB4.out.size)); have y40 := VT5.out.box.c0; have y41 := VT5.out.box.c1; have y42 := VT5.out.box.c2; clear hb)
            | (go_at_call 19; refine (ID.out _ VT5.out.val).mono ?_; rintro e a6 ⟨rfl, hb⟩; have VT6 := Lib.hid (VT5.out.keep hb); have HB6 := Lib.hid (HB5.out.trans (hb.mono HB5.out.size)); have y50 := VT6.out.box.c0; have y51 := VT6.out.box.c1; have y52 := VT6.out.box.c2; clear hb)
            | (go_at_call 20; refine (SD.out _ VT6.out.val).mono ?_; rintro e a7 ⟨rfl, hb⟩; have VT7 := Lib.hid (VT6.out.keep hb); have HB7 := Lib.hid (HB6.out.trans (hb.mono HB6.out.size)); have y60 := VT7.out.box.c0; have y61 := VT7.out.box.c1; have y62 := VT7.out.box.c2; clear hb))
        clear x0 x1 x2 y00 y01 y02 y10 y11 y12 y20 y21 y22 y30 y31 y32 y40 y41 y42 y50 y51 y52 y60 y61 y62 SZ DPI BG IV SV ID SD VT0 VT1 VT2 VT3 VT4 VT5 VT6 VT7 HB0 HB1 HB2 HB3 HB4 HB5 HB6
        have HB := Lib.hid HB7.out
        clear HB7 hdl
        go_wp2_with fail
        refine (drawRow_any A0 cap bs a7 (HC.out.below HB.out)).mono ?_
        rintro e b1 ⟨r, rq, rL, rA, rn, rc, rm, rd, fp, rfl, hot, hfp, hwt, hb⟩
        obtain ⟨R2, hW⟩ : ∃ W, b1.alloc (.cells #[.int .i64 rq, .slice rL rn rc, .slice rA rm rd] 27) = W := ⟨_, rfl⟩
        have hv := Var.new (B := 0) ⟨⟨fp, hot, fun _ _ => Nat.zero_le _⟩, hwt⟩ hW
        have hal : Below b1.heap.size b1 R2 := by rw [← hW]; exact (Below.refl _ _).alloc (Nat.le_refl _) _
        obtain ⟨XR, hXR⟩ : ∃ X, b1.heap.size = X := ⟨_, rfl⟩
        rw [hXR] at hv
        have hB := hb.trans (hal.mono hb.size)
        have HB := Lib.hid (HB.out.trans (hB.mono HB.out.size))
        have VR := Lib.hid hv
        have HW := Lib.hid hW
        clear hot hfp hb hW hv hal hB hwt
        go_wp2_with fail
        rw [HW.out]
        clear HW
        refine (drawField_any A0 cap bs R2 (HC.out.below HB.out)).mono ?_
        rintro e b2 ⟨x, xq, xL, xA, xn, xc, xm, xd, fp, s, rfl, hot, hfp, hwt, hsz, hb⟩
        obtain ⟨F2, hW⟩ : ∃ W, b2.alloc (.cells #[.int .i64 xq, .slice xL xn xc, .slice xA xm xd] 27) = W := ⟨_, rfl⟩
        have hv := Var.new (B := 0) ⟨⟨fp, hot, fun _ _ => Nat.zero_le _⟩, hwt⟩ hW
        have hal : Below b2.heap.size b2 F2 := by rw [← hW]; exact (Below.refl _ _).alloc (Nat.le_refl _) _
        obtain ⟨XX, hXX⟩ : ∃ X, b2.heap.size = X := ⟨_, rfl⟩
        rw [hXX] at hv
        have hB := hb.trans (hal.mono hb.size)
        have HB := Lib.hid (HB.out.trans (hB.mono HB.out.size))
        have VR := Lib.hid (VR.out.keep hB)
        have VX := Lib.hid hv
        have HW := Lib.hid hW
        clear hot hfp hb hW hv hal hB hwt
        obtain ⟨F, fb, hF⟩ : ∃ F fb, fieldT x s = (F, fb) := ⟨_, _, rfl⟩
        have hwF : wt F ≤ 1000 := by have := fieldT_wt x s; rw [hF] at this; exact Nat.le_trans this VX.out.val.wb
        obtain ⟨f0, hf0⟩ : ∃ f0, F.top.kind = f0 := ⟨_, rfl⟩
        obtain ⟨f1, hf1⟩ : ∃ f1, F.top.labels.length = f1 := ⟨_, rfl⟩
        obtain ⟨f2, hf2⟩ : ∃ f2, F.kids.length = f2 := ⟨_, rfl⟩
        have SPF : Hid (∀ W, At x xq xL xA xn xc xm xd 0 W → Calls Try.prog 24 #[.agg #[.int .i64 xq, .slice xL xn xc, .slice xA xm xd], .string s] W (Made2 F f0 f1 f2 fb W)) := Lib.hid (fun W h => by
          refine (specField_any x s W _ h.reads (Nat.le_trans h.wb (by decide))).mono ?_
          rintro e w' hm
          unfold MadeP at hm
          rw [hF] at hm
          simp only [hf0, hf1, hf2] at hm
          exact hm)
        have IMF : Hid (∀ W, At x xq xL xA xn xc xm xd 0 W → Calls Try.prog 23 #[.agg #[.int .i64 xq, .slice xL xn xc, .slice xA xm xd], .string s] W (Made2 F f0 f1 f2 fb W)) := Lib.hid (fun W h => by
          refine (implField_any x s W _ h.own.choose h.own.choose_spec.1 (Nat.le_trans h.wb (by decide))).mono ?_
          rintro e w' hm
          unfold MadeP at hm
          rw [hF] at hm
          simp only [hf0, hf1, hf2] at hm
          exact hm)
        clear hF hf0 hf1 hf2
        have HWF := Lib.hid hwF
        have z0 := VX.out.box.c0
        have z1 := VX.out.box.c1
        have z2 := VX.out.box.c2
        clear hwF hsz
        go_wp2_with fail
        rw [HW.out]
        clear HW
        try go_wp2_with fail
        refine (IMF.out F2 VX.out.val).mono ?_
        rintro e b3 ⟨fL, fA, fc, fd, fp, rfl, hot, hfp, hb⟩
        clear z0 z1 z2 IMF
        obtain ⟨G2, hW⟩ : ∃ W, b3.alloc (.cells #[.int .i64 f0, .slice fL f1 fc, .slice fA f2 fd] 27) = W := ⟨_, rfl⟩
        have hv := Var.new (B := 0) ⟨⟨fp, hot, fun _ _ => Nat.zero_le _⟩, HWF.out⟩ hW
        have hal : Below b3.heap.size b3 G2 := by rw [← hW]; exact (Below.refl _ _).alloc (Nat.le_refl _) _
        obtain ⟨XF, hXF⟩ : ∃ X, b3.heap.size = X := ⟨_, rfl⟩
        rw [hXF] at hv
        have hB := hb.trans (hal.mono hb.size)
        have HB := Lib.hid (HB.out.trans (hB.mono HB.out.size))
        have VR := Lib.hid (VR.out.keep hB)
        have VX := Lib.hid (VX.out.keep hB)
        have VF := Lib.hid hv
        have HW := Lib.hid hW
        clear hot hfp hb hW hv hal hB
        have z0 := VX.out.box.c0
        have z1 := VX.out.box.c1
        have z2 := VX.out.box.c2
        rw [← HW.out] at z0 z1 z2
        go_wp2_with fail
        rw [HW.out]
        clear HW
        try go_wp2_with fail
        refine (SPF.out G2 VX.out.val).mono ?_
        rintro e b4 ⟨gL, gA, gc, gd, fp, rfl, hot, hfp, hb⟩
        clear z0 z1 z2 SPF
        obtain ⟨H2, hW⟩ : ∃ W, b4.alloc (.cells #[.int .i64 f0, .slice gL f1 gc, .slice gA f2 gd] 27) = W := ⟨_, rfl⟩
        have hv := Var.new (B := 0) ⟨⟨fp, hot, fun _ _ => Nat.zero_le _⟩, HWF.out⟩ hW
        have hal : Below b4.heap.size b4 H2 := by rw [← hW]; exact (Below.refl _ _).alloc (Nat.le_refl _) _
        obtain ⟨XG, hXG⟩ : ∃ X, b4.heap.size = X := ⟨_, rfl⟩
        rw [hXG] at hv
        have hB := hb.trans (hal.mono hb.size)
        have HB := Lib.hid (HB.out.trans (hB.mono HB.out.size))
        have VR := Lib.hid (VR.out.keep hB)
        have VF := Lib.hid (VF.out.keep hB)
        have VG := Lib.hid hv
        have HW := Lib.hid hW
        clear hot hfp hb hW hv hal hB
        clear VX HWF
        go_wp2_with fail
        rw [HW.out]
        clear HW
        refine (drawEq_any A0 cap bs H2 (HC.out.below HB.out)).mono ?_
        rintro e b5 ⟨u, v, uq, vq, uL, uA, vL, vA, un, uc, um, ud, vn, vc, vm, vd, rfl, hu, hv, hb⟩
        obtain ⟨J2, hJ⟩ : ∃ W, (b5.alloc (.cells #[.int .i64 uq, .slice uL un uc, .slice uA um ud] 27)).alloc (.cells #[.int .i64 vq, .slice vL vn vc, .slice vA vm vd] 27) = W := ⟨_, rfl⟩
        obtain ⟨XU, hXU⟩ : ∃ X, b5.heap.size = X := ⟨_, rfl⟩
        have hal1 : Below b5.heap.size b5 (b5.alloc (.cells #[.int .i64 uq, .slice uL un uc, .slice uA um ud] 27)) := (Below.refl _ _).alloc (Nat.le_refl _) _
        have hal : Below b5.heap.size b5 J2 := by rw [← hJ]; exact hal1.alloc hal1.size _
        have hvu : Var XU u uq uL uA un uc um ud J2.drew := ⟨by rw [← hJ, ← hXU]; exact (Box3.new b5 _ _ _ _).alloc _, (hu.low (Nat.zero_le _)).under hal.drew⟩
        have hvv : Var (XU + 1) v vq vL vA vn vc vm vd J2.drew := ⟨by rw [← hJ, ← hXU]; have := Box3.new (b5.alloc (.cells #[.int .i64 uq, .slice uL un uc, .slice uA um ud] 27)) 27 (.int .i64 vq) (.slice vL vn vc) (.slice vA vm vd); simp only [World.size_alloc] at this; exact this, (hv.low (Nat.zero_le _)).under hal.drew⟩
        have hB := hb.trans (hal.drew.mono hb.size)
        have HB0 := Lib.hid (HB.out.trans (hB.mono HB.out.size))
        have VR0 := Lib.hid (VR.out.keep hB)
        have VF0 := Lib.hid (VF.out.keep hB)
        have VG0 := Lib.hid (VG.out.keep hB)
        have VU0 := Lib.hid hvu
        have VV0 := Lib.hid hvv
        have HJ := Lib.hid hJ
        clear hu hv hb hJ hal1 hal hvu hvv hB HB VR VF VG
        go_wp2_with fail
        rw [HJ.out]
        clear HJ
        have IR := Lib.hid (fun W (h : At r rq rL rA rn rc rm rd 0 W) => (show Calls _ _ _ _ (Truth (rowB r) W) from implRow_any _ W _ h.reads (Nat.le_trans h.wb (by decide))))
        have SR := Lib.hid (fun W (h : At r rq rL rA rn rc rm rd 0 W) => (show Calls _ _ _ _ (Truth (rowB r) W) from specRow_any _ W _ h.reads (Nat.le_trans h.wb (by decide))))
        have IDR := Lib.hid (fun W (h : At r rq rL rA rn rc rm rd 0 W) => (show Calls _ _ _ _ (Truth (dataB r) W) from implData_any _ W _ h.reads (Nat.le_trans h.wb (by decide))))
        have CB := Lib.hid (fun W (h : At r rq rL rA rn rc rm rd 0 W) => (show Calls _ _ _ _ (Counts r.bags W) from implBags_any _ W _ h.reads (by have := size_wt r; have := h.wb; omega)))
        have EFG : Hid (∀ W, At F f0 fL fA f1 fc f2 fd 0 W → At F f0 gL gA f1 gc f2 gd 0 W → Calls Try.prog 28 #[.agg #[.int .i64 f0, .slice fL f1 fc, .slice fA f2 fd], .agg #[.int .i64 f0, .slice gL f1 gc, .slice gA f2 gd]] W (Truth true W)) := Lib.hid (fun W h h' => by
          have h2 := implEq_any F F W _ _ h.reads h'.reads (by have := size_wt F; have := h.wb; omega) (by have := size_wt F; have := h.wb; omega)
          rw [same_yes rfl] at h2
          exact h2)
        have EUV := Lib.hid (fun W (h : At u uq uL uA un uc um ud 0 W) (h' : At v vq vL vA vn vc vm vd 0 W) => (show Calls _ _ _ _ (Truth (same u v) W) from implEq_any u v W _ _ h.reads h'.reads (by have := size_wt u; have := h.wb; omega) (by have := size_wt v; have := h'.wb; omega)))
        have SUV := Lib.hid (fun W (h : At u uq uL uA un uc um ud 0 W) (h' : At v vq vL vA vn vc vm vd 0 W) => (show Calls _ _ _ _ (Truth (same u v) W) from specEq_any u v W _ _ h.reads h'.reads))
        obtain ⟨sb, hsb⟩ : ∃ b, same u v = b := ⟨_, rfl⟩
        rw [hsb] at EUV SUV
        clear hsb
        have gVR0 := (show Var XR r rq rL rA rn rc rm rd J2.drew from VR0.out).box.c0
        have gVR1 := (show Var XR r rq rL rA rn rc rm rd J2.drew from VR0.out).box.c1
        have gVR2 := (show Var XR r rq rL rA rn rc rm rd J2.drew from VR0.out).box.c2
        have gVF0 := (show Var XF F f0 fL fA f1 fc f2 fd J2.drew from VF0.out).box.c0
        have gVF1 := (show Var XF F f0 fL fA f1 fc f2 fd J2.drew from VF0.out).box.c1
        have gVF2 := (show Var XF F f0 fL fA f1 fc f2 fd J2.drew from VF0.out).box.c2
        have gVG0 := (show Var XG F f0 gL gA f1 gc f2 gd J2.drew from VG0.out).box.c0
        have gVG1 := (show Var XG F f0 gL gA f1 gc f2 gd J2.drew from VG0.out).box.c1
        have gVG2 := (show Var XG F f0 gL gA f1 gc f2 gd J2.drew from VG0.out).box.c2
        have gVU0 := (show Var XU u uq uL uA un uc um ud J2.drew from VU0.out).box.c0
        have gVU1 := (show Var XU u uq uL uA un uc um ud J2.drew from VU0.out).box.c1
        have gVU2 := (show Var XU u uq uL uA un uc um ud J2.drew from VU0.out).box.c2
        have gVV0 := (show Var (XU + 1) v vq vL vA vn vc vm vd J2.drew from VV0.out).box.c0
        have gVV1 := (show Var (XU + 1) v vq vL vA vn vc vm vd J2.drew from VV0.out).box.c1
        have gVV2 := (show Var (XU + 1) v vq vL vA vn vc vm vd J2.drew from VV0.out).box.c2
        by_cases hrb : rowB r = true
        · obtain ⟨hb0, hd1⟩ := row_says hrb
          rw [hrb] at IR SR
          rw [hb0] at CB
          rw [hd1] at IDR
          clear hb0 hd1 hrb
          go_region_held3 (fun W => W.cell? ⟨XR, 0, none⟩ = some (.int .i64 rq) ∧ W.cell? ⟨XR, 1, none⟩ = some (.slice rL rn rc) ∧ W.cell? ⟨XR, 2, none⟩ = some (.slice rA rm rd) ∧ W.cell? ⟨XF, 0, none⟩ = some (.int .i64 f0) ∧ W.cell? ⟨XF, 1, none⟩ = some (.slice fL f1 fc) ∧ W.cell? ⟨XF, 2, none⟩ = some (.slice fA f2 fd) ∧ W.cell? ⟨XG, 0, none⟩ = some (.int .i64 f0) ∧ W.cell? ⟨XG, 1, none⟩ = some (.slice gL f1 gc) ∧ W.cell? ⟨XG, 2, none⟩ = some (.slice gA f2 gd) ∧ W.cell? ⟨XU, 0, none⟩ = some (.int .i64 uq) ∧ W.cell? ⟨XU, 1, none⟩ = some (.slice uL un uc) ∧ W.cell? ⟨XU, 2, none⟩ = some (.slice uA um ud) ∧ W.cell? ⟨XU + 1, 0, none⟩ = some (.int .i64 vq) ∧ W.cell? ⟨XU + 1, 1, none⟩ = some (.slice vL vn vc) ∧ W.cell? ⟨XU + 1, 2, none⟩ = some (.slice vA vm vd))
            (refine ⟨?_, ?_, ?_, ?_, ?_, ?_, ?_, ?_, ?_, ?_, ?_, ?_, ?_, ?_, ?_⟩ <;> assumption)
            (first
              | (go_at_call 19; refine (IDR.out _ VR7.out.val).mono ?_; rintro e c8 ⟨rfl, hb⟩; have HB8 := Lib.hid (HB7.out.trans (hb.mono HB7.out.size)); have VR8 := Lib.hid (VR7.out.keep hb); have VF8 := Lib.hid (VF7.out.keep hb); have VG8 := Lib.hid (VG7.out.keep hb); have VU8 := Lib.hid (VU7.out.keep hb); have VV8 := Lib.hid (VV7.out.keep hb); have k7VR0 := VR8.out.box.c0; have k7VR1 := VR8.out.box.c1; have k7VR2 := VR8.out.box.c2; have k7VF0 := VF8.out.box.c0; have k7VF1 := VF8.out.box.c1; have k7VF2 := VF8.out.box.c2; have k7VG0 := VG8.out.box.c0; have k7VG1 := VG8.out.box.c1; have k7VG2 := VG8.out.box.c2; have k7VU0 := VU8.out.box.c0; have k7VU1 := VU8.out.box.c1; have k7VU2 := VU8.out.box.c2; have k7VV0 := VV8.out.box.c0; have k7VV1 := VV8.out.box.c1; have k7VV2 := VV8.out.box.c2; clear hb)
              | (go_at_call 15; refine (CB.out _ VR6.out.val).mono ?_; rintro e c7 ⟨rfl, hb⟩; have HB7 := Lib.hid (HB6.out.trans (hb.mono HB6.out.size)); have VR7 := Lib.hid (VR6.out.keep hb); have VF7 := Lib.hid (VF6.out.keep hb); have VG7 := Lib.hid (VG6.out.keep hb); have VU7 := Lib.hid (VU6.out.keep hb); have VV7 := Lib.hid (VV6.out.keep hb); have k6VR0 := VR7.out.box.c0; have k6VR1 := VR7.out.box.c1; have k6VR2 := VR7.out.box.c2; have k6VF0 := VF7.out.box.c0; have k6VF1 := VF7.out.box.c1; have k6VF2 := VF7.out.box.c2; have k6VG0 := VG7.out.box.c0; have k6VG1 := VG7.out.box.c1; have k6VG2 := VG7.out.box.c2; have k6VU0 := VU7.out.box.c0; have k6VU1 := VU7.out.box.c1; have k6VU2 := VU7.out.box.c2; have k6VV0 := VV7.out.box.c0; have k6VV1 := VV7.out.box.c1; have k6VV2 := VV7.out.box.c2; clear hb)
              | (go_at_call 26; refine (IR.out _ VR5.out.val).mono ?_; rintro e c6 ⟨rfl, hb⟩; have HB6 := Lib.hid (HB5.out.trans (hb.mono HB5.out.size)); have VR6 := Lib.hid (VR5.out.keep hb); have VF6 := Lib.hid (VF5.out.keep hb); have VG6 := Lib.hid (VG5.out.keep hb); have VU6 := Lib.hid (VU5.out.keep hb); have VV6 := Lib.hid (VV5.out.keep hb); have k5VR0 := VR6.out.box.c0; have k5VR1 := VR6.out.box.c1; have k5VR2 := VR6.out.box.c2; have k5VF0 := VF6.out.box.c0; have k5VF1 := VF6.out.box.c1; have k5VF2 := VF6.out.box.c2; have k5VG0 := VG6.out.box.c0; have k5VG1 := VG6.out.box.c1; have k5VG2 := VG6.out.box.c2; have k5VU0 := VU6.out.box.c0; have k5VU1 := VU6.out.box.c1; have k5VU2 := VU6.out.box.c2; have k5VV0 := VV6.out.box.c0; have k5VV1 := VV6.out.box.c1; have k5VV2 := VV6.out.box.c2; clear hb)
              | (go_at_call 29; refine (SUV.out _ VU4.out.val VV4.out.val).mono ?_; rintro e c5 ⟨rfl, hb⟩; have HB5 := Lib.hid (HB4.out.trans (hb.mono HB4.out.size)); have VR5 := Lib.hid (VR4.out.keep hb); have VF5 := Lib.hid (VF4.out.keep hb); have VG5 := Lib.hid (VG4.out.keep hb); have VU5 := Lib.hid (VU4.out.keep hb); have VV5 := Lib.hid (VV4.out.keep hb); have k4VR0 := VR5.out.box.c0; have k4VR1 := VR5.out.box.c1; have k4VR2 := VR5.out.box.c2; have k4VF0 := VF5.out.box.c0; have k4VF1 := VF5.out.box.c1; have k4VF2 := VF5.out.box.c2; have k4VG0 := VG5.out.box.c0; have k4VG1 := VG5.out.box.c1; have k4VG2 := VG5.out.box.c2; have k4VU0 := VU5.out.box.c0; have k4VU1 := VU5.out.box.c1; have k4VU2 := VU5.out.box.c2; have k4VV0 := VV5.out.box.c0; have k4VV1 := VV5.out.box.c1; have k4VV2 := VV5.out.box.c2; clear hb)
              | (go_at_call 28; refine (EUV.out _ VU3.out.val VV3.out.val).mono ?_; rintro e c4 ⟨rfl, hb⟩; have HB4 := Lib.hid (HB3.out.trans (hb.mono HB3.out.size)); have VR4 := Lib.hid (VR3.out.keep hb); have VF4 := Lib.hid (VF3.out.keep hb); have VG4 := Lib.hid (VG3.out.keep hb); have VU4 := Lib.hid (VU3.out.keep hb); have VV4 := Lib.hid (VV3.out.keep hb); have k3VR0 := VR4.out.box.c0; have k3VR1 := VR4.out.box.c1; have k3VR2 := VR4.out.box.c2; have k3VF0 := VF4.out.box.c0; have k3VF1 := VF4.out.box.c1; have k3VF2 := VF4.out.box.c2; have k3VG0 := VG4.out.box.c0; have k3VG1 := VG4.out.box.c1; have k3VG2 := VG4.out.box.c2; have k3VU0 := VU4.out.box.c0; have k3VU1 := VU4.out.box.c1; have k3VU2 := VU4.out.box.c2; have k3VV0 := VV4.out.box.c0; have k3VV1 := VV4.out.box.c1; have k3VV2 := VV4.out.box.c2; clear hb)
              | (go_at_call 28; refine (EFG.out _ VF2.out.val VG2.out.val).mono ?_; rintro e c3 ⟨rfl, hb⟩; have HB3 := Lib.hid (HB2.out.trans (hb.mono HB2.out.size)); have VR3 := Lib.hid (VR2.out.keep hb); have VF3 := Lib.hid (VF2.out.keep hb); have VG3 := Lib.hid (VG2.out.keep hb); have VU3 := Lib.hid (VU2.out.keep hb); have VV3 := Lib.hid (VV2.out.keep hb); have k2VR0 := VR3.out.box.c0; have k2VR1 := VR3.out.box.c1; have k2VR2 := VR3.out.box.c2; have k2VF0 := VF3.out.box.c0; have k2VF1 := VF3.out.box.c1; have k2VF2 := VF3.out.box.c2; have k2VG0 := VG3.out.box.c0; have k2VG1 := VG3.out.box.c1; have k2VG2 := VG3.out.box.c2; have k2VU0 := VU3.out.box.c0; have k2VU1 := VU3.out.box.c1; have k2VU2 := VU3.out.box.c2; have k2VV0 := VV3.out.box.c0; have k2VV1 := VV3.out.box.c1; have k2VV2 := VV3.out.box.c2; clear hb)
              | (go_at_call 27; refine (SR.out _ VR1.out.val).mono ?_; rintro e c2 ⟨rfl, hb⟩; have HB2 := Lib.hid (HB1.out.trans (hb.mono HB1.out.size)); have VR2 := Lib.hid (VR1.out.keep hb); have VF2 := Lib.hid (VF1.out.keep hb); have VG2 := Lib.hid (VG1.out.keep hb); have VU2 := Lib.hid (VU1.out.keep hb); have VV2 := Lib.hid (VV1.out.keep hb); have k1VR0 := VR2.out.box.c0; have k1VR1 := VR2.out.box.c1; have k1VR2 := VR2.out.box.c2; have k1VF0 := VF2.out.box.c0; have k1VF1 := VF2.out.box.c1; have k1VF2 := VF2.out.box.c2; have k1VG0 := VG2.out.box.c0; have k1VG1 := VG2.out.box.c1; have k1VG2 := VG2.out.box.c2; have k1VU0 := VU2.out.box.c0; have k1VU1 := VU2.out.box.c1; have k1VU2 := VU2.out.box.c2; have k1VV0 := VV2.out.box.c0; have k1VV1 := VV2.out.box.c1; have k1VV2 := VV2.out.box.c2; clear hb)
              | (go_at_call 26; refine (IR.out _ VR0.out.val).mono ?_; rintro e c1 ⟨rfl, hb⟩; have HB1 := Lib.hid (HB0.out.trans (hb.mono HB0.out.size)); have VR1 := Lib.hid (VR0.out.keep hb); have VF1 := Lib.hid (VF0.out.keep hb); have VG1 := Lib.hid (VG0.out.keep hb); have VU1 := Lib.hid (VU0.out.keep hb); have VV1 := Lib.hid (VV0.out.keep hb); have k0VR0 := VR1.out.box.c0; have k0VR1 := VR1.out.box.c1; have k0VR2 := VR1.out.box.c2; have k0VF0 := VF1.out.box.c0; have k0VF1 := VF1.out.box.c1; have k0VF2 := VF1.out.box.c2; have k0VG0 := VG1.out.box.c0; have k0VG1 := VG1.out.box.c1; have k0VG2 := VG1.out.box.c2; have k0VU0 := VU1.out.box.c0; have k0VU1 := VU1.out.box.c1; have k0VU2 := VU1.out.box.c2; have k0VV0 := VV1.out.box.c0; have k0VV1 := VV1.out.box.c1; have k0VV2 := VV1.out.box.c2; clear hb))
          have HY : Hid (LawYes w (.returned (.bool true)) c8) := ⟨rfl, HB8.out⟩
          clear k0VR0 k0VR1 k0VR2 k0VF0 k0VF1 k0VF2 k0VG0 k0VG1 k0VG2 k0VU0 k0VU1 k0VU2 k0VV0 k0VV1 k0VV2 k1VR0 k1VR1 k1VR2 k1VF0 k1VF1 k1VF2 k1VG0 k1VG1 k1VG2 k1VU0 k1VU1 k1VU2 k1VV0 k1VV1 k1VV2 k2VR0 k2VR1 k2VR2 k2VF0 k2VF1 k2VF2 k2VG0 k2VG1 k2VG2 k2VU0 k2VU1 k2VU2 k2VV0 k2VV1 k2VV2 k3VR0 k3VR1 k3VR2 k3VF0 k3VF1 k3VF2 k3VG0 k3VG1 k3VG2 k3VU0 k3VU1 k3VU2 k3VV0 k3VV1 k3VV2 k4VR0 k4VR1 k4VR2 k4VF0 k4VF1 k4VF2 k4VG0 k4VG1 k4VG2 k4VU0 k4VU1 k4VU2 k4VV0 k4VV1 k4VV2 k5VR0 k5VR1 k5VR2 k5VF0 k5VF1 k5VF2 k5VG0 k5VG1 k5VG2 k5VU0 k5VU1 k5VU2 k5VV0 k5VV1 k5VV2 k6VR0 k6VR1 k6VR2 k6VF0 k6VF1 k6VF2 k6VG0 k6VG1 k6VG2 k6VU0 k6VU1 k6VU2 k6VV0 k6VV1 k6VV2 k7VR0 k7VR1 k7VR2 k7VF0 k7VF1 k7VF2 k7VG0 k7VG1 k7VG2 k7VU0 k7VU1 k7VU2 k7VV0 k7VV1 k7VV2 gVR0 gVR1 gVR2 gVF0 gVF1 gVF2 gVG0 gVG1 gVG2 gVU0 gVU1 gVU2 gVV0 gVV1 gVV2
          go_wp2_with fail
          go_ret
          exact HY.out
        · have hrf : rowB r = false := by simpa using hrb
          rw [hrf] at IR SR
          clear hrb hrf CB IDR
          refine wp_region_noPanic ?_
          refine wp_region_held_drew (S := (fun W => W.cell? ⟨XR, 0, none⟩ = some (.int .i64 rq) ∧ W.cell? ⟨XR, 1, none⟩ = some (.slice rL rn rc) ∧ W.cell? ⟨XR, 2, none⟩ = some (.slice rA rm rd) ∧ W.cell? ⟨XF, 0, none⟩ = some (.int .i64 f0) ∧ W.cell? ⟨XF, 1, none⟩ = some (.slice fL f1 fc) ∧ W.cell? ⟨XF, 2, none⟩ = some (.slice fA f2 fd) ∧ W.cell? ⟨XG, 0, none⟩ = some (.int .i64 f0) ∧ W.cell? ⟨XG, 1, none⟩ = some (.slice gL f1 gc) ∧ W.cell? ⟨XG, 2, none⟩ = some (.slice gA f2 gd) ∧ W.cell? ⟨XU, 0, none⟩ = some (.int .i64 uq) ∧ W.cell? ⟨XU, 1, none⟩ = some (.slice uL un uc) ∧ W.cell? ⟨XU, 2, none⟩ = some (.slice uA um ud) ∧ W.cell? ⟨XU + 1, 0, none⟩ = some (.int .i64 vq) ∧ W.cell? ⟨XU + 1, 1, none⟩ = some (.slice vL vn vc) ∧ W.cell? ⟨XU + 1, 2, none⟩ = some (.slice vA vm vd))) (by kernel_rfl) ?_ (fun hHeld => ?_)
          · (try dsimp only); (refine ⟨?_, ?_, ?_, ?_, ?_, ?_, ?_, ?_, ?_, ?_, ?_, ?_, ?_, ?_, ?_⟩ <;> assumption)
          refine wpAnyH_take (i := 0) (oi := { dst := some 116, op := Op.load 27 (Operand.tmp 8), type := 27, pos := "laws.go:239", after := #[], guard := none }) (v := ?v0a) rfl (by kernel_rfl) (by kernel_rfl) (by kernel_rfl) (fun _ _ _ h => h) (Or.inl ⟨by rfl, ?y0a⟩) (by assumption) ?r0a
          case y0a => (intro w' hSw; (try dsimp only at hSw); go_simp; all_goals with_reducible rfl)
          try simp only [Act.put, List.setIfInBounds_toArray, List.set_cons_zero, List.set_cons_succ]
          refine wpAnyH_take (i := 2) (oi := { dst := some 118, op := Op.load 27 (Operand.tmp 8), type := 27, pos := "laws.go:239", after := #[], guard := none }) (v := ?v2a) rfl (by kernel_rfl) (by kernel_rfl) (by kernel_rfl) (fun _ _ _ h => h) (Or.inl ⟨by rfl, ?y2a⟩) (by assumption) ?r2a
          case y2a => (intro w' hSw; (try dsimp only at hSw); go_simp; all_goals with_reducible rfl)
          try simp only [Act.put, List.setIfInBounds_toArray, List.set_cons_zero, List.set_cons_succ]
          refine wpAnyH_ready (rs := [1]) (by kernel_rfl) (by simp) ?_
          refine AllReadyH.cons (o := { dst := some 117, op := Op.call { callee := Callee.value (Operand.func 26), args := #[Operand.tmp 116], argTypes := #[27] }, type := 4, pos := "laws.go:239", after := #[{ on := 0, ground := Ground.data }], guard := none }) rfl (fun K hK => ?_) AllReadyH.nil
          clear hHeld
          go_simp
          go_at_call 26
          refine (IR.out _ VR0.out.val).mono ?_
          rintro e c1 ⟨rfl, hb⟩
          have HB1 := Lib.hid (HB0.out.trans (hb.mono HB0.out.size))
          have VR1 := Lib.hid (VR0.out.keep hb)
          have VF1 := Lib.hid (VF0.out.keep hb)
          have VG1 := Lib.hid (VG0.out.keep hb)
          have VU1 := Lib.hid (VU0.out.keep hb)
          have VV1 := Lib.hid (VV0.out.keep hb)
          have k0VR0 := VR1.out.box.c0
          have k0VR1 := VR1.out.box.c1
          have k0VR2 := VR1.out.box.c2
          have k0VF0 := VF1.out.box.c0
          have k0VF1 := VF1.out.box.c1
          have k0VF2 := VF1.out.box.c2
          have k0VG0 := VG1.out.box.c0
          have k0VG1 := VG1.out.box.c1
          have k0VG2 := VG1.out.box.c2
          have k0VU0 := VU1.out.box.c0
          have k0VU1 := VU1.out.box.c1
          have k0VU2 := VU1.out.box.c2
          have k0VV0 := VV1.out.box.c0
          have k0VV1 := VV1.out.box.c1
          have k0VV2 := VV1.out.box.c2
          clear hb
          go_wp2_with fail
          refine hK.out _ _ ?_ (fun hHeld => ?_)
          · (try dsimp only); (refine ⟨?_, ?_, ?_, ?_, ?_, ?_, ?_, ?_, ?_, ?_, ?_, ?_, ?_, ?_, ?_⟩ <;> assumption)
          clear hK K
          try simp only [Act.put, List.setIfInBounds_toArray, List.set_cons_zero, List.set_cons_succ]
          refine wpAnyH_ready (rs := [3]) (by kernel_rfl) (by simp) ?_
          refine AllReadyH.cons (o := { dst := some 119, op := Op.call { callee := Callee.value (Operand.func 27), args := #[Operand.tmp 118], argTypes := #[27] }, type := 4, pos := "laws.go:239", after := #[{ on := 2, ground := Ground.data }, { on := 1, ground := Ground.chain }], guard := none }) rfl (fun K hK => ?_) AllReadyH.nil
          clear hHeld
          go_simp
          go_at_call 27
          refine (SR.out _ VR1.out.val).mono ?_
          rintro e c2 ⟨rfl, hb⟩
          have HB2 := Lib.hid (HB1.out.trans (hb.mono HB1.out.size))
          have VR2 := Lib.hid (VR1.out.keep hb)
          have VF2 := Lib.hid (VF1.out.keep hb)
          have VG2 := Lib.hid (VG1.out.keep hb)
          have VU2 := Lib.hid (VU1.out.keep hb)
          have VV2 := Lib.hid (VV1.out.keep hb)
          have k1VR0 := VR2.out.box.c0
          have k1VR1 := VR2.out.box.c1
          have k1VR2 := VR2.out.box.c2
          have k1VF0 := VF2.out.box.c0
          have k1VF1 := VF2.out.box.c1
          have k1VF2 := VF2.out.box.c2
          have k1VG0 := VG2.out.box.c0
          have k1VG1 := VG2.out.box.c1
          have k1VG2 := VG2.out.box.c2
          have k1VU0 := VU2.out.box.c0
          have k1VU1 := VU2.out.box.c1
          have k1VU2 := VU2.out.box.c2
          have k1VV0 := VV2.out.box.c0
          have k1VV1 := VV2.out.box.c1
          have k1VV2 := VV2.out.box.c2
          clear hb
          go_wp2_with fail
          refine hK.out _ _ ?_ (fun hHeld => ?_)
          · (try dsimp only); (refine ⟨?_, ?_, ?_, ?_, ?_, ?_, ?_, ?_, ?_, ?_, ?_, ?_, ?_, ?_, ?_⟩ <;> assumption)
          clear hK K
          try simp only [Act.put, List.setIfInBounds_toArray, List.set_cons_zero, List.set_cons_succ]
          refine wpAnyH_take (i := 4) (oi := { dst := some 120, op := Op.binOp BinOp.eql 4 (Operand.tmp 117) (Operand.tmp 119) 4, type := 4, pos := "laws.go:239", after := #[{ on := 1, ground := Ground.data }, { on := 3, ground := Ground.data }], guard := none }) (v := ?v4a) rfl (by kernel_rfl) (by kernel_rfl) (by kernel_rfl) (fun _ _ _ h => h) (Or.inl ⟨by rfl, ?y4a⟩) (by assumption) ?r4a
          case y4a => (intro w' hSw; (try dsimp only at hSw); go_simp; all_goals with_reducible rfl)
          try simp only [Act.put, List.setIfInBounds_toArray, List.set_cons_zero, List.set_cons_succ]
          refine wpAnyH_take (i := 5) (oi := { dst := some 121, op := Op.move (Operand.tmp 120), type := 4, pos := "laws.go:239", after := #[{ on := 4, ground := Ground.data }, { on := 3, ground := Ground.chain }], guard := none }) (v := ?v5a) rfl (by kernel_rfl) (by kernel_rfl) (by kernel_rfl) (fun _ _ _ h => h) (Or.inl ⟨by rfl, ?y5a⟩) (by assumption) ?r5a
          case y5a => (intro w' hSw; (try dsimp only at hSw); go_simp; all_goals with_reducible rfl)
          try simp only [Act.put, List.setIfInBounds_toArray, List.set_cons_zero, List.set_cons_succ]
          refine wpAnyH_take (i := 6) (oi := { dst := some 122, op := Op.move (Operand.tmp 12), type := 4, pos := "laws.go:239", after := #[{ on := 5, ground := Ground.guard }], guard := some (5, true) }) (v := ?v6a) rfl (by kernel_rfl) (by kernel_rfl) (by kernel_rfl) (fun _ _ _ h => h) (Or.inl ⟨by rfl, ?y6a⟩) (by assumption) ?r6a
          case y6a => (intro w' hSw; (try dsimp only at hSw); go_simp; all_goals with_reducible rfl)
          try simp only [Act.put, List.setIfInBounds_toArray, List.set_cons_zero, List.set_cons_succ]
          refine wpAnyH_take (i := 7) (oi := { dst := some 123, op := Op.move (Operand.tmp 14), type := 4, pos := "laws.go:239", after := #[{ on := 5, ground := Ground.guard }], guard := some (5, true) }) (v := ?v7a) rfl (by kernel_rfl) (by kernel_rfl) (by kernel_rfl) (fun _ _ _ h => h) (Or.inl ⟨by rfl, ?y7a⟩) (by assumption) ?r7a
          case y7a => (intro w' hSw; (try dsimp only at hSw); go_simp; all_goals with_reducible rfl)
          try simp only [Act.put, List.setIfInBounds_toArray, List.set_cons_zero, List.set_cons_succ]
          refine wpAnyH_take (i := 8) (oi := { dst := some 124, op := Op.binOp BinOp.eql 4 (Operand.tmp 122) (Operand.tmp 123) 4, type := 4, pos := "laws.go:239", after := #[{ on := 6, ground := Ground.data }, { on := 7, ground := Ground.data }, { on := 5, ground := Ground.guard }], guard := some (5, true) }) (v := ?v8a) rfl (by kernel_rfl) (by kernel_rfl) (by kernel_rfl) (fun _ _ _ h => h) (Or.inl ⟨by rfl, ?y8a⟩) (by assumption) ?r8a
          case y8a => (intro w' hSw; (try dsimp only at hSw); go_simp; all_goals with_reducible rfl)
          try simp only [Act.put, List.setIfInBounds_toArray, List.set_cons_zero, List.set_cons_succ]
          refine wpAnyH_take (i := 9) (oi := { dst := some 125, op := Op.pick (Operand.tmp 121) (Operand.tmp 124) (Operand.const (Value.bool false)), type := 4, pos := "laws.go:239", after := #[{ on := 5, ground := Ground.data }, { on := 8, ground := Ground.data }], guard := none }) (v := ?v9a) rfl (by kernel_rfl) (by kernel_rfl) (by kernel_rfl) (fun _ _ _ h => h) (Or.inl ⟨by rfl, ?y9a⟩) (by assumption) ?r9a
          case y9a => (intro w' hSw; (try dsimp only at hSw); go_simp; all_goals with_reducible rfl)
          try simp only [Act.put, List.setIfInBounds_toArray, List.set_cons_zero, List.set_cons_succ]
          refine wpAnyH_take (i := 10) (oi := { dst := some 126, op := Op.move (Operand.tmp 125), type := 4, pos := "laws.go:239", after := #[{ on := 9, ground := Ground.data }, { on := 5, ground := Ground.chain }], guard := none }) (v := ?v10a) rfl (by kernel_rfl) (by kernel_rfl) (by kernel_rfl) (fun _ _ _ h => h) (Or.inl ⟨by rfl, ?y10a⟩) (by assumption) ?r10a
          case y10a => (intro w' hSw; (try dsimp only at hSw); go_simp; all_goals with_reducible rfl)
          try simp only [Act.put, List.setIfInBounds_toArray, List.set_cons_zero, List.set_cons_succ]
          refine wpAnyH_take (i := 11) (oi := { dst := some 127, op := Op.load 27 (Operand.tmp 11), type := 27, pos := "laws.go:239", after := #[{ on := 10, ground := Ground.guard }], guard := some (10, true) }) (v := ?v11a) rfl (by kernel_rfl) (by kernel_rfl) (by kernel_rfl) (fun _ _ _ h => h) (Or.inl ⟨by rfl, ?y11a⟩) (by assumption) ?r11a
          case y11a => (intro w' hSw; (try dsimp only at hSw); go_simp; all_goals with_reducible rfl)
          try simp only [Act.put, List.setIfInBounds_toArray, List.set_cons_zero, List.set_cons_succ]
          refine wpAnyH_take (i := 12) (oi := { dst := some 128, op := Op.load 27 (Operand.tmp 13), type := 27, pos := "laws.go:239", after := #[{ on := 10, ground := Ground.guard }], guard := some (10, true) }) (v := ?v12a) rfl (by kernel_rfl) (by kernel_rfl) (by kernel_rfl) (fun _ _ _ h => h) (Or.inl ⟨by rfl, ?y12a⟩) (by assumption) ?r12a
          case y12a => (intro w' hSw; (try dsimp only at hSw); go_simp; all_goals with_reducible rfl)
          try simp only [Act.put, List.setIfInBounds_toArray, List.set_cons_zero, List.set_cons_succ]
          refine wpAnyH_ready (rs := [13]) (by kernel_rfl) (by simp) ?_
          refine AllReadyH.cons (o := { dst := some 129, op := Op.call { callee := Callee.value (Operand.func 28), args := #[Operand.tmp 127, Operand.tmp 128], argTypes := #[27, 27] }, type := 4, pos := "laws.go:239", after := #[{ on := 11, ground := Ground.data }, { on := 12, ground := Ground.data }, { on := 10, ground := Ground.chain }, { on := 10, ground := Ground.guard }], guard := some (10, true) }) rfl (fun K hK => ?_) AllReadyH.nil
          clear hHeld
          go_simp
          go_at_call 28
          refine (EFG.out _ VF2.out.val VG2.out.val).mono ?_
          rintro e c3 ⟨rfl, hb⟩
          have HB3 := Lib.hid (HB2.out.trans (hb.mono HB2.out.size))
          have VR3 := Lib.hid (VR2.out.keep hb)
          have VF3 := Lib.hid (VF2.out.keep hb)
          have VG3 := Lib.hid (VG2.out.keep hb)
          have VU3 := Lib.hid (VU2.out.keep hb)
          have VV3 := Lib.hid (VV2.out.keep hb)
          have k2VR0 := VR3.out.box.c0
          have k2VR1 := VR3.out.box.c1
          have k2VR2 := VR3.out.box.c2
          have k2VF0 := VF3.out.box.c0
          have k2VF1 := VF3.out.box.c1
          have k2VF2 := VF3.out.box.c2
          have k2VG0 := VG3.out.box.c0
          have k2VG1 := VG3.out.box.c1
          have k2VG2 := VG3.out.box.c2
          have k2VU0 := VU3.out.box.c0
          have k2VU1 := VU3.out.box.c1
          have k2VU2 := VU3.out.box.c2
          have k2VV0 := VV3.out.box.c0
          have k2VV1 := VV3.out.box.c1
          have k2VV2 := VV3.out.box.c2
          clear hb
          go_wp2_with fail
          refine hK.out _ _ ?_ (fun hHeld => ?_)
          · (try dsimp only); (refine ⟨?_, ?_, ?_, ?_, ?_, ?_, ?_, ?_, ?_, ?_, ?_, ?_, ?_, ?_, ?_⟩ <;> assumption)
          clear hK K
          try simp only [Act.put, List.setIfInBounds_toArray, List.set_cons_zero, List.set_cons_succ]
          refine wpAnyH_take (i := 14) (oi := { dst := some 130, op := Op.pick (Operand.tmp 126) (Operand.tmp 129) (Operand.const (Value.bool false)), type := 4, pos := "laws.go:239", after := #[{ on := 10, ground := Ground.data }, { on := 13, ground := Ground.data }], guard := none }) (v := ?v14a) rfl (by kernel_rfl) (by kernel_rfl) (by kernel_rfl) (fun _ _ _ h => h) (Or.inl ⟨by rfl, ?y14a⟩) (by assumption) ?r14a
          case y14a => (intro w' hSw; (try dsimp only at hSw); go_simp; all_goals with_reducible rfl)
          try simp only [Act.put, List.setIfInBounds_toArray, List.set_cons_zero, List.set_cons_succ]
          refine wpAnyH_take (i := 15) (oi := { dst := some 131, op := Op.move (Operand.tmp 130), type := 4, pos := "laws.go:239", after := #[{ on := 14, ground := Ground.data }, { on := 13, ground := Ground.chain }], guard := none }) (v := ?v15a) rfl (by kernel_rfl) (by kernel_rfl) (by kernel_rfl) (fun _ _ _ h => h) (Or.inl ⟨by rfl, ?y15a⟩) (by assumption) ?r15a
          case y15a => (intro w' hSw; (try dsimp only at hSw); go_simp; all_goals with_reducible rfl)
          try simp only [Act.put, List.setIfInBounds_toArray, List.set_cons_zero, List.set_cons_succ]
          refine wpAnyH_take (i := 16) (oi := { dst := some 132, op := Op.load 27 (Operand.tmp 15), type := 27, pos := "laws.go:239", after := #[{ on := 15, ground := Ground.guard }], guard := some (15, true) }) (v := ?v16a) rfl (by kernel_rfl) (by kernel_rfl) (by kernel_rfl) (fun _ _ _ h => h) (Or.inl ⟨by rfl, ?y16a⟩) (by assumption) ?r16a
          case y16a => (intro w' hSw; (try dsimp only at hSw); go_simp; all_goals with_reducible rfl)
          try simp only [Act.put, List.setIfInBounds_toArray, List.set_cons_zero, List.set_cons_succ]
          refine wpAnyH_take (i := 17) (oi := { dst := some 133, op := Op.load 27 (Operand.tmp 16), type := 27, pos := "laws.go:239", after := #[{ on := 15, ground := Ground.guard }], guard := some (15, true) }) (v := ?v17a) rfl (by kernel_rfl) (by kernel_rfl) (by kernel_rfl) (fun _ _ _ h => h) (Or.inl ⟨by rfl, ?y17a⟩) (by assumption) ?r17a
          case y17a => (intro w' hSw; (try dsimp only at hSw); go_simp; all_goals with_reducible rfl)
          try simp only [Act.put, List.setIfInBounds_toArray, List.set_cons_zero, List.set_cons_succ]
          refine wpAnyH_take (i := 19) (oi := { dst := some 135, op := Op.load 27 (Operand.tmp 15), type := 27, pos := "laws.go:239", after := #[{ on := 15, ground := Ground.guard }], guard := some (15, true) }) (v := ?v19a) rfl (by kernel_rfl) (by kernel_rfl) (by kernel_rfl) (fun _ _ _ h => h) (Or.inl ⟨by rfl, ?y19a⟩) (by assumption) ?r19a
          case y19a => (intro w' hSw; (try dsimp only at hSw); go_simp; all_goals with_reducible rfl)
          try simp only [Act.put, List.setIfInBounds_toArray, List.set_cons_zero, List.set_cons_succ]
          refine wpAnyH_take (i := 20) (oi := { dst := some 136, op := Op.load 27 (Operand.tmp 16), type := 27, pos := "laws.go:239", after := #[{ on := 15, ground := Ground.guard }], guard := some (15, true) }) (v := ?v20a) rfl (by kernel_rfl) (by kernel_rfl) (by kernel_rfl) (fun _ _ _ h => h) (Or.inl ⟨by rfl, ?y20a⟩) (by assumption) ?r20a
          case y20a => (intro w' hSw; (try dsimp only at hSw); go_simp; all_goals with_reducible rfl)
          try simp only [Act.put, List.setIfInBounds_toArray, List.set_cons_zero, List.set_cons_succ]
          refine wpAnyH_ready (rs := [18]) (by kernel_rfl) (by simp) ?_
          refine AllReadyH.cons (o := { dst := some 134, op := Op.call { callee := Callee.value (Operand.func 28), args := #[Operand.tmp 132, Operand.tmp 133], argTypes := #[27, 27] }, type := 4, pos := "laws.go:239", after := #[{ on := 16, ground := Ground.data }, { on := 17, ground := Ground.data }, { on := 15, ground := Ground.chain }, { on := 15, ground := Ground.guard }], guard := some (15, true) }) rfl (fun K hK => ?_) AllReadyH.nil
          clear hHeld
          go_simp
          go_at_call 28
          refine (EUV.out _ VU3.out.val VV3.out.val).mono ?_
          rintro e c4 ⟨rfl, hb⟩
          have HB4 := Lib.hid (HB3.out.trans (hb.mono HB3.out.size))
          have VR4 := Lib.hid (VR3.out.keep hb)
          have VF4 := Lib.hid (VF3.out.keep hb)
          have VG4 := Lib.hid (VG3.out.keep hb)
          have VU4 := Lib.hid (VU3.out.keep hb)
          have VV4 := Lib.hid (VV3.out.keep hb)
          have k3VR0 := VR4.out.box.c0
          have k3VR1 := VR4.out.box.c1
          have k3VR2 := VR4.out.box.c2
          have k3VF0 := VF4.out.box.c0
          have k3VF1 := VF4.out.box.c1
          have k3VF2 := VF4.out.box.c2
          have k3VG0 := VG4.out.box.c0
          have k3VG1 := VG4.out.box.c1
          have k3VG2 := VG4.out.box.c2
          have k3VU0 := VU4.out.box.c0
          have k3VU1 := VU4.out.box.c1
          have k3VU2 := VU4.out.box.c2
          have k3VV0 := VV4.out.box.c0
          have k3VV1 := VV4.out.box.c1
          have k3VV2 := VV4.out.box.c2
          clear hb
          go_wp2_with fail
          refine hK.out _ _ ?_ (fun hHeld => ?_)
          · (try dsimp only); (refine ⟨?_, ?_, ?_, ?_, ?_, ?_, ?_, ?_, ?_, ?_, ?_, ?_, ?_, ?_, ?_⟩ <;> assumption)
          clear hK K
          try simp only [Act.put, List.setIfInBounds_toArray, List.set_cons_zero, List.set_cons_succ]
          refine wpAnyH_ready (rs := [21]) (by kernel_rfl) (by simp) ?_
          refine AllReadyH.cons (o := { dst := some 137, op := Op.call { callee := Callee.value (Operand.func 29), args := #[Operand.tmp 135, Operand.tmp 136], argTypes := #[27, 27] }, type := 4, pos := "laws.go:239", after := #[{ on := 19, ground := Ground.data }, { on := 20, ground := Ground.data }, { on := 18, ground := Ground.chain }, { on := 15, ground := Ground.guard }], guard := some (15, true) }) rfl (fun K hK => ?_) AllReadyH.nil
          clear hHeld
          go_simp
          go_at_call 29
          refine (SUV.out _ VU4.out.val VV4.out.val).mono ?_
          rintro e c5 ⟨rfl, hb⟩
          have HB5 := Lib.hid (HB4.out.trans (hb.mono HB4.out.size))
          have VR5 := Lib.hid (VR4.out.keep hb)
          have VF5 := Lib.hid (VF4.out.keep hb)
          have VG5 := Lib.hid (VG4.out.keep hb)
          have VU5 := Lib.hid (VU4.out.keep hb)
          have VV5 := Lib.hid (VV4.out.keep hb)
          have k4VR0 := VR5.out.box.c0
          have k4VR1 := VR5.out.box.c1
          have k4VR2 := VR5.out.box.c2
          have k4VF0 := VF5.out.box.c0
          have k4VF1 := VF5.out.box.c1
          have k4VF2 := VF5.out.box.c2
          have k4VG0 := VG5.out.box.c0
          have k4VG1 := VG5.out.box.c1
          have k4VG2 := VG5.out.box.c2
          have k4VU0 := VU5.out.box.c0
          have k4VU1 := VU5.out.box.c1
          have k4VU2 := VU5.out.box.c2
          have k4VV0 := VV5.out.box.c0
          have k4VV1 := VV5.out.box.c1
          have k4VV2 := VV5.out.box.c2
          clear hb
          go_wp2_with fail
          refine hK.out _ _ ?_ (fun hHeld => ?_)
          · (try dsimp only); (refine ⟨?_, ?_, ?_, ?_, ?_, ?_, ?_, ?_, ?_, ?_, ?_, ?_, ?_, ?_, ?_⟩ <;> assumption)
          clear hK K
          try simp only [Act.put, List.setIfInBounds_toArray, List.set_cons_zero, List.set_cons_succ]
          refine wpAnyH_take (i := 22) (oi := { dst := some 138, op := Op.binOp BinOp.eql 4 (Operand.tmp 134) (Operand.tmp 137) 4, type := 4, pos := "laws.go:239", after := #[{ on := 18, ground := Ground.data }, { on := 21, ground := Ground.data }, { on := 15, ground := Ground.guard }], guard := some (15, true) }) (v := ?v22a) rfl (by kernel_rfl) (by kernel_rfl) (by kernel_rfl) (fun _ _ _ h => h) (Or.inl ⟨by rfl, ?y22a⟩) (by assumption) ?r22a
          case y22a => (intro w' hSw; (try dsimp only at hSw); go_simp; all_goals with_reducible rfl)
          try simp only [Act.put, List.setIfInBounds_toArray, List.set_cons_zero, List.set_cons_succ]
          refine wpAnyH_take (i := 23) (oi := { dst := some 139, op := Op.pick (Operand.tmp 131) (Operand.tmp 138) (Operand.const (Value.bool false)), type := 4, pos := "laws.go:239", after := #[{ on := 15, ground := Ground.data }, { on := 22, ground := Ground.data }], guard := none }) (v := ?v23a) rfl (by kernel_rfl) (by kernel_rfl) (by kernel_rfl) (fun _ _ _ h => h) (Or.inl ⟨by rfl, ?y23a⟩) (by assumption) ?r23a
          case y23a => (intro w' hSw; (try dsimp only at hSw); go_simp; all_goals with_reducible rfl)
          try simp only [Act.put, List.setIfInBounds_toArray, List.set_cons_zero, List.set_cons_succ]
          refine wpAnyH_take (i := 24) (oi := { dst := some 140, op := Op.move (Operand.tmp 139), type := 4, pos := "laws.go:239", after := #[{ on := 23, ground := Ground.data }, { on := 21, ground := Ground.chain }], guard := none }) (v := ?v24a) rfl (by kernel_rfl) (by kernel_rfl) (by kernel_rfl) (fun _ _ _ h => h) (Or.inl ⟨by rfl, ?y24a⟩) (by assumption) ?r24a
          case y24a => (intro w' hSw; (try dsimp only at hSw); go_simp; all_goals with_reducible rfl)
          try simp only [Act.put, List.setIfInBounds_toArray, List.set_cons_zero, List.set_cons_succ]
          refine wpAnyH_take (i := 25) (oi := { dst := some 141, op := Op.load 27 (Operand.tmp 8), type := 27, pos := "laws.go:239", after := #[{ on := 24, ground := Ground.guard }], guard := some (24, true) }) (v := ?v25a) rfl (by kernel_rfl) (by kernel_rfl) (by kernel_rfl) (fun _ _ _ h => h) (Or.inl ⟨by rfl, ?y25a⟩) (by assumption) ?r25a
          case y25a => (intro w' hSw; (try dsimp only at hSw); go_simp; all_goals with_reducible rfl)
          try simp only [Act.put, List.setIfInBounds_toArray, List.set_cons_zero, List.set_cons_succ]
          refine wpAnyH_ready (rs := [26]) (by kernel_rfl) (by simp) ?_
          refine AllReadyH.cons (o := { dst := some 142, op := Op.call { callee := Callee.value (Operand.func 26), args := #[Operand.tmp 141], argTypes := #[27] }, type := 4, pos := "laws.go:239", after := #[{ on := 25, ground := Ground.data }, { on := 24, ground := Ground.chain }, { on := 24, ground := Ground.guard }], guard := some (24, true) }) rfl (fun K hK => ?_) AllReadyH.nil
          clear hHeld
          go_simp
          go_at_call 26
          refine (IR.out _ VR5.out.val).mono ?_
          rintro e c6 ⟨rfl, hb⟩
          have HB6 := Lib.hid (HB5.out.trans (hb.mono HB5.out.size))
          have VR6 := Lib.hid (VR5.out.keep hb)
          have VF6 := Lib.hid (VF5.out.keep hb)
          have VG6 := Lib.hid (VG5.out.keep hb)
          have VU6 := Lib.hid (VU5.out.keep hb)
          have VV6 := Lib.hid (VV5.out.keep hb)
          have k5VR0 := VR6.out.box.c0
          have k5VR1 := VR6.out.box.c1
          have k5VR2 := VR6.out.box.c2
          have k5VF0 := VF6.out.box.c0
          have k5VF1 := VF6.out.box.c1
          have k5VF2 := VF6.out.box.c2
          have k5VG0 := VG6.out.box.c0
          have k5VG1 := VG6.out.box.c1
          have k5VG2 := VG6.out.box.c2
          have k5VU0 := VU6.out.box.c0
          have k5VU1 := VU6.out.box.c1
          have k5VU2 := VU6.out.box.c2
          have k5VV0 := VV6.out.box.c0
          have k5VV1 := VV6.out.box.c1
          have k5VV2 := VV6.out.box.c2
          clear hb
          go_wp2_with fail
          refine hK.out _ _ ?_ (fun hHeld => ?_)
          · (try dsimp only); (refine ⟨?_, ?_, ?_, ?_, ?_, ?_, ?_, ?_, ?_, ?_, ?_, ?_, ?_, ?_, ?_⟩ <;> assumption)
          clear hK K
          try simp only [Act.put, List.setIfInBounds_toArray, List.set_cons_zero, List.set_cons_succ]
          refine wpAnyH_take (i := 27) (oi := { dst := some 143, op := Op.unOp UnOp.not 4 (Operand.tmp 142), type := 4, pos := "laws.go:239", after := #[{ on := 26, ground := Ground.data }, { on := 24, ground := Ground.guard }], guard := some (24, true) }) (v := ?v27a) rfl (by kernel_rfl) (by kernel_rfl) (by kernel_rfl) (fun _ _ _ h => h) (Or.inl ⟨by rfl, ?y27a⟩) (by assumption) ?r27a
          case y27a => (intro w' hSw; (try dsimp only at hSw); go_simp; all_goals with_reducible rfl)
          try simp only [Act.put, List.setIfInBounds_toArray, List.set_cons_zero, List.set_cons_succ]
          refine wpAnyH_take (i := 28) (oi := { dst := some 144, op := Op.move (Operand.tmp 143), type := 4, pos := "laws.go:239", after := #[{ on := 27, ground := Ground.data }, { on := 26, ground := Ground.chain }, { on := 24, ground := Ground.guard }], guard := some (24, true) }) (v := ?v28a) rfl (by kernel_rfl) (by kernel_rfl) (by kernel_rfl) (fun _ _ _ h => h) (Or.inl ⟨by rfl, ?y28a⟩) (by assumption) ?r28a
          case y28a => (intro w' hSw; (try dsimp only at hSw); go_simp; all_goals with_reducible rfl)
          try simp only [Act.put, List.setIfInBounds_toArray, List.set_cons_zero, List.set_cons_succ]
          refine wpAnyH_take (i := 29) (oi := { dst := some 145, op := Op.load 27 (Operand.tmp 8), type := 27, pos := "laws.go:239", after := #[{ on := 28, ground := Ground.guard }], guard := some (28, false) }) (v := undef) rfl (by kernel_rfl) (by kernel_rfl) (by kernel_rfl) (fun _ _ _ h => h) (Or.inr ⟨by rfl, rfl⟩) (by assumption) ?_
          try simp only [Act.put, List.setIfInBounds_toArray, List.set_cons_zero, List.set_cons_succ]
          refine wpAnyH_take (i := 30) (oi := { dst := some 146, op := Op.call { callee := Callee.value (Operand.func 15), args := #[Operand.tmp 145], argTypes := #[27] }, type := 3, pos := "laws.go:239", after := #[{ on := 29, ground := Ground.data }, { on := 28, ground := Ground.chain }, { on := 28, ground := Ground.guard }], guard := some (28, false) }) (v := undef) rfl (by kernel_rfl) (by kernel_rfl) (by kernel_rfl) (fun _ _ _ h => h) (Or.inr ⟨by rfl, rfl⟩) (by assumption) ?_
          try simp only [Act.put, List.setIfInBounds_toArray, List.set_cons_zero, List.set_cons_succ]
          refine wpAnyH_take (i := 31) (oi := { dst := some 147, op := Op.binOp BinOp.eql 3 (Operand.tmp 146) (Operand.const (Value.int IntKind.i64 0)) 3, type := 4, pos := "laws.go:239", after := #[{ on := 30, ground := Ground.data }, { on := 28, ground := Ground.guard }], guard := some (28, false) }) (v := undef) rfl (by kernel_rfl) (by kernel_rfl) (by kernel_rfl) (fun _ _ _ h => h) (Or.inr ⟨by rfl, rfl⟩) (by assumption) ?_
          try simp only [Act.put, List.setIfInBounds_toArray, List.set_cons_zero, List.set_cons_succ]
          refine wpAnyH_take (i := 32) (oi := { dst := some 148, op := Op.move (Operand.tmp 147), type := 4, pos := "laws.go:239", after := #[{ on := 31, ground := Ground.data }, { on := 30, ground := Ground.chain }, { on := 28, ground := Ground.guard }], guard := some (28, false) }) (v := undef) rfl (by kernel_rfl) (by kernel_rfl) (by kernel_rfl) (fun _ _ _ h => h) (Or.inr ⟨by rfl, rfl⟩) (by assumption) ?_
          try simp only [Act.put, List.setIfInBounds_toArray, List.set_cons_zero, List.set_cons_succ]
          refine wpAnyH_take (i := 33) (oi := { dst := some 149, op := Op.load 27 (Operand.tmp 8), type := 27, pos := "laws.go:239", after := #[{ on := 32, ground := Ground.guard }], guard := some (32, true) }) (v := undef) rfl (by kernel_rfl) (by kernel_rfl) (by kernel_rfl) (fun _ _ _ h => h) (Or.inr ⟨by rfl, rfl⟩) (by assumption) ?_
          try simp only [Act.put, List.setIfInBounds_toArray, List.set_cons_zero, List.set_cons_succ]
          refine wpAnyH_take (i := 34) (oi := { dst := some 150, op := Op.call { callee := Callee.value (Operand.func 19), args := #[Operand.tmp 149], argTypes := #[27] }, type := 4, pos := "laws.go:239", after := #[{ on := 33, ground := Ground.data }, { on := 32, ground := Ground.chain }, { on := 32, ground := Ground.guard }], guard := some (32, true) }) (v := undef) rfl (by kernel_rfl) (by kernel_rfl) (by kernel_rfl) (fun _ _ _ h => h) (Or.inr ⟨by rfl, rfl⟩) (by assumption) ?_
          try simp only [Act.put, List.setIfInBounds_toArray, List.set_cons_zero, List.set_cons_succ]
          refine wpAnyH_take (i := 35) (oi := { dst := some 151, op := Op.pick (Operand.tmp 148) (Operand.tmp 150) (Operand.const (Value.bool false)), type := 4, pos := "laws.go:239", after := #[{ on := 32, ground := Ground.data }, { on := 34, ground := Ground.data }, { on := 28, ground := Ground.guard }], guard := some (28, false) }) (v := undef) rfl (by kernel_rfl) (by kernel_rfl) (by kernel_rfl) (fun _ _ _ h => h) (Or.inr ⟨by rfl, rfl⟩) (by assumption) ?_
          try simp only [Act.put, List.setIfInBounds_toArray, List.set_cons_zero, List.set_cons_succ]
          refine wpAnyH_take (i := 36) (oi := { dst := some 152, op := Op.pick (Operand.tmp 144) (Operand.const (Value.bool true)) (Operand.tmp 151), type := 4, pos := "laws.go:239", after := #[{ on := 28, ground := Ground.data }, { on := 35, ground := Ground.data }, { on := 24, ground := Ground.guard }], guard := some (24, true) }) (v := ?v36a) rfl (by kernel_rfl) (by kernel_rfl) (by kernel_rfl) (fun _ _ _ h => h) (Or.inl ⟨by rfl, ?y36a⟩) (by assumption) ?r36a
          case y36a => (intro w' hSw; (try dsimp only at hSw); go_simp; all_goals with_reducible rfl)
          try simp only [Act.put, List.setIfInBounds_toArray, List.set_cons_zero, List.set_cons_succ]
          refine wpAnyH_take (i := 37) (oi := { dst := some 153, op := Op.pick (Operand.tmp 140) (Operand.tmp 152) (Operand.const (Value.bool false)), type := 4, pos := "laws.go:239", after := #[{ on := 24, ground := Ground.data }, { on := 36, ground := Ground.data }], guard := none }) (v := ?v37a) rfl (by kernel_rfl) (by kernel_rfl) (by kernel_rfl) (fun _ _ _ h => h) (Or.inl ⟨by rfl, ?y37a⟩) (by assumption) ?r37a
          case y37a => (intro w' hSw; (try dsimp only at hSw); go_simp; all_goals with_reducible rfl)
          try simp only [Act.put, List.setIfInBounds_toArray, List.set_cons_zero, List.set_cons_succ]
          refine wpAnyH_take (i := 38) (oi := { dst := some 2, op := Op.assign (Operand.tmp 153), type := 4, pos := "laws.go:239", after := #[{ on := 37, ground := Ground.data }, { on := 34, ground := Ground.chain }, { on := 0, ground := Ground.phase }, { on := 1, ground := Ground.phase }, { on := 2, ground := Ground.phase }, { on := 3, ground := Ground.phase }, { on := 4, ground := Ground.phase }, { on := 5, ground := Ground.phase }, { on := 6, ground := Ground.phase }, { on := 7, ground := Ground.phase }, { on := 8, ground := Ground.phase }, { on := 9, ground := Ground.phase }, { on := 10, ground := Ground.phase }, { on := 11, ground := Ground.phase }, { on := 12, ground := Ground.phase }, { on := 13, ground := Ground.phase }, { on := 14, ground := Ground.phase }, { on := 15, ground := Ground.phase }, { on := 16, ground := Ground.phase }, { on := 17, ground := Ground.phase }, { on := 18, ground := Ground.phase }, { on := 19, ground := Ground.phase }, { on := 20, ground := Ground.phase }, { on := 21, ground := Ground.phase }, { on := 22, ground := Ground.phase }, { on := 23, ground := Ground.phase }, { on := 24, ground := Ground.phase }, { on := 25, ground := Ground.phase }, { on := 26, ground := Ground.phase }, { on := 27, ground := Ground.phase }, { on := 28, ground := Ground.phase }, { on := 29, ground := Ground.phase }, { on := 30, ground := Ground.phase }, { on := 31, ground := Ground.phase }, { on := 32, ground := Ground.phase }, { on := 33, ground := Ground.phase }, { on := 34, ground := Ground.phase }, { on := 35, ground := Ground.phase }, { on := 36, ground := Ground.phase }, { on := 37, ground := Ground.phase }], guard := none }) (v := ?v38a) rfl (by kernel_rfl) (by kernel_rfl) (by kernel_rfl) (fun _ _ _ h => h) (Or.inl ⟨by rfl, ?y38a⟩) (by assumption) ?r38a
          case y38a => (intro w' hSw; (try dsimp only at hSw); go_simp; all_goals with_reducible rfl)
          try simp only [Act.put, List.setIfInBounds_toArray, List.set_cons_zero, List.set_cons_succ]
          refine wpAnyH_done (by kernel_rfl) ?_ _
          refine NoPanic.normal ?_
          have HY : Hid (LawYes w (.returned (.bool true)) c6) := ⟨rfl, HB6.out⟩
          clear k0VR0 k0VR1 k0VR2 k0VF0 k0VF1 k0VF2 k0VG0 k0VG1 k0VG2 k0VU0 k0VU1 k0VU2 k0VV0 k0VV1 k0VV2 k1VR0 k1VR1 k1VR2 k1VF0 k1VF1 k1VF2 k1VG0 k1VG1 k1VG2 k1VU0 k1VU1 k1VU2 k1VV0 k1VV1 k1VV2 k2VR0 k2VR1 k2VR2 k2VF0 k2VF1 k2VF2 k2VG0 k2VG1 k2VG2 k2VU0 k2VU1 k2VU2 k2VV0 k2VV1 k2VV2 k3VR0 k3VR1 k3VR2 k3VF0 k3VF1 k3VF2 k3VG0 k3VG1 k3VG2 k3VU0 k3VU1 k3VU2 k3VV0 k3VV1 k3VV2 k4VR0 k4VR1 k4VR2 k4VF0 k4VF1 k4VF2 k4VG0 k4VG1 k4VG2 k4VU0 k4VU1 k4VU2 k4VV0 k4VV1 k4VV2 k5VR0 k5VR1 k5VR2 k5VF0 k5VF1 k5VF2 k5VG0 k5VG1 k5VG2 k5VU0 k5VU1 k5VU2 k5VV0 k5VV1 k5VV2 gVR0 gVR1 gVR2 gVF0 gVF1 gVF2 gVG0 gVG1 gVG2 gVU0 gVU1 gVU2 gVV0 gVV1 gVV2
          go_wp2_with fail
          go_ret
          exact HY.out
  · have HL0 := Lib.hid (HLO.out 0 (by have := hq4' hq; omega))
    clear hq4 hq4' HLO
    have hqb : (q == 4) = false := by simpa using hq
    go_wp2_with fail
    rw [HW2.out]
    go_wp2_with fail
    clear x0 x1 x2 hq hqb
    go_loopw [4, 5, 6, 7] (fun s dd bb i wr => FnInv w Z ks X (.node a ks) q L A n c ks.length d s dd bb i wr) (fun _ _ _ i _ => ks.length - (intOf i).toNat)
    case atStart => exact HL0.out
    case round =>
      clear HL0 HV HB
      obtain ⟨k, hk, rfl, rfl, rfl, rfl, hv, hb⟩ := hrel
      have x2 := hv.box.c2
      have HV := Lib.hid hv
      have HB := Lib.hid hb
      have hz1 := HZ1.out
      have hkl := HKL.out
      by_cases hlt : k < ks.length
      · have hp := hv.val.parts.2.2.1
        obtain ⟨ad, p, c0, c1, c2, rfl, hpe, hr, q0, q1, q2⟩ := kid_at hp (Below.refl _ _) hlt
        have h1 := sum_take_succ Tr.size ks k hlt
        have h2 := sum_take_succ Tr.bags ks k hlt
        have h3 := deepTo_succ ks k hlt
        obtain ⟨e1, e2, e3⟩ := HEQ.out k hk
        obtain ⟨i1, i2, i3⟩ := HIN.out k hlt
        have SZ := Lib.hid (fun (W : World) (h : Below wr.heap.size wr W) => (show Calls _ _ _ _ (Counts ks[k].size W) from implSize_any ks[k] W [c0, c1, c2] (hr.keep h) (by omega)))
        have DP := Lib.hid (fun (W : World) (h : Below wr.heap.size wr W) => (show Calls _ _ _ _ (Counts ks[k].deep W) from implDepth_any ks[k] W [c0, c1, c2] (hr.keep h) (by omega)))
        have BG := Lib.hid (fun (W : World) (h : Below wr.heap.size wr W) => (show Calls _ _ _ _ (Counts ks[k].bags W) from implBags_any ks[k] W [c0, c1, c2] (hr.keep h) (by omega)))
        obtain ⟨n1, hn1⟩ : ∃ n1, ((ks.take k).map Tr.size).sum = n1 := ⟨_, rfl⟩
        obtain ⟨n2, hn2⟩ : ∃ n2, ((ks.take k).map Tr.bags).sum = n2 := ⟨_, rfl⟩
        obtain ⟨n3, hn3⟩ : ∃ n3, deepTo ks k = n3 := ⟨_, rfl⟩
        obtain ⟨m1, hm1⟩ : ∃ m1, ks[k].size = m1 := ⟨_, rfl⟩
        obtain ⟨m2, hm2⟩ : ∃ m2, ks[k].bags = m2 := ⟨_, rfl⟩
        obtain ⟨m3, hm3⟩ : ∃ m3, ks[k].deep = m3 := ⟨_, rfl⟩
        rw [hn1] at h1 e1
        rw [hn2] at h2 e3
        rw [hn3] at h3 e2
        rw [hm1] at h1 i1 SZ
        rw [hm2] at h2 i3 BG
        rw [hm3] at h3 i2 DP
        rw [hn1, hn2, hn3]
        have H1 := Lib.hid h1
        have H2 := Lib.hid h2
        have H3 := Lib.hid h3
        have CL := Lib.hid (fun (W : World) (h : Below wr.heap.size wr W) => (show W.cell? ⟨X, 2, none⟩ = some (.slice (some ad) ks.length d) ∧ W.cell? p = some c0 ∧ W.cell? ⟨p.block, p.off + 1, none⟩ = some c1 ∧ W.cell? ⟨p.block, p.off + 2, none⟩ = some c2 from
          ⟨(h.cell (World.block_lt_of_cell? wr _ x2)).trans x2, (h.cell (World.block_lt_of_cell? wr _ q0)).trans q0, (h.cell (World.block_lt_of_cell? wr _ q1)).trans q1, (h.cell (World.block_lt_of_cell? wr _ q2)).trans q2⟩))
        clear hr hp h1 h2 h3 hn1 hn2 hn3 hm1 hm2 hm3 hv hb
        go_wp2_with fail
        refine (SZ.out wr (Below.refl _ _)).mono ?_
        rintro e w2 ⟨rfl, hb2⟩
        obtain ⟨x2', q0', q1', q2'⟩ := CL.out w2 hb2
        have HB2 := Lib.hid hb2
        clear x2 q0 q1 q2 hb2
        go_wp2_with fail
        refine (BG.out w2 HB2.out).mono ?_
        rintro e w3 ⟨rfl, hb3⟩
        have HB3 := Lib.hid (HB2.out.trans (hb3.mono HB2.out.size))
        obtain ⟨x2, q0, q1, q2⟩ := CL.out w3 HB3.out
        clear x2' q0' q1' q2' hb3
        go_wp2_with fail
        refine (DP.out w3 HB3.out).mono ?_
        rintro e w4 ⟨rfl, hb4⟩
        have HB4 := Lib.hid (HB3.out.trans (hb4.mono HB3.out.size))
        obtain ⟨x2', q0', q1', q2'⟩ := CL.out w4 HB4.out
        clear x2 q0 q1 q2 hb4
        by_cases hgt : n3 < m3
        · go_wp2_with fail
          refine (DP.out w4 HB4.out).mono ?_
          rintro e w5 ⟨rfl, hb5⟩
          have hb5' := HB4.out.trans (hb5.mono HB4.out.size)
          clear x2' q0' q1' q2' hb5
          go_wp2_with fail
          go_roundw
          case rel => exact ⟨k + 1, hlt, by go_num, by rw [H1.out]; go_num, by rw [H3.out, Nat.max_eq_right (by omega)], by rw [H2.out]; go_num, HV.out.keep hb5', HB.out.trans (hb5'.mono HB.out.size)⟩
          case measure => simp [intOf]; omega
        · have hb5' := HB4.out
          clear x2' q0' q1' q2'
          go_wp2_with fail
          go_roundw
          case rel => exact ⟨k + 1, hlt, by go_num, by rw [H1.out]; go_num, by rw [H3.out, Nat.max_eq_left (by omega)], by rw [H2.out]; go_num, HV.out.keep hb5', HB.out.trans (hb5'.mono HB.out.size)⟩
          case measure => simp [intOf]; omega
      · have he : k = ks.length := by omega
        subst he
        have h1 : 1 + ((ks.take ks.length).map Tr.size).sum = (Tr.node a ks : Ty).size := by rw [List.take_length, size_node]
        have h2 : Z + ((ks.take ks.length).map Tr.bags).sum = (Tr.node a ks : Ty).bags := by rw [List.take_length, bags_node, HZ.out]
        have h3 := deepTo_all a ks
        rw [h1, h2]
        have hts := HTS.out
        obtain ⟨_, hdl, _⟩ := HEQ.out ks.length (Nat.le_refl _)
        have SZ := Lib.hid (fun W (h : At (.node a ks) q L A n c ks.length d 0 W) => (show Calls _ _ _ _ (Counts (Tr.size (.node a ks)) W) from implSize_any _ W _ h.reads (by omega)))
        have DP := Lib.hid (fun W (h : At (.node a ks) q L A n c ks.length d 0 W) => (show Calls _ _ _ _ (Counts (Tr.deep (.node a ks)) W) from implDepth_any _ W _ h.reads (by omega)))
        have BG := Lib.hid (fun W (h : At (.node a ks) q L A n c ks.length d 0 W) => (show Calls _ _ _ _ (Counts (Tr.bags (.node a ks)) W) from implBags_any _ W _ h.reads (by omega)))
        have IV := Lib.hid (fun W (h : At (.node a ks) q L A n c ks.length d 0 W) => (show Calls _ _ _ _ (Truth (validB (.node a ks)) W) from implValid_any _ W _ h.reads (Nat.le_trans h.wb (by decide))))
        have SV := Lib.hid (fun W (h : At (.node a ks) q L A n c ks.length d 0 W) => (show Calls _ _ _ _ (Truth (validB (.node a ks)) W) from specValid_any _ W _ h.reads (Nat.le_trans h.wb (by decide))))
        have ID := Lib.hid (fun W (h : At (.node a ks) q L A n c ks.length d 0 W) => (show Calls _ _ _ _ (Truth (dataB (.node a ks)) W) from implData_any _ W _ h.reads (Nat.le_trans h.wb (by decide))))
        have SD := Lib.hid (fun W (h : At (.node a ks) q L A n c ks.length d 0 W) => (show Calls _ _ _ _ (Truth (dataB (.node a ks)) W) from specData_any _ W _ h.reads (Nat.le_trans h.wb (by decide))))
        rw [h3] at DP
        obtain ⟨D, hD⟩ : ∃ D, deepTo ks ks.length = D := ⟨_, rfl⟩
        rw [hD] at DP hdl ⊢
        obtain ⟨N1, hN1⟩ : ∃ N, (Tr.node a ks : Ty).size = N := ⟨_, rfl⟩
        rw [hN1] at SZ ⊢
        obtain ⟨N2, hN2⟩ : ∃ N, (Tr.node a ks : Ty).bags = N := ⟨_, rfl⟩
        rw [hN2] at BG ⊢
        obtain ⟨vb, hvb⟩ : ∃ b, validB (.node a ks) = b := ⟨_, rfl⟩
        rw [hvb] at IV SV
        obtain ⟨db, hdb⟩ : ∃ b, dataB (.node a ks) = b := ⟨_, rfl⟩
        rw [hdb] at ID SD
        have VT0 := Lib.hid (HV.out.keep (W' := wr.drew) (Below.refl _ _).drew)
        have HB0 := Lib.hid (HB.out.drew)
        have x0 := hv.box.c0
        have x1 := hv.box.c1
        clear hv hb h1 h2 h3 hts hD hN1 hN2 hvb hdb HV HB HEQ HIN HTS HZ HZ1 HQ HKL hlt hk hz1 hkl
        have hwr : IntKind.i64.wrap ((D : Int) + 1) = (D : Int) + 1 := by rw [IntKind.wrap_i64]; omega
        have DPI : Hid (∀ W, At (.node a ks) q L A n c ks.length d 0 W → Calls Try.prog 16 #[.agg #[.int .i64 q, .slice L n c, .slice A ks.length d]] W (Counts (IntKind.i64.wrap ((D : Int) + 1)) W)) := Lib.hid (fun W h => by have h2 := DP.out W h; rw [Int.natCast_add] at h2; rw [hwr]; exact h2)
        clear DP hwr
        go_wp2_with fail
        go_region_held3 (fun W => W.cell? ⟨X, 0, none⟩ = some (.int .i64 q) ∧ W.cell? ⟨X, 1, none⟩ = some (.slice L n c) ∧ W.cell? ⟨X, 2, none⟩ = some (.slice A ks.length d))
          (refine ⟨?_, ?_, ?_⟩ <;> assumption)
          (first
            | (go_at_call 14; refine (SZ.out _ VT0.out.val).mono ?_; rintro e a1 ⟨rfl, hb⟩; have VT1 := Lib.hid (VT0.out.keep hb); have HB1 := Lib.hid (HB0.out.trans (hb.mono HB0.out.size)); have y00 := VT1.out.box.c0; have y01 := VT1.out.box.c1; have y02 := VT1.out.box.c2; clear hb)
            | (go_at_call 16; refine (DPI.out _ VT1.out.val).mono ?_; rintro e a2 ⟨rfl, hb⟩; have VT2 := Lib.hid (VT1.out.keep hb); have HB2 := Lib.hid (HB1.out.trans (hb.mono HB1.out.size)); have y10 := VT2.out.box.c0; have y11 := VT2.out.box.c1; have y12 := VT2.out.box.c2; clear hb)
            | (go_at_call 15; refine (BG.out _ VT2.out.val).mono ?_; rintro e a3 ⟨rfl, hb⟩; have VT3 := Lib.hid (VT2.out.keep hb); have HB3 := Lib.hid (HB2.out.trans (hb.mono HB2.out.size)); have y20 := VT3.out.box.c0; have y21 := VT3.out.box.c1; have y22 := VT3.out.box.c2; clear hb)
            | (go_at_call 17; refine (IV.out _ VT3.out.val).mono ?_; rintro e a4 ⟨rfl, hb⟩; have VT4 := Lib.hid (VT3.out.keep hb); have HB4 := Lib.hid (HB3.out.trans (hb.mono HB3.out.size)); have y30 := VT4.out.box.c0; have y31 := VT4.out.box.c1; have y32 := VT4.out.box.c2; clear hb)
            | (go_at_call 18; refine (SV.out _ VT4.out.val).mono ?_; rintro e a5 ⟨rfl, hb⟩; have VT5 := Lib.hid (VT4.out.keep hb); have HB5 := Lib.hid (HB4.out.trans (hb.mono HB4.out.size)); have y40 := VT5.out.box.c0; have y41 := VT5.out.box.c1; have y42 := VT5.out.box.c2; clear hb)
            | (go_at_call 19; refine (ID.out _ VT5.out.val).mono ?_; rintro e a6 ⟨rfl, hb⟩; have VT6 := Lib.hid (VT5.out.keep hb); have HB6 := Lib.hid (HB5.out.trans (hb.mono HB5.out.size)); have y50 := VT6.out.box.c0; have y51 := VT6.out.box.c1; have y52 := VT6.out.box.c2; clear hb)
            | (go_at_call 20; refine (SD.out _ VT6.out.val).mono ?_; rintro e a7 ⟨rfl, hb⟩; have VT7 := Lib.hid (VT6.out.keep hb); have HB7 := Lib.hid (HB6.out.trans (hb.mono HB6.out.size)); have y60 := VT7.out.box.c0; have y61 := VT7.out.box.c1; have y62 := VT7.out.box.c2; clear hb))
        clear x0 x1 x2 y00 y01 y02 y10 y11 y12 y20 y21 y22 y30 y31 y32 y40 y41 y42 y50 y51 y52 y60 y61 y62 SZ DPI BG IV SV ID SD VT0 VT1 VT2 VT3 VT4 VT5 VT6 VT7 HB0 HB1 HB2 HB3 HB4 HB5 HB6
        have HB := Lib.hid HB7.out
        clear HB7 hdl
        go_wp2_with fail
        refine (drawRow_any A0 cap bs a7 (HC.out.below HB.out)).mono ?_
        rintro e b1 ⟨r, rq, rL, rA, rn, rc, rm, rd, fp, rfl, hot, hfp, hwt, hb⟩
        obtain ⟨R2, hW⟩ : ∃ W, b1.alloc (.cells #[.int .i64 rq, .slice rL rn rc, .slice rA rm rd] 27) = W := ⟨_, rfl⟩
        have hv := Var.new (B := 0) ⟨⟨fp, hot, fun _ _ => Nat.zero_le _⟩, hwt⟩ hW
        have hal : Below b1.heap.size b1 R2 := by rw [← hW]; exact (Below.refl _ _).alloc (Nat.le_refl _) _
        obtain ⟨XR, hXR⟩ : ∃ X, b1.heap.size = X := ⟨_, rfl⟩
        rw [hXR] at hv
        have hB := hb.trans (hal.mono hb.size)
        have HB := Lib.hid (HB.out.trans (hB.mono HB.out.size))
        have VR := Lib.hid hv
        have HW := Lib.hid hW
        clear hot hfp hb hW hv hal hB hwt
        go_wp2_with fail
        rw [HW.out]
        clear HW
        refine (drawField_any A0 cap bs R2 (HC.out.below HB.out)).mono ?_
        rintro e b2 ⟨x, xq, xL, xA, xn, xc, xm, xd, fp, s, rfl, hot, hfp, hwt, hsz, hb⟩
        obtain ⟨F2, hW⟩ : ∃ W, b2.alloc (.cells #[.int .i64 xq, .slice xL xn xc, .slice xA xm xd] 27) = W := ⟨_, rfl⟩
        have hv := Var.new (B := 0) ⟨⟨fp, hot, fun _ _ => Nat.zero_le _⟩, hwt⟩ hW
        have hal : Below b2.heap.size b2 F2 := by rw [← hW]; exact (Below.refl _ _).alloc (Nat.le_refl _) _
        obtain ⟨XX, hXX⟩ : ∃ X, b2.heap.size = X := ⟨_, rfl⟩
        rw [hXX] at hv
        have hB := hb.trans (hal.mono hb.size)
        have HB := Lib.hid (HB.out.trans (hB.mono HB.out.size))
        have VR := Lib.hid (VR.out.keep hB)
        have VX := Lib.hid hv
        have HW := Lib.hid hW
        clear hot hfp hb hW hv hal hB hwt
        obtain ⟨F, fb, hF⟩ : ∃ F fb, fieldT x s = (F, fb) := ⟨_, _, rfl⟩
        have hwF : wt F ≤ 1000 := by have := fieldT_wt x s; rw [hF] at this; exact Nat.le_trans this VX.out.val.wb
        obtain ⟨f0, hf0⟩ : ∃ f0, F.top.kind = f0 := ⟨_, rfl⟩
        obtain ⟨f1, hf1⟩ : ∃ f1, F.top.labels.length = f1 := ⟨_, rfl⟩
        obtain ⟨f2, hf2⟩ : ∃ f2, F.kids.length = f2 := ⟨_, rfl⟩
        have SPF : Hid (∀ W, At x xq xL xA xn xc xm xd 0 W → Calls Try.prog 24 #[.agg #[.int .i64 xq, .slice xL xn xc, .slice xA xm xd], .string s] W (Made2 F f0 f1 f2 fb W)) := Lib.hid (fun W h => by
          refine (specField_any x s W _ h.reads (Nat.le_trans h.wb (by decide))).mono ?_
          rintro e w' hm
          unfold MadeP at hm
          rw [hF] at hm
          simp only [hf0, hf1, hf2] at hm
          exact hm)
        have IMF : Hid (∀ W, At x xq xL xA xn xc xm xd 0 W → Calls Try.prog 23 #[.agg #[.int .i64 xq, .slice xL xn xc, .slice xA xm xd], .string s] W (Made2 F f0 f1 f2 fb W)) := Lib.hid (fun W h => by
          refine (implField_any x s W _ h.own.choose h.own.choose_spec.1 (Nat.le_trans h.wb (by decide))).mono ?_
          rintro e w' hm
          unfold MadeP at hm
          rw [hF] at hm
          simp only [hf0, hf1, hf2] at hm
          exact hm)
        clear hF hf0 hf1 hf2
        have HWF := Lib.hid hwF
        have z0 := VX.out.box.c0
        have z1 := VX.out.box.c1
        have z2 := VX.out.box.c2
        clear hwF hsz
        go_wp2_with fail
        rw [HW.out]
        clear HW
        try go_wp2_with fail
        refine (IMF.out F2 VX.out.val).mono ?_
        rintro e b3 ⟨fL, fA, fc, fd, fp, rfl, hot, hfp, hb⟩
        clear z0 z1 z2 IMF
        obtain ⟨G2, hW⟩ : ∃ W, b3.alloc (.cells #[.int .i64 f0, .slice fL f1 fc, .slice fA f2 fd] 27) = W := ⟨_, rfl⟩
        have hv := Var.new (B := 0) ⟨⟨fp, hot, fun _ _ => Nat.zero_le _⟩, HWF.out⟩ hW
        have hal : Below b3.heap.size b3 G2 := by rw [← hW]; exact (Below.refl _ _).alloc (Nat.le_refl _) _
        obtain ⟨XF, hXF⟩ : ∃ X, b3.heap.size = X := ⟨_, rfl⟩
        rw [hXF] at hv
        have hB := hb.trans (hal.mono hb.size)
        have HB := Lib.hid (HB.out.trans (hB.mono HB.out.size))
        have VR := Lib.hid (VR.out.keep hB)
        have VX := Lib.hid (VX.out.keep hB)
        have VF := Lib.hid hv
        have HW := Lib.hid hW
        clear hot hfp hb hW hv hal hB
        have z0 := VX.out.box.c0
        have z1 := VX.out.box.c1
        have z2 := VX.out.box.c2
        rw [← HW.out] at z0 z1 z2
        go_wp2_with fail
        rw [HW.out]
        clear HW
        try go_wp2_with fail
        refine (SPF.out G2 VX.out.val).mono ?_
        rintro e b4 ⟨gL, gA, gc, gd, fp, rfl, hot, hfp, hb⟩
        clear z0 z1 z2 SPF
        obtain ⟨H2, hW⟩ : ∃ W, b4.alloc (.cells #[.int .i64 f0, .slice gL f1 gc, .slice gA f2 gd] 27) = W := ⟨_, rfl⟩
        have hv := Var.new (B := 0) ⟨⟨fp, hot, fun _ _ => Nat.zero_le _⟩, HWF.out⟩ hW
        have hal : Below b4.heap.size b4 H2 := by rw [← hW]; exact (Below.refl _ _).alloc (Nat.le_refl _) _
        obtain ⟨XG, hXG⟩ : ∃ X, b4.heap.size = X := ⟨_, rfl⟩
        rw [hXG] at hv
        have hB := hb.trans (hal.mono hb.size)
        have HB := Lib.hid (HB.out.trans (hB.mono HB.out.size))
        have VR := Lib.hid (VR.out.keep hB)
        have VF := Lib.hid (VF.out.keep hB)
        have VG := Lib.hid hv
        have HW := Lib.hid hW
        clear hot hfp hb hW hv hal hB
        clear VX HWF
        go_wp2_with fail
        rw [HW.out]
        clear HW
        refine (drawEq_any A0 cap bs H2 (HC.out.below HB.out)).mono ?_
        rintro e b5 ⟨u, v, uq, vq, uL, uA, vL, vA, un, uc, um, ud, vn, vc, vm, vd, rfl, hu, hv, hb⟩
        obtain ⟨J2, hJ⟩ : ∃ W, (b5.alloc (.cells #[.int .i64 uq, .slice uL un uc, .slice uA um ud] 27)).alloc (.cells #[.int .i64 vq, .slice vL vn vc, .slice vA vm vd] 27) = W := ⟨_, rfl⟩
        obtain ⟨XU, hXU⟩ : ∃ X, b5.heap.size = X := ⟨_, rfl⟩
        have hal1 : Below b5.heap.size b5 (b5.alloc (.cells #[.int .i64 uq, .slice uL un uc, .slice uA um ud] 27)) := (Below.refl _ _).alloc (Nat.le_refl _) _
        have hal : Below b5.heap.size b5 J2 := by rw [← hJ]; exact hal1.alloc hal1.size _
        have hvu : Var XU u uq uL uA un uc um ud J2.drew := ⟨by rw [← hJ, ← hXU]; exact (Box3.new b5 _ _ _ _).alloc _, (hu.low (Nat.zero_le _)).under hal.drew⟩
        have hvv : Var (XU + 1) v vq vL vA vn vc vm vd J2.drew := ⟨by rw [← hJ, ← hXU]; have := Box3.new (b5.alloc (.cells #[.int .i64 uq, .slice uL un uc, .slice uA um ud] 27)) 27 (.int .i64 vq) (.slice vL vn vc) (.slice vA vm vd); simp only [World.size_alloc] at this; exact this, (hv.low (Nat.zero_le _)).under hal.drew⟩
        have hB := hb.trans (hal.drew.mono hb.size)
        have HB0 := Lib.hid (HB.out.trans (hB.mono HB.out.size))
        have VR0 := Lib.hid (VR.out.keep hB)
        have VF0 := Lib.hid (VF.out.keep hB)
        have VG0 := Lib.hid (VG.out.keep hB)
        have VU0 := Lib.hid hvu
        have VV0 := Lib.hid hvv
        have HJ := Lib.hid hJ
        clear hu hv hb hJ hal1 hal hvu hvv hB HB VR VF VG
        go_wp2_with fail
        rw [HJ.out]
        clear HJ
        have IR := Lib.hid (fun W (h : At r rq rL rA rn rc rm rd 0 W) => (show Calls _ _ _ _ (Truth (rowB r) W) from implRow_any _ W _ h.reads (Nat.le_trans h.wb (by decide))))
        have SR := Lib.hid (fun W (h : At r rq rL rA rn rc rm rd 0 W) => (show Calls _ _ _ _ (Truth (rowB r) W) from specRow_any _ W _ h.reads (Nat.le_trans h.wb (by decide))))
        have IDR := Lib.hid (fun W (h : At r rq rL rA rn rc rm rd 0 W) => (show Calls _ _ _ _ (Truth (dataB r) W) from implData_any _ W _ h.reads (Nat.le_trans h.wb (by decide))))
        have CB := Lib.hid (fun W (h : At r rq rL rA rn rc rm rd 0 W) => (show Calls _ _ _ _ (Counts r.bags W) from implBags_any _ W _ h.reads (by have := size_wt r; have := h.wb; omega)))
        have EFG : Hid (∀ W, At F f0 fL fA f1 fc f2 fd 0 W → At F f0 gL gA f1 gc f2 gd 0 W → Calls Try.prog 28 #[.agg #[.int .i64 f0, .slice fL f1 fc, .slice fA f2 fd], .agg #[.int .i64 f0, .slice gL f1 gc, .slice gA f2 gd]] W (Truth true W)) := Lib.hid (fun W h h' => by
          have h2 := implEq_any F F W _ _ h.reads h'.reads (by have := size_wt F; have := h.wb; omega) (by have := size_wt F; have := h.wb; omega)
          rw [same_yes rfl] at h2
          exact h2)
        have EUV := Lib.hid (fun W (h : At u uq uL uA un uc um ud 0 W) (h' : At v vq vL vA vn vc vm vd 0 W) => (show Calls _ _ _ _ (Truth (same u v) W) from implEq_any u v W _ _ h.reads h'.reads (by have := size_wt u; have := h.wb; omega) (by have := size_wt v; have := h'.wb; omega)))
        have SUV := Lib.hid (fun W (h : At u uq uL uA un uc um ud 0 W) (h' : At v vq vL vA vn vc vm vd 0 W) => (show Calls _ _ _ _ (Truth (same u v) W) from specEq_any u v W _ _ h.reads h'.reads))
        obtain ⟨sb, hsb⟩ : ∃ b, same u v = b := ⟨_, rfl⟩
        rw [hsb] at EUV SUV
        clear hsb
        have gVR0 := (show Var XR r rq rL rA rn rc rm rd J2.drew from VR0.out).box.c0
        have gVR1 := (show Var XR r rq rL rA rn rc rm rd J2.drew from VR0.out).box.c1
        have gVR2 := (show Var XR r rq rL rA rn rc rm rd J2.drew from VR0.out).box.c2
        have gVF0 := (show Var XF F f0 fL fA f1 fc f2 fd J2.drew from VF0.out).box.c0
        have gVF1 := (show Var XF F f0 fL fA f1 fc f2 fd J2.drew from VF0.out).box.c1
        have gVF2 := (show Var XF F f0 fL fA f1 fc f2 fd J2.drew from VF0.out).box.c2
        have gVG0 := (show Var XG F f0 gL gA f1 gc f2 gd J2.drew from VG0.out).box.c0
        have gVG1 := (show Var XG F f0 gL gA f1 gc f2 gd J2.drew from VG0.out).box.c1
        have gVG2 := (show Var XG F f0 gL gA f1 gc f2 gd J2.drew from VG0.out).box.c2
        have gVU0 := (show Var XU u uq uL uA un uc um ud J2.drew from VU0.out).box.c0
        have gVU1 := (show Var XU u uq uL uA un uc um ud J2.drew from VU0.out).box.c1
        have gVU2 := (show Var XU u uq uL uA un uc um ud J2.drew from VU0.out).box.c2
        have gVV0 := (show Var (XU + 1) v vq vL vA vn vc vm vd J2.drew from VV0.out).box.c0
        have gVV1 := (show Var (XU + 1) v vq vL vA vn vc vm vd J2.drew from VV0.out).box.c1
        have gVV2 := (show Var (XU + 1) v vq vL vA vn vc vm vd J2.drew from VV0.out).box.c2
        by_cases hrb : rowB r = true
        · obtain ⟨hb0, hd1⟩ := row_says hrb
          rw [hrb] at IR SR
          rw [hb0] at CB
          rw [hd1] at IDR
          clear hb0 hd1 hrb
          go_region_held3 (fun W => W.cell? ⟨XR, 0, none⟩ = some (.int .i64 rq) ∧ W.cell? ⟨XR, 1, none⟩ = some (.slice rL rn rc) ∧ W.cell? ⟨XR, 2, none⟩ = some (.slice rA rm rd) ∧ W.cell? ⟨XF, 0, none⟩ = some (.int .i64 f0) ∧ W.cell? ⟨XF, 1, none⟩ = some (.slice fL f1 fc) ∧ W.cell? ⟨XF, 2, none⟩ = some (.slice fA f2 fd) ∧ W.cell? ⟨XG, 0, none⟩ = some (.int .i64 f0) ∧ W.cell? ⟨XG, 1, none⟩ = some (.slice gL f1 gc) ∧ W.cell? ⟨XG, 2, none⟩ = some (.slice gA f2 gd) ∧ W.cell? ⟨XU, 0, none⟩ = some (.int .i64 uq) ∧ W.cell? ⟨XU, 1, none⟩ = some (.slice uL un uc) ∧ W.cell? ⟨XU, 2, none⟩ = some (.slice uA um ud) ∧ W.cell? ⟨XU + 1, 0, none⟩ = some (.int .i64 vq) ∧ W.cell? ⟨XU + 1, 1, none⟩ = some (.slice vL vn vc) ∧ W.cell? ⟨XU + 1, 2, none⟩ = some (.slice vA vm vd))
            (refine ⟨?_, ?_, ?_, ?_, ?_, ?_, ?_, ?_, ?_, ?_, ?_, ?_, ?_, ?_, ?_⟩ <;> assumption)
            (first
              | (go_at_call 19; refine (IDR.out _ VR7.out.val).mono ?_; rintro e c8 ⟨rfl, hb⟩; have HB8 := Lib.hid (HB7.out.trans (hb.mono HB7.out.size)); have VR8 := Lib.hid (VR7.out.keep hb); have VF8 := Lib.hid (VF7.out.keep hb); have VG8 := Lib.hid (VG7.out.keep hb); have VU8 := Lib.hid (VU7.out.keep hb); have VV8 := Lib.hid (VV7.out.keep hb); have k7VR0 := VR8.out.box.c0; have k7VR1 := VR8.out.box.c1; have k7VR2 := VR8.out.box.c2; have k7VF0 := VF8.out.box.c0; have k7VF1 := VF8.out.box.c1; have k7VF2 := VF8.out.box.c2; have k7VG0 := VG8.out.box.c0; have k7VG1 := VG8.out.box.c1; have k7VG2 := VG8.out.box.c2; have k7VU0 := VU8.out.box.c0; have k7VU1 := VU8.out.box.c1; have k7VU2 := VU8.out.box.c2; have k7VV0 := VV8.out.box.c0; have k7VV1 := VV8.out.box.c1; have k7VV2 := VV8.out.box.c2; clear hb)
              | (go_at_call 15; refine (CB.out _ VR6.out.val).mono ?_; rintro e c7 ⟨rfl, hb⟩; have HB7 := Lib.hid (HB6.out.trans (hb.mono HB6.out.size)); have VR7 := Lib.hid (VR6.out.keep hb); have VF7 := Lib.hid (VF6.out.keep hb); have VG7 := Lib.hid (VG6.out.keep hb); have VU7 := Lib.hid (VU6.out.keep hb); have VV7 := Lib.hid (VV6.out.keep hb); have k6VR0 := VR7.out.box.c0; have k6VR1 := VR7.out.box.c1; have k6VR2 := VR7.out.box.c2; have k6VF0 := VF7.out.box.c0; have k6VF1 := VF7.out.box.c1; have k6VF2 := VF7.out.box.c2; have k6VG0 := VG7.out.box.c0; have k6VG1 := VG7.out.box.c1; have k6VG2 := VG7.out.box.c2; have k6VU0 := VU7.out.box.c0; have k6VU1 := VU7.out.box.c1; have k6VU2 := VU7.out.box.c2; have k6VV0 := VV7.out.box.c0; have k6VV1 := VV7.out.box.c1; have k6VV2 := VV7.out.box.c2; clear hb)
              | (go_at_call 26; refine (IR.out _ VR5.out.val).mono ?_; rintro e c6 ⟨rfl, hb⟩; have HB6 := Lib.hid (HB5.out.trans (hb.mono HB5.out.size)); have VR6 := Lib.hid (VR5.out.keep hb); have VF6 := Lib.hid (VF5.out.keep hb); have VG6 := Lib.hid (VG5.out.keep hb); have VU6 := Lib.hid (VU5.out.keep hb); have VV6 := Lib.hid (VV5.out.keep hb); have k5VR0 := VR6.out.box.c0; have k5VR1 := VR6.out.box.c1; have k5VR2 := VR6.out.box.c2; have k5VF0 := VF6.out.box.c0; have k5VF1 := VF6.out.box.c1; have k5VF2 := VF6.out.box.c2; have k5VG0 := VG6.out.box.c0; have k5VG1 := VG6.out.box.c1; have k5VG2 := VG6.out.box.c2; have k5VU0 := VU6.out.box.c0; have k5VU1 := VU6.out.box.c1; have k5VU2 := VU6.out.box.c2; have k5VV0 := VV6.out.box.c0; have k5VV1 := VV6.out.box.c1; have k5VV2 := VV6.out.box.c2; clear hb)
              | (go_at_call 29; refine (SUV.out _ VU4.out.val VV4.out.val).mono ?_; rintro e c5 ⟨rfl, hb⟩; have HB5 := Lib.hid (HB4.out.trans (hb.mono HB4.out.size)); have VR5 := Lib.hid (VR4.out.keep hb); have VF5 := Lib.hid (VF4.out.keep hb); have VG5 := Lib.hid (VG4.out.keep hb); have VU5 := Lib.hid (VU4.out.keep hb); have VV5 := Lib.hid (VV4.out.keep hb); have k4VR0 := VR5.out.box.c0; have k4VR1 := VR5.out.box.c1; have k4VR2 := VR5.out.box.c2; have k4VF0 := VF5.out.box.c0; have k4VF1 := VF5.out.box.c1; have k4VF2 := VF5.out.box.c2; have k4VG0 := VG5.out.box.c0; have k4VG1 := VG5.out.box.c1; have k4VG2 := VG5.out.box.c2; have k4VU0 := VU5.out.box.c0; have k4VU1 := VU5.out.box.c1; have k4VU2 := VU5.out.box.c2; have k4VV0 := VV5.out.box.c0; have k4VV1 := VV5.out.box.c1; have k4VV2 := VV5.out.box.c2; clear hb)
              | (go_at_call 28; refine (EUV.out _ VU3.out.val VV3.out.val).mono ?_; rintro e c4 ⟨rfl, hb⟩; have HB4 := Lib.hid (HB3.out.trans (hb.mono HB3.out.size)); have VR4 := Lib.hid (VR3.out.keep hb); have VF4 := Lib.hid (VF3.out.keep hb); have VG4 := Lib.hid (VG3.out.keep hb); have VU4 := Lib.hid (VU3.out.keep hb); have VV4 := Lib.hid (VV3.out.keep hb); have k3VR0 := VR4.out.box.c0; have k3VR1 := VR4.out.box.c1; have k3VR2 := VR4.out.box.c2; have k3VF0 := VF4.out.box.c0; have k3VF1 := VF4.out.box.c1; have k3VF2 := VF4.out.box.c2; have k3VG0 := VG4.out.box.c0; have k3VG1 := VG4.out.box.c1; have k3VG2 := VG4.out.box.c2; have k3VU0 := VU4.out.box.c0; have k3VU1 := VU4.out.box.c1; have k3VU2 := VU4.out.box.c2; have k3VV0 := VV4.out.box.c0; have k3VV1 := VV4.out.box.c1; have k3VV2 := VV4.out.box.c2; clear hb)
              | (go_at_call 28; refine (EFG.out _ VF2.out.val VG2.out.val).mono ?_; rintro e c3 ⟨rfl, hb⟩; have HB3 := Lib.hid (HB2.out.trans (hb.mono HB2.out.size)); have VR3 := Lib.hid (VR2.out.keep hb); have VF3 := Lib.hid (VF2.out.keep hb); have VG3 := Lib.hid (VG2.out.keep hb); have VU3 := Lib.hid (VU2.out.keep hb); have VV3 := Lib.hid (VV2.out.keep hb); have k2VR0 := VR3.out.box.c0; have k2VR1 := VR3.out.box.c1; have k2VR2 := VR3.out.box.c2; have k2VF0 := VF3.out.box.c0; have k2VF1 := VF3.out.box.c1; have k2VF2 := VF3.out.box.c2; have k2VG0 := VG3.out.box.c0; have k2VG1 := VG3.out.box.c1; have k2VG2 := VG3.out.box.c2; have k2VU0 := VU3.out.box.c0; have k2VU1 := VU3.out.box.c1; have k2VU2 := VU3.out.box.c2; have k2VV0 := VV3.out.box.c0; have k2VV1 := VV3.out.box.c1; have k2VV2 := VV3.out.box.c2; clear hb)
              | (go_at_call 27; refine (SR.out _ VR1.out.val).mono ?_; rintro e c2 ⟨rfl, hb⟩; have HB2 := Lib.hid (HB1.out.trans (hb.mono HB1.out.size)); have VR2 := Lib.hid (VR1.out.keep hb); have VF2 := Lib.hid (VF1.out.keep hb); have VG2 := Lib.hid (VG1.out.keep hb); have VU2 := Lib.hid (VU1.out.keep hb); have VV2 := Lib.hid (VV1.out.keep hb); have k1VR0 := VR2.out.box.c0; have k1VR1 := VR2.out.box.c1; have k1VR2 := VR2.out.box.c2; have k1VF0 := VF2.out.box.c0; have k1VF1 := VF2.out.box.c1; have k1VF2 := VF2.out.box.c2; have k1VG0 := VG2.out.box.c0; have k1VG1 := VG2.out.box.c1; have k1VG2 := VG2.out.box.c2; have k1VU0 := VU2.out.box.c0; have k1VU1 := VU2.out.box.c1; have k1VU2 := VU2.out.box.c2; have k1VV0 := VV2.out.box.c0; have k1VV1 := VV2.out.box.c1; have k1VV2 := VV2.out.box.c2; clear hb)
              | (go_at_call 26; refine (IR.out _ VR0.out.val).mono ?_; rintro e c1 ⟨rfl, hb⟩; have HB1 := Lib.hid (HB0.out.trans (hb.mono HB0.out.size)); have VR1 := Lib.hid (VR0.out.keep hb); have VF1 := Lib.hid (VF0.out.keep hb); have VG1 := Lib.hid (VG0.out.keep hb); have VU1 := Lib.hid (VU0.out.keep hb); have VV1 := Lib.hid (VV0.out.keep hb); have k0VR0 := VR1.out.box.c0; have k0VR1 := VR1.out.box.c1; have k0VR2 := VR1.out.box.c2; have k0VF0 := VF1.out.box.c0; have k0VF1 := VF1.out.box.c1; have k0VF2 := VF1.out.box.c2; have k0VG0 := VG1.out.box.c0; have k0VG1 := VG1.out.box.c1; have k0VG2 := VG1.out.box.c2; have k0VU0 := VU1.out.box.c0; have k0VU1 := VU1.out.box.c1; have k0VU2 := VU1.out.box.c2; have k0VV0 := VV1.out.box.c0; have k0VV1 := VV1.out.box.c1; have k0VV2 := VV1.out.box.c2; clear hb))
          have HY : Hid (LawYes w (.returned (.bool true)) c8) := ⟨rfl, HB8.out⟩
          clear k0VR0 k0VR1 k0VR2 k0VF0 k0VF1 k0VF2 k0VG0 k0VG1 k0VG2 k0VU0 k0VU1 k0VU2 k0VV0 k0VV1 k0VV2 k1VR0 k1VR1 k1VR2 k1VF0 k1VF1 k1VF2 k1VG0 k1VG1 k1VG2 k1VU0 k1VU1 k1VU2 k1VV0 k1VV1 k1VV2 k2VR0 k2VR1 k2VR2 k2VF0 k2VF1 k2VF2 k2VG0 k2VG1 k2VG2 k2VU0 k2VU1 k2VU2 k2VV0 k2VV1 k2VV2 k3VR0 k3VR1 k3VR2 k3VF0 k3VF1 k3VF2 k3VG0 k3VG1 k3VG2 k3VU0 k3VU1 k3VU2 k3VV0 k3VV1 k3VV2 k4VR0 k4VR1 k4VR2 k4VF0 k4VF1 k4VF2 k4VG0 k4VG1 k4VG2 k4VU0 k4VU1 k4VU2 k4VV0 k4VV1 k4VV2 k5VR0 k5VR1 k5VR2 k5VF0 k5VF1 k5VF2 k5VG0 k5VG1 k5VG2 k5VU0 k5VU1 k5VU2 k5VV0 k5VV1 k5VV2 k6VR0 k6VR1 k6VR2 k6VF0 k6VF1 k6VF2 k6VG0 k6VG1 k6VG2 k6VU0 k6VU1 k6VU2 k6VV0 k6VV1 k6VV2 k7VR0 k7VR1 k7VR2 k7VF0 k7VF1 k7VF2 k7VG0 k7VG1 k7VG2 k7VU0 k7VU1 k7VU2 k7VV0 k7VV1 k7VV2 gVR0 gVR1 gVR2 gVF0 gVF1 gVF2 gVG0 gVG1 gVG2 gVU0 gVU1 gVU2 gVV0 gVV1 gVV2
          go_wp2_with fail
          go_ret
          exact HY.out
        · have hrf : rowB r = false := by simpa using hrb
          rw [hrf] at IR SR
          clear hrb hrf CB IDR
          refine wp_region_noPanic ?_
          refine wp_region_held_drew (S := (fun W => W.cell? ⟨XR, 0, none⟩ = some (.int .i64 rq) ∧ W.cell? ⟨XR, 1, none⟩ = some (.slice rL rn rc) ∧ W.cell? ⟨XR, 2, none⟩ = some (.slice rA rm rd) ∧ W.cell? ⟨XF, 0, none⟩ = some (.int .i64 f0) ∧ W.cell? ⟨XF, 1, none⟩ = some (.slice fL f1 fc) ∧ W.cell? ⟨XF, 2, none⟩ = some (.slice fA f2 fd) ∧ W.cell? ⟨XG, 0, none⟩ = some (.int .i64 f0) ∧ W.cell? ⟨XG, 1, none⟩ = some (.slice gL f1 gc) ∧ W.cell? ⟨XG, 2, none⟩ = some (.slice gA f2 gd) ∧ W.cell? ⟨XU, 0, none⟩ = some (.int .i64 uq) ∧ W.cell? ⟨XU, 1, none⟩ = some (.slice uL un uc) ∧ W.cell? ⟨XU, 2, none⟩ = some (.slice uA um ud) ∧ W.cell? ⟨XU + 1, 0, none⟩ = some (.int .i64 vq) ∧ W.cell? ⟨XU + 1, 1, none⟩ = some (.slice vL vn vc) ∧ W.cell? ⟨XU + 1, 2, none⟩ = some (.slice vA vm vd))) (by kernel_rfl) ?_ (fun hHeld => ?_)
          · (try dsimp only); (refine ⟨?_, ?_, ?_, ?_, ?_, ?_, ?_, ?_, ?_, ?_, ?_, ?_, ?_, ?_, ?_⟩ <;> assumption)
          refine wpAnyH_take (i := 0) (oi := { dst := some 116, op := Op.load 27 (Operand.tmp 8), type := 27, pos := "laws.go:239", after := #[], guard := none }) (v := ?v0b) rfl (by kernel_rfl) (by kernel_rfl) (by kernel_rfl) (fun _ _ _ h => h) (Or.inl ⟨by rfl, ?y0b⟩) (by assumption) ?r0b
          case y0b => (intro w' hSw; (try dsimp only at hSw); go_simp; all_goals with_reducible rfl)
          try simp only [Act.put, List.setIfInBounds_toArray, List.set_cons_zero, List.set_cons_succ]
          refine wpAnyH_take (i := 2) (oi := { dst := some 118, op := Op.load 27 (Operand.tmp 8), type := 27, pos := "laws.go:239", after := #[], guard := none }) (v := ?v2b) rfl (by kernel_rfl) (by kernel_rfl) (by kernel_rfl) (fun _ _ _ h => h) (Or.inl ⟨by rfl, ?y2b⟩) (by assumption) ?r2b
          case y2b => (intro w' hSw; (try dsimp only at hSw); go_simp; all_goals with_reducible rfl)
          try simp only [Act.put, List.setIfInBounds_toArray, List.set_cons_zero, List.set_cons_succ]
          refine wpAnyH_ready (rs := [1]) (by kernel_rfl) (by simp) ?_
          refine AllReadyH.cons (o := { dst := some 117, op := Op.call { callee := Callee.value (Operand.func 26), args := #[Operand.tmp 116], argTypes := #[27] }, type := 4, pos := "laws.go:239", after := #[{ on := 0, ground := Ground.data }], guard := none }) rfl (fun K hK => ?_) AllReadyH.nil
          clear hHeld
          go_simp
          go_at_call 26
          refine (IR.out _ VR0.out.val).mono ?_
          rintro e c1 ⟨rfl, hb⟩
          have HB1 := Lib.hid (HB0.out.trans (hb.mono HB0.out.size))
          have VR1 := Lib.hid (VR0.out.keep hb)
          have VF1 := Lib.hid (VF0.out.keep hb)
          have VG1 := Lib.hid (VG0.out.keep hb)
          have VU1 := Lib.hid (VU0.out.keep hb)
          have VV1 := Lib.hid (VV0.out.keep hb)
          have k0VR0 := VR1.out.box.c0
          have k0VR1 := VR1.out.box.c1
          have k0VR2 := VR1.out.box.c2
          have k0VF0 := VF1.out.box.c0
          have k0VF1 := VF1.out.box.c1
          have k0VF2 := VF1.out.box.c2
          have k0VG0 := VG1.out.box.c0
          have k0VG1 := VG1.out.box.c1
          have k0VG2 := VG1.out.box.c2
          have k0VU0 := VU1.out.box.c0
          have k0VU1 := VU1.out.box.c1
          have k0VU2 := VU1.out.box.c2
          have k0VV0 := VV1.out.box.c0
          have k0VV1 := VV1.out.box.c1
          have k0VV2 := VV1.out.box.c2
          clear hb
          go_wp2_with fail
          refine hK.out _ _ ?_ (fun hHeld => ?_)
          · (try dsimp only); (refine ⟨?_, ?_, ?_, ?_, ?_, ?_, ?_, ?_, ?_, ?_, ?_, ?_, ?_, ?_, ?_⟩ <;> assumption)
          clear hK K
          try simp only [Act.put, List.setIfInBounds_toArray, List.set_cons_zero, List.set_cons_succ]
          refine wpAnyH_ready (rs := [3]) (by kernel_rfl) (by simp) ?_
          refine AllReadyH.cons (o := { dst := some 119, op := Op.call { callee := Callee.value (Operand.func 27), args := #[Operand.tmp 118], argTypes := #[27] }, type := 4, pos := "laws.go:239", after := #[{ on := 2, ground := Ground.data }, { on := 1, ground := Ground.chain }], guard := none }) rfl (fun K hK => ?_) AllReadyH.nil
          clear hHeld
          go_simp
          go_at_call 27
          refine (SR.out _ VR1.out.val).mono ?_
          rintro e c2 ⟨rfl, hb⟩
          have HB2 := Lib.hid (HB1.out.trans (hb.mono HB1.out.size))
          have VR2 := Lib.hid (VR1.out.keep hb)
          have VF2 := Lib.hid (VF1.out.keep hb)
          have VG2 := Lib.hid (VG1.out.keep hb)
          have VU2 := Lib.hid (VU1.out.keep hb)
          have VV2 := Lib.hid (VV1.out.keep hb)
          have k1VR0 := VR2.out.box.c0
          have k1VR1 := VR2.out.box.c1
          have k1VR2 := VR2.out.box.c2
          have k1VF0 := VF2.out.box.c0
          have k1VF1 := VF2.out.box.c1
          have k1VF2 := VF2.out.box.c2
          have k1VG0 := VG2.out.box.c0
          have k1VG1 := VG2.out.box.c1
          have k1VG2 := VG2.out.box.c2
          have k1VU0 := VU2.out.box.c0
          have k1VU1 := VU2.out.box.c1
          have k1VU2 := VU2.out.box.c2
          have k1VV0 := VV2.out.box.c0
          have k1VV1 := VV2.out.box.c1
          have k1VV2 := VV2.out.box.c2
          clear hb
          go_wp2_with fail
          refine hK.out _ _ ?_ (fun hHeld => ?_)
          · (try dsimp only); (refine ⟨?_, ?_, ?_, ?_, ?_, ?_, ?_, ?_, ?_, ?_, ?_, ?_, ?_, ?_, ?_⟩ <;> assumption)
          clear hK K
          try simp only [Act.put, List.setIfInBounds_toArray, List.set_cons_zero, List.set_cons_succ]
          refine wpAnyH_take (i := 4) (oi := { dst := some 120, op := Op.binOp BinOp.eql 4 (Operand.tmp 117) (Operand.tmp 119) 4, type := 4, pos := "laws.go:239", after := #[{ on := 1, ground := Ground.data }, { on := 3, ground := Ground.data }], guard := none }) (v := ?v4b) rfl (by kernel_rfl) (by kernel_rfl) (by kernel_rfl) (fun _ _ _ h => h) (Or.inl ⟨by rfl, ?y4b⟩) (by assumption) ?r4b
          case y4b => (intro w' hSw; (try dsimp only at hSw); go_simp; all_goals with_reducible rfl)
          try simp only [Act.put, List.setIfInBounds_toArray, List.set_cons_zero, List.set_cons_succ]
          refine wpAnyH_take (i := 5) (oi := { dst := some 121, op := Op.move (Operand.tmp 120), type := 4, pos := "laws.go:239", after := #[{ on := 4, ground := Ground.data }, { on := 3, ground := Ground.chain }], guard := none }) (v := ?v5b) rfl (by kernel_rfl) (by kernel_rfl) (by kernel_rfl) (fun _ _ _ h => h) (Or.inl ⟨by rfl, ?y5b⟩) (by assumption) ?r5b
          case y5b => (intro w' hSw; (try dsimp only at hSw); go_simp; all_goals with_reducible rfl)
          try simp only [Act.put, List.setIfInBounds_toArray, List.set_cons_zero, List.set_cons_succ]
          refine wpAnyH_take (i := 6) (oi := { dst := some 122, op := Op.move (Operand.tmp 12), type := 4, pos := "laws.go:239", after := #[{ on := 5, ground := Ground.guard }], guard := some (5, true) }) (v := ?v6b) rfl (by kernel_rfl) (by kernel_rfl) (by kernel_rfl) (fun _ _ _ h => h) (Or.inl ⟨by rfl, ?y6b⟩) (by assumption) ?r6b
          case y6b => (intro w' hSw; (try dsimp only at hSw); go_simp; all_goals with_reducible rfl)
          try simp only [Act.put, List.setIfInBounds_toArray, List.set_cons_zero, List.set_cons_succ]
          refine wpAnyH_take (i := 7) (oi := { dst := some 123, op := Op.move (Operand.tmp 14), type := 4, pos := "laws.go:239", after := #[{ on := 5, ground := Ground.guard }], guard := some (5, true) }) (v := ?v7b) rfl (by kernel_rfl) (by kernel_rfl) (by kernel_rfl) (fun _ _ _ h => h) (Or.inl ⟨by rfl, ?y7b⟩) (by assumption) ?r7b
          case y7b => (intro w' hSw; (try dsimp only at hSw); go_simp; all_goals with_reducible rfl)
          try simp only [Act.put, List.setIfInBounds_toArray, List.set_cons_zero, List.set_cons_succ]
          refine wpAnyH_take (i := 8) (oi := { dst := some 124, op := Op.binOp BinOp.eql 4 (Operand.tmp 122) (Operand.tmp 123) 4, type := 4, pos := "laws.go:239", after := #[{ on := 6, ground := Ground.data }, { on := 7, ground := Ground.data }, { on := 5, ground := Ground.guard }], guard := some (5, true) }) (v := ?v8b) rfl (by kernel_rfl) (by kernel_rfl) (by kernel_rfl) (fun _ _ _ h => h) (Or.inl ⟨by rfl, ?y8b⟩) (by assumption) ?r8b
          case y8b => (intro w' hSw; (try dsimp only at hSw); go_simp; all_goals with_reducible rfl)
          try simp only [Act.put, List.setIfInBounds_toArray, List.set_cons_zero, List.set_cons_succ]
          refine wpAnyH_take (i := 9) (oi := { dst := some 125, op := Op.pick (Operand.tmp 121) (Operand.tmp 124) (Operand.const (Value.bool false)), type := 4, pos := "laws.go:239", after := #[{ on := 5, ground := Ground.data }, { on := 8, ground := Ground.data }], guard := none }) (v := ?v9b) rfl (by kernel_rfl) (by kernel_rfl) (by kernel_rfl) (fun _ _ _ h => h) (Or.inl ⟨by rfl, ?y9b⟩) (by assumption) ?r9b
          case y9b => (intro w' hSw; (try dsimp only at hSw); go_simp; all_goals with_reducible rfl)
          try simp only [Act.put, List.setIfInBounds_toArray, List.set_cons_zero, List.set_cons_succ]
          refine wpAnyH_take (i := 10) (oi := { dst := some 126, op := Op.move (Operand.tmp 125), type := 4, pos := "laws.go:239", after := #[{ on := 9, ground := Ground.data }, { on := 5, ground := Ground.chain }], guard := none }) (v := ?v10b) rfl (by kernel_rfl) (by kernel_rfl) (by kernel_rfl) (fun _ _ _ h => h) (Or.inl ⟨by rfl, ?y10b⟩) (by assumption) ?r10b
          case y10b => (intro w' hSw; (try dsimp only at hSw); go_simp; all_goals with_reducible rfl)
          try simp only [Act.put, List.setIfInBounds_toArray, List.set_cons_zero, List.set_cons_succ]
          refine wpAnyH_take (i := 11) (oi := { dst := some 127, op := Op.load 27 (Operand.tmp 11), type := 27, pos := "laws.go:239", after := #[{ on := 10, ground := Ground.guard }], guard := some (10, true) }) (v := ?v11b) rfl (by kernel_rfl) (by kernel_rfl) (by kernel_rfl) (fun _ _ _ h => h) (Or.inl ⟨by rfl, ?y11b⟩) (by assumption) ?r11b
          case y11b => (intro w' hSw; (try dsimp only at hSw); go_simp; all_goals with_reducible rfl)
          try simp only [Act.put, List.setIfInBounds_toArray, List.set_cons_zero, List.set_cons_succ]
          refine wpAnyH_take (i := 12) (oi := { dst := some 128, op := Op.load 27 (Operand.tmp 13), type := 27, pos := "laws.go:239", after := #[{ on := 10, ground := Ground.guard }], guard := some (10, true) }) (v := ?v12b) rfl (by kernel_rfl) (by kernel_rfl) (by kernel_rfl) (fun _ _ _ h => h) (Or.inl ⟨by rfl, ?y12b⟩) (by assumption) ?r12b
          case y12b => (intro w' hSw; (try dsimp only at hSw); go_simp; all_goals with_reducible rfl)
          try simp only [Act.put, List.setIfInBounds_toArray, List.set_cons_zero, List.set_cons_succ]
          refine wpAnyH_ready (rs := [13]) (by kernel_rfl) (by simp) ?_
          refine AllReadyH.cons (o := { dst := some 129, op := Op.call { callee := Callee.value (Operand.func 28), args := #[Operand.tmp 127, Operand.tmp 128], argTypes := #[27, 27] }, type := 4, pos := "laws.go:239", after := #[{ on := 11, ground := Ground.data }, { on := 12, ground := Ground.data }, { on := 10, ground := Ground.chain }, { on := 10, ground := Ground.guard }], guard := some (10, true) }) rfl (fun K hK => ?_) AllReadyH.nil
          clear hHeld
          go_simp
          go_at_call 28
          refine (EFG.out _ VF2.out.val VG2.out.val).mono ?_
          rintro e c3 ⟨rfl, hb⟩
          have HB3 := Lib.hid (HB2.out.trans (hb.mono HB2.out.size))
          have VR3 := Lib.hid (VR2.out.keep hb)
          have VF3 := Lib.hid (VF2.out.keep hb)
          have VG3 := Lib.hid (VG2.out.keep hb)
          have VU3 := Lib.hid (VU2.out.keep hb)
          have VV3 := Lib.hid (VV2.out.keep hb)
          have k2VR0 := VR3.out.box.c0
          have k2VR1 := VR3.out.box.c1
          have k2VR2 := VR3.out.box.c2
          have k2VF0 := VF3.out.box.c0
          have k2VF1 := VF3.out.box.c1
          have k2VF2 := VF3.out.box.c2
          have k2VG0 := VG3.out.box.c0
          have k2VG1 := VG3.out.box.c1
          have k2VG2 := VG3.out.box.c2
          have k2VU0 := VU3.out.box.c0
          have k2VU1 := VU3.out.box.c1
          have k2VU2 := VU3.out.box.c2
          have k2VV0 := VV3.out.box.c0
          have k2VV1 := VV3.out.box.c1
          have k2VV2 := VV3.out.box.c2
          clear hb
          go_wp2_with fail
          refine hK.out _ _ ?_ (fun hHeld => ?_)
          · (try dsimp only); (refine ⟨?_, ?_, ?_, ?_, ?_, ?_, ?_, ?_, ?_, ?_, ?_, ?_, ?_, ?_, ?_⟩ <;> assumption)
          clear hK K
          try simp only [Act.put, List.setIfInBounds_toArray, List.set_cons_zero, List.set_cons_succ]
          refine wpAnyH_take (i := 14) (oi := { dst := some 130, op := Op.pick (Operand.tmp 126) (Operand.tmp 129) (Operand.const (Value.bool false)), type := 4, pos := "laws.go:239", after := #[{ on := 10, ground := Ground.data }, { on := 13, ground := Ground.data }], guard := none }) (v := ?v14b) rfl (by kernel_rfl) (by kernel_rfl) (by kernel_rfl) (fun _ _ _ h => h) (Or.inl ⟨by rfl, ?y14b⟩) (by assumption) ?r14b
          case y14b => (intro w' hSw; (try dsimp only at hSw); go_simp; all_goals with_reducible rfl)
          try simp only [Act.put, List.setIfInBounds_toArray, List.set_cons_zero, List.set_cons_succ]
          refine wpAnyH_take (i := 15) (oi := { dst := some 131, op := Op.move (Operand.tmp 130), type := 4, pos := "laws.go:239", after := #[{ on := 14, ground := Ground.data }, { on := 13, ground := Ground.chain }], guard := none }) (v := ?v15b) rfl (by kernel_rfl) (by kernel_rfl) (by kernel_rfl) (fun _ _ _ h => h) (Or.inl ⟨by rfl, ?y15b⟩) (by assumption) ?r15b
          case y15b => (intro w' hSw; (try dsimp only at hSw); go_simp; all_goals with_reducible rfl)
          try simp only [Act.put, List.setIfInBounds_toArray, List.set_cons_zero, List.set_cons_succ]
          refine wpAnyH_take (i := 16) (oi := { dst := some 132, op := Op.load 27 (Operand.tmp 15), type := 27, pos := "laws.go:239", after := #[{ on := 15, ground := Ground.guard }], guard := some (15, true) }) (v := ?v16b) rfl (by kernel_rfl) (by kernel_rfl) (by kernel_rfl) (fun _ _ _ h => h) (Or.inl ⟨by rfl, ?y16b⟩) (by assumption) ?r16b
          case y16b => (intro w' hSw; (try dsimp only at hSw); go_simp; all_goals with_reducible rfl)
          try simp only [Act.put, List.setIfInBounds_toArray, List.set_cons_zero, List.set_cons_succ]
          refine wpAnyH_take (i := 17) (oi := { dst := some 133, op := Op.load 27 (Operand.tmp 16), type := 27, pos := "laws.go:239", after := #[{ on := 15, ground := Ground.guard }], guard := some (15, true) }) (v := ?v17b) rfl (by kernel_rfl) (by kernel_rfl) (by kernel_rfl) (fun _ _ _ h => h) (Or.inl ⟨by rfl, ?y17b⟩) (by assumption) ?r17b
          case y17b => (intro w' hSw; (try dsimp only at hSw); go_simp; all_goals with_reducible rfl)
          try simp only [Act.put, List.setIfInBounds_toArray, List.set_cons_zero, List.set_cons_succ]
          refine wpAnyH_take (i := 19) (oi := { dst := some 135, op := Op.load 27 (Operand.tmp 15), type := 27, pos := "laws.go:239", after := #[{ on := 15, ground := Ground.guard }], guard := some (15, true) }) (v := ?v19b) rfl (by kernel_rfl) (by kernel_rfl) (by kernel_rfl) (fun _ _ _ h => h) (Or.inl ⟨by rfl, ?y19b⟩) (by assumption) ?r19b
          case y19b => (intro w' hSw; (try dsimp only at hSw); go_simp; all_goals with_reducible rfl)
          try simp only [Act.put, List.setIfInBounds_toArray, List.set_cons_zero, List.set_cons_succ]
          refine wpAnyH_take (i := 20) (oi := { dst := some 136, op := Op.load 27 (Operand.tmp 16), type := 27, pos := "laws.go:239", after := #[{ on := 15, ground := Ground.guard }], guard := some (15, true) }) (v := ?v20b) rfl (by kernel_rfl) (by kernel_rfl) (by kernel_rfl) (fun _ _ _ h => h) (Or.inl ⟨by rfl, ?y20b⟩) (by assumption) ?r20b
          case y20b => (intro w' hSw; (try dsimp only at hSw); go_simp; all_goals with_reducible rfl)
          try simp only [Act.put, List.setIfInBounds_toArray, List.set_cons_zero, List.set_cons_succ]
          refine wpAnyH_ready (rs := [18]) (by kernel_rfl) (by simp) ?_
          refine AllReadyH.cons (o := { dst := some 134, op := Op.call { callee := Callee.value (Operand.func 28), args := #[Operand.tmp 132, Operand.tmp 133], argTypes := #[27, 27] }, type := 4, pos := "laws.go:239", after := #[{ on := 16, ground := Ground.data }, { on := 17, ground := Ground.data }, { on := 15, ground := Ground.chain }, { on := 15, ground := Ground.guard }], guard := some (15, true) }) rfl (fun K hK => ?_) AllReadyH.nil
          clear hHeld
          go_simp
          go_at_call 28
          refine (EUV.out _ VU3.out.val VV3.out.val).mono ?_
          rintro e c4 ⟨rfl, hb⟩
          have HB4 := Lib.hid (HB3.out.trans (hb.mono HB3.out.size))
          have VR4 := Lib.hid (VR3.out.keep hb)
          have VF4 := Lib.hid (VF3.out.keep hb)
          have VG4 := Lib.hid (VG3.out.keep hb)
          have VU4 := Lib.hid (VU3.out.keep hb)
          have VV4 := Lib.hid (VV3.out.keep hb)
          have k3VR0 := VR4.out.box.c0
          have k3VR1 := VR4.out.box.c1
          have k3VR2 := VR4.out.box.c2
          have k3VF0 := VF4.out.box.c0
          have k3VF1 := VF4.out.box.c1
          have k3VF2 := VF4.out.box.c2
          have k3VG0 := VG4.out.box.c0
          have k3VG1 := VG4.out.box.c1
          have k3VG2 := VG4.out.box.c2
          have k3VU0 := VU4.out.box.c0
          have k3VU1 := VU4.out.box.c1
          have k3VU2 := VU4.out.box.c2
          have k3VV0 := VV4.out.box.c0
          have k3VV1 := VV4.out.box.c1
          have k3VV2 := VV4.out.box.c2
          clear hb
          go_wp2_with fail
          refine hK.out _ _ ?_ (fun hHeld => ?_)
          · (try dsimp only); (refine ⟨?_, ?_, ?_, ?_, ?_, ?_, ?_, ?_, ?_, ?_, ?_, ?_, ?_, ?_, ?_⟩ <;> assumption)
          clear hK K
          try simp only [Act.put, List.setIfInBounds_toArray, List.set_cons_zero, List.set_cons_succ]
          refine wpAnyH_ready (rs := [21]) (by kernel_rfl) (by simp) ?_
          refine AllReadyH.cons (o := { dst := some 137, op := Op.call { callee := Callee.value (Operand.func 29), args := #[Operand.tmp 135, Operand.tmp 136], argTypes := #[27, 27] }, type := 4, pos := "laws.go:239", after := #[{ on := 19, ground := Ground.data }, { on := 20, ground := Ground.data }, { on := 18, ground := Ground.chain }, { on := 15, ground := Ground.guard }], guard := some (15, true) }) rfl (fun K hK => ?_) AllReadyH.nil
          clear hHeld
          go_simp
          go_at_call 29
          refine (SUV.out _ VU4.out.val VV4.out.val).mono ?_
          rintro e c5 ⟨rfl, hb⟩
          have HB5 := Lib.hid (HB4.out.trans (hb.mono HB4.out.size))
          have VR5 := Lib.hid (VR4.out.keep hb)
          have VF5 := Lib.hid (VF4.out.keep hb)
          have VG5 := Lib.hid (VG4.out.keep hb)
          have VU5 := Lib.hid (VU4.out.keep hb)
          have VV5 := Lib.hid (VV4.out.keep hb)
          have k4VR0 := VR5.out.box.c0
          have k4VR1 := VR5.out.box.c1
          have k4VR2 := VR5.out.box.c2
          have k4VF0 := VF5.out.box.c0
          have k4VF1 := VF5.out.box.c1
          have k4VF2 := VF5.out.box.c2
          have k4VG0 := VG5.out.box.c0
          have k4VG1 := VG5.out.box.c1
          have k4VG2 := VG5.out.box.c2
          have k4VU0 := VU5.out.box.c0
          have k4VU1 := VU5.out.box.c1
          have k4VU2 := VU5.out.box.c2
          have k4VV0 := VV5.out.box.c0
          have k4VV1 := VV5.out.box.c1
          have k4VV2 := VV5.out.box.c2
          clear hb
          go_wp2_with fail
          refine hK.out _ _ ?_ (fun hHeld => ?_)
          · (try dsimp only); (refine ⟨?_, ?_, ?_, ?_, ?_, ?_, ?_, ?_, ?_, ?_, ?_, ?_, ?_, ?_, ?_⟩ <;> assumption)
          clear hK K
          try simp only [Act.put, List.setIfInBounds_toArray, List.set_cons_zero, List.set_cons_succ]
          refine wpAnyH_take (i := 22) (oi := { dst := some 138, op := Op.binOp BinOp.eql 4 (Operand.tmp 134) (Operand.tmp 137) 4, type := 4, pos := "laws.go:239", after := #[{ on := 18, ground := Ground.data }, { on := 21, ground := Ground.data }, { on := 15, ground := Ground.guard }], guard := some (15, true) }) (v := ?v22b) rfl (by kernel_rfl) (by kernel_rfl) (by kernel_rfl) (fun _ _ _ h => h) (Or.inl ⟨by rfl, ?y22b⟩) (by assumption) ?r22b
          case y22b => (intro w' hSw; (try dsimp only at hSw); go_simp; all_goals with_reducible rfl)
          try simp only [Act.put, List.setIfInBounds_toArray, List.set_cons_zero, List.set_cons_succ]
          refine wpAnyH_take (i := 23) (oi := { dst := some 139, op := Op.pick (Operand.tmp 131) (Operand.tmp 138) (Operand.const (Value.bool false)), type := 4, pos := "laws.go:239", after := #[{ on := 15, ground := Ground.data }, { on := 22, ground := Ground.data }], guard := none }) (v := ?v23b) rfl (by kernel_rfl) (by kernel_rfl) (by kernel_rfl) (fun _ _ _ h => h) (Or.inl ⟨by rfl, ?y23b⟩) (by assumption) ?r23b
          case y23b => (intro w' hSw; (try dsimp only at hSw); go_simp; all_goals with_reducible rfl)
          try simp only [Act.put, List.setIfInBounds_toArray, List.set_cons_zero, List.set_cons_succ]
          refine wpAnyH_take (i := 24) (oi := { dst := some 140, op := Op.move (Operand.tmp 139), type := 4, pos := "laws.go:239", after := #[{ on := 23, ground := Ground.data }, { on := 21, ground := Ground.chain }], guard := none }) (v := ?v24b) rfl (by kernel_rfl) (by kernel_rfl) (by kernel_rfl) (fun _ _ _ h => h) (Or.inl ⟨by rfl, ?y24b⟩) (by assumption) ?r24b
          case y24b => (intro w' hSw; (try dsimp only at hSw); go_simp; all_goals with_reducible rfl)
          try simp only [Act.put, List.setIfInBounds_toArray, List.set_cons_zero, List.set_cons_succ]
          refine wpAnyH_take (i := 25) (oi := { dst := some 141, op := Op.load 27 (Operand.tmp 8), type := 27, pos := "laws.go:239", after := #[{ on := 24, ground := Ground.guard }], guard := some (24, true) }) (v := ?v25b) rfl (by kernel_rfl) (by kernel_rfl) (by kernel_rfl) (fun _ _ _ h => h) (Or.inl ⟨by rfl, ?y25b⟩) (by assumption) ?r25b
          case y25b => (intro w' hSw; (try dsimp only at hSw); go_simp; all_goals with_reducible rfl)
          try simp only [Act.put, List.setIfInBounds_toArray, List.set_cons_zero, List.set_cons_succ]
          refine wpAnyH_ready (rs := [26]) (by kernel_rfl) (by simp) ?_
          refine AllReadyH.cons (o := { dst := some 142, op := Op.call { callee := Callee.value (Operand.func 26), args := #[Operand.tmp 141], argTypes := #[27] }, type := 4, pos := "laws.go:239", after := #[{ on := 25, ground := Ground.data }, { on := 24, ground := Ground.chain }, { on := 24, ground := Ground.guard }], guard := some (24, true) }) rfl (fun K hK => ?_) AllReadyH.nil
          clear hHeld
          go_simp
          go_at_call 26
          refine (IR.out _ VR5.out.val).mono ?_
          rintro e c6 ⟨rfl, hb⟩
          have HB6 := Lib.hid (HB5.out.trans (hb.mono HB5.out.size))
          have VR6 := Lib.hid (VR5.out.keep hb)
          have VF6 := Lib.hid (VF5.out.keep hb)
          have VG6 := Lib.hid (VG5.out.keep hb)
          have VU6 := Lib.hid (VU5.out.keep hb)
          have VV6 := Lib.hid (VV5.out.keep hb)
          have k5VR0 := VR6.out.box.c0
          have k5VR1 := VR6.out.box.c1
          have k5VR2 := VR6.out.box.c2
          have k5VF0 := VF6.out.box.c0
          have k5VF1 := VF6.out.box.c1
          have k5VF2 := VF6.out.box.c2
          have k5VG0 := VG6.out.box.c0
          have k5VG1 := VG6.out.box.c1
          have k5VG2 := VG6.out.box.c2
          have k5VU0 := VU6.out.box.c0
          have k5VU1 := VU6.out.box.c1
          have k5VU2 := VU6.out.box.c2
          have k5VV0 := VV6.out.box.c0
          have k5VV1 := VV6.out.box.c1
          have k5VV2 := VV6.out.box.c2
          clear hb
          go_wp2_with fail
          refine hK.out _ _ ?_ (fun hHeld => ?_)
          · (try dsimp only); (refine ⟨?_, ?_, ?_, ?_, ?_, ?_, ?_, ?_, ?_, ?_, ?_, ?_, ?_, ?_, ?_⟩ <;> assumption)
          clear hK K
          try simp only [Act.put, List.setIfInBounds_toArray, List.set_cons_zero, List.set_cons_succ]
          refine wpAnyH_take (i := 27) (oi := { dst := some 143, op := Op.unOp UnOp.not 4 (Operand.tmp 142), type := 4, pos := "laws.go:239", after := #[{ on := 26, ground := Ground.data }, { on := 24, ground := Ground.guard }], guard := some (24, true) }) (v := ?v27b) rfl (by kernel_rfl) (by kernel_rfl) (by kernel_rfl) (fun _ _ _ h => h) (Or.inl ⟨by rfl, ?y27b⟩) (by assumption) ?r27b
          case y27b => (intro w' hSw; (try dsimp only at hSw); go_simp; all_goals with_reducible rfl)
          try simp only [Act.put, List.setIfInBounds_toArray, List.set_cons_zero, List.set_cons_succ]
          refine wpAnyH_take (i := 28) (oi := { dst := some 144, op := Op.move (Operand.tmp 143), type := 4, pos := "laws.go:239", after := #[{ on := 27, ground := Ground.data }, { on := 26, ground := Ground.chain }, { on := 24, ground := Ground.guard }], guard := some (24, true) }) (v := ?v28b) rfl (by kernel_rfl) (by kernel_rfl) (by kernel_rfl) (fun _ _ _ h => h) (Or.inl ⟨by rfl, ?y28b⟩) (by assumption) ?r28b
          case y28b => (intro w' hSw; (try dsimp only at hSw); go_simp; all_goals with_reducible rfl)
          try simp only [Act.put, List.setIfInBounds_toArray, List.set_cons_zero, List.set_cons_succ]
          refine wpAnyH_take (i := 29) (oi := { dst := some 145, op := Op.load 27 (Operand.tmp 8), type := 27, pos := "laws.go:239", after := #[{ on := 28, ground := Ground.guard }], guard := some (28, false) }) (v := undef) rfl (by kernel_rfl) (by kernel_rfl) (by kernel_rfl) (fun _ _ _ h => h) (Or.inr ⟨by rfl, rfl⟩) (by assumption) ?_
          try simp only [Act.put, List.setIfInBounds_toArray, List.set_cons_zero, List.set_cons_succ]
          refine wpAnyH_take (i := 30) (oi := { dst := some 146, op := Op.call { callee := Callee.value (Operand.func 15), args := #[Operand.tmp 145], argTypes := #[27] }, type := 3, pos := "laws.go:239", after := #[{ on := 29, ground := Ground.data }, { on := 28, ground := Ground.chain }, { on := 28, ground := Ground.guard }], guard := some (28, false) }) (v := undef) rfl (by kernel_rfl) (by kernel_rfl) (by kernel_rfl) (fun _ _ _ h => h) (Or.inr ⟨by rfl, rfl⟩) (by assumption) ?_
          try simp only [Act.put, List.setIfInBounds_toArray, List.set_cons_zero, List.set_cons_succ]
          refine wpAnyH_take (i := 31) (oi := { dst := some 147, op := Op.binOp BinOp.eql 3 (Operand.tmp 146) (Operand.const (Value.int IntKind.i64 0)) 3, type := 4, pos := "laws.go:239", after := #[{ on := 30, ground := Ground.data }, { on := 28, ground := Ground.guard }], guard := some (28, false) }) (v := undef) rfl (by kernel_rfl) (by kernel_rfl) (by kernel_rfl) (fun _ _ _ h => h) (Or.inr ⟨by rfl, rfl⟩) (by assumption) ?_
          try simp only [Act.put, List.setIfInBounds_toArray, List.set_cons_zero, List.set_cons_succ]
          refine wpAnyH_take (i := 32) (oi := { dst := some 148, op := Op.move (Operand.tmp 147), type := 4, pos := "laws.go:239", after := #[{ on := 31, ground := Ground.data }, { on := 30, ground := Ground.chain }, { on := 28, ground := Ground.guard }], guard := some (28, false) }) (v := undef) rfl (by kernel_rfl) (by kernel_rfl) (by kernel_rfl) (fun _ _ _ h => h) (Or.inr ⟨by rfl, rfl⟩) (by assumption) ?_
          try simp only [Act.put, List.setIfInBounds_toArray, List.set_cons_zero, List.set_cons_succ]
          refine wpAnyH_take (i := 33) (oi := { dst := some 149, op := Op.load 27 (Operand.tmp 8), type := 27, pos := "laws.go:239", after := #[{ on := 32, ground := Ground.guard }], guard := some (32, true) }) (v := undef) rfl (by kernel_rfl) (by kernel_rfl) (by kernel_rfl) (fun _ _ _ h => h) (Or.inr ⟨by rfl, rfl⟩) (by assumption) ?_
          try simp only [Act.put, List.setIfInBounds_toArray, List.set_cons_zero, List.set_cons_succ]
          refine wpAnyH_take (i := 34) (oi := { dst := some 150, op := Op.call { callee := Callee.value (Operand.func 19), args := #[Operand.tmp 149], argTypes := #[27] }, type := 4, pos := "laws.go:239", after := #[{ on := 33, ground := Ground.data }, { on := 32, ground := Ground.chain }, { on := 32, ground := Ground.guard }], guard := some (32, true) }) (v := undef) rfl (by kernel_rfl) (by kernel_rfl) (by kernel_rfl) (fun _ _ _ h => h) (Or.inr ⟨by rfl, rfl⟩) (by assumption) ?_
          try simp only [Act.put, List.setIfInBounds_toArray, List.set_cons_zero, List.set_cons_succ]
          refine wpAnyH_take (i := 35) (oi := { dst := some 151, op := Op.pick (Operand.tmp 148) (Operand.tmp 150) (Operand.const (Value.bool false)), type := 4, pos := "laws.go:239", after := #[{ on := 32, ground := Ground.data }, { on := 34, ground := Ground.data }, { on := 28, ground := Ground.guard }], guard := some (28, false) }) (v := undef) rfl (by kernel_rfl) (by kernel_rfl) (by kernel_rfl) (fun _ _ _ h => h) (Or.inr ⟨by rfl, rfl⟩) (by assumption) ?_
          try simp only [Act.put, List.setIfInBounds_toArray, List.set_cons_zero, List.set_cons_succ]
          refine wpAnyH_take (i := 36) (oi := { dst := some 152, op := Op.pick (Operand.tmp 144) (Operand.const (Value.bool true)) (Operand.tmp 151), type := 4, pos := "laws.go:239", after := #[{ on := 28, ground := Ground.data }, { on := 35, ground := Ground.data }, { on := 24, ground := Ground.guard }], guard := some (24, true) }) (v := ?v36b) rfl (by kernel_rfl) (by kernel_rfl) (by kernel_rfl) (fun _ _ _ h => h) (Or.inl ⟨by rfl, ?y36b⟩) (by assumption) ?r36b
          case y36b => (intro w' hSw; (try dsimp only at hSw); go_simp; all_goals with_reducible rfl)
          try simp only [Act.put, List.setIfInBounds_toArray, List.set_cons_zero, List.set_cons_succ]
          refine wpAnyH_take (i := 37) (oi := { dst := some 153, op := Op.pick (Operand.tmp 140) (Operand.tmp 152) (Operand.const (Value.bool false)), type := 4, pos := "laws.go:239", after := #[{ on := 24, ground := Ground.data }, { on := 36, ground := Ground.data }], guard := none }) (v := ?v37b) rfl (by kernel_rfl) (by kernel_rfl) (by kernel_rfl) (fun _ _ _ h => h) (Or.inl ⟨by rfl, ?y37b⟩) (by assumption) ?r37b
          case y37b => (intro w' hSw; (try dsimp only at hSw); go_simp; all_goals with_reducible rfl)
          try simp only [Act.put, List.setIfInBounds_toArray, List.set_cons_zero, List.set_cons_succ]
          refine wpAnyH_take (i := 38) (oi := { dst := some 2, op := Op.assign (Operand.tmp 153), type := 4, pos := "laws.go:239", after := #[{ on := 37, ground := Ground.data }, { on := 34, ground := Ground.chain }, { on := 0, ground := Ground.phase }, { on := 1, ground := Ground.phase }, { on := 2, ground := Ground.phase }, { on := 3, ground := Ground.phase }, { on := 4, ground := Ground.phase }, { on := 5, ground := Ground.phase }, { on := 6, ground := Ground.phase }, { on := 7, ground := Ground.phase }, { on := 8, ground := Ground.phase }, { on := 9, ground := Ground.phase }, { on := 10, ground := Ground.phase }, { on := 11, ground := Ground.phase }, { on := 12, ground := Ground.phase }, { on := 13, ground := Ground.phase }, { on := 14, ground := Ground.phase }, { on := 15, ground := Ground.phase }, { on := 16, ground := Ground.phase }, { on := 17, ground := Ground.phase }, { on := 18, ground := Ground.phase }, { on := 19, ground := Ground.phase }, { on := 20, ground := Ground.phase }, { on := 21, ground := Ground.phase }, { on := 22, ground := Ground.phase }, { on := 23, ground := Ground.phase }, { on := 24, ground := Ground.phase }, { on := 25, ground := Ground.phase }, { on := 26, ground := Ground.phase }, { on := 27, ground := Ground.phase }, { on := 28, ground := Ground.phase }, { on := 29, ground := Ground.phase }, { on := 30, ground := Ground.phase }, { on := 31, ground := Ground.phase }, { on := 32, ground := Ground.phase }, { on := 33, ground := Ground.phase }, { on := 34, ground := Ground.phase }, { on := 35, ground := Ground.phase }, { on := 36, ground := Ground.phase }, { on := 37, ground := Ground.phase }], guard := none }) (v := ?v38b) rfl (by kernel_rfl) (by kernel_rfl) (by kernel_rfl) (fun _ _ _ h => h) (Or.inl ⟨by rfl, ?y38b⟩) (by assumption) ?r38b
          case y38b => (intro w' hSw; (try dsimp only at hSw); go_simp; all_goals with_reducible rfl)
          try simp only [Act.put, List.setIfInBounds_toArray, List.set_cons_zero, List.set_cons_succ]
          refine wpAnyH_done (by kernel_rfl) ?_ _
          refine NoPanic.normal ?_
          have HY : Hid (LawYes w (.returned (.bool true)) c6) := ⟨rfl, HB6.out⟩
          clear k0VR0 k0VR1 k0VR2 k0VF0 k0VF1 k0VF2 k0VG0 k0VG1 k0VG2 k0VU0 k0VU1 k0VU2 k0VV0 k0VV1 k0VV2 k1VR0 k1VR1 k1VR2 k1VF0 k1VF1 k1VF2 k1VG0 k1VG1 k1VG2 k1VU0 k1VU1 k1VU2 k1VV0 k1VV1 k1VV2 k2VR0 k2VR1 k2VR2 k2VF0 k2VF1 k2VF2 k2VG0 k2VG1 k2VG2 k2VU0 k2VU1 k2VU2 k2VV0 k2VV1 k2VV2 k3VR0 k3VR1 k3VR2 k3VF0 k3VF1 k3VF2 k3VG0 k3VG1 k3VG2 k3VU0 k3VU1 k3VU2 k3VV0 k3VV1 k3VV2 k4VR0 k4VR1 k4VR2 k4VF0 k4VF1 k4VF2 k4VG0 k4VG1 k4VG2 k4VU0 k4VU1 k4VU2 k4VV0 k4VV1 k4VV2 k5VR0 k5VR1 k5VR2 k5VF0 k5VF1 k5VF2 k5VG0 k5VG1 k5VG2 k5VU0 k5VU1 k5VU2 k5VV0 k5VV1 k5VV2 gVR0 gVR1 gVR2 gVF0 gVF1 gVF2 gVG0 gVG1 gVG2 gVU0 gVU1 gVU2 gVV0 gVV1 gVV2
          go_wp2_with fail
          go_ret
          exact HY.out
end Go.Proofs.Ytfhebkdoheafeaa
