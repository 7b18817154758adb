/-
  Merged by program: TxtI, TeW.
-/
import Derived.Test.YtkchjinfjggoeaaGreatDoorF15
import Derived.Test.YtkchjinfjggoeaaGreatDoorF23
import Derived.Test.YtkchjinfjggoeaaGreatDoorF29
import Derived.Deep.RegionHeld3
import Derived.Test.YtkchjinfjggoeaaGreatDoorF9
import Derived.Test.YtkchjinfjggoeaaGreatDoorF26
import Derived.Test.YtkchjinfjggoeaaGreatDoorF6

/-
  The program's textOfType, FormatType.
-/
namespace Go.Proofs.YtkchjinfjggoeaaGreatDoor
open Go.RowKit

/-- texts in new memory -/
def TextsMade (n : Nat) (ps : List (List UInt8)) (w : World) (e : Ending) (w' : World) : Prop :=
  ∃ V lc, e = .returned (.slice V n lc) ∧ w'.ownsRow w.heap.size 9 1 (.slice V n lc) n (strsV ps) ∧ Below w.heap.size w w'
/-- a list that is owned lies at the start of its block -/
theorem own_zeroI {w : World} {base : Nat} {e : TypeId} {A : Option Addr} {n c : Nat} {xs : List Value} (h : w.ownsRow base e 1 (.slice A n c) n xs) : (A = none ∧ n = 0 ∧ c = 0) ∨ ∃ g, A = some ⟨g, 0, none⟩ := by
  rcases h.2 with ⟨hv, hn⟩ | ⟨g, cap, cur, hv, _⟩
  · injection hv with h1 h2 h3
    exact .inl ⟨h1, hn, h3⟩
  · injection hv with h1 h2 h3
    exact .inr ⟨g, h1⟩

set_option maxHeartbeats 1600000 in
set_option maxRecDepth 100000 in
theorem fields_any (a : TyA) (ks : List Ty) (w : World) (L A : Option Addr) (c d : Nat) (k1 : Sl w L (a.labels.map Value.string)) (hp : RKids w A ks) (hkl : ks.length = a.labels.length) (h3 : a.kind = 3) (hw : wt (.node a ks) ≤ 1048576)
    (ih : ∀ t ∈ ks, ∀ (W : World) (cs : List Value), RTy W t cs → Calls Tryz.prog 168 #[.agg cs.toArray] W (Text t.txt W)) :
    Calls Tryz.prog 189 #[.agg #[.int .i64 3, .slice L a.labels.length c, .slice A ks.length d]] w (TextsMade ks.length (partsT a ks) w) := by
  have hwl := wt_labels hw
  obtain ⟨i0, hi, hz0, hz1, hz2⟩ := info_parts infoStr
  obtain ⟨W1, hW1⟩ : ∃ W1, w.alloc (.cells #[.int .i64 3, .slice L ks.length c, .slice A ks.length d] 192) = W1 := ⟨_, rfl⟩
  have hb0 : Below w.heap.size w W1 := by rw [← hW1]; exact (Below.refl _ _).alloc (Nat.le_refl _) _
  obtain ⟨H, hH⟩ : ∃ H, w.heap.size = H := ⟨_, rfl⟩
  have b0 : Box3 W1 H 192 (.int .i64 3) (.slice L ks.length c) (.slice A ks.length d) := by rw [← hW1, ← hH]; exact Box3.new w _ _ _ _
  have hkm : ks.length ≤ 1048576 := by rw [wt_node] at hw; unfold wtK at hw; omega
  have hlen := partsT_len a ks
  have hkw : ∀ t ∈ ks, wt t ≤ 1048576 := fun t ht => Nat.le_trans (kid_wt_le ht) hw
  rw [← hkl]
  have HP := Lib.hid hp
  have HI := Lib.hid ih
  have HH := Lib.hid hH
  have HB0 := Lib.hid hb0
  have B0 := Lib.hid b0
  have HW1 := Lib.hid hW1
  have HL := Lib.hid k1
  have HQ := Lib.hid h3
  have HKL := Lib.hid hkl
  have HWL := Lib.hid hwl.2
  have HLEN := Lib.hid hlen
  have HTX := Lib.hid (fun t (ht : t ∈ ks) => Nat.le_trans (txt_le t) (Nat.add_le_add_right (Nat.mul_le_mul_left 4 (hkw t ht)) 2))
  have HOWN : Hid (∀ W : World, W.ownsRow W1.heap.size 9 1 (.slice none 0 0) 0 (strsV ((partsT a ks).take 0))) := Lib.hid (fun W => World.ownsRow_nil _ _ _ _)
  have x0 := b0.c0
  have x1 := b0.c1
  have x2 := b0.c2
  clear hp ih hb0 b0 hW1 k1 h3 hwl hlen hkw hw hkl
  go_enter Tryz.func189, Tryz.ntmps189
  go_wp2_with fail
  rw [HW1.out]
  go_wp2_with fail
  go_loopw [3, 9] (fun v i wr => TxInv a ks W1 v i wr) (fun _ i _ => ks.length - (intOf i).toNat)
  case atStart => exact ⟨0, Nat.zero_le _, rfl, HOWN.out _, Below.refl _ _⟩
  case round =>
    clear x0 x1 x2
    obtain ⟨k, hk, rfl, hown, hb⟩ := hrel
    obtain ⟨V, lc, rfl⟩ := own_shape hown
    have hbw := HB0.out.trans (hb.mono HB0.out.size)
    have bk := B0.out.under hb B0.out.lt
    have hbx0 := bk.c0
    have hbx1 := bk.c1
    have hbx2 := bk.c2
    have HO := Lib.hid hown
    have HB := Lib.hid hb
    clear hown hb bk
    by_cases hlt : k < ks.length
    · obtain ⟨ad, p, c0, c1, c2, rfl, hpe, hr, q0, q1, q2⟩ := kid_at HP.out hbw hlt
      have HC := Lib.hid (HI.out ks[k] (List.getElem_mem hlt) wr [c0, c1, c2] hr)
      have htx := HTX.out ks[k] (List.getElem_mem hlt)
      have hkl2 : k < a.labels.length := by have := HKL.out; omega
      obtain ⟨ad2, rfl, hlab⟩ := (HL.out.below hbw) k (.string a.labels[k]) (by simp [hkl2])
      have hlz := HWL.out a.labels[k] (List.getElem_mem hkl2)
      obtain ⟨lab, hlb⟩ : ∃ lab, a.labels[k] = lab := ⟨_, rfl⟩
      have HMR : Hid (∀ (x : ByteArray) (w2 w3 : World) (v' i : Value), x = bs (partT a k ks[k].txt) → Below W1.heap.size W1 w2 → w3.ownsRow W1.heap.size 9 1 v' (k + 1) (strsV ((partsT a ks).take k) ++ [.string x]) → w2.grownBy w3 (Value.slice V k lc).ownBlock → i = .int .i64 ((k + 1 : Nat) : Int) → TxInv a ks W1 v' i w3) :=
        fun x w2 w3 v' i hx hb2 ho hg hi => txinv_more HO.out hlt hx hb2 ho hg hi
      have HX0 : Hid (∀ l, a.labels[k] ++ ⟨#[58]⟩ ++ ⟨l.toArray⟩ = bs (partT a k l)) := fun l => lab_str a k l hkl2 HQ.out
      obtain ⟨l, hl⟩ : ∃ l, ks[k].txt = l := ⟨_, rfl⟩
      rw [hl] at HC htx HMR
      rw [hlb] at hlab hlz HX0
      clear hl hr hbw hlb hkl2
      have hn1 : (lab ++ ⟨#[58]⟩ : ByteArray).size = lab.size + 1 := by rw [ByteArray.size_append]; rfl
      go_wp2_with fail
      refine HC.out.mono ?_
      rintro e w2 ⟨rfl, hb2⟩
      have HB2 := Lib.hid (HB.out.trans (hb2.mono HB.out.size))
      have O2 := Lib.hid (own_below HO.out hb2)
      have hls : (⟨l.toArray⟩ : ByteArray).size = l.length := rfl
      have HX := Lib.hid (HX0.out l)
      clear hb2 hbx0 hbx1 hbx2 HC hlab q0 q1 q2
      have hsl := Lib.hid (sl_one w2 (.string (lab ++ ⟨#[58]⟩ ++ ⟨l.toArray⟩)) 9)
      have O3 := Lib.hid (O2.out.alloc (.cells #[.string (lab ++ ⟨#[58]⟩ ++ ⟨l.toArray⟩)] 9))
      have HB3 := Lib.hid (HB2.out.alloc HB2.out.size (.cells #[.string (lab ++ ⟨#[58]⟩ ++ ⟨l.toArray⟩)] 9))
      have HOC : Hid (∀ u ∈ [Value.string (lab ++ ⟨#[58]⟩ ++ ⟨l.toArray⟩)], u.oneCell' = true) := Lib.hid (one_str _)
      go_wp2_with (at_builtin; refine wpList_append_sl _ rfl (.tmp 14) (.tmp 24) 24 rfl W1.heap.size 9 i0 _ 16 Tryz.underlying24 hi hz0 hz1 hz2 rfl (.slice V k lc) k (strsV ((partsT a ks).take k)) rfl O3.out (some ⟨w2.heap.size, 0, none⟩) 1 1 [.string (lab ++ ⟨#[58]⟩ ++ ⟨l.toArray⟩)] rfl rfl hsl.out HOC.out (by unfold maxLen; omega) (by omega) HB3.out.size ?_; intro v5 w5 hown5 hg5 hor5; have HMM := Lib.hid (fun i hi => HMR.out _ _ _ v5 i HX.out HB3.out hown5 hg5 hi); clear hown5 hg5 hor5)
      go_roundw
      case rel => exact HMM.out _ (by go_num)
      case measure => simp [intOf]; omega
    · have he : k = ks.length := by omega
      have HR : Hid (TextsMade ks.length (partsT a ks) w (.returned (.slice V k lc)) wr) := by
        have hown := HO.out
        rw [he, List.take_of_length_le (by rw [HLEN.out]; exact Nat.le_refl _)] at hown
        rw [he]
        exact ⟨V, lc, rfl, own_mono hown HB0.out.size, hbw⟩
      clear he hbw
      go_wp2_with fail
      go_ret
      exact HR.out
theorem labB_pos {ls : List ByteArray} (h : labB ls = true) : 1 ≤ ls.length := by
  unfold labB at h
  simp only [Bool.and_eq_true, decide_eq_true_eq] at h
  omega
theorem text_of {l : List UInt8} {w w' : World} {x : ByteArray} (h : x.data.toList = l) (hb : Below w.heap.size w w') : Text l w (.returned (.string x)) w' := by
  refine ⟨?_, hb⟩
  subst h
  rfl

set_option maxHeartbeats 3200000 in
set_option maxRecDepth 100000 in
theorem implText_any : ∀ (t : Ty) (w : World) (cs : List Value), RTy w t cs → t.form = true → wt t ≤ 1048576 → Calls Tryz.prog 168 #[.agg cs.toArray] w (Text t.txt w) := by
  refine Tr.ind ?_
  intro a ks ih w cs h hf hw
  obtain ⟨L, c, A, d, rfl, k1, k2, k3, k4, k5, k6, hp⟩ := h.out
  obtain ⟨hfk, hfa⟩ := form_kids hf
  have hkw : ∀ t ∈ ks, wt t ≤ 1048576 := fun t ht => Nat.le_trans (kid_wt_le ht) hw
  have ih' := fun t ht w cs h => ih t ht w cs h (hfk t ht) (hkw t ht)
  have hall := parts_all a ks
  have hfc := form_cases hfa
  have hkl : ks.length ≤ 1048576 := by rw [wt_node] at hw; unfold wtK at hw; omega
  obtain ⟨W1, hW1⟩ : ∃ W1, w.alloc (.cells #[.int .i64 a.kind, .slice L a.labels.length c, .slice A ks.length d] 27) = W1 := ⟨_, rfl⟩
  have hb0 : Below w.heap.size w W1 := by rw [← hW1]; exact (Below.refl _ _).alloc (Nat.le_refl _) _
  obtain ⟨H, hH⟩ : ∃ H, w.heap.size = H := ⟨_, rfl⟩
  have b0 : Box3 W1 H 27 (.int .i64 a.kind) (.slice L a.labels.length c) (.slice A ks.length d) := by rw [← hW1, ← hH]; exact Box3.new w _ _ _ _
  have hkind := kind_of a.kind (.slice L a.labels.length c) (.slice A ks.length d) W1
  unfold KindIs at hkind
  rw [txt_node]
  have HFLD := Lib.hid (fun (h3 : a.kind = 3) (hkl : ks.length = a.labels.length) (W : World) (hb : Below w.heap.size w W) => fields_any a ks W L A c d (k1.below hb) (hp.keep hb) hkl h3 hw ih')
  have HP := Lib.hid (fun W (hb : Below w.heap.size w W) => hp.keep hb)
  have HI := Lib.hid ih'
  have HB0 := Lib.hid hb0
  have HW1 := Lib.hid hW1
  have HALL := Lib.hid hall
  have HLEN := Lib.hid (partsT_len a ks)
  have HTX := Lib.hid (fun t (ht : t ∈ ks) => Nat.le_trans (txt_le t) (Nat.add_le_add_right (Nat.mul_le_mul_left 4 (hkw t ht)) 2))
  have HWN := Lib.hid hw
  have HPT := Lib.hid (partsT_at a ks)
  have x0 := b0.c0
  have x1 := b0.c1
  have x2 := b0.c2
  have HH := Lib.hid hH
  clear hp ih hb0 b0 hW1 k1 k5 h hall ih' hkw hfa hfk hf hw
  generalize hq : a.kind = q at hkind x0 HW1 HFLD hfc ⊢
  have hq0 := hq
  clear hq k2 k3
  have HQ := Lib.hid hq0
  clear hq0
  rcases hfc with ⟨rfl, hkl3, hlb, -⟩ | ⟨-, ⟨rfl, -⟩ | ⟨rfl, -⟩ | ⟨rfl, hk1, -⟩ | ⟨rfl, hk2⟩⟩
  · have hpos := labB_pos hlb
    have HC := Lib.hid (HFLD.out rfl hkl3)
    have hk1 : 1 ≤ ks.length := by omega
    clear hlb hpos hkl3
    have a1 := as_int_3
    have a2 := as_bool_3
    have a3 := as_rec_3
    rw [show kindT 3 = 192 from rfl] at hkind
    have HK := Lib.hid hkind
    clear hkind
    go_enter Tryz.func168, Tryz.ntmps168
    go_wp2_with fail
    rw [HW1.out]
    go_wp2_with fail
    refine HK.out.mono ?_
    rintro e w2 ⟨rfl, hb2⟩
    have HB2 := Lib.hid (HB0.out.trans (hb2.mono HB0.out.size))
    clear x0 x1 x2 hb2 HK
    obtain ⟨W3, hW3⟩ : ∃ W3, w2.alloc (.cells #[.int .i64 3, .slice L a.labels.length c, .slice A ks.length d] 192) = W3 := ⟨_, rfl⟩
    have HB3 : Hid (Below w.heap.size w W3) := Lib.hid (by rw [← hW3]; exact HB2.out.alloc HB2.out.size _)
    have B3 : Hid (Box3 W3 w2.heap.size 192 (.int .i64 3) (.slice L a.labels.length c) (.slice A ks.length d)) := Lib.hid (by rw [← hW3]; exact Box3.new w2 _ _ _ _)
    have HW3 := Lib.hid hW3
    clear hW3
    have HC3 := Lib.hid (HC.out W3 HB3.out)
    have y0 := B3.out.c0
    have y1 := B3.out.c1
    have y2 := B3.out.c2
    obtain ⟨ps, hps⟩ : ∃ ps, partsT a ks = ps := ⟨_, rfl⟩
    have HPS := Lib.hid hps
    have hall := HALL.out
    have hwn := HWN.out
    have hlen := HLEN.out
    rw [hps] at HC3 hall hlen
    have HJL : Hid ((Lib.join ps [44]).length ≤ 4194304) := Lib.hid (by have := join_le ps 44; omega)
    have HJ : Hid (∀ (g lc : Nat) (W : World), W.ownsRow W3.heap.size 9 1 (.slice (some ⟨g, 0, none⟩) ks.length lc) ks.length (strsV ps) → Calls Tryz.prog 188 #[.slice (some ⟨g, 0, none⟩) ks.length lc, .string ⟨#[44]⟩] W (Text (Lib.join ps [44]) W)) := Lib.hid (by
      intro g lc W ho
      have hsl := Sl.of_own ho
      rw [strsV_map] at hsl
      have hz : (⟨#[44]⟩ : ByteArray).size = 1 := rfl
      have h1 := total_bs ps
      have hcap := own_cap ho
      have := implJoin_any g lc (ps.map bs) ⟨#[44]⟩ W hsl (by rw [List.length_map, hlen]; exact hcap) (by rw [List.length_map, hlen]; exact hkl) (by rw [List.length_map, h1, hz]; omega)
      rw [List.length_map, hlen, jn_bs] at this
      exact this)
    clear hps hall hwn hlen
    go_wp2_with fail
    rw [HW3.out]
    go_wp2_with fail
    refine HC3.out.mono ?_
    rintro e w4 ⟨V, lc, rfl, ho4, hb4⟩
    obtain ⟨g, rfl⟩ : ∃ g, V = some ⟨g, 0, none⟩ := by
      rcases own_zeroI ho4 with ⟨_, h0, _⟩ | h
      · omega
      · exact h
    have HB4 := Lib.hid (HB3.out.trans (hb4.mono HB3.out.size))
    have HJ4 := Lib.hid (HJ.out g lc w4 ho4)
    clear ho4 hb4 y0 y1 y2
    obtain ⟨l, hl⟩ : ∃ l, Lib.join ps [44] = l := ⟨_, rfl⟩
    have hll := HJL.out
    rw [hl] at HJ4 hll
    have HF : Hid (∀ w5, Below w.heap.size w w5 → Text (nodeT 3 (partsT a ks)) w (.returned (.string (⟨#[123]⟩ ++ ⟨l.toArray⟩ ++ ⟨#[125]⟩))) w5) := Lib.hid (fun w5 hb => text_of (by rw [HPS.out]; simp [nodeT, hl]) hb)
    clear hl
    have hls : (⟨l.toArray⟩ : ByteArray).size = l.length := rfl
    have hn1 : (⟨#[123]⟩ ++ ⟨l.toArray⟩ : ByteArray).size = l.length + 1 := by rw [ByteArray.size_append, hls]; show 1 + _ = _; omega
    go_wp2_with fail
    refine HJ4.out.mono ?_
    rintro e w5 ⟨rfl, hb5⟩
    have HG := Lib.hid (HF.out w5 (HB4.out.trans (hb5.mono HB4.out.size)))
    clear hb5
    go_wp2_with fail
    go_ret
    exact HG.out
  · have a1 := as_int_1
    rw [show kindT 1 = 190 from rfl] at hkind
    have HK := Lib.hid hkind
    clear hkind
    go_enter Tryz.func168, Tryz.ntmps168
    go_wp2_with fail
    rw [HW1.out]
    go_wp2_with fail
    refine HK.out.mono ?_
    rintro e w2 ⟨rfl, hb2⟩
    have HB2 := Lib.hid (HB0.out.trans (hb2.mono HB0.out.size))
    clear x0 x1 x2 hb2 HK
    obtain ⟨W3, hW3⟩ : ∃ W3, w2.alloc (.cells #[.int .i64 1, .slice L a.labels.length c, .slice A ks.length d] 190) = W3 := ⟨_, rfl⟩
    have HB3 : Hid (Below w.heap.size w W3) := Lib.hid (by rw [← hW3]; exact HB2.out.alloc HB2.out.size _)
    have B3 : Hid (Box3 W3 w2.heap.size 190 (.int .i64 1) (.slice L a.labels.length c) (.slice A ks.length d)) := Lib.hid (by rw [← hW3]; exact Box3.new w2 _ _ _ _)
    have HW3 := Lib.hid hW3
    clear hW3
    have HF : Hid (Text (nodeT 1 (partsT a ks)) w (.returned (.string ⟨#[73]⟩)) W3) := Lib.hid (text_of (by simp [nodeT]) HB3.out)
    go_wp2_with fail
    rw [HW3.out]
    go_wp2_with fail
    go_ret
    exact HF.out
  · have a1 := as_int_2
    have a2 := as_bool_2
    rw [show kindT 2 = 191 from rfl] at hkind
    have HK := Lib.hid hkind
    clear hkind
    go_enter Tryz.func168, Tryz.ntmps168
    go_wp2_with fail
    rw [HW1.out]
    go_wp2_with fail
    refine HK.out.mono ?_
    rintro e w2 ⟨rfl, hb2⟩
    have HB2 := Lib.hid (HB0.out.trans (hb2.mono HB0.out.size))
    clear x0 x1 x2 hb2 HK
    obtain ⟨W3, hW3⟩ : ∃ W3, w2.alloc (.cells #[.int .i64 2, .slice L a.labels.length c, .slice A ks.length d] 191) = W3 := ⟨_, rfl⟩
    have HB3 : Hid (Below w.heap.size w W3) := Lib.hid (by rw [← hW3]; exact HB2.out.alloc HB2.out.size _)
    have B3 : Hid (Box3 W3 w2.heap.size 191 (.int .i64 2) (.slice L a.labels.length c) (.slice A ks.length d)) := Lib.hid (by rw [← hW3]; exact Box3.new w2 _ _ _ _)
    have HW3 := Lib.hid hW3
    clear hW3
    have HF : Hid (Text (nodeT 2 (partsT a ks)) w (.returned (.string ⟨#[66]⟩)) W3) := Lib.hid (text_of (by simp [nodeT]) HB3.out)
    go_wp2_with fail
    rw [HW3.out]
    go_wp2_with fail
    go_ret
    exact HF.out
  · have hk0 : 0 < ks.length := by omega
    clear hk1
    have a1 := as_int_4
    have a2 := as_bool_4
    have a3 := as_rec_4
    have a4 := as_bag_4
    rw [show kindT 4 = 194 from rfl] at hkind
    have HK := Lib.hid hkind
    clear hkind
    go_enter Tryz.func168, Tryz.ntmps168
    go_wp2_with fail
    rw [HW1.out]
    go_wp2_with fail
    refine HK.out.mono ?_
    rintro e w2 ⟨rfl, hb2⟩
    have HB2 := Lib.hid (HB0.out.trans (hb2.mono HB0.out.size))
    clear x0 x1 x2 hb2 HK
    obtain ⟨W3, hW3⟩ : ∃ W3, w2.alloc (.cells #[.int .i64 4, .slice L a.labels.length c, .slice A ks.length d] 194) = W3 := ⟨_, rfl⟩
    have HB3 : Hid (Below w.heap.size w W3) := Lib.hid (by rw [← hW3]; exact HB2.out.alloc HB2.out.size _)
    have B3 : Hid (Box3 W3 w2.heap.size 194 (.int .i64 4) (.slice L a.labels.length c) (.slice A ks.length d)) := Lib.hid (by rw [← hW3]; exact Box3.new w2 _ _ _ _)
    have HW3 := Lib.hid hW3
    clear hW3
    obtain ⟨ad, p, c0, c1, c2, rfl, hpe, hr, q0, q1, q2⟩ := kid_at (HP.out W3 HB3.out) (Below.refl _ _) hk0
    have HC := Lib.hid (HI.out ks[0] (List.getElem_mem hk0) W3 [c0, c1, c2] hr)
    have htx := HTX.out ks[0] (List.getElem_mem hk0)
    have HPS : Hid ((partsT a ks).getD 0 [] = ks[0].txt) := Lib.hid (by have h1 := HPT.out 0 hk0; rw [List.getD, h1]; unfold partT; rw [if_neg (by rw [HQ.out]; decide)]; rfl)
    obtain ⟨l, hl⟩ : ∃ l, ks[0].txt = l := ⟨_, rfl⟩
    rw [hl] at HC htx HPS
    have y0 := B3.out.c0
    have y1 := B3.out.c1
    have y2 := B3.out.c2
    have hpe0 : ad = p := hpe
    subst hpe0
    clear hl hr hpe
    have hls : (⟨l.toArray⟩ : ByteArray).size = l.length := rfl
    have hn1 : (⟨#[91]⟩ ++ ⟨l.toArray⟩ : ByteArray).size = l.length + 1 := by rw [ByteArray.size_append, hls]; show 1 + _ = _; omega
    have HF : Hid (∀ w5, Below w.heap.size w w5 → Text (nodeT 4 (partsT a ks)) w (.returned (.string (⟨#[91]⟩ ++ ⟨l.toArray⟩ ++ ⟨#[93]⟩))) w5) := Lib.hid (fun w5 hb => text_of (by have := HPS.out; simp only [nodeT]; rw [this]; simp) hb)
    rw [← HW3.out] at q0 q1 q2 y0 y1 y2
    go_wp2_with fail
    rw [HW3.out]
    refine HC.out.mono ?_
    rintro e w5 ⟨rfl, hb5⟩
    have HG := Lib.hid (HF.out w5 (HB3.out.trans (hb5.mono HB3.out.size)))
    clear hb5
    go_wp2_with fail
    go_ret
    exact HG.out
  · have hk0 : 0 < ks.length := by omega
    have hk1 : 1 < ks.length := by omega
    have HPS : Hid (partsT a ks = [ks[0].txt, ks[1].txt]) := Lib.hid (by
      apply List.ext_getElem?
      intro i
      have h1 := HPT.out
      match i with
      | 0 => rw [h1 0 hk0]; unfold partT; rw [if_neg (by rw [HQ.out]; decide)]; rfl
      | 1 => rw [h1 1 hk1]; unfold partT; rw [if_neg (by rw [HQ.out]; decide)]; rfl
      | i + 2 => rw [List.getElem?_eq_none (by rw [HLEN.out]; omega)]; rfl)
    clear hk2
    have a1 := as_int_5
    have a2 := as_bool_5
    have a3 := as_rec_5
    have a4 := as_bag_5
    have a5 := as_fun_5
    rw [show kindT 5 = 195 from rfl] at hkind
    have HK := Lib.hid hkind
    clear hkind
    go_enter Tryz.func168, Tryz.ntmps168
    go_wp2_with fail
    rw [HW1.out]
    go_wp2_with fail
    refine HK.out.mono ?_
    rintro e w2 ⟨rfl, hb2⟩
    have HB2 := Lib.hid (HB0.out.trans (hb2.mono HB0.out.size))
    clear x0 x1 x2 hb2 HK
    obtain ⟨W3, hW3⟩ : ∃ W3, w2.alloc (.cells #[.int .i64 5, .slice L a.labels.length c, .slice A ks.length d] 195) = W3 := ⟨_, rfl⟩
    have HB3 : Hid (Below w.heap.size w W3) := Lib.hid (by rw [← hW3]; exact HB2.out.alloc HB2.out.size _)
    have B3 : Hid (Box3 W3 w2.heap.size 195 (.int .i64 5) (.slice L a.labels.length c) (.slice A ks.length d)) := Lib.hid (by rw [← hW3]; exact Box3.new w2 _ _ _ _)
    have HW3 := Lib.hid hW3
    clear hW3
    have hd3 : Below w.heap.size w W3.drew := HB3.out.drew
    obtain ⟨ad, p, c0, c1, c2, rfl, hpe, hr, q0, q1, q2⟩ := kid_at (HP.out W3 HB3.out) (Below.refl _ _) hk0
    obtain ⟨ad2, p2, d0, d1, d2, hade, hpe2, hr2, s0, s1, s2⟩ := kid_at (HP.out W3 HB3.out) (Below.refl _ _) hk1
    injection hade with hade
    subst hade
    have HD3 := Lib.hid hd3
    have HC := Lib.hid (HI.out ks[0] (List.getElem_mem hk0) W3.drew [c0, c1, c2] (hr.keep (Below.refl _ _).drew))
    have HC1 := Lib.hid (fun W (hb : Below W3.drew.heap.size W3.drew W) => HI.out ks[1] (List.getElem_mem hk1) W [d0, d1, d2] ((hr2.keep (show Below W3.heap.size W3 W3.drew from (Below.refl _ _).drew)).keep hb))
    have htx := HTX.out ks[0] (List.getElem_mem hk0)
    have htx1 := HTX.out ks[1] (List.getElem_mem hk1)
    obtain ⟨l, hl⟩ : ∃ l, ks[0].txt = l := ⟨_, rfl⟩
    obtain ⟨m, hm⟩ : ∃ m, ks[1].txt = m := ⟨_, rfl⟩
    rw [hl] at HC htx HPS
    rw [hm] at HC1 htx1 HPS
    have hpe0 : ad = p := hpe
    subst hpe0
    have B3d : Hid (Box3 W3.drew w2.heap.size 195 (.int .i64 5) (.slice L a.labels.length c) (.slice (some ad) ks.length d)) := Lib.hid B3.out
    have y2 := B3.out.c2
    have HCL : Hid (∀ W, Below W3.drew.heap.size W3.drew W → W.cell? ⟨w2.heap.size, 2, none⟩ = some (.slice (some ad) ks.length d) ∧ W.cell? ad = some c0 ∧ W.cell? ⟨ad.block, ad.off + 1, none⟩ = some c1 ∧ W.cell? ⟨ad.block, ad.off + 2, none⟩ = some c2 ∧ W.cell? p2 = some d0 ∧ W.cell? ⟨p2.block, p2.off + 1, none⟩ = some d1 ∧ W.cell? ⟨p2.block, p2.off + 2, none⟩ = some d2) := Lib.hid (fun W hb =>
      have up : ∀ (p : Addr) (u : Value), W3.cell? p = some u → W.cell? p = some u := fun p u h => (hb.cell (World.block_lt_of_cell? W3.drew _ h)).trans h
      ⟨up _ _ B3.out.c2, up _ _ q0, up _ _ q1, up _ _ q2, up _ _ s0, up _ _ s1, up _ _ s2⟩)
    have hpe2' : ad.add 3 = p2 := hpe2
    have hk1' : (1 : Int) < (ks.length : Int) := by omega
    have hk0' : (0 : Int) < (ks.length : Int) := by omega
    clear hl hm hr hr2 hpe hpe2 hd3
    have z1 : ¬ 9223372036854775807 < 1 + l.length := by omega
    have z2 : ¬ 9223372036854775807 < 1 + l.length + 1 := by omega
    have z3 : ¬ 9223372036854775807 < 1 + l.length + 1 + m.length := by omega
    have z4 : ¬ 9223372036854775807 < 1 + l.length + 1 + m.length + 1 := by omega
    have HF : Hid (∀ w5, Below w.heap.size w w5 → Text (nodeT 5 (partsT a ks)) w (.returned (.string (⟨#[40]⟩ ++ ⟨l.toArray⟩ ++ ⟨#[62]⟩ ++ ⟨m.toArray⟩ ++ ⟨#[41]⟩))) w5) := Lib.hid (fun w5 hb => text_of (by rw [HPS.out]; simp [nodeT, Lib.join_cons, Lib.joinTail]) hb)
    go_wp2_with fail
    rw [HW3.out]
    go_wp2_with fail
    go_region_held3 (fun W => W.cell? ⟨w2.heap.size, 2, none⟩ = some (.slice (some ad) ks.length d) ∧ W.cell? ad = some c0 ∧ W.cell? ⟨ad.block, ad.off + 1, none⟩ = some c1 ∧ W.cell? ⟨ad.block, ad.off + 2, none⟩ = some c2 ∧ W.cell? p2 = some d0 ∧ W.cell? ⟨p2.block, p2.off + 1, none⟩ = some d1 ∧ W.cell? ⟨p2.block, p2.off + 2, none⟩ = some d2)
      (first | (refine ⟨?_, ?_, ?_, ?_, ?_, ?_, ?_⟩ <;> assumption) | go_keep)
      (first
        | (go_at_call 168; refine HC2.out.mono ?_; rintro e w6 ⟨rfl, hb6⟩; obtain ⟨r0, r1, r2, r3, r4, r5, r6⟩ := HCL.out w6 (HB5'.out.trans (hb6.mono HB5'.out.size)); have HG := Lib.hid (HF.out w6 (HB5.out.trans (hb6.mono HB5.out.size))); clear hb6)
        | (go_at_call 168; refine HC.out.mono ?_; rintro e w5 ⟨rfl, hb5⟩; obtain ⟨v0, v1, v2, v3, v4, v5, v6⟩ := HCL.out w5 hb5; have HC2 := Lib.hid (HC1.out w5 hb5); have HB5 := Lib.hid (HD3.out.trans (hb5.mono HD3.out.size)); have HB5' := Lib.hid hb5; clear hb5))
    go_wp2_with fail
    go_ret
    exact HG.out

set_option maxHeartbeats 800000 in
theorem implFormat_any (t : Ty) (w : World) (cs : List Value) (h : RTy w t cs) (hw : wt t ≤ 1048576) : Calls Tryz.prog 140 #[.agg cs.toArray] w (Text (txtV t) w) := by
  obtain ⟨c0, c1, c2, W1, H, rfl, hH, hW1, hbox, hb0⟩ := boxed h
  have HV := Lib.hid (implValid_any t W1 _ (h.keep hb0) hw)
  have HT := Lib.hid (fun W (hB : Below w.heap.size w W) (hf : t.form = true) => implText_any t W _ (h.keep hB) hf hw)
  have HW1 := Lib.hid hW1
  have B0 := Lib.hid hbox
  have HB0 := Lib.hid hb0
  have x0 := hbox.c0
  have x1 := hbox.c1
  have x2 := hbox.c2
  clear h hw hW1 hbox hb0
  go_enter Tryz.func140, Tryz.ntmps140
  go_wp2_with fail
  rw [HW1.out]
  go_wp2_with fail
  refine HV.out.mono ?_
  rintro e w1 ⟨rfl, hb1⟩
  have HB1 := Lib.hid (HB0.out.trans (hb1.mono HB0.out.size))
  have b1 := B0.out.under hb1 B0.out.lt
  clear hb1 x0 x1 x2
  have x0 := b1.c0
  have x1 := b1.c1
  have x2 := b1.c2
  clear b1
  cases hv : validB t
  · have HR : Hid (Text (txtV t) w (.returned (.string ⟨#[]⟩)) w1) := Lib.hid ⟨by unfold txtV; rw [hv]; rfl, HB1.out⟩
    clear hv
    go_wp2_with fail
    go_ret
    exact HR.out
  · have hf : t.form = true := by
      unfold validB at hv
      simp only [Bool.and_eq_true] at hv
      exact hv.2.2
    have HC := Lib.hid (HT.out w1 HB1.out hf)
    have HE : Hid (txtV t = t.txt) := Lib.hid (by unfold txtV; rw [hv]; rfl)
    clear hv hf
    go_wp2_with fail
    refine HC.out.mono ?_
    rintro e w2 ⟨rfl, hb2⟩
    have HR : Hid (Text (txtV t) w (.returned (.string ⟨t.txt.toArray⟩)) w2) := Lib.hid ⟨by rw [HE.out], HB1.out.trans (hb2.mono HB1.out.size)⟩
    clear hb2 HC
    go_wp2_with fail
    go_ret
    exact HR.out
end Go.Proofs.YtkchjinfjggoeaaGreatDoor

/-
  What a node within a term weighs. Hangs on no program.
-/
namespace Go.Proofs.YtkchjinfjggoeaaGreatDoor
open Go.RowKit

theorem wte_node_mem : ∀ (t : Te) (d : Nat) (p : Nat × Te), p ∈ t.pre d → wte p.2 ≤ wte t := by
  refine Tr.ind ?_
  intro a ks ih d p hp
  rw [pre_node] at hp
  rcases List.mem_cons.1 hp with rfl | hp
  · exact Nat.le_refl _
  · unfold preL at hp
    obtain ⟨l, hl, hp⟩ := List.mem_flatten.1 hp
    obtain ⟨t, ht, rfl⟩ := List.mem_map.1 hl
    have h1 := ih t ht _ p hp
    have h2 : wte t ≤ wte (.node a ks) := by
      rw [wte_node]
      have := kid_sum_le wte ht
      unfold wteK
      omega
    omega
theorem wt_type_le (t : Te) : wt t.top.type ≤ wte t := by
  cases t with
  | node a ks =>
    rw [wte_node]
    show wt a.type ≤ _
    unfold wteA
    omega
theorem name_le (t : Te) : t.top.name.size ≤ wte t := by
  cases t with
  | node a ks =>
    rw [wte_node]
    show a.name.size ≤ _
    unfold wteA
    omega
theorem wte_labels {t : Te} {B : Nat} (h : wte t ≤ B) : t.top.labels.length ≤ B ∧ ∀ x ∈ t.top.labels, x.size ≤ B := by
  cases t with
  | node a ks =>
    rw [wte_node] at h
    unfold wteA at h
    show a.labels.length ≤ B ∧ ∀ x ∈ a.labels, x.size ≤ B
    exact ⟨by omega, fun x hx => by have := total_mem hx; omega⟩
end Go.Proofs.YtkchjinfjggoeaaGreatDoor
