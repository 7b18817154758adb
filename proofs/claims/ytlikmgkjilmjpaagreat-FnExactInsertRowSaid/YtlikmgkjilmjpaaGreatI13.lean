/-
  Merged by program: MkDd, VaHeld, HdDd.
-/
import Derived.Test.YtlikmgkjilmjpaaGreatI11
import Derived.Test.YtlikmgkjilmjpaaGreatI12
import Derived.Test.YtlikmgkjilmjpaaGreatI9

/-
  The laws' markDB on a database of the call's own: which blocks turn, and what lies there then.
-/
namespace Go.Proofs.YtlikmgkjilmjpaaGreat
open Go.RowKit

/-- how many marks a table takes -/
def cntDd (d : Dd) : Nat := 1 + cntVK d.2
def cntDb (t : Db) : Nat := (t.map cntDd).sum
def mtextB (k : Int) : ByteArray := ⟨(mtext k).toArray⟩
/-- the tables hold the marks from k on, k1 is the next -/
inductive HeldDd : Int → Db → Int → Prop where
  | nil (k : Int) : HeldDd k [] k
  | cons (k k1 k2 : Int) (vs : List Va) (ds : Db) (h1 : HeldVK (k + 1) vs k1) (h2 : HeldDd k1 ds k2) : HeldDd k ((mtextB k, vs) :: ds) k2
theorem HeldDd.snoc {k k1 k2 : Int} {ds : Db} {vs : List Va} (h : HeldDd k ds k1) (h2 : HeldVK (k1 + 1) vs k2) : HeldDd k (ds ++ [(mtextB k1, vs)]) k2 := by
  induction h with
  | nil k => exact .cons k k2 k2 vs [] h2 (.nil _)
  | cons k k1 k3 us ds h1 _ ih => exact .cons k k1 k2 us _ h1 (ih h2)
/-- the tables of a database, marked -/
def MarkedDd (xs : Db) (A : Option Addr) (d : Nat) (fp : List Nat) (k : Int) (w : World) (e : Ending) (w' : World) : Prop :=
  ∃ xs' : Db, e = .returned (.int .i64 (k + cntDb xs)) ∧ xs'.length = xs.length ∧ HeldDd k xs' (k + cntDb xs) ∧ OL kDd 66 w' xs' (.slice A xs.length d) fp ∧ Only fp w w'
/-- what the loop keeps -/
def MdInv (xs : Db) (w : World) (A : Option Addr) (d : Nat) (fs : Nat → List Nat) (fp : List Nat) (k0 : Int) (kv iv : Value) (wr : World) : Prop :=
  ∃ (i : Nat) (cells : List Value) (xs' : Db), i ≤ xs.length ∧ iv = .int .i64 (i : Int) ∧ kv = .int .i64 (k0 + (((xs.take i).map cntDd).sum : Nat)) ∧ xs'.length = i ∧ HeldDd k0 xs' (k0 + (((xs.take i).map cntDd).sum : Nat)) ∧ wr.ownsRow 0 66 2 (.slice A xs.length d) xs.length cells ∧
    (∀ (j : Nat) (x : Dd), xs'[j]? = some x → kDd.O wr x (partK 2 cells j) (fs j)) ∧ (∀ (j : Nat) (x : Dd), i ≤ j → xs[j]? = some x → kDd.O wr x (partK 2 cells j) (fs j)) ∧ Only fp w wr

set_option maxRecDepth 100000 in
set_option maxHeartbeats 3200000 in
theorem markDdS_any (xs : Db) (w : World) (A : Option Addr) (d : Nat) (fp : List Nat) (k0 : Int) (h : OL kDd 66 w xs (.slice A xs.length d) fp) (hk0 : 0 < k0) (hkb : k0 + cntDb xs ≤ 1000000000000) :
    Calls Tryz.prog 42 #[.slice A xs.length d, .int .i64 k0] w (MarkedDd xs A d fp k0 w) := by
  obtain ⟨_, cells, fs, hlen, hown, hkids, hfp, hnd⟩ := h.parts
  have HND := Lib.hid hnd
  have HFP := Lib.hid hfp
  have HI0 : Hid (MdInv xs w A d fs fp k0 (.int .i64 k0) (.int .i64 0) w) := Lib.hid ⟨0, cells, [], Nat.zero_le _, rfl, by simp, rfl, by simpa using HeldDd.nil k0, hown, fun j x hj => by simp at hj, fun j x _ hj => hkids j x hj, Only.refl _ _⟩
  clear h hown hkids hnd
  go_enter Tryz.func42, Tryz.ntmps42
  go_wp2_with fail
  go_loopw [1, 5] (fun kv iv wr => MdInv xs w A d fs fp k0 kv iv wr) (fun _ iv _ => xs.length - (intOf iv).toNat)
  case atStart => exact HI0.out
  case round =>
    obtain ⟨i, ys, xs', hi, rfl, rfl, hxl, hheld, hrow, hdone, hrest, honly⟩ := hrel
    have hyl : ys.length = xs.length * 2 := hrow.1
    by_cases hlt : i < xs.length
    · have hold := hrest i xs[i] (Nat.le_refl _) (List.getElem?_eq_getElem hlt)
      obtain ⟨TB, tb, td, hpart, hsz, hvs⟩ := kDd_oopen hold
      obtain ⟨s0, es0, hol⟩ := hvs
      injection es0 with es0 _
      subst es0
      obtain ⟨rfl, zs, fs2, hcl, hrow2, hkids2, hfs, hnd2⟩ := hol.parts
      obtain ⟨us, hus⟩ : ∃ us, xs[i].2 = us := ⟨_, rfl⟩
      rw [hus] at hpart hcl hrow2 hkids2 hfs
      have hct := sum_take_succ cntDd xs i hlt
      have hcle := sum_take_le cntDd xs (i + 1)
      have hci : cntDd xs[i] = 1 + cntVK us := by unfold cntDd; rw [hus]
      have hsum : cntDb xs = (xs.map cntDd).sum := rfl
      rw [hci] at hct
      have hK : MarkVKids us := markVKids_any us fun t _ => markVTree t
      obtain ⟨g, rfl⟩ : ∃ g, A = some ⟨g, 0, none⟩ := by
        rcases hrow.2 with ⟨_, h0⟩ | ⟨g, _, _, hv, _⟩
        · omega
        · injection hv with e _ _
          exact ⟨g, e⟩
      obtain ⟨T, hT⟩ : ∃ T, ((xs.take i).map cntDd).sum = T := ⟨_, rfl⟩
      rw [hT] at hct hheld
      have hgf : g ∉ fs i := fun hm => by
        have h1 := HND.out
        rw [HFP.out] at h1
        exact (List.nodup_append.1 h1).2.2 g (by simp [blk]) g (flat_mem hlt hm) rfl
      have hp : ∀ q, q < 2 → ys[i * 2 + q]? = [Value.string xs[i].1, .slice TB us.length td][q]? := fun q hq => by
        have h1 := partK_get 2 ys i q hq
        rw [show partK 2 ys i = partK 2 ys i from rfl, hpart] at h1
        exact h1.symm
      have hp0 := hp 0 (by omega)
      have hp1 := hp 1 (by omega)
      have q0 : wr.cell? ⟨g, i * 2, none⟩ = some (.string xs[i].1) := by rw [hrow.cellAt _ (by omega)]; exact hp0
      have q1 : wr.cell? ⟨g, i * 2 + 1, none⟩ = some (.slice TB us.length td) := by rw [hrow.cellAt _ (by omega)]; exact hp1
      have hTb : (T : Int) ≤ 1000000000000 := by omega
      have hkT : k0 + (T : Int) + 1 ≤ 1000000000000 := by omega
      have HMT := Lib.hid (markText_any (k0 + T) (by omega) (by omega) wr)
      have HALL : Hid (∀ w1 : World, Below wr.heap.size wr w1 → w1.cell? ⟨g, i * 2, none⟩ = some (.string xs[i].1) ∧ w1.cell? ⟨g, i * 2 + 1, none⟩ = some (.slice TB us.length td) ∧ w1.frozen? ⟨g, i * 2, none⟩ = false ∧
          ∃ w3, w1.setCell ⟨g, i * 2, none⟩ (.string (mtextB (k0 + T))) = w3 ∧
            Calls Tryz.prog 44 #[.slice TB us.length td, .int .i64 (k0 + T + 1)] w3 (fun e w5 => ∃ v : Int, e = .returned (.int .i64 v) ∧ ∀ kv iv, kv = Value.int .i64 v → iv = Value.int .i64 ((i + 1 : Nat) : Int) → MdInv xs w (some ⟨g, 0, none⟩) d fs fp k0 kv iv w5)) := Lib.hid (by
        intro w1 hb1
        have up : ∀ (q : Addr) (u : Value), wr.cell? q = some u → w1.cell? q = some u := fun q u h => (hb1.cell (World.block_lt_of_cell? wr _ h)).trans h
        have hr1 : w1.ownsRow 0 66 2 (.slice (some ⟨g, 0, none⟩) xs.length d) xs.length ys := own_keep hrow (row := none) (grown_none hb1) (fun b _ => by simp)
        have hst3 := hr1.stored (i * 2) (.string (mtextB (k0 + T)))
        obtain ⟨w3, hw3⟩ : ∃ w3, w1.setCell ⟨g, i * 2, none⟩ (.string (mtextB (k0 + T))) = w3 := ⟨_, rfl⟩
        rw [hw3] at hst3
        have ho3 : Only [g] wr w3 := (Only.of_below hb1).trans (Only.of_grown hst3.2 (fun x e => by injection e with e; simp [e]))
        have hgx : ∀ b, b ∈ fs i → b ∉ [g] := fun b hb hm => by
          have e : b = g := by simpa using hm
          subst e
          exact hgf hb
        have hrow24 := own_only hrow2 ho3 (fun b hb => hgx b (by rw [hfs]; simp [hb]))
        have hk24 : ∀ j t, us[j]? = some t → OVa w3 t (part4 zs j) (fs2 j) := fun j t hj =>
          have hjl := (List.getElem?_eq_some_iff.1 hj).1
          OVa.only (hkids2 j t hj) ho3 (fun b hb => hgx b (by rw [hfs]; exact List.mem_append.2 (.inr (flat_mem hjl hb))))
        refine ⟨up _ _ q0, up _ _ q1, hr1.frozenAt _, w3, hw3, (hK w3 TB td zs fs2 (k0 + T + 1) hrow24 hk24 (by rw [← hfs]; exact hnd2) hcl (by omega) (by omega)).mono ?_⟩
        rintro e w5 ⟨js, ys', rfl, hjl, hheld2, hrow5, hkids5, ho5⟩
        refine ⟨_, rfl, fun kv iv hkv hiv => ?_⟩
        rw [← hfs] at ho5
        have hoAll : Only (g :: fs i) wr w5 := (ho3.more (fun x hx => by simp at hx; simp [hx])).trans (ho5.more (fun x hx => by simp [hx]))
        have hr5 := own_only hst3.1 ho5 (fun b hb hm => by
          have e : b = g := by simpa [blk] using hb
          subst e
          exact hgf hm)
        have hoth : ∀ j, j ≠ i → partK 2 (ys.set (i * 2) (.string (mtextB (k0 + T)))) j = partK 2 ys j := fun j hj => partK_set_other (q := 0) hj (by omega)
        have hkeep : ∀ (j : Nat) (x : Dd), j < xs.length → j ≠ i → kDd.O wr x (partK 2 ys j) (fs j) → kDd.O w5 x (partK 2 (ys.set (i * 2) (.string (mtextB (k0 + T)))) j) (fs j) := fun j x hjx hji hx => by
          rw [hoth j hji]
          refine kDd.only hx hoAll (fun b hb hm => ?_)
          rcases List.mem_cons.1 hm with h | h
          · have h2 := HND.out
            rw [HFP.out] at h2
            exact (List.nodup_append.1 h2).2.2 g (by simp [blk]) b (flat_mem hjx hb) h.symm
          · have h2 := HND.out
            rw [HFP.out] at h2
            exact flat_apart (List.nodup_append.1 h2).2.1 hjx hlt hji hb h
        have hxi : kDd.O w5 (mtextB (k0 + T), js) (partK 2 (ys.set (i * 2) (.string (mtextB (k0 + T)))) i) (fs i) := by
          have e1 : partK 2 (ys.set (i * 2) (.string (mtextB (k0 + T)))) i = [.string (mtextB (k0 + T)), .slice TB js.length td] := by
            apply List.ext_getElem?
            intro q
            by_cases hq : q < 2
            · rw [partK_get _ _ _ _ hq]
              match q, hq with
              | 0, _ => simp [show i * 2 < ys.length by omega]
              | 1, _ =>
                rw [List.getElem?_set_ne (by omega), hp1, hjl]
                rfl
            · rw [List.getElem?_eq_none (by unfold partK; rw [List.length_take]; omega), List.getElem?_eq_none (by simp; omega)]
          rw [e1]
          refine kDd_omake (by have := mtext_len (k0 + T) (by omega) (by omega); show (mtext (k0 + T)).toArray.size ≤ _; rw [List.size_toArray]; omega) ⟨_, rfl, TB, td, ys', fs2, rfl, by rw [hjl]; exact hcl, ?_, fun j t hj => hkids5 j t hj, ?_, hnd2⟩
          · rw [hjl]; exact hrow5
          · rw [hjl]; exact hfs
        refine ⟨i + 1, _, xs' ++ [(mtextB (k0 + T), js)], hlt, hiv, ?_, by simp [hxl], ?_, hr5, fun j x hj => ?_, fun j x hj hx => hkeep j x (List.getElem?_eq_some_iff.1 hx).1 (by omega) (hrest j x (by omega) hx), honly.trans (hoAll.more (fun x hx => ?_))⟩
        · rw [hkv, hct]
          congr 1
          push_cast
          omega
        · rw [hct]
          have h9 := hheld.snoc hheld2
          have e9 : k0 + (T : Int) + 1 + ((cntVK us : Nat) : Int) = k0 + ((T + (1 + cntVK us) : Nat) : Int) := by push_cast; omega
          rw [e9] at h9
          exact h9
        · by_cases e : j = i
          · subst e
            rw [List.getElem?_append_right (by omega), hxl, Nat.sub_self] at hj
            obtain rfl : (mtextB (k0 + T), js) = x := by simpa using hj
            exact hxi
          · have hjl2 : j < xs'.length := by
              have h1 := (List.getElem?_eq_some_iff.1 hj).1
              rw [List.length_append] at h1
              have h2 : [(mtextB (k0 + T), js)].length = 1 := rfl
              omega
            rw [List.getElem?_append_left hjl2] at hj
            exact hkeep j x (by omega) e (hdone j x hj)
        · rw [HFP.out]
          rcases List.mem_cons.1 hx with h | h
          · simp [h, blk]
          · exact List.mem_append.2 (.inr (flat_mem hlt h)))
      rw [hT]
      generalize xs[i].1 = nm at q0 HALL
      generalize us.length = un at q1 HALL
      clear hold hpart hsz hol hcl hrow2 hkids2 hfs hnd2 hct hcle hci hsum hK hT hgf hrow hp hp0 hp1 hrest hdone honly hheld hxl hkb hfp hus
      go_wp2_with fail
      refine HMT.out.mono ?_
      rintro e w1 ⟨rfl, hb1⟩
      obtain ⟨y0, y1, z0, w3, hw3, hc3⟩ := HALL.out w1 hb1
      have HW3 : Hid (w1.setCell ⟨g, i * 2, none⟩ (.string ⟨(mtext (k0 + T)).toArray⟩) = w3) := Lib.hid hw3
      have HC3 := Lib.hid hc3
      clear hw3 hc3 hb1 q0 q1 HALL HMT
      go_wp2_with fail
      rw [HW3.out]
      refine HC3.out.mono ?_
      rintro e w5 ⟨v, rfl, hfin⟩
      have HF := Lib.hid hfin
      clear hfin y0 y1 z0 HC3
      go_wp2_with fail
      go_roundw
      case rel => exact HF.out _ _ rfl (by go_num)
      case measure => simp [intOf]; omega
    · have he : i = xs.length := by omega
      subst he
      have HR : Hid (MarkedDd xs A d fp k0 w (.returned (.int .i64 (k0 + (((xs.take xs.length).map cntDd).sum : Nat)))) wr) := Lib.hid (by
        rw [List.take_length] at hheld ⊢
        refine ⟨xs', rfl, hxl, hheld, ⟨A, d, ys, fs, by rw [hxl], by omega, by rw [hxl]; exact hrow, hdone, by rw [hxl]; exact HFP.out, HND.out⟩, honly⟩)
      clear hrow hrest honly hdone hheld
      go_wp2_with fail
      go_ret
      exact HR.out
end Go.Proofs.YtlikmgkjilmjpaaGreat

/-
  The walks of the laws' heldValueS, heldValue.
-/
namespace Go.Proofs.YtlikmgkjilmjpaaGreat
open Go.RowKit

theorem HeldVK.le {k k' : Int} {ks : List Va} (h : HeldVK k ks k') : k ≤ k' := by
  induction h with
  | nil => exact Int.le_refl _
  | cons => omega
theorem HeldVK.split {k k' : Int} {t : Va} {ks : List Va} (h : HeldVK k (t :: ks) k') : ∃ (n : Nat) (cs : List Va) (k1 : Int), t = .node ⟨k, k + 1, marksB (k + 2) n⟩ cs ∧ HeldVK (k + 2 + n) cs k1 ∧ HeldVK k1 ks k' := by
  cases h with
  | cons _ k1 _ n cs _ h1 h2 => exact ⟨n, cs, k1, rfl, h1, h2⟩
theorem HeldVK.done {k k' : Int} (h : HeldVK k [] k') : k = k' := by cases h; rfl
def CountsV (v : Int) (w : World) (e : Ending) (w' : World) : Prop := e = .returned (.int .i64 v) ∧ Below w.heap.size w w'
def HeldVKids (ks : List Va) : Prop := ∀ (w : World) (A : Option Addr) (d : Nat) (k k' : Int), RVas w A ks → HeldVK k ks k' → ks.length ≤ 9223372036854775807 → 0 < k → k' ≤ 1000000000000 → Calls Tryz.prog 65 #[.slice A ks.length d, .int .i64 k] w (CountsV k' w)

set_option maxRecDepth 100000 in
set_option maxHeartbeats 2000000 in
theorem heldVKids_any (ks : List Va) (ih : ∀ t ∈ ks, HeldVKids t.kids) : HeldVKids ks := by
  intro w A d k0 k' hp hh hl hk0 hkb
  have HI := Lib.hid ih
  have HP := Lib.hid hp
  have HH := Lib.hid hh
  have hk01 := hh.le
  clear ih hp hh
  go_enter Tryz.func65, Tryz.ntmps65
  go_wp2_with fail
  go_loopw [1, 5] (fun kv iv wr => ∃ (i : Nat) (k : Int), i ≤ ks.length ∧ iv = .int .i64 i ∧ kv = .int .i64 k ∧ HeldVK k (ks.drop i) k' ∧ 0 < k ∧ Below w.heap.size w wr) (fun _ iv _ => ks.length - (intOf iv).toNat)
  case atStart => exact ⟨0, k0, Nat.zero_le _, rfl, rfl, HH.out, hk0, Below.refl _ _⟩
  case round =>
    obtain ⟨i, k, hi, rfl, rfl, hheld, hk, hb⟩ := hrel
    have hkk := hheld.le
    by_cases hlt : i < ks.length
    · rw [List.drop_eq_getElem_cons hlt] at hheld
      obtain ⟨n, cs, k1, hnode, h1, h2⟩ := hheld.split
      obtain ⟨ad, p, c0, c1, c2, c3, rfl, hpe, hr, q0, q1, q2, q3⟩ := vid_at HP.out hb hlt
      have hK := HI.out ks[i] (List.getElem_mem hlt)
      rw [hnode] at hr hK
      obtain ⟨L, e1, B, d2, he, hsl, _, hcl, hkd⟩ := hr.out
      injection he with x0 he
      injection he with x1 he
      injection he with x2 he
      injection he with x3 _
      have y0 : c0 = .int .i64 k := x0
      have yn : c1 = .int .i64 (k + 1) := x1
      have y1 : c2 = .slice L n e1 := by rw [x2]; show Value.slice L (marksB (k + 2) n).length e1 = _; rw [marksB_len]
      have hsl' : Sl wr L (marks (k + 2) n) := by rw [marks_eq]; exact hsl
      rw [y0] at q0
      rw [yn] at q1
      rw [y1] at q2
      rw [x3] at q3
      have hk1 := h1.le
      have hk2 := h2.le
      have hkn : k + 2 + n ≤ 1000000000000 := by omega
      have hk1b : k1 ≤ 1000000000000 := by omega
      have hk1p : 0 < k1 := by omega
      have HC1 := Lib.hid (heldStringS_any L n e1 (k + 2) wr hsl' (by omega) (by omega))
      have HC2 := Lib.hid (fun (w2 : World) (hb2 : Below wr.heap.size wr w2) => hK w2 B d2 (k + 2 + n) k1 (hkd.keep hb2) h1 hcl (by omega) hk1b)
      have HKP := Lib.hid (fun (w2 : World) (hb2 : Below wr.heap.size wr w2) => (hb2.cell (World.block_lt_of_cell? wr _ q3)).trans q3)
      have H2 := Lib.hid h2
      have HB := Lib.hid hb
      have hk1n : ¬ k1 < 0 := by omega
      have hkk1 : k ≤ 1000000000000 := by omega
      have hkn0 : ¬ k + 2 + (n : Int) < 0 := by omega
      obtain ⟨z, hz⟩ : ∃ z, cs.length = z := ⟨_, rfl⟩
      rw [show (Tr.node (⟨k, k + 1, marksB (k + 2) n⟩ : VaA) cs).kids = cs from rfl] at HC2
      rw [hz] at q3 HC2 HKP
      clear hheld hnode hr hK hsl hkd x0 x1 x2 x3 y0 yn y1 hsl' h1 h2 hb hk1 hk2 hkk hcl hk01 hkb hz
      go_wp2_with fail
      rw [show k + 1 + 1 = k + 2 by omega]
      refine HC1.out.mono ?_
      rintro e w2 ⟨rfl, hb2⟩
      have HB2 := Lib.hid (HB.out.trans (hb2.mono HB.out.size))
      have s2 := HKP.out w2 hb2
      have HC3 := Lib.hid (HC2.out w2 hb2)
      clear hb2 q0 q1 q2 q3 HC1 HC2 HKP
      go_wp2_with fail
      refine HC3.out.mono ?_
      rintro e w3 ⟨rfl, hb3⟩
      have HB3 := Lib.hid (HB2.out.trans (hb3.mono HB2.out.size))
      clear hb3 s2 HC3
      go_wp2_with fail
      go_roundw
      case rel => exact ⟨i + 1, k1, hlt, by go_num, rfl, H2.out, hk1p, HB3.out⟩
      case measure => simp [intOf]; omega
    · have he : i = ks.length := by omega
      have hkv : k = k' := by
        rw [he, List.drop_length] at hheld
        exact hheld.done
      have HF : Hid (CountsV k' w (.returned (.int .i64 k)) wr) := ⟨by rw [hkv], hb⟩
      clear he hkv hheld hb hkk
      go_wp2_with fail
      go_ret
      exact HF.out
theorem heldVTree : ∀ t : Va, HeldVKids t.kids := by
  refine Tr.ind ?_
  intro a ks ih
  exact heldVKids_any ks ih

end Go.Proofs.YtlikmgkjilmjpaaGreat

/-
  The laws' markDB, heldDB.
-/
namespace Go.Proofs.YtlikmgkjilmjpaaGreat
open Go.RowKit

theorem HeldDd.le {k k' : Int} {ds : Db} (h : HeldDd k ds k') : k ≤ k' := by
  induction h with
  | nil => exact Int.le_refl _
  | cons k k1 k2 vs ds h1 _ ih => have := h1.le; omega
theorem HeldDd.split {k k' : Int} {d : Dd} {ds : Db} (h : HeldDd k (d :: ds) k') : ∃ (vs : List Va) (k1 : Int), d = (mtextB k, vs) ∧ HeldVK (k + 1) vs k1 ∧ HeldDd k1 ds k' := by
  cases h with
  | cons _ k1 _ vs _ h1 h2 => exact ⟨vs, k1, rfl, h1, h2⟩
theorem HeldDd.done {k k' : Int} (h : HeldDd k [] k') : k = k' := by cases h; rfl
def HdInv (xs : Db) (w : World) (k' : Int) (kv iv : Value) (wr : World) : Prop := ∃ (i : Nat) (k : Int), i ≤ xs.length ∧ iv = .int .i64 (i : Int) ∧ kv = .int .i64 k ∧ 0 < k ∧ HeldDd k (xs.drop i) k' ∧ Below w.heap.size w wr

set_option maxRecDepth 100000 in
set_option maxHeartbeats 1600000 in
theorem heldDdS_any (xs : Db) (w : World) (A : Option Addr) (d : Nat) (k0 k' : Int) (hp : RL kDd w A xs) (hh : HeldDd k0 xs k') (hl : xs.length ≤ 9223372036854775807) (hk0 : 0 < k0) (hkb : k' ≤ 1000000000000) :
    Calls Tryz.prog 45 #[.slice A xs.length d, .int .i64 k0] w (CountsV k' w) := by
  have HP := Lib.hid hp
  have HI0 : Hid (HdInv xs w k' (.int .i64 k0) (.int .i64 0) w) := Lib.hid ⟨0, k0, Nat.zero_le _, rfl, rfl, hk0, by simpa using hh, Below.refl _ _⟩
  clear hp hh hk0
  go_enter Tryz.func45, Tryz.ntmps45
  go_wp2_with fail
  go_loopw [1, 5] (fun kv iv wr => HdInv xs w k' kv iv wr) (fun _ iv _ => xs.length - (intOf iv).toNat)
  case atStart => exact HI0.out
  case round =>
    obtain ⟨i, k, hi, rfl, rfl, hk, hheld, hb⟩ := hrel
    by_cases hlt : i < xs.length
    · obtain ⟨ad, p, c0, c1, rfl, hpe, hr, q0, q1⟩ := rl_at2 kDd_n HP.out hb hlt
      obtain ⟨TB, tb, td, hcs, hs, hy⟩ := kDd_open hr
      simp only [List.cons.injEq, and_true] at hcs
      obtain ⟨rfl, rfl⟩ := hcs
      obtain ⟨rfl, hvl, _, hvs⟩ := kVas_slice hy
      rw [List.drop_eq_getElem_cons hlt] at hheld
      obtain ⟨vs, k1, hx, h1, h2⟩ := hheld.split
      have hle1 := h1.le
      have hle2 := h2.le
      rw [hx] at q0 q1 hvl hvs hs
      have HMT := Lib.hid (markText_any k hk (by omega) wr.drew)
      have HNX : Hid (∀ (w2 : World), Below wr.drew.heap.size wr.drew w2 → w2.cell? p = some (.string ⟨(mtext k).toArray⟩) ∧ w2.cell? ⟨p.block, p.off + 1, none⟩ = some (.slice TB vs.length td) ∧
          Calls Tryz.prog 65 #[.slice TB vs.length td, .int .i64 (k + 1)] w2 (fun e w3 => e = .returned (.int .i64 k1) ∧ ∀ iv, iv = Value.int .i64 ((i + 1 : Nat) : Int) → HdInv xs w k' (.int .i64 k1) iv w3)) := Lib.hid (by
        intro w2 hb2
        have up : ∀ (q : Addr) (u : Value), wr.cell? q = some u → w2.cell? q = some u := fun q u h => (hb2.cell (World.block_lt_of_cell? wr.drew _ h)).trans h
        refine ⟨up _ _ q0, up _ _ q1, (heldVKids_any vs (fun t _ => heldVTree t) w2 TB td (k + 1) k1 ((hvs.keep (show Below wr.heap.size wr wr.drew from (Below.refl _ _).drew)).keep hb2) h1 hvl (by omega) (by omega)).mono ?_⟩
        rintro e w3 ⟨rfl, hb3⟩
        have hb4 : Below wr.heap.size wr w2 := (Below.refl wr.heap.size wr).drew.trans hb2
        exact ⟨rfl, fun iv hiv => ⟨i + 1, k1, hlt, hiv, rfl, by omega, h2, (hb.trans (hb4.mono hb.size)).trans (hb3.mono (hb.trans (hb4.mono hb.size)).size)⟩⟩)
      have hkb1 : k + 1 ≤ 1000000000000 := by omega
      have hk1 : ¬ k1 < 0 := by omega
      have hk2 : k1 ≤ 1000000000000 := by omega
      have q0 : wr.cell? p = some (.string ⟨(mtext k).toArray⟩) := q0
      generalize vs.length = un at *
      clear hr hs hy hvl hvs h1 h2 hx hheld hb hle1 hle2
      go_wp2_with fail
      go_region_held3 (fun W => W.cell? p = some (.string ⟨(mtext k).toArray⟩))
        (first | assumption | go_keep)
        (first
          | (go_at_call 63; refine HMT.out.mono ?_; rintro e w2 ⟨rfl, hb2⟩; obtain ⟨p0, p1, hc⟩ := HNX.out w2 hb2; have HC := Lib.hid hc; clear hc hb2))
      clear q0 q1 HNX HMT
      go_wp2_with fail
      refine HC.out.mono ?_
      rintro e w3 ⟨rfl, hfin⟩
      have HF := Lib.hid hfin
      clear hfin p0 p1 HC
      go_wp2_with fail
      go_roundw
      case rel => exact HF.out _ (by go_num)
      case measure => simp [intOf]; omega
    · have he : i = xs.length := by omega
      subst he
      rw [List.drop_length] at hheld
      have hk' := hheld.done
      subst hk'
      have HR : Hid (CountsV k w (.returned (.int .i64 k)) wr) := Lib.hid ⟨rfl, hb⟩
      clear hheld hb
      go_wp2_with fail
      go_ret
      exact HR.out

/-- a database of the call's own, marked -/
def MarkedDbK (K : Int) (cs : List Value) (fp : List Nat) (k : Int) (w : World) (e : Ending) (w' : World) : Prop :=
  ∃ (t' : Db) (k' : Int), e = .returned (.int .i64 k') ∧ 0 < k' ∧ k' ≤ K ∧ ODb w' t' cs fp ∧ HeldDd k t' k' ∧ Only fp w w'
def MarkedDb (cs : List Value) (fp : List Nat) (k : Int) (w : World) (e : Ending) (w' : World) : Prop := MarkedDbK 1000000000000 cs fp k w e w'

set_option maxHeartbeats 800000 in
theorem markDbK_any (K : Int) (hK : K ≤ 1000000000000) (t : Db) (w : World) (cs : List Value) (fp : List Nat) (k : Int) (h : ODb w t cs fp) (hk : 0 < k) (hkb : k + cntDb t ≤ K) : Calls Tryz.prog 17 #[.agg cs.toArray, .int .i64 k] w (MarkedDbK K cs fp k w) := by
  obtain ⟨A, d, rfl, hl, _, hp⟩ := h.reads.open
  obtain ⟨W1, hW1⟩ : ∃ W1, w.alloc (.cells #[.slice A t.length d] 37) = W1 := ⟨_, rfl⟩
  obtain ⟨H, hH⟩ : ∃ H, w.heap.size = H := ⟨_, rfl⟩
  have hbox : Box1 W1 H 37 (.slice A t.length d) := by rw [← hW1, ← hH]; exact Box1.new w _ _
  have hb0 : Below w.heap.size w W1 := by rw [← hW1]; exact (Below.refl _ _).alloc (Nat.le_refl _) _
  have HC := Lib.hid (markDdS_any t W1 A d fp k (ODb.ol.1 (h.under hb0)) hk (by omega))
  have HW1 := Lib.hid hW1
  have HB0 : Hid (Only fp w W1) := Lib.hid (Only.of_below hb0)
  have x0 := hbox.c0
  have HR : Hid (∀ (e : Ending) (w2 : World), MarkedDd t A d fp k W1 e w2 → ∃ v : Int, e = .returned (.int .i64 v) ∧ MarkedDbK K [.slice A t.length d] fp k w (.returned (.int .i64 v)) w2) := Lib.hid (by
    rintro e w2 ⟨t', rfl, h1, h2, h3, h4⟩
    refine ⟨_, rfl, t', _, rfl, by omega, hkb, ODb.ol.2 h3, h2, (Only.of_below hb0).trans h4⟩)
  generalize t.length = n at HC HW1 HR x0 ⊢
  clear h hp hl hW1 hbox hb0
  go_enter Tryz.func17, Tryz.ntmps17
  go_wp2_with fail
  rw [HW1.out]
  go_wp2_with fail
  refine HC.out.mono ?_
  rintro e w2 hm
  obtain ⟨v, rfl, hv⟩ := HR.out e w2 hm
  have HV := Lib.hid hv
  clear hm hv HR
  go_wp2_with fail
  go_ret
  exact HV.out
theorem markDb_any (t : Db) (w : World) (cs : List Value) (fp : List Nat) (k : Int) (h : ODb w t cs fp) (hk : 0 < k) (hkb : k + cntDb t ≤ 1000000000000) : Calls Tryz.prog 17 #[.agg cs.toArray, .int .i64 k] w (MarkedDb cs fp k w) := markDbK_any _ (Int.le_refl _) t w cs fp k h hk hkb

set_option maxHeartbeats 800000 in
theorem heldDb_any (t : Db) (w : World) (cs : List Value) (k k' : Int) (h : RDb w t cs) (hh : HeldDd k t k') (hk : 0 < k) (hkb : k' ≤ 1000000000000) : Calls Tryz.prog 19 #[.agg cs.toArray, .int .i64 k] w (CountsV k' w) := by
  have hle := hh.le
  obtain ⟨A, d, rfl, hl, _, hp⟩ := h.open
  obtain ⟨W1, hW1⟩ : ∃ W1, w.alloc (.cells #[.slice A t.length d] 37) = W1 := ⟨_, rfl⟩
  obtain ⟨H, hH⟩ : ∃ H, w.heap.size = H := ⟨_, rfl⟩
  have hbox : Box1 W1 H 37 (.slice A t.length d) := by rw [← hW1, ← hH]; exact Box1.new w _ _
  have hb0 : Below w.heap.size w W1 := by rw [← hW1]; exact (Below.refl _ _).alloc (Nat.le_refl _) _
  have HC := Lib.hid (heldDdS_any t W1 A d k k' (hp.keep hb0) hh hl hk hkb)
  have HW1 := Lib.hid hW1
  have HB0 := Lib.hid hb0
  have x0 := hbox.c0
  have hk1 : ¬ k' < 0 := by omega
  generalize t.length = n at HC HW1 x0 ⊢
  clear h hp hl hW1 hbox hb0 hh
  go_enter Tryz.func19, Tryz.ntmps19
  go_wp2_with fail
  rw [HW1.out]
  go_wp2_with fail
  refine HC.out.mono ?_
  rintro e w2 ⟨rfl, hb2⟩
  have HR : Hid (CountsV k' w (.returned (.int .i64 k')) w2) := Lib.hid ⟨rfl, HB0.out.trans (hb2.mono HB0.out.size)⟩
  clear hb2
  go_wp2_with fail
  go_ret
  exact HR.out
end Go.Proofs.YtlikmgkjilmjpaaGreat
