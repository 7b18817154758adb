/-
  Merged by program: MkG, MkDc, Part2, Kd2, Box2, VaOwn.
-/
import Derived.Test.YtlikmgkjilmjpaaGreatI8
import Derived.Test.YtlikmgkjilmjpaaGreatI7
import Derived.Test.YtlikmgkjilmjpaaGreatI6
import Derived.Test.YtlikmgkjilmjpaaGreatI1
import Derived.Test.YtlikmgkjilmjpaaGreatI4
import Derived.Laws.Rows
import Derived.Test.YtlikmgkjilmjpaaGreatI5
import Derived.Test.YtlikmgkjilmjpaaGreatI2

/-
  Marks in lists of structs: what stays. Hangs on no program.
-/
namespace Go.Proofs.YtlikmgkjilmjpaaGreat
open Go.RowKit

theorem only_held {gp : List Nat} {w w' : World} (h : Only gp w w') : Held (fun b => b ∉ gp) w w' := ⟨h.os, h.tape, h.output, h.size, fun i hi hn => h.block i hi hn⟩
theorem Kd.only {α : Type} (a : Kd α) {w w' : World} {x : α} {cs : List Value} {fp gp : List Nat} (h : a.O w x cs fp) (ho : Only gp w w') (hne : ∀ b ∈ fp, b ∉ gp) : a.O w' x cs fp := a.held h (only_held ho) hne
/-- only the blocks fp have turned, the marks go up to at most K -/
def MarksO (fp : List Nat) (K : Int) (w : World) (e : Ending) (w' : World) : Prop := ∃ k' : Int, e = .returned (.int .i64 k') ∧ 0 < k' ∧ k' ≤ K ∧ Only fp w w'
theorem partK_set_other {β : Type} {n : Nat} {xs : List β} {i j q : Nat} {u : β} (hij : j ≠ i) (hq : q < n) : partK n (xs.set (i * n + q) u) j = partK n xs j := by
  apply List.ext_getElem?
  intro m
  by_cases hm : m < n
  · rw [partK_get _ _ _ _ hm, partK_get _ _ _ _ hm, List.getElem?_set_ne]
    intro e1
    rcases Nat.lt_or_ge j i with h | h
    · have := Nat.mul_le_mul_right n (show j + 1 ≤ i from h)
      rw [Nat.succ_mul] at this
      omega
    · have := Nat.mul_le_mul_right n (show i + 1 ≤ j by omega)
      rw [Nat.succ_mul] at this
      omega
  · unfold partK
    rw [List.getElem?_take_eq_none (by omega), List.getElem?_take_eq_none (by omega)]

end Go.Proofs.YtlikmgkjilmjpaaGreat

/-
  The laws' markSchema on a schema of the call's own: which blocks turn.
-/
namespace Go.Proofs.YtlikmgkjilmjpaaGreat
open Go.RowKit

/-- how many marks a declaration takes -/
def cntDc (d : Dc) : Nat := 1 + d.2.cnt
def cntSc (t : Sc) : Nat := (t.map cntDc).sum
/-- what the loop keeps -/
def MkInv {α : Type} (a : Kd α) (e : TypeId) (cnt : α → Nat) (xs : List α) (w : World) (A : Option Addr) (d : Nat) (fs : Nat → List Nat) (fp : List Nat) (k0 : Int) (kv iv : Value) (wr : World) : Prop :=
  ∃ (i : Nat) (cells : List Value), i ≤ xs.length ∧ iv = .int .i64 (i : Int) ∧ kv = .int .i64 (k0 + (((xs.take i).map cnt).sum : Nat)) ∧ wr.ownsRow 0 e a.n (.slice A xs.length d) xs.length cells ∧
    (∀ (j : Nat) (x : α), i ≤ j → xs[j]? = some x → a.O wr x (partK a.n cells j) (fs j)) ∧ Only fp w wr
set_option maxRecDepth 100000 in
set_option maxHeartbeats 3200000 in
theorem markDcS_any (xs : List Dc) (w : World) (A : Option Addr) (d : Nat) (fp : List Nat) (k0 : Int) (h : OL kDc 98 w xs (.slice A xs.length d) fp) (hk0 : 0 < k0) (hkb : k0 + cntSc xs ≤ 1000000000000) :
    Calls Tryz.prog 41 #[.slice A xs.length d, .int .i64 k0] w (MarksO fp (k0 + cntSc xs) w) := by
  obtain ⟨_, cells, fs, hlen, hown, hkids, hfp, hnd⟩ := h.parts
  have HND := Lib.hid hnd
  have HFP := Lib.hid hfp
  have HI0 : Hid (MkInv kDc 98 cntDc xs w A d fs fp k0 (.int .i64 k0) (.int .i64 0) w) := Lib.hid ⟨0, cells, Nat.zero_le _, rfl, by simp, hown, fun j x _ hj => hkids j x hj, Only.refl _ _⟩
  clear h hown hkids hnd
  go_enter Tryz.func41, Tryz.ntmps41
  go_wp2_with fail
  go_loopw [1, 5] (fun kv iv wr => MkInv kDc 98 cntDc xs w A d fs fp k0 kv iv wr) (fun _ iv _ => xs.length - (intOf iv).toNat)
  case atStart => exact HI0.out
  case round =>
    obtain ⟨i, ys, hi, rfl, rfl, hrow, hrest, honly⟩ := hrel
    have hyl : ys.length = xs.length * 4 := hrow.1
    by_cases hlt : i < xs.length
    · have hold := hrest i xs[i] (Nat.le_refl _) (List.getElem?_eq_getElem hlt)
      obtain ⟨tk, TL, TA, tl, tc, ta, td, hpart, hsz, hty⟩ := kDc_oopen hold
      obtain ⟨a, cs, hnode⟩ : ∃ a cs, xs[i].2 = .node a cs := ⟨_, _, (match xs[i].2 with | .node a cs => rfl : xs[i].2 = .node xs[i].2.top xs[i].2.kids)⟩
      rw [hnode] at hty
      obtain ⟨L, B, c, d', zs, fs2, hcs, hfs, haok, hl, hcl, hrow2, hkids2, hnd2⟩ := otree hty
      simp only [List.cons.injEq, Value.int.injEq, Value.slice.injEq, and_true, true_and] at hcs
      obtain ⟨rfl, ⟨rfl, rfl, rfl⟩, rfl, rfl, rfl⟩ := hcs
      have hct := sum_take_succ cntDc xs i hlt
      have hcle := sum_take_le cntDc xs (i + 1)
      have hci : cntDc xs[i] = 1 + (1 + a.labels.length + cntK cs) := by unfold cntDc; rw [hnode, cnt_node]
      have hsum : cntSc xs = (xs.map cntDc).sum := rfl
      rw [hci] at hct
      have hK := markTree (.node a cs)
      obtain ⟨g, rfl⟩ : ∃ g, A = some ⟨g, 0, none⟩ := by
        rcases hrow.2 with ⟨_, h0⟩ | ⟨g, _, _, hv, _⟩
        · omega
        · injection hv with e _ _
          exact ⟨g, e⟩
      obtain ⟨n, hn⟩ : ∃ n, a.labels.length = n := ⟨_, rfl⟩
      have hlab := hl
      rw [hn] at hpart hl hct
      obtain ⟨T, hT⟩ : ∃ T, ((xs.take i).map cntDc).sum = T := ⟨_, rfl⟩
      rw [hT] at hct
      have hgf : g ∉ fs i := fun hm => by
        have h1 := HND.out
        rw [HFP.out] at h1
        exact (List.nodup_append.1 h1).2.2 g (by simp [blk]) g (flat_mem hlt hm) rfl
      have hrow4 : wr.ownsRow 0 98 4 (.slice (some ⟨g, 0, none⟩) xs.length d) xs.length ys := hrow
      have hp : ∀ q, q < 4 → ys[i * 4 + q]? = [Value.string xs[i].1, .int .i64 a.kind, .slice TL n tc, .slice TA cs.length td][q]? := fun q hq => by
        have h1 := partK_get 4 ys i q hq
        rw [show partK 4 ys i = partK kDc.n ys i from rfl, hpart] at h1
        exact h1.symm
      have hp0 := hp 0 (by omega)
      have hp1 := hp 1 (by omega)
      have hp2 := hp 2 (by omega)
      have hp3 := hp 3 (by omega)
      have q0 : wr.cell? ⟨g, i * 4, none⟩ = some (.string xs[i].1) := by rw [hrow4.cellAt _ (by omega)]; exact hp0
      have q1 : wr.cell? ⟨g, i * 4 + 1, none⟩ = some (.int .i64 a.kind) := by rw [hrow4.cellAt _ (by omega)]; exact hp1
      have q2 : wr.cell? ⟨g, i * 4 + 2, none⟩ = some (.slice TL n tc) := by rw [hrow4.cellAt _ (by omega)]; exact hp2
      have hTb : (T : Int) ≤ 1000000000000 := by omega
      have hnb : (n : Int) ≤ 1000000000000 := by omega
      have hkT : k0 + (T : Int) + 2 + n ≤ 1000000000000 := by omega
      have HMT := Lib.hid (markText_any (k0 + T) (by omega) (by omega) wr)
      have HALL : Hid (∀ w1 : World, Below wr.heap.size wr w1 → ∀ (mt : ByteArray), w1.cell? ⟨g, i * 4, none⟩ = some (.string xs[i].1) ∧ w1.cell? ⟨g, i * 4 + 1, none⟩ = some (.int .i64 a.kind) ∧ w1.cell? ⟨g, i * 4 + 2, none⟩ = some (.slice TL n tc) ∧ w1.frozen? ⟨g, i * 4, none⟩ = false ∧ w1.frozen? ⟨g, i * 4 + 1, none⟩ = false ∧
          ∃ w3, (w1.setCell ⟨g, i * 4, none⟩ (.string mt)).setCell ⟨g, i * 4 + 1, none⟩ (.int .i64 (k0 + T + 1)) = w3 ∧ Calls Tryz.prog 43 #[.slice TL n tc, .int .i64 (k0 + T + 2)] w3 (fun e w4 => e = .returned (.int .i64 (k0 + T + 2 + n)) ∧ w4.cell? ⟨g, i * 4 + 3, none⟩ = some (.slice TA cs.length td) ∧
            Calls Tryz.prog 64 #[.slice TA cs.length td, .int .i64 (k0 + T + 2 + n)] w4 (fun e w5 => ∃ v : Int, e = .returned (.int .i64 v) ∧ ∀ kv iv, kv = Value.int .i64 v → iv = Value.int .i64 ((i + 1 : Nat) : Int) → MkInv kDc 98 cntDc xs w (some ⟨g, 0, none⟩) d fs fp k0 kv iv w5))) := Lib.hid (by
        intro w1 hb1 mt
        have up : ∀ (q : Addr) (u : Value), wr.cell? q = some u → w1.cell? q = some u := fun q u h => (hb1.cell (World.block_lt_of_cell? wr _ h)).trans h
        have hr1 : w1.ownsRow 0 98 4 (.slice (some ⟨g, 0, none⟩) xs.length d) xs.length ys := own_keep hrow4 (row := none) (grown_none hb1) (fun b _ => by simp)
        have hst2 := hr1.stored (i * 4) (.string mt)
        have hst3 := hst2.1.stored (i * 4 + 1) (.int .i64 (k0 + (T : Int) + 1))
        obtain ⟨w3, hw3⟩ : ∃ w3, (w1.setCell ⟨g, i * 4, none⟩ (.string mt)).setCell ⟨g, i * 4 + 1, none⟩ (.int .i64 (k0 + (T : Int) + 1)) = w3 := ⟨_, rfl⟩
        rw [hw3] at hst3
        have ho3 : Only [g] wr w3 := (Only.of_below hb1).trans ((Only.of_grown hst2.2 (fun x e => by injection e with e; simp [e])).trans (Only.of_grown hst3.2 (fun x e => by injection e with e; simp [e])))
        have hgx : ∀ b, b ∈ fs i → b ∉ [g] := fun b hb hm => by
          have e : b = g := by simpa using hm
          subst e
          exact hgf hb
        have hl3 := own_only hl ho3 (fun b hb => hgx b (by rw [hfs]; simp [hb]))
        refine ⟨up _ _ q0, up _ _ q1, up _ _ q2, hr1.frozenAt _, hr1.frozenAt _, w3, hw3, (markS_any TL n tc (k0 + T + 2) _ w3 hl3 (strs_strs _) (by omega) (by omega)).mono ?_⟩
        rintro e w4 ⟨rfl, hl4, ho4⟩
        obtain ⟨nL, nB, nF, dLB, dLF, dBF⟩ := nodup3.1 hnd2
        have hgL : g ∉ blk TL := fun hm => hgf (by rw [hfs]; simp [hm])
        have hr4 : w4.ownsRow 0 98 4 (.slice (some ⟨g, 0, none⟩) xs.length d) xs.length ((ys.set (i * 4) (.string mt)).set (i * 4 + 1) (.int .i64 (k0 + (T : Int) + 1))) := own_only hst3.1 ho4 (fun b hb hm => by
          have e : b = g := by simpa [blk] using hb
          subst e
          exact hgL hm)
        have hrow24 := own_only (own_only hrow2 ho3 (fun b hb => hgx b (by rw [hfs]; simp [hb]))) ho4 (fun b hb hm => dLB b hm hb)
        have hk24 : ∀ j t, cs[j]? = some t → OTy w4 t (part3 zs j) (fs2 j) := fun j t hj =>
          have hjl := (List.getElem?_eq_some_iff.1 hj).1
          ((hkids2 j t hj).only ho3 (fun b hb => hgx b (by rw [hfs]; exact List.mem_append.2 (.inr (flat_mem hjl hb))))).only ho4 (fun b hb hm => dLF b hm (flat_mem hjl hb))
        refine ⟨rfl, by rw [hr4.cellAt _ (by omega), List.getElem?_set_ne (by omega), List.getElem?_set_ne (by omega)]; exact hp3, ?_⟩
        refine (hK w4 TA td zs fs2 (k0 + T + 2 + n) hrow24 hk24 (List.nodup_append.2 ⟨nB, nF, fun x hx y hy e => dBF x hx (e ▸ hy)⟩) hcl (by omega) (by show k0 + (T : Int) + 2 + n + cntK cs ≤ _; omega)).mono ?_
        rintro e w5 ⟨js, ys', rfl, _, _, _, _, ho5⟩
        refine ⟨_, rfl, fun kv iv hkv hiv => ?_⟩
        have hoAll : Only (g :: fs i) wr w5 := ((ho3.more (fun x hx => by simp at hx; simp [hx])).trans (ho4.more (fun x hx => by simp [hfs, hx]))).trans (ho5.more (fun x hx => by
          rw [List.mem_cons, hfs]
          rcases List.mem_append.1 hx with h | h
          · exact .inr (by simp [h])
          · exact .inr (List.mem_append.2 (.inr h))))
        have hgB : ∀ b ∈ blk (some (⟨g, 0, none⟩ : Addr)), b ∉ blk TA ++ (List.range cs.length).flatMap fs2 := fun b hb hm => by
          have e : b = g := by simpa [blk] using hb
          subst e
          exact hgf (by
            rw [hfs]
            rcases List.mem_append.1 hm with h | h
            · simp [h]
            · exact List.mem_append.2 (.inr h))
        have hr5 := own_only hr4 ho5 hgB
        refine ⟨i + 1, _, hlt, hiv, ?_, hr5, fun j x hj hx => ?_, honly.trans (hoAll.more (fun x hx => ?_))⟩
        · rw [hkv, hct]
          congr 1
          push_cast
          show k0 + (T : Int) + 2 + n + ((cntK cs : Nat) : Int) = _
          omega
        · have hjl := (List.getElem?_eq_some_iff.1 hx).1
          have hji : j ≠ i := by omega
          have h1 := kDc.only (hrest j x (by omega) hx) hoAll (fun b hb hm => by
            rcases List.mem_cons.1 hm with h | h
            · have h2 := HND.out
              rw [HFP.out] at h2
              exact (List.nodup_append.1 h2).2.2 g (by simp [blk]) b (flat_mem hjl hb) h.symm
            · have h2 := HND.out
              rw [HFP.out] at h2
              exact flat_apart (List.nodup_append.1 h2).2.1 hjl hlt hji hb h)
          have h2 : partK kDc.n ((ys.set (i * 4) (.string mt)).set (i * 4 + 1) (.int .i64 (k0 + (T : Int) + 1))) j = partK kDc.n ys j := by
            rw [show kDc.n = 4 from rfl, partK_set_other (q := 1) hji (by omega)]
            exact partK_set_other (q := 0) hji (by omega)
          rw [h2]
          exact h1
        · rw [HFP.out]
          rcases List.mem_cons.1 hx with h | h
          · simp [h, blk]
          · exact List.mem_append.2 (.inr (flat_mem hlt h)))
      rw [hT]
      generalize xs[i].1 = nm at q0 HALL
      clear hold hnode hpart hfs haok hl hlab hrow2 hkids2 hnd2 hct hcle hci hsum hK hn hT hgf hrow hrow4 hp hp0 hp1 hp2 hp3 hrest honly hcl hkb hsz hty hfp
      go_wp2_with fail
      refine HMT.out.mono ?_
      rintro e w1 ⟨rfl, hb1⟩
      obtain ⟨y0, y1, y2, z0, z1, w3, hw3, hc3⟩ := HALL.out w1 hb1 ⟨(mtext (k0 + T)).toArray⟩
      have HW3 := Lib.hid hw3
      have HC3 := Lib.hid hc3
      clear hw3 hc3 hb1 q0 q1 q2 HALL HMT
      go_wp2_with fail
      rw [HW3.out, show k0 + (T : Int) + 1 + 1 = k0 + T + 2 by omega]
      refine HC3.out.mono ?_
      rintro e w4 ⟨rfl, y3, hc4⟩
      have y3 : w4.cell? ⟨g, i * 4 + 1 + 2, none⟩ = some (.slice TA cs.length td) := y3
      have HC4 := Lib.hid hc4
      clear hc4 y0 y1 y2 z0 z1 HC3
      go_wp2_with fail
      refine HC4.out.mono ?_
      rintro e w5 ⟨v, rfl, hfin⟩
      have HF := Lib.hid hfin
      clear hfin y3 HC4
      go_wp2_with fail
      go_roundw
      case rel => exact HF.out _ _ rfl (by go_num)
      case measure => simp [intOf]; omega
    · have he : i = xs.length := by omega
      subst he
      have HR : Hid (MarksO fp (k0 + cntSc xs) w (.returned (.int .i64 (k0 + (((xs.take xs.length).map cntDc).sum : Nat)))) wr) := Lib.hid ⟨_, rfl, by omega, by rw [List.take_length]; exact Int.le_refl _, honly⟩
      clear hrow hrest honly
      go_wp2_with fail
      go_ret
      exact HR.out

set_option maxHeartbeats 800000 in
theorem markSc_any (t : Sc) (w : World) (cs : List Value) (fp : List Nat) (k : Int) (h : OSc w t cs fp) (hk : 0 < k) (hkb : k + cntSc t ≤ 1000000000000) : Calls Tryz.prog 16 #[.agg cs.toArray, .int .i64 k] w (MarksO fp (k + cntSc t) w) := by
  obtain ⟨A, d, rfl, hl, _, hp⟩ := h.reads.open
  obtain ⟨W1, hW1⟩ : ∃ W1, w.alloc (.cells #[.slice A t.length d] 42) = W1 := ⟨_, rfl⟩
  obtain ⟨H, hH⟩ : ∃ H, w.heap.size = H := ⟨_, rfl⟩
  have hbox : Box1 W1 H 42 (.slice A t.length d) := by rw [← hW1, ← hH]; exact Box1.new w _ _
  have hb0 : Below w.heap.size w W1 := by rw [← hW1]; exact (Below.refl _ _).alloc (Nat.le_refl _) _
  have HC := Lib.hid (markDcS_any t W1 A d fp k (OSc.ol.1 (h.under hb0)) hk hkb)
  have HW1 := Lib.hid hW1
  have HB0 : Hid (Only fp w W1) := Lib.hid (Only.of_below hb0)
  have x0 := hbox.c0
  generalize t.length = n at HC HW1 x0 ⊢
  generalize (cntSc t : Int) = K at HC ⊢
  clear h hp hl hW1 hbox hb0
  go_enter Tryz.func16, Tryz.ntmps16
  go_wp2_with fail
  rw [HW1.out]
  go_wp2_with fail
  refine HC.out.mono ?_
  rintro e w2 ⟨v, rfl, h1, h2, h3⟩
  have HR : Hid (MarksO fp (k + K) w (.returned (.int .i64 v)) w2) := Lib.hid ⟨v, rfl, h1, h2, HB0.out.trans h3⟩
  clear h1 h2 h3
  go_wp2_with fail
  go_ret
  exact HR.out
end Go.Proofs.YtlikmgkjilmjpaaGreat

/-
  Rows of structs of 2 cells: the part of one struct; a struct stored. Plain lists, and rows of the call's own. Written by genbox.py.
-/
namespace Go.Proofs.YtlikmgkjilmjpaaGreat
open Go.RowKit

theorem grown_trans2 {a b c : World} {g : Nat} (h : a.grownBy b (some g)) (k : b.grownBy c (some g)) : a.grownBy c (some g) :=
  ⟨k.os.trans h.os, k.tape.trans h.tape, k.output.trans h.output, Nat.le_trans h.size k.size, fun i hi hn => (k.block i (Nat.lt_of_lt_of_le hi h.size) hn).trans (h.block i hi hn)⟩
/-- the cells of the j-th struct -/
def part2 {β : Type} (xs : List β) (j : Nat) : List β := (xs.drop (j * 2)).take 2
theorem part2_get {β : Type} (xs : List β) (j i : Nat) (hi : i < 2) : (part2 xs j)[i]? = xs[j * 2 + i]? := by
  unfold part2
  rw [List.getElem?_take_of_lt hi, List.getElem?_drop]
theorem part2_len {β : Type} (xs : List β) (j : Nat) (h : j * 2 + 2 ≤ xs.length) : (part2 xs j).length = 2 := by
  unfold part2
  rw [List.length_take, List.length_drop]
  omega
theorem part2_ext {β : Type} {xs ys : List β} {j : Nat} (h : ∀ i, i < 2 → xs[j * 2 + i]? = ys[j * 2 + i]?) : part2 xs j = part2 ys j := by
  apply List.ext_getElem?
  intro i
  by_cases hi : i < 2
  · rw [part2_get _ _ _ hi, part2_get _ _ _ hi]; exact h i hi
  · unfold part2
    rw [List.getElem?_take_eq_none (by omega), List.getElem?_take_eq_none (by omega)]
/-- the j-th struct replaced -/
def put2 {β : Type} (xs : List β) (j : Nat) (a0 a1 : β) : List β := (xs.set (j * 2) a0).set (j * 2 + 1) a1
theorem put2_len {β : Type} (xs : List β) (j : Nat) (a0 a1 : β) : (put2 xs j a0 a1).length = xs.length := by simp [put2]
theorem put2_at {β : Type} (xs : List β) (j : Nat) (a0 a1 : β) (h : j * 2 + 2 ≤ xs.length) : part2 (put2 xs j a0 a1) j = [a0, a1] := by
  apply List.ext_getElem?
  intro i
  by_cases hi : i < 2
  · rw [part2_get _ _ _ hi]
    unfold put2
    match i, hi with
    | 0, _ =>
      have h0 : j * 2 < xs.length := by omega
      simp [h0]
    | 1, _ =>
      have h0 : j * 2 + 1 < xs.length := by omega
      simp [h0]
  · rw [List.getElem?_eq_none (by rw [part2_len _ _ (by rw [put2_len]; exact h)]; omega), List.getElem?_eq_none (by simp; omega)]
theorem put2_other {β : Type} (xs : List β) (j k : Nat) (a0 a1 : β) (h : k ≠ j) : part2 (put2 xs j a0 a1) k = part2 xs k := by
  refine part2_ext fun i hi => ?_
  unfold put2
  rw [List.getElem?_set_ne (by omega), List.getElem?_set_ne (by omega)]

/-- 2 stores into a row of the call's own -/
def store2 (w : World) (g j : Nat) (a0 a1 : Value) : World := (w.setCell ⟨g, j * 2, none⟩ a0).setCell ⟨g, j * 2 + 1, none⟩ a1
theorem own_store2 {w : World} {base g n cap : Nat} {e : TypeId} {xs : List Value} (h : w.ownsRow base e 2 (.slice (some ⟨g, 0, none⟩) n cap) n xs) (j : Nat) (a0 a1 : Value) :
    (store2 w g j a0 a1).ownsRow base e 2 (.slice (some ⟨g, 0, none⟩) n cap) n (put2 xs j a0 a1) ∧ w.grownBy (store2 w g j a0 a1) (some g) := by
  have h1 := h.stored (j * 2) a0
  have h2 := h1.1.stored (j * 2 + 1) a1
  refine ⟨h2.1, ?_⟩
  have g1 := h1.2
  have g2 := grown_trans2 g1 h2.2
  exact g2
end Go.Proofs.YtlikmgkjilmjpaaGreat

/-
  Lists of structs of 2 cells: the k-th one, and its store. Hangs on no program. Written by genat.py.
-/
namespace Go.Proofs.YtlikmgkjilmjpaaGreat
open Go.RowKit

theorem rl_at2 {α : Type} {a : Kd α} (hn : a.n = 2) {w wr : World} {A : Option Addr} {xs : List α} (hp : RL a w A xs) (hb : Below w.heap.size w wr) {k : Nat} (hk : k < xs.length) : ∃ (ad p : Addr) (c0 c1 : Value), A = some ad ∧ ad.add (k * 2) = p ∧ a.R wr xs[k] [c0, c1] ∧ wr.cell? p = some c0 ∧ wr.cell? ⟨p.block, p.off + 1, none⟩ = some c1 := by
  obtain ⟨ps, hp⟩ := hp
  obtain ⟨hr, ad, hA, hc⟩ := hp k xs[k] (List.getElem?_eq_getElem hk)
  have hl : (ps k).length = 2 := by rw [a.len hr, hn]
  rw [hn] at hc
  have hcell : ∀ i u, (ps k)[i]? = some u → wr.cell? (ad.add (k * 2 + i)) = some u := fun i u hi => (hb.cell (World.block_lt_of_cell? w _ (hc i u hi))).trans (hc i u hi)
  obtain ⟨c0, c1, he⟩ : ∃ c0 c1, ps k = [c0, c1] := by
    match ps k, hl with
    | [x0, x1], _ => exact ⟨x0, x1, rfl⟩
  rw [he] at hcell hr
  refine ⟨ad, _, c0, c1, hA, rfl, a.keep hr hb, hcell 0 _ rfl, ?_⟩
  · rw [← addr_next ad (k * 2) 1 (by omega)]; exact hcell 1 _ rfl
/-- the cells of the place k are stored -/
theorem tolinv_store2 {α : Type} {a : Kd α} (hn : a.n = 2) {e : TypeId} {xs : List α} {w wr w2 : World} {k : Nat} {cells : List Value} {fs : Nat → List Nat} {fp : List Nat} {r0 r1 : Value} {i : Value} (hk : k < xs.length) (hi : i = .int .i64 ((k + 1 : Nat) : Int))
    (hown : wr.ownsRow w.heap.size e a.n (.slice (some ⟨w.heap.size, 0, none⟩) xs.length xs.length) xs.length cells) (hkid : ∀ (j : Nat) (x : α), j < k → xs[j]? = some x → a.O wr x (partK a.n cells j) (fs j)) (hnd : ((List.range k).flatMap fs).Nodup)
    (hbd : ∀ j, j < k → ∀ b ∈ fs j, w.heap.size < b ∧ b < wr.heap.size) (hb : Below w.heap.size w wr) (hb2 : Below wr.heap.size wr w2) (hot : a.O w2 xs[k] [r0, r1] fp) (hfp : ∀ b ∈ fp, wr.heap.size ≤ b ∧ b < w2.heap.size) :
    ToLInv a e xs w i (store2 w2 w.heap.size k r0 r1) := by
  have hxl : cells.length = xs.length * 2 := by rw [← hn]; exact hown.1
  have ho2 : w2.ownsRow w.heap.size e a.n (.slice (some ⟨w.heap.size, 0, none⟩) xs.length xs.length) xs.length cells :=
    hown.kept (row := none) ⟨hb2.os, hb2.tape, hb2.output, hb2.size, fun i hi _ => hb2.block i hi⟩ (.inr (by simp [Value.ownBlock]))
  rw [hn] at ho2
  obtain ⟨h3, hg3⟩ := own_store2 ho2 k r0 r1
  rw [← hn] at h3
  refine tolinv_more hk hi hown hkid hnd hbd hb hb2 hot hfp h3 hg3 ?_ fun j hj => ?_
  · rw [hn]; exact put2_at cells k r0 r1 (by omega)
  · rw [hn]; exact put2_other cells k j r0 r1 hj
end Go.Proofs.YtlikmgkjilmjpaaGreat

/-
  A block of 2 cells that is known whole. Hangs on no program. Written by genbox.py.
-/
namespace Go.Proofs.YtlikmgkjilmjpaaGreat
open Go.RowKit

def Box2 (w : World) (g : Nat) (t : TypeId) (a0 a1 : Value) : Prop := w.heap[g]? = some (.cells #[a0, a1] t (0, 0))
section
variable {w w' : World} {g : Nat} {t : TypeId} {a0 a1 : Value}
theorem Box2.new (w : World) (t : TypeId) (a0 a1 : Value) : Box2 (w.alloc (.cells #[a0, a1] t)) w.heap.size t a0 a1 := heap_alloc_new w _
theorem Box2.lt (h : Box2 w g t a0 a1) : g < w.heap.size := (Array.getElem?_eq_some_iff.1 h).1
theorem Box2.c0 (h : Box2 w g t a0 a1) : w.cell? ⟨g, 0, none⟩ = some a0 := cell_of_row w g 0 _ t (0, 0) h
theorem Box2.c1 (h : Box2 w g t a0 a1) : w.cell? ⟨g, 1, none⟩ = some a1 := cell_of_row w g 1 _ t (0, 0) h
theorem Box2.free (h : Box2 w g t a0 a1) (i : Nat) : w.frozen? ⟨g, i, none⟩ = false := frozen_of_row w g i _ t h
theorem Box2.under (h : Box2 w g t a0 a1) {B : Nat} (hb : Below B w w') (hg : g < B) : Box2 w' g t a0 a1 := (hb.block g hg).trans h
theorem Box2.alloc (h : Box2 w g t a0 a1) (o : Obj) : Box2 (w.alloc o) g t a0 a1 := ((((Below.refl _ _).alloc (Nat.le_refl _) o : Below w.heap.size w (w.alloc o))).block g h.lt).trans h
theorem Box2.far (h : Box2 w g t a0 a1) {p : Addr} (hp : g ≠ p.block) (u : Value) : Box2 (w.setCell p u) g t a0 a1 := (Below.heap_setCell w p u g hp).trans h
theorem Box2.set0 (h : Box2 w g t a0 a1) (u : Value) : Box2 (w.setCell ⟨g, 0, none⟩ u) g t u a1 := heap_setCell_same w g 0 _ t u h
theorem Box2.set1 (h : Box2 w g t a0 a1) (u : Value) : Box2 (w.setCell ⟨g, 1, none⟩ u) g t a0 u := heap_setCell_same w g 1 _ t u h
theorem Box2.grown {row : Option Nat} (h : Box2 w g t a0 a1) (hg : w.grownBy w' row) (hne : some g ≠ row) : Box2 w' g t a0 a1 := (hg.block g h.lt hne).trans h
end
end Go.Proofs.YtlikmgkjilmjpaaGreat

/-
  A value in memory of the call's own: its rows, one block each, no two alike.
-/
namespace Go.Proofs.YtlikmgkjilmjpaaGreat
open Go.RowKit

/-- the four cells are a value of the call's own; its blocks -/
inductive OVa (w : World) : Va → List Value → List Nat → Prop where
  | node (a : VaA) (ks : List Va) (L A : Option Addr) (c d : Nat) (xs : List Value) (fs : Nat → List Nat) (h0 : a.ok) (h1 : w.ownsRow 0 9 1 (.slice L a.labels.length c) a.labels.length (a.labels.map Value.string)) (h2 : ks.length ≤ 9223372036854775807)
      (h3 : w.ownsRow 0 47 4 (.slice A ks.length d) ks.length xs) (h4 : ∀ j t, ks[j]? = some t → OVa w t (part4 xs j) (fs j)) (h5 : (blk L ++ blk A ++ (List.range ks.length).flatMap fs).Nodup) :
      OVa w (.node a ks) [.int .i64 a.kind, .int .i64 a.num, .slice L a.labels.length c, .slice A ks.length d] (blk L ++ blk A ++ (List.range ks.length).flatMap fs)

theorem OVa.reads {w : World} {t : Va} {cs : List Value} {fp : List Nat} (h : OVa w t cs fp) : RVa w t cs := by
  induction h with
  | node a ks L A c d xs fs h0 h1 h2 h3 _ _ ih =>
    have hx : xs.length = ks.length * 4 := h3.1
    refine .node a ks L A c d (part4 xs) (Sl.of_own h1) h0 h2 ?_ (fun j t hj => ih j t hj) (fun j t hj => ?_)
    · rcases h3.2 with ⟨_, h0⟩ | ⟨g, cap, cur, hv, _, _, hc, _⟩
      · omega
      · injection hv with _ _ e3
        omega
    have hj := (List.getElem?_eq_some_iff.1 hj).1
    rcases h3.2 with ⟨_, h0⟩ | ⟨g, cap, cur, hv, _⟩
    · omega
    · injection hv with e1 _ _
      subst e1
      refine ⟨_, rfl, fun i u hi => ?_⟩
      have hi3 : i < 4 := by
        have := (List.getElem?_eq_some_iff.1 hi).1
        rw [part4_len _ _ (by omega)] at this
        exact this
      rw [part4_get _ _ _ hi3] at hi
      exact h3.cells (g := g) rfl _ u hi
theorem OVa.keep {w w' : World} {t : Va} {cs : List Value} {fp : List Nat} {row : Option Nat} (h : OVa w t cs fp) (hg : w.grownBy w' row) (hne : ∀ b ∈ fp, some b ≠ row) : OVa w' t cs fp := by
  induction h with
  | node a ks L A c d xs fs h0 h1 h2 h3 h4 h5 ih =>
    refine .node a ks L A c d xs fs h0 (own_keep h1 hg (fun b hb => hne b (by simp [hb]))) h2 (own_keep h3 hg (fun b hb => hne b (by simp [hb]))) (fun j t hj => ih j t hj (fun b hb => hne b ?_)) h5
    rw [List.mem_append, List.mem_flatMap]
    exact .inr ⟨j, List.mem_range.2 (List.getElem?_eq_some_iff.1 hj).1, hb⟩
theorem OVa.under {w w' : World} {t : Va} {cs : List Value} {fp : List Nat} (h : OVa w t cs fp) (hb : Below w.heap.size w w') : OVa w' t cs fp :=
  h.keep (row := none) ⟨hb.os, hb.tape, hb.output, hb.size, fun i hi _ => hb.block i hi⟩ (fun b _ => by simp)
theorem OVa.nodup {w : World} {t : Va} {cs : List Value} {fp : List Nat} (h : OVa w t cs fp) : fp.Nodup := by
  cases h with
  | node a ks L A c d xs fs _ _ _ _ _ h5 => exact h5
/-- the four cells written out -/
theorem OVa.four {w : World} {t : Va} {cs : List Value} {fp : List Nat} (h : OVa w t cs fp) : ∃ L c A d, cs = [.int .i64 t.top.kind, .int .i64 t.top.num, .slice L t.top.labels.length c, .slice A t.kids.length d] := by
  cases h with
  | node a ks L A c d xs fs => exact ⟨L, c, A, d, rfl⟩

/-- a value in new memory -/
def MadeV (t : Va) (w : World) (e : Ending) (w' : World) : Prop :=
  ∃ (L A : Option Addr) (c d : Nat) (fp : List Nat), e = .returned (.agg #[.int .i64 t.top.kind, .int .i64 t.top.num, .slice L t.top.labels.length c, .slice A t.kids.length d]) ∧ OVa w' t [.int .i64 t.top.kind, .int .i64 t.top.num, .slice L t.top.labels.length c, .slice A t.kids.length d] fp ∧
    (∀ b ∈ fp, w.heap.size ≤ b ∧ b < w'.heap.size) ∧ Below w.heap.size w w'
end Go.Proofs.YtlikmgkjilmjpaaGreat
