/-
  Merged by program: MkG, MkDc.
-/
import Derived.Test.YtlcpekpgkllbkaaT13
import Derived.Test.YtlcpekpgkllbkaaT10
import Derived.Test.YtlcpekpgkllbkaaT8
import Derived.Test.YtlcpekpgkllbkaaT12

/-
  Marks in lists of structs: what stays. Hangs on no program.
-/
namespace Go.Proofs.Ytlcpekpgkllbkaa
open Go.RowKit

theorem only_held {gp : List Nat} {w w' : World} (h : Only gp w w') : Held (fun b => b ∉ gp) w w' := ⟨h.os, h.tape, h.output, h.size, fun i hi hn => h.block i hi hn⟩
theorem Kd.only {α : Type} (a : Kd α) {w w' : World} {x : α} {cs : List Value} {fp gp : List Nat} (h : a.O w x cs fp) (ho : Only gp w w') (hne : ∀ b ∈ fp, b ∉ gp) : a.O w' x cs fp := a.held h (only_held ho) hne
/-- only the blocks fp have turned, the marks go up to at most K -/
def MarksO (fp : List Nat) (K : Int) (w : World) (e : Ending) (w' : World) : Prop := ∃ k' : Int, e = .returned (.int .i64 k') ∧ 0 < k' ∧ k' ≤ K ∧ Only fp w w'
theorem partK_set_other {β : Type} {n : Nat} {xs : List β} {i j q : Nat} {u : β} (hij : j ≠ i) (hq : q < n) : partK n (xs.set (i * n + q) u) j = partK n xs j := by
  apply List.ext_getElem?
  intro m
  by_cases hm : m < n
  · rw [partK_get _ _ _ _ hm, partK_get _ _ _ _ hm, List.getElem?_set_ne]
    intro e1
    rcases Nat.lt_or_ge j i with h | h
    · have := Nat.mul_le_mul_right n (show j + 1 ≤ i from h)
      rw [Nat.succ_mul] at this
      omega
    · have := Nat.mul_le_mul_right n (show i + 1 ≤ j by omega)
      rw [Nat.succ_mul] at this
      omega
  · unfold partK
    rw [List.getElem?_take_eq_none (by omega), List.getElem?_take_eq_none (by omega)]

end Go.Proofs.Ytlcpekpgkllbkaa

/-
  The laws' markSchema on a schema of the call's own: which blocks turn.
-/
namespace Go.Proofs.Ytlcpekpgkllbkaa
open Go.RowKit

/-- how many marks a declaration takes -/
def cntDc (d : Dc) : Nat := 1 + d.2.cnt
def cntSc (t : Sc) : Nat := (t.map cntDc).sum
/-- what the loop keeps -/
def MkInv {α : Type} (a : Kd α) (e : TypeId) (cnt : α → Nat) (xs : List α) (w : World) (A : Option Addr) (d : Nat) (fs : Nat → List Nat) (fp : List Nat) (k0 : Int) (kv iv : Value) (wr : World) : Prop :=
  ∃ (i : Nat) (cells : List Value), i ≤ xs.length ∧ iv = .int .i64 (i : Int) ∧ kv = .int .i64 (k0 + (((xs.take i).map cnt).sum : Nat)) ∧ wr.ownsRow 0 e a.n (.slice A xs.length d) xs.length cells ∧
    (∀ (j : Nat) (x : α), i ≤ j → xs[j]? = some x → a.O wr x (partK a.n cells j) (fs j)) ∧ Only fp w wr
set_option maxRecDepth 100000 in
set_option maxHeartbeats 3200000 in
theorem markDcS_any (xs : List Dc) (w : World) (A : Option Addr) (d : Nat) (fp : List Nat) (k0 : Int) (h : OL kDc 64 w xs (.slice A xs.length d) fp) (hk0 : 0 < k0) (hkb : k0 + cntSc xs ≤ 1000000000000) :
    Calls Try.prog 52 #[.slice A xs.length d, .int .i64 k0] w (MarksO fp (k0 + cntSc xs) w) := by
  obtain ⟨_, cells, fs, hlen, hown, hkids, hfp, hnd⟩ := h.parts
  have HND := Lib.hid hnd
  have HFP := Lib.hid hfp
  have HI0 : Hid (MkInv kDc 64 cntDc xs w A d fs fp k0 (.int .i64 k0) (.int .i64 0) w) := Lib.hid ⟨0, cells, Nat.zero_le _, rfl, by simp, hown, fun j x _ hj => hkids j x hj, Only.refl _ _⟩
  clear h hown hkids hnd
  go_enter Try.func52, Try.ntmps52
  go_wp2_with fail
  go_loopw [1, 5] (fun kv iv wr => MkInv kDc 64 cntDc xs w A d fs fp k0 kv iv wr) (fun _ iv _ => xs.length - (intOf iv).toNat)
  case atStart => exact HI0.out
  case round =>
    obtain ⟨i, ys, hi, rfl, rfl, hrow, hrest, honly⟩ := hrel
    have hyl : ys.length = xs.length * 4 := hrow.1
    by_cases hlt : i < xs.length
    · have hold := hrest i xs[i] (Nat.le_refl _) (List.getElem?_eq_getElem hlt)
      obtain ⟨tk, TL, TA, tl, tc, ta, td, hpart, hsz, hty⟩ := kDc_oopen hold
      obtain ⟨a, cs, hnode⟩ : ∃ a cs, xs[i].2 = .node a cs := ⟨_, _, (match xs[i].2 with | .node a cs => rfl : xs[i].2 = .node xs[i].2.top xs[i].2.kids)⟩
      rw [hnode] at hty
      obtain ⟨L, B, c, d', zs, fs2, hcs, hfs, haok, hl, hcl, hrow2, hkids2, hnd2⟩ := otree hty
      simp only [List.cons.injEq, Value.int.injEq, Value.slice.injEq, and_true, true_and] at hcs
      obtain ⟨rfl, ⟨rfl, rfl, rfl⟩, rfl, rfl, rfl⟩ := hcs
      have hct := sum_take_succ cntDc xs i hlt
      have hcle := sum_take_le cntDc xs (i + 1)
      have hci : cntDc xs[i] = 1 + (1 + a.labels.length + cntK cs) := by unfold cntDc; rw [hnode, cnt_node]
      have hsum : cntSc xs = (xs.map cntDc).sum := rfl
      rw [hci] at hct
      have hK := markTree (.node a cs)
      obtain ⟨g, rfl⟩ : ∃ g, A = some ⟨g, 0, none⟩ := by
        rcases hrow.2 with ⟨_, h0⟩ | ⟨g, _, _, hv, _⟩
        · omega
        · injection hv with e _ _
          exact ⟨g, e⟩
      obtain ⟨n, hn⟩ : ∃ n, a.labels.length = n := ⟨_, rfl⟩
      have hlab := hl
      rw [hn] at hpart hl hct
      obtain ⟨T, hT⟩ : ∃ T, ((xs.take i).map cntDc).sum = T := ⟨_, rfl⟩
      rw [hT] at hct
      have hgf : g ∉ fs i := fun hm => by
        have h1 := HND.out
        rw [HFP.out] at h1
        exact (List.nodup_append.1 h1).2.2 g (by simp [blk]) g (flat_mem hlt hm) rfl
      have hrow4 : wr.ownsRow 0 64 4 (.slice (some ⟨g, 0, none⟩) xs.length d) xs.length ys := hrow
      have hp : ∀ q, q < 4 → ys[i * 4 + q]? = [Value.string xs[i].1, .int .i64 a.kind, .slice TL n tc, .slice TA cs.length td][q]? := fun q hq => by
        have h1 := partK_get 4 ys i q hq
        rw [show partK 4 ys i = partK kDc.n ys i from rfl, hpart] at h1
        exact h1.symm
      have hp0 := hp 0 (by omega)
      have hp1 := hp 1 (by omega)
      have hp2 := hp 2 (by omega)
      have hp3 := hp 3 (by omega)
      have q0 : wr.cell? ⟨g, i * 4, none⟩ = some (.string xs[i].1) := by rw [hrow4.cellAt _ (by omega)]; exact hp0
      have q1 : wr.cell? ⟨g, i * 4 + 1, none⟩ = some (.int .i64 a.kind) := by rw [hrow4.cellAt _ (by omega)]; exact hp1
      have q2 : wr.cell? ⟨g, i * 4 + 2, none⟩ = some (.slice TL n tc) := by rw [hrow4.cellAt _ (by omega)]; exact hp2
      have hTb : (T : Int) ≤ 1000000000000 := by omega
      have hnb : (n : Int) ≤ 1000000000000 := by omega
      have hkT : k0 + (T : Int) + 2 + n ≤ 1000000000000 := by omega
      have HMT := Lib.hid (markText_any (k0 + T) (by omega) (by omega) wr)
      have HALL : Hid (∀ w1 : World, Below wr.heap.size wr w1 → ∀ (mt : ByteArray), w1.cell? ⟨g, i * 4, none⟩ = some (.string xs[i].1) ∧ w1.cell? ⟨g, i * 4 + 1, none⟩ = some (.int .i64 a.kind) ∧ w1.cell? ⟨g, i * 4 + 2, none⟩ = some (.slice TL n tc) ∧ w1.frozen? ⟨g, i * 4, none⟩ = false ∧ w1.frozen? ⟨g, i * 4 + 1, none⟩ = false ∧
          ∃ w3, (w1.setCell ⟨g, i * 4, none⟩ (.string mt)).setCell ⟨g, i * 4 + 1, none⟩ (.int .i64 (k0 + T + 1)) = w3 ∧ Calls Try.prog 53 #[.slice TL n tc, .int .i64 (k0 + T + 2)] w3 (fun e w4 => e = .returned (.int .i64 (k0 + T + 2 + n)) ∧ w4.cell? ⟨g, i * 4 + 3, none⟩ = some (.slice TA cs.length td) ∧
            Calls Try.prog 54 #[.slice TA cs.length td, .int .i64 (k0 + T + 2 + n)] w4 (fun e w5 => ∃ v : Int, e = .returned (.int .i64 v) ∧ ∀ kv iv, kv = Value.int .i64 v → iv = Value.int .i64 ((i + 1 : Nat) : Int) → MkInv kDc 64 cntDc xs w (some ⟨g, 0, none⟩) d fs fp k0 kv iv w5))) := Lib.hid (by
        intro w1 hb1 mt
        have up : ∀ (q : Addr) (u : Value), wr.cell? q = some u → w1.cell? q = some u := fun q u h => (hb1.cell (World.block_lt_of_cell? wr _ h)).trans h
        have hr1 : w1.ownsRow 0 64 4 (.slice (some ⟨g, 0, none⟩) xs.length d) xs.length ys := own_keep hrow4 (row := none) (grown_none hb1) (fun b _ => by simp)
        have hst2 := hr1.stored (i * 4) (.string mt)
        have hst3 := hst2.1.stored (i * 4 + 1) (.int .i64 (k0 + (T : Int) + 1))
        obtain ⟨w3, hw3⟩ : ∃ w3, (w1.setCell ⟨g, i * 4, none⟩ (.string mt)).setCell ⟨g, i * 4 + 1, none⟩ (.int .i64 (k0 + (T : Int) + 1)) = w3 := ⟨_, rfl⟩
        rw [hw3] at hst3
        have ho3 : Only [g] wr w3 := (Only.of_below hb1).trans ((Only.of_grown hst2.2 (fun x e => by injection e with e; simp [e])).trans (Only.of_grown hst3.2 (fun x e => by injection e with e; simp [e])))
        have hgx : ∀ b, b ∈ fs i → b ∉ [g] := fun b hb hm => by
          have e : b = g := by simpa using hm
          subst e
          exact hgf hb
        have hl3 := own_only hl ho3 (fun b hb => hgx b (by rw [hfs]; simp [hb]))
        refine ⟨up _ _ q0, up _ _ q1, up _ _ q2, hr1.frozenAt _, hr1.frozenAt _, w3, hw3, (markS_any TL n tc (k0 + T + 2) _ w3 hl3 (strs_strs _) (by omega) (by omega)).mono ?_⟩
        rintro e w4 ⟨rfl, hl4, ho4⟩
        obtain ⟨nL, nB, nF, dLB, dLF, dBF⟩ := nodup3.1 hnd2
        have hgL : g ∉ blk TL := fun hm => hgf (by rw [hfs]; simp [hm])
        have hr4 : w4.ownsRow 0 64 4 (.slice (some ⟨g, 0, none⟩) xs.length d) xs.length ((ys.set (i * 4) (.string mt)).set (i * 4 + 1) (.int .i64 (k0 + (T : Int) + 1))) := own_only hst3.1 ho4 (fun b hb hm => by
          have e : b = g := by simpa [blk] using hb
          subst e
          exact hgL hm)
        have hrow24 := own_only (own_only hrow2 ho3 (fun b hb => hgx b (by rw [hfs]; simp [hb]))) ho4 (fun b hb hm => dLB b hm hb)
        have hk24 : ∀ j t, cs[j]? = some t → OTy w4 t (part3 zs j) (fs2 j) := fun j t hj =>
          have hjl := (List.getElem?_eq_some_iff.1 hj).1
          ((hkids2 j t hj).only ho3 (fun b hb => hgx b (by rw [hfs]; exact List.mem_append.2 (.inr (flat_mem hjl hb))))).only ho4 (fun b hb hm => dLF b hm (flat_mem hjl hb))
        refine ⟨rfl, by rw [hr4.cellAt _ (by omega), List.getElem?_set_ne (by omega), List.getElem?_set_ne (by omega)]; exact hp3, ?_⟩
        refine (hK w4 TA td zs fs2 (k0 + T + 2 + n) hrow24 hk24 (List.nodup_append.2 ⟨nB, nF, fun x hx y hy e => dBF x hx (e ▸ hy)⟩) hcl (by omega) (by show k0 + (T : Int) + 2 + n + cntK cs ≤ _; omega)).mono ?_
        rintro e w5 ⟨js, ys', rfl, _, _, _, _, ho5⟩
        refine ⟨_, rfl, fun kv iv hkv hiv => ?_⟩
        have hoAll : Only (g :: fs i) wr w5 := ((ho3.more (fun x hx => by simp at hx; simp [hx])).trans (ho4.more (fun x hx => by simp [hfs, hx]))).trans (ho5.more (fun x hx => by
          rw [List.mem_cons, hfs]
          rcases List.mem_append.1 hx with h | h
          · exact .inr (by simp [h])
          · exact .inr (List.mem_append.2 (.inr h))))
        have hgB : ∀ b ∈ blk (some (⟨g, 0, none⟩ : Addr)), b ∉ blk TA ++ (List.range cs.length).flatMap fs2 := fun b hb hm => by
          have e : b = g := by simpa [blk] using hb
          subst e
          exact hgf (by
            rw [hfs]
            rcases List.mem_append.1 hm with h | h
            · simp [h]
            · exact List.mem_append.2 (.inr h))
        have hr5 := own_only hr4 ho5 hgB
        refine ⟨i + 1, _, hlt, hiv, ?_, hr5, fun j x hj hx => ?_, honly.trans (hoAll.more (fun x hx => ?_))⟩
        · rw [hkv, hct]
          congr 1
          push_cast
          show k0 + (T : Int) + 2 + n + ((cntK cs : Nat) : Int) = _
          omega
        · have hjl := (List.getElem?_eq_some_iff.1 hx).1
          have hji : j ≠ i := by omega
          have h1 := kDc.only (hrest j x (by omega) hx) hoAll (fun b hb hm => by
            rcases List.mem_cons.1 hm with h | h
            · have h2 := HND.out
              rw [HFP.out] at h2
              exact (List.nodup_append.1 h2).2.2 g (by simp [blk]) b (flat_mem hjl hb) h.symm
            · have h2 := HND.out
              rw [HFP.out] at h2
              exact flat_apart (List.nodup_append.1 h2).2.1 hjl hlt hji hb h)
          have h2 : partK kDc.n ((ys.set (i * 4) (.string mt)).set (i * 4 + 1) (.int .i64 (k0 + (T : Int) + 1))) j = partK kDc.n ys j := by
            rw [show kDc.n = 4 from rfl, partK_set_other (q := 1) hji (by omega)]
            exact partK_set_other (q := 0) hji (by omega)
          rw [h2]
          exact h1
        · rw [HFP.out]
          rcases List.mem_cons.1 hx with h | h
          · simp [h, blk]
          · exact List.mem_append.2 (.inr (flat_mem hlt h)))
      rw [hT]
      generalize xs[i].1 = nm at q0 HALL
      clear hold hnode hpart hfs haok hl hlab hrow2 hkids2 hnd2 hct hcle hci hsum hK hn hT hgf hrow hrow4 hp hp0 hp1 hp2 hp3 hrest honly hcl hkb hsz hty hfp
      go_wp2_with fail
      refine HMT.out.mono ?_
      rintro e w1 ⟨rfl, hb1⟩
      obtain ⟨y0, y1, y2, z0, z1, w3, hw3, hc3⟩ := HALL.out w1 hb1 ⟨(mtext (k0 + T)).toArray⟩
      have HW3 := Lib.hid hw3
      have HC3 := Lib.hid hc3
      clear hw3 hc3 hb1 q0 q1 q2 HALL HMT
      go_wp2_with fail
      rw [HW3.out, show k0 + (T : Int) + 1 + 1 = k0 + T + 2 by omega]
      refine HC3.out.mono ?_
      rintro e w4 ⟨rfl, y3, hc4⟩
      have y3 : w4.cell? ⟨g, i * 4 + 1 + 2, none⟩ = some (.slice TA cs.length td) := y3
      have HC4 := Lib.hid hc4
      clear hc4 y0 y1 y2 z0 z1 HC3
      go_wp2_with fail
      refine HC4.out.mono ?_
      rintro e w5 ⟨v, rfl, hfin⟩
      have HF := Lib.hid hfin
      clear hfin y3 HC4
      go_wp2_with fail
      go_roundw
      case rel => exact HF.out _ _ rfl (by go_num)
      case measure => simp [intOf]; omega
    · have he : i = xs.length := by omega
      subst he
      have HR : Hid (MarksO fp (k0 + cntSc xs) w (.returned (.int .i64 (k0 + (((xs.take xs.length).map cntDc).sum : Nat)))) wr) := Lib.hid ⟨_, rfl, by omega, by rw [List.take_length]; exact Int.le_refl _, honly⟩
      clear hrow hrest honly
      go_wp2_with fail
      go_ret
      exact HR.out

set_option maxHeartbeats 800000 in
theorem markSc_any (t : Sc) (w : World) (cs : List Value) (fp : List Nat) (k : Int) (h : OSc w t cs fp) (hk : 0 < k) (hkb : k + cntSc t ≤ 1000000000000) : Calls Try.prog 17 #[.agg cs.toArray, .int .i64 k] w (MarksO fp (k + cntSc t) w) := by
  obtain ⟨A, d, rfl, hl, _, hp⟩ := h.reads.open
  obtain ⟨W1, hW1⟩ : ∃ W1, w.alloc (.cells #[.slice A t.length d] 29) = W1 := ⟨_, rfl⟩
  obtain ⟨H, hH⟩ : ∃ H, w.heap.size = H := ⟨_, rfl⟩
  have hbox : Box1 W1 H 29 (.slice A t.length d) := by rw [← hW1, ← hH]; exact Box1.new w _ _
  have hb0 : Below w.heap.size w W1 := by rw [← hW1]; exact (Below.refl _ _).alloc (Nat.le_refl _) _
  have HC := Lib.hid (markDcS_any t W1 A d fp k (OSc.ol.1 (h.under hb0)) hk hkb)
  have HW1 := Lib.hid hW1
  have HB0 : Hid (Only fp w W1) := Lib.hid (Only.of_below hb0)
  have x0 := hbox.c0
  generalize t.length = n at HC HW1 x0 ⊢
  generalize (cntSc t : Int) = K at HC ⊢
  clear h hp hl hW1 hbox hb0
  go_enter Try.func17, Try.ntmps17
  go_wp2_with fail
  rw [HW1.out]
  go_wp2_with fail
  refine HC.out.mono ?_
  rintro e w2 ⟨v, rfl, h1, h2, h3⟩
  have HR : Hid (MarksO fp (k + K) w (.returned (.int .i64 v)) w2) := Lib.hid ⟨v, rfl, h1, h2, HB0.out.trans h3⟩
  clear h1 h2 h3
  go_wp2_with fail
  go_ret
  exact HR.out
end Go.Proofs.Ytlcpekpgkllbkaa
