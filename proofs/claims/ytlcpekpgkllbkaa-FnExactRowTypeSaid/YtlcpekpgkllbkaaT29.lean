/-
  Merged by program: NumW, Idx, TyField, RowTS.
-/
import Derived.Test.YtlcpekpgkllbkaaT1
import Derived.Test.YtlcpekpgkllbkaaProg
import Derived.Lib.SlicesS
import Derived.Deep.QuietTactic
import Derived.BigQuiet
import Derived.Test.YtlcpekpgkllbkaaT9
import Derived.Test.YtlcpekpgkllbkaaT25
import Derived.Test.YtlcpekpgkllbkaaT28

/-
  A call that answers a number and leaves the world as it was.
-/
namespace Go.Proofs.Ytlcpekpgkllbkaa
open Go.RowKit

def Num (n : Int) (w : World) (e : Ending) (w' : World) : Prop := e = .returned (.int .i64 n) ∧ w = w'
end Go.Proofs.Ytlcpekpgkllbkaa

/-
  The first place of a text in a list: the model's IndexOf; the program's, by the library's contract.
-/
namespace Go.Proofs.Ytlcpekpgkllbkaa
open Go.RowKit

/-- an answer that is a number, the world as it was -/

def NoneTo (xs : List ByteArray) (x : ByteArray) (k : Nat) : Prop := ∀ j, j < k → xs.getD j ByteArray.empty ≠ x
theorem noneTo_zero (xs : List ByteArray) (x : ByteArray) : NoneTo xs x 0 := fun j h => by omega
theorem noneTo_succ {xs : List ByteArray} {x : ByteArray} {k : Nat} (h : NoneTo xs x k) (hk : k < xs.length) (hx : xs[k] ≠ x) : NoneTo xs x (k + 1) := by
  intro j hj
  by_cases e : j = k
  · subst e
    simpa [List.getD, hk] using hx
  · exact h j (by omega)
theorem idx_hit {xs : List ByteArray} {x : ByteArray} {k : Nat} (h : NoneTo xs x k) (hk : k < xs.length) (hx : xs[k] = x) : Lib.idxOfS xs x = k := by
  have := Lib.idxOfS_hit xs xs.length k x hk (Nat.le_refl _) (by simpa [List.getD, hk] using hx) h
  rwa [List.take_length] at this
theorem idx_miss {xs : List ByteArray} {x : ByteArray} (h : NoneTo xs x xs.length) : Lib.idxOfS xs x = -1 := by
  have := Lib.idxOfS_miss xs xs.length x h
  rwa [List.take_length] at this
theorem idx_le (xs : List ByteArray) (x : ByteArray) : -1 ≤ Lib.idxOfS xs x ∧ Lib.idxOfS xs x ≤ xs.length := by
  have gen : ∀ (zs : List ByteArray) (i : Nat), -1 ≤ Lib.idxFromS zs x i ∧ Lib.idxFromS zs x i ≤ i + zs.length := by
    intro zs
    induction zs with
    | nil => intro i; simp [Lib.idxFromS]
    | cons z zs ih =>
      intro i
      unfold Lib.idxFromS
      split
      · simp; omega
      · have := ih (i + 1)
        simp at this ⊢
        omega
  have := gen xs 0
  simpa [Lib.idxOfS] using this
theorem ret_int {k : IntKind} {a b : Int} (h : a = b) : Ending.returned (.int k a) = .returned (.int k b) := by rw [h]

end Go.Proofs.Ytlcpekpgkllbkaa

/-
  The model's FieldType.
-/
namespace Go.Proofs.Ytlcpekpgkllbkaa
open Go.RowKit

def zeroTy : Ty := .node ⟨0, []⟩ []
/-- the type of a field, and whether there is one -/
def fieldT (t : Ty) (x : ByteArray) : Ty × Bool :=
  if validB t = true ∧ t.top.kind = 3 ∧ 0 ≤ Lib.idxOfS t.top.labels x then (t.kids.getD (Lib.idxOfS t.top.labels x).toNat zeroTy, true) else (zeroTy, false)
/-- a type in new memory, and a truth -/
def MadeP (p : Ty × Bool) (w : World) (e : Ending) (w' : World) : Prop :=
  ∃ (L A : Option Addr) (c d : Nat) (fp : List Nat), e = .returned (.tuple #[.agg #[.int .i64 p.1.top.kind, .slice L p.1.top.labels.length c, .slice A p.1.kids.length d], .bool p.2]) ∧
    OTy w' p.1 [.int .i64 p.1.top.kind, .slice L p.1.top.labels.length c, .slice A p.1.kids.length d] fp ∧ (∀ b ∈ fp, w.heap.size ≤ b ∧ b < w'.heap.size) ∧ Below w.heap.size w w'
theorem zero_own (w : World) : OTy w zeroTy [.int .i64 0, .slice none 0 0, .slice none 0 0] [] :=
  OTy.node ⟨0, []⟩ [] none none 0 0 [] (fun _ => []) ⟨by decide, by decide, by decide, by simp⟩ ⟨rfl, .inl ⟨rfl, rfl⟩⟩ (by decide) ⟨rfl, .inl ⟨rfl, rfl⟩⟩ (fun j t hj => by simp at hj) (by simp [blk])
theorem made_zero {w w' : World} (hb : Below w.heap.size w w') : MadeP (zeroTy, false) w (.returned (.tuple #[.agg #[.int .i64 0, .slice none 0 0, .slice none 0 0], .bool false])) w' :=
  ⟨none, none, 0, 0, [], rfl, zero_own w', by simp, hb⟩
theorem valid_rec {a : TyA} {ks : List Ty} (h : validB (.node a ks) = true) (h3 : a.kind = 3) : ks.length = a.labels.length := by
  unfold validB at h
  rw [form_node] at h
  unfold formA at h
  rw [if_pos h3] at h
  simp at h
  omega
theorem made_some {w W2 w3 U : World} {t : Ty} {e : Ending} {G : Nat} (h : MadeT t W2 e w3) (hb : Below w.heap.size w W2) (hG : G < W2.heap.size) (hwG : w.heap.size ≤ G) (hU : w3.grownBy U (some G)) :
    ∃ (L A : Option Addr) (c d : Nat), e = .returned (.agg #[.int .i64 t.top.kind, .slice L t.top.labels.length c, .slice A t.kids.length d]) ∧
      MadeP (t, true) w (.returned (.tuple #[.agg #[.int .i64 t.top.kind, .slice L t.top.labels.length c, .slice A t.kids.length d], .bool true])) U := by
  obtain ⟨L, A, c, d, fp, rfl, hot, hfp, hb3⟩ := h
  have hs := hb.size
  have hsU := hU.size
  refine ⟨L, A, c, d, rfl, L, A, c, d, fp, rfl, hot.keep hU (fun b hm e => by injection e with e; have := (hfp b hm).1; omega), fun b hm => ?_, (hb.trans (hb3.mono hs)).grown hU (by have := hb3.size; omega) (fun k hk => by injection hk with hk; omega)⟩
  have := hfp b hm
  omega

theorem idx_lt {xs : List ByteArray} {x : ByteArray} {m : Nat} (h : Lib.idxOfS xs x = (m : Int)) : m < xs.length := by
  have gen : ∀ (zs : List ByteArray) (i : Nat), Lib.idxFromS zs x i = -1 ∨ Lib.idxFromS zs x i < i + zs.length := by
    intro zs
    induction zs with
    | nil => intro i; simp [Lib.idxFromS]
    | cons z zs ih =>
      intro i
      unfold Lib.idxFromS
      split
      · simp; omega
      · have := ih (i + 1)
        simp at this ⊢
        omega
  have h2 := gen xs 0
  unfold Lib.idxOfS at h
  omega

end Go.Proofs.Ytlcpekpgkllbkaa

/-
  The model's RowType.
-/
namespace Go.Proofs.Ytlcpekpgkllbkaa
open Go.RowKit

/-- the row type of the first table with a name, and whether there is one -/
def rowTypeD (xs : Sc) (nm : ByteArray) : Ty × Bool :=
  match xs.find? (fun d => decide (d.1 = nm)) with
  | some d => (d.2, true)
  | none => (zeroTy, false)
theorem rowTypeD_some {xs : Sc} {nm : ByteArray} {d : Dc} (h : xs.find? (fun d => decide (d.1 = nm)) = some d) : rowTypeD xs nm = (d.2, true) := by unfold rowTypeD; rw [h]
theorem rowTypeD_none {xs : Sc} {nm : ByteArray} (h : xs.find? (fun d => decide (d.1 = nm)) = none) : rowTypeD xs nm = (zeroTy, false) := by unfold rowTypeD; rw [h]
theorem rowTypeD_wt (xs : Sc) (nm : ByteArray) : wt (rowTypeD xs nm).1 ≤ wSc xs := by
  unfold rowTypeD
  split
  · rename_i d h
    have hm := List.mem_of_find?_eq_some h
    obtain ⟨j, hj, rfl⟩ := List.getElem_of_mem hm
    have h1 := (wL_le (f := wDc) hj (Nat.le_refl (wSc xs))).1
    have h2 : wDc xs[j] = xs[j].1.size + wt xs[j].2 := rfl
    show wt xs[j].2 ≤ _
    omega
  · simp [zeroTy, wt, Tr.sum, wtA, total]

set_option maxRecDepth 100000 in
set_option maxHeartbeats 3200000 in
theorem specRowT_any (t : Sc) (nm : ByteArray) (w : World) (cs : List Value) (h : RSc w t cs) (hw : wSc t ≤ 1048576) : Calls Try.prog 14 #[.agg cs.toArray, .string nm] w (MadeP (rowTypeD t nm) w) := by
  obtain ⟨A, c, rfl, hl, _, hp⟩ := h.open
  obtain ⟨W1, hW1⟩ : ∃ W1, (w.alloc (.cells #[.slice A t.length c] 29)).alloc (.cells #[.int .i64 0, .slice none 0 0, .slice none 0 0] 36) = W1 := ⟨_, rfl⟩
  obtain ⟨H, hH⟩ : ∃ H, w.heap.size = H := ⟨_, rfl⟩
  have b0 : Box1 W1 H 29 (.slice A t.length c) := by rw [← hW1, ← hH]; exact (Box1.new w _ _).alloc _
  have b1 : Box3 W1 (H + 1) 36 (.int .i64 0) (.slice none 0 0) (.slice none 0 0) := by
    rw [← hW1, ← hH]
    have := Box3.new (w.alloc (.cells #[.slice A t.length c] 29)) 36 (.int .i64 0) (.slice none 0 0) (.slice none 0 0)
    simpa using this
  have hb1 : Below w.heap.size w W1 := by rw [← hW1]; exact ((Below.refl _ _).alloc (Nat.le_refl _) _).alloc (by simp) _
  have hs1 : W1.heap.size = H + 2 := by rw [← hW1, ← hH]; simp
  have HA := Lib.hid (fun (W : World) (hB : Below W1.heap.size W1 W) => b0.under hB b0.lt)
  have HB := Lib.hid (fun (W : World) (hB : Below W1.heap.size W1 W) => b1.under hB b1.lt)
  have HB1 := Lib.hid hb1
  have HS1 := Lib.hid hs1
  have HH := Lib.hid hH
  have HWT := Lib.hid hw
  have HP := Lib.hid (hp.keep hb1)
  have HW1 := Lib.hid hW1
  have x0 := b0.c0
  have HI0 : Hid (∃ k : Nat, k ≤ t.length ∧ Value.int .i64 0 = .int .i64 (k : Int) ∧ NoneAt t nm k ∧ Below W1.heap.size W1 W1) := Lib.hid ⟨0, Nat.zero_le _, rfl, noneAt_zero _ _, Below.refl _ _⟩
  clear h hp hW1 b0 b1 hb1 hs1 hw
  go_enter Try.func14, Try.ntmps14
  go_wp2_with fail
  rw [HW1.out]
  go_wp2_with fail
  go_loopw [6] (fun i wr => ∃ k : Nat, k ≤ t.length ∧ i = .int .i64 (k : Int) ∧ NoneAt t nm k ∧ Below W1.heap.size W1 wr) (fun i _ => t.length - (intOf i).toNat)
  case atStart => exact HI0.out
  case round =>
    obtain ⟨k, hk, rfl, hno, hb⟩ := hrel
    clear x0
    have x0 := (HA.out wr hb).c0
    have HBW := Lib.hid (HB1.out.trans (hb.mono HB1.out.size))
    have BR := Lib.hid (HB.out wr hb)
    have r0 := BR.out.c0
    have r1 := BR.out.c1
    have r2 := BR.out.c2
    have s0 := BR.out.free 0
    have s1 := BR.out.free 1
    have s2 := BR.out.free 2
    by_cases hlt : k < t.length
    · obtain ⟨ad, p, c0, c1, c2, c3, rfl, hpe, hr, q0, q1, q2, q3⟩ := rl_at4 kDc_n HP.out hb hlt
      obtain ⟨tk, TL, TA, tl, tc, ta, td, hcs, hs, hy⟩ := kDc_open hr
      simp only [List.cons.injEq, and_true] at hcs
      obtain ⟨rfl, rfl, rfl, rfl⟩ := hcs
      obtain ⟨_, hwty, _⟩ := dc_bounds hlt HWT.out
      have hz := hb.size
      by_cases hn : t[k].1 = nm
      · have HF := Lib.hid (rowTypeD_some (atD_some hno hlt hn))
        have HC := Lib.hid (l3Copy_any t[k].2 wr _ hy hwty)
        rw [hn] at q0
        generalize t[k].2 = ty at *
        clear hr hs hy hno hk hn r0 r1 r2 s0 s1 s2 hwty
        go_wp2_with fail
        refine HC.out.mono ?_
        rintro e w3 hmade
        have hb3 : Below wr.heap.size wr w3 := by
          obtain ⟨_, _, _, _, _, _, _, _, hb3⟩ := hmade
          exact hb3
        have HBX := Lib.hid (BR.out.under hb3 BR.out.lt)
        have HM := Lib.hid (fun (U : World) (hU : w3.grownBy U (some (H + 1))) => made_some (w := w) (U := U) hmade HBW.out (by have := HS1.out; omega) (by have := HH.out; omega) hU)
        obtain ⟨LL, AA, lc, dd, rfl, _⟩ := HM.out w3 (World.grownBy.refl _ _)
        have HM2 : Hid (∀ U : World, w3.grownBy U (some (H + 1)) → MadeP (rowTypeD t nm) w (.returned (.tuple #[.agg #[.int .i64 ty.top.kind, .slice LL ty.top.labels.length lc, .slice AA ty.kids.length dd], .bool true])) U) := Lib.hid (by
          intro U hU
          obtain ⟨L9, A9, c9, d9, e9, h9⟩ := HM.out U hU
          rw [HF.out]
          injection e9 with e9
          rw [← e9] at h9
          exact h9)
        have r0 := HBX.out.c0
        have r1 := HBX.out.c1
        have r2 := HBX.out.c2
        have s0 := HBX.out.free 0
        have s1 := HBX.out.free 1
        have s2 := HBX.out.free 2
        generalize ty.top.kind = y0 at HM2 ⊢
        generalize ty.top.labels.length = y1 at HM2 ⊢
        generalize ty.kids.length = y2 at HM2 ⊢
        clear hmade hb3 HM x0 q0 q1 q2 q3
        go_wp2_with fail
        generalize hU : ((w3.setCell ⟨H + 1, 0, none⟩ (.int .i64 y0)).setCell ⟨H + 1, 1, none⟩ (.slice LL y1 lc)).setCell ⟨H + 1, 2, none⟩ (.slice AA y2 dd) = U
        have hgU : w3.grownBy U (some (H + 1)) := by rw [← hU]; exact grown_set (grown_set (grown_set (World.grownBy.refl _ _) _) _) _
        have u1 : Box3 U (H + 1) 36 (.int .i64 y0) (.slice LL y1 lc) (.slice AA y2 dd) := by
          rw [← hU]
          exact ((HBX.out.set0 _).set1 _).set2 _
        have HRR := Lib.hid (HM2.out U hgU)
        have t0 := u1.c0
        have t1 := u1.c1
        have t2 := u1.c2
        clear hU hgU u1 r0 r1 r2 s0 s1 s2
        exact bodyPost_ret (v := .tuple #[.agg #[.int .i64 y0, .slice LL y1 lc, .slice AA y2 dd], .bool true]) (by simp [results, Try.results14, go_sem, t0, t1, t2]) rfl HRR.out
      · have HR : Hid (∃ j : Nat, j ≤ t.length ∧ Value.int .i64 ((k : Int) + 1) = .int .i64 (j : Int) ∧ NoneAt t nm j ∧ Below W1.heap.size W1 wr) := Lib.hid ⟨k + 1, hlt, by simp, noneAt_more hno hlt hn, hb⟩
        have f1 := str_neS hn
        generalize t[k].1 = nk at *
        clear hr hs hy hno hk hn hb r0 r1 r2 s0 s1 s2 hwty
        go_wp2_with fail
        go_roundw
        case rel => exact HR.out
        case measure => simp [intOf]; omega
    · have he : k = t.length := by omega
      subst he
      have HF := Lib.hid (rowTypeD_none (atD_none hno))
      have hz := hb.size
      clear hno hb hk
      go_wp2_with fail
      generalize hU : ((wr.setCell ⟨H + 1, 0, none⟩ (.int .i64 0)).setCell ⟨H + 1, 1, none⟩ (.slice none 0 0)).setCell ⟨H + 1, 2, none⟩ (.slice none 0 0) = U
      have hgU : wr.grownBy U (some (H + 1)) := by rw [← hU]; exact grown_set (grown_set (grown_set (World.grownBy.refl _ _) _) _) _
      have u1 : Box3 U (H + 1) 36 (.int .i64 0) (.slice none 0 0) (.slice none 0 0) := by
        rw [← hU]
        exact ((BR.out.set0 _).set1 _).set2 _
      have HRR : Hid (MadeP (rowTypeD t nm) w (.returned (.tuple #[.agg #[.int .i64 0, .slice none 0 0, .slice none 0 0], .bool false])) U) := Lib.hid (by
        rw [HF.out]
        exact made_zero (HBW.out.grown hgU HBW.out.size (fun k hk => by injection hk with hk; have := HH.out; omega)))
      have t0 := u1.c0
      have t1 := u1.c1
      have t2 := u1.c2
      clear hU hgU u1 r0 r1 r2 s0 s1 s2
      exact bodyPost_ret (v := .tuple #[.agg #[.int .i64 0, .slice none 0 0, .slice none 0 0], .bool false]) (by simp [results, Try.results14, go_sem, t0, t1, t2]) rfl HRR.out
end Go.Proofs.Ytlcpekpgkllbkaa
