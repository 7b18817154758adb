/-
  Merged by program: RowsS, Seen, Plc.
-/
import Derived.Test.YtlcpekpgkllbkaaR24
import Derived.Test.YtlcpekpgkllbkaaR12
import Derived.Test.YtlcpekpgkllbkaaR15
import Derived.Test.YtlcpekpgkllbkaaR25
import Derived.Test.YtlcpekpgkllbkaaR23
import Derived.Test.YtlcpekpgkllbkaaProg
import Derived.Maps.OwnSet
import Derived.WalkKit

/-
  The model's l9Values, RowsOf.
-/
namespace Go.Proofs.Ytlcpekpgkllbkaa
open Go.RowKit

set_option maxRecDepth 100000 in
set_option maxHeartbeats 3200000 in
theorem l9Values_any (ts : List Va) (w : World) (A : Option Addr) (d : Nat) (hp : RVas w A ts) (hw : wL wv ts ≤ 1048576) : Calls Try.prog 59 #[.slice A ts.length d] w (MadeL' kVa 92 ts w) := by
  obtain ⟨i1, hi1, hy0, hy1, hy2⟩ := info_parts infoVa
  have hlen : ts.length ≤ 1048576 := by unfold wL at hw; omega
  obtain ⟨W1, hW1⟩ : ∃ W1, w.alloc (.cells #[] 92) = W1 := ⟨_, rfl⟩
  obtain ⟨H, hH⟩ : ∃ H, w.heap.size = H := ⟨_, rfl⟩
  have ho1 : W1.ownsRow w.heap.size 92 4 (.slice (some ⟨H, 0, none⟩) 0 0) 0 [] := by
    rw [← hW1, ← hH]
    exact World.ownsRow_made (base := w.heap.size) (size := 4) (e := 92) w #[] 0 (Nat.le_refl _) (by unfold maxLen; omega) (by simp)
  have hb1 : Below w.heap.size w W1 := by rw [← hW1]; exact (Below.refl _ _).alloc (Nat.le_refl _) _
  have HI0 : Hid (ApInv kVa 92 ts w (.slice (some ⟨H, 0, none⟩) 0 0) (.int .i64 0) W1) := Lib.hid (apinv_zero kVa _ ts ho1 (Nat.le_refl _) hb1)
  have HP := Lib.hid hp
  have HW := Lib.hid hw
  have HW1 := Lib.hid hW1
  clear hp hW1 ho1 hb1 hw
  go_enter Try.func59, Try.ntmps59
  go_wp2_with fail
  rw [HW1.out]
  go_loopw [3, 4] (fun v i wr => ApInv kVa 92 ts w v i wr) (fun _ i _ => ts.length - (intOf i).toNat)
  case atStart => exact HI0.out
  case round =>
    obtain ⟨k, A', d', cells, fs, fp, hk, rfl, rfl, hol, hfp, hb⟩ := hrel
    by_cases hlt : k < ts.length
    · obtain ⟨ad, p, c0, c1, c2, c3, rfl, hpe, hr, q0, q1, q2, q3⟩ := vid_at HP.out hb hlt
      have hwk := (wL_le hlt HW.out).1
      have HC := Lib.hid (l5Copy_any ts[k] wr _ hr hwk)
      have hcl : (ts.take k).length = k := by rw [List.length_take]; omega
      have hrow := hol.row
      rw [hcl] at hrow
      obtain ⟨x0, hx0⟩ : ∃ x0, ts[k].top.kind = x0 := ⟨_, rfl⟩
      obtain ⟨x1, hx1⟩ : ∃ x1, ts[k].top.num = x1 := ⟨_, rfl⟩
      obtain ⟨x2, hx2⟩ : ∃ x2, ts[k].top.labels.length = x2 := ⟨_, rfl⟩
      obtain ⟨x3, hx3⟩ : ∃ x3, ts[k].kids.length = x3 := ⟨_, rfl⟩
      have HCD : Hid (∀ (e : Ending) (w2 : World), MadeV ts[k] wr e w2 → ∃ (L2 A2 : Option Addr) (l2 d2 : Nat), e = .returned (.agg #[.int .i64 x0, .int .i64 x1, .slice L2 x2 l2, .slice A2 x3 d2]) ∧
          (w2.alloc (.cells #[.int .i64 x0, .int .i64 x1, .slice L2 x2 l2, .slice A2 x3 d2] 92)).ownsRow 0 92 4 (.slice A' k d') k cells ∧
          ∀ (i : Value) (A4 : Option Addr) (d4 : Nat) (w4 : World), i = .int .i64 ((k + 1 : Nat) : Int) → w4.ownsRow 0 92 4 (.slice A4 (k + 1) d4) (k + 1) (cells ++ [.int .i64 x0, .int .i64 x1, .slice L2 x2 l2, .slice A2 x3 d2]) →
          (w2.alloc (.cells #[.int .i64 x0, .int .i64 x1, .slice L2 x2 l2, .slice A2 x3 d2] 92)).grownBy w4 (Value.slice A' k d').ownBlock → ((Value.slice A4 (k + 1) d4).ownBlock = (Value.slice A' k d').ownBlock ∨ (Value.slice A4 (k + 1) d4).ownBlock = some (w2.alloc (.cells #[.int .i64 x0, .int .i64 x1, .slice L2 x2 l2, .slice A2 x3 d2] 92)).heap.size) →
          ApInv kVa 92 ts w (.slice A4 (k + 1) d4) i w4) := Lib.hid (by
        rintro e w2 ⟨L2, A2, l2, d2, fx, rfl, hot, hfx, hb2⟩
        rw [hx0, hx1, hx2, hx3] at hot ⊢
        refine ⟨L2, A2, l2, d2, rfl, own_keep hrow (row := none) (grown_none (hb2.alloc hb2.size _)) (fun b _ => by simp), fun i A4 d4 w4 hii h1 h2 h3 => ?_⟩
        exact apinv_more (a := kVa) hlt (by omega) hii hol hfp hb hb2 hot hfx _ h1 h2 h3)
      clear hr hwk hol hfp hb hk hrow hcl hx0 hx1 hx2 hx3
      go_wp2_with fail
      refine HC.out.mono ?_
      rintro e w2 hmade
      obtain ⟨L2, A2, l2, d2, rfl, hrw, hnx⟩ := HCD.out _ _ hmade
      have HRW := Lib.hid hrw
      have HNX := Lib.hid hnx
      have HNW := Lib.hid (news4 w2 (.int .i64 x0) (.int .i64 x1) (.slice L2 x2 l2) (.slice A2 x3 d2) 92)
      clear hmade hrw hnx q0 q1 q2 q3 HC HCD
      go_wp2_with (at_builtin; refine wpList_append_at _ rfl (.tmp 12) (.tmp 18) 47 rfl 0 92 i1 _ 4 64 Try.underlying47 hi1 hy0 hy1 hy2 rfl (by omega) (.slice A' k d') k cells rfl HRW.out ⟨w2.heap.size, 0, none⟩ 1 1 [.int .i64 x0, .int .i64 x1, .slice L2 x2 l2, .slice A2 x3 d2] rfl rfl HNW.out (one4 _ _ _ _ _ _ _ _) (by unfold maxLen; omega) (by omega) (Nat.zero_le _) ?_; intro A4 d4 w4 hown4 hgr4 hor4; have HMM := Lib.hid (fun i hi => HNX.out i A4 d4 w4 hi hown4 hgr4 hor4); clear hown4 hgr4 hor4)
      go_roundw
      case rel => exact HMM.out _ (by go_num)
      case measure => simp [intOf]; omega
    · have he : k = ts.length := by omega
      subst he
      have HR := Lib.hid (apinv_done hol hfp hb)
      clear hol hfp hb hk
      go_wp2_with fail
      go_ret
      exact HR.out
/-- the rows of the first table with a name -/
def rowsD (ds : Db) (nm : ByteArray) : List Va :=
  match ds.find? (fun d => decide (d.1 = nm)) with
  | some d => d.2
  | none => []
theorem rowsD_some {ds : Db} {nm : ByteArray} {d : Dd} (h : ds.find? (fun d => decide (d.1 = nm)) = some d) : rowsD ds nm = d.2 := by unfold rowsD; rw [h]
theorem rowsD_none {ds : Db} {nm : ByteArray} (h : ds.find? (fun d => decide (d.1 = nm)) = none) : rowsD ds nm = [] := by unfold rowsD; rw [h]
theorem dd_bounds {t : Db} {k : Nat} (hk : k < t.length) (hw : wDb t ≤ 1048576) : t[k].1.size ≤ 1048576 ∧ wL wv t[k].2 ≤ 1048576 ∧ t.length ≤ 1048576 := by
  have h := wL_le (f := wDd) hk hw
  have h1 : wDd t[k] = t[k].1.size + wL wv t[k].2 := rfl
  omega
theorem rowsD_w (ds : Db) (nm : ByteArray) : wL wv (rowsD ds nm) ≤ wDb ds := by
  unfold rowsD
  split
  · rename_i d h
    have hm := List.mem_of_find?_eq_some h
    obtain ⟨j, hj, rfl⟩ := List.getElem_of_mem hm
    have h1 := (wL_le (f := wDd) hj (Nat.le_refl (wDb ds))).1
    have h2 : wDd ds[j] = ds[j].1.size + wL wv ds[j].2 := rfl
    omega
  · simp [wL]
theorem madeL_nil {α : Type} {a : Kd α} {e : TypeId} {w W : World} (hb : Below w.heap.size w W) : MadeL' a e [] w (.returned (.slice (some ⟨W.heap.size, 0, none⟩) 0 0)) (W.alloc (.cells #[] e)) := by
  have ho := World.ownsRow_made (base := w.heap.size) (size := a.n) (e := e) W #[] 0 hb.size (by unfold maxLen; omega) (by simp)
  refine ⟨_, _, [W.heap.size], rfl, (ol_made a e _ (A := some ⟨W.heap.size, 0, none⟩) ho).ol, fun b hm => ?_, hb.alloc hb.size _⟩
  simp at hm
  subst hm
  have := hb.size
  simp
  omega

set_option maxRecDepth 100000 in
set_option maxHeartbeats 3200000 in
theorem specRows_any (t : Db) (nm : ByteArray) (w : World) (cs : List Value) (h : RDb w t cs) (hw : wDb t ≤ 1048576) : Calls Try.prog 21 #[.agg cs.toArray, .string nm] w (MadeL' kVa 92 (rowsD t nm) w) := by
  obtain ⟨A, c, rfl, hl, _, hp⟩ := h.open
  obtain ⟨W1, hW1⟩ : ∃ W1, w.alloc (.cells #[.slice A t.length c] 51) = W1 := ⟨_, rfl⟩
  obtain ⟨H, hH⟩ : ∃ H, w.heap.size = H := ⟨_, rfl⟩
  have b0 : Box1 W1 H 51 (.slice A t.length c) := by rw [← hW1, ← hH]; exact Box1.new w _ _
  have hb1 : Below w.heap.size w W1 := by rw [← hW1]; exact (Below.refl _ _).alloc (Nat.le_refl _) _
  have HA := Lib.hid (fun (W : World) (hB : Below W1.heap.size W1 W) => b0.under hB b0.lt)
  have HB1 := Lib.hid hb1
  have HP := Lib.hid (hp.keep hb1)
  have HW1 := Lib.hid hW1
  have HWT := Lib.hid hw
  have HC := Lib.hid (l9Table_any t nm W1 _ (h.keep hb1))
  have x0 := b0.c0
  clear h hp hW1 b0 hb1 hw
  go_enter Try.func21, Try.ntmps21
  go_wp2_with fail
  rw [HW1.out]
  go_wp2_with fail
  refine HC.out.mono ?_
  rintro e w2 ⟨n, rfl, hat, hb2⟩
  have HB2 := Lib.hid (HB1.out.trans (hb2.mono HB1.out.size))
  rcases hat with ⟨rfl, hf⟩ | ⟨k, hk, rfl, hn, hf⟩
  · have HR : Hid (MadeL' kVa 92 (rowsD t nm) w (.returned (.slice (some ⟨w2.heap.size, 0, none⟩) 0 0)) (w2.alloc (.cells #[] 92))) := Lib.hid (by rw [rowsD_none hf]; exact madeL_nil HB2.out)
    clear hf hb2 HC x0
    go_wp2_with fail
    go_ret
    exact HR.out
  · have hkk : ¬ (k : Int) < 0 := by omega
    have HRD := Lib.hid (rowsD_some hf)
    clear x0
    have x0 := (HA.out w2 hb2).c0
    obtain ⟨ad, p, c0, c1, rfl, hpe, hr, q0, q1⟩ := rl_at2 kDd_n HP.out hb2 hk
    obtain ⟨TB, tb, te, hcs, hs, hy⟩ := kDd_open hr
    simp only [List.cons.injEq, and_true] at hcs
    obtain ⟨rfl, rfl⟩ := hcs
    obtain ⟨rfl, _, _, hvs⟩ := kVas_slice hy
    obtain ⟨_, hwv, _⟩ := dd_bounds hk HWT.out
    have HV := Lib.hid (l9Values_any t[k].2 w2 TB te hvs hwv)
    generalize t[k].2 = vs at *
    clear hf hb2 HC hr hs hy hvs hwv hn
    go_wp2_with fail
    refine HV.out.mono ?_
    rintro e w3 ⟨A5, d5, fp, rfl, ho, hfp, hb3⟩
    have HR : Hid (MadeL' kVa 92 (rowsD t nm) w (.returned (.slice A5 vs.length d5)) w3) := Lib.hid (by rw [HRD.out]; exact ⟨A5, d5, fp, rfl, ho, fun b hm => by have := hfp b hm; have := HB2.out.size; omega, HB2.out.trans (hb3.mono HB2.out.size)⟩)
    clear ho hfp hb3
    go_wp2_with fail
    go_ret
    exact HR.out
end Go.Proofs.Ytlcpekpgkllbkaa

/-
  The program's map of the texts that it has met, told by the list of them: a look-up, a store.
-/
namespace Go.Proofs.Ytlcpekpgkllbkaa
open Go.RowKit Go.Maps

theorem keyStr : Keyed Try.prog 9 := string_keyed Try.underlying9
theorem zeroBool (w : World) : (zeroValue 4).run Try.prog w = .ok (.bool false) w := by kernel_rfl
def lit (s : ByteArray) : Lit := .string s.data.toList
theorem lit_inj {a b : ByteArray} (h : lit a = lit b) : a = b := by
  injection h with h
  exact ByteArray.ext (Array.toList_inj.1 h)
theorem lit_key {s : ByteArray} (h : s.size ≤ maxLen) : keyOf Try.prog 9 (.string s) = some (lit s) := WideMaps.keyOf_string_mk Try.underlying9 h

/-- the block is a map that holds true at just the texts of the list -/
def Seen (w : World) (b n : Nat) (o : List ByteArray) : Prop :=
  ∃ D : DataW Unit, w.ownsMap Try.prog 9 (plainElem Try.prog 4) b n D ∧ IsMap D ∧ (∀ s ∈ o, D.atKey (lit s) (.lit (.bool false)) = .lit (.bool true)) ∧ ∀ s, ¬ s ∈ o → D.atKey (lit s) (.lit (.bool false)) = .lit (.bool false)
theorem Seen.made (w : World) : Seen (w.alloc (.map #[] 0)) w.heap.size 0 [] :=
  ⟨.map [], World.ownsMap_made _ _ _ _, isMap_empty, fun s h => by simp at h, fun s _ => rfl⟩
theorem Seen.mono {w : World} {b n n' : Nat} {o : List ByteArray} (h : Seen w b n o) (hn : n ≤ n') : Seen w b n' o := by
  obtain ⟨D, h1, h2⟩ := h
  exact ⟨D, h1.mono hn, h2⟩
theorem Seen.kept {w w' : World} {b n : Nat} {o : List ByteArray} {row : Option Nat} (h : Seen w b n o) (hg : w.grownBy w' row) (hne : some b ≠ row) : Seen w' b n o := by
  obtain ⟨D, h1, h2⟩ := h
  exact ⟨D, h1.kept hg hne, h2⟩
theorem Seen.lt {w : World} {b n : Nat} {o : List ByteArray} (h : Seen w b n o) : b < w.heap.size := by
  obtain ⟨D, h1, _⟩ := h
  exact h1.lt
theorem Seen.below {w w' : World} {b n : Nat} {o : List ByteArray} (h : Seen w b n o) (hb : Below w.heap.size w w') : Seen w' b n o :=
  h.kept (row := none) ⟨hb.os, hb.tape, hb.output, hb.size, fun i hi _ => hb.block i hi⟩ (by simp)
set_option maxRecDepth 100000 in
theorem plainElem_bool_inv {v : Value} {z : DataW Unit × List MemPlace} (h : plainElem Try.prog 4 v = some z) : ∃ x, v = .bool x ∧ z = (.lit (.bool x), []) := by
  unfold plainElem at h
  rw [Try.underlying4] at h
  cases v <;> simp at h
  exact ⟨_, rfl, h.symm⟩
theorem Seen.put {w : World} {b n : Nat} {o : List ByteArray} {D : DataW Unit} (h1 : IsMap D) (h3 : ∀ s ∈ o, D.atKey (lit s) (.lit (.bool false)) = .lit (.bool true)) (h4 : ∀ s, ¬ s ∈ o → D.atKey (lit s) (.lit (.bool false)) = .lit (.bool false)) {s : ByteArray}
    (h : w.ownsMap Try.prog 9 (plainElem Try.prog 4) b n (D.put (lit s) (.lit (.bool true)))) : Seen w b n (o ++ [s]) := by
  refine ⟨_, h, h1.put _ _, fun y hy => ?_, fun y hy => ?_⟩
  · by_cases e : y = s
    · subst e
      exact atKey_put_same (k := lit y) h1 trivial _ _
    · rw [atKey_put_other (fun e' => e (lit_inj e'))]
      exact h3 y (by simpa [e] using hy)
  · have e : y ≠ s := fun e => hy (by simp [e])
    rw [atKey_put_other (fun e' => e (lit_inj e'))]
    exact h4 y (fun hm => hy (by simp [hm]))
end Go.Proofs.Ytlcpekpgkllbkaa

/-
  The program's map of the places of names: each name's first place from k on.
-/
namespace Go.Proofs.Ytlcpekpgkllbkaa
open Go.RowKit Go.Maps

/-- the first place of a text -/
def idxN : List ByteArray → ByteArray → Option Nat
  | [], _ => none
  | n :: ns, s => if n = s then some 0 else (idxN ns s).map (· + 1)
def plc (ns : List ByteArray) (k : Nat) (s : ByteArray) : Option Nat := (idxN (ns.drop k) s).map (· + k)
theorem plc_end (ns : List ByteArray) (s : ByteArray) : plc ns ns.length s = none := by unfold plc; rw [List.drop_length]; rfl
theorem plc_zero (ns : List ByteArray) (s : ByteArray) : plc ns 0 s = idxN ns s := by
  unfold plc
  rw [List.drop_zero]
  cases idxN ns s <;> rfl
theorem plc_step {ns : List ByteArray} {k : Nat} (hk : k < ns.length) (s : ByteArray) : plc ns k s = if ns[k] = s then some k else plc ns (k + 1) s := by
  unfold plc
  rw [List.drop_eq_getElem_cons hk, idxN]
  split
  · simp
  · rw [Option.map_map]
    congr 1
    funext x
    show x + 1 + k = x + (k + 1)
    omega
theorem idxN_find {β : Type} (t : List (ByteArray × β)) (nm : ByteArray) : (∀ j, idxN (t.map fun d => d.1) nm = some j → ∃ h : j < t.length, t[j].1 = nm ∧ t.find? (fun d => decide (d.1 = nm)) = some t[j]) ∧ (idxN (t.map fun d => d.1) nm = none → t.find? (fun d => decide (d.1 = nm)) = none) := by
  induction t with
  | nil => exact ⟨fun j h => by simp [idxN] at h, fun _ => rfl⟩
  | cons d t ih =>
    rw [List.map_cons, idxN]
    by_cases e : d.1 = nm
    · rw [if_pos e, List.find?_cons_of_pos (by simp [e])]
      refine ⟨fun j h => ?_, fun h => by cases h⟩
      injection h with h
      subst h
      exact ⟨by simp, e, rfl⟩
    · rw [if_neg e, List.find?_cons_of_neg (by simp [e])]
      refine ⟨fun j h => ?_, fun h => ?_⟩
      · cases hi : idxN (t.map fun d => d.1) nm with
        | none => rw [hi] at h; cases h
        | some i =>
          rw [hi] at h
          injection h with h
          subst h
          obtain ⟨h1, h2, h3⟩ := ih.1 i hi
          exact ⟨by simpa using h1, by simpa using h2, by rw [h3]; simp⟩
      · cases hi : idxN (t.map fun d => d.1) nm with
        | none => exact ih.2 hi
        | some i => rw [hi] at h; cases h

theorem zeroInt (w : World) : (zeroValue 3).run Try.prog w = .ok (.int .i64 0) w := by kernel_rfl
theorem wf_nat (k : Nat) (h : k ≤ 1048576) : (Lit.int .i64 (k : Int)).wf = true := by
  show (decide (IntKind.i64.min ≤ (k : Int)) && decide ((k : Int) ≤ IntKind.i64.max)) = true
  rw [decide_eq_true (show IntKind.i64.min ≤ (k : Int) by show (-9223372036854775808 : Int) ≤ _; omega), decide_eq_true (show (k : Int) ≤ IntKind.i64.max by show _ ≤ (9223372036854775807 : Int); omega)]
  rfl
def PlcAt (D : DataW Unit) (s : ByteArray) (o : Option Nat) : Prop :=
  match o with
  | some j => ∀ z, D.atKey (lit s) z = .lit (.int .i64 (j : Int))
  | none => ∀ z, D.atKey (lit s) z = z
/-- the block is a map from the names' texts to their first places from k on -/
def Plc (w : World) (b n : Nat) (ns : List ByteArray) (k : Nat) : Prop :=
  ∃ D : DataW Unit, w.ownsMap Try.prog 9 (plainElem Try.prog 3) b n D ∧ IsMap D ∧ ∀ s, PlcAt D s (plc ns k s)
theorem Plc.made (w : World) (ns : List ByteArray) : Plc (w.alloc (.map #[] 0)) w.heap.size 0 ns ns.length :=
  ⟨.map [], World.ownsMap_made _ _ _ _, isMap_empty, fun s => by rw [plc_end]; exact fun z => rfl⟩
theorem Plc.at {w w' : World} {b n : Nat} {ns : List ByteArray} {k : Nat} (h : Plc w b n ns k) (he : w'.heap[b]? = w.heap[b]?) : Plc w' b n ns k := by
  obtain ⟨D, ⟨es, clock, hb, F, hs, hD⟩, h2⟩ := h
  exact ⟨D, ⟨es, clock, he.trans hb, F, hs, hD⟩, h2⟩
theorem Plc.lt {w : World} {b n : Nat} {ns : List ByteArray} {k : Nat} (h : Plc w b n ns k) : b < w.heap.size := by
  obtain ⟨D, h1, _⟩ := h
  exact h1.lt
set_option maxRecDepth 100000 in
theorem Plc.step {w : World} {b n : Nat} {ns : List ByteArray} {k : Nat} (h : Plc w b n ns (k + 1)) (hk : k < ns.length) (hl : ns.length ≤ 1048576) (hn : n < maxLen) {s : ByteArray} (hs : ns[k] = s) (hsz : s.size ≤ maxLen) :
    ∃ w', (Instr.mapUpdate 74 (.map (some b)) (.string s) (.int .i64 (k : Int))).run Try.prog w = .ok () w' ∧ Plc w' b (n + 1) ns k ∧ w.grownBy w' (some b) := by
  obtain ⟨D, h1, h2, h3⟩ := h
  obtain ⟨w', hrun, hown, hg⟩ := h1.update keyStr Try.underlying74 hn (lit_key hsz) (plainElem_int (a := (k : Int)) Try.underlying3 (wf_nat k (by omega)))
  refine ⟨w', hrun, ⟨_, hown, h2.put _ _, fun y => ?_⟩, hg⟩
  rw [plc_step hk]
  by_cases e : ns[k] = y
  · rw [if_pos e]
    have e2 : s = y := hs.symm.trans e
    subst e2
    exact fun z => atKey_put_same (k := lit s) h2 trivial _ _
  · rw [if_neg e]
    have hne : lit y ≠ lit s := fun e' => e (by rw [hs, lit_inj e'])
    have h4 := h3 y
    unfold PlcAt at h4 ⊢
    split
    · rename_i j hj
      rw [hj] at h4
      exact fun z => by rw [atKey_put_other hne]; exact h4 z
    · rename_i hj
      rw [hj] at h4
      exact fun z => by rw [atKey_put_other hne]; exact h4 z
set_option maxRecDepth 100000 in
/-- a look-up that asks whether there is one -/
theorem Plc.look {w : World} {b n : Nat} {ns : List ByteArray} {k : Nat} (h : Plc w b n ns k) {s : ByteArray} (hs : s.size ≤ maxLen) :
    ∃ c, (Instr.lookup 74 (.map (some b)) (.string s) true).run Try.prog w = .ok (.tuple #[.int .i64 c, .bool (plc ns k s).isSome]) w ∧ ∀ j, plc ns k s = some j → c = (j : Int) := by
  obtain ⟨D, h1, _, h3⟩ := h
  obtain ⟨v, ps, hrun, hv⟩ := h1.look_ok keyStr Try.underlying74 (zeroInt w) (plainElem_int (a := 0) Try.underlying3 (by decide)) (lit_key hs)
  obtain ⟨c, rfl, hc, _⟩ := plainElem_int_inv Try.underlying3 hv
  simp only [Prod.mk.injEq] at hc
  have h4 := h3 s
  unfold PlcAt at h4
  cases hp : plc ns k s with
  | none =>
    rw [hp] at h4
    rw [has_false_of_atKey h4] at hrun
    exact ⟨c, hrun, fun j hj => by cases hj⟩
  | some j =>
    rw [hp] at h4
    simp only at h4
    rw [has_true_of_atKey h4] at hrun
    refine ⟨c, hrun, fun j' hj => ?_⟩
    injection hj with hj
    subst hj
    rw [h4] at hc
    have := hc.1
    simp only [DataW.lit.injEq, Lit.int.injEq, true_and] at this
    exact this.symm
end Go.Proofs.Ytlcpekpgkllbkaa
