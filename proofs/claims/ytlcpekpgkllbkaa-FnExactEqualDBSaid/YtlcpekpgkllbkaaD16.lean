/-
  Merged by program: Close, Db, SzDd.
-/
import Derived.Below
import Derived.Carry
import Derived.ProofKit
import Derived.OpenShut
import Derived.SizedLaws
import Derived.Test.YtlcpekpgkllbkaaD15
import Derived.Test.YtlcpekpgkllbkaaD11

/-
  The last step of a law, once for all laws: where the call answers true and leaves all that was there as it was, the row's own post holds, whatever the arguments.
-/
namespace Go.Proofs.Ytlcpekpgkllbkaa
open Go.RowKit Go.ChangeShapes Go.WideShapes Go.ChangeAt

theorem trodAll_below {H : Type} {enc : TypeId × Value → H} {P : Program} (hl : laidOutB P = true) {W W' : World} (hb : Below W.heap.size W W') :
    ∀ (ts : List TypeId) (vs : List Value) (ds : List (DataW H)) (ps : List MemPlace), (∀ t ∈ ts, P.readableRec t = true ∧ t < P.types.size) → (∀ x ∈ ps, x.block < W.heap.size) →
      DataW.TrodAll enc P W 0 (fun _ => true) true ts vs ds ps → DataW.TrodAll enc P W' 0 (fun b => decide (b < W.heap.size)) true ts vs ds ps
  | [], [], [], ps, _, _, h => h
  | t :: ts, v :: vs, d :: ds, ps, hr, hlt, h => by
    obtain ⟨p, q, h1, h2, rfl⟩ := h
    have ht := hr t (by simp)
    exact ⟨p, q, Below.trod hl ht.1 ht.2 h1 hb (fun x hx => hlt x (by simp [hx])), trodAll_below hl hb ts vs ds q (fun t' h' => hr t' (by simp [h'])) (fun x hx => hlt x (by simp [hx])) h2, rfl⟩
  | [], [], _ :: _, _, _, _, h => h.elim
  | [], _ :: _, _, _, _, _, h => h.elim
  | _ :: _, [], _, _, _, _, h => h.elim
  | _ :: _, _ :: _, [], _, _, _, h => h.elim

theorem law_post {H : Type} {enc : TypeId × Value → H} {P : Program} {f : Func} {s : ChangeSpec} {W W' : World} {args : Array Value} {ds : List (DataW H)} {before : List MemPlace} {tb : TypeId}
    (hl : laidOutB P = true) (hread : ∀ t ∈ f.params.toList, P.readableRec t = true ∧ t < P.types.size) (hres : f.resultTypes = #[tb]) (htb : P.underlying tb = some .bool) (hv : s.vars = [])
    (hs : (s.fn H (ds ++ [])).results = [.lit (.bool true)] ∧ (s.fn H (ds ++ [])).args = ds ∧ (s.fn H (ds ++ [])).vars = [])
    (hW : DataW.Whole enc P f.params.toList s.vars false W args.toList ds [] before) (hb : Below W.heap.size W W') :
    s.post enc P f false true false false W args (.bool true) W' := by
  have hlt : ∀ p ∈ before, p.block < W.heap.size := fun p hp => hW.lt p hp
  have hW' := hW
  obtain ⟨p, q, hA, hV, rfl, _, _⟩ := hW
  rw [hv] at hV
  obtain ⟨_, rfl⟩ := trodVars_none hV
  refine ⟨ds, [], p ++ [], [], p, [], hW', ?_, ?_, ?_, hb.frame _, fun h => by cases h⟩
  · rw [hs.1, hres]
    exact trodAll_cons_mk (shut_bool htb _) trodAll_mk0
  · rw [hs.2.1]
    exact trodAll_below hl hb _ _ _ _ hread (fun x hx => hlt x (by simp [hx])) hA
  · rw [hs.2.2, hv]
    rfl
end Go.Proofs.Ytlcpekpgkllbkaa

/-
  DB: a struct of one field, a list of TableData. Written by genwrap.py.
-/
namespace Go.Proofs.Ytlcpekpgkllbkaa
open Go.RowKit

abbrev Db := List Dd
def RDb (w : World) (t : Db) (cs : List Value) : Prop := (kDd.list 86).R w t cs
def ODb (w : World) (t : Db) (cs : List Value) (fp : List Nat) : Prop := (kDd.list 86).O w t cs fp
def wDb (t : Db) : Nat := wL wDd t
theorem RDb.keep {w w' : World} {t : Db} {cs : List Value} (h : RDb w t cs) (hb : Below w.heap.size w w') : RDb w' t cs := (kDd.list 86).keep h hb
theorem RDb.open {w : World} {t : Db} {cs : List Value} (h : RDb w t cs) : ∃ A d, cs = [.slice A t.length d] ∧ t.length ≤ 9223372036854775807 ∧ t.length ≤ d ∧ RL kDd w A t := h
theorem RDb.one {w : World} {t : Db} {cs : List Value} (h : RDb w t cs) : ∃ c0, cs = [c0] := by
  obtain ⟨A, d, rfl, _⟩ := h
  exact ⟨_, rfl⟩
theorem ODb.reads {w : World} {t : Db} {cs : List Value} {fp : List Nat} (h : ODb w t cs fp) : RDb w t cs := (kDd.list 86).reads h
theorem ODb.under {w w' : World} {t : Db} {cs : List Value} {fp : List Nat} (h : ODb w t cs fp) (hb : Below w.heap.size w w') : ODb w' t cs fp := (kDd.list 86).under h hb
theorem ODb.ol {w : World} {t : Db} {s : Value} {fp : List Nat} : ODb w t [s] fp ↔ OL kDd 86 w t s fp := by
  constructor
  · rintro ⟨s', e, h⟩
    injection e with e _
    subst e
    exact h
  · intro h
    exact ⟨s, rfl, h⟩
/-- in new memory -/
def MadeDb (t : Db) (w : World) (e : Ending) (w' : World) : Prop :=
  ∃ (A : Option Addr) (d : Nat) (fp : List Nat), e = .returned (.agg #[.slice A t.length d]) ∧ ODb w' t [.slice A t.length d] fp ∧ (∀ b ∈ fp, w.heap.size ≤ b ∧ b < w'.heap.size) ∧ Below w.heap.size w w'
theorem len_wDb (t : Db) : t.length ≤ wDb t := by unfold wDb wL; omega
end Go.Proofs.Ytlcpekpgkllbkaa

/-
  How great a TableData is, as the laws reckon it. Written by genpair.py.
-/
namespace Go.Proofs.Ytlcpekpgkllbkaa
open Go.RowKit

set_option maxHeartbeats 800000 in
theorem szDd_any (x : Dd) (w : World) (cs : List Value) (left : Int) (h : kDd.R w x cs) (h0 : 0 ≤ left) (h1 : left ≤ 1048576) : Calls Try.prog 86 #[.agg cs.toArray, .int .i64 left] w (SzV (wDd x) left w) := by
  obtain ⟨TA, ta, td, rfl, hs, hy⟩ := kDd_open h
  obtain ⟨W1, hW1⟩ : ∃ W1, w.alloc (.cells #[.string x.1, .slice TA ta td] 119) = W1 := ⟨_, rfl⟩
  obtain ⟨H, hH⟩ : ∃ H, w.heap.size = H := ⟨_, rfl⟩
  have hbox : Box2 W1 H 119 (.string x.1) (.slice TA ta td) := by rw [← hW1, ← hH]; exact Box2.new w _ _ _
  have hb0 : Below w.heap.size w W1 := by rw [← hW1]; exact (Below.refl _ _).alloc (Nat.le_refl _) _
  have HC := Lib.hid (fun (l : Int) (g0 : 0 ≤ l) (g1 : l ≤ 1048576) => szVas_K x.2 W1 l ((kVa.list 92).keep hy hb0) g0 g1)
  have HW1 := Lib.hid hW1
  have HB0 := Lib.hid hb0
  have x0 := hbox.c0
  have x1 := hbox.c1
  have HWX : Hid (wDd x = x.1.size + (wL wv) x.2) := Lib.hid rfl
  generalize wDd x = wx at HWX ⊢
  generalize (wL wv) x.2 = wy at HWX HC
  generalize x.1 = nm at HWX HW1 hs x0 ⊢
  clear h hy hW1 hbox hb0
  by_cases hneg : left - nm.size < 0
  · go_enter Try.func86, Try.ntmps86
    go_wp2_with fail
    rw [HW1.out]
    go_wp2_with fail
    go_ret
    exact ⟨-1, rfl, by omega, by omega, by omega, HB0.out⟩
  · have HC1 := Lib.hid (HC.out (left - nm.size) (by omega) (by omega))
    go_enter Try.func86, Try.ntmps86
    go_wp2_with fail
    rw [HW1.out]
    go_wp2_with fail
    refine HC1.out.mono ?_
    rintro e w2 ⟨r, rfl, hs1, hs2, hs3, hb2⟩
    have HS3 := Lib.hid hs3
    have HB2 := Lib.hid (HB0.out.trans (hb2.mono HB0.out.size))
    clear hs3 hb2
    by_cases hz : r < 0
    · go_wp2_with fail
      go_ret
      exact ⟨-1, rfl, by omega, by omega, by omega, HB2.out⟩
    · go_wp2_with fail
      go_ret
      refine ⟨r, rfl, by omega, by omega, fun _ => ?_, HB2.out⟩
      have e2 := HS3.out (by omega)
      have e3 := HWX.out
      omega

set_option maxHeartbeats 800000 in
theorem szDdS_any (xs : List Dd) (w : World) (A : Option Addr) (d : Nat) (left : Int) (hp : RL kDd w A xs) (hl : xs.length ≤ 9223372036854775807) (h0 : 0 ≤ left) (h1 : left ≤ 1048576) :
    Calls Try.prog 57 #[.slice A xs.length d, .int .i64 left] w (SzV (wL wDd xs) left w) := by
  have HP := Lib.hid hp
  clear hp
  by_cases hneg : left - xs.length < 0
  · go_enter Try.func57, Try.ntmps57
    go_wp2_with fail
    go_ret
    exact ⟨-1, rfl, by omega, by omega, by omega, Below.refl _ _⟩
  · go_enter Try.func57, Try.ntmps57
    go_wp2_with fail
    go_loopw [1, 5] (fun l i wr => ∃ k : Nat, k ≤ xs.length ∧ i = .int .i64 k ∧ ∃ r : Int, l = .int .i64 r ∧ 0 ≤ r ∧ r + xs.length + ((xs.take k).map wDd).sum = left ∧ Below w.heap.size w wr) (fun _ i _ => xs.length - (intOf i).toNat)
    case atStart => exact ⟨0, Nat.zero_le _, rfl, _, rfl, by omega, by simp, Below.refl _ _⟩
    case round =>
      obtain ⟨k, hk, rfl, r, rfl, hr0, hr, hb⟩ := hrel
      have hr1 : r ≤ 1048576 := by omega
      have HR := Lib.hid hr
      clear hr
      by_cases hlt : k < xs.length
      · obtain ⟨ad, p, c0, c1, rfl, hpe, hrt, q0, q1⟩ := rl_at2 kDd_n HP.out hb hlt
        have hst := sum_take_succ wDd xs k hlt
        have hc := szDd_any xs[k] wr [c0, c1] r hrt hr0 hr1
        obtain ⟨m, hm⟩ : ∃ m, wDd xs[k] = m := ⟨_, rfl⟩
        rw [hm] at hst hc
        have HC := Lib.hid hc
        have HST := Lib.hid hst
        clear hc hrt hst hm
        go_wp2_with fail
        refine HC.out.mono ?_
        rintro e w2 ⟨r', rfl, hr2, hr3, hr4, hb2⟩
        have HB3 := Lib.hid (hb.trans (hb2.mono hb.size))
        have HR4 := Lib.hid hr4
        clear hr4 hb2
        by_cases hz : r' < 0
        · go_wp2_with fail
          go_ret
          exact ⟨-1, rfl, by omega, by omega, by omega, HB3.out⟩
        · go_wp2_with fail
          go_roundw
          case rel => exact ⟨k + 1, hlt, by go_num, r', rfl, by omega, by have h1 := HR4.out (by omega); have h2 := HR.out; have h3 := HST.out; omega, HB3.out⟩
          case measure => simp [intOf]; omega
      · have he : k = xs.length := by omega
        have HS : Hid (r + wL wDd xs = left) := by
          have h := HR.out
          rw [he, List.take_length] at h
          show _ = _
          unfold wL
          omega
        clear he
        go_wp2_with fail
        go_ret
        exact ⟨r, rfl, by have := HR.out; omega, by omega, fun _ => HS.out, hb⟩
end Go.Proofs.Ytlcpekpgkllbkaa
