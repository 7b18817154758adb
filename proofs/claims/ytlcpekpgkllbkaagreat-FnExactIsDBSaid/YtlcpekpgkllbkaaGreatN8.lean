/-
  Merged by program: TyEq, KdTy, KDc, Box1, Close, Sc, SzDc.
-/
import Derived.Test.YtlcpekpgkllbkaaGreatN1
import Derived.Test.YtlcpekpgkllbkaaGreatN4
import Derived.Test.YtlcpekpgkllbkaaGreatN3
import Derived.StillTailTactics
import Derived.Test.YtlcpekpgkllbkaaGreatN6
import Derived.Test.YtlcpekpgkllbkaaGreatN7
import Derived.Test.YtlcpekpgkllbkaaGreatN5
import Derived.Laws.Rows
import Derived.Below
import Derived.Carry
import Derived.ProofKit
import Derived.OpenShut
import Derived.SizedLaws

/-
  The comparison of a type with itself, wherever the two lie: 'eqType', 'eqTypeS'.
-/
namespace Go.Proofs.YtlcpekpgkllbkaaGreat
open Go.RowKit

def EqK (t : Ty) : Prop := ∀ (w : World) (cs ds : List Value), RTy w t cs → RTy w t ds → Calls Tryz.prog 168 #[.agg cs.toArray, .agg ds.toArray] w (LawYes w)

set_option maxHeartbeats 800000 in
set_option maxRecDepth 100000 in
theorem eqTypeS_of (ks : List Ty) (ih : ∀ t ∈ ks, EqK t) (w : World) (A B : Option Addr) (c d : Nat) (hA : RKids w A ks) (hB : RKids w B ks) (hl : ks.length ≤ 9223372036854775807) :
    Calls Tryz.prog 184 #[.slice A ks.length c, .slice B ks.length d] w (LawYes w) := by
  have HA := Lib.hid hA
  have HB := Lib.hid hB
  have HI := Lib.hid ih
  clear hA hB ih
  go_enter Tryz.func184, Tryz.ntmps184
  go_wp2_with fail
  go_loopw [5] (fun i wr => ∃ k : Nat, k ≤ ks.length ∧ i = .int .i64 k ∧ Below w.heap.size w wr) (fun i _ => ks.length - (intOf i).toNat)
  case atStart => exact ⟨0, Nat.zero_le _, rfl, Below.refl _ _⟩
  case round =>
    obtain ⟨k, hk, rfl, hb⟩ := hrel
    by_cases hlt : k < ks.length
    · obtain ⟨ad, p, c0, c1, c2, rfl, hpe, hr, q0, q1, q2⟩ := kid_at HA.out hb hlt
      obtain ⟨bd, p', d0, d1, d2, rfl, hpe', hr', q0', q1', q2'⟩ := kid_at HB.out hb hlt
      have HR := Lib.hid hr
      have HR' := Lib.hid hr'
      have HBW := Lib.hid hb
      clear hr hr' hb
      go_wp2_with fail
      go_still_tail 8, (by kernel_rfl)
      change wpList _ _ _ _ _ wr.drew
      have hd : Below wr.heap.size wr wr.drew := (Below.refl _ _).drew
      have HC := Lib.hid (HI.out ks[k] (List.getElem_mem hlt) wr.drew [c0, c1, c2] [d0, d1, d2] (HR.out.keep hd) (HR'.out.keep hd))
      have HB2 := Lib.hid (HBW.out.trans (hd.mono HBW.out.size))
      clear hd
      go_wp2_with fail
      refine HC.out.mono ?_
      rintro e w2 ⟨rfl, hb2⟩
      have HB3 := Lib.hid (HB2.out.trans (hb2.mono HB2.out.size))
      clear hb2
      go_wp2_with fail
      go_roundw
      case rel => exact ⟨k + 1, hlt, by go_num, HB3.out⟩
      case measure => simp [intOf]; omega
    · go_wp2_with fail
      go_ret
      exact ⟨rfl, hb⟩

set_option maxHeartbeats 800000 in
set_option maxRecDepth 100000 in
theorem eqType_same : ∀ t : Ty, EqK t := by
  refine Tr.ind ?_
  intro a ks ih w cs ds h h'
  obtain ⟨L, c, A, d, rfl, k1, k2, k3, k4, k5, k6, hp⟩ := h.out
  obtain ⟨L', c', A', d', rfl, k1', _, _, _, _, _, hp'⟩ := h'.out
  obtain ⟨W1, hW1⟩ : ∃ W1, (w.alloc (.cells #[.int .i64 a.kind, .slice L a.labels.length c, .slice A ks.length d] 48)).alloc (.cells #[.int .i64 a.kind, .slice L' a.labels.length c', .slice A' ks.length d'] 48) = W1 := ⟨_, rfl⟩
  obtain ⟨H, hH⟩ : ∃ H, w.heap.size = H := ⟨_, rfl⟩
  have b0 : Box3 W1 H 48 (.int .i64 a.kind) (.slice L a.labels.length c) (.slice A ks.length d) := by rw [← hW1, ← hH]; exact (Box3.new w _ _ _ _).alloc _
  have b1 : Box3 W1 (H + 1) 48 (.int .i64 a.kind) (.slice L' a.labels.length c') (.slice A' ks.length d') := by
    rw [← hW1, ← hH]
    have := Box3.new (w.alloc (.cells #[.int .i64 a.kind, .slice L a.labels.length c, .slice A ks.length d] 48)) 48 (.int .i64 a.kind) (.slice L' a.labels.length c') (.slice A' ks.length d')
    simpa using this
  have hb1 : Below w.heap.size w W1 := by rw [← hW1]; exact ((Below.refl _ _).alloc (Nat.le_refl _) _).alloc (by simp) _
  have HW1 := Lib.hid hW1
  have HP := Lib.hid (hp.keep hb1)
  have HP' := Lib.hid (hp'.keep hb1)
  have HL := Lib.hid (k1.below hb1)
  have HL' := Lib.hid (k1'.below hb1)
  have HB1 := Lib.hid hb1
  have HI := Lib.hid ih
  have x0 := b0.c0
  have x1 := b0.c1
  have x2 := b0.c2
  have y0 := b1.c0
  have y1 := b1.c1
  have y2 := b1.c2
  have B0 := Lib.hid b0
  have B1 := Lib.hid b1
  clear hp hp' ih k1 k1' k5 h h' hW1 b0 b1 hb1
  go_enter Tryz.func168, Tryz.ntmps168
  go_wp2_with fail
  rw [HW1.out]
  refine (eqL_any _ _ _ _ a.labels W1 HL.out HL'.out k4).mono ?_
  rintro e w2 ⟨rfl, hb2⟩
  have hz : H + 1 < W1.heap.size := B1.out.lt
  have z2 := (B0.out.under hb2 (by omega)).c2
  have v2 := (B1.out.under hb2 (by omega)).c2
  have HP2 := Lib.hid (HP.out.keep hb2)
  have HP2' := Lib.hid (HP'.out.keep hb2)
  have HB2 := Lib.hid (HB1.out.trans (hb2.mono HB1.out.size))
  clear hb2 x0 x1 x2 y0 y1 y2
  go_wp2_with fail
  refine (eqTypeS_of ks HI.out w2 A A' d d' HP2.out HP2'.out k6).mono ?_
  rintro e w3 ⟨rfl, hb3⟩
  have HB3 := Lib.hid (HB2.out.trans (hb3.mono HB2.out.size))
  clear hb3 z2 v2
  go_wp2_with fail
  go_ret
  exact ⟨rfl, HB3.out⟩
end Go.Proofs.YtlcpekpgkllbkaaGreat

/-
  Types as a kind of data; the laws' functions on them in the words of kinds.
-/
namespace Go.Proofs.YtlcpekpgkllbkaaGreat
open Go.RowKit

theorem kTy_shape {w : World} {t : Ty} {cs : List Value} (h : kTy.R w t cs) : ∃ tk TL TA tl tc ta td, cs = [.int .i64 tk, .slice TL tl tc, .slice TA ta td] := by
  cases t with
  | node a ks =>
    obtain ⟨L, c, A, d, rfl, _⟩ := RTy.out h
    exact ⟨_, _, _, _, _, _, _, rfl⟩
theorem szTy_K (t : Ty) (w : World) (cs : List Value) (left : Int) (h : kTy.R w t cs) (h0 : 0 ≤ left) (h1 : left ≤ 1048576) : Calls Tryz.prog 166 #[.agg cs.toArray, .int .i64 left] w (SzV (wt t) left w) := szType_any t w cs left h h0 h1
theorem toTy_K (t : Ty) (w : World) (cs : List Value) (h : kTy.R w t cs) (hw : wt t ≤ 1048576) : Calls Tryz.prog 167 #[.agg cs.toArray] w (MadeK kTy t (fun cs => .agg cs.toArray) w) :=
  (toType_any t w cs h hw).mono fun _ _ ⟨_, _, _, _, fp, he, ho, hb, hbw⟩ => ⟨_, fp, he, ho, hb, hbw⟩
theorem eqTy_K (t : Ty) (w : World) (cs ds : List Value) (h : kTy.R w t cs) (h' : kTy.R w t ds) : Calls Tryz.prog 168 #[.agg cs.toArray, .agg ds.toArray] w (LawYes w) := eqType_same t w cs ds h h'
end Go.Proofs.YtlcpekpgkllbkaaGreat

/-
  Structs of a name and a type (TableDecl). Written by genpair.py.
-/
namespace Go.Proofs.YtlcpekpgkllbkaaGreat
open Go.RowKit

abbrev Dc := ByteArray × Ty
def kDc : Kd Dc := kStr.prod kTy
theorem kDc_n : kDc.n = 4 := rfl
def wDc (x : Dc) : Nat := x.1.size + wt x.2
theorem kDc_open {w : World} {x : Dc} {cs : List Value} (h : kDc.R w x cs) : ∃ tk TL TA tl tc ta td, cs = [.string x.1, .int .i64 tk, .slice TL tl tc, .slice TA ta td] ∧ x.1.size ≤ 9223372036854775807 ∧ kTy.R w x.2 [.int .i64 tk, .slice TL tl tc, .slice TA ta td] := by
  obtain ⟨c1, c2, rfl, ⟨rfl, h1⟩, h2⟩ := h
  obtain ⟨tk, TL, TA, tl, tc, ta, td, rfl⟩ := kTy_shape h2
  exact ⟨tk, TL, TA, tl, tc, ta, td, rfl, h1, h2⟩
theorem kDc_make {w : World} {x : Dc} {ys : List Value} (h1 : x.1.size ≤ 9223372036854775807) (h2 : kTy.R w x.2 ys) : kDc.R w x (.string x.1 :: ys) := ⟨[.string x.1], ys, rfl, ⟨rfl, h1⟩, h2⟩
theorem kDc_omake {w : World} {x : Dc} {ys : List Value} {fp : List Nat} (h1 : x.1.size ≤ 9223372036854775807) (h2 : kTy.O w x.2 ys fp) : kDc.O w x (.string x.1 :: ys) fp := ⟨[.string x.1], ys, [], fp, rfl, ⟨rfl, h1, rfl⟩, h2, rfl, kTy.nodup h2⟩
theorem kDc_oopen {w : World} {x : Dc} {cs : List Value} {fp : List Nat} (h : kDc.O w x cs fp) : ∃ tk TL TA tl tc ta td, cs = [.string x.1, .int .i64 tk, .slice TL tl tc, .slice TA ta td] ∧ x.1.size ≤ 9223372036854775807 ∧ kTy.O w x.2 [.int .i64 tk, .slice TL tl tc, .slice TA ta td] fp := by
  obtain ⟨c1, c2, f1, f2, rfl, ⟨rfl, h1, rfl⟩, h2, rfl, _⟩ := h
  obtain ⟨tk, TL, TA, tl, tc, ta, td, rfl⟩ := kTy_shape (kTy.reads h2)
  exact ⟨tk, TL, TA, tl, tc, ta, td, rfl, h1, h2⟩
end Go.Proofs.YtlcpekpgkllbkaaGreat

/-
  A block of 1 cells that is known whole. Hangs on no program. Written by genbox.py.
-/
namespace Go.Proofs.YtlcpekpgkllbkaaGreat
open Go.RowKit

def Box1 (w : World) (g : Nat) (t : TypeId) (a0 : Value) : Prop := w.heap[g]? = some (.cells #[a0] t (0, 0))
section
variable {w w' : World} {g : Nat} {t : TypeId} {a0 : Value}
theorem Box1.new (w : World) (t : TypeId) (a0 : Value) : Box1 (w.alloc (.cells #[a0] t)) w.heap.size t a0 := heap_alloc_new w _
theorem Box1.lt (h : Box1 w g t a0) : g < w.heap.size := (Array.getElem?_eq_some_iff.1 h).1
theorem Box1.c0 (h : Box1 w g t a0) : w.cell? ⟨g, 0, none⟩ = some a0 := cell_of_row w g 0 _ t (0, 0) h
theorem Box1.free (h : Box1 w g t a0) (i : Nat) : w.frozen? ⟨g, i, none⟩ = false := frozen_of_row w g i _ t h
theorem Box1.under (h : Box1 w g t a0) {B : Nat} (hb : Below B w w') (hg : g < B) : Box1 w' g t a0 := (hb.block g hg).trans h
theorem Box1.alloc (h : Box1 w g t a0) (o : Obj) : Box1 (w.alloc o) g t a0 := ((((Below.refl _ _).alloc (Nat.le_refl _) o : Below w.heap.size w (w.alloc o))).block g h.lt).trans h
theorem Box1.far (h : Box1 w g t a0) {p : Addr} (hp : g ≠ p.block) (u : Value) : Box1 (w.setCell p u) g t a0 := (Below.heap_setCell w p u g hp).trans h
theorem Box1.set0 (h : Box1 w g t a0) (u : Value) : Box1 (w.setCell ⟨g, 0, none⟩ u) g t u := heap_setCell_same w g 0 _ t u h
theorem Box1.grown {row : Option Nat} (h : Box1 w g t a0) (hg : w.grownBy w' row) (hne : some g ≠ row) : Box1 w' g t a0 := (hg.block g h.lt hne).trans h
end
end Go.Proofs.YtlcpekpgkllbkaaGreat

/-
  The last step of a law, once for all laws: where the call answers true and leaves all that was there as it was, the row's own post holds, whatever the arguments.
-/
namespace Go.Proofs.YtlcpekpgkllbkaaGreat
open Go.RowKit Go.ChangeShapes Go.WideShapes Go.ChangeAt

theorem trodAll_below {H : Type} {enc : TypeId × Value → H} {P : Program} (hl : laidOutB P = true) {W W' : World} (hb : Below W.heap.size W W') :
    ∀ (ts : List TypeId) (vs : List Value) (ds : List (DataW H)) (ps : List MemPlace), (∀ t ∈ ts, P.readableRec t = true ∧ t < P.types.size) → (∀ x ∈ ps, x.block < W.heap.size) →
      DataW.TrodAll enc P W 0 (fun _ => true) true ts vs ds ps → DataW.TrodAll enc P W' 0 (fun b => decide (b < W.heap.size)) true ts vs ds ps
  | [], [], [], ps, _, _, h => h
  | t :: ts, v :: vs, d :: ds, ps, hr, hlt, h => by
    obtain ⟨p, q, h1, h2, rfl⟩ := h
    have ht := hr t (by simp)
    exact ⟨p, q, Below.trod hl ht.1 ht.2 h1 hb (fun x hx => hlt x (by simp [hx])), trodAll_below hl hb ts vs ds q (fun t' h' => hr t' (by simp [h'])) (fun x hx => hlt x (by simp [hx])) h2, rfl⟩
  | [], [], _ :: _, _, _, _, h => h.elim
  | [], _ :: _, _, _, _, _, h => h.elim
  | _ :: _, [], _, _, _, _, h => h.elim
  | _ :: _, _ :: _, [], _, _, _, h => h.elim

theorem law_post {H : Type} {enc : TypeId × Value → H} {P : Program} {f : Func} {s : ChangeSpec} {W W' : World} {args : Array Value} {ds : List (DataW H)} {before : List MemPlace} {tb : TypeId}
    (hl : laidOutB P = true) (hread : ∀ t ∈ f.params.toList, P.readableRec t = true ∧ t < P.types.size) (hres : f.resultTypes = #[tb]) (htb : P.underlying tb = some .bool) (hv : s.vars = [])
    (hs : (s.fn H (ds ++ [])).results = [.lit (.bool true)] ∧ (s.fn H (ds ++ [])).args = ds ∧ (s.fn H (ds ++ [])).vars = [])
    (hW : DataW.Whole enc P f.params.toList s.vars false W args.toList ds [] before) (hb : Below W.heap.size W W') :
    s.post enc P f false true false false W args (.bool true) W' := by
  have hlt : ∀ p ∈ before, p.block < W.heap.size := fun p hp => hW.lt p hp
  have hW' := hW
  obtain ⟨p, q, hA, hV, rfl, _, _⟩ := hW
  rw [hv] at hV
  obtain ⟨_, rfl⟩ := trodVars_none hV
  refine ⟨ds, [], p ++ [], [], p, [], hW', ?_, ?_, ?_, hb.frame _, fun h => by cases h⟩
  · rw [hs.1, hres]
    exact trodAll_cons_mk (shut_bool htb _) trodAll_mk0
  · rw [hs.2.1]
    exact trodAll_below hl hb _ _ _ _ hread (fun x hx => hlt x (by simp [hx])) hA
  · rw [hs.2.2, hv]
    rfl
end Go.Proofs.YtlcpekpgkllbkaaGreat

/-
  Schema: a struct of one field, a list of TableDecl. Written by genwrap.py.
-/
namespace Go.Proofs.YtlcpekpgkllbkaaGreat
open Go.RowKit

abbrev Sc := List Dc
def RSc (w : World) (t : Sc) (cs : List Value) : Prop := (kDc.list 103).R w t cs
def OSc (w : World) (t : Sc) (cs : List Value) (fp : List Nat) : Prop := (kDc.list 103).O w t cs fp
def wSc (t : Sc) : Nat := wL wDc t
theorem RSc.keep {w w' : World} {t : Sc} {cs : List Value} (h : RSc w t cs) (hb : Below w.heap.size w w') : RSc w' t cs := (kDc.list 103).keep h hb
theorem RSc.open {w : World} {t : Sc} {cs : List Value} (h : RSc w t cs) : ∃ A d, cs = [.slice A t.length d] ∧ t.length ≤ 9223372036854775807 ∧ t.length ≤ d ∧ RL kDc w A t := h
theorem RSc.one {w : World} {t : Sc} {cs : List Value} (h : RSc w t cs) : ∃ c0, cs = [c0] := by
  obtain ⟨A, d, rfl, _⟩ := h
  exact ⟨_, rfl⟩
theorem OSc.reads {w : World} {t : Sc} {cs : List Value} {fp : List Nat} (h : OSc w t cs fp) : RSc w t cs := (kDc.list 103).reads h
theorem OSc.under {w w' : World} {t : Sc} {cs : List Value} {fp : List Nat} (h : OSc w t cs fp) (hb : Below w.heap.size w w') : OSc w' t cs fp := (kDc.list 103).under h hb
theorem OSc.ol {w : World} {t : Sc} {s : Value} {fp : List Nat} : OSc w t [s] fp ↔ OL kDc 103 w t s fp := by
  constructor
  · rintro ⟨s', e, h⟩
    injection e with e _
    subst e
    exact h
  · intro h
    exact ⟨s, rfl, h⟩
/-- in new memory -/
def MadeSc (t : Sc) (w : World) (e : Ending) (w' : World) : Prop :=
  ∃ (A : Option Addr) (d : Nat) (fp : List Nat), e = .returned (.agg #[.slice A t.length d]) ∧ OSc w' t [.slice A t.length d] fp ∧ (∀ b ∈ fp, w.heap.size ≤ b ∧ b < w'.heap.size) ∧ Below w.heap.size w w'
theorem len_wSc (t : Sc) : t.length ≤ wSc t := by unfold wSc wL; omega
end Go.Proofs.YtlcpekpgkllbkaaGreat

/-
  How great a TableDecl is, as the laws reckon it. Written by genpair.py.
-/
namespace Go.Proofs.YtlcpekpgkllbkaaGreat
open Go.RowKit

set_option maxHeartbeats 800000 in
theorem szDc_any (x : Dc) (w : World) (cs : List Value) (left : Int) (h : kDc.R w x cs) (h0 : 0 ≤ left) (h1 : left ≤ 1048576) : Calls Tryz.prog 131 #[.agg cs.toArray, .int .i64 left] w (SzV (wDc x) left w) := by
  obtain ⟨tk, TL, TA, tl, tc, ta, td, rfl, hs, hy⟩ := kDc_open h
  obtain ⟨W1, hW1⟩ : ∃ W1, w.alloc (.cells #[.string x.1, .int .i64 tk, .slice TL tl tc, .slice TA ta td] 175) = W1 := ⟨_, rfl⟩
  obtain ⟨H, hH⟩ : ∃ H, w.heap.size = H := ⟨_, rfl⟩
  have hbox : Box4 W1 H 175 (.string x.1) (.int .i64 tk) (.slice TL tl tc) (.slice TA ta td) := by rw [← hW1, ← hH]; exact Box4.new w _ _ _ _ _
  have hb0 : Below w.heap.size w W1 := by rw [← hW1]; exact (Below.refl _ _).alloc (Nat.le_refl _) _
  have HC := Lib.hid (fun (l : Int) (g0 : 0 ≤ l) (g1 : l ≤ 1048576) => szTy_K x.2 W1 _ l (kTy.keep hy hb0) g0 g1)
  have HW1 := Lib.hid hW1
  have HB0 := Lib.hid hb0
  have x0 := hbox.c0
  have x1 := hbox.c1
  have x2 := hbox.c2
  have x3 := hbox.c3
  have HWX : Hid (wDc x = x.1.size + wt x.2) := Lib.hid rfl
  generalize wDc x = wx at HWX ⊢
  generalize wt x.2 = wy at HWX HC
  generalize x.1 = nm at HWX HW1 hs x0 ⊢
  clear h hy hW1 hbox hb0
  by_cases hneg : left - nm.size < 0
  · go_enter Tryz.func131, Tryz.ntmps131
    go_wp2_with fail
    rw [HW1.out]
    go_wp2_with fail
    go_ret
    exact ⟨-1, rfl, by omega, by omega, by omega, HB0.out⟩
  · have HC1 := Lib.hid (HC.out (left - nm.size) (by omega) (by omega))
    go_enter Tryz.func131, Tryz.ntmps131
    go_wp2_with fail
    rw [HW1.out]
    go_wp2_with fail
    refine HC1.out.mono ?_
    rintro e w2 ⟨r, rfl, hs1, hs2, hs3, hb2⟩
    have HS3 := Lib.hid hs3
    have HB2 := Lib.hid (HB0.out.trans (hb2.mono HB0.out.size))
    clear hs3 hb2
    by_cases hz : r < 0
    · go_wp2_with fail
      go_ret
      exact ⟨-1, rfl, by omega, by omega, by omega, HB2.out⟩
    · go_wp2_with fail
      go_ret
      refine ⟨r, rfl, by omega, by omega, fun _ => ?_, HB2.out⟩
      have e2 := HS3.out (by omega)
      have e3 := HWX.out
      omega

set_option maxHeartbeats 800000 in
theorem szDcS_any (xs : List Dc) (w : World) (A : Option Addr) (d : Nat) (left : Int) (hp : RL kDc w A xs) (hl : xs.length ≤ 9223372036854775807) (h0 : 0 ≤ left) (h1 : left ≤ 1048576) :
    Calls Tryz.prog 83 #[.slice A xs.length d, .int .i64 left] w (SzV (wL wDc xs) left w) := by
  have HP := Lib.hid hp
  clear hp
  by_cases hneg : left - xs.length < 0
  · go_enter Tryz.func83, Tryz.ntmps83
    go_wp2_with fail
    go_ret
    exact ⟨-1, rfl, by omega, by omega, by omega, Below.refl _ _⟩
  · go_enter Tryz.func83, Tryz.ntmps83
    go_wp2_with fail
    go_loopw [1, 5] (fun l i wr => ∃ k : Nat, k ≤ xs.length ∧ i = .int .i64 k ∧ ∃ r : Int, l = .int .i64 r ∧ 0 ≤ r ∧ r + xs.length + ((xs.take k).map wDc).sum = left ∧ Below w.heap.size w wr) (fun _ i _ => xs.length - (intOf i).toNat)
    case atStart => exact ⟨0, Nat.zero_le _, rfl, _, rfl, by omega, by simp, Below.refl _ _⟩
    case round =>
      obtain ⟨k, hk, rfl, r, rfl, hr0, hr, hb⟩ := hrel
      have hr1 : r ≤ 1048576 := by omega
      have HR := Lib.hid hr
      clear hr
      by_cases hlt : k < xs.length
      · obtain ⟨ad, p, c0, c1, c2, c3, rfl, hpe, hrt, q0, q1, q2, q3⟩ := rl_at4 kDc_n HP.out hb hlt
        have hst := sum_take_succ wDc xs k hlt
        have hc := szDc_any xs[k] wr [c0, c1, c2, c3] r hrt hr0 hr1
        obtain ⟨m, hm⟩ : ∃ m, wDc xs[k] = m := ⟨_, rfl⟩
        rw [hm] at hst hc
        have HC := Lib.hid hc
        have HST := Lib.hid hst
        clear hc hrt hst hm
        go_wp2_with fail
        refine HC.out.mono ?_
        rintro e w2 ⟨r', rfl, hr2, hr3, hr4, hb2⟩
        have HB3 := Lib.hid (hb.trans (hb2.mono hb.size))
        have HR4 := Lib.hid hr4
        clear hr4 hb2
        by_cases hz : r' < 0
        · go_wp2_with fail
          go_ret
          exact ⟨-1, rfl, by omega, by omega, by omega, HB3.out⟩
        · go_wp2_with fail
          go_roundw
          case rel => exact ⟨k + 1, hlt, by go_num, r', rfl, by omega, by have h1 := HR4.out (by omega); have h2 := HR.out; have h3 := HST.out; omega, HB3.out⟩
          case measure => simp [intOf]; omega
      · have he : k = xs.length := by omega
        have HS : Hid (r + wL wDc xs = left) := by
          have h := HR.out
          rw [he, List.take_length] at h
          show _ = _
          unfold wL
          omega
        clear he
        go_wp2_with fail
        go_ret
        exact ⟨r, rfl, by have := HR.out; omega, by omega, fun _ => HS.out, hb⟩
end Go.Proofs.YtlcpekpgkllbkaaGreat
