/-
  Merged by program: TyEq, KdTy, KDc, Box1, Close, Sc, CopyG.
-/
import Derived.Test.YtlikmgkjilmjpaaGreatI1
import Derived.Test.YtlikmgkjilmjpaaGreatI3
import Derived.Test.YtlikmgkjilmjpaaGreatI2
import Derived.StillTailTactics
import Derived.Test.YtlikmgkjilmjpaaGreatI4
import Derived.Test.YtlikmgkjilmjpaaGreatI5
import Derived.Laws.Rows
import Derived.Below
import Derived.Carry
import Derived.ProofKit
import Derived.OpenShut
import Derived.SizedLaws
import Derived.Deep.RegionLaw

/-
  The comparison of a type with itself, wherever the two lie: 'eqType', 'eqTypeS'.
-/
namespace Go.Proofs.YtlikmgkjilmjpaaGreat
open Go.RowKit

def EqK (t : Ty) : Prop := ∀ (w : World) (cs ds : List Value), RTy w t cs → RTy w t ds → Calls Tryz.prog 79 #[.agg cs.toArray, .agg ds.toArray] w (LawYes w)

set_option maxHeartbeats 800000 in
set_option maxRecDepth 100000 in
theorem eqTypeS_of (ks : List Ty) (ih : ∀ t ∈ ks, EqK t) (w : World) (A B : Option Addr) (c d : Nat) (hA : RKids w A ks) (hB : RKids w B ks) (hl : ks.length ≤ 9223372036854775807) :
    Calls Tryz.prog 96 #[.slice A ks.length c, .slice B ks.length d] w (LawYes w) := by
  have HA := Lib.hid hA
  have HB := Lib.hid hB
  have HI := Lib.hid ih
  clear hA hB ih
  go_enter Tryz.func96, Tryz.ntmps96
  go_wp2_with fail
  go_loopw [5] (fun i wr => ∃ k : Nat, k ≤ ks.length ∧ i = .int .i64 k ∧ Below w.heap.size w wr) (fun i _ => ks.length - (intOf i).toNat)
  case atStart => exact ⟨0, Nat.zero_le _, rfl, Below.refl _ _⟩
  case round =>
    obtain ⟨k, hk, rfl, hb⟩ := hrel
    by_cases hlt : k < ks.length
    · obtain ⟨ad, p, c0, c1, c2, rfl, hpe, hr, q0, q1, q2⟩ := kid_at HA.out hb hlt
      obtain ⟨bd, p', d0, d1, d2, rfl, hpe', hr', q0', q1', q2'⟩ := kid_at HB.out hb hlt
      have HR := Lib.hid hr
      have HR' := Lib.hid hr'
      have HBW := Lib.hid hb
      clear hr hr' hb
      go_wp2_with fail
      go_still_tail 8, (by kernel_rfl)
      change wpList _ _ _ _ _ wr.drew
      have hd : Below wr.heap.size wr wr.drew := (Below.refl _ _).drew
      have HC := Lib.hid (HI.out ks[k] (List.getElem_mem hlt) wr.drew [c0, c1, c2] [d0, d1, d2] (HR.out.keep hd) (HR'.out.keep hd))
      have HB2 := Lib.hid (HBW.out.trans (hd.mono HBW.out.size))
      clear hd
      go_wp2_with fail
      refine HC.out.mono ?_
      rintro e w2 ⟨rfl, hb2⟩
      have HB3 := Lib.hid (HB2.out.trans (hb2.mono HB2.out.size))
      clear hb2
      go_wp2_with fail
      go_roundw
      case rel => exact ⟨k + 1, hlt, by go_num, HB3.out⟩
      case measure => simp [intOf]; omega
    · go_wp2_with fail
      go_ret
      exact ⟨rfl, hb⟩

set_option maxHeartbeats 800000 in
set_option maxRecDepth 100000 in
theorem eqType_same : ∀ t : Ty, EqK t := by
  refine Tr.ind ?_
  intro a ks ih w cs ds h h'
  obtain ⟨L, c, A, d, rfl, k1, k2, k3, k4, k5, k6, hp⟩ := h.out
  obtain ⟨L', c', A', d', rfl, k1', _, _, _, _, _, hp'⟩ := h'.out
  obtain ⟨W1, hW1⟩ : ∃ W1, (w.alloc (.cells #[.int .i64 a.kind, .slice L a.labels.length c, .slice A ks.length d] 96)).alloc (.cells #[.int .i64 a.kind, .slice L' a.labels.length c', .slice A' ks.length d'] 96) = W1 := ⟨_, rfl⟩
  obtain ⟨H, hH⟩ : ∃ H, w.heap.size = H := ⟨_, rfl⟩
  have b0 : Box3 W1 H 96 (.int .i64 a.kind) (.slice L a.labels.length c) (.slice A ks.length d) := by rw [← hW1, ← hH]; exact (Box3.new w _ _ _ _).alloc _
  have b1 : Box3 W1 (H + 1) 96 (.int .i64 a.kind) (.slice L' a.labels.length c') (.slice A' ks.length d') := by
    rw [← hW1, ← hH]
    have := Box3.new (w.alloc (.cells #[.int .i64 a.kind, .slice L a.labels.length c, .slice A ks.length d] 96)) 96 (.int .i64 a.kind) (.slice L' a.labels.length c') (.slice A' ks.length d')
    simpa using this
  have hb1 : Below w.heap.size w W1 := by rw [← hW1]; exact ((Below.refl _ _).alloc (Nat.le_refl _) _).alloc (by simp) _
  have HW1 := Lib.hid hW1
  have HP := Lib.hid (hp.keep hb1)
  have HP' := Lib.hid (hp'.keep hb1)
  have HL := Lib.hid (k1.below hb1)
  have HL' := Lib.hid (k1'.below hb1)
  have HB1 := Lib.hid hb1
  have HI := Lib.hid ih
  have x0 := b0.c0
  have x1 := b0.c1
  have x2 := b0.c2
  have y0 := b1.c0
  have y1 := b1.c1
  have y2 := b1.c2
  have B0 := Lib.hid b0
  have B1 := Lib.hid b1
  clear hp hp' ih k1 k1' k5 h h' hW1 b0 b1 hb1
  go_enter Tryz.func79, Tryz.ntmps79
  go_wp2_with fail
  rw [HW1.out]
  refine (eqL_any _ _ _ _ a.labels W1 HL.out HL'.out k4).mono ?_
  rintro e w2 ⟨rfl, hb2⟩
  have hz : H + 1 < W1.heap.size := B1.out.lt
  have z2 := (B0.out.under hb2 (by omega)).c2
  have v2 := (B1.out.under hb2 (by omega)).c2
  have HP2 := Lib.hid (HP.out.keep hb2)
  have HP2' := Lib.hid (HP'.out.keep hb2)
  have HB2 := Lib.hid (HB1.out.trans (hb2.mono HB1.out.size))
  clear hb2 x0 x1 x2 y0 y1 y2
  go_wp2_with fail
  refine (eqTypeS_of ks HI.out w2 A A' d d' HP2.out HP2'.out k6).mono ?_
  rintro e w3 ⟨rfl, hb3⟩
  have HB3 := Lib.hid (HB2.out.trans (hb3.mono HB2.out.size))
  clear hb3 z2 v2
  go_wp2_with fail
  go_ret
  exact ⟨rfl, HB3.out⟩
end Go.Proofs.YtlikmgkjilmjpaaGreat

/-
  Types as a kind of data; the laws' functions on them in the words of kinds.
-/
namespace Go.Proofs.YtlikmgkjilmjpaaGreat
open Go.RowKit

theorem kTy_shape {w : World} {t : Ty} {cs : List Value} (h : kTy.R w t cs) : ∃ tk TL TA tl tc ta td, cs = [.int .i64 tk, .slice TL tl tc, .slice TA ta td] := by
  cases t with
  | node a ks =>
    obtain ⟨L, c, A, d, rfl, _⟩ := RTy.out h
    exact ⟨_, _, _, _, _, _, _, rfl⟩
theorem szTy_K (t : Ty) (w : World) (cs : List Value) (left : Int) (h : kTy.R w t cs) (h0 : 0 ≤ left) (h1 : left ≤ 1048576) : Calls Tryz.prog 66 #[.agg cs.toArray, .int .i64 left] w (SzV (wt t) left w) := szType_any t w cs left h h0 h1
theorem toTy_K (t : Ty) (w : World) (cs : List Value) (h : kTy.R w t cs) (hw : wt t ≤ 1048576) : Calls Tryz.prog 73 #[.agg cs.toArray] w (MadeK kTy t (fun cs => .agg cs.toArray) w) :=
  (toType_any t w cs h hw).mono fun _ _ ⟨_, _, _, _, fp, he, ho, hb, hbw⟩ => ⟨_, fp, he, ho, hb, hbw⟩
theorem eqTy_K (t : Ty) (w : World) (cs ds : List Value) (h : kTy.R w t cs) (h' : kTy.R w t ds) : Calls Tryz.prog 79 #[.agg cs.toArray, .agg ds.toArray] w (LawYes w) := eqType_same t w cs ds h h'
end Go.Proofs.YtlikmgkjilmjpaaGreat

/-
  Structs of a name and a type (TableDecl). Written by genpair.py.
-/
namespace Go.Proofs.YtlikmgkjilmjpaaGreat
open Go.RowKit

abbrev Dc := ByteArray × Ty
def kDc : Kd Dc := kStr.prod kTy
theorem kDc_n : kDc.n = 4 := rfl
def wDc (x : Dc) : Nat := x.1.size + wt x.2
theorem kDc_open {w : World} {x : Dc} {cs : List Value} (h : kDc.R w x cs) : ∃ tk TL TA tl tc ta td, cs = [.string x.1, .int .i64 tk, .slice TL tl tc, .slice TA ta td] ∧ x.1.size ≤ 9223372036854775807 ∧ kTy.R w x.2 [.int .i64 tk, .slice TL tl tc, .slice TA ta td] := by
  obtain ⟨c1, c2, rfl, ⟨rfl, h1⟩, h2⟩ := h
  obtain ⟨tk, TL, TA, tl, tc, ta, td, rfl⟩ := kTy_shape h2
  exact ⟨tk, TL, TA, tl, tc, ta, td, rfl, h1, h2⟩
theorem kDc_make {w : World} {x : Dc} {ys : List Value} (h1 : x.1.size ≤ 9223372036854775807) (h2 : kTy.R w x.2 ys) : kDc.R w x (.string x.1 :: ys) := ⟨[.string x.1], ys, rfl, ⟨rfl, h1⟩, h2⟩
theorem kDc_omake {w : World} {x : Dc} {ys : List Value} {fp : List Nat} (h1 : x.1.size ≤ 9223372036854775807) (h2 : kTy.O w x.2 ys fp) : kDc.O w x (.string x.1 :: ys) fp := ⟨[.string x.1], ys, [], fp, rfl, ⟨rfl, h1, rfl⟩, h2, rfl, kTy.nodup h2⟩
theorem kDc_oopen {w : World} {x : Dc} {cs : List Value} {fp : List Nat} (h : kDc.O w x cs fp) : ∃ tk TL TA tl tc ta td, cs = [.string x.1, .int .i64 tk, .slice TL tl tc, .slice TA ta td] ∧ x.1.size ≤ 9223372036854775807 ∧ kTy.O w x.2 [.int .i64 tk, .slice TL tl tc, .slice TA ta td] fp := by
  obtain ⟨c1, c2, f1, f2, rfl, ⟨rfl, h1, rfl⟩, h2, rfl, _⟩ := h
  obtain ⟨tk, TL, TA, tl, tc, ta, td, rfl⟩ := kTy_shape (kTy.reads h2)
  exact ⟨tk, TL, TA, tl, tc, ta, td, rfl, h1, h2⟩
end Go.Proofs.YtlikmgkjilmjpaaGreat

/-
  A block of 1 cells that is known whole. Hangs on no program. Written by genbox.py.
-/
namespace Go.Proofs.YtlikmgkjilmjpaaGreat
open Go.RowKit

def Box1 (w : World) (g : Nat) (t : TypeId) (a0 : Value) : Prop := w.heap[g]? = some (.cells #[a0] t (0, 0))
section
variable {w w' : World} {g : Nat} {t : TypeId} {a0 : Value}
theorem Box1.new (w : World) (t : TypeId) (a0 : Value) : Box1 (w.alloc (.cells #[a0] t)) w.heap.size t a0 := heap_alloc_new w _
theorem Box1.lt (h : Box1 w g t a0) : g < w.heap.size := (Array.getElem?_eq_some_iff.1 h).1
theorem Box1.c0 (h : Box1 w g t a0) : w.cell? ⟨g, 0, none⟩ = some a0 := cell_of_row w g 0 _ t (0, 0) h
theorem Box1.free (h : Box1 w g t a0) (i : Nat) : w.frozen? ⟨g, i, none⟩ = false := frozen_of_row w g i _ t h
theorem Box1.under (h : Box1 w g t a0) {B : Nat} (hb : Below B w w') (hg : g < B) : Box1 w' g t a0 := (hb.block g hg).trans h
theorem Box1.alloc (h : Box1 w g t a0) (o : Obj) : Box1 (w.alloc o) g t a0 := ((((Below.refl _ _).alloc (Nat.le_refl _) o : Below w.heap.size w (w.alloc o))).block g h.lt).trans h
theorem Box1.far (h : Box1 w g t a0) {p : Addr} (hp : g ≠ p.block) (u : Value) : Box1 (w.setCell p u) g t a0 := (Below.heap_setCell w p u g hp).trans h
theorem Box1.set0 (h : Box1 w g t a0) (u : Value) : Box1 (w.setCell ⟨g, 0, none⟩ u) g t u := heap_setCell_same w g 0 _ t u h
theorem Box1.grown {row : Option Nat} (h : Box1 w g t a0) (hg : w.grownBy w' row) (hne : some g ≠ row) : Box1 w' g t a0 := (hg.block g h.lt hne).trans h
end
end Go.Proofs.YtlikmgkjilmjpaaGreat

/-
  The last step of a law, once for all laws: where the call answers true and leaves all that was there as it was, the row's own post holds, whatever the arguments.
-/
namespace Go.Proofs.YtlikmgkjilmjpaaGreat
open Go.RowKit Go.ChangeShapes Go.WideShapes Go.ChangeAt

theorem trodAll_below {H : Type} {enc : TypeId × Value → H} {P : Program} (hl : laidOutB P = true) {W W' : World} (hb : Below W.heap.size W W') :
    ∀ (ts : List TypeId) (vs : List Value) (ds : List (DataW H)) (ps : List MemPlace), (∀ t ∈ ts, P.readableRec t = true ∧ t < P.types.size) → (∀ x ∈ ps, x.block < W.heap.size) →
      DataW.TrodAll enc P W 0 (fun _ => true) true ts vs ds ps → DataW.TrodAll enc P W' 0 (fun b => decide (b < W.heap.size)) true ts vs ds ps
  | [], [], [], ps, _, _, h => h
  | t :: ts, v :: vs, d :: ds, ps, hr, hlt, h => by
    obtain ⟨p, q, h1, h2, rfl⟩ := h
    have ht := hr t (by simp)
    exact ⟨p, q, Below.trod hl ht.1 ht.2 h1 hb (fun x hx => hlt x (by simp [hx])), trodAll_below hl hb ts vs ds q (fun t' h' => hr t' (by simp [h'])) (fun x hx => hlt x (by simp [hx])) h2, rfl⟩
  | [], [], _ :: _, _, _, _, h => h.elim
  | [], _ :: _, _, _, _, _, h => h.elim
  | _ :: _, [], _, _, _, _, h => h.elim
  | _ :: _, _ :: _, [], _, _, _, h => h.elim

theorem law_post {H : Type} {enc : TypeId × Value → H} {P : Program} {f : Func} {s : ChangeSpec} {W W' : World} {args : Array Value} {ds : List (DataW H)} {before : List MemPlace} {tb : TypeId}
    (hl : laidOutB P = true) (hread : ∀ t ∈ f.params.toList, P.readableRec t = true ∧ t < P.types.size) (hres : f.resultTypes = #[tb]) (htb : P.underlying tb = some .bool) (hv : s.vars = [])
    (hs : (s.fn H (ds ++ [])).results = [.lit (.bool true)] ∧ (s.fn H (ds ++ [])).args = ds ∧ (s.fn H (ds ++ [])).vars = [])
    (hW : DataW.Whole enc P f.params.toList s.vars false W args.toList ds [] before) (hb : Below W.heap.size W W') :
    s.post enc P f false true false false W args (.bool true) W' := by
  have hlt : ∀ p ∈ before, p.block < W.heap.size := fun p hp => hW.lt p hp
  have hW' := hW
  obtain ⟨p, q, hA, hV, rfl, _, _⟩ := hW
  rw [hv] at hV
  obtain ⟨_, rfl⟩ := trodVars_none hV
  refine ⟨ds, [], p ++ [], [], p, [], hW', ?_, ?_, ?_, hb.frame _, fun h => by cases h⟩
  · rw [hs.1, hres]
    exact trodAll_cons_mk (shut_bool htb _) trodAll_mk0
  · rw [hs.2.1]
    exact trodAll_below hl hb _ _ _ _ hread (fun x hx => hlt x (by simp [hx])) hA
  · rw [hs.2.2, hv]
    rfl
end Go.Proofs.YtlikmgkjilmjpaaGreat

/-
  Schema: a struct of one field, a list of TableDecl. Written by genwrap.py.
-/
namespace Go.Proofs.YtlikmgkjilmjpaaGreat
open Go.RowKit

abbrev Sc := List Dc
def RSc (w : World) (t : Sc) (cs : List Value) : Prop := (kDc.list 98).R w t cs
def OSc (w : World) (t : Sc) (cs : List Value) (fp : List Nat) : Prop := (kDc.list 98).O w t cs fp
def wSc (t : Sc) : Nat := wL wDc t
theorem RSc.keep {w w' : World} {t : Sc} {cs : List Value} (h : RSc w t cs) (hb : Below w.heap.size w w') : RSc w' t cs := (kDc.list 98).keep h hb
theorem RSc.open {w : World} {t : Sc} {cs : List Value} (h : RSc w t cs) : ∃ A d, cs = [.slice A t.length d] ∧ t.length ≤ 9223372036854775807 ∧ t.length ≤ d ∧ RL kDc w A t := h
theorem RSc.one {w : World} {t : Sc} {cs : List Value} (h : RSc w t cs) : ∃ c0, cs = [c0] := by
  obtain ⟨A, d, rfl, _⟩ := h
  exact ⟨_, rfl⟩
theorem OSc.reads {w : World} {t : Sc} {cs : List Value} {fp : List Nat} (h : OSc w t cs fp) : RSc w t cs := (kDc.list 98).reads h
theorem OSc.under {w w' : World} {t : Sc} {cs : List Value} {fp : List Nat} (h : OSc w t cs fp) (hb : Below w.heap.size w w') : OSc w' t cs fp := (kDc.list 98).under h hb
theorem OSc.ol {w : World} {t : Sc} {s : Value} {fp : List Nat} : OSc w t [s] fp ↔ OL kDc 98 w t s fp := by
  constructor
  · rintro ⟨s', e, h⟩
    injection e with e _
    subst e
    exact h
  · intro h
    exact ⟨s, rfl, h⟩
/-- in new memory -/
def MadeSc (t : Sc) (w : World) (e : Ending) (w' : World) : Prop :=
  ∃ (A : Option Addr) (d : Nat) (fp : List Nat), e = .returned (.agg #[.slice A t.length d]) ∧ OSc w' t [.slice A t.length d] fp ∧ (∀ b ∈ fp, w.heap.size ≤ b ∧ b < w'.heap.size) ∧ Below w.heap.size w w'
theorem len_wSc (t : Sc) : t.length ≤ wSc t := by unfold wSc wL; omega
end Go.Proofs.YtlikmgkjilmjpaaGreat

/-
  Steps that appends in regions share; small facts on blocks. Hangs on no program.
-/
namespace Go.Proofs.YtlikmgkjilmjpaaGreat
open Go.RowKit

theorem nodup3 {L A F : List Nat} : (L ++ A ++ F).Nodup ↔ L.Nodup ∧ A.Nodup ∧ F.Nodup ∧ (∀ x ∈ L, x ∉ A) ∧ (∀ x ∈ L, x ∉ F) ∧ (∀ x ∈ A, x ∉ F) := by
  rw [List.nodup_append, List.nodup_append]
  constructor
  · rintro ⟨⟨h1, h2, h3⟩, h4, h5⟩
    exact ⟨h1, h2, h4, fun x hx hy => h3 x hx x hy rfl, fun x hx hy => h5 x (by simp [hx]) x hy rfl, fun x hx hy => h5 x (by simp [hx]) x hy rfl⟩
  · rintro ⟨h1, h2, h3, h4, h5, h6⟩
    refine ⟨⟨h1, h2, fun x hx y hy e => h4 x hx (e ▸ hy)⟩, h3, fun x hx y hy e => ?_⟩
    subst e
    rcases List.mem_append.1 hx with hx | hx
    · exact h5 x hx hy
    · exact h6 x hx hy
theorem blk_nodup (A : Option Addr) : (blk A).Nodup := by cases A <;> simp [blk]
theorem own_shape3 {w : World} {base size : Nat} {e : TypeId} {v : Value} {n : Nat} {xs : List Value} (h : w.ownsRow base e size v n xs) : ∃ A c, v = .slice A n c := by
  rcases h.2 with ⟨rfl, rfl⟩ | ⟨g, cap, cur, rfl, _⟩
  · exact ⟨none, 0, rfl⟩
  · exact ⟨_, cap, rfl⟩
theorem own_zero {w : World} {base size : Nat} {e : TypeId} {v : Value} {n : Nat} {xs : List Value} (h : w.ownsRow base e size v n xs) : w.ownsRow 0 e size v n xs :=
  ⟨h.1, h.2.imp id fun ⟨g, cap, cur, h1, _, h3⟩ => ⟨g, cap, cur, h1, Nat.zero_le _, h3⟩⟩
theorem kid_le_sum {β : Type} (f : β → Nat) {ks : List β} {t : β} (h : t ∈ ks) : f t ≤ (ks.map f).sum := by
  induction ks with
  | nil => cases h
  | cons x xs ih =>
    rcases List.mem_cons.1 h with rfl | h
    · simp
    · have := ih h; simp; omega
/-- an append onto a row of the call's own that is empty, as a step of a region that draws its order -/
theorem step_append_new {P : Program} {ops : Array Oper} {o : Oper} {a : Act} {w : World} {K : Act → World → Prop} {Q : Exit → Act → World → Prop} {E : Prop} (hgd : o.guard = none) (s x : Operand) (t : TypeId)
    (ho : o.op = .call { callee := .builtin .append, args := #[s, x], argTypes := #[t, t] })
    (base : Nat) (e : TypeId) (i : TypeInfo) (z : Value) (bytes : Nat) (ht : P.underlying t = some (.slice e)) (hi : P.info? e = some i) (hz : i.zero = some z) (hsize : i.size = 1) (hby : i.bytes = bytes) (hzs : z.cells.size = 1)
    (v : Value) (hs : a.eval s = v) (hown : w.ownsRow base e 1 v 0 []) (A : Option Addr) (m c : Nat) (news : List Value) (hx : a.eval x = .slice A m c) (hl : news.length = m) (hnews : Sl w A news) (h1 : ∀ u ∈ news, u.oneCell' = true)
    (h63 : m ≤ maxLen) (hbytes : m * bytes ≤ 140737488355328) (hbase : base ≤ w.heap.size)
    (h : ∀ LL lc w', w'.ownsRow base e 1 (.slice LL m lc) m news → w.grownBy w' v.ownBlock → (∀ b ∈ blk LL, v.ownBlock = some b ∨ b = w.heap.size) → K (a.put o.dst (.slice LL m lc)) w') :
    if Region.wanted o (yielded ops a.tmps) = true then Oper.wp P o a w K Q else E := by
  obtain ⟨v', w', hr, h2, h3, h4⟩ := run_append_sl w base t o.type e i z bytes ht hi hz hsize hby hzs v 0 [] hown A m c news hl hnews h1 (by omega) (by rw [Nat.zero_add]; exact hbytes) hbase
  rw [Nat.zero_add, List.nil_append] at h2
  obtain ⟨LL, lc, rfl⟩ := own_shape h2
  have hw : Region.wanted o (yielded ops a.tmps) = true := by simp [Region.wanted, hgd]
  rw [if_pos hw]
  refine Lib.wp_append_run w s x t t ho _ _ hs hx _ w' hr (h LL lc w' h2 h3 fun b hb => ?_)
  have e := (blk_own LL m lc b).2 hb
  rcases h4 with h4 | h4
  · rw [h4] at e; exact .inl e
  · rw [h4] at e; injection e with e; exact .inr e.symm

/-- an append onto a row of the call's own, as a step of a region that draws its order: elements of any size -/
theorem step_append_at {P : Program} {ops : Array Oper} {o : Oper} {a : Act} {w : World} {K : Act → World → Prop} {Q : Exit → Act → World → Prop} {E : Prop} (hgd : o.guard = none) (s x : Operand) (t : TypeId)
    (ho : o.op = .call { callee := .builtin .append, args := #[s, x], argTypes := #[t, t] })
    (base : Nat) (e : TypeId) (i : TypeInfo) (z : Value) (size bytes : Nat) (ht : P.underlying t = some (.slice e)) (hi : P.info? e = some i) (hz : i.zero = some z) (hsize : i.size = size) (hby : i.bytes = bytes) (hzs : z.cells.size = size) (hsz : 0 < size)
    (v : Value) (n : Nat) (xs : List Value) (hs : a.eval s = v) (hown : w.ownsRow base e size v n xs) (ad : Addr) (m c : Nat) (news : List Value) (hx : a.eval x = .slice (some ad) m c) (hl : news.length = m * size)
    (hnews : ∀ j u, news[j]? = some u → w.cell? (ad.add j) = some u) (h1 : ∀ u ∈ news, u.oneCell' = true) (h63 : n + m ≤ maxLen) (hbytes : (n + m) * bytes ≤ 140737488355328) (hbase : base ≤ w.heap.size)
    (h : ∀ A4 d4 w4, w4.ownsRow base e size (.slice A4 (n + m) d4) (n + m) (xs ++ news) → w.grownBy w4 v.ownBlock → ((Value.slice A4 (n + m) d4).ownBlock = v.ownBlock ∨ (Value.slice A4 (n + m) d4).ownBlock = some w.heap.size) → K (a.put o.dst (.slice A4 (n + m) d4)) w4) :
    if Region.wanted o (yielded ops a.tmps) = true then Oper.wp P o a w K Q else E := by
  obtain ⟨v', w', hr, h2, h3, _, h4⟩ := run_append_own_at (P := P) w base t o.type e i z size bytes ht hi hz hsize hby hzs hsz v n xs hown ad m c news hl hnews h1 h63 hbytes hbase
  obtain ⟨A4, d4, rfl⟩ := own_shape3 h2
  have hw : Region.wanted o (yielded ops a.tmps) = true := by simp [Region.wanted, hgd]
  rw [if_pos hw]
  exact Lib.wp_append_run w s x t t ho _ _ hs hx _ w' hr (h A4 d4 w' h2 h3 h4)
end Go.Proofs.YtlikmgkjilmjpaaGreat
