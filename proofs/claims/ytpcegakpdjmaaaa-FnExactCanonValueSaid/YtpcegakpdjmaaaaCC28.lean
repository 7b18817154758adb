/-
  Merged by program: CmpI.
-/
import Derived.Test.YtpcegakpdjmaaaaCC27
import Derived.Test.YtpcegakpdjmaaaaCC21
import Derived.Deep.RegionHeld3
import Derived.Deep.RegionLaw
import Derived.Deep.CutRange
import Derived.Deep.Slices

/-
  The program's CompareValues: a stack of pairs of lists.
-/
namespace Go.Proofs.Ytpcegakpdjmaaaa
open Go.RowKit

theorem infoLists : (Try.prog.info? 66).map (fun i => (i.zero, i.size, i.bytes)) = some (some (.agg #[.slice none 0 0, .slice none 0 0]), 2, 48) := by kernel_rfl
/-- lists yet to be compared, the next pair first -/
abbrev PStk := List ((List Va × Value) × (List Va × Value))
def cmpS : PStk → Int
  | [] => 0
  | ((xs, _), (ys, _)) :: S => orC (lexC cmpV xs ys) (cmpS S)
theorem orC_assoc (a b c : Int) : orC (orC a b) c = orC a (orC b c) := by
  unfold orC
  by_cases h : a = 0
  · simp [h]
  · simp [h]
/-- the list lies behind the slice, in the world W; its nodes are read in w -/
theorem orC_nil (a : Int) : orC a 0 = a := by unfold orC; split <;> simp_all
def PRd (w W : World) (xs : List Va) (s : Value) : Prop := ∃ A c, s = .slice A xs.length c ∧ xs.length ≤ c ∧ xs.length ≤ 9223372036854775807 ∧ RowLV w W A xs
def PAll (w W : World) (S : PStk) : Prop := ∀ p ∈ S, PRd w W p.1.1 p.1.2 ∧ PRd w W p.2.1 p.2.2 ∧ p.1.1.length = p.2.1.length ∧ 0 < p.1.1.length
def wP (S : PStk) : Nat := (S.map fun p => 2 * sizesV p.1.1 + 1).sum
def rowP (S : PStk) : List Value := S.reverse.flatMap fun p => [p.1.2, p.2.2]
/-- what the loop keeps -/
def CmpInv (w W : World) (M : Nat) (N : Int) (S : PStk) (v : Value) (wr : World) : Prop :=
  cmpS S = N ∧ wP S ≤ M ∧ PAll w W S ∧ wr.ownsRow W.heap.size 66 2 v S.length (rowP S) ∧ Lays W wr
theorem wP_len (S : PStk) : S.length ≤ wP S := by
  unfold wP
  induction S with
  | nil => simp
  | cons p S ih => simp only [List.map_cons, List.sum_cons, List.length_cons]; omega
theorem rowP_cons (p : (List Va × Value) × (List Va × Value)) (S : PStk) : rowP (p :: S) = rowP S ++ [p.1.2, p.2.2] := by simp [rowP]
theorem rowP_len (S : PStk) : (rowP S).length = S.length * 2 := by
  induction S with
  | nil => rfl
  | cons p S ih => rw [rowP_cons, List.length_append, ih]; simp; omega

theorem cell_two_new (w : World) (a b : Value) (t : TypeId) : ∀ j u, [a, b][j]? = some u → (w.alloc (.cells #[a, b] t)).cell? ((⟨w.heap.size, 0, none⟩ : Addr).add j) = some u := by
  intro j u hj
  match j, hj with
  | 0, hj => simp at hj; subst hj; simp [Addr.add]
  | 1, hj => simp at hj; subst hj; simp [Addr.add]
  | j + 2, hj => simp at hj
theorem box4_drew {w : World} {H : Nat} {ty : TypeId} {a b c d : Value} (h : Box4 w H ty a b c d) : Box4 w.drew H ty a b c d := h
/-- the parts of a node, as a list to come -/
theorem rva_prd {w W : World} {x : Va} {c0 c1 c2 : Value} {A : Option Addr} {n c : Nat} (h : RVa w x [c0, c1, c2, .slice A n c]) (hb : Below w.heap.size w W) : PRd w W x.kids (.slice A x.kids.length c) := by
  have hc := h.cap
  obtain ⟨L, l, A', c', e, _, _, hk, hr⟩ := h.open
  simp only [List.cons.injEq, Value.slice.injEq, and_true] at e
  obtain ⟨_, _, _, rfl, rfl, rfl⟩ := e
  exact ⟨A, c, rfl, hc, hk, hr.rowLV hb⟩
/-- a pair of lists to come was taken away: what is left -/
def TailI (w W2 : World) (M : Nat) (N : Int) (S : PStk) (v : Value) (wr : World) : Prop :=
  cmpS S = N ∧ wP S ≤ M ∧ PAll w W2 S ∧ wr.ownsRow W2.heap.size 66 2 v S.length (rowP S) ∧ Lays W2 wr
theorem nodeC_eq {a b : Va} (h : nodeC a.top a.kids.length b.top b.kids.length = 0) : a.kids.length = b.kids.length := by
  unfold nodeC at h
  exact (keyV_inj ((ordKey.zero _ _).1 h)).2
/-- the first node of a list that is read, and the rest -/
theorem rowLV_hd {w W wr : World} {A : Option Addr} {x : Va} {xs : List Va} (h : RowLV w W A (x :: xs)) (hb : Below W.heap.size W wr) : ∃ ad L l A' c', A = some ad ∧ RVa w x [.int .i64 x.top.kind, .int .i64 x.top.num, .slice L x.top.labels.length l, .slice A' x.kids.length c'] ∧
    wr.cell? ad = some (.int .i64 x.top.kind) ∧ wr.cell? ⟨ad.block, ad.off + 1, none⟩ = some (.int .i64 x.top.num) ∧ wr.cell? ⟨ad.block, ad.off + 2, none⟩ = some (.slice L x.top.labels.length l) ∧ wr.cell? ⟨ad.block, ad.off + 3, none⟩ = some (.slice A' x.kids.length c') ∧ RowLV w W (some (ad.add 4)) xs := by
  obtain ⟨ps, hp⟩ := h
  obtain ⟨h1, ad, hA, h3⟩ := hp 0 x rfl
  obtain ⟨L, l, A', c', he, _⟩ := h1.open
  rw [he] at h1 h3
  have hc : ∀ i u, [Value.int .i64 x.top.kind, .int .i64 x.top.num, .slice L x.top.labels.length l, .slice A' x.kids.length c'][i]? = some u → wr.cell? (ad.add (0 * 4 + i)) = some u := fun i u hi => (hb.cell (World.block_lt_of_cell? W _ (h3 i u hi))).trans (h3 i u hi)
  have e0 : ad.add (0 * 4) = ad := by unfold Addr.add; rfl
  have e : ∀ i, 0 < i → ad.add (0 * 4 + i) = ⟨ad.block, ad.off + i, none⟩ := fun i hi => by rw [addr_next ad (0 * 4) i hi, e0]
  refine ⟨ad, L, l, A', c', hA, h1, ?_, ?_, ?_, ?_, fun j => ps (j + 1), fun j t hj => ?_⟩
  · have := hc 0 _ rfl; rwa [Nat.add_zero, e0] at this
  · have := hc 1 _ rfl; rwa [e 1 (by omega)] at this
  · have := hc 2 _ rfl; rwa [e 2 (by omega)] at this
  · have := hc 3 _ rfl; rwa [e 3 (by omega)] at this
  · obtain ⟨k1, ad', hA', k3⟩ := hp (j + 1) t hj
    rw [hA] at hA'
    injection hA' with hA'
    subst hA'
    refine ⟨k1, _, rfl, fun i u hi => ?_⟩
    have := k3 i u hi
    rwa [Go.Deep.add_add, show 4 + (j * 4 + i) = (j + 1) * 4 + i by omega]

set_option maxRecDepth 100000 in
set_option maxHeartbeats 4000000 in
theorem implCmp_any (a b : Va) (w : World) (cs ds : List Value) (h : RVa w a cs) (h' : RVa w b ds) (hs : a.size ≤ 1048577) : Calls Try.prog 20 #[.agg cs.toArray, .agg ds.toArray] w (NumL (cmpV a b) w) := by
  obtain ⟨c0, c1, c2, c3, rfl⟩ := h.four
  obtain ⟨d0, d1, d2, d3, rfl⟩ := h'.four
  obtain ⟨i0, hi, hz0, hz1, hz2⟩ := info_parts infoLists
  obtain ⟨H, hH⟩ : ∃ H, w.heap.size = H := ⟨_, rfl⟩
  obtain ⟨W2, hW2⟩ : ∃ W2, (((w.alloc (.cells #[c0, c1, c2, c3] 30)).alloc (.cells #[d0, d1, d2, d3] 30)).alloc (.cells #[c0, c1, c2, c3] 30)).alloc (.cells #[d0, d1, d2, d3] 30) = W2 := ⟨_, rfl⟩
  have hz2' : W2.heap.size = H + 4 := by rw [← hW2, ← hH]; simp
  have hl2 : Lays w W2 := by rw [← hW2]; exact ((((Lays.refl w).alloc _).alloc _).alloc _).alloc _
  have hx : Box4 W2 (H + 2) 30 c0 c1 c2 c3 := by
    rw [← hW2, ← hH]
    have := (Box4.new ((w.alloc (.cells #[c0, c1, c2, c3] 30)).alloc (.cells #[d0, d1, d2, d3] 30)) 30 c0 c1 c2 c3).alloc (.cells #[d0, d1, d2, d3] 30)
    simpa using this
  have hy : Box4 W2 (H + 3) 30 d0 d1 d2 d3 := by
    rw [← hW2, ← hH]
    have := Box4.new (((w.alloc (.cells #[c0, c1, c2, c3] 30)).alloc (.cells #[d0, d1, d2, d3] 30)).alloc (.cells #[c0, c1, c2, c3] 30)) 30 d0 d1 d2 d3
    simpa using this
  obtain ⟨N, hN⟩ : ∃ N, cmpV a b = N := ⟨_, rfl⟩
  have h0 : CmpInv w W2 4194304 N [(([a], .slice (some ⟨H + 2, 0, none⟩) 1 1), ([b], .slice (some ⟨H + 3, 0, none⟩) 1 1))] (.slice (some ⟨H + 4, 0, none⟩) 1 1) (W2.alloc (.cells #[.slice (some ⟨H + 2, 0, none⟩) 1 1, .slice (some ⟨H + 3, 0, none⟩) 1 1] 66)) := by
    refine ⟨?_, ?_, fun p hp => ?_, ?_, (Lays.refl _).alloc _⟩
    · show orC (lexC cmpV [a] [b]) 0 = N
      rw [← hN]
      show orC (orC (cmpV a b) 0) 0 = _
      rw [orC_nil, orC_nil]
    · show (2 * sizesV [a] + 1) + 0 ≤ _
      rw [sizesV_one]
      omega
    · simp only [List.mem_singleton] at hp
      subst hp
      have r1 := stkR_one h hx _ (List.mem_singleton.2 rfl)
      have r2 := stkR_one h' hy _ (List.mem_singleton.2 rfl)
      obtain ⟨A1, k1, e1, _, q1, _⟩ := r1
      obtain ⟨A2, k2, e2, _, q2, _⟩ := r2
      injection e1 with e1 _ e1'
      injection e2 with e2 _ e2'
      subst e1 e2
      exact ⟨⟨_, 1, rfl, by simp, by simp, q1⟩, ⟨_, 1, rfl, by simp, by simp, q2⟩, rfl, by simp⟩
    · have := World.ownsRow_lit (e := 66) W2 #[.slice (some ⟨H + 2, 0, none⟩) 1 1, .slice (some ⟨H + 3, 0, none⟩) 1 1] 1 (base := W2.heap.size) (size := 2) (Nat.le_refl _) (by unfold maxLen; omega) rfl
      rw [hz2'] at this
      rw [hz2']
      exact this
  have HI0 := Lib.hid h0
  have HL2 := Lib.hid hl2
  have HW2 := Lib.hid hW2
  have HH := Lib.hid hH
  rw [hN]
  clear h0 hl2 hW2 hx hy h h' hN
  go_enter Try.func20, Try.ntmps20
  have hHz := HH.out
  go_wp2_with fail
  go_loopw [5] (fun p wr => ∃ S, CmpInv w W2 4194304 N S p wr) (fun p wr => Classical.epsilon (Least fun m => ∃ S, CmpInv w W2 4194304 N S p wr ∧ m = wP S))
  case atStart =>
    rw [HW2.out]
    exact ⟨_, HI0.out⟩
  case round =>
    obtain ⟨p, hp0⟩ : ∃ p, u5 = p := ⟨_, rfl⟩
    rw [hp0] at hrel ⊢
    obtain ⟨k0, hk0⟩ := hrel
    have hle := least_at (Q := fun m => ∃ S, CmpInv w W2 4194304 N S p wr ∧ m = wP S) ⟨k0, hk0, rfl⟩
    obtain ⟨μ, hμ⟩ : ∃ μ, Classical.epsilon (Least fun m => ∃ S, CmpInv w W2 4194304 N S p wr ∧ m = wP S) = μ := ⟨_, rfl⟩
    rw [hμ] at hle
    obtain ⟨⟨S, ⟨hv, hk, hall, hown, hlays⟩, hmu⟩, _⟩ := hle
    clear hk0 k0
    have HMU := Lib.hid hμ
    have HME := Lib.hid hmu
    clear hμ hmu
    match S with
    | [] =>
      obtain ⟨A, c, rfl⟩ := own_is hown
      have HR : Hid (NumL N w (.returned (.int .i64 0)) wr) := ⟨by rw [← hv]; rfl, HL2.out.trans hlays⟩
      clear hown hall hv hlays
      go_wp2_with fail
      go_ret
      exact HR.out
    | (([], _), _) :: S' => exact absurd (hall _ (List.mem_cons_self ..)).2.2.2 (by simp)
    | ((_ :: _, _), ([], _)) :: S' => exact absurd (hall _ (List.mem_cons_self ..)).2.2.1 (by simp)
    | ((x :: xs, sa), (y :: ys, sb)) :: S' =>
      obtain ⟨⟨A, ca, hsa, hca, hxl, hrx⟩, ⟨B, cb, hsb, hcb, hyl, hry⟩, heq, _⟩ := hall _ (List.mem_cons_self ..)
      simp only at hsa hca hxl hrx hsb hcb hyl hry heq
      subst hsa hsb
      have hall' : PAll w W2 S' := fun p hp => hall p (List.mem_cons_of_mem _ hp)
      obtain ⟨n, hn⟩ : ∃ n, xs.length = n := ⟨_, rfl⟩
      have hn' : ys.length = n := by simp only [List.length_cons] at heq; omega
      have hstep : cmpS (((x :: xs, .slice A (x :: xs).length ca), (y :: ys, .slice B (y :: ys).length cb)) :: S') = orC (nodeC x.top x.kids.length y.top y.kids.length) (orC (lexC cmpV x.kids y.kids) (orC (lexC cmpV xs ys) (cmpS S'))) := by
        show orC (orC (cmpV x y) (lexC cmpV xs ys)) (cmpS S') = _
        cases x with
        | node a ks =>
          cases y with
          | node b ls =>
            rw [cmpV_node, orC_assoc, orC_assoc]
            rfl
      rw [hv] at hstep
      have hmeas : wP (((x :: xs, .slice A (x :: xs).length ca), (y :: ys, .slice B (y :: ys).length cb)) :: S') = 2 * sizesV x.kids + 2 * sizesV xs + 3 + wP S' := by
        show (2 * sizesV (x :: xs) + 1) + wP S' = _
        have h1 : sizesV (x :: xs) = x.size + sizesV xs := by simp [sizesV]
        have h2 := sizesV_kids x
        omega
      rw [hmeas] at hk
      simp only [List.length_cons, hn, hn'] at hown hca hxl hcb hyl
      rw [rowP_cons] at hown
      obtain ⟨m, hm⟩ : ∃ m, S'.length = m := ⟨_, rfl⟩
      rw [hm] at hown
      have hml : m ≤ 4194304 := by have := wP_len S'; omega
      have hrl : (rowP S').length = m * 2 := by rw [rowP_len, hm]
      obtain ⟨g, cap, rfl⟩ := ownsRow_succ hown
      have hpop := ownsRow_pop (last := [.slice A (n + 1) ca, .slice B (n + 1) cb]) hrl hown
      have g0 : wr.cell? ⟨g, m * 2, none⟩ = some (.slice A (n + 1) ca) := by
        rw [hown.cellAt _ (by omega), List.getElem?_append_right (by omega), hrl]
        simp
      have g1 : wr.cell? ⟨g, m * 2 + 1, none⟩ = some (.slice B (n + 1) cb) := by
        rw [hown.cellAt _ (by omega), List.getElem?_append_right (by omega), hrl]
        simp
      have hcap : m ≤ cap := by
        rcases hown.2 with ⟨h0, _⟩ | ⟨g', cap', cur, hv, _, _, h3, _⟩
        · cases h0
        · injection hv with _ _ hv; omega
      obtain ⟨ad, L, l, A', a', rfl, hrx0, q0, q1, q2, q3, hrx'⟩ := rowLV_hd hrx hlays.below
      obtain ⟨bd, L', l', B', b', rfl, hry0, p0, p1, p2, p3, hry'⟩ := rowLV_hd hry hlays.below
      obtain ⟨wb, hwb⟩ : ∃ wb, wr.alloc (.cells #[.slice (some ad) (n + 1) ca, .slice (some bd) (n + 1) cb] 66) = wb := ⟨_, rfl⟩
      have HPOP := Lib.hid hpop
      have HM := Lib.hid hm
      have HK := Lib.hid hk
      have HALL := Lib.hid hall'
      have HLS := Lib.hid hlays
      have HRX := Lib.hid hrx'
      have HRY := Lib.hid hry'
      have HX0 := Lib.hid hrx0
      have HY0 := Lib.hid hry0
      have HST := Lib.hid hstep
      have HWB := Lib.hid hwb
      have HMS := Lib.hid hmeas
      have HN := Lib.hid hn
      have HN' := Lib.hid hn'
      have HQ := Lib.hid (And.intro q0 (And.intro q1 (And.intro q2 (And.intro q3 (And.intro p0 (And.intro p1 (And.intro p2 p3)))))))
      clear hown hpop hm hrl hk hall hall' hlays hrx hry hrx' hry' hrx0 hry0 hstep hmeas hv heq hn hn' hwb q0 q1 q2 q3 p0 p1 p2 p3
      go_upto_region 6 with (fail)
      rw [HWB.out]
      obtain ⟨K, hK⟩ : ∃ K, wr.heap.size = K := ⟨_, rfl⟩
      have hbz : wb.heap.size = K + 1 := by rw [← HWB.out, World.size_alloc, hK]
      have k0 : wb.cell? ⟨K, 0, none⟩ = some (.slice (some ad) (n + 1) ca) := by rw [← HWB.out, ← hK]; have := cell_two_new wr (.slice (some ad) (n + 1) ca) (.slice (some bd) (n + 1) cb) 66 0 _ rfl; exact this
      have k1 : wb.cell? ⟨K, 1, none⟩ = some (.slice (some bd) (n + 1) cb) := by rw [← HWB.out, ← hK]; have := cell_two_new wr (.slice (some ad) (n + 1) ca) (.slice (some bd) (n + 1) cb) 66 1 _ rfl; exact this
      have hlb : Below wr.heap.size wr wb := by rw [← HWB.out]; exact (Below.refl _ _).alloc (Nat.le_refl _) _
      obtain ⟨q0, q1, q2, q3, p0, p1, p2, p3⟩ := HQ.out
      have q0 := (hlb.cell (World.block_lt_of_cell? wr _ q0)).trans q0
      have q1 := (hlb.cell (World.block_lt_of_cell? wr _ q1)).trans q1
      have q2 := (hlb.cell (World.block_lt_of_cell? wr _ q2)).trans q2
      have q3 := (hlb.cell (World.block_lt_of_cell? wr _ q3)).trans q3
      have p0 := (hlb.cell (World.block_lt_of_cell? wr _ p0)).trans p0
      have p1 := (hlb.cell (World.block_lt_of_cell? wr _ p1)).trans p1
      have p2 := (hlb.cell (World.block_lt_of_cell? wr _ p2)).trans p2
      have p3 := (hlb.cell (World.block_lt_of_cell? wr _ p3)).trans p3
      have n0 := World.new_ne wb _ k0
      have n1 := World.new_ne wb _ k1
      have n2 := World.new_ne wb _ q0
      have n3 := World.new_ne wb _ q1
      have n4 := World.new_ne wb _ q2
      have n5 := World.new_ne wb _ q3
      have n6 := World.new_ne wb _ p0
      have n7 := World.new_ne wb _ p1
      have n8 := World.new_ne wb _ p2
      have n9 := World.new_ne wb _ p3
      rw [hK]
      have HLB := Lib.hid hlb
      have HBZ := Lib.hid hbz
      have HKK := Lib.hid hK
      clear hlb hbz hK
      go_cut [8, 9] from 17 to 69 (fun p q wx => ∃ gx gy, p = .pointer (some ⟨gx, 0, none⟩) ∧ q = .pointer (some ⟨gy, 0, none⟩) ∧ Box4 wx gx 30 (.int .i64 x.top.kind) (.int .i64 x.top.num) (.slice L x.top.labels.length l) (.slice A' x.kids.length a') ∧ Box4 wx gy 30 (.int .i64 y.top.kind) (.int .i64 y.top.num) (.slice L' y.top.labels.length l') (.slice B' y.kids.length b') ∧ Lays wb wx ∧ K < gx ∧ K < gy)
      case first =>
        go_region_held3 (fun W => W.cell? ⟨K, 0, none⟩ = some (.slice (some ad) (n + 1) ca) ∧ W.cell? ⟨K, 1, none⟩ = some (.slice (some bd) (n + 1) cb) ∧ W.cell? ad = some (.int .i64 x.top.kind) ∧ W.cell? ⟨ad.block, ad.off + 1, none⟩ = some (.int .i64 x.top.num) ∧ W.cell? ⟨ad.block, ad.off + 2, none⟩ = some (.slice L x.top.labels.length l) ∧ W.cell? ⟨ad.block, ad.off + 3, none⟩ = some (.slice A' x.kids.length a') ∧ W.cell? bd = some (.int .i64 y.top.kind) ∧ W.cell? ⟨bd.block, bd.off + 1, none⟩ = some (.int .i64 y.top.num) ∧ W.cell? ⟨bd.block, bd.off + 2, none⟩ = some (.slice L' y.top.labels.length l') ∧ W.cell? ⟨bd.block, bd.off + 3, none⟩ = some (.slice B' y.kids.length b'))
          (first | (refine ⟨?_, ?_, ?_, ?_, ?_, ?_, ?_, ?_, ?_, ?_⟩ <;> assumption) | go_keep) (fail)
        · go_wp2_with fail
          go_meet
          case rel =>
            refine ⟨_, _, rfl, rfl, box4_drew ((Box4.new wb _ _ _ _ _).alloc _), ?_, (((Lays.refl wb).alloc _).alloc _).drew, by have := HBZ.out; omega, by have := HBZ.out; omega⟩
            have := box4_drew (Box4.new (wb.alloc (.cells #[.int .i64 x.top.kind, .int .i64 x.top.num, .slice L x.top.labels.length l, .slice A' x.kids.length a'] 30)) 30 (.int .i64 y.top.kind) (.int .i64 y.top.num) (.slice L' y.top.labels.length l') (.slice B' y.kids.length b'))
            rw [World.size_alloc] at this; exact this
        · go_wp2_with fail
          go_meet
          case rel =>
            refine ⟨_, _, rfl, rfl, ?_, box4_drew ((Box4.new wb _ _ _ _ _).alloc _), (((Lays.refl wb).alloc _).alloc _).drew, by have := HBZ.out; omega, by have := HBZ.out; omega⟩
            have := box4_drew (Box4.new (wb.alloc (.cells #[.int .i64 y.top.kind, .int .i64 y.top.num, .slice L' y.top.labels.length l', .slice B' y.kids.length b'] 30)) 30 (.int .i64 x.top.kind) (.int .i64 x.top.num) (.slice L x.top.labels.length l) (.slice A' x.kids.length a'))
            rw [World.size_alloc] at this; exact this
      case rest =>
        clear q0 q1 q2 q3 p0 p1 p2 p3 n0 n1 n2 n3 n4 n5 n6 n7 n8 n9
        obtain ⟨gx, gy, rfl, rfl, bx, by0, hlx, hgx, hgy⟩ := hcut
        have HGX := Lib.hid hgx
        have HGY := Lib.hid hgy
        clear hgx hgy
        have hl2 : Lays W2 wc := HLS.out.trans (Lays.trans (by rw [← HWB.out]; exact (Lays.refl wr).alloc _) hlx)
        have hb2 : Below w.heap.size w wc := HL2.out.below.trans (hl2.below.mono HL2.out.below.size)
        have HND := Lib.hid (cmpNode_any x y wc _ _ (HX0.out.keep hb2) (HY0.out.keep hb2))
        obtain ⟨r, hr⟩ : ∃ r, nodeC x.top x.kids.length y.top y.kids.length = r := ⟨_, rfl⟩
        have hst := HST.out
        rw [hr] at HND hst
        have HR := Lib.hid hr
        have x0 := bx.c0
        have x1 := bx.c1
        have x2 := bx.c2
        have x3 := bx.c3
        have y0 := by0.c0
        have y1 := by0.c1
        have y2 := by0.c2
        have y3 := by0.c3
        have k0 := (hlx.below.cell (World.block_lt_of_cell? wb _ k0)).trans k0
        have k1 := (hlx.below.cell (World.block_lt_of_cell? wb _ k1)).trans k1
        have HPW := Lib.hid (HPOP.out.kept (row := none) (World.grownBy.trans (row := none) ⟨HLB.out.os, HLB.out.tape, HLB.out.output, HLB.out.size, fun i hi _ => HLB.out.block i hi⟩ ⟨hlx.below.os, hlx.below.tape, hlx.below.output, hlx.below.size, fun i hi _ => hlx.below.block i hi⟩) (.inr (by simp [Value.ownBlock])))
        have HL2C := Lib.hid hl2
        have BX := Lib.hid bx
        have BY := Lib.hid by0
        clear hl2 hlx hb2 hr bx by0
        by_cases h0 : r = 0
        · have HEQ := Lib.hid (nodeC_eq (by rw [HR.out]; exact h0))
          rw [h0] at hst HND
          have HSTT := Lib.hid hst
          clear hst
          go_wp2_with fail
          refine HND.out.mono ?_
          rintro e wd ⟨rfl, hld⟩
          have bx := BX.out.under hld.below BX.out.lt
          have by0 := BY.out.under hld.below BY.out.lt
          have k0 := (hld.below.cell (World.block_lt_of_cell? wc _ k0)).trans k0
          have k1 := (hld.below.cell (World.block_lt_of_cell? wc _ k1)).trans k1
          have HPD := Lib.hid (HPW.out.kept (row := none) ⟨hld.below.os, hld.below.tape, hld.below.output, hld.below.size, fun i hi _ => hld.below.block i hi⟩ (.inr (by simp [Value.ownBlock])))
          have HLD := Lib.hid (HL2C.out.trans hld)
          have BX := Lib.hid bx
          have BY := Lib.hid by0
          have hdz := hld.below.size
          clear x0 x1 x2 x3 y0 y1 y2 y3 hld bx by0
          have HF0 : Hid True := trivial
          by_cases hn0 : n = 0
          · have HT : Hid (TailI w W2 (2 * sizesV xs + 1 + wP S') (orC (lexC cmpV xs ys) (cmpS S')) S' (.slice (some ⟨g, 0, none⟩) m cap) wd) := by
              have e1 : xs = [] := List.eq_nil_of_length_eq_zero (by rw [HN.out]; exact hn0)
              have e2 : ys = [] := List.eq_nil_of_length_eq_zero (by rw [HN'.out]; exact hn0)
              refine ⟨by rw [e1, e2]; rfl, by omega, HALL.out, by rw [HM.out]; exact HPD.out, HLD.out⟩
            go_upto_region 12 with (fail)
            have hx3 := BX.out.c3
            have hy3 := BY.out.c3
            by_cases hk0 : x.kids.length = 0
            · have HG : Hid (∃ S, CmpInv w W2 4194304 N S (.slice (some ⟨g, 0, none⟩) m cap) wd ∧ wP S < μ) := by
                obtain ⟨t1, t2, t3, t4, t5⟩ := HT.out
                have e1 : x.kids = [] := List.eq_nil_of_length_eq_zero hk0
                have e2 : y.kids = [] := List.eq_nil_of_length_eq_zero (by rw [← HEQ.out]; exact hk0)
                have e3 := HSTT.out
                have e4 := HK.out
                have e5 := HME.out
                have e6 := HMS.out
                refine ⟨_, ⟨?_, by omega, t3, t4, t5⟩, by omega⟩
                rw [t1, e3, e1, e2]
                rfl
              rw [hk0] at hx3
              clear HT HF0
              go_wp2_with fail
              go_roundw
              case rel =>
                obtain ⟨S, h1, h2⟩ := HG.out
                exact ⟨S, h1⟩
              case measure =>
                rw [HMU.out]
                obtain ⟨S, h1, h2⟩ := HG.out
                have h5 := (least_at (Q := fun z => ∃ S, CmpInv w W2 4194304 N S (.slice (some ⟨g, 0, none⟩) m cap) wd ∧ z = wP S) ⟨S, h1, rfl⟩).2 _ ⟨S, h1, rfl⟩
                omega
            · have hyk : y.kids.length ≠ 0 := by rw [← HEQ.out]; exact hk0
              have hx3' : wd.cell? ⟨gx, 3, none⟩ = some (.slice A' x.kids.length a') := hx3
              have HAP : Hid (∀ v' w4, w4.ownsRow W2.heap.size 66 2 v' (m + 1) (rowP S' ++ [.slice A' x.kids.length a', .slice B' y.kids.length b']) → Lays W2 w4 → ∃ S, CmpInv w W2 4194304 N S v' w4 ∧ wP S < μ) := by
                intro v' w4 ho hl
                obtain ⟨t1, t2, t3, t4, t5⟩ := HT.out
                have e3 := HSTT.out
                have e4 := HK.out
                have e5 := HME.out
                have e6 := HMS.out
                have e7 : wP (((x.kids, .slice A' x.kids.length a'), (y.kids, .slice B' y.kids.length b')) :: S') = 2 * sizesV x.kids + 1 + wP (S') := rfl
                refine ⟨((x.kids, .slice A' x.kids.length a'), (y.kids, .slice B' y.kids.length b')) :: S', ⟨?_, by omega, fun p hp => ?_, ?_, hl⟩, by omega⟩
                · show orC (lexC cmpV x.kids y.kids) (cmpS (S')) = N
                  rw [t1, e3]
                  rfl
                · rcases List.mem_cons.1 hp with rfl | hp
                  · exact ⟨rva_prd HX0.out HL2.out.below, rva_prd HY0.out HL2.out.below, HEQ.out, by show 0 < x.kids.length; omega⟩
                  · exact t3 p hp
                · rw [rowP_cons]
                  simpa [HM.out] using ho
              have HOW : Hid (wd.ownsRow W2.heap.size 66 2 (.slice (some ⟨g, 0, none⟩) m cap) (m) (rowP S')) := HPD.out
              have HLW : Hid (Lays W2 wd) := HT.out.2.2.2.2
              have hwz := HT.out.2.2.2.2.below.size
              have hvb : ∀ q, Value.ownBlock (.slice (some ⟨g, 0, none⟩) m cap) = some q → W2.heap.size ≤ q := fun q hq => (HOW.out.lt q hq).1
              have HVB := Lib.hid hvb
              obtain ⟨xk, hxk⟩ : ∃ k, x.kids.length = k := ⟨_, rfl⟩
              obtain ⟨yk, hyk'⟩ : ∃ k, y.kids.length = k := ⟨_, rfl⟩
              rw [hxk] at hx3 hk0 HAP
              rw [hyk'] at hy3 hyk HAP
              have hxk0 : 0 < xk := by omega
              clear HT hx3' hvb hxk hyk' HF0
              go_wp2_with (at_builtin; refine wpList_append_lays _ rfl _ _ 67 rfl W2.heap.size 66 i0 (.agg #[.slice none 0 0, .slice none 0 0]) 2 48 Try.underlying67 hi hz0 hz1 hz2 rfl (by decide) (.slice (some ⟨g, 0, none⟩) m cap) (m) (rowP S') rfl (HOW.out.alloc _) ⟨wd.heap.size, 0, none⟩ 1 1 [.slice A' xk a', .slice B' yk b'] rfl rfl (cell_two_new _ _ _ _) (by intro u hu; simp at hu; rcases hu with rfl | rfl <;> rfl) (by unfold maxLen; omega) (by omega) (by simp; omega) ?_; intro v4 w4 hown4 hg4 hd4)
              have HG := Lib.hid (HAP.out v4 w4 hown4 (((HLW.out).alloc _).grown hg4 hd4 HVB.out))
              clear hown4 hg4 hd4
              go_wp2_with fail
              go_roundw
              case rel =>
                obtain ⟨S, h1, h2⟩ := HG.out
                exact ⟨S, h1⟩
              case measure =>
                rw [HMU.out]
                obtain ⟨S, h1, h2⟩ := HG.out
                have h5 := (least_at (Q := fun m => ∃ S, CmpInv w W2 4194304 N S v4 w4 ∧ m = wP S) ⟨S, h1, rfl⟩).2 _ ⟨S, h1, rfl⟩
                omega
          · have hn1 : 0 < n := by omega
            go_upto_region 11 with (fail)
            have n0 := World.new_ne wd _ k0
            have n1 := World.new_ne wd _ k1
            have HOD : Hid (wd.ownsRow W2.heap.size 66 2 (.slice (some ⟨g, 0, none⟩) m cap) m (rowP S')) := HPD.out
            have hwz0 := HLD.out.below.size
            have HVB0 : Hid (∀ q, Value.ownBlock (.slice (some ⟨g, 0, none⟩) m cap) = some q → W2.heap.size ≤ q) := fun q hq => (HOD.out.lt q hq).1
            have hKg : K ≠ g := by
              have h1 := HPOP.out.lt g rfl
              have h2 := HKK.out
              omega
            have hKd : K < wd.heap.size := by
              have := World.block_lt_of_cell? wd _ k0
              exact this
            have HC4 : Hid (∀ W w4, Below wd.heap.size wd W → W.grownBy w4 (some g) → w4.cell? ⟨K, 0, none⟩ = some (.slice (some ad) (n + 1) ca) ∧ w4.cell? ⟨K, 1, none⟩ = some (.slice (some bd) (n + 1) cb)) := by
              intro W w4 hW hg
              have hb : w4.heap[K]? = wd.heap[K]? := (hg.block K (by have := hW.size; omega) (by intro e; injection e with e; omega)).trans (hW.block K hKd)
              exact ⟨(World.cell?_of_block (a := ⟨K, 0, none⟩) hb).trans k0, (World.cell?_of_block (a := ⟨K, 1, none⟩) hb).trans k1⟩
            have z1 : (1 : Int) ≤ (n : Int) + 1 := by omega
            have z2 : (n : Int) + 1 ≤ (ca : Int) := by omega
            have z3 : (n : Int) + 1 ≤ (cb : Int) := by omega
            have z4 : (1 : Int) ≤ (ca : Int) := by omega
            have z5 : (1 : Int) ≤ (cb : Int) := by omega
            have z6 : (0 : Int) ≤ (n : Int) := by omega
            have z7 : ca ≠ 1 := by omega
            have z8 : cb ≠ 1 := by omega
            go_region_held3 (fun W => W.cell? ⟨K, 0, none⟩ = some (.slice (some ad) (n + 1) ca) ∧ W.cell? ⟨K, 1, none⟩ = some (.slice (some bd) (n + 1) cb))
              (first | (refine ⟨?_, ?_⟩ <;> assumption) | go_keep)
              (first | (refine step_append_lays (by rfl) (.tmp 48) (.tmp 56) 67 (by rfl) W2.heap.size 66 i0 (.agg #[.slice none 0 0, .slice none 0 0]) 2 48 Try.underlying67 hi hz0 hz1 hz2 (by rfl) (by decide) (.slice (some ⟨g, 0, none⟩) m cap) m (rowP S') (by rfl) (HOD.out.alloc _) ⟨wd.heap.size, 0, none⟩ 1 1 [.slice (some ⟨ad.block, ad.off + 4, none⟩) n (ca - 1), .slice (some ⟨bd.block, bd.off + 4, none⟩) n (cb - 1)] (by rfl) (by rfl) (cell_two_new _ _ _ _) (by intro u hu; simp at hu; rcases hu with rfl | rfl <;> rfl) (by unfold maxLen; omega) (by omega) (by simp; omega) ?_; intro v4 w4 hown4 hg4 hd4; have n0 := HC4.out _ _ ((Below.refl _ _).alloc (Nat.le_refl _) _).drew hg4; have k0 := n0.1; have k1 := n0.2; clear n0))
            have bx4 := (box4_drew (BX.out.alloc _)).grown hg4 (by show some gx ≠ some g; intro e; injection e with e; have h1 := HPOP.out.lt g rfl; have h2 := HKK.out; have h3 := HGX.out; omega)
            have by4 := (box4_drew (BY.out.alloc _)).grown hg4 (by show some gy ≠ some g; intro e; injection e with e; have h1 := HPOP.out.lt g rfl; have h2 := HKK.out; have h3 := HGY.out; omega)
            have HT : Hid (TailI w W2 (2 * sizesV xs + 1 + wP S') (orC (lexC cmpV xs ys) (cmpS S')) (((xs, .slice (some ⟨ad.block, ad.off + 4, none⟩) n (ca - 1)), (ys, .slice (some ⟨bd.block, bd.off + 4, none⟩) n (cb - 1))) :: S') v4 w4) := by
              refine ⟨rfl, by show (2 * sizesV xs + 1) + wP S' ≤ _; omega, fun p hp => ?_, ?_, ((HLD.out.alloc _).drew).grown hg4 hd4 HVB0.out⟩
              · rcases List.mem_cons.1 hp with rfl | hp
                · exact ⟨⟨_, ca - 1, by rw [HN.out]; rfl, by rw [HN.out]; omega, by rw [HN.out]; omega, HRX.out⟩, ⟨_, cb - 1, by rw [HN'.out]; rfl, by rw [HN'.out]; omega, by rw [HN'.out]; omega, HRY.out⟩, by show xs.length = ys.length; rw [HN.out, HN'.out], by show 0 < xs.length; rw [HN.out]; exact hn1⟩
                · exact HALL.out p hp
              · rw [rowP_cons, List.length_cons, HM.out]
                exact hown4
            have HO4 := Lib.hid hown4
            have BX := Lib.hid bx4
            have BY := Lib.hid by4
            clear hown4 hg4 hd4 bx4 by4 z1 z2 z3 z4 z5 z7 z8 k0 k1 n0 n1
            go_upto_region 12 with (fail)
            have hx3 := BX.out.c3
            have hy3 := BY.out.c3
            by_cases hk0 : x.kids.length = 0
            · have HG : Hid (∃ S, CmpInv w W2 4194304 N S v4 w4 ∧ wP S < μ) := by
                obtain ⟨t1, t2, t3, t4, t5⟩ := HT.out
                have e1 : x.kids = [] := List.eq_nil_of_length_eq_zero hk0
                have e2 : y.kids = [] := List.eq_nil_of_length_eq_zero (by rw [← HEQ.out]; exact hk0)
                have e3 := HSTT.out
                have e4 := HK.out
                have e5 := HME.out
                have e6 := HMS.out
                refine ⟨_, ⟨?_, by omega, t3, t4, t5⟩, by omega⟩
                rw [t1, e3, e1, e2]
                rfl
              rw [hk0] at hx3
              clear HT HF0
              go_wp2_with fail
              go_roundw
              case rel =>
                obtain ⟨S, h1, h2⟩ := HG.out
                exact ⟨S, h1⟩
              case measure =>
                rw [HMU.out]
                obtain ⟨S, h1, h2⟩ := HG.out
                have h5 := (least_at (Q := fun z => ∃ S, CmpInv w W2 4194304 N S v4 w4 ∧ z = wP S) ⟨S, h1, rfl⟩).2 _ ⟨S, h1, rfl⟩
                omega
            · have hyk : y.kids.length ≠ 0 := by rw [← HEQ.out]; exact hk0
              have hx3' : w4.cell? ⟨gx, 3, none⟩ = some (.slice A' x.kids.length a') := hx3
              have HAP : Hid (∀ v' w4, w4.ownsRow W2.heap.size 66 2 v' (m + 1 + 1) (rowP S' ++ [.slice (some ⟨ad.block, ad.off + 4, none⟩) n (ca - 1), .slice (some ⟨bd.block, bd.off + 4, none⟩) n (cb - 1)] ++ [.slice A' x.kids.length a', .slice B' y.kids.length b']) → Lays W2 w4 → ∃ S, CmpInv w W2 4194304 N S v' w4 ∧ wP S < μ) := by
                intro v' w4 ho hl
                obtain ⟨t1, t2, t3, t4, t5⟩ := HT.out
                have e3 := HSTT.out
                have e4 := HK.out
                have e5 := HME.out
                have e6 := HMS.out
                have e7 : wP (((x.kids, .slice A' x.kids.length a'), (y.kids, .slice B' y.kids.length b')) :: ((xs, .slice (some ⟨ad.block, ad.off + 4, none⟩) n (ca - 1)), (ys, .slice (some ⟨bd.block, bd.off + 4, none⟩) n (cb - 1))) :: S') = 2 * sizesV x.kids + 1 + wP (((xs, .slice (some ⟨ad.block, ad.off + 4, none⟩) n (ca - 1)), (ys, .slice (some ⟨bd.block, bd.off + 4, none⟩) n (cb - 1))) :: S') := rfl
                refine ⟨((x.kids, .slice A' x.kids.length a'), (y.kids, .slice B' y.kids.length b')) :: ((xs, .slice (some ⟨ad.block, ad.off + 4, none⟩) n (ca - 1)), (ys, .slice (some ⟨bd.block, bd.off + 4, none⟩) n (cb - 1))) :: S', ⟨?_, by omega, fun p hp => ?_, ?_, hl⟩, by omega⟩
                · show orC (lexC cmpV x.kids y.kids) (cmpS (((xs, .slice (some ⟨ad.block, ad.off + 4, none⟩) n (ca - 1)), (ys, .slice (some ⟨bd.block, bd.off + 4, none⟩) n (cb - 1))) :: S')) = N
                  rw [t1, e3]
                  rfl
                · rcases List.mem_cons.1 hp with rfl | hp
                  · exact ⟨rva_prd HX0.out HL2.out.below, rva_prd HY0.out HL2.out.below, HEQ.out, by show 0 < x.kids.length; omega⟩
                  · exact t3 p hp
                · rw [rowP_cons]
                  simpa [HM.out, rowP_cons] using ho
              have HOW : Hid (w4.ownsRow W2.heap.size 66 2 v4 (m + 1) (rowP S' ++ [.slice (some ⟨ad.block, ad.off + 4, none⟩) n (ca - 1), .slice (some ⟨bd.block, bd.off + 4, none⟩) n (cb - 1)])) := HO4.out
              have HLW : Hid (Lays W2 w4) := HT.out.2.2.2.2
              have hwz := HT.out.2.2.2.2.below.size
              have hvb : ∀ q, Value.ownBlock v4 = some q → W2.heap.size ≤ q := fun q hq => (HOW.out.lt q hq).1
              have HVB := Lib.hid hvb
              obtain ⟨xk, hxk⟩ : ∃ k, x.kids.length = k := ⟨_, rfl⟩
              obtain ⟨yk, hyk'⟩ : ∃ k, y.kids.length = k := ⟨_, rfl⟩
              rw [hxk] at hx3 hk0 HAP
              rw [hyk'] at hy3 hyk HAP
              have hxk0 : 0 < xk := by omega
              clear HT hx3' hvb hxk hyk' HF0
              go_wp2_with (at_builtin; refine wpList_append_lays _ rfl _ _ 67 rfl W2.heap.size 66 i0 (.agg #[.slice none 0 0, .slice none 0 0]) 2 48 Try.underlying67 hi hz0 hz1 hz2 rfl (by decide) v4 (m + 1) (rowP S' ++ [.slice (some ⟨ad.block, ad.off + 4, none⟩) n (ca - 1), .slice (some ⟨bd.block, bd.off + 4, none⟩) n (cb - 1)]) rfl (HOW.out.alloc _) ⟨w4.heap.size, 0, none⟩ 1 1 [.slice A' xk a', .slice B' yk b'] rfl rfl (cell_two_new _ _ _ _) (by intro u hu; simp at hu; rcases hu with rfl | rfl <;> rfl) (by unfold maxLen; omega) (by omega) (by simp; omega) ?_; intro v4 w4 hown4 hg4 hd4)
              have HG := Lib.hid (HAP.out v4 w4 hown4 (((HLW.out).alloc _).grown hg4 hd4 HVB.out))
              clear hown4 hg4 hd4
              go_wp2_with fail
              go_roundw
              case rel =>
                obtain ⟨S, h1, h2⟩ := HG.out
                exact ⟨S, h1⟩
              case measure =>
                rw [HMU.out]
                obtain ⟨S, h1, h2⟩ := HG.out
                have h5 := (least_at (Q := fun m => ∃ S, CmpInv w W2 4194304 N S v4 w4 ∧ m = wP S) ⟨S, h1, rfl⟩).2 _ ⟨S, h1, rfl⟩
                omega
        · have HF : Hid (∀ wd, Lays wc wd → NumL N w (.returned (.int .i64 r)) wd) := by
            intro wd hd
            refine ⟨?_, HL2.out.trans (HL2C.out.trans hd)⟩
            rw [hst]
            unfold orC
            rw [if_neg h0]
          clear hst
          go_wp2_with fail
          refine HND.out.mono ?_
          rintro e wd ⟨rfl, hld⟩
          have HG := Lib.hid (HF.out wd hld)
          clear HF hld
          go_wp2_with fail
          go_ret
          exact HG.out
end Go.Proofs.Ytpcegakpdjmaaaa
