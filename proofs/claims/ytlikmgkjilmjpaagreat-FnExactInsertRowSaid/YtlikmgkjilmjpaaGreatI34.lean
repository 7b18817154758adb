/-
  Merged by program: PlcDd.
-/
import Derived.Test.YtlikmgkjilmjpaaGreatI19
import Derived.Test.YtlikmgkjilmjpaaGreatI33
import Derived.Test.YtlikmgkjilmjpaaGreatI11
import Derived.Test.YtlikmgkjilmjpaaGreatI9
import Derived.WalkSmall
import Derived.Shelf.Abstract
import Derived.LoopIn
import Derived.OwnWalkIn
import Derived.Maps.OwnIn
import Derived.Stop.RegionWithIn

/-
  The library's slices.Backward over tables, and the program's placesByName. Written by wip/tools/mkplc.py.
-/
namespace Go.Proofs.YtlikmgkjilmjpaaGreat
open Go.RowKit Go.Maps Go.Shelf

attribute [local go_sem] Oper.semAt_some

def FnAtBDd (p : Nat) (s : Value) (w : World) (e : Ending) (w' : World) : Prop := e = .returned (.func (.func 87) #[] #[.pointer (some ⟨p, 0, none⟩)]) ∧ w' = w.alloc (.cells #[s] 35)
theorem backwardDd_any (w : World) (A : Option Addr) (n c : Nat) : Calls Tryz.prog 74 #[.slice A n c] w (FnAtBDd w.heap.size (.slice A n c) w) := by
  have HR : Hid (FnAtBDd w.heap.size (.slice A n c) w (.returned (.func (.func 87) #[] #[.pointer (some ⟨w.heap.size, 0, none⟩)])) (w.alloc (.cells #[.slice A n c] 35))) := ⟨rfl, rfl⟩
  go_enter Tryz.func74, Tryz.ntmps74
  go_wp2_with fail
  go_ret
  exact HR.out
def NameAtDd (s : ByteArray) (o : Obj) (w : World) (e : Ending) (w' : World) : Prop := e = .returned (.string s) ∧ w' = w.alloc o
theorem nameDd_any (s : ByteArray) (c1 : Value) (w : World) : Calls Tryz.prog 56 #[.agg #[.string s, c1]] w (NameAtDd s (.cells #[.string s, c1] 66) w) := by
  have HR : Hid (NameAtDd s (.cells #[.string s, c1] 66) w (.returned (.string s)) (w.alloc (.cells #[.string s, c1] 66))) := ⟨rfl, rfl⟩
  go_enter Tryz.func56, Tryz.ntmps56
  go_wp2_with fail
  go_ret
  exact HR.out

/-- what the iterator gives: the elements from the last to the first, with their places -/
def BRdDd (t : Db) (w0 : World) (k : Nat) (v : Array Value) : Prop := ∃ (j : Nat) (h : j < t.length) (cs : List Value), j + 1 + k = t.length ∧ v = #[.int .i64 (j : Int), .agg cs.toArray] ∧ kDd.R w0 t[j] cs
theorem BRdDd.size {t : Db} {w0 : World} {k : Nat} {v : Array Value} (h : BRdDd t w0 k v) : v.size = 2 := by
  obtain ⟨j, hj, cs, _, rfl, _⟩ := h
  rfl

set_option maxRecDepth 100000 in
set_option maxHeartbeats 2000000 in
theorem backward1Dd_gives (t : Db) (w0 : World) (A : Option Addr) (c : Nat) (hp : RL kDd w0 A t) (hl : t.length ≤ 1048576) (n Bx : Nat) (hn : 2 ≤ n) (Keep : Nat → Prop) (hk0 : ∀ b, b < w0.heap.size → Keep b) (hkx : Keep Bx)
    (W : World) (hkW : ∀ b, Keep b → b < W.heap.size) (hw : Below w0.heap.size w0 W) (hbox : Boxed W Bx 35 (.slice A t.length c)) :
    GivesN Fence.wide n Tryz.prog 87 #[.pointer (some ⟨Bx, 0, none⟩)] t.length (BRdDd t w0) (fun _ => True) Keep W := by
  intro l J Jx hJ hJB hY h0
  have h1 : 1 ≤ n := by omega
  have x0 := hbox.cell
  refine callsIn_of_wp Tryz.func87 rfl trivial ?_ rfl
  simp only [Tryz.ntmps87, List.size_toArray, List.length_cons, List.length_nil, Nat.reduceAdd, Nat.reduceSub, Array.replicate_succ, Array.replicate_zero, List.push_toArray, List.append_toArray, List.nil_append, List.cons_append]
  have HP := Lib.hid hp
  have HJB := Lib.hid hJB
  have HY := Lib.hid hY
  have H0 := Lib.hid h0
  have HK0 := Lib.hid hk0
  have HKX := Lib.hid hkx
  have HKW := Lib.hid hkW
  have HW := Lib.hid hw
  have HBX := Lib.hid hbox
  obtain ⟨M, hM⟩ : ∃ M, t.length = M := ⟨_, rfl⟩
  rw [hM] at x0 hl ⊢
  clear hp hJ hJB hY h0 hk0 hkx hkW hw hbox
  gi_wp2
  gi_loopw [3] (fun i wr => ∃ (k : Nat) (F : Nat → Prop), k ≤ M ∧ i = .int .i64 ((M : Int) - 1 - (k : Int)) ∧ J k F wr ∧ Held Keep W wr) (fun i _ => (intOf i + 1).toNat)
  case atStart =>
    obtain ⟨F, hF⟩ := H0.out
    exact ⟨0, F, Nat.zero_le _, by go_num, hF, Held.refl _ _⟩
  case round =>
    obtain ⟨k, F, hk, rfl, hj, hheld⟩ := hrel
    clear x0
    by_cases hlt : k < M
    · obtain ⟨j, hjk⟩ : ∃ j, j + 1 + k = M := ⟨M - 1 - k, by omega⟩
      have hjl : j < t.length := by omega
      have e1 : (M : Int) - 1 - (k : Int) = (j : Int) := by omega
      rw [e1]
      have hbw : Below w0.heap.size w0 wr := HW.out.trans (hheld.below HW.out.size fun i hi => HK0.out i hi)
      obtain ⟨ad, p, c0, c1, rfl, hpe, hr, q0, q1⟩ := rl_at2 kDd_n HP.out hbw hjl
      have hr0 : ∃ cs, kDd.R w0 t[j] cs ∧ cs = [c0, c1] := by
        obtain ⟨ps, hp⟩ := HP.out
        obtain ⟨g1, ad', g2, g3⟩ := hp j t[j] (List.getElem?_eq_getElem hjl)
        refine ⟨ps j, g1, ?_⟩
        have hlen : (ps j).length = 2 := kDd.len g1
        injection g2 with g2
        subst g2
        have hc : ∀ i u, (ps j)[i]? = some u → wr.cell? (ad.add (j * 2 + i)) = some u := fun i u hi => (hbw.cell (World.block_lt_of_cell? w0 _ (g3 i u hi))).trans (g3 i u hi)
        match hps : ps j, hlen with
        | [z0, z1], _ =>
          rw [hps] at hc
          have d0 := hc 0 z0 rfl
          rw [Nat.add_zero, hpe, q0] at d0
          have d1 := hc 1 z1 rfl
          rw [addr_next ad (j * 2) 1 (by omega), hpe, q1] at d1
          injection d0 with d0
          injection d1 with d1
          rw [d0, d1]
      obtain ⟨cs0, hr0, rfl⟩ := hr0
      have HC := Lib.hid (HY.out k #[.int .i64 (j : Int), .agg [c0, c1].toArray] F wr (by omega) hj ⟨j, hjl, _, by omega, rfl, hr0⟩)
      have hx0 : Boxed wr Bx 35 (.slice (some ad) t.length c) := (hheld.block Bx (HKW.out _ HKX.out) HKX.out).trans HBX.out
      have x0 := hx0.cell
      rw [hM] at x0
      have HH := Lib.hid hheld
      have HKF := Lib.hid (fun b hb => (HJB.out k F wr hj b hb).1)
      obtain ⟨TA, ta, td, hcs, hs, hy⟩ := kDd_open hr
      simp only [List.cons.injEq, and_true] at hcs
      obtain ⟨rfl, rfl⟩ := hcs
      obtain ⟨fn, tmps, assign, body, hyd, hR⟩ := HC.out
      generalize t[j].1 = nm at *
      clear hr hr0 hs hy HC hheld hj hbw hx0
      gi_wp2
      refine hR.mono ?_
      rintro e W3 (⟨rfl, _, hh3, F', hF', hj3⟩ | ⟨rfl, hjx⟩)
      · have HJ3 := Lib.hid hj3
        have HH3 : Hid (Held Keep W W3) := Lib.hid (HH.out.trans (hh3.mono fun i _ hi hf => HKF.out i hf hi))
        clear hh3 hF' hj3 hR
        gi_wp2
        go_roundw
        case rel => exact ⟨k + 1, F', hlt, by go_num, HJ3.out, HH3.out⟩
        case measure => simp [intOf]
      · have HJX := Lib.hid hjx
        clear hjx hR
        gi_wp2
        refine bodyPost_ret (results_none rfl _ _ _) rfl ?_
        exact ⟨⟨_, rfl⟩, .inr HJX.out⟩
    · have he : k = M := by omega
      subst he
      have HJ0 := Lib.hid hj
      clear hj hheld
      gi_wp2
      go_end0
      exact ⟨⟨_, rfl⟩, .inl ⟨F, HJ0.out⟩⟩

/-- between two rounds of placesByName -/
def PlcIDd (ns : List ByteArray) (w : World) (H k : Nat) (F : Nat → Prop) (W : World) : Prop :=
  F = (fun q => q = H + 1) ∧ (∃ j, j + k = ns.length ∧ Plc W (H + 1) k ns j) ∧ Boxed W (H + 2) 103 (.map (some (H + 1))) ∧ Boxed W H 105 (.func (.func 56) #[] #[]) ∧ Below w.heap.size w W
theorem PlcIDd.keep {ns : List ByteArray} {w A C : World} {H k D : Nat} {F : Nat → Prop} (h : PlcIDd ns w H k F A) (hh : Held (fun i => i < D ∨ F i) A C) (hD : w.heap.size ≤ D) (hHD : H + 2 < D) : PlcIDd ns w H k F C := by
  obtain ⟨rfl, ⟨j, hj, h1⟩, h2, h3, h4⟩ := h
  exact ⟨rfl, ⟨j, hj, h1.at (hh.block _ h1.lt (.inr rfl))⟩, (hh.block _ h2.lt (.inl (by omega))).trans h2, (hh.block _ h3.lt (.inl (by omega))).trans h3, h4.trans (hh.below h4.size fun i hi => .inl (by omega))⟩
def AsgPDd (v : Array Value) (q : Nat) (W : World) : Prop := ∃ u cs, v = #[u, .agg cs] ∧ W.heap[q]? = some (.cells cs 66)
theorem AsgPDd.held {v : Array Value} {q : Nat} {A C : World} (h : AsgPDd v q A) (hh : Held (fun i => q ≤ i) A C) : AsgPDd v q C := by
  obtain ⟨u, cs, h1, h2⟩ := h
  exact ⟨u, cs, h1, (hh.block q (Array.getElem?_eq_some_iff.1 h2).1 (Nat.le_refl _)).trans h2⟩
set_option maxRecDepth 100000 in
set_option maxHeartbeats 4000000 in
theorem placesDd_any (t : Db) (w : World) (A : Option Addr) (c : Nat) (hp : RL kDd w A t) (hl : t.length ≤ 1048576) (hs : ∀ d ∈ t, d.1.size ≤ 1048576) : Calls Tryz.prog 55 #[.slice A t.length c, .func (.func 56) #[] #[]] w (PlcOf (t.map fun d => d.1) w) := by
  obtain ⟨ns, hns⟩ : ∃ ns, (t.map fun d => d.1) = ns := ⟨_, rfl⟩
  have hnl : ns.length = t.length := by rw [← hns]; simp
  have hmm := @run_makeMap Tryz.prog
  obtain ⟨H, hH⟩ : ∃ H, w.heap.size = H := ⟨_, rfl⟩
  obtain ⟨W1, hW1⟩ : ∃ W1, ((w.alloc (.cells #[.func (.func 56) #[] #[]] 105)).alloc (.map #[] 0)).alloc (.cells #[.map (some (H + 1))] 103) = W1 := ⟨_, rfl⟩
  obtain ⟨W3, hW3⟩ : ∃ W3, W1.alloc (.cells #[.slice A t.length c] 35) = W3 := ⟨_, rfl⟩
  have hz1 : W1.heap.size = H + 3 := by rw [← hW1, ← hH]; simp
  have hz3 : W3.heap.size = H + 4 := by rw [← hW3]; simp; omega
  have hb1 : Below w.heap.size w W1 := by rw [← hW1]; exact (((Below.refl _ _).alloc (Nat.le_refl _) _).alloc (by simp) _).alloc (by simp; omega) _
  have hb3 : Below W1.heap.size W1 W3 := by rw [← hW3]; exact (Below.refl _ _).alloc (Nat.le_refl _) _
  have hb13 := hb1.trans (hb3.mono hb1.size)
  have hxf : Boxed W1 H 105 (.func (.func 56) #[] #[]) := by rw [← hW1, ← hH]; exact ((Boxed.new w 105 (.func (.func 56) #[] #[])).alloc _).alloc _
  have hxm : Plc W1 (H + 1) 0 ns ns.length := by
    have h1 := Plc.made (w.alloc (.cells #[.func (.func 56) #[] #[]] 105)) ns
    have e : (w.alloc (.cells #[.func (.func 56) #[] #[]] 105)).heap.size = H + 1 := by rw [← hH]; simp
    rw [e] at h1
    refine h1.at ?_
    rw [← hW1]
    exact Below.heap_alloc _ _ _ h1.lt
  have hxv : Boxed W1 (H + 2) 103 (.map (some (H + 1))) := by
    rw [← hW1, ← hH]
    have := Boxed.new ((w.alloc (.cells #[.func (.func 56) #[] #[]] 105)).alloc (.map #[] 0)) 103 (.map (some (w.heap.size + 1)))
    rw [World.size_alloc, World.size_alloc] at this
    exact this
  have hyb : Boxed W3 (H + 3) 35 (.slice A t.length c) := by rw [← hW3, ← hz1]; exact Boxed.new W1 _ _
  have hI0 : PlcIDd ns w H 0 (fun q => q = H + 1) W3 := ⟨rfl, ⟨ns.length, by omega, hxm.at (hb3.block _ (by omega))⟩, (hb3.block _ (by omega)).trans hxv, (hb3.block _ (by omega)).trans hxf, hb13⟩
  obtain ⟨Keep, hKeep⟩ : ∃ Keep : Nat → Prop, Keep = fun q => q < w.heap.size ∨ q = H + 3 := ⟨_, rfl⟩
  have hkW : ∀ q, Keep q → q < W3.heap.size := by rw [hKeep]; rintro q (h | h) <;> omega
  have HG : Hid (∀ W, Below W3.heap.size W3 W → GivesN Fence.wide (9 - 1) Tryz.prog 87 #[.pointer (some ⟨H + 3, 0, none⟩)] t.length (BRdDd t w) (fun _ => True) Keep W) := Lib.hid (fun W hW =>
    backward1Dd_gives t w A c hp hl (9 - 1) (H + 3) (by decide) Keep (fun q hq => by rw [hKeep]; exact .inl hq) (by rw [hKeep]; exact .inr rfl) W (fun q hq => by have := hkW q hq; have := hW.size; omega) (hb13.trans (hW.mono hb13.size)) ((hW.block _ (by omega)).trans hyb))
  have HP := Lib.hid (backwardDd_any W1 A t.length c)
  have HKW := Lib.hid hkW
  have HKE := Lib.hid hKeep
  have HI0 := Lib.hid hI0
  have HW1 := Lib.hid hW1
  have HW3 := Lib.hid hW3
  have HZ1 := Lib.hid hz1
  have HZ3 := Lib.hid hz3
  have HH := Lib.hid hH
  have HNS := Lib.hid hns
  have HNL := Lib.hid hnl
  have HS := Lib.hid hs
  obtain ⟨M, hM⟩ : ∃ M, t.length = M := ⟨_, rfl⟩
  rw [hM] at HP HW3 HG ⊢
  have HM := Lib.hid hM
  clear hp hs hW1 hz1 hb1 hxf hxm hxv hyb hW3 hz3 hb3 hb13 hI0 hKeep hkW hH hns hnl hM
  rw [show (t.map fun d => d.1) = ns from HNS.out]
  refine (callsIn_wide (n := 9)).1 ?_
  refine callsIn_of_wp_marks Tryz.func55 rfl trivial ?_ rfl
  simp only [Tryz.ntmps55, List.size_toArray, List.length_cons, List.length_nil, Nat.reduceAdd, Nat.reduceSub, Array.replicate_succ, Array.replicate_zero, List.push_toArray, List.append_toArray, List.nil_append, List.cons_append]
  have hHz := HH.out
  gi_wp2_with (refine ⟨trivial, ?_⟩; gi_at_call 74; rw [HW1.out]; refine (callsIn_wide.2 HP.out).mono ?_; rintro e w3 ⟨rfl, hw3⟩; rw [HW3.out] at hw3; subst hw3; rw [HZ1.out])
  have hz3 := HZ3.out
  have hz1 := HZ1.out
  refine wpIn_givesA (n := 9) (w := w3) rfl (by decide) (gf := 87) (lb := #[.pointer (some ⟨H + 3, 0, none⟩)]) rfl trivial (enters_of Tryz.func87 (by kernel_rfl) rfl)
    (M := M) (Rd := BRdDd t w) (On := fun _ => True) (Keep := Keep) (fun _ _ h => h.size) HKW.out (fun W hW hz => HG.out W hW)
    (PlcIDd ns w H) (fun _ => False) (fun k F A C hi hh => hi.keep hh (by omega) (by omega)) (fun k F A hi q hq => ?bnd) (fun A C hx hh => hx) _ HI0.out
    (fun v q => { tmps := #[.slice A M c, .func (.func 56) #[] #[], undef, .pointer (some ⟨H, 0, none⟩), .map none, .pointer (some ⟨H + 2, 0, none⟩), v.getD 0 undef, .pointer (some ⟨q, 0, none⟩), .map (some (H + 1)), .slice A M c, .func (.func 87) #[] #[.pointer (some ⟨H + 3, 0, none⟩)], v.getD 0 undef, v.getD 1 undef, undef, undef, undef, undef, undef, undef], defers := [] }) AsgPDd (fun _ _ _ _ h hh => h.held hh) ?assign ?body ?done ?stop
  case bnd =>
    obtain ⟨rfl, ⟨j, _, h1⟩, _⟩ := hi
    have e : q = H + 1 := hq
    subst e
    rw [HKE.out]
    exact ⟨by omega, h1.lt⟩
  case assign =>
    rintro l k v W K ⟨j, hjl, cx, hjk, rfl, hr⟩ hK
    obtain ⟨TA, ta, td, rfl, _⟩ := kDd_open hr
    have hal : Below W.heap.size W (W.alloc (.cells #[.string t[j].1, .slice TA ta td] 66)) := (Below.refl _ _).alloc (Nat.le_refl _) _
    have HK := Lib.hid (hK _ ⟨_, _, rfl, World.alloc_heap_new W (.cells #[.string t[j].1, .slice TA ta td] 66)⟩ hal)
    generalize t[j].1 = nm at *
    clear hK hr hal
    gi_wp2
    simpa using HK.out
  case body =>
    rintro l k s F W q hk ⟨rfl, ⟨j', hj', h1⟩, h2, h3, h4⟩ ⟨j, hjl, cx, hjk, rfl, hr⟩ ⟨u, cs', eq1, hc1⟩ hq1 hq2 _ _ _
    have e2 : cx.toArray = cs' := by
      simp only [Array.mk.injEq, List.cons.injEq, Value.agg.injEq, and_true] at eq1
      exact eq1.2
    subst e2
    obtain ⟨TA, ta, td, rfl, _⟩ := kDd_open hr
    have bx : Box2 W q 66 (.string t[j].1) (.slice TA ta td) := hc1
    have hnl := HNL.out
    have hm := HM.out
    have hjn : j < ns.length := by omega
    have hnj : ns[j] = t[j].1 := by
      have : ns[j] = (t.map fun d => d.1)[j]'(by rw [HNS.out]; exact hjn) := by congr 1; exact HNS.out.symm
      rw [this, List.getElem_map]
    have hj1 : j' = j + 1 := by omega
    subst hj1
    have hsz : t[j].1.size ≤ 1048576 := HS.out _ (List.getElem_mem hjl)
    obtain ⟨W6, hW6⟩ : ∃ W6, (W.alloc (.cells #[.string t[j].1, .slice TA ta td] 66)).drew = W6 := ⟨_, rfl⟩
    have hb6 : Below W.heap.size W W6 := by rw [← hW6]; exact ((Below.refl _ _).alloc (Nat.le_refl _) _).drew
    obtain ⟨W7, hrun, hp7, hg7⟩ := (h1.at (hb6.block _ h1.lt)).step hjn (by omega) (by unfold maxLen; omega) hnj (by unfold maxLen; omega)
    rw [← hW6] at hrun
    have hne : ∀ i, i ≠ H + 1 → i < W.heap.size → W7.heap[i]? = W.heap[i]? := fun i hi hlt => (hg7.block i (by have := hb6.size; omega) (fun e => by injection e with e; exact hi e)).trans (hb6.block i hlt)
    have hs7 : W.heap.size ≤ W7.heap.size := Nat.le_trans hb6.size hg7.size
    have hheld : Held (fun i => i ≠ H + 1) W W7 := ⟨hg7.os.trans hb6.os, hg7.tape.trans hb6.tape, hg7.output.trans hb6.output, hs7, fun i hi hK => hne i hK hi⟩
    have HF : Hid (givesPostN (fun _ => True) (PlcIDd ns w H) (fun _ => False) k (fun q => q = H + 1) W .normal { tmps := #[], defers := [] } W7) := Lib.hid
      ⟨trivial, hheld, fun q => q = H + 1, fun b hb => .inl hb, rfl, ⟨j, by omega, hp7⟩, (hheld.block _ h2.lt (by omega)).trans h2, (hheld.block _ h3.lt (by omega)).trans h3, h4.trans (hheld.below h4.size fun i hi => by show i ≠ H + 1; omega)⟩
    have x0 := bx.c0
    have x1 := bx.c1
    have y0 := h2.cell
    have z0 := h3.cell
    have y1' : (W.alloc (.cells #[.string t[j].1, .slice TA ta td] 66)).cell? ⟨H + 2, 0, none⟩ = some (.map (some (H + 1))) := (((Below.refl _ _).alloc (Nat.le_refl _) _ : Below W.heap.size W _).cell h2.lt).trans y0
    generalize t[j].1 = nm at *
    clear h1 h2 h3 h4 hr eq1 hc1 bx hnj hjn hsz hW6 hb6 hp7 hg7 hne hheld hs7 hjk hj' hmm
    gi_wp2
    refine wpIn_region_any (by kernel_rfl) ?_
    change wpAnyIn _ _ _ _ _ _ _ _ _ (World.drew _)
    refine wpAnyIn_ready (rs := [0, 1, 2, 4]) (by kernel_rfl) (by simp) ?_
    refine AllReadyIn.cons rfl (fun K hK => ?_) ?_
    · (go_simp; refine hK _ _ ?_; clear hK K)
      refine wpAnyIn_ready (rs := [1, 2, 4]) (by kernel_rfl) (by simp) ?_
      refine AllReadyIn.cons rfl (fun K hK => ?_) ?_
      · (go_simp; refine hK _ _ ?_; clear hK K)
        refine wpAnyIn_ready (rs := [2, 4]) (by kernel_rfl) (by simp) ?_
        refine AllReadyIn.cons rfl (fun K hK => ?_) ?_
        · (go_simp; refine hK _ _ ?_; clear hK K)
          refine wpAnyIn_ready (rs := [3, 4]) (by kernel_rfl) (by simp) ?_
          refine AllReadyIn.cons rfl (fun K hK => ?_) ?_
          · (go_simp; refine ⟨trivial, ?_⟩; gi_at_call 56; refine (CallsIn.inRound l (callsIn_wide.2 (nameDd_any _ _ _))).mono ?_; rintro e w8 ⟨rfl, rfl⟩; refine hK _ _ ?_; clear hK K)
            refine wpAnyIn_ready (rs := [4]) (by kernel_rfl) (by simp) ?_
            refine AllReadyIn.cons rfl (fun K hK => ?_) AllReadyIn.nil
            (go_simp; refine hK _ _ ?_; clear hK K)
            refine wpAnyIn_ready (rs := [5]) (by kernel_rfl) (by simp) ?_
            refine AllReadyIn.cons rfl (fun K hK => ?_) AllReadyIn.nil
            (go_simp; refine hK _ _ ?_; clear hK K)
            refine wpAnyIn_done (by kernel_rfl) ?_ _
            exact HF.out
          refine AllReadyIn.cons rfl (fun K hK => ?_) AllReadyIn.nil
          (go_simp; refine hK _ _ ?_; clear hK K)
          refine wpAnyIn_ready (rs := [3]) (by kernel_rfl) (by simp) ?_
          refine AllReadyIn.cons rfl (fun K hK => ?_) AllReadyIn.nil
          (go_simp; refine ⟨trivial, ?_⟩; gi_at_call 56; refine (CallsIn.inRound l (callsIn_wide.2 (nameDd_any _ _ _))).mono ?_; rintro e w8 ⟨rfl, rfl⟩; refine hK _ _ ?_; clear hK K)
          refine wpAnyIn_ready (rs := [5]) (by kernel_rfl) (by simp) ?_
          refine AllReadyIn.cons rfl (fun K hK => ?_) AllReadyIn.nil
          (go_simp; refine hK _ _ ?_; clear hK K)
          refine wpAnyIn_done (by kernel_rfl) ?_ _
          exact HF.out
        refine AllReadyIn.cons rfl (fun K hK => ?_) AllReadyIn.nil
        (go_simp; refine hK _ _ ?_; clear hK K)
        refine wpAnyIn_ready (rs := [2]) (by kernel_rfl) (by simp) ?_
        refine AllReadyIn.cons rfl (fun K hK => ?_) AllReadyIn.nil
        (go_simp; refine hK _ _ ?_; clear hK K)
        refine wpAnyIn_ready (rs := [3]) (by kernel_rfl) (by simp) ?_
        refine AllReadyIn.cons rfl (fun K hK => ?_) AllReadyIn.nil
        (go_simp; refine ⟨trivial, ?_⟩; gi_at_call 56; refine (CallsIn.inRound l (callsIn_wide.2 (nameDd_any _ _ _))).mono ?_; rintro e w8 ⟨rfl, rfl⟩; refine hK _ _ ?_; clear hK K)
        refine wpAnyIn_ready (rs := [5]) (by kernel_rfl) (by simp) ?_
        refine AllReadyIn.cons rfl (fun K hK => ?_) AllReadyIn.nil
        (go_simp; refine hK _ _ ?_; clear hK K)
        refine wpAnyIn_done (by kernel_rfl) ?_ _
        exact HF.out
      refine AllReadyIn.cons rfl (fun K hK => ?_) ?_
      · (go_simp; refine hK _ _ ?_; clear hK K)
        refine wpAnyIn_ready (rs := [1, 4]) (by kernel_rfl) (by simp) ?_
        refine AllReadyIn.cons rfl (fun K hK => ?_) ?_
        · (go_simp; refine hK _ _ ?_; clear hK K)
          refine wpAnyIn_ready (rs := [3, 4]) (by kernel_rfl) (by simp) ?_
          refine AllReadyIn.cons rfl (fun K hK => ?_) ?_
          · (go_simp; refine ⟨trivial, ?_⟩; gi_at_call 56; refine (CallsIn.inRound l (callsIn_wide.2 (nameDd_any _ _ _))).mono ?_; rintro e w8 ⟨rfl, rfl⟩; refine hK _ _ ?_; clear hK K)
            refine wpAnyIn_ready (rs := [4]) (by kernel_rfl) (by simp) ?_
            refine AllReadyIn.cons rfl (fun K hK => ?_) AllReadyIn.nil
            (go_simp; refine hK _ _ ?_; clear hK K)
            refine wpAnyIn_ready (rs := [5]) (by kernel_rfl) (by simp) ?_
            refine AllReadyIn.cons rfl (fun K hK => ?_) AllReadyIn.nil
            (go_simp; refine hK _ _ ?_; clear hK K)
            refine wpAnyIn_done (by kernel_rfl) ?_ _
            exact HF.out
          refine AllReadyIn.cons rfl (fun K hK => ?_) AllReadyIn.nil
          (go_simp; refine hK _ _ ?_; clear hK K)
          refine wpAnyIn_ready (rs := [3]) (by kernel_rfl) (by simp) ?_
          refine AllReadyIn.cons rfl (fun K hK => ?_) AllReadyIn.nil
          (go_simp; refine ⟨trivial, ?_⟩; gi_at_call 56; refine (CallsIn.inRound l (callsIn_wide.2 (nameDd_any _ _ _))).mono ?_; rintro e w8 ⟨rfl, rfl⟩; refine hK _ _ ?_; clear hK K)
          refine wpAnyIn_ready (rs := [5]) (by kernel_rfl) (by simp) ?_
          refine AllReadyIn.cons rfl (fun K hK => ?_) AllReadyIn.nil
          (go_simp; refine hK _ _ ?_; clear hK K)
          refine wpAnyIn_done (by kernel_rfl) ?_ _
          exact HF.out
        refine AllReadyIn.cons rfl (fun K hK => ?_) AllReadyIn.nil
        (go_simp; refine hK _ _ ?_; clear hK K)
        refine wpAnyIn_ready (rs := [1]) (by kernel_rfl) (by simp) ?_
        refine AllReadyIn.cons rfl (fun K hK => ?_) AllReadyIn.nil
        (go_simp; refine hK _ _ ?_; clear hK K)
        refine wpAnyIn_ready (rs := [3]) (by kernel_rfl) (by simp) ?_
        refine AllReadyIn.cons rfl (fun K hK => ?_) AllReadyIn.nil
        (go_simp; refine ⟨trivial, ?_⟩; gi_at_call 56; refine (CallsIn.inRound l (callsIn_wide.2 (nameDd_any _ _ _))).mono ?_; rintro e w8 ⟨rfl, rfl⟩; refine hK _ _ ?_; clear hK K)
        refine wpAnyIn_ready (rs := [5]) (by kernel_rfl) (by simp) ?_
        refine AllReadyIn.cons rfl (fun K hK => ?_) AllReadyIn.nil
        (go_simp; refine hK _ _ ?_; clear hK K)
        refine wpAnyIn_done (by kernel_rfl) ?_ _
        exact HF.out
      refine AllReadyIn.cons rfl (fun K hK => ?_) AllReadyIn.nil
      (go_simp; refine hK _ _ ?_; clear hK K)
      refine wpAnyIn_ready (rs := [1, 2]) (by kernel_rfl) (by simp) ?_
      refine AllReadyIn.cons rfl (fun K hK => ?_) ?_
      · (go_simp; refine hK _ _ ?_; clear hK K)
        refine wpAnyIn_ready (rs := [2]) (by kernel_rfl) (by simp) ?_
        refine AllReadyIn.cons rfl (fun K hK => ?_) AllReadyIn.nil
        (go_simp; refine hK _ _ ?_; clear hK K)
        refine wpAnyIn_ready (rs := [3]) (by kernel_rfl) (by simp) ?_
        refine AllReadyIn.cons rfl (fun K hK => ?_) AllReadyIn.nil
        (go_simp; refine ⟨trivial, ?_⟩; gi_at_call 56; refine (CallsIn.inRound l (callsIn_wide.2 (nameDd_any _ _ _))).mono ?_; rintro e w8 ⟨rfl, rfl⟩; refine hK _ _ ?_; clear hK K)
        refine wpAnyIn_ready (rs := [5]) (by kernel_rfl) (by simp) ?_
        refine AllReadyIn.cons rfl (fun K hK => ?_) AllReadyIn.nil
        (go_simp; refine hK _ _ ?_; clear hK K)
        refine wpAnyIn_done (by kernel_rfl) ?_ _
        exact HF.out
      refine AllReadyIn.cons rfl (fun K hK => ?_) AllReadyIn.nil
      (go_simp; refine hK _ _ ?_; clear hK K)
      refine wpAnyIn_ready (rs := [1]) (by kernel_rfl) (by simp) ?_
      refine AllReadyIn.cons rfl (fun K hK => ?_) AllReadyIn.nil
      (go_simp; refine hK _ _ ?_; clear hK K)
      refine wpAnyIn_ready (rs := [3]) (by kernel_rfl) (by simp) ?_
      refine AllReadyIn.cons rfl (fun K hK => ?_) AllReadyIn.nil
      (go_simp; refine ⟨trivial, ?_⟩; gi_at_call 56; refine (CallsIn.inRound l (callsIn_wide.2 (nameDd_any _ _ _))).mono ?_; rintro e w8 ⟨rfl, rfl⟩; refine hK _ _ ?_; clear hK K)
      refine wpAnyIn_ready (rs := [5]) (by kernel_rfl) (by simp) ?_
      refine AllReadyIn.cons rfl (fun K hK => ?_) AllReadyIn.nil
      (go_simp; refine hK _ _ ?_; clear hK K)
      refine wpAnyIn_done (by kernel_rfl) ?_ _
      exact HF.out
    refine AllReadyIn.cons rfl (fun K hK => ?_) ?_
    · (go_simp; refine hK _ _ ?_; clear hK K)
      refine wpAnyIn_ready (rs := [0, 2, 4]) (by kernel_rfl) (by simp) ?_
      refine AllReadyIn.cons rfl (fun K hK => ?_) ?_
      · (go_simp; refine hK _ _ ?_; clear hK K)
        refine wpAnyIn_ready (rs := [2, 4]) (by kernel_rfl) (by simp) ?_
        refine AllReadyIn.cons rfl (fun K hK => ?_) ?_
        · (go_simp; refine hK _ _ ?_; clear hK K)
          refine wpAnyIn_ready (rs := [3, 4]) (by kernel_rfl) (by simp) ?_
          refine AllReadyIn.cons rfl (fun K hK => ?_) ?_
          · (go_simp; refine ⟨trivial, ?_⟩; gi_at_call 56; refine (CallsIn.inRound l (callsIn_wide.2 (nameDd_any _ _ _))).mono ?_; rintro e w8 ⟨rfl, rfl⟩; refine hK _ _ ?_; clear hK K)
            refine wpAnyIn_ready (rs := [4]) (by kernel_rfl) (by simp) ?_
            refine AllReadyIn.cons rfl (fun K hK => ?_) AllReadyIn.nil
            (go_simp; refine hK _ _ ?_; clear hK K)
            refine wpAnyIn_ready (rs := [5]) (by kernel_rfl) (by simp) ?_
            refine AllReadyIn.cons rfl (fun K hK => ?_) AllReadyIn.nil
            (go_simp; refine hK _ _ ?_; clear hK K)
            refine wpAnyIn_done (by kernel_rfl) ?_ _
            exact HF.out
          refine AllReadyIn.cons rfl (fun K hK => ?_) AllReadyIn.nil
          (go_simp; refine hK _ _ ?_; clear hK K)
          refine wpAnyIn_ready (rs := [3]) (by kernel_rfl) (by simp) ?_
          refine AllReadyIn.cons rfl (fun K hK => ?_) AllReadyIn.nil
          (go_simp; refine ⟨trivial, ?_⟩; gi_at_call 56; refine (CallsIn.inRound l (callsIn_wide.2 (nameDd_any _ _ _))).mono ?_; rintro e w8 ⟨rfl, rfl⟩; refine hK _ _ ?_; clear hK K)
          refine wpAnyIn_ready (rs := [5]) (by kernel_rfl) (by simp) ?_
          refine AllReadyIn.cons rfl (fun K hK => ?_) AllReadyIn.nil
          (go_simp; refine hK _ _ ?_; clear hK K)
          refine wpAnyIn_done (by kernel_rfl) ?_ _
          exact HF.out
        refine AllReadyIn.cons rfl (fun K hK => ?_) AllReadyIn.nil
        (go_simp; refine hK _ _ ?_; clear hK K)
        refine wpAnyIn_ready (rs := [2]) (by kernel_rfl) (by simp) ?_
        refine AllReadyIn.cons rfl (fun K hK => ?_) AllReadyIn.nil
        (go_simp; refine hK _ _ ?_; clear hK K)
        refine wpAnyIn_ready (rs := [3]) (by kernel_rfl) (by simp) ?_
        refine AllReadyIn.cons rfl (fun K hK => ?_) AllReadyIn.nil
        (go_simp; refine ⟨trivial, ?_⟩; gi_at_call 56; refine (CallsIn.inRound l (callsIn_wide.2 (nameDd_any _ _ _))).mono ?_; rintro e w8 ⟨rfl, rfl⟩; refine hK _ _ ?_; clear hK K)
        refine wpAnyIn_ready (rs := [5]) (by kernel_rfl) (by simp) ?_
        refine AllReadyIn.cons rfl (fun K hK => ?_) AllReadyIn.nil
        (go_simp; refine hK _ _ ?_; clear hK K)
        refine wpAnyIn_done (by kernel_rfl) ?_ _
        exact HF.out
      refine AllReadyIn.cons rfl (fun K hK => ?_) ?_
      · (go_simp; refine hK _ _ ?_; clear hK K)
        refine wpAnyIn_ready (rs := [0, 3, 4]) (by kernel_rfl) (by simp) ?_
        refine AllReadyIn.cons rfl (fun K hK => ?_) ?_
        · (go_simp; refine hK _ _ ?_; clear hK K)
          refine wpAnyIn_ready (rs := [3, 4]) (by kernel_rfl) (by simp) ?_
          refine AllReadyIn.cons rfl (fun K hK => ?_) ?_
          · (go_simp; refine ⟨trivial, ?_⟩; gi_at_call 56; refine (CallsIn.inRound l (callsIn_wide.2 (nameDd_any _ _ _))).mono ?_; rintro e w8 ⟨rfl, rfl⟩; refine hK _ _ ?_; clear hK K)
            refine wpAnyIn_ready (rs := [4]) (by kernel_rfl) (by simp) ?_
            refine AllReadyIn.cons rfl (fun K hK => ?_) AllReadyIn.nil
            (go_simp; refine hK _ _ ?_; clear hK K)
            refine wpAnyIn_ready (rs := [5]) (by kernel_rfl) (by simp) ?_
            refine AllReadyIn.cons rfl (fun K hK => ?_) AllReadyIn.nil
            (go_simp; refine hK _ _ ?_; clear hK K)
            refine wpAnyIn_done (by kernel_rfl) ?_ _
            exact HF.out
          refine AllReadyIn.cons rfl (fun K hK => ?_) AllReadyIn.nil
          (go_simp; refine hK _ _ ?_; clear hK K)
          refine wpAnyIn_ready (rs := [3]) (by kernel_rfl) (by simp) ?_
          refine AllReadyIn.cons rfl (fun K hK => ?_) AllReadyIn.nil
          (go_simp; refine ⟨trivial, ?_⟩; gi_at_call 56; refine (CallsIn.inRound l (callsIn_wide.2 (nameDd_any _ _ _))).mono ?_; rintro e w8 ⟨rfl, rfl⟩; refine hK _ _ ?_; clear hK K)
          refine wpAnyIn_ready (rs := [5]) (by kernel_rfl) (by simp) ?_
          refine AllReadyIn.cons rfl (fun K hK => ?_) AllReadyIn.nil
          (go_simp; refine hK _ _ ?_; clear hK K)
          refine wpAnyIn_done (by kernel_rfl) ?_ _
          exact HF.out
        refine AllReadyIn.cons rfl (fun K hK => ?_) ?_
        · (go_simp; refine ⟨trivial, ?_⟩; gi_at_call 56; refine (CallsIn.inRound l (callsIn_wide.2 (nameDd_any _ _ _))).mono ?_; rintro e w8 ⟨rfl, rfl⟩; refine hK _ _ ?_; clear hK K)
          refine wpAnyIn_ready (rs := [0, 4]) (by kernel_rfl) (by simp) ?_
          refine AllReadyIn.cons rfl (fun K hK => ?_) ?_
          · (go_simp; refine hK _ _ ?_; clear hK K)
            refine wpAnyIn_ready (rs := [4]) (by kernel_rfl) (by simp) ?_
            refine AllReadyIn.cons rfl (fun K hK => ?_) AllReadyIn.nil
            (go_simp; refine hK _ _ ?_; clear hK K)
            refine wpAnyIn_ready (rs := [5]) (by kernel_rfl) (by simp) ?_
            refine AllReadyIn.cons rfl (fun K hK => ?_) AllReadyIn.nil
            (go_simp; refine hK _ _ ?_; clear hK K)
            refine wpAnyIn_done (by kernel_rfl) ?_ _
            exact HF.out
          refine AllReadyIn.cons rfl (fun K hK => ?_) AllReadyIn.nil
          (go_simp; refine hK _ _ ?_; clear hK K)
          refine wpAnyIn_ready (rs := [0]) (by kernel_rfl) (by simp) ?_
          refine AllReadyIn.cons rfl (fun K hK => ?_) AllReadyIn.nil
          (go_simp; refine hK _ _ ?_; clear hK K)
          refine wpAnyIn_ready (rs := [5]) (by kernel_rfl) (by simp) ?_
          refine AllReadyIn.cons rfl (fun K hK => ?_) AllReadyIn.nil
          (go_simp; refine hK _ _ ?_; clear hK K)
          refine wpAnyIn_done (by kernel_rfl) ?_ _
          exact HF.out
        refine AllReadyIn.cons rfl (fun K hK => ?_) AllReadyIn.nil
        (go_simp; refine hK _ _ ?_; clear hK K)
        refine wpAnyIn_ready (rs := [0, 3]) (by kernel_rfl) (by simp) ?_
        refine AllReadyIn.cons rfl (fun K hK => ?_) ?_
        · (go_simp; refine hK _ _ ?_; clear hK K)
          refine wpAnyIn_ready (rs := [3]) (by kernel_rfl) (by simp) ?_
          refine AllReadyIn.cons rfl (fun K hK => ?_) AllReadyIn.nil
          (go_simp; refine ⟨trivial, ?_⟩; gi_at_call 56; refine (CallsIn.inRound l (callsIn_wide.2 (nameDd_any _ _ _))).mono ?_; rintro e w8 ⟨rfl, rfl⟩; refine hK _ _ ?_; clear hK K)
          refine wpAnyIn_ready (rs := [5]) (by kernel_rfl) (by simp) ?_
          refine AllReadyIn.cons rfl (fun K hK => ?_) AllReadyIn.nil
          (go_simp; refine hK _ _ ?_; clear hK K)
          refine wpAnyIn_done (by kernel_rfl) ?_ _
          exact HF.out
        refine AllReadyIn.cons rfl (fun K hK => ?_) AllReadyIn.nil
        (go_simp; refine ⟨trivial, ?_⟩; gi_at_call 56; refine (CallsIn.inRound l (callsIn_wide.2 (nameDd_any _ _ _))).mono ?_; rintro e w8 ⟨rfl, rfl⟩; refine hK _ _ ?_; clear hK K)
        refine wpAnyIn_ready (rs := [0]) (by kernel_rfl) (by simp) ?_
        refine AllReadyIn.cons rfl (fun K hK => ?_) AllReadyIn.nil
        (go_simp; refine hK _ _ ?_; clear hK K)
        refine wpAnyIn_ready (rs := [5]) (by kernel_rfl) (by simp) ?_
        refine AllReadyIn.cons rfl (fun K hK => ?_) AllReadyIn.nil
        (go_simp; refine hK _ _ ?_; clear hK K)
        refine wpAnyIn_done (by kernel_rfl) ?_ _
        exact HF.out
      refine AllReadyIn.cons rfl (fun K hK => ?_) AllReadyIn.nil
      (go_simp; refine hK _ _ ?_; clear hK K)
      refine wpAnyIn_ready (rs := [0, 2]) (by kernel_rfl) (by simp) ?_
      refine AllReadyIn.cons rfl (fun K hK => ?_) ?_
      · (go_simp; refine hK _ _ ?_; clear hK K)
        refine wpAnyIn_ready (rs := [2]) (by kernel_rfl) (by simp) ?_
        refine AllReadyIn.cons rfl (fun K hK => ?_) AllReadyIn.nil
        (go_simp; refine hK _ _ ?_; clear hK K)
        refine wpAnyIn_ready (rs := [3]) (by kernel_rfl) (by simp) ?_
        refine AllReadyIn.cons rfl (fun K hK => ?_) AllReadyIn.nil
        (go_simp; refine ⟨trivial, ?_⟩; gi_at_call 56; refine (CallsIn.inRound l (callsIn_wide.2 (nameDd_any _ _ _))).mono ?_; rintro e w8 ⟨rfl, rfl⟩; refine hK _ _ ?_; clear hK K)
        refine wpAnyIn_ready (rs := [5]) (by kernel_rfl) (by simp) ?_
        refine AllReadyIn.cons rfl (fun K hK => ?_) AllReadyIn.nil
        (go_simp; refine hK _ _ ?_; clear hK K)
        refine wpAnyIn_done (by kernel_rfl) ?_ _
        exact HF.out
      refine AllReadyIn.cons rfl (fun K hK => ?_) AllReadyIn.nil
      (go_simp; refine hK _ _ ?_; clear hK K)
      refine wpAnyIn_ready (rs := [0, 3]) (by kernel_rfl) (by simp) ?_
      refine AllReadyIn.cons rfl (fun K hK => ?_) ?_
      · (go_simp; refine hK _ _ ?_; clear hK K)
        refine wpAnyIn_ready (rs := [3]) (by kernel_rfl) (by simp) ?_
        refine AllReadyIn.cons rfl (fun K hK => ?_) AllReadyIn.nil
        (go_simp; refine ⟨trivial, ?_⟩; gi_at_call 56; refine (CallsIn.inRound l (callsIn_wide.2 (nameDd_any _ _ _))).mono ?_; rintro e w8 ⟨rfl, rfl⟩; refine hK _ _ ?_; clear hK K)
        refine wpAnyIn_ready (rs := [5]) (by kernel_rfl) (by simp) ?_
        refine AllReadyIn.cons rfl (fun K hK => ?_) AllReadyIn.nil
        (go_simp; refine hK _ _ ?_; clear hK K)
        refine wpAnyIn_done (by kernel_rfl) ?_ _
        exact HF.out
      refine AllReadyIn.cons rfl (fun K hK => ?_) AllReadyIn.nil
      (go_simp; refine ⟨trivial, ?_⟩; gi_at_call 56; refine (CallsIn.inRound l (callsIn_wide.2 (nameDd_any _ _ _))).mono ?_; rintro e w8 ⟨rfl, rfl⟩; refine hK _ _ ?_; clear hK K)
      refine wpAnyIn_ready (rs := [0]) (by kernel_rfl) (by simp) ?_
      refine AllReadyIn.cons rfl (fun K hK => ?_) AllReadyIn.nil
      (go_simp; refine hK _ _ ?_; clear hK K)
      refine wpAnyIn_ready (rs := [5]) (by kernel_rfl) (by simp) ?_
      refine AllReadyIn.cons rfl (fun K hK => ?_) AllReadyIn.nil
      (go_simp; refine hK _ _ ?_; clear hK K)
      refine wpAnyIn_done (by kernel_rfl) ?_ _
      exact HF.out
    refine AllReadyIn.cons rfl (fun K hK => ?_) ?_
    · (go_simp; refine hK _ _ ?_; clear hK K)
      refine wpAnyIn_ready (rs := [0, 1, 4]) (by kernel_rfl) (by simp) ?_
      refine AllReadyIn.cons rfl (fun K hK => ?_) ?_
      · (go_simp; refine hK _ _ ?_; clear hK K)
        refine wpAnyIn_ready (rs := [1, 4]) (by kernel_rfl) (by simp) ?_
        refine AllReadyIn.cons rfl (fun K hK => ?_) ?_
        · (go_simp; refine hK _ _ ?_; clear hK K)
          refine wpAnyIn_ready (rs := [3, 4]) (by kernel_rfl) (by simp) ?_
          refine AllReadyIn.cons rfl (fun K hK => ?_) ?_
          · (go_simp; refine ⟨trivial, ?_⟩; gi_at_call 56; refine (CallsIn.inRound l (callsIn_wide.2 (nameDd_any _ _ _))).mono ?_; rintro e w8 ⟨rfl, rfl⟩; refine hK _ _ ?_; clear hK K)
            refine wpAnyIn_ready (rs := [4]) (by kernel_rfl) (by simp) ?_
            refine AllReadyIn.cons rfl (fun K hK => ?_) AllReadyIn.nil
            (go_simp; refine hK _ _ ?_; clear hK K)
            refine wpAnyIn_ready (rs := [5]) (by kernel_rfl) (by simp) ?_
            refine AllReadyIn.cons rfl (fun K hK => ?_) AllReadyIn.nil
            (go_simp; refine hK _ _ ?_; clear hK K)
            refine wpAnyIn_done (by kernel_rfl) ?_ _
            exact HF.out
          refine AllReadyIn.cons rfl (fun K hK => ?_) AllReadyIn.nil
          (go_simp; refine hK _ _ ?_; clear hK K)
          refine wpAnyIn_ready (rs := [3]) (by kernel_rfl) (by simp) ?_
          refine AllReadyIn.cons rfl (fun K hK => ?_) AllReadyIn.nil
          (go_simp; refine ⟨trivial, ?_⟩; gi_at_call 56; refine (CallsIn.inRound l (callsIn_wide.2 (nameDd_any _ _ _))).mono ?_; rintro e w8 ⟨rfl, rfl⟩; refine hK _ _ ?_; clear hK K)
          refine wpAnyIn_ready (rs := [5]) (by kernel_rfl) (by simp) ?_
          refine AllReadyIn.cons rfl (fun K hK => ?_) AllReadyIn.nil
          (go_simp; refine hK _ _ ?_; clear hK K)
          refine wpAnyIn_done (by kernel_rfl) ?_ _
          exact HF.out
        refine AllReadyIn.cons rfl (fun K hK => ?_) AllReadyIn.nil
        (go_simp; refine hK _ _ ?_; clear hK K)
        refine wpAnyIn_ready (rs := [1]) (by kernel_rfl) (by simp) ?_
        refine AllReadyIn.cons rfl (fun K hK => ?_) AllReadyIn.nil
        (go_simp; refine hK _ _ ?_; clear hK K)
        refine wpAnyIn_ready (rs := [3]) (by kernel_rfl) (by simp) ?_
        refine AllReadyIn.cons rfl (fun K hK => ?_) AllReadyIn.nil
        (go_simp; refine ⟨trivial, ?_⟩; gi_at_call 56; refine (CallsIn.inRound l (callsIn_wide.2 (nameDd_any _ _ _))).mono ?_; rintro e w8 ⟨rfl, rfl⟩; refine hK _ _ ?_; clear hK K)
        refine wpAnyIn_ready (rs := [5]) (by kernel_rfl) (by simp) ?_
        refine AllReadyIn.cons rfl (fun K hK => ?_) AllReadyIn.nil
        (go_simp; refine hK _ _ ?_; clear hK K)
        refine wpAnyIn_done (by kernel_rfl) ?_ _
        exact HF.out
      refine AllReadyIn.cons rfl (fun K hK => ?_) ?_
      · (go_simp; refine hK _ _ ?_; clear hK K)
        refine wpAnyIn_ready (rs := [0, 3, 4]) (by kernel_rfl) (by simp) ?_
        refine AllReadyIn.cons rfl (fun K hK => ?_) ?_
        · (go_simp; refine hK _ _ ?_; clear hK K)
          refine wpAnyIn_ready (rs := [3, 4]) (by kernel_rfl) (by simp) ?_
          refine AllReadyIn.cons rfl (fun K hK => ?_) ?_
          · (go_simp; refine ⟨trivial, ?_⟩; gi_at_call 56; refine (CallsIn.inRound l (callsIn_wide.2 (nameDd_any _ _ _))).mono ?_; rintro e w8 ⟨rfl, rfl⟩; refine hK _ _ ?_; clear hK K)
            refine wpAnyIn_ready (rs := [4]) (by kernel_rfl) (by simp) ?_
            refine AllReadyIn.cons rfl (fun K hK => ?_) AllReadyIn.nil
            (go_simp; refine hK _ _ ?_; clear hK K)
            refine wpAnyIn_ready (rs := [5]) (by kernel_rfl) (by simp) ?_
            refine AllReadyIn.cons rfl (fun K hK => ?_) AllReadyIn.nil
            (go_simp; refine hK _ _ ?_; clear hK K)
            refine wpAnyIn_done (by kernel_rfl) ?_ _
            exact HF.out
          refine AllReadyIn.cons rfl (fun K hK => ?_) AllReadyIn.nil
          (go_simp; refine hK _ _ ?_; clear hK K)
          refine wpAnyIn_ready (rs := [3]) (by kernel_rfl) (by simp) ?_
          refine AllReadyIn.cons rfl (fun K hK => ?_) AllReadyIn.nil
          (go_simp; refine ⟨trivial, ?_⟩; gi_at_call 56; refine (CallsIn.inRound l (callsIn_wide.2 (nameDd_any _ _ _))).mono ?_; rintro e w8 ⟨rfl, rfl⟩; refine hK _ _ ?_; clear hK K)
          refine wpAnyIn_ready (rs := [5]) (by kernel_rfl) (by simp) ?_
          refine AllReadyIn.cons rfl (fun K hK => ?_) AllReadyIn.nil
          (go_simp; refine hK _ _ ?_; clear hK K)
          refine wpAnyIn_done (by kernel_rfl) ?_ _
          exact HF.out
        refine AllReadyIn.cons rfl (fun K hK => ?_) ?_
        · (go_simp; refine ⟨trivial, ?_⟩; gi_at_call 56; refine (CallsIn.inRound l (callsIn_wide.2 (nameDd_any _ _ _))).mono ?_; rintro e w8 ⟨rfl, rfl⟩; refine hK _ _ ?_; clear hK K)
          refine wpAnyIn_ready (rs := [0, 4]) (by kernel_rfl) (by simp) ?_
          refine AllReadyIn.cons rfl (fun K hK => ?_) ?_
          · (go_simp; refine hK _ _ ?_; clear hK K)
            refine wpAnyIn_ready (rs := [4]) (by kernel_rfl) (by simp) ?_
            refine AllReadyIn.cons rfl (fun K hK => ?_) AllReadyIn.nil
            (go_simp; refine hK _ _ ?_; clear hK K)
            refine wpAnyIn_ready (rs := [5]) (by kernel_rfl) (by simp) ?_
            refine AllReadyIn.cons rfl (fun K hK => ?_) AllReadyIn.nil
            (go_simp; refine hK _ _ ?_; clear hK K)
            refine wpAnyIn_done (by kernel_rfl) ?_ _
            exact HF.out
          refine AllReadyIn.cons rfl (fun K hK => ?_) AllReadyIn.nil
          (go_simp; refine hK _ _ ?_; clear hK K)
          refine wpAnyIn_ready (rs := [0]) (by kernel_rfl) (by simp) ?_
          refine AllReadyIn.cons rfl (fun K hK => ?_) AllReadyIn.nil
          (go_simp; refine hK _ _ ?_; clear hK K)
          refine wpAnyIn_ready (rs := [5]) (by kernel_rfl) (by simp) ?_
          refine AllReadyIn.cons rfl (fun K hK => ?_) AllReadyIn.nil
          (go_simp; refine hK _ _ ?_; clear hK K)
          refine wpAnyIn_done (by kernel_rfl) ?_ _
          exact HF.out
        refine AllReadyIn.cons rfl (fun K hK => ?_) AllReadyIn.nil
        (go_simp; refine hK _ _ ?_; clear hK K)
        refine wpAnyIn_ready (rs := [0, 3]) (by kernel_rfl) (by simp) ?_
        refine AllReadyIn.cons rfl (fun K hK => ?_) ?_
        · (go_simp; refine hK _ _ ?_; clear hK K)
          refine wpAnyIn_ready (rs := [3]) (by kernel_rfl) (by simp) ?_
          refine AllReadyIn.cons rfl (fun K hK => ?_) AllReadyIn.nil
          (go_simp; refine ⟨trivial, ?_⟩; gi_at_call 56; refine (CallsIn.inRound l (callsIn_wide.2 (nameDd_any _ _ _))).mono ?_; rintro e w8 ⟨rfl, rfl⟩; refine hK _ _ ?_; clear hK K)
          refine wpAnyIn_ready (rs := [5]) (by kernel_rfl) (by simp) ?_
          refine AllReadyIn.cons rfl (fun K hK => ?_) AllReadyIn.nil
          (go_simp; refine hK _ _ ?_; clear hK K)
          refine wpAnyIn_done (by kernel_rfl) ?_ _
          exact HF.out
        refine AllReadyIn.cons rfl (fun K hK => ?_) AllReadyIn.nil
        (go_simp; refine ⟨trivial, ?_⟩; gi_at_call 56; refine (CallsIn.inRound l (callsIn_wide.2 (nameDd_any _ _ _))).mono ?_; rintro e w8 ⟨rfl, rfl⟩; refine hK _ _ ?_; clear hK K)
        refine wpAnyIn_ready (rs := [0]) (by kernel_rfl) (by simp) ?_
        refine AllReadyIn.cons rfl (fun K hK => ?_) AllReadyIn.nil
        (go_simp; refine hK _ _ ?_; clear hK K)
        refine wpAnyIn_ready (rs := [5]) (by kernel_rfl) (by simp) ?_
        refine AllReadyIn.cons rfl (fun K hK => ?_) AllReadyIn.nil
        (go_simp; refine hK _ _ ?_; clear hK K)
        refine wpAnyIn_done (by kernel_rfl) ?_ _
        exact HF.out
      refine AllReadyIn.cons rfl (fun K hK => ?_) AllReadyIn.nil
      (go_simp; refine hK _ _ ?_; clear hK K)
      refine wpAnyIn_ready (rs := [0, 1]) (by kernel_rfl) (by simp) ?_
      refine AllReadyIn.cons rfl (fun K hK => ?_) ?_
      · (go_simp; refine hK _ _ ?_; clear hK K)
        refine wpAnyIn_ready (rs := [1]) (by kernel_rfl) (by simp) ?_
        refine AllReadyIn.cons rfl (fun K hK => ?_) AllReadyIn.nil
        (go_simp; refine hK _ _ ?_; clear hK K)
        refine wpAnyIn_ready (rs := [3]) (by kernel_rfl) (by simp) ?_
        refine AllReadyIn.cons rfl (fun K hK => ?_) AllReadyIn.nil
        (go_simp; refine ⟨trivial, ?_⟩; gi_at_call 56; refine (CallsIn.inRound l (callsIn_wide.2 (nameDd_any _ _ _))).mono ?_; rintro e w8 ⟨rfl, rfl⟩; refine hK _ _ ?_; clear hK K)
        refine wpAnyIn_ready (rs := [5]) (by kernel_rfl) (by simp) ?_
        refine AllReadyIn.cons rfl (fun K hK => ?_) AllReadyIn.nil
        (go_simp; refine hK _ _ ?_; clear hK K)
        refine wpAnyIn_done (by kernel_rfl) ?_ _
        exact HF.out
      refine AllReadyIn.cons rfl (fun K hK => ?_) AllReadyIn.nil
      (go_simp; refine hK _ _ ?_; clear hK K)
      refine wpAnyIn_ready (rs := [0, 3]) (by kernel_rfl) (by simp) ?_
      refine AllReadyIn.cons rfl (fun K hK => ?_) ?_
      · (go_simp; refine hK _ _ ?_; clear hK K)
        refine wpAnyIn_ready (rs := [3]) (by kernel_rfl) (by simp) ?_
        refine AllReadyIn.cons rfl (fun K hK => ?_) AllReadyIn.nil
        (go_simp; refine ⟨trivial, ?_⟩; gi_at_call 56; refine (CallsIn.inRound l (callsIn_wide.2 (nameDd_any _ _ _))).mono ?_; rintro e w8 ⟨rfl, rfl⟩; refine hK _ _ ?_; clear hK K)
        refine wpAnyIn_ready (rs := [5]) (by kernel_rfl) (by simp) ?_
        refine AllReadyIn.cons rfl (fun K hK => ?_) AllReadyIn.nil
        (go_simp; refine hK _ _ ?_; clear hK K)
        refine wpAnyIn_done (by kernel_rfl) ?_ _
        exact HF.out
      refine AllReadyIn.cons rfl (fun K hK => ?_) AllReadyIn.nil
      (go_simp; refine ⟨trivial, ?_⟩; gi_at_call 56; refine (CallsIn.inRound l (callsIn_wide.2 (nameDd_any _ _ _))).mono ?_; rintro e w8 ⟨rfl, rfl⟩; refine hK _ _ ?_; clear hK K)
      refine wpAnyIn_ready (rs := [0]) (by kernel_rfl) (by simp) ?_
      refine AllReadyIn.cons rfl (fun K hK => ?_) AllReadyIn.nil
      (go_simp; refine hK _ _ ?_; clear hK K)
      refine wpAnyIn_ready (rs := [5]) (by kernel_rfl) (by simp) ?_
      refine AllReadyIn.cons rfl (fun K hK => ?_) AllReadyIn.nil
      (go_simp; refine hK _ _ ?_; clear hK K)
      refine wpAnyIn_done (by kernel_rfl) ?_ _
      exact HF.out
    refine AllReadyIn.cons rfl (fun K hK => ?_) AllReadyIn.nil
    (go_simp; refine hK _ _ ?_; clear hK K)
    refine wpAnyIn_ready (rs := [0, 1, 2]) (by kernel_rfl) (by simp) ?_
    refine AllReadyIn.cons rfl (fun K hK => ?_) ?_
    · (go_simp; refine hK _ _ ?_; clear hK K)
      refine wpAnyIn_ready (rs := [1, 2]) (by kernel_rfl) (by simp) ?_
      refine AllReadyIn.cons rfl (fun K hK => ?_) ?_
      · (go_simp; refine hK _ _ ?_; clear hK K)
        refine wpAnyIn_ready (rs := [2]) (by kernel_rfl) (by simp) ?_
        refine AllReadyIn.cons rfl (fun K hK => ?_) AllReadyIn.nil
        (go_simp; refine hK _ _ ?_; clear hK K)
        refine wpAnyIn_ready (rs := [3]) (by kernel_rfl) (by simp) ?_
        refine AllReadyIn.cons rfl (fun K hK => ?_) AllReadyIn.nil
        (go_simp; refine ⟨trivial, ?_⟩; gi_at_call 56; refine (CallsIn.inRound l (callsIn_wide.2 (nameDd_any _ _ _))).mono ?_; rintro e w8 ⟨rfl, rfl⟩; refine hK _ _ ?_; clear hK K)
        refine wpAnyIn_ready (rs := [5]) (by kernel_rfl) (by simp) ?_
        refine AllReadyIn.cons rfl (fun K hK => ?_) AllReadyIn.nil
        (go_simp; refine hK _ _ ?_; clear hK K)
        refine wpAnyIn_done (by kernel_rfl) ?_ _
        exact HF.out
      refine AllReadyIn.cons rfl (fun K hK => ?_) AllReadyIn.nil
      (go_simp; refine hK _ _ ?_; clear hK K)
      refine wpAnyIn_ready (rs := [1]) (by kernel_rfl) (by simp) ?_
      refine AllReadyIn.cons rfl (fun K hK => ?_) AllReadyIn.nil
      (go_simp; refine hK _ _ ?_; clear hK K)
      refine wpAnyIn_ready (rs := [3]) (by kernel_rfl) (by simp) ?_
      refine AllReadyIn.cons rfl (fun K hK => ?_) AllReadyIn.nil
      (go_simp; refine ⟨trivial, ?_⟩; gi_at_call 56; refine (CallsIn.inRound l (callsIn_wide.2 (nameDd_any _ _ _))).mono ?_; rintro e w8 ⟨rfl, rfl⟩; refine hK _ _ ?_; clear hK K)
      refine wpAnyIn_ready (rs := [5]) (by kernel_rfl) (by simp) ?_
      refine AllReadyIn.cons rfl (fun K hK => ?_) AllReadyIn.nil
      (go_simp; refine hK _ _ ?_; clear hK K)
      refine wpAnyIn_done (by kernel_rfl) ?_ _
      exact HF.out
    refine AllReadyIn.cons rfl (fun K hK => ?_) ?_
    · (go_simp; refine hK _ _ ?_; clear hK K)
      refine wpAnyIn_ready (rs := [0, 2]) (by kernel_rfl) (by simp) ?_
      refine AllReadyIn.cons rfl (fun K hK => ?_) ?_
      · (go_simp; refine hK _ _ ?_; clear hK K)
        refine wpAnyIn_ready (rs := [2]) (by kernel_rfl) (by simp) ?_
        refine AllReadyIn.cons rfl (fun K hK => ?_) AllReadyIn.nil
        (go_simp; refine hK _ _ ?_; clear hK K)
        refine wpAnyIn_ready (rs := [3]) (by kernel_rfl) (by simp) ?_
        refine AllReadyIn.cons rfl (fun K hK => ?_) AllReadyIn.nil
        (go_simp; refine ⟨trivial, ?_⟩; gi_at_call 56; refine (CallsIn.inRound l (callsIn_wide.2 (nameDd_any _ _ _))).mono ?_; rintro e w8 ⟨rfl, rfl⟩; refine hK _ _ ?_; clear hK K)
        refine wpAnyIn_ready (rs := [5]) (by kernel_rfl) (by simp) ?_
        refine AllReadyIn.cons rfl (fun K hK => ?_) AllReadyIn.nil
        (go_simp; refine hK _ _ ?_; clear hK K)
        refine wpAnyIn_done (by kernel_rfl) ?_ _
        exact HF.out
      refine AllReadyIn.cons rfl (fun K hK => ?_) AllReadyIn.nil
      (go_simp; refine hK _ _ ?_; clear hK K)
      refine wpAnyIn_ready (rs := [0, 3]) (by kernel_rfl) (by simp) ?_
      refine AllReadyIn.cons rfl (fun K hK => ?_) ?_
      · (go_simp; refine hK _ _ ?_; clear hK K)
        refine wpAnyIn_ready (rs := [3]) (by kernel_rfl) (by simp) ?_
        refine AllReadyIn.cons rfl (fun K hK => ?_) AllReadyIn.nil
        (go_simp; refine ⟨trivial, ?_⟩; gi_at_call 56; refine (CallsIn.inRound l (callsIn_wide.2 (nameDd_any _ _ _))).mono ?_; rintro e w8 ⟨rfl, rfl⟩; refine hK _ _ ?_; clear hK K)
        refine wpAnyIn_ready (rs := [5]) (by kernel_rfl) (by simp) ?_
        refine AllReadyIn.cons rfl (fun K hK => ?_) AllReadyIn.nil
        (go_simp; refine hK _ _ ?_; clear hK K)
        refine wpAnyIn_done (by kernel_rfl) ?_ _
        exact HF.out
      refine AllReadyIn.cons rfl (fun K hK => ?_) AllReadyIn.nil
      (go_simp; refine ⟨trivial, ?_⟩; gi_at_call 56; refine (CallsIn.inRound l (callsIn_wide.2 (nameDd_any _ _ _))).mono ?_; rintro e w8 ⟨rfl, rfl⟩; refine hK _ _ ?_; clear hK K)
      refine wpAnyIn_ready (rs := [0]) (by kernel_rfl) (by simp) ?_
      refine AllReadyIn.cons rfl (fun K hK => ?_) AllReadyIn.nil
      (go_simp; refine hK _ _ ?_; clear hK K)
      refine wpAnyIn_ready (rs := [5]) (by kernel_rfl) (by simp) ?_
      refine AllReadyIn.cons rfl (fun K hK => ?_) AllReadyIn.nil
      (go_simp; refine hK _ _ ?_; clear hK K)
      refine wpAnyIn_done (by kernel_rfl) ?_ _
      exact HF.out
    refine AllReadyIn.cons rfl (fun K hK => ?_) AllReadyIn.nil
    (go_simp; refine hK _ _ ?_; clear hK K)
    refine wpAnyIn_ready (rs := [0, 1]) (by kernel_rfl) (by simp) ?_
    refine AllReadyIn.cons rfl (fun K hK => ?_) ?_
    · (go_simp; refine hK _ _ ?_; clear hK K)
      refine wpAnyIn_ready (rs := [1]) (by kernel_rfl) (by simp) ?_
      refine AllReadyIn.cons rfl (fun K hK => ?_) AllReadyIn.nil
      (go_simp; refine hK _ _ ?_; clear hK K)
      refine wpAnyIn_ready (rs := [3]) (by kernel_rfl) (by simp) ?_
      refine AllReadyIn.cons rfl (fun K hK => ?_) AllReadyIn.nil
      (go_simp; refine ⟨trivial, ?_⟩; gi_at_call 56; refine (CallsIn.inRound l (callsIn_wide.2 (nameDd_any _ _ _))).mono ?_; rintro e w8 ⟨rfl, rfl⟩; refine hK _ _ ?_; clear hK K)
      refine wpAnyIn_ready (rs := [5]) (by kernel_rfl) (by simp) ?_
      refine AllReadyIn.cons rfl (fun K hK => ?_) AllReadyIn.nil
      (go_simp; refine hK _ _ ?_; clear hK K)
      refine wpAnyIn_done (by kernel_rfl) ?_ _
      exact HF.out
    refine AllReadyIn.cons rfl (fun K hK => ?_) AllReadyIn.nil
    (go_simp; refine hK _ _ ?_; clear hK K)
    refine wpAnyIn_ready (rs := [0, 3]) (by kernel_rfl) (by simp) ?_
    refine AllReadyIn.cons rfl (fun K hK => ?_) ?_
    · (go_simp; refine hK _ _ ?_; clear hK K)
      refine wpAnyIn_ready (rs := [3]) (by kernel_rfl) (by simp) ?_
      refine AllReadyIn.cons rfl (fun K hK => ?_) AllReadyIn.nil
      (go_simp; refine ⟨trivial, ?_⟩; gi_at_call 56; refine (CallsIn.inRound l (callsIn_wide.2 (nameDd_any _ _ _))).mono ?_; rintro e w8 ⟨rfl, rfl⟩; refine hK _ _ ?_; clear hK K)
      refine wpAnyIn_ready (rs := [5]) (by kernel_rfl) (by simp) ?_
      refine AllReadyIn.cons rfl (fun K hK => ?_) AllReadyIn.nil
      (go_simp; refine hK _ _ ?_; clear hK K)
      refine wpAnyIn_done (by kernel_rfl) ?_ _
      exact HF.out
    refine AllReadyIn.cons rfl (fun K hK => ?_) AllReadyIn.nil
    (go_simp; refine ⟨trivial, ?_⟩; gi_at_call 56; refine (CallsIn.inRound l (callsIn_wide.2 (nameDd_any _ _ _))).mono ?_; rintro e w8 ⟨rfl, rfl⟩; refine hK _ _ ?_; clear hK K)
    refine wpAnyIn_ready (rs := [0]) (by kernel_rfl) (by simp) ?_
    refine AllReadyIn.cons rfl (fun K hK => ?_) AllReadyIn.nil
    (go_simp; refine hK _ _ ?_; clear hK K)
    refine wpAnyIn_ready (rs := [5]) (by kernel_rfl) (by simp) ?_
    refine AllReadyIn.cons rfl (fun K hK => ?_) AllReadyIn.nil
    (go_simp; refine hK _ _ ?_; clear hK K)
    refine wpAnyIn_done (by kernel_rfl) ?_ _
    exact HF.out
  case done =>
    rintro F W ⟨rfl, ⟨j, hj, h1⟩, h2, h3, h4⟩ hK
    have hj0 : j = 0 := by have := HNL.out; have := HM.out; omega
    subst hj0
    have y0 := h2.cell
    have H1 := Lib.hid h1
    have H4 := Lib.hid h4
    have HD := Lib.hid hK
    clear h1 h2 h3 h4 hK hmm
    gi_wp2
    refine ⟨by simp, .inl ⟨_, _, rfl, run_takeDeferred HD.out, ?_⟩⟩
    refine ⟨.map (some (H + 1)), ?_, H + 1, M, rfl, H1.out.at (World.putObj_heap_other (by omega)), H4.out.trans (below_put _ (by omega))⟩
    simp [results, Tryz.f55, go_sem]
  case stop =>
    rintro W hf
    exact hf.elim
end Go.Proofs.YtlikmgkjilmjpaaGreat
