/-
  Merged by program: HasI.
-/
import Derived.Test.YtlikmgkjilmjpaaH23
import Derived.Test.YtlikmgkjilmjpaaH12
import Derived.Test.YtlikmgkjilmjpaaH34
import Derived.Test.YtlikmgkjilmjpaaH40

/-
  The program's isOfType and HasType.
-/
namespace Go.Proofs.Ytlikmgkjilmjpaa
open Go.RowKit


set_option maxRecDepth 100000 in
set_option maxHeartbeats 3200000 in
theorem ofT_1 (a : VaA) (ks : List Va) (ih : ∀ x ∈ ks, OfK x) (b : TyA) (js : List Ty) (hq : b.kind = 1) (hd : DatT (.node b js)) (w : World) (cs ds : List Value) (h : RVa w (.node a ks) cs) (h' : RTy w (.node b js) ds) :
    Calls Try.prog 49 #[.agg cs.toArray, .agg ds.toArray] w (Truth (hasT (.node b js) (.node a ks)) w) := by
  obtain ⟨L, c, A, d, rfl, k1, k2, k3, hp⟩ := h.out
  obtain ⟨L', c', A', d', rfl, k1', k2', k3', k4', k5', k6', hp'⟩ := h'.out
  have hT := hasT_1 (js := js) (ks := ks) (b := b) (a := a) hq
  have hsE := fun W (hB : Below w.heap.size w W) => sEq_any L L' c c' a.labels b.labels W (k1.below hB) (k1'.below hB) k2.2.2.2.2.1
  have hEF := fun W (hB : Below w.heap.size w W) => eqFuncV_any ks js ih (fun t ht => hd.kid ht) W A A' d d' (hp.keep hB) (hp'.keep hB) k3
  have hEV := fun (j : Ty) (hj : DatT j) W P u0 u1 B e (hB : Below w.heap.size w W) (hk : RKids W B [j]) hbx => everyV_any ks j ih hj W P u0 u1 A B d e (hp.keep hB) hk hbx k3
  have hcase := hd.cases
  rw [hq] at hcase
  obtain ⟨N, hN⟩ : ∃ N, hasT (.node b js) (.node a ks) = N := ⟨_, rfl⟩
  rw [hN] at hT ⊢
  rw [hq]
  obtain ⟨m, hm⟩ : ∃ m, ks.length = m := ⟨_, rfl⟩
  obtain ⟨n, hn⟩ : ∃ n, js.length = n := ⟨_, rfl⟩
  obtain ⟨l, hl⟩ : ∃ l, a.labels.length = l := ⟨_, rfl⟩
  obtain ⟨l', hl'⟩ : ∃ l, b.labels.length = l := ⟨_, rfl⟩
  obtain ⟨p, hpk⟩ : ∃ p, a.kind = p := ⟨_, rfl⟩
  obtain ⟨q, hqn⟩ : ∃ p, a.num = p := ⟨_, rfl⟩
  simp only [hm, hl, hpk, hqn, hn, hl'] at hT hsE hEF hEV hcase k3 k6' ⊢
  obtain ⟨W1, hW1⟩ : ∃ W1, (w.alloc (.cells #[.int .i64 p, .int .i64 q, .slice L l c, .slice A m d] 30)).alloc (.cells #[.int .i64 1, .slice L' l' c', .slice A' n d'] 41) = W1 := ⟨_, rfl⟩
  obtain ⟨H, hH⟩ : ∃ H, w.heap.size = H := ⟨_, rfl⟩
  have b0 : Box4 W1 H 30 (.int .i64 p) (.int .i64 q) (.slice L l c) (.slice A m d) := by rw [← hW1, ← hH]; exact (Box4.new w _ _ _ _ _).alloc _
  have b1 : Box3 W1 (H + 1) 41 (.int .i64 1) (.slice L' l' c') (.slice A' n d') := by
    rw [← hW1, ← hH]
    have := Box3.new (w.alloc (.cells #[.int .i64 p, .int .i64 q, .slice L l c, .slice A m d] 30)) 41 (.int .i64 1) (.slice L' l' c') (.slice A' n d')
    simpa using this
  have hb1 : Below w.heap.size w W1 := by rw [← hW1]; exact (below_box _ _ _).alloc (by simp) _
  have HK := Lib.hid (kind_of 1 (.slice L' l' c') (.slice A' n d') W1)
  have HT := Lib.hid hT
  have HSE := Lib.hid hsE
  have HEF := Lib.hid hEF
  have HEV := Lib.hid hEV
  have HKJ := Lib.hid (fun W (hB : Below w.heap.size w W) => hp'.keep hB)
  have HD := Lib.hid (fun t (ht : t ∈ js) => hd.kid ht)
  have HNJ := Lib.hid hn
  have HCA := Lib.hid hcase
  have HW1 := Lib.hid hW1
  have HB1 := Lib.hid hb1
  have B0 := Lib.hid b0
  have y0 := b1.c0
  have y1 := b1.c1
  have y2 := b1.c2
  have a1 := as_int_1
  clear h h' hT hsE hEF hEV hp hp' ih hd hb1 b0 b1 hW1 hN hcase k1 k1' k2 k2' k3' k4' k5' hq hm hn hl hl' hpk hqn
  go_enter Try.func49, Try.ntmps49
  go_wp2_with fail
  rw [HW1.out]
  go_wp2_with fail
  refine HK.out.mono ?_
  rintro e w1 ⟨rfl, hb2⟩
  have hbw := HB1.out.trans (hb2.mono HB1.out.size)
  have c0 := B0.out.under hb2 B0.out.lt
  obtain ⟨G, hG⟩ : ∃ G, w1.heap.size = G := ⟨_, rfl⟩
  obtain ⟨W3, hW3⟩ : ∃ W3, w1.alloc (.cells #[.int .i64 1, .slice L' l' c', .slice A' n d'] 101) = W3 := ⟨_, rfl⟩
  have hb3 : Below w.heap.size w W3 := by rw [← hW3]; exact hbw.alloc hbw.size _
  have B3 : Box4 W3 H 30 (.int .i64 p) (.int .i64 q) (.slice L l c) (.slice A m d) := by rw [← hW3]; exact c0.alloc _
  have B4 : Box3 W3 G 101 (.int .i64 1) (.slice L' l' c') (.slice A' n d') := by rw [← hW3, ← hG]; exact Box3.new _ _ _ _ _
  have C3 := Lib.hid B3
  have C4 := Lib.hid B4
  have HW3 := Lib.hid hW3
  have HB3 := Lib.hid hb3
  have x0 : (w1.alloc (.cells #[.int .i64 1, .slice L' l' c', .slice A' n d'] 101)).cell? ⟨H, 0, none⟩ = some (.int .i64 p) := by rw [hW3]; exact B3.c0
  have x1 : (w1.alloc (.cells #[.int .i64 1, .slice L' l' c', .slice A' n d'] 101)).cell? ⟨H, 1, none⟩ = some (.int .i64 q) := by rw [hW3]; exact B3.c1
  have x2 : (w1.alloc (.cells #[.int .i64 1, .slice L' l' c', .slice A' n d'] 101)).cell? ⟨H, 2, none⟩ = some (.slice L l c) := by rw [hW3]; exact B3.c2
  have x3 : (w1.alloc (.cells #[.int .i64 1, .slice L' l' c', .slice A' n d'] 101)).cell? ⟨H, 3, none⟩ = some (.slice A m d) := by rw [hW3]; exact B3.c3
  clear y0 y1 y2 hb2 HK HW1 hbw c0 hW3 hb3
  rw [show kindT 1 = 101 from rfl]
  clear B3 B4
  clear HSE HEF HEV HKJ HD C3 C4
  go_wp2_with fail
  rw [HW3.out]
  refine (isIntV_any p q L A l c m d W3).mono ?_
  rintro e w4 ⟨rfl, hb4⟩
  have HR : Hid (Truth N w (.returned (.bool (intB p l m))) w4) := truth_iff (by rw [HT.out]; rfl) (HB3.out.trans (hb4.mono HB3.out.size))
  clear hb4
  go_wp2_with fail
  go_ret
  exact HR.out

set_option maxRecDepth 100000 in
set_option maxHeartbeats 3200000 in
theorem ofT_2 (a : VaA) (ks : List Va) (ih : ∀ x ∈ ks, OfK x) (b : TyA) (js : List Ty) (hq : b.kind = 2) (hd : DatT (.node b js)) (w : World) (cs ds : List Value) (h : RVa w (.node a ks) cs) (h' : RTy w (.node b js) ds) :
    Calls Try.prog 49 #[.agg cs.toArray, .agg ds.toArray] w (Truth (hasT (.node b js) (.node a ks)) w) := by
  obtain ⟨L, c, A, d, rfl, k1, k2, k3, hp⟩ := h.out
  obtain ⟨L', c', A', d', rfl, k1', k2', k3', k4', k5', k6', hp'⟩ := h'.out
  have hT := hasT_2 (js := js) (ks := ks) (b := b) (a := a) hq
  have hsE := fun W (hB : Below w.heap.size w W) => sEq_any L L' c c' a.labels b.labels W (k1.below hB) (k1'.below hB) k2.2.2.2.2.1
  have hEF := fun W (hB : Below w.heap.size w W) => eqFuncV_any ks js ih (fun t ht => hd.kid ht) W A A' d d' (hp.keep hB) (hp'.keep hB) k3
  have hEV := fun (j : Ty) (hj : DatT j) W P u0 u1 B e (hB : Below w.heap.size w W) (hk : RKids W B [j]) hbx => everyV_any ks j ih hj W P u0 u1 A B d e (hp.keep hB) hk hbx k3
  have hcase := hd.cases
  rw [hq] at hcase
  obtain ⟨N, hN⟩ : ∃ N, hasT (.node b js) (.node a ks) = N := ⟨_, rfl⟩
  rw [hN] at hT ⊢
  rw [hq]
  obtain ⟨m, hm⟩ : ∃ m, ks.length = m := ⟨_, rfl⟩
  obtain ⟨n, hn⟩ : ∃ n, js.length = n := ⟨_, rfl⟩
  obtain ⟨l, hl⟩ : ∃ l, a.labels.length = l := ⟨_, rfl⟩
  obtain ⟨l', hl'⟩ : ∃ l, b.labels.length = l := ⟨_, rfl⟩
  obtain ⟨p, hpk⟩ : ∃ p, a.kind = p := ⟨_, rfl⟩
  obtain ⟨q, hqn⟩ : ∃ p, a.num = p := ⟨_, rfl⟩
  simp only [hm, hl, hpk, hqn, hn, hl'] at hT hsE hEF hEV hcase k3 k6' ⊢
  obtain ⟨W1, hW1⟩ : ∃ W1, (w.alloc (.cells #[.int .i64 p, .int .i64 q, .slice L l c, .slice A m d] 30)).alloc (.cells #[.int .i64 2, .slice L' l' c', .slice A' n d'] 41) = W1 := ⟨_, rfl⟩
  obtain ⟨H, hH⟩ : ∃ H, w.heap.size = H := ⟨_, rfl⟩
  have b0 : Box4 W1 H 30 (.int .i64 p) (.int .i64 q) (.slice L l c) (.slice A m d) := by rw [← hW1, ← hH]; exact (Box4.new w _ _ _ _ _).alloc _
  have b1 : Box3 W1 (H + 1) 41 (.int .i64 2) (.slice L' l' c') (.slice A' n d') := by
    rw [← hW1, ← hH]
    have := Box3.new (w.alloc (.cells #[.int .i64 p, .int .i64 q, .slice L l c, .slice A m d] 30)) 41 (.int .i64 2) (.slice L' l' c') (.slice A' n d')
    simpa using this
  have hb1 : Below w.heap.size w W1 := by rw [← hW1]; exact (below_box _ _ _).alloc (by simp) _
  have HK := Lib.hid (kind_of 2 (.slice L' l' c') (.slice A' n d') W1)
  have HT := Lib.hid hT
  have HSE := Lib.hid hsE
  have HEF := Lib.hid hEF
  have HEV := Lib.hid hEV
  have HKJ := Lib.hid (fun W (hB : Below w.heap.size w W) => hp'.keep hB)
  have HD := Lib.hid (fun t (ht : t ∈ js) => hd.kid ht)
  have HNJ := Lib.hid hn
  have HCA := Lib.hid hcase
  have HW1 := Lib.hid hW1
  have HB1 := Lib.hid hb1
  have B0 := Lib.hid b0
  have y0 := b1.c0
  have y1 := b1.c1
  have y2 := b1.c2
  have a1 := as_int_2
  have a2 := as_bool_2
  clear h h' hT hsE hEF hEV hp hp' ih hd hb1 b0 b1 hW1 hN hcase k1 k1' k2 k2' k3' k4' k5' hq hm hn hl hl' hpk hqn
  go_enter Try.func49, Try.ntmps49
  go_wp2_with fail
  rw [HW1.out]
  go_wp2_with fail
  refine HK.out.mono ?_
  rintro e w1 ⟨rfl, hb2⟩
  have hbw := HB1.out.trans (hb2.mono HB1.out.size)
  have c0 := B0.out.under hb2 B0.out.lt
  obtain ⟨G, hG⟩ : ∃ G, w1.heap.size = G := ⟨_, rfl⟩
  obtain ⟨W3, hW3⟩ : ∃ W3, w1.alloc (.cells #[.int .i64 2, .slice L' l' c', .slice A' n d'] 102) = W3 := ⟨_, rfl⟩
  have hb3 : Below w.heap.size w W3 := by rw [← hW3]; exact hbw.alloc hbw.size _
  have B3 : Box4 W3 H 30 (.int .i64 p) (.int .i64 q) (.slice L l c) (.slice A m d) := by rw [← hW3]; exact c0.alloc _
  have B4 : Box3 W3 G 102 (.int .i64 2) (.slice L' l' c') (.slice A' n d') := by rw [← hW3, ← hG]; exact Box3.new _ _ _ _ _
  have C3 := Lib.hid B3
  have C4 := Lib.hid B4
  have HW3 := Lib.hid hW3
  have HB3 := Lib.hid hb3
  have x0 : (w1.alloc (.cells #[.int .i64 2, .slice L' l' c', .slice A' n d'] 102)).cell? ⟨H, 0, none⟩ = some (.int .i64 p) := by rw [hW3]; exact B3.c0
  have x1 : (w1.alloc (.cells #[.int .i64 2, .slice L' l' c', .slice A' n d'] 102)).cell? ⟨H, 1, none⟩ = some (.int .i64 q) := by rw [hW3]; exact B3.c1
  have x2 : (w1.alloc (.cells #[.int .i64 2, .slice L' l' c', .slice A' n d'] 102)).cell? ⟨H, 2, none⟩ = some (.slice L l c) := by rw [hW3]; exact B3.c2
  have x3 : (w1.alloc (.cells #[.int .i64 2, .slice L' l' c', .slice A' n d'] 102)).cell? ⟨H, 3, none⟩ = some (.slice A m d) := by rw [hW3]; exact B3.c3
  clear y0 y1 y2 hb2 HK HW1 hbw c0 hW3 hb3
  rw [show kindT 2 = 102 from rfl]
  clear B3 B4
  clear HSE HEF HEV HKJ HD C3 C4
  go_wp2_with fail
  rw [HW3.out]
  refine (isBoolV_any p q L A l c m d W3).mono ?_
  rintro e w4 ⟨rfl, hb4⟩
  have HR : Hid (Truth N w (.returned (.bool (boolB p q l m))) w4) := truth_iff (by rw [HT.out]; rfl) (HB3.out.trans (hb4.mono HB3.out.size))
  clear hb4
  go_wp2_with fail
  go_ret
  exact HR.out

set_option maxRecDepth 100000 in
set_option maxHeartbeats 3200000 in
theorem ofT_3 (a : VaA) (ks : List Va) (ih : ∀ x ∈ ks, OfK x) (b : TyA) (js : List Ty) (hq : b.kind = 3) (hd : DatT (.node b js)) (w : World) (cs ds : List Value) (h : RVa w (.node a ks) cs) (h' : RTy w (.node b js) ds) :
    Calls Try.prog 49 #[.agg cs.toArray, .agg ds.toArray] w (Truth (hasT (.node b js) (.node a ks)) w) := by
  obtain ⟨L, c, A, d, rfl, k1, k2, k3, hp⟩ := h.out
  obtain ⟨L', c', A', d', rfl, k1', k2', k3', k4', k5', k6', hp'⟩ := h'.out
  have hT := hasT_3 (js := js) (ks := ks) (b := b) (a := a) hq
  have hsE := fun W (hB : Below w.heap.size w W) => sEq_any L L' c c' a.labels b.labels W (k1.below hB) (k1'.below hB) k2.2.2.2.2.1
  have hEF := fun W (hB : Below w.heap.size w W) => eqFuncV_any ks js ih (fun t ht => hd.kid ht) W A A' d d' (hp.keep hB) (hp'.keep hB) k3
  have hEV := fun (j : Ty) (hj : DatT j) W P u0 u1 B e (hB : Below w.heap.size w W) (hk : RKids W B [j]) hbx => everyV_any ks j ih hj W P u0 u1 A B d e (hp.keep hB) hk hbx k3
  have hcase := hd.cases
  rw [hq] at hcase
  obtain ⟨N, hN⟩ : ∃ N, hasT (.node b js) (.node a ks) = N := ⟨_, rfl⟩
  rw [hN] at hT ⊢
  rw [hq]
  obtain ⟨m, hm⟩ : ∃ m, ks.length = m := ⟨_, rfl⟩
  obtain ⟨n, hn⟩ : ∃ n, js.length = n := ⟨_, rfl⟩
  obtain ⟨l, hl⟩ : ∃ l, a.labels.length = l := ⟨_, rfl⟩
  obtain ⟨l', hl'⟩ : ∃ l, b.labels.length = l := ⟨_, rfl⟩
  obtain ⟨p, hpk⟩ : ∃ p, a.kind = p := ⟨_, rfl⟩
  obtain ⟨q, hqn⟩ : ∃ p, a.num = p := ⟨_, rfl⟩
  simp only [hm, hl, hpk, hqn, hn, hl'] at hT hsE hEF hEV hcase k3 k6' ⊢
  obtain ⟨W1, hW1⟩ : ∃ W1, (w.alloc (.cells #[.int .i64 p, .int .i64 q, .slice L l c, .slice A m d] 30)).alloc (.cells #[.int .i64 3, .slice L' l' c', .slice A' n d'] 41) = W1 := ⟨_, rfl⟩
  obtain ⟨H, hH⟩ : ∃ H, w.heap.size = H := ⟨_, rfl⟩
  have b0 : Box4 W1 H 30 (.int .i64 p) (.int .i64 q) (.slice L l c) (.slice A m d) := by rw [← hW1, ← hH]; exact (Box4.new w _ _ _ _ _).alloc _
  have b1 : Box3 W1 (H + 1) 41 (.int .i64 3) (.slice L' l' c') (.slice A' n d') := by
    rw [← hW1, ← hH]
    have := Box3.new (w.alloc (.cells #[.int .i64 p, .int .i64 q, .slice L l c, .slice A m d] 30)) 41 (.int .i64 3) (.slice L' l' c') (.slice A' n d')
    simpa using this
  have hb1 : Below w.heap.size w W1 := by rw [← hW1]; exact (below_box _ _ _).alloc (by simp) _
  have HK := Lib.hid (kind_of 3 (.slice L' l' c') (.slice A' n d') W1)
  have HT := Lib.hid hT
  have HSE := Lib.hid hsE
  have HEF := Lib.hid hEF
  have HEV := Lib.hid hEV
  have HKJ := Lib.hid (fun W (hB : Below w.heap.size w W) => hp'.keep hB)
  have HD := Lib.hid (fun t (ht : t ∈ js) => hd.kid ht)
  have HNJ := Lib.hid hn
  have HCA := Lib.hid hcase
  have HW1 := Lib.hid hW1
  have HB1 := Lib.hid hb1
  have B0 := Lib.hid b0
  have y0 := b1.c0
  have y1 := b1.c1
  have y2 := b1.c2
  have a1 := as_int_3
  have a2 := as_bool_3
  have a3 := as_rec_3
  clear h h' hT hsE hEF hEV hp hp' ih hd hb1 b0 b1 hW1 hN hcase k1 k1' k2 k2' k3' k4' k5' hq hm hn hl hl' hpk hqn
  go_enter Try.func49, Try.ntmps49
  go_wp2_with fail
  rw [HW1.out]
  go_wp2_with fail
  refine HK.out.mono ?_
  rintro e w1 ⟨rfl, hb2⟩
  have hbw := HB1.out.trans (hb2.mono HB1.out.size)
  have c0 := B0.out.under hb2 B0.out.lt
  obtain ⟨G, hG⟩ : ∃ G, w1.heap.size = G := ⟨_, rfl⟩
  obtain ⟨W3, hW3⟩ : ∃ W3, w1.alloc (.cells #[.int .i64 3, .slice L' l' c', .slice A' n d'] 103) = W3 := ⟨_, rfl⟩
  have hb3 : Below w.heap.size w W3 := by rw [← hW3]; exact hbw.alloc hbw.size _
  have B3 : Box4 W3 H 30 (.int .i64 p) (.int .i64 q) (.slice L l c) (.slice A m d) := by rw [← hW3]; exact c0.alloc _
  have B4 : Box3 W3 G 103 (.int .i64 3) (.slice L' l' c') (.slice A' n d') := by rw [← hW3, ← hG]; exact Box3.new _ _ _ _ _
  have C3 := Lib.hid B3
  have C4 := Lib.hid B4
  have HW3 := Lib.hid hW3
  have HB3 := Lib.hid hb3
  have x0 : (w1.alloc (.cells #[.int .i64 3, .slice L' l' c', .slice A' n d'] 103)).cell? ⟨H, 0, none⟩ = some (.int .i64 p) := by rw [hW3]; exact B3.c0
  have x1 : (w1.alloc (.cells #[.int .i64 3, .slice L' l' c', .slice A' n d'] 103)).cell? ⟨H, 1, none⟩ = some (.int .i64 q) := by rw [hW3]; exact B3.c1
  have x2 : (w1.alloc (.cells #[.int .i64 3, .slice L' l' c', .slice A' n d'] 103)).cell? ⟨H, 2, none⟩ = some (.slice L l c) := by rw [hW3]; exact B3.c2
  have x3 : (w1.alloc (.cells #[.int .i64 3, .slice L' l' c', .slice A' n d'] 103)).cell? ⟨H, 3, none⟩ = some (.slice A m d) := by rw [hW3]; exact B3.c3
  clear y0 y1 y2 hb2 HK HW1 hbw c0 hW3 hb3
  rw [show kindT 3 = 103 from rfl]
  clear B3 B4
  by_cases e0 : p = 3
  · by_cases e1 : q = 0
    · have HC := Lib.hid (HSE.out W3 HB3.out)
      by_cases e4 : a.labels = b.labels
      · have HT2 : Hid (N = hasTs js ks) := by show _ = _; rw [HT.out]; simp [e0, e1, e4]
        rw [same_yes e4] at HC
        subst e0 e1
        clear HSE HT e4
        go_wp2_with fail
        rw [HW3.out]
        refine HC.out.mono ?_
        rintro e w4 ⟨rfl, i, rfl⟩
        have hd4 : Below w.heap.size w (World.drewN W3 i) := below_drewN HB3.out i
        have HC2 := Lib.hid (HEF.out _ hd4)
        have HB4 := Lib.hid hd4
        have v3 : (World.drewN W3 i).cell? ⟨H, 3, none⟩ = some (.slice A m d) := C3.out.c3
        have v2 : (World.drewN W3 i).cell? ⟨G, 2, none⟩ = some (.slice A' n d') := C4.out.c2
        clear hd4 HC HEF
        go_wp2_with fail
        refine HC2.out.mono ?_
        rintro e w5 ⟨rfl, hb5⟩
        have HR : Hid (Truth N w (.returned (.bool (hasTs js ks))) w5) := truth_iff HT2.out (HB4.out.trans (hb5.mono HB4.out.size))
        clear hb5 HC2
        go_wp2_with fail
        go_ret
        exact HR.out
      · have HR : Hid (∀ i, Truth N w (.returned (.bool false)) (World.drewN W3 i)) := fun i => truth_iff (by rw [HT.out]; simp [e4]) (below_drewN HB3.out i)
        rw [same_no e4] at HC
        subst e0 e1
        clear HSE HT e4
        go_wp2_with fail
        rw [HW3.out]
        refine HC.out.mono ?_
        rintro e w4 ⟨rfl, i, rfl⟩
        go_wp2_with fail
        go_ret
        exact HR.out _
    · subst e0
      have HR : Hid (∀ r, r = false → Truth N w (.returned (.bool r)) W3) := fun r hr => truth_iff (hr ▸ (show N = false by rw [HT.out]; simp [e1])) HB3.out
      go_wp2_with fail
      go_ret
      rw [HW3.out]
      exact HR.out _ (by first | rfl | (simp; done) | (simp; omega))
  · skip
    have HR : Hid (∀ r, r = false → Truth N w (.returned (.bool r)) W3) := fun r hr => truth_iff (hr ▸ (show N = false by rw [HT.out]; simp [e0])) HB3.out
    go_wp2_with fail
    go_ret
    rw [HW3.out]
    exact HR.out _ (by first | rfl | (simp; done) | (simp; omega))

set_option maxRecDepth 100000 in
set_option maxHeartbeats 3200000 in
theorem ofT_4 (a : VaA) (ks : List Va) (ih : ∀ x ∈ ks, OfK x) (b : TyA) (js : List Ty) (hq : b.kind = 4) (hd : DatT (.node b js)) (w : World) (cs ds : List Value) (h : RVa w (.node a ks) cs) (h' : RTy w (.node b js) ds) :
    Calls Try.prog 49 #[.agg cs.toArray, .agg ds.toArray] w (Truth (hasT (.node b js) (.node a ks)) w) := by
  obtain ⟨L, c, A, d, rfl, k1, k2, k3, hp⟩ := h.out
  obtain ⟨L', c', A', d', rfl, k1', k2', k3', k4', k5', k6', hp'⟩ := h'.out
  have hT := hasT_4 (js := js) (ks := ks) (b := b) (a := a) hq
  have hsE := fun W (hB : Below w.heap.size w W) => sEq_any L L' c c' a.labels b.labels W (k1.below hB) (k1'.below hB) k2.2.2.2.2.1
  have hEF := fun W (hB : Below w.heap.size w W) => eqFuncV_any ks js ih (fun t ht => hd.kid ht) W A A' d d' (hp.keep hB) (hp'.keep hB) k3
  have hEV := fun (j : Ty) (hj : DatT j) W P u0 u1 B e (hB : Below w.heap.size w W) (hk : RKids W B [j]) hbx => everyV_any ks j ih hj W P u0 u1 A B d e (hp.keep hB) hk hbx k3
  have hcase := hd.cases
  rw [hq] at hcase
  obtain ⟨N, hN⟩ : ∃ N, hasT (.node b js) (.node a ks) = N := ⟨_, rfl⟩
  rw [hN] at hT ⊢
  rw [hq]
  obtain ⟨m, hm⟩ : ∃ m, ks.length = m := ⟨_, rfl⟩
  obtain ⟨n, hn⟩ : ∃ n, js.length = n := ⟨_, rfl⟩
  obtain ⟨l, hl⟩ : ∃ l, a.labels.length = l := ⟨_, rfl⟩
  obtain ⟨l', hl'⟩ : ∃ l, b.labels.length = l := ⟨_, rfl⟩
  obtain ⟨p, hpk⟩ : ∃ p, a.kind = p := ⟨_, rfl⟩
  obtain ⟨q, hqn⟩ : ∃ p, a.num = p := ⟨_, rfl⟩
  simp only [hm, hl, hpk, hqn, hn, hl'] at hT hsE hEF hEV hcase k3 k6' ⊢
  obtain ⟨W1, hW1⟩ : ∃ W1, (w.alloc (.cells #[.int .i64 p, .int .i64 q, .slice L l c, .slice A m d] 30)).alloc (.cells #[.int .i64 4, .slice L' l' c', .slice A' n d'] 41) = W1 := ⟨_, rfl⟩
  obtain ⟨H, hH⟩ : ∃ H, w.heap.size = H := ⟨_, rfl⟩
  have b0 : Box4 W1 H 30 (.int .i64 p) (.int .i64 q) (.slice L l c) (.slice A m d) := by rw [← hW1, ← hH]; exact (Box4.new w _ _ _ _ _).alloc _
  have b1 : Box3 W1 (H + 1) 41 (.int .i64 4) (.slice L' l' c') (.slice A' n d') := by
    rw [← hW1, ← hH]
    have := Box3.new (w.alloc (.cells #[.int .i64 p, .int .i64 q, .slice L l c, .slice A m d] 30)) 41 (.int .i64 4) (.slice L' l' c') (.slice A' n d')
    simpa using this
  have hb1 : Below w.heap.size w W1 := by rw [← hW1]; exact (below_box _ _ _).alloc (by simp) _
  have HK := Lib.hid (kind_of 4 (.slice L' l' c') (.slice A' n d') W1)
  have HT := Lib.hid hT
  have HSE := Lib.hid hsE
  have HEF := Lib.hid hEF
  have HEV := Lib.hid hEV
  have HKJ := Lib.hid (fun W (hB : Below w.heap.size w W) => hp'.keep hB)
  have HD := Lib.hid (fun t (ht : t ∈ js) => hd.kid ht)
  have HNJ := Lib.hid hn
  have HCA := Lib.hid hcase
  have HW1 := Lib.hid hW1
  have HB1 := Lib.hid hb1
  have B0 := Lib.hid b0
  have y0 := b1.c0
  have y1 := b1.c1
  have y2 := b1.c2
  have a1 := as_int_4
  have a2 := as_bool_4
  have a3 := as_rec_4
  have a4 := as_bag_4
  clear h h' hT hsE hEF hEV hp hp' ih hd hb1 b0 b1 hW1 hN hcase k1 k1' k2 k2' k3' k4' k5' hq hm hn hl hl' hpk hqn
  go_enter Try.func49, Try.ntmps49
  go_wp2_with fail
  rw [HW1.out]
  go_wp2_with fail
  refine HK.out.mono ?_
  rintro e w1 ⟨rfl, hb2⟩
  have hbw := HB1.out.trans (hb2.mono HB1.out.size)
  have c0 := B0.out.under hb2 B0.out.lt
  obtain ⟨G, hG⟩ : ∃ G, w1.heap.size = G := ⟨_, rfl⟩
  obtain ⟨W3, hW3⟩ : ∃ W3, w1.alloc (.cells #[.int .i64 4, .slice L' l' c', .slice A' n d'] 105) = W3 := ⟨_, rfl⟩
  have hb3 : Below w.heap.size w W3 := by rw [← hW3]; exact hbw.alloc hbw.size _
  have B3 : Box4 W3 H 30 (.int .i64 p) (.int .i64 q) (.slice L l c) (.slice A m d) := by rw [← hW3]; exact c0.alloc _
  have B4 : Box3 W3 G 105 (.int .i64 4) (.slice L' l' c') (.slice A' n d') := by rw [← hW3, ← hG]; exact Box3.new _ _ _ _ _
  have C3 := Lib.hid B3
  have C4 := Lib.hid B4
  have HW3 := Lib.hid hW3
  have HB3 := Lib.hid hb3
  have x0 : (w1.alloc (.cells #[.int .i64 4, .slice L' l' c', .slice A' n d'] 105)).cell? ⟨H, 0, none⟩ = some (.int .i64 p) := by rw [hW3]; exact B3.c0
  have x1 : (w1.alloc (.cells #[.int .i64 4, .slice L' l' c', .slice A' n d'] 105)).cell? ⟨H, 1, none⟩ = some (.int .i64 q) := by rw [hW3]; exact B3.c1
  have x2 : (w1.alloc (.cells #[.int .i64 4, .slice L' l' c', .slice A' n d'] 105)).cell? ⟨H, 2, none⟩ = some (.slice L l c) := by rw [hW3]; exact B3.c2
  have x3 : (w1.alloc (.cells #[.int .i64 4, .slice L' l' c', .slice A' n d'] 105)).cell? ⟨H, 3, none⟩ = some (.slice A m d) := by rw [hW3]; exact B3.c3
  clear y0 y1 y2 hb2 HK HW1 hbw c0 hW3 hb3
  rw [show kindT 4 = 105 from rfl]
  clear B3 B4
  have hj : ∃ j, js = [j] := by
    rcases HCA.out with ⟨hk | hk, _⟩ | ⟨hk, _⟩ | ⟨_, _, hk⟩
    · omega
    · omega
    · omega
    · have := HNJ.out
      match js, this with
      | [], h => simp at h; omega
      | [j], _ => exact ⟨j, rfl⟩
      | _ :: _ :: _, h => simp at h; omega
  obtain ⟨j, hj⟩ := hj
  have hn1 : n = 1 := by rw [← HNJ.out, hj]; rfl
  have HDJ := Lib.hid (HD.out j (by rw [hj]; simp))
  rw [hj] at HKJ HT
  have HTJ : Hid (N = (bagB p q l && ks.all fun x => hasT j x)) := by
    show _ = _
    rw [HT.out]
    unfold bagB
    have e : (ks.all fun x => hasTh [j] x) = ks.all fun x => hasT j x := rfl
    rw [e, Bool.and_assoc, Bool.and_assoc]
  subst hn1
  clear HSE HEF HCA HNJ hj HT HD
  go_wp2_with fail
  rw [HW3.out]
  refine (isBagN_any p q L A l c m d W3).mono ?_
  rintro e w4 ⟨rfl, hb4⟩
  have HB4 := Lib.hid (HB3.out.trans (hb4.mono HB3.out.size))
  have D3 := C3.out.under hb4 C3.out.lt
  have D4 := C4.out.under hb4 C4.out.lt
  clear x0 x1 x2 x3 hb4
  generalize bagB p q l = bb at HTJ ⊢
  cases bb with
  | false =>
    have HR : Hid (Truth N w (.returned (.bool false)) w4) := truth_iff (by rw [HTJ.out]; rfl) HB4.out
    go_wp2_with fail
    go_ret
    exact HR.out
  | true =>
    have HC := Lib.hid (HEV.out j HDJ.out w4 G _ _ A' d' HB4.out (HKJ.out w4 HB4.out) D4)
    have HT2 : Hid (N = ks.all fun x => hasT j x) := by show _ = _; rw [HTJ.out]; rfl
    have x3 := D3.c3
    clear D3 D4 HEV HKJ HTJ
    go_wp2_with fail
    refine HC.out.mono ?_
    rintro e w5 ⟨rfl, hb5⟩
    have HR : Hid (Truth N w (.returned (.bool (ks.all fun x => hasT j x))) w5) := truth_iff HT2.out (HB4.out.trans (hb5.mono HB4.out.size))
    clear hb5 HC
    go_wp2_with fail
    go_ret
    exact HR.out

theorem ofT_any : ∀ v : Va, OfK v := by
  refine Tr.ind ?_
  intro a ks ih t w cs ds hd h h'
  obtain ⟨b, js⟩ := t
  rcases hd.cases with ⟨hk | hk, _⟩ | ⟨hk, _⟩ | ⟨hk, _⟩
  · exact ofT_1 a ks ih b js hk hd w cs ds h h'
  · exact ofT_2 a ks ih b js hk hd w cs ds h h'
  · exact ofT_3 a ks ih b js hk hd w cs ds h h'
  · exact ofT_4 a ks ih b js hk hd w cs ds h h'

set_option maxRecDepth 100000 in
set_option maxHeartbeats 1600000 in
theorem implHas_any (v : Va) (t : Ty) (w : World) (cs ds : List Value) (h : RVa w v cs) (h' : RTy w t ds) (hs : v.size ≤ 1048577) (hw : wt t ≤ 1048576) : Calls Try.prog 18 #[.agg cs.toArray, .agg ds.toArray] w (Truth (hasV v t) w) := by
  obtain ⟨c0, c1, c2, c3, rfl⟩ := h.four
  obtain ⟨d0, d1, d2, rfl, _⟩ := h'.three'
  obtain ⟨W1, hW1⟩ : ∃ W1, (w.alloc (.cells #[c0, c1, c2, c3] 30)).alloc (.cells #[d0, d1, d2] 41) = W1 := ⟨_, rfl⟩
  obtain ⟨H, hH⟩ : ∃ H, w.heap.size = H := ⟨_, rfl⟩
  have b0 : Box4 W1 H 30 c0 c1 c2 c3 := by rw [← hW1, ← hH]; exact (Box4.new w _ _ _ _ _).alloc _
  have b1 : Box3 W1 (H + 1) 41 d0 d1 d2 := by
    rw [← hW1, ← hH]
    have := Box3.new (w.alloc (.cells #[c0, c1, c2, c3] 30)) 41 d0 d1 d2
    simpa using this
  have hb1 : Below w.heap.size w W1 := by rw [← hW1]; exact (below_box _ _ _).alloc (by simp) _
  have HC := Lib.hid (implData_any t W1 _ (RTy.keep h' hb1) hw)
  have HL := Lib.hid (fun W (hB : Below w.heap.size w W) => implMaxV_any v W _ (h.keep hB) hs)
  have HH := Lib.hid (fun (hd : DatT t) W (hB : Below w.heap.size w W) => ofT_any v t W _ _ hd (h.keep hB) (RTy.keep h' hB))
  have HDT := Lib.hid (fun (hd : dataB t = true) => DatT.of hd)
  have hV : hasV v t = (dataB t && (decide (v.size ≤ 2000) && hasT t v)) := rfl
  obtain ⟨N, hN⟩ : ∃ N, hasV v t = N := ⟨_, rfl⟩
  rw [hN] at hV ⊢
  have HV := Lib.hid hV
  have HW1 := Lib.hid hW1
  have HB1 := Lib.hid hb1
  have B0 := Lib.hid b0
  have B1 := Lib.hid b1
  have x0 := b0.c0
  have x1 := b0.c1
  have x2 := b0.c2
  have x3 := b0.c3
  have y0 := b1.c0
  have y1 := b1.c1
  have y2 := b1.c2
  clear h h' hw hs b0 b1 hb1 hW1 hN hV
  go_enter Try.func18, Try.ntmps18
  go_wp2_with fail
  rw [HW1.out]
  go_wp2_with fail
  refine HC.out.mono ?_
  rintro e w1 ⟨rfl, hb⟩
  have HB2 := Lib.hid (HB1.out.trans (hb.mono HB1.out.size))
  have C0 := Lib.hid (B0.out.under hb B0.out.lt)
  have C1 := Lib.hid (B1.out.under hb B1.out.lt)
  clear x0 x1 x2 x3 y0 y1 y2 hb HC
  cases hd : dataB t
  · have HR : Hid (Truth N w (.returned (.bool false)) w1) := truth_iff (by rw [HV.out, hd]; rfl) HB2.out
    clear hd
    go_wp2_with fail
    go_ret
    exact HR.out
  · have HD := Lib.hid (HDT.out hd)
    have HV2 : Hid (N = (decide (v.size ≤ 2000) && hasT t v)) := by rw [hd] at HV; exact HV
    have HC := Lib.hid (HL.out w1 HB2.out)
    have x0 := C0.out.c0
    have x1 := C0.out.c1
    have x2 := C0.out.c2
    have x3 := C0.out.c3
    clear hd HV HL HDT
    go_wp2_with fail
    refine HC.out.mono ?_
    rintro e w2 ⟨rfl, hb⟩
    have HB3 := Lib.hid (HB2.out.trans (hb.mono HB2.out.size))
    have D0 := Lib.hid (C0.out.under hb C0.out.lt)
    have D1 := Lib.hid (C1.out.under hb C1.out.lt)
    clear x0 x1 x2 x3 hb HC
    generalize decide (v.size ≤ 2000) = small at HV2 ⊢
    cases small with
    | true =>
      have HV3 : Hid (N = hasT t v) := by show _ = _; rw [HV2.out, Bool.true_and]
      have HC := Lib.hid (HH.out HD.out w2 HB3.out)
      have x0 := D0.out.c0
      have x1 := D0.out.c1
      have x2 := D0.out.c2
      have x3 := D0.out.c3
      have y0 := D1.out.c0
      have y1 := D1.out.c1
      have y2 := D1.out.c2
      clear HV2 HH
      go_wp2_with fail
      refine HC.out.mono ?_
      rintro e w3 ⟨rfl, hb⟩
      have HR : Hid (Truth N w (.returned (.bool (hasT t v))) w3) := truth_iff HV3.out (HB3.out.trans (hb.mono HB3.out.size))
      clear hb
      go_wp2_with fail
      go_ret
      exact HR.out
    | false =>
      have HR : Hid (Truth N w (.returned (.bool false)) w2) := truth_iff (by rw [HV2.out]; rfl) HB3.out
      clear HV2
      go_wp2_with fail
      go_ret
      exact HR.out
end Go.Proofs.Ytlikmgkjilmjpaa
