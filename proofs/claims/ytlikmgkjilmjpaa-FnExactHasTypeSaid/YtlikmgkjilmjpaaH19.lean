/-
  Merged by program: HasSp, VaShp, Kind.
-/
import Derived.Test.YtlikmgkjilmjpaaH12
import Derived.Test.YtlikmgkjilmjpaaH18
import Derived.Test.YtlikmgkjilmjpaaH9

/-
  The model's HasType.
-/
namespace Go.Proofs.Ytlikmgkjilmjpaa
open Go.RowKit

set_option maxRecDepth 100000 in
set_option maxHeartbeats 1600000 in
theorem specHas_any (v : Va) (t : Ty) (w : World) (cs ds : List Value) (h : RVa w v cs) (h' : RTy w t ds) (hw : wt t ≤ 1048576) : Calls Try.prog 16 #[.agg cs.toArray, .agg ds.toArray] w (Truth (hasV v t) w) := by
  obtain ⟨c0, c1, c2, c3, rfl⟩ := h.four
  obtain ⟨d0, d1, d2, rfl, _⟩ := h'.three'
  obtain ⟨W1, hW1⟩ : ∃ W1, (w.alloc (.cells #[c0, c1, c2, c3] 30)).alloc (.cells #[d0, d1, d2] 41) = W1 := ⟨_, rfl⟩
  obtain ⟨H, hH⟩ : ∃ H, w.heap.size = H := ⟨_, rfl⟩
  have b0 : Box4 W1 H 30 c0 c1 c2 c3 := by rw [← hW1, ← hH]; exact (Box4.new w _ _ _ _ _).alloc _
  have b1 : Box3 W1 (H + 1) 41 d0 d1 d2 := by
    rw [← hW1, ← hH]
    have := Box3.new (w.alloc (.cells #[c0, c1, c2, c3] 30)) 41 d0 d1 d2
    simpa using this
  have hb1 : Below w.heap.size w W1 := by rw [← hW1]; exact ((Below.refl _ _).alloc (Nat.le_refl _) _).alloc (by simp) _
  have HC := Lib.hid (specData_any t W1 _ (h'.keep hb1) hw)
  have HL := Lib.hid (fun W (hB : Below w.heap.size w W) => l5Left_any v W _ 2000 (h.keep hB) (by decide) (by decide))
  have HH := Lib.hid (fun (hd : DatT t) W (hB : Below w.heap.size w W) => l5Has_any v t W _ _ hd (h.keep hB) (h'.keep hB))
  have HDT := Lib.hid (fun (hd : dataB t = true) => DatT.of hd)
  have hV : hasV v t = (dataB t && (decide (v.size ≤ 2000) && hasT t v)) := rfl
  obtain ⟨N, hN⟩ : ∃ N, hasV v t = N := ⟨_, rfl⟩
  rw [hN] at hV ⊢
  have HV := Lib.hid hV
  have HW1 := Lib.hid hW1
  have HB1 := Lib.hid hb1
  have B0 := Lib.hid b0
  have B1 := Lib.hid b1
  have x0 := b0.c0
  have x1 := b0.c1
  have x2 := b0.c2
  have x3 := b0.c3
  have y0 := b1.c0
  have y1 := b1.c1
  have y2 := b1.c2
  clear h h' hw b0 b1 hb1 hW1 hN hV
  go_enter Try.func16, Try.ntmps16
  go_wp2_with fail
  rw [HW1.out]
  go_wp2_with fail
  refine HC.out.mono ?_
  rintro e w1 ⟨rfl, hb⟩
  have HB2 := Lib.hid (HB1.out.trans (hb.mono HB1.out.size))
  have C0 := Lib.hid (B0.out.under hb B0.out.lt)
  have C1 := Lib.hid (B1.out.under hb B1.out.lt)
  clear x0 x1 x2 x3 y0 y1 y2 hb HC
  cases hd : dataB t
  · have HR : Hid (Truth N w (.returned (.bool false)) w1) := truth_iff (by rw [HV.out, hd]; rfl) HB2.out
    clear hd
    go_wp2_with fail
    go_ret
    exact HR.out
  · have HD := Lib.hid (HDT.out hd)
    have HV2 : Hid (N = (decide (v.size ≤ 2000) && hasT t v)) := by rw [hd] at HV; exact HV
    have HC := Lib.hid (HL.out w1 HB2.out)
    have x0 := C0.out.c0
    have x1 := C0.out.c1
    have x2 := C0.out.c2
    have x3 := C0.out.c3
    clear hd HV HL HDT
    go_wp2_with fail
    refine HC.out.mono ?_
    rintro e w2 ⟨r, rfl, r1, r2, r3, r4, hb⟩
    have HB3 := Lib.hid (HB2.out.trans (hb.mono HB2.out.size))
    have D0 := Lib.hid (C0.out.under hb C0.out.lt)
    have D1 := Lib.hid (C1.out.under hb C1.out.lt)
    clear x0 x1 x2 x3 hb HC
    by_cases hr : 0 ≤ r
    · have HV3 : Hid (N = hasT t v) := by
        show _ = _
        have := r3 hr
        rw [HV2.out, decide_eq_true (show v.size ≤ 2000 by omega), Bool.true_and]
      have HC := Lib.hid (HH.out HD.out w2 HB3.out)
      have x0 := D0.out.c0
      have x1 := D0.out.c1
      have x2 := D0.out.c2
      have x3 := D0.out.c3
      have y0 := D1.out.c0
      have y1 := D1.out.c1
      have y2 := D1.out.c2
      clear HV2 HH r3 r4
      go_wp2_with fail
      refine HC.out.mono ?_
      rintro e w3 ⟨rfl, hb⟩
      have HR : Hid (Truth N w (.returned (.bool (hasT t v))) w3) := truth_iff HV3.out (HB3.out.trans (hb.mono HB3.out.size))
      clear hb
      go_wp2_with fail
      go_ret
      exact HR.out
    · have HR : Hid (Truth N w (.returned (.bool false)) w2) := by
        have := r4 (by omega)
        exact truth_iff (by rw [HV2.out, decide_eq_false (show ¬ v.size ≤ 2000 by omega)]; rfl) HB3.out
      clear r3 r4
      go_wp2_with fail
      go_ret
      exact HR.out
end Go.Proofs.Ytlikmgkjilmjpaa

/-
  The shape of a value's cells. Hangs on no program.
-/
namespace Go.Proofs.Ytlikmgkjilmjpaa
open Go.RowKit

theorem RVa.shape {w : World} {v : Va} {c0 c1 c2 c3 : Value} (h : RVa w v [c0, c1, c2, c3]) : ∃ p q L l c A m d, c0 = .int .i64 p ∧ c1 = .int .i64 q ∧ c2 = .slice L l c ∧ c3 = .slice A m d := by
  obtain ⟨L, c, A, d, he, _⟩ := h.open
  injection he with e0 he
  injection he with e1 he
  injection he with e2 he
  injection he with e3 _
  exact ⟨_, _, _, _, _, _, _, _, e0, e1, e2, e3⟩
end Go.Proofs.Ytlikmgkjilmjpaa

/-
  The program's kindOfType.
-/
namespace Go.Proofs.Ytlikmgkjilmjpaa
open Go.RowKit

/-- the type that stands for a kind -/
def kindT (q : Int) : TypeId := if q = 1 then 101 else if q = 2 then 102 else if q = 3 then 103 else if q = 4 then 105 else if q = 5 then 123 else 125
def KindIs (q : Int) (cs : List Value) (w : World) (e : Ending) (w' : World) : Prop := e = .returned (.iface (kindT q) (.agg cs.toArray)) ∧ Below w.heap.size w w'

set_option maxRecDepth 100000 in
set_option maxHeartbeats 800000 in
theorem kind_of (q : Int) (c1 c2 : Value) (w : World) : Calls Try.prog 78 #[.agg #[.int .i64 q, c1, c2]] w (KindIs q [.int .i64 q, c1, c2] w) := by
  have HR : Hid (∀ k, k = kindT q → KindIs q [.int .i64 q, c1, c2] w (.returned (.iface k (.agg #[.int .i64 q, c1, c2]))) (w.alloc (.cells #[.int .i64 q, c1, c2] 41))) := by
    rintro k rfl
    exact ⟨rfl, (Below.refl _ _).alloc (Nat.le_refl _) _⟩
  go_enter Try.func78, Try.ntmps78
  go_wp2_with fail
  · rename_i h
    go_ret
    exact HR.out 101 (by rw [eq_of_beq h]; rfl)
  · rename_i h
    go_ret
    exact HR.out 102 (by rw [eq_of_beq h]; rfl)
  · rename_i h
    go_ret
    exact HR.out 103 (by rw [eq_of_beq h]; rfl)
  · rename_i h
    go_ret
    exact HR.out 105 (by rw [eq_of_beq h]; rfl)
  · rename_i h
    go_ret
    exact HR.out 123 (by rw [eq_of_beq h]; rfl)
  · rename_i h1 h2 h3 h4 h5
    go_ret
    exact HR.out 125 (by unfold kindT; simp [ne_of_beq_false h1, ne_of_beq_false h2, ne_of_beq_false h3, ne_of_beq_false h4, ne_of_beq_false h5])
/-! what a test of the type gives -/
theorem as_rec_1 (v : Value) (w : World) : (Instr.typeAssert (.iface 101 v) 99 103 true).run Try.prog w = .ok (.tuple #[.agg #[.int .i64 0, .slice none 0 0, .slice none 0 0], .bool false]) w := by kernel_rfl
theorem as_rec_2 (v : Value) (w : World) : (Instr.typeAssert (.iface 102 v) 99 103 true).run Try.prog w = .ok (.tuple #[.agg #[.int .i64 0, .slice none 0 0, .slice none 0 0], .bool false]) w := by kernel_rfl
theorem as_rec_3 (v : Value) (w : World) : (Instr.typeAssert (.iface 103 v) 99 103 true).run Try.prog w = .ok (.tuple #[v, .bool true]) w := by kernel_rfl
theorem as_rec_4 (v : Value) (w : World) : (Instr.typeAssert (.iface 105 v) 99 103 true).run Try.prog w = .ok (.tuple #[.agg #[.int .i64 0, .slice none 0 0, .slice none 0 0], .bool false]) w := by kernel_rfl
theorem as_rec_5 (v : Value) (w : World) : (Instr.typeAssert (.iface 123 v) 99 103 true).run Try.prog w = .ok (.tuple #[.agg #[.int .i64 0, .slice none 0 0, .slice none 0 0], .bool false]) w := by kernel_rfl
theorem as_rec_6 (v : Value) (w : World) : (Instr.typeAssert (.iface 125 v) 99 103 true).run Try.prog w = .ok (.tuple #[.agg #[.int .i64 0, .slice none 0 0, .slice none 0 0], .bool false]) w := by kernel_rfl
theorem as_bag_1 (v : Value) (w : World) : (Instr.typeAssert (.iface 101 v) 99 105 true).run Try.prog w = .ok (.tuple #[.agg #[.int .i64 0, .slice none 0 0, .slice none 0 0], .bool false]) w := by kernel_rfl
theorem as_bag_2 (v : Value) (w : World) : (Instr.typeAssert (.iface 102 v) 99 105 true).run Try.prog w = .ok (.tuple #[.agg #[.int .i64 0, .slice none 0 0, .slice none 0 0], .bool false]) w := by kernel_rfl
theorem as_bag_3 (v : Value) (w : World) : (Instr.typeAssert (.iface 103 v) 99 105 true).run Try.prog w = .ok (.tuple #[.agg #[.int .i64 0, .slice none 0 0, .slice none 0 0], .bool false]) w := by kernel_rfl
theorem as_bag_4 (v : Value) (w : World) : (Instr.typeAssert (.iface 105 v) 99 105 true).run Try.prog w = .ok (.tuple #[v, .bool true]) w := by kernel_rfl
theorem as_bag_5 (v : Value) (w : World) : (Instr.typeAssert (.iface 123 v) 99 105 true).run Try.prog w = .ok (.tuple #[.agg #[.int .i64 0, .slice none 0 0, .slice none 0 0], .bool false]) w := by kernel_rfl
theorem as_bag_6 (v : Value) (w : World) : (Instr.typeAssert (.iface 125 v) 99 105 true).run Try.prog w = .ok (.tuple #[.agg #[.int .i64 0, .slice none 0 0, .slice none 0 0], .bool false]) w := by kernel_rfl
theorem as_fun_1 (v : Value) (w : World) : (Instr.typeAssert (.iface 101 v) 99 123 true).run Try.prog w = .ok (.tuple #[.agg #[.int .i64 0, .slice none 0 0, .slice none 0 0], .bool false]) w := by kernel_rfl
theorem as_fun_2 (v : Value) (w : World) : (Instr.typeAssert (.iface 102 v) 99 123 true).run Try.prog w = .ok (.tuple #[.agg #[.int .i64 0, .slice none 0 0, .slice none 0 0], .bool false]) w := by kernel_rfl
theorem as_fun_3 (v : Value) (w : World) : (Instr.typeAssert (.iface 103 v) 99 123 true).run Try.prog w = .ok (.tuple #[.agg #[.int .i64 0, .slice none 0 0, .slice none 0 0], .bool false]) w := by kernel_rfl
theorem as_fun_4 (v : Value) (w : World) : (Instr.typeAssert (.iface 105 v) 99 123 true).run Try.prog w = .ok (.tuple #[.agg #[.int .i64 0, .slice none 0 0, .slice none 0 0], .bool false]) w := by kernel_rfl
theorem as_fun_5 (v : Value) (w : World) : (Instr.typeAssert (.iface 123 v) 99 123 true).run Try.prog w = .ok (.tuple #[v, .bool true]) w := by kernel_rfl
theorem as_fun_6 (v : Value) (w : World) : (Instr.typeAssert (.iface 125 v) 99 123 true).run Try.prog w = .ok (.tuple #[.agg #[.int .i64 0, .slice none 0 0, .slice none 0 0], .bool false]) w := by kernel_rfl
theorem as_int_1 (v : Value) (w : World) : (Instr.typeAssert (.iface 101 v) 99 101 true).run Try.prog w = .ok (.tuple #[v, .bool true]) w := by kernel_rfl
theorem as_int_2 (v : Value) (w : World) : (Instr.typeAssert (.iface 102 v) 99 101 true).run Try.prog w = .ok (.tuple #[.agg #[.int .i64 0, .slice none 0 0, .slice none 0 0], .bool false]) w := by kernel_rfl
theorem as_int_3 (v : Value) (w : World) : (Instr.typeAssert (.iface 103 v) 99 101 true).run Try.prog w = .ok (.tuple #[.agg #[.int .i64 0, .slice none 0 0, .slice none 0 0], .bool false]) w := by kernel_rfl
theorem as_int_4 (v : Value) (w : World) : (Instr.typeAssert (.iface 105 v) 99 101 true).run Try.prog w = .ok (.tuple #[.agg #[.int .i64 0, .slice none 0 0, .slice none 0 0], .bool false]) w := by kernel_rfl
theorem as_int_5 (v : Value) (w : World) : (Instr.typeAssert (.iface 123 v) 99 101 true).run Try.prog w = .ok (.tuple #[.agg #[.int .i64 0, .slice none 0 0, .slice none 0 0], .bool false]) w := by kernel_rfl
theorem as_int_6 (v : Value) (w : World) : (Instr.typeAssert (.iface 125 v) 99 101 true).run Try.prog w = .ok (.tuple #[.agg #[.int .i64 0, .slice none 0 0, .slice none 0 0], .bool false]) w := by kernel_rfl
theorem as_bool_1 (v : Value) (w : World) : (Instr.typeAssert (.iface 101 v) 99 102 true).run Try.prog w = .ok (.tuple #[.agg #[.int .i64 0, .slice none 0 0, .slice none 0 0], .bool false]) w := by kernel_rfl
theorem as_bool_2 (v : Value) (w : World) : (Instr.typeAssert (.iface 102 v) 99 102 true).run Try.prog w = .ok (.tuple #[v, .bool true]) w := by kernel_rfl
theorem as_bool_3 (v : Value) (w : World) : (Instr.typeAssert (.iface 103 v) 99 102 true).run Try.prog w = .ok (.tuple #[.agg #[.int .i64 0, .slice none 0 0, .slice none 0 0], .bool false]) w := by kernel_rfl
theorem as_bool_4 (v : Value) (w : World) : (Instr.typeAssert (.iface 105 v) 99 102 true).run Try.prog w = .ok (.tuple #[.agg #[.int .i64 0, .slice none 0 0, .slice none 0 0], .bool false]) w := by kernel_rfl
theorem as_bool_5 (v : Value) (w : World) : (Instr.typeAssert (.iface 123 v) 99 102 true).run Try.prog w = .ok (.tuple #[.agg #[.int .i64 0, .slice none 0 0, .slice none 0 0], .bool false]) w := by kernel_rfl
theorem as_bool_6 (v : Value) (w : World) : (Instr.typeAssert (.iface 125 v) 99 102 true).run Try.prog w = .ok (.tuple #[.agg #[.int .i64 0, .slice none 0 0, .slice none 0 0], .bool false]) w := by kernel_rfl
/-! the methods that a call through the interface comes to; 100 more than the program has types -/
theorem meth_1 (v : Value) (w : World) : (method 276 101 v "loop.example/g00587/impl.hasItsParts").run Try.prog w = .ok (145, v) w := by kernel_rfl
theorem meth_2 (v : Value) (w : World) : (method 276 102 v "loop.example/g00587/impl.hasItsParts").run Try.prog w = .ok (147, v) w := by kernel_rfl
theorem meth_3 (v : Value) (w : World) : (method 276 103 v "loop.example/g00587/impl.hasItsParts").run Try.prog w = .ok (148, v) w := by kernel_rfl
theorem meth_4 (v : Value) (w : World) : (method 276 105 v "loop.example/g00587/impl.hasItsParts").run Try.prog w = .ok (152, v) w := by kernel_rfl
theorem meth_5 (v : Value) (w : World) : (method 276 123 v "loop.example/g00587/impl.hasItsParts").run Try.prog w = .ok (153, v) w := by kernel_rfl
theorem meth_6 (v : Value) (w : World) : (method 276 125 v "loop.example/g00587/impl.hasItsParts").run Try.prog w = .ok (154, v) w := by kernel_rfl
end Go.Proofs.Ytlikmgkjilmjpaa
