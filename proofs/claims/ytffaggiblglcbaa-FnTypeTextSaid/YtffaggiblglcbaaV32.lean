/-
  Merged by program: CutT.
-/
import Derived.Test.YtffaggiblglcbaaV25
import Derived.Laws.EntriesVeiled
import Derived.Test.YtffaggiblglcbaaV31

/-
  The program's cutType, ParseType.
-/
namespace Go.Proofs.Ytffaggiblglcbaa
open Go.RowKit

theorem readType_any (H : Nat) (s : ByteArray) (hs : s.size ≤ 1048576) : ∀ (d n : Nat) (r : List UInt8) (w : World), n ≤ 24 → 24 < n + d → St H s n r w →
    Calls Try.prog 60 #[.pointer (some ⟨H + 3, 0, none⟩), .pointer (some ⟨H + 5, 0, none⟩), .pointer (some ⟨H + 8, 0, none⟩), .pointer (some ⟨H + 6, 0, none⟩)] w (TypP H s (rd d r n) w)
  | 0, n, r, w, h1, h2, h => by omega
  | d + 1, n, r, w, h1, h2, h => readType_step H s d hs (readType_any H s hs d) n r w h1 h2 h

/-- a new variable that holds a function -/
def addF (W : World) (T : TypeId) (v : Value) : World := W.alloc (.cells #[v] T)
section
variable {W : World} {k : Nat} {T : TypeId} {v : Value}
theorem addF_new (hz : W.heap.size = k) : Boxed (addF W T v) k T v := by
  have := Boxed.new W T v
  rw [hz] at this
  exact this
theorem addF_old {b : Nat} {t : TypeId} {x : Value} (h : Boxed W b t x) : Boxed (addF W T v) b t x := Boxed.alloc h _
theorem addF_box {b : Nat} {t : TypeId} {x y z : Value} (h : Box3 W b t x y z) : Box3 (addF W T v) b t x y z := h.alloc _
theorem addF_size (hz : W.heap.size = k) : (addF W T v).heap.size = k + 1 := by simp [addF, hz]
theorem addF_below : Below W.heap.size W (addF W T v) := (Below.refl _ _).alloc (Nat.le_refl _) _
end
/-- the variables laid -/
def cw1 (w : World) (s : ByteArray) : World := (w.alloc (.cells #[.string s] 9)).alloc (.cells #[.int .i64 0, .slice none 0 0, .slice none 0 0] 27)
def cw3 (W : World) : World := ((W.alloc (.cells #[.int .i64 0] 3)).alloc (.cells #[.int .i64 0] 3)).alloc (.cells #[.nilFunc] 82)
theorem cw_start (w : World) (s : ByteArray) (H : Nat) (hH : w.heap.size = H) : (cw3 (cw1 w s)).heap.size = H + 5 ∧ Below w.heap.size w (cw3 (cw1 w s)) ∧ Boxed (cw3 (cw1 w s)) H 9 (.string s) ∧
    Box3 (cw3 (cw1 w s)) (H + 1) 27 (.int .i64 0) (.slice none 0 0) (.slice none 0 0) ∧ Boxed (cw3 (cw1 w s)) (H + 2) 3 (.int .i64 0) ∧ Boxed (cw3 (cw1 w s)) (H + 3) 3 (.int .i64 0) ∧ Boxed (cw3 (cw1 w s)) (H + 4) 82 .nilFunc := by
  subst hH
  have z1 : (cw1 w s).heap.size = w.heap.size + 2 := by simp [cw1]
  have b1 : Below w.heap.size w (cw1 w s) := ((Below.refl _ _).alloc (Nat.le_refl _) _).alloc (by simp) _
  have b3 : Below (cw1 w s).heap.size (cw1 w s) (cw3 (cw1 w s)) := (((Below.refl _ _).alloc (Nat.le_refl _) _).alloc (by simp) _).alloc (by simp; omega) _
  have e0 : Boxed (cw1 w s) w.heap.size 9 (.string s) := Boxed.alloc (Boxed.new w _ _) _
  have e1 : Box3 (cw1 w s) (w.heap.size + 1) 27 (.int .i64 0) (.slice none 0 0) (.slice none 0 0) := by
    have := Box3.new (w.alloc (.cells #[.string s] 9)) 27 (.int .i64 0) (.slice none 0 0) (.slice none 0 0)
    rw [World.size_alloc] at this
    exact this
  refine ⟨by simp [cw3, z1], b1.trans (b3.mono b1.size), (b3.block _ e0.lt).trans e0, e1.under b3 e1.lt, ?_, ?_, ?_⟩
  · have := Boxed.alloc (Boxed.alloc (Boxed.new (cw1 w s) 3 (.int .i64 0)) (.cells #[.int .i64 0] 3)) (.cells #[.nilFunc] 82)
    rw [z1] at this
    exact this
  · have := Boxed.alloc (Boxed.new ((cw1 w s).alloc (.cells #[.int .i64 0] 3)) 3 (.int .i64 0)) (.cells #[.nilFunc] 82)
    rw [World.size_alloc, z1] at this
    exact this
  · have := Boxed.new (((cw1 w s).alloc (.cells #[.int .i64 0] 3)).alloc (.cells #[.int .i64 0] 3)) 82 .nilFunc
    rw [World.size_alloc, World.size_alloc, z1] at this
    exact this
def cw7 (W : World) (H : Nat) : World := addF (addF (addF (addF W 83 (fnRead H)) 85 (fnArg H)) 85 (fnLab H)) 85 (fnFld H)
def cw8 (W : World) (H : Nat) : World := (cw7 W H).setCell ⟨H + 4, 0, none⟩ (fnTyp H)
theorem cw_all (w : World) (s : ByteArray) (H : Nat) (hH : w.heap.size = H) : St H s 0 s.data.toList (cw8 (cw3 (cw1 w s)) H) ∧ Box3 (cw8 (cw3 (cw1 w s)) H) (H + 1) 27 (.int .i64 0) (.slice none 0 0) (.slice none 0 0) ∧ Below w.heap.size w (cw8 (cw3 (cw1 w s)) H) ∧ (cw8 (cw3 (cw1 w s)) H).heap.size = H + 9 ∧
    Boxed (cw7 (cw3 (cw1 w s)) H) (H + 4) 82 .nilFunc := by
  obtain ⟨z3, b3, e0, e1, e2, e3, e4⟩ := cw_start w s H hH
  generalize cw3 (cw1 w s) = W at z3 b3 e0 e1 e2 e3 e4 ⊢
  have e0_5 := addF_old (T := 83) (v := fnRead H) e0
  have e2_5 := addF_old (T := 83) (v := fnRead H) e2
  have e3_5 := addF_old (T := 83) (v := fnRead H) e3
  have e4_5 := addF_old (T := 83) (v := fnRead H) e4
  have bx_5 := addF_box (T := 83) (v := fnRead H) e1
  have m5_5 := addF_new (T := 83) (v := fnRead H) z3
  have bl_5 := b3.trans ((addF_below (T := 83) (v := fnRead H)).mono b3.size)
  have z_5 := addF_size (T := 83) (v := fnRead H) z3
  generalize hV5 : addF W 83 (fnRead H) = V5 at e0_5 e2_5 e3_5 e4_5 bx_5 m5_5 bl_5 z_5
  have e0_6 := addF_old (T := 85) (v := fnArg H) e0_5
  have e2_6 := addF_old (T := 85) (v := fnArg H) e2_5
  have e3_6 := addF_old (T := 85) (v := fnArg H) e3_5
  have e4_6 := addF_old (T := 85) (v := fnArg H) e4_5
  have m5_6 := addF_old (T := 85) (v := fnArg H) m5_5
  have bx_6 := addF_box (T := 85) (v := fnArg H) bx_5
  have m6_6 := addF_new (T := 85) (v := fnArg H) z_5
  have bl_6 := bl_5.trans ((addF_below (T := 85) (v := fnArg H)).mono bl_5.size)
  have z_6 := addF_size (T := 85) (v := fnArg H) z_5
  generalize hV6 : addF V5 85 (fnArg H) = V6 at e0_6 e2_6 e3_6 e4_6 m5_6 bx_6 m6_6 bl_6 z_6
  have e0_7 := addF_old (T := 85) (v := fnLab H) e0_6
  have e2_7 := addF_old (T := 85) (v := fnLab H) e2_6
  have e3_7 := addF_old (T := 85) (v := fnLab H) e3_6
  have e4_7 := addF_old (T := 85) (v := fnLab H) e4_6
  have m5_7 := addF_old (T := 85) (v := fnLab H) m5_6
  have m6_7 := addF_old (T := 85) (v := fnLab H) m6_6
  have bx_7 := addF_box (T := 85) (v := fnLab H) bx_6
  have m7_7 := addF_new (T := 85) (v := fnLab H) z_6
  have bl_7 := bl_6.trans ((addF_below (T := 85) (v := fnLab H)).mono bl_6.size)
  have z_7 := addF_size (T := 85) (v := fnLab H) z_6
  generalize hV7 : addF V6 85 (fnLab H) = V7 at e0_7 e2_7 e3_7 e4_7 m5_7 m6_7 bx_7 m7_7 bl_7 z_7
  have e0_8 := addF_old (T := 85) (v := fnFld H) e0_7
  have e2_8 := addF_old (T := 85) (v := fnFld H) e2_7
  have e3_8 := addF_old (T := 85) (v := fnFld H) e3_7
  have e4_8 := addF_old (T := 85) (v := fnFld H) e4_7
  have m5_8 := addF_old (T := 85) (v := fnFld H) m5_7
  have m6_8 := addF_old (T := 85) (v := fnFld H) m6_7
  have m7_8 := addF_old (T := 85) (v := fnFld H) m7_7
  have bx_8 := addF_box (T := 85) (v := fnFld H) bx_7
  have m8_8 := addF_new (T := 85) (v := fnFld H) z_7
  have bl_8 := bl_7.trans ((addF_below (T := 85) (v := fnFld H)).mono bl_7.size)
  have z_8 := addF_size (T := 85) (v := fnFld H) z_7
  generalize hV8 : addF V7 85 (fnFld H) = V8 at e0_8 e2_8 e3_8 e4_8 m5_8 m6_8 m7_8 bx_8 m8_8 bl_8 z_8
  have hf : cw7 W H = V8 := by unfold cw7; rw [hV5, hV6, hV7, hV8]
  unfold cw8
  rw [hf]
  have far : ∀ x, x ≠ H + 4 → x ≠ (⟨H + 4, 0, none⟩ : Addr).block := fun x hx => hx
  refine ⟨⟨⟨Boxed.far e0_8 (far _ (by omega)) _, Boxed.set e4_8 _, Boxed.far m5_8 (far _ (by omega)) _, Boxed.far m6_8 (far _ (by omega)) _, Boxed.far m7_8 (far _ (by omega)) _, Boxed.far m8_8 (far _ (by omega)) _⟩, ⟨0, Boxed.far e2_8 (far _ (by omega)) _, At.zero s⟩, Boxed.far e3_8 (far _ (by omega)) _⟩, bx_8.far (far _ (by omega)) _, bl_8.setCell (by show w.heap.size ≤ H + 4; omega) _, by simp [World.setCell, z_8], e4_8⟩

/-- what cutType leaves -/
def CutTP (s : ByteArray) (w : World) (e : Ending) (w' : World) : Prop :=
  ∃ (t : Ty) (ok : Bool) (n : Nat) (r : List UInt8) (L A : Option Addr) (c d : Nat) (fp : List Nat), e = .returned (.tuple #[.agg #[.int .i64 t.top.kind, .slice L t.top.labels.length c, .slice A t.kids.length d], .string (bs r), .bool ok]) ∧
    OTy w' t [.int .i64 t.top.kind, .slice L t.top.labels.length c, .slice A t.kids.length d] fp ∧ (∀ x ∈ fp, w.heap.size ≤ x ∧ x < w'.heap.size) ∧ Below w.heap.size w w' ∧ Rr (rd 25 s.data.toList 0) t r n ok
theorem cutt_done {s : ByteArray} {w w2 U : World} {t : Ty} {ok : Bool} {n G : Nat} {r : List UInt8} {L A : Option Addr} {c d : Nat} {fp : List Nat} {y0 : Int} {y1 y2 : Nat} {z : ByteArray} (e0 : t.top.kind = y0) (e1 : t.top.labels.length = y1) (e2 : t.kids.length = y2) (ez : z = bs r) (hot : OTy w2 t [.int .i64 y0, .slice L y1 c, .slice A y2 d] fp)
    (hfp : ∀ x ∈ fp, G < x ∧ x < w2.heap.size) (hb : Below w.heap.size w w2) (hG : w.heap.size ≤ G) (hU : w2.grownBy U (some G)) (ho : Rr (rd 25 s.data.toList 0) t r n ok) : CutTP s w (.returned (.tuple #[.agg #[.int .i64 y0, .slice L y1 c, .slice A y2 d], .string z, .bool ok])) U := by
  subst e0 e1 e2 ez
  have hs := hU.size
  exact ⟨t, ok, n, r, L, A, c, d, fp, rfl, hot.keep hU (fun x hx e => by injection e with e; have := hfp x hx; omega), fun x hx => by have := hfp x hx; omega, hb.grown hU hb.size (fun k hk => by injection hk with hk; omega), ho⟩

set_option maxHeartbeats 3200000 in
set_option maxRecDepth 100000 in
theorem cutType_any (s : ByteArray) (w : World) (hs : s.size ≤ 1048576) : Calls Try.prog 24 #[.string s] w (CutTP s w) := by
  obtain ⟨H, hH⟩ : ∃ H, w.heap.size = H := ⟨_, rfl⟩
  have hall := cw_all w s H hH
  obtain ⟨z3, -, -, -, -, -, e4⟩ := cw_start w s H hH
  have HA := Lib.hid hall
  clear hall
  go_enter Try.func24, Try.ntmps24
  go_upto_region 1 with (fail)
  obtain ⟨W1, hW1⟩ : ∃ W1, (w.alloc (.cells #[.string s] 9)).alloc (.cells #[.int .i64 0, .slice none 0 0, .slice none 0 0] 27) = W1 := ⟨_, rfl⟩
  have hz1 : W1.heap.size = H + 2 := by rw [← hW1]; simp [hH]
  have HW1 := Lib.hid hW1
  clear hW1
  rw [HW1.out]
  go_upto_region 3 with (fail)
  simp only [show H + 2 + 1 = H + 3 from rfl, show H + 3 + 1 = H + 4 from rfl]
  obtain ⟨W3, hW3⟩ : ∃ W3, ((W1.alloc (.cells #[.int .i64 0] 3)).alloc (.cells #[.int .i64 0] 3)).alloc (.cells #[.nilFunc] 82) = W3 := ⟨_, rfl⟩
  have hw3 : cw3 (cw1 w s) = W3 := by rw [← hW3, ← HW1.out]; rfl
  rw [hw3] at z3 e4 HA
  rw [hW3]
  clear hW3 hw3 hz1
  have z4n := z3
  go_upto_region 4 with (fail)
  have zz5 := addF_size (T := 83) (v := fnRead H) z3
  obtain ⟨V5, hV5⟩ : ∃ V, addF W3 83 (fnRead H) = V := ⟨_, rfl⟩
  have hv5 : W3.alloc (.cells #[fnRead H] 83) = V5 := hV5
  unfold fnRead at hv5
  rw [hv5]
  rw [hV5] at zz5
  have HV5 := Lib.hid hV5
  clear hv5 hV5 z4n z3
  have z5n := zz5
  go_upto_region 5 with (fail)
  have zz6 := addF_size (T := 85) (v := fnArg H) zz5
  obtain ⟨V6, hV6⟩ : ∃ V, addF V5 85 (fnArg H) = V := ⟨_, rfl⟩
  have hv6 : V5.alloc (.cells #[fnArg H] 85) = V6 := hV6
  unfold fnArg at hv6
  rw [hv6]
  rw [hV6] at zz6
  have HV6 := Lib.hid hV6
  clear hv6 hV6 z5n zz5
  have z6n := zz6
  go_upto_region 6 with (fail)
  have zz7 := addF_size (T := 85) (v := fnLab H) zz6
  obtain ⟨V7, hV7⟩ : ∃ V, addF V6 85 (fnLab H) = V := ⟨_, rfl⟩
  have hv7 : V6.alloc (.cells #[fnLab H] 85) = V7 := hV7
  unfold fnLab at hv7
  rw [hv7]
  rw [hV7] at zz7
  have HV7 := Lib.hid hV7
  clear hv7 hV7 z6n zz6
  have z7n := zz7
  go_upto_region 7 with (fail)
  have zz8 := addF_size (T := 85) (v := fnFld H) zz7
  obtain ⟨V8, hV8⟩ : ∃ V, addF V7 85 (fnFld H) = V := ⟨_, rfl⟩
  have hv8 : V7.alloc (.cells #[fnFld H] 85) = V8 := hV8
  unfold fnFld at hv8
  rw [hv8]
  rw [hV8] at zz8
  have HV8 := Lib.hid hV8
  clear hv8 hV8 z7n zz7
  have hf7 : cw7 W3 H = V8 := by unfold cw7; rw [HV5.out, HV6.out, HV7.out, HV8.out]
  obtain ⟨hst, hbx, hbl, hz9, hn4⟩ := HA.out
  unfold cw8 at hst hbx hbl hz9
  rw [hf7] at hst hbx hbl hz9 hn4
  have c4 := hn4.cell
  have f4 := Boxed.free hn4
  go_upto_region 8 with (fail)
  clear c4 f4
  obtain ⟨W9, hW9⟩ : ∃ W, V8.setCell ⟨H + 4, 0, none⟩ (fnTyp H) = W := ⟨_, rfl⟩
  have hw9 : V8.setCell ⟨H + 4, 0, none⟩ (.func (.func 60) #[] #[.pointer (some ⟨H + 3, 0, none⟩), .pointer (some ⟨H + 5, 0, none⟩), .pointer (some ⟨H + 8, 0, none⟩), .pointer (some ⟨H + 6, 0, none⟩)]) = W9 := hW9
  rw [hw9]
  rw [hW9] at hst hbx hbl hz9
  have HRT := Lib.hid (readType_any H s hs 25 0 s.data.toList W9 (by omega) (by omega) hst)
  have x4 : W9.cell? ⟨H + 4, 0, none⟩ = some (.func (.func 60) #[] #[.pointer (some ⟨H + 3, 0, none⟩), .pointer (some ⟨H + 5, 0, none⟩), .pointer (some ⟨H + 8, 0, none⟩), .pointer (some ⟨H + 6, 0, none⟩)]) := hst.1.ct.cell
  have HBX := Lib.hid hbx
  have HBL := Lib.hid hbl
  have HZ9 := Lib.hid hz9
  clear hf7 hst hbx hbl hz9 hn4 hW9 hw9 zz8 e4
  go_wp2_with fail
  refine HRT.out.mono ?_
  rintro e w5 ⟨t, ok, n5, r5, L5, A5, c5, d5, fp, rfl, hot, hfp, hst5, hf5, hrr⟩
  clear x4
  obtain ⟨y0, hy0⟩ : ∃ y, t.top.kind = y := ⟨_, rfl⟩
  obtain ⟨y1, hy1⟩ : ∃ y, t.top.labels.length = y := ⟨_, rfl⟩
  obtain ⟨y2, hy2⟩ : ∃ y, t.kids.length = y := ⟨_, rfl⟩
  rw [hy0, hy1, hy2] at hot
  rw [hy0, hy1, hy2]
  obtain ⟨N, hN⟩ : ∃ N, w5.heap.size = N := ⟨_, rfl⟩
  have hz9 := HZ9.out
  have hs5 := hf5.size
  have hb6 : Below w5.heap.size w5 (w5.alloc (.cells #[.int .i64 y0, .slice L5 y1 c5, .slice A5 y2 d5] 27)).drew := ((Below.refl _ _).alloc (Nat.le_refl _) _).drew
  have hbx6 : Box3 (w5.alloc (.cells #[.int .i64 y0, .slice L5 y1 c5, .slice A5 y2 d5] 27)).drew N 27 (.int .i64 y0) (.slice L5 y1 c5) (.slice A5 y2 d5) := by rw [← hN]; exact Box3.new w5 _ _ _ _
  have hst6 := hst5.under hb6
  have hbh6 := (HBX.out.fr hf5 (by omega) (by omega) (by omega)).under hb6 (by omega)
  have hbw : Below w.heap.size w (w5.alloc (.cells #[.int .i64 y0, .slice L5 y1 c5, .slice A5 y2 d5] 27)).drew := (((Fr.of_below HBL.out).trans (hf5.mono (by omega))).below (by omega) (by omega)).trans (hb6.mono (by omega))
  have hot6 := hot.under hb6
  have hfp6 : ∀ x ∈ fp, H + 1 < x ∧ x < (w5.alloc (.cells #[.int .i64 y0, .slice L5 y1 c5, .slice A5 y2 d5] 27)).drew.heap.size := fun x hx => by have h1 := hfp x hx; have h2 := hb6.size; omega
  obtain ⟨p, hp6, hat⟩ := hst6.2.1
  have hext := hat.ext
  have hpz := hat.len
  have HD : Hid (∀ U, (w5.alloc (.cells #[.int .i64 y0, .slice L5 y1 c5, .slice A5 y2 d5] 27)).drew.grownBy U (some (H + 1)) → CutTP s w (.returned (.tuple #[.agg #[.int .i64 y0, .slice L5 y1 c5, .slice A5 y2 d5], .string (s.extract p s.size), .bool ok])) U) := Lib.hid (fun U hU => cutt_done hy0 hy1 hy2 hext hot6 hfp6 hbw (by omega) hU hrr)
  have HBH := Lib.hid hbh6
  have u0 := hbx6.c0
  have u1 := hbx6.c1
  have u2 := hbx6.c2
  have us := hst6.1.cs.cell
  have up := hp6.cell
  have q0 := hbh6.c0
  have q1 := hbh6.c1
  have q2 := hbh6.c2
  have g0 := hbh6.free 0
  have g1 := hbh6.free 1
  have g2 := hbh6.free 2
  have q1' : (w5.alloc (.cells #[.int .i64 y0, .slice L5 y1 c5, .slice A5 y2 d5] 27)).cell? ⟨H + 1, 1, none⟩ = some (.slice none 0 0) := q1
  have q2' : (w5.alloc (.cells #[.int .i64 y0, .slice L5 y1 c5, .slice A5 y2 d5] 27)).cell? ⟨H + 1, 2, none⟩ = some (.slice none 0 0) := q2
  have q0' : (w5.alloc (.cells #[.int .i64 y0, .slice L5 y1 c5, .slice A5 y2 d5] 27)).cell? ⟨H + 1, 0, none⟩ = some (.int .i64 0) := q0
  have g0' : (w5.alloc (.cells #[.int .i64 y0, .slice L5 y1 c5, .slice A5 y2 d5] 27)).frozen? ⟨H + 1, 0, none⟩ = false := g0
  have g1' : (w5.alloc (.cells #[.int .i64 y0, .slice L5 y1 c5, .slice A5 y2 d5] 27)).frozen? ⟨H + 1, 1, none⟩ = false := g1
  have g2' : (w5.alloc (.cells #[.int .i64 y0, .slice L5 y1 c5, .slice A5 y2 d5] 27)).frozen? ⟨H + 1, 2, none⟩ = false := g2
  have u0' : (w5.alloc (.cells #[.int .i64 y0, .slice L5 y1 c5, .slice A5 y2 d5] 27)).cell? ⟨N, 0, none⟩ = some (.int .i64 y0) := u0
  have u1' : (w5.alloc (.cells #[.int .i64 y0, .slice L5 y1 c5, .slice A5 y2 d5] 27)).cell? ⟨N, 1, none⟩ = some (.slice L5 y1 c5) := u1
  have u2' : (w5.alloc (.cells #[.int .i64 y0, .slice L5 y1 c5, .slice A5 y2 d5] 27)).cell? ⟨N, 2, none⟩ = some (.slice A5 y2 d5) := u2
  have us' : (w5.alloc (.cells #[.int .i64 y0, .slice L5 y1 c5, .slice A5 y2 d5] 27)).cell? ⟨H, 0, none⟩ = some (.string s) := us
  have up' : (w5.alloc (.cells #[.int .i64 y0, .slice L5 y1 c5, .slice A5 y2 d5] 27)).cell? ⟨H + 2, 0, none⟩ = some (.int .i64 (p : Int)) := up
  have hpi : (p : Int) ≤ (s.size : Int) := by omega
  clear hy0 hy1 hy2 hot hfp hst5 hf5 hrr hs5 hb6 hbx6 hst6 hbh6 hbw hot6 hfp6 hp6 hat hext hpz hz9
  go_upto_region 9 with (fail)
  have hM : ((((w5.alloc (.cells #[.int .i64 y0, .slice L5 y1 c5, .slice A5 y2 d5] 27)).setCell ⟨H + 1, 0, none⟩ (.int .i64 y0)).setCell ⟨H + 1, 1, none⟩ (.slice L5 y1 c5)).setCell ⟨H + 1, 2, none⟩ (.slice A5 y2 d5)).cell? ⟨H + 1, 0, none⟩ = some (.int .i64 y0) ∧ ((((w5.alloc (.cells #[.int .i64 y0, .slice L5 y1 c5, .slice A5 y2 d5] 27)).setCell ⟨H + 1, 0, none⟩ (.int .i64 y0)).setCell ⟨H + 1, 1, none⟩ (.slice L5 y1 c5)).setCell ⟨H + 1, 2, none⟩ (.slice A5 y2 d5)).cell? ⟨H + 1, 1, none⟩ = some (.slice L5 y1 c5) ∧ ((((w5.alloc (.cells #[.int .i64 y0, .slice L5 y1 c5, .slice A5 y2 d5] 27)).setCell ⟨H + 1, 0, none⟩ (.int .i64 y0)).setCell ⟨H + 1, 1, none⟩ (.slice L5 y1 c5)).setCell ⟨H + 1, 2, none⟩ (.slice A5 y2 d5)).cell? ⟨H + 1, 2, none⟩ = some (.slice A5 y2 d5) ∧ CutTP s w (.returned (.tuple #[.agg #[.int .i64 y0, .slice L5 y1 c5, .slice A5 y2 d5], .string (s.extract p s.size), .bool ok])) ((((w5.alloc (.cells #[.int .i64 y0, .slice L5 y1 c5, .slice A5 y2 d5] 27)).setCell ⟨H + 1, 0, none⟩ (.int .i64 y0)).setCell ⟨H + 1, 1, none⟩ (.slice L5 y1 c5)).setCell ⟨H + 1, 2, none⟩ (.slice A5 y2 d5)).drew := by
    have hb := ((HBH.out.set0 (.int .i64 y0)).set1 (.slice L5 y1 c5)).set2 (.slice A5 y2 d5)
    refine ⟨hb.c0, hb.c1, hb.c2, ?_⟩
    have hg : (w5.alloc (.cells #[.int .i64 y0, .slice L5 y1 c5, .slice A5 y2 d5] 27)).drew.grownBy ((((w5.alloc (.cells #[.int .i64 y0, .slice L5 y1 c5, .slice A5 y2 d5] 27)).drew.setCell ⟨H + 1, 0, none⟩ (.int .i64 y0)).setCell ⟨H + 1, 1, none⟩ (.slice L5 y1 c5)).setCell ⟨H + 1, 2, none⟩ (.slice A5 y2 d5)) (some (H + 1)) := grown_set (grown_set (grown_set (World.grownBy.refl _ _) _) _) _
    exact HD.out _ hg
  obtain ⟨t0, t1, t2, hP⟩ := hM
  have HP := Lib.hid hP
  have T0 := Lib.hid t0
  have T1 := Lib.hid t1
  have T2 := Lib.hid t2
  clear hP t0 t1 t2 HD HBH
  go_region_law (fail)
  all_goals go_wp2_with fail
  all_goals (have t0 := T0.out; have t1 := T1.out; have t2 := T2.out)
  all_goals exact bodyPost_ret (v := .tuple #[.agg #[.int .i64 y0, .slice L5 y1 c5, .slice A5 y2 d5], .string (s.extract p s.size), .bool ok]) (by simp [results, Try.results24, go_sem, t0, t1, t2]) rfl HP.out
end Go.Proofs.Ytffaggiblglcbaa
