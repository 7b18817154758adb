/-
  Merged by program: RdF, RdT.
-/
import Derived.Test.YtffaggiblglcbaaV23

/-
  The program's reader of types: readFields.
-/
namespace Go.Proofs.Ytffaggiblglcbaa
open Go.RowKit

/-- how many nodes were met -/
def numOf (w : World) (H : Nat) : Nat := match w.cell? ⟨H + 3, 0, none⟩ with
  | some v => (intOf v).toNat
  | none => 0
theorem numOf_st {w : World} {H n : Nat} {s : ByteArray} {r : List UInt8} (h : St H s n r w) : numOf w H = n := by
  unfold numOf
  rw [h.2.2.cell]
  simp [intOf]
section
variable {P : List UInt8 → Nat → Option (Ty × List UInt8 × Nat)} {k n n2 : Nat} {r r1 r2 r3 l : List UInt8} {t : Ty}
theorem rdF_lab (h : cutC r = none) : rdF P k r n = none := by
  cases k with
  | zero => rfl
  | succ k => unfold rdF; rw [h]; rfl
theorem rdF_arg (h : cutC r = some (l, r1)) (h2 : P r1 n = none) : rdF P k r n = none := by
  cases k with
  | zero => rfl
  | succ k =>
    unfold rdF
    rw [h]
    simp only [Option.bind_some]
    rw [h2]
    rfl
theorem rdF_more (h : cutC r = some (l, r1)) (h2 : P r1 n = some (t, r2, n2)) (h3 : tk 44 r2 = some r3) : rdF P (k + 1) r n = (rdF P k r3 n2).map fun y => (bs l :: y.1, t :: y.2.1, y.2.2) := by
  conv => lhs; unfold rdF
  rw [h]
  simp only [Option.bind_some]
  rw [h2]
  simp only [Option.bind_some]
  rw [h3]
theorem rdF_end (h : cutC r = some (l, r1)) (h2 : P r1 n = some (t, r2, n2)) (h3 : tk 44 r2 = none) : rdF P (k + 1) r n = (tk 125 r2).map fun r3 => ([bs l], [t], r3, n2) := by
  conv => lhs; unfold rdF
  rw [h]
  simp only [Option.bind_some]
  rw [h2]
  simp only [Option.bind_some]
  rw [h3]
end
/-- what readFields leaves -/
def FldP (H : Nat) (s : ByteArray) (B g : Nat) (κ : Int) (w0 : World) (o : Option (List ByteArray × List Ty × List UInt8 × Nat)) (e : Ending) (w' : World) : Prop :=
  ∃ (ok : Bool) (ls : List ByteArray) (ts : List Ty) (n : Nat) (r : List UInt8) (L A : Option Addr) (lc d : Nat) (xs : List Value) (fs : Nat → List Nat), e = .returned (.bool ok) ∧ IMid H s B g κ w0 ls ts n r L A lc d xs fs w' ∧ ls.length ≤ 1000 ∧ ts.length ≤ 1000 ∧ ((ok = true ∧ o = some (ls, ts, r, n)) ∨ (ok = false ∧ o = none))
/-- what its loop keeps -/
def FldInv (H : Nat) (s : ByteArray) (B g : Nat) (κ : Int) (w0 : World) (P : List UInt8 → Nat → Option (Ty × List UInt8 × Nat)) (o : Option (List ByteArray × List Ty × List UInt8 × Nat)) (n0 : Nat) (wr : World) : Prop :=
  ∃ (ls : List ByteArray) (ts : List Ty) (n : Nat) (r : List UInt8) (k : Nat) (L A : Option Addr) (lc d : Nat) (xs : List Value) (fs : Nat → List Nat), IMid H s B g κ w0 ls ts n r L A lc d xs fs wr ∧ n0 ≤ n ∧ n ≤ 24 ∧ 24 < n + k ∧ o = (rdF P k r n).map (fun y => (ls ++ y.1, ts ++ y.2.1, y.2.2)) ∧ ls.length = ts.length ∧ ls.length ≤ n

set_option maxHeartbeats 6400000 in
set_option maxRecDepth 100000 in
theorem readFields_any (H : Nat) (s : ByteArray) (D : Nat) (n0 : Nat) (r0 : List UInt8) (hn0 : n0 ≤ 24) (hnd : 24 < n0 + D) (hs : s.size ≤ 1048576)
    (hty : ∀ (n : Nat) (r : List UInt8) (w : World), n ≤ 24 → 24 < n + D → St H s n r w → Calls Try.prog 60 #[.pointer (some ⟨H + 3, 0, none⟩), .pointer (some ⟨H + 5, 0, none⟩), .pointer (some ⟨H + 8, 0, none⟩), .pointer (some ⟨H + 6, 0, none⟩)] w (TypP H s (rd D r n) w))
    (B g : Nat) (κ : Int) (w0 : World) (L A : Option Addr) (lc d : Nat) (xs : List Value) (fs : Nat → List Nat) (w : World) (h : IMid H s B g κ w0 [] [] n0 r0 L A lc d xs fs w) :
    Calls Try.prog 59 #[.pointer (some ⟨g, 0, none⟩), .pointer (some ⟨H + 7, 0, none⟩), .pointer (some ⟨H + 6, 0, none⟩), .pointer (some ⟨H + 5, 0, none⟩)] w (FldP H s B g κ w0 (rdF (rd D) (D + 1) r0 n0)) := by
  have HST : Hid (FldInv H s B g κ w0 (rd D) (rdF (rd D) (D + 1) r0 n0) n0 w) := Lib.hid ⟨[], [], n0, r0, D + 1, L, A, lc, d, xs, fs, h, Nat.le_refl _, hn0, by omega, by simp, rfl, by simp⟩
  have HTY := Lib.hid hty
  clear h hty
  go_enter Try.func59, Try.ntmps59
  go_wp2_with fail
  go_loopw [] (fun wr => FldInv H s B g κ w0 (rd D) (rdF (rd D) (D + 1) r0 n0) n0 wr) (fun wr => 25 - numOf wr H)
  case atStart => exact HST.out
  case round =>
    obtain ⟨ls, ts, n, r, k, L, A, lc, d, xs, fs, hm, hn1, hn2, hk, ho, hlt, hln⟩ := hrel
    have x7 : wr.cell? ⟨H + 7, 0, none⟩ = some (.func (.func 57) #[] #[.pointer (some ⟨H, 0, none⟩), .pointer (some ⟨H + 2, 0, none⟩), .pointer (some ⟨H + 5, 0, none⟩)]) := hm.2.1.1.cl.cell
    have HL := Lib.hid (readLabel_any H s B g κ w0 ls ts n r L A lc d xs fs wr hm hs (by omega))
    have HNU := Lib.hid (numOf_st hm.2.1)
    have HO := Lib.hid ho
    have HLT := Lib.hid hlt
    have hk1 : ∃ j, k = j + 1 := ⟨k - 1, by omega⟩
    obtain ⟨j, rfl⟩ := hk1
    clear hm ho hlt
    go_wp2_with fail
    refine HL.out.mono ?_
    rintro e w1 ⟨ok1, r1, L1, A1, lc1, d1, xs1, fs1, rfl, hm1, hok⟩
    clear x7
    rcases hok with ⟨rfl, hc⟩ | ⟨rfl, hc⟩
    · have x6 : w1.cell? ⟨H + 6, 0, none⟩ = some (.func (.func 56) #[] #[.pointer (some ⟨H + 4, 0, none⟩)]) := hm1.2.1.1.ca.cell
      have HAR := Lib.hid (readArg_any H s (rd D r1 n) B g κ w0 (ls ++ [bs (labOf r)]) ts n r1 L1 A1 lc1 d1 xs1 fs1 w1 hm1 (by have := HLT.out; omega) (HTY.out n r1 w1 hn2 (by omega) hm1.2.1))
      have HC := Lib.hid hc
      clear hm1 hc HL
      go_wp2_with fail
      refine HAR.out.mono ?_
      rintro e w2 ⟨t, ok2, n2, r2, L2, A2, lc2, d2, xs2, fs2, rfl, hm2, hrr⟩
      clear x6
      rcases hrr with ⟨rfl, hrd⟩ | ⟨rfl, hrd⟩
      · have hnum := rd_num _ _ _ _ _ _ hrd
        have x5 : w2.cell? ⟨H + 5, 0, none⟩ = some (.func (.func 55) #[] #[.pointer (some ⟨H + 2, 0, none⟩), .pointer (some ⟨H, 0, none⟩)]) := hm2.2.1.1.cr.cell
        have HRD := Lib.hid (read_any H s n2 r2 44 44 rfl w2 hm2.2.1 hs)
        have HM2 := Lib.hid hm2
        have HRR := Lib.hid hrd
        unfold ReadC at HRD
        clear hm2 hrd HAR
        cases h4 : tk 44 r2 with
        | some r3 =>
          rw [h4] at HRD
          simp only [Option.isSome_some, Option.getD_some] at HRD
          have HN : Hid (rdF (rd D) (D + 1) r0 n0 = (rdF (rd D) j r3 n2).map (fun y => (ls ++ [bs (labOf r)] ++ y.1, ts ++ [t] ++ y.2.1, y.2.2))) := Lib.hid (by
            rw [HO.out, rdF_more HC.out HRR.out h4, Option.map_map]
            congr 1
            funext y
            simp)
          clear h4
          go_wp2_with fail
          refine HRD.out.mono ?_
          rintro e w3 ⟨rfl, hs3, hf3⟩
          have HM3 := Lib.hid (HM2.out.call hs3 hf3)
          clear hs3 hf3 x5
          go_wp2_with fail
          go_roundw
          case rel => exact ⟨ls ++ [bs (labOf r)], ts ++ [t], n2, r3, j, L2, A2, lc2, d2, xs2, fs2, HM3.out, by omega, by omega, by omega, HN.out, by simp [HLT.out], by simp; omega⟩
          case measure =>
            have h1 := HNU.out
            have h2 := numOf_st HM3.out.2.1
            omega
        | none =>
          rw [h4] at HRD
          simp only [Option.isSome_none, Option.getD_none] at HRD
          have HN : Hid (rdF (rd D) (D + 1) r0 n0 = (tk 125 r2).map (fun r3 => (ls ++ [bs (labOf r)], ts ++ [t], r3, n2))) := Lib.hid (by
            rw [HO.out, rdF_end HC.out HRR.out h4, Option.map_map]
            congr 1)
          clear h4
          go_wp2_with fail
          refine HRD.out.mono ?_
          rintro e w3 ⟨rfl, hs3, hf3⟩
          have hm3 := HM2.out.call hs3 hf3
          clear x5
          have x5 : w3.cell? ⟨H + 5, 0, none⟩ = some (.func (.func 55) #[] #[.pointer (some ⟨H + 2, 0, none⟩), .pointer (some ⟨H, 0, none⟩)]) := hm3.2.1.1.cr.cell
          have HRE := Lib.hid (read_any H s n2 r2 125 125 rfl w3 hm3.2.1 hs)
          have HM3 := Lib.hid hm3
          unfold ReadC at HRE
          clear hs3 hf3 hm3 HRD
          go_wp2_with fail
          refine HRE.out.mono ?_
          rintro e w4 ⟨rfl, hs4, hf4⟩
          have hm4 := HM3.out.call hs4 hf4
          have hl4 := HLT.out
          have HF : Hid (FldP H s B g κ w0 (rdF (rd D) (D + 1) r0 n0) (.returned (.bool (tk 125 r2).isSome)) w4) := Lib.hid (by
            refine ⟨_, ls ++ [bs (labOf r)], ts ++ [t], n2, _, L2, A2, lc2, d2, xs2, fs2, rfl, hm4, by simp; omega, by simp; omega, ?_⟩
            rw [HN.out]
            cases tk 125 r2 with
            | none => exact .inr ⟨rfl, rfl⟩
            | some r3 => exact .inl ⟨rfl, rfl⟩)
          clear hs4 hf4 hm4 hl4 x5 HRE
          generalize (tk 125 r2).isSome = bb at HF ⊢
          go_wp2_with fail
          go_ret
          exact HF.out
      · have hl4 := HLT.out
        have HF : Hid (FldP H s B g κ w0 (rdF (rd D) (D + 1) r0 n0) (.returned (.bool false)) w2) := Lib.hid ⟨false, ls ++ [bs (labOf r)], ts ++ [t], n2, r2, L2, A2, lc2, d2, xs2, fs2, rfl, hm2, by simp; omega, by simp; omega, .inr ⟨rfl, by rw [HO.out, rdF_arg HC.out hrd]; rfl⟩⟩
        clear hm2 hrd HAR hl4
        go_wp2_with fail
        go_ret
        exact HF.out
    · have hl4 := HLT.out
      have HF : Hid (FldP H s B g κ w0 (rdF (rd D) (D + 1) r0 n0) (.returned (.bool false)) w1) := Lib.hid ⟨false, ls ++ [bs (labOf r)], ts, n, r1, L1, A1, lc1, d1, xs1, fs1, rfl, hm1, by simp; omega, by omega, .inr ⟨rfl, by rw [HO.out, rdF_lab hc]; rfl⟩⟩
      clear hm1 hc hl4
      go_wp2_with fail
      go_ret
      exact HF.out
end Go.Proofs.Ytffaggiblglcbaa

/-
  The program's reader of types: what readType ends with.
-/
namespace Go.Proofs.Ytffaggiblglcbaa
open Go.RowKit

section
variable {d n : Nat} {r r1 : List UInt8}
theorem rd_over (hn : 24 ≤ n) : rd (d + 1) r n = none := by unfold rd; rw [if_pos hn]
theorem rd_73 (hn : ¬ 24 ≤ n) (h1 : tk 73 r = some r1) : rd (d + 1) r n = some (.node ⟨1, []⟩ [], r1, n + 1) := by simp [rd, hn, h1]
theorem rd_66 (hn : ¬ 24 ≤ n) (h1 : tk 73 r = none) (h2 : tk 66 r = some r1) : rd (d + 1) r n = some (.node ⟨2, []⟩ [], r1, n + 1) := by simp [rd, hn, h1, h2]
theorem rd_123 (hn : ¬ 24 ≤ n) (h1 : tk 73 r = none) (h2 : tk 66 r = none) (h3 : tk 123 r = some r1) : rd (d + 1) r n = (rdF (rd d) (d + 1) r1 (n + 1)).map fun y => (.node ⟨3, y.1⟩ y.2.1, y.2.2) := by simp [rd, hn, h1, h2, h3]
theorem rd_91 (hn : ¬ 24 ≤ n) (h1 : tk 73 r = none) (h2 : tk 66 r = none) (h3 : tk 123 r = none) (h4 : tk 91 r = some r1) : rd (d + 1) r n = (rd d r1 (n + 1)).bind fun x => (tk 93 x.2.1).map fun r3 => (.node ⟨4, []⟩ [x.1], r3, x.2.2) := by simp [rd, hn, h1, h2, h3, h4]
theorem rd_40 (hn : ¬ 24 ≤ n) (h1 : tk 73 r = none) (h2 : tk 66 r = none) (h3 : tk 123 r = none) (h4 : tk 91 r = none) :
    rd (d + 1) r n = (tk 40 r).bind fun r1 => (rd d r1 (n + 1)).bind fun x => (tk 62 x.2.1).bind fun r2 => (rd d r2 x.2.2).bind fun y => (tk 41 y.2.1).map fun r3 => (.node ⟨5, []⟩ [x.1, y.1], r3, y.2.2) := by simp [rd, hn, h1, h2, h3, h4]
end
section
variable {H B g n : Nat} {s : ByteArray} {κ : Int} {w0 w w2 : World} {ls : List ByteArray} {ts : List Ty} {r : List UInt8} {L A : Option Addr} {lc d : Nat} {xs : List Value} {fs : Nat → List Nat}
theorem IMid.setNum (h : IMid H s B g κ w0 ls ts n r L A lc d xs fs w) {m : Nat} {u : Value} (hu : u = .int .i64 m) : IMid H s B g κ w0 ls ts m r L A lc d xs fs (w.setCell ⟨H + 3, 0, none⟩ u) := by
  obtain ⟨h1, h2, h3, h4⟩ := h
  have hU : w.grownBy (w.setCell ⟨H + 3, 0, none⟩ u) (some (H + 3)) := grown_set (World.grownBy.refl _ _) _
  exact ⟨h1.keep hU (fun k hk => by injection hk with hk; omega), h2.setNum hu, h3.setQ 0 _, h4⟩
/-- the variable written once more as it is, and handed back -/
theorem typ_done (h : IMid H s B B κ w ls ts n r L A lc d xs fs w2) (hB : w.heap.size = B) (hl : ls.length ≤ 1000) (ht : ts.length ≤ 1000) {o : Option (Ty × List UInt8 × Nat)} {ok : Bool} (ho : Rr o (.node ⟨κ, ls⟩ ts) r n ok) {a m : Nat} (ea : ls.length = a) (em : ts.length = m) :
    TypP H s o w (.returned (.tuple #[.agg #[.int .i64 κ, .slice L a lc, .slice A m d], .bool ok])) (((w2.setCell ⟨B, 0, none⟩ (.int .i64 κ)).setCell ⟨B, 1, none⟩ (.slice L a lc)).setCell ⟨B, 2, none⟩ (.slice A m d)) ∧
    Box3 (((w2.setCell ⟨B, 0, none⟩ (.int .i64 κ)).setCell ⟨B, 1, none⟩ (.slice L a lc)).setCell ⟨B, 2, none⟩ (.slice A m d)) B 27 (.int .i64 κ) (.slice L a lc) (.slice A m d) := by
  subst ea em
  obtain ⟨h1, h2, h3, h4⟩ := h
  refine ⟨?_, ((h1.box.set0 _).set1 _).set2 _⟩
  generalize hU : ((w2.setCell ⟨B, 0, none⟩ (.int .i64 κ)).setCell ⟨B, 1, none⟩ (.slice L ls.length lc)).setCell ⟨B, 2, none⟩ (.slice A ts.length d) = U
  have hgU : w2.grownBy U (some B) := by rw [← hU]; exact grown_set (grown_set (grown_set (World.grownBy.refl _ _) _) _) _
  have hs := hgU.size
  have hgb := h1.gb
  refine ⟨.node ⟨κ, ls⟩ ts, ok, n, r, L, A, lc, d, _, rfl, (h1.own (by omega) (by omega)).keep hgU (fun x hx e => by injection e with e; subst e; exact h1.gn hx), fun x hx => by have := h1.bd x hx; omega, h2.grown hgU (fun k hk => by injection hk with hk; omega), ?_, ho⟩
  rw [hB]
  exact h3.grown hgU (by omega) (fun k hk => by injection hk with hk; omega)
end
/-- where readType begins -/
theorem typ_start {H n : Nat} {s : ByteArray} {r : List UInt8} {w : World} (h : St H s n r w) {B : Nat} (hB : w.heap.size = B) : IMid H s B B 0 w [] [] n r none none 0 0 [] (fun _ => []) (w.alloc (.cells #[.int .i64 0, .slice none 0 0, .slice none 0 0] 27)) := by
  have hb : Below w.heap.size w (w.alloc (.cells #[.int .i64 0, .slice none 0 0, .slice none 0 0] 27)) := (Below.refl _ _).alloc (Nat.le_refl _) _
  have hlt := h.lt
  refine ⟨Tin.fresh (by rw [← hB]; exact Box3.new w _ _ _ _) (Nat.le_refl _) ⟨by decide, by decide⟩, h.under hb, by rw [← hB]; exact Fr.of_below hb, by omega⟩
end Go.Proofs.Ytffaggiblglcbaa
