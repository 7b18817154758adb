/-
  Merged by program: UniteI.
-/
import Derived.Test.YthcfgpjldhiinaaT27
import Derived.Test.YthcfgpjldhiinaaT28

/-
  The program's UniteNames: it goes over both lists at once and keeps in a map what it has met; it gives what the model gives.
-/
namespace Go.Proofs.Ythcfgpjldhiinaa
open Go.RowKit Go.Maps

theorem two_cells (w : World) (o1 : Obj) (a b : Value) (t : TypeId) :
    ((w.alloc o1).alloc (.cells #[a, b] t)).cell? ⟨w.heap.size + 1, 0, none⟩ = some a ∧ ((w.alloc o1).alloc (.cells #[a, b] t)).cell? ⟨w.heap.size + 1, 1, none⟩ = some b := by
  have h := heap_alloc_new (w.alloc o1) (.cells #[a, b] t)
  have e : (w.alloc o1).heap.size = w.heap.size + 1 := by simp
  rw [e] at h
  exact ⟨cell_of_row _ _ 0 #[a, b] t (0, 0) h, cell_of_row _ _ 1 #[a, b] t (0, 0) h⟩
theorem Sl.grownO {w w' : World} {row : Option Nat} {A : Option Addr} {xs : List Value} (h : Sl w A xs) (hg : w.grownBy w' row) (hne : ∀ ad, A = some ad → some ad.block ≠ row) : Sl w' A xs := by
  intro j u hj
  obtain ⟨ad, e, hc⟩ := h j u hj
  have hb : (ad.add j).block = ad.block := by unfold Addr.add; split <;> rfl
  exact ⟨ad, e, (World.cell?_of_block (hg.block _ (World.block_lt_of_cell? w _ hc) (by rw [hb]; exact hne ad e))).trans hc⟩

theorem own_ne {w : World} {base b : Nat} {e : TypeId} {v : Value} {n : Nat} {xs : List Value} (h : w.ownsRow base e 1 v n xs) (hb : b < base) : some b ≠ v.ownBlock := fun e => by
  have := (h.lt b e.symm).1
  omega
theorem below_alloc (w : World) (o : Obj) : Below w.heap.size w (w.alloc o) := (Below.refl _ _).alloc (Nat.le_refl _) _

/-- what the program's loop keeps: the list that it reads, the list that it builds, the map -/
def VInv (zs : List ByteArray) (A3 : Option Addr) (b1 : Nat) (w : World) (v i : Value) (wr : World) : Prop :=
  ∃ (k : Nat) (o : List ByteArray) (A : Option Addr) (c : Nat), k ≤ zs.length ∧ i = .int .i64 k ∧ v = .slice A o.length c ∧ Hid (o = uq [] (zs.take k)) ∧ wr.ownsRow b1 9 1 (.slice A o.length c) o.length (o.map Value.string) ∧
    Sl wr A3 (zs.map Value.string) ∧ Seen wr w.heap.size k o ∧ Below w.heap.size w wr ∧ b1 ≤ wr.heap.size
theorem vinv_same {zs o : List ByteArray} {A3 : Option Addr} {b1 k : Nat} {w wr : World} {x : ByteArray} {A : Option Addr} {c : Nat} {i : Value} (hk : k < zs.length) (hx : zs[k] = x) (ho : o = uq [] (zs.take k)) (hin : x ∈ o) (hi : i = .int .i64 ((k + 1 : Nat) : Int))
    (h : wr.ownsRow b1 9 1 (.slice A o.length c) o.length (o.map Value.string)) (hs : Sl wr A3 (zs.map Value.string)) (hm : Seen wr w.heap.size k o) (hb : Below w.heap.size w wr) (hz : b1 ≤ wr.heap.size) : VInv zs A3 b1 w (.slice A o.length c) i wr :=
  ⟨k + 1, o, A, c, hk, hi, rfl, by show o = _; rw [uq_succ [] zs k hk, ← ho, hx, addU_in hin], h, hs, hm.mono (Nat.le_succ _), hb, hz⟩
theorem vinv_more {zs o : List ByteArray} {A3 : Option Addr} {b1 k : Nat} {w wr : World} {x : ByteArray} {v i : Value} (hk : k < zs.length) (hx : zs[k] = x) (ho : o = uq [] (zs.take k)) (hin : ¬ x ∈ o) (hi : i = .int .i64 ((k + 1 : Nat) : Int))
    (h : wr.ownsRow b1 9 1 v (o.length + 1) (o.map Value.string ++ [.string x])) (hs : Sl wr A3 (zs.map Value.string)) (hm : Seen wr w.heap.size (k + 1) (o ++ [x])) (hb : Below w.heap.size w wr) (hz : b1 ≤ wr.heap.size) : VInv zs A3 b1 w v i wr := by
  obtain ⟨A, c, rfl⟩ := own_shape h
  refine ⟨k + 1, o ++ [x], A, c, hk, hi, by simp, by show o ++ [x] = _; rw [uq_succ [] zs k hk, ← ho, hx, addU_new hin], by simpa using h, hs, hm, hb, hz⟩

set_option maxHeartbeats 3200000 in
theorem implUnite_any (A B : Option Addr) (c d : Nat) (xs ys : List ByteArray) (w : World) (hA : Sl w A (xs.map Value.string)) (hB : Sl w B (ys.map Value.string)) (hnm : xs.length + ys.length ≤ 2097152)
    (hx : ∀ x ∈ xs, x.size ≤ 1048576) (hy : ∀ y ∈ ys, y.size ≤ 1048576) :
    Calls Try.prog 43 #[.slice A xs.length c, .slice B ys.length d] w (OwnL (uq (uq [] xs) ys) w) := by
  have hn : xs.length ≤ 2097152 := by omega
  have hm : ys.length ≤ 2097152 := by omega
  obtain ⟨i0, hi, hz0, hz1, hz2⟩ := info_parts infoStr
  have hmm := @run_makeMap Try.prog
  have hle1 : xs.length ≤ 9223372036854775807 := by omega
  have hle2 : ys.length ≤ 9223372036854775807 := by omega
  have HT := Lib.hid (fun t => two_cells w (.map #[] 0) (.slice A xs.length c) (.slice B ys.length d) t)
  have hb0 : ∀ o, Below w.heap.size w ((w.alloc (.map #[] 0)).alloc o) := fun o => ((Below.refl _ _).alloc (Nat.le_refl _) _).alloc (by simp) _
  have HB0 := Lib.hid hb0
  clear hb0
  go_enter Try.func43, Try.ntmps43
  go_wp2_with fail
  refine (concat_any _ A B c d xs ys _ (HT.out _).1 (HT.out _).2 (hA.below (HB0.out _)) (hB.below (HB0.out _)) hnm).mono ?_
  rintro e w1 ⟨A3, c3, rfl, hown3, hb1⟩
  have hb01 := (HB0.out _).trans (hb1.mono (HB0.out _).size)
  have hs3 := Sl.of_own hown3
  have hA3 : ∀ ad, A3 = some ad → w.heap.size + 2 ≤ ad.block ∧ ad.block < w1.heap.size := fun ad e => by
    have := hown3.lt ad.block (by rw [e]; rfl)
    simpa using this
  have hseen : Seen w1 w.heap.size 0 [] := ((Seen.made w).below ((Below.refl _ _).alloc (Nat.le_refl _) _)).below (hb1.mono (by simp))
  obtain ⟨zs, hzs⟩ : ∃ zs, xs ++ ys = zs := ⟨_, rfl⟩
  have hzl : zs.length ≤ 2097152 := by rw [← hzs, List.length_append]; omega
  have hzx : ∀ z ∈ zs, z.size ≤ maxLen := by
    intro z hz
    rw [← hzs, List.mem_append] at hz
    unfold maxLen
    rcases hz with h | h
    · have := hx z h; omega
    · have := hy z h; omega
  have huq : uq (uq [] xs) ys = uq [] zs := by rw [← hzs, uq_app]
  rw [hzs] at hs3
  have hzl2 : (xs ++ ys).length = zs.length := by rw [hzs]
  have HUQ := Lib.hid huq
  rw [hzl2]
  have hB3 : w.heap.size + 2 ≤ w1.heap.size := by have := hb1.size; simpa using this
  have HS3 := Lib.hid hs3
  have HSE := Lib.hid hseen
  have HB1 := Lib.hid hb01
  have HA3 := Lib.hid hA3
  have HX := Lib.hid hzx
  obtain ⟨b1, hb1e⟩ : ∃ b1, w1.heap.size = b1 := ⟨_, rfl⟩
  have HZ1 : Hid (b1 ≤ w1.heap.size) := by show b1 ≤ _; omega
  rw [hb1e] at hB3
  have HA3' : Hid (∀ ad, A3 = some ad → w.heap.size + 2 ≤ ad.block ∧ ad.block < b1) := by rw [← hb1e]; exact hA3
  have hle3 : zs.length ≤ 9223372036854775807 := by omega
  clear hA hB hs3 hseen hb01 hA3 hzx hown3 hb1 hzs huq hzl2 hb1e HA3 HB0 HT hx hy
  go_wp2_with fail
  go_loopw [5, 15] (fun v i wr => VInv zs A3 b1 w v i wr) (fun _ i _ => zs.length - (intOf i).toNat)
  case atStart => exact ⟨0, [], none, 0, Nat.zero_le _, rfl, rfl, rfl, World.ownsRow_nil _ _ _ _, HS3.out, HSE.out, HB1.out, HZ1.out⟩
  case round =>
    obtain ⟨k, o, A', c', hk, rfl, rfl, ho, hown, hsl, hmap, hb, hz⟩ := hrel
    have hol := uq_bd ho.out
    rw [List.length_nil] at hol
    by_cases hlt : k < zs.length
    · obtain ⟨ad, hade, hc0⟩ := hsl k (.string zs[k]) (by simp [hlt])
      subst hade
      obtain ⟨x, hxe⟩ : ∃ x, zs[k] = x := ⟨_, rfl⟩
      rw [hxe] at hc0
      have hxl : x.size ≤ maxLen := HX.out x (hxe ▸ List.getElem_mem hlt)
      have hbd := HA3'.out ad rfl
      have HXE := Lib.hid hxe
      have HSL := Lib.hid hsl
      have HW := Lib.hid hown
      have HBD := Lib.hid hbd
      have hmsz := hmap.lt
      clear hxe hsl hown hbd
      by_cases hin : x ∈ o
      · have hlook := hmap.look hxl (.inl ⟨hin, rfl⟩)
        have HM := Lib.hid hmap
        clear hmap hmm
        go_wp2_with fail
        go_roundw
        case rel => exact vinv_same hlt HXE.out ho.out hin (by go_num) HW.out HSL.out HM.out hb hz
        case measure => simp [intOf]; omega
      · have hlook := hmap.look hxl (.inr ⟨hin, rfl⟩)
        obtain ⟨D, hD, hD1, hD2, hD3⟩ := hmap
        have HD := Lib.hid hD
        have HD1 := Lib.hid hD1
        have HD2 := Lib.hid hD2
        have HD3 := Lib.hid hD3
        have hkey := Lib.hid (lit_key hxl)
        clear hD hD1 hD2 hD3 hmm
        go_wp2_with (first
          | (at_mapUpdate; refine wpList_mapUpdate_own _ rfl _ _ _ 73 rfl 9 4 keyStr Try.underlying73 _ w.heap.size k _ rfl HD.out (by unfold maxLen; omega) _ _ _ rfl rfl hkey.out _ [] (plainElem_bool Try.underlying4 true) ?_; intro w2 hown2 hg2)
          | (at_builtin; refine wpList_append_sl _ rfl (.tmp 25) (.tmp 27) 24 rfl b1 9 i0 _ 16 Try.underlying24 hi hz0 hz1 hz2 rfl _ _ _ rfl ((HW.out.kept hg2 (Or.inr (own_ne HW.out (by omega)).symm)).alloc _) (some ⟨w2.heap.size, 0, none⟩) 1 1 [.string x] rfl rfl (sl_one _ _ _) (strs_oneCell [x]) (by unfold maxLen; omega) (by omega) (by have := hg2.size; simp; omega) ?_; intro v' w3 hown3 hg3 _))
        have hs2 := hg2.size
        have o2 := (HW.out.kept hg2 (Or.inr (own_ne HW.out (by omega)).symm)).alloc (.cells #[.string x] 9)
        have b2 : Below w.heap.size w w2 := hb.grown hg2 hb.size (fun g hg => by cases hg; exact Nat.le_refl _)
        have b3 : Below w.heap.size w w3 := (b2.alloc b2.size _).grown hg3 (by have := b2.size; simp; omega) (fun g hg => by have := (o2.lt g hg).1; omega)
        have l2 : Sl w2 (some ad) (zs.map Value.string) := HSL.out.grownO hg2 (fun ad' e => by injection e with e; subst e; have := HBD.out.1; intro e; injection e with e; omega)
        have l3 : Sl w3 (some ad) (zs.map Value.string) := (l2.below (below_alloc _ _)).grownO hg3 (fun ad' e => by injection e with e; subst e; exact own_ne o2 HBD.out.2)
        have m2 := Seen.put HD1.out HD2.out HD3.out hown2
        have m3 : Seen w3 w.heap.size (k + 1) (o ++ [x]) := (m2.below (below_alloc _ _)).kept hg3 (own_ne o2 (by omega))
        have z3 : b1 ≤ w3.heap.size := by have := hg3.size; simp at this; omega
        go_roundw
        case rel => exact vinv_more hlt HXE.out ho.out hin (by go_num) hown3 l3 m3 b3 z3
        case measure => simp [intOf]; omega
    · have he : k = zs.length := by omega
      have HR : Hid (OwnL (uq (uq [] xs) ys) w (.returned (.slice A' o.length c')) wr) := by
        have h1 := ho.out
        rw [he, List.take_length, ← HUQ.out] at h1
        show OwnL _ _ _ _
        rw [← h1]
        exact ⟨A', c', rfl, own_mono hown (by omega), hb⟩
      clear he ho hown hsl hmap hmm
      go_wp2_with fail
      go_ret
      exact HR.out
end Go.Proofs.Ythcfgpjldhiinaa
