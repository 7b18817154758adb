/-
  Merged by program: DelO, ConcV, TabS, TabN, KdF.
-/
import Derived.Test.YtlikmgkjilmjpaaGreatD24
import Derived.Test.YtlikmgkjilmjpaaGreatD6
import Derived.Test.YtlikmgkjilmjpaaGreatD1
import Derived.Test.YtlikmgkjilmjpaaGreatD10
import Derived.Lib.AppendZeros
import Derived.Test.YtlikmgkjilmjpaaGreatD19
import Derived.Test.YtlikmgkjilmjpaaGreatD9
import Derived.Test.YtlikmgkjilmjpaaGreatD8

/-
  The model's DeleteRow, its last regions: what lies in memory.
-/
namespace Go.Proofs.YtlikmgkjilmjpaaGreat
open Go.RowKit

theorem own_is0 {w : World} {base size n c b : Nat} {e : TypeId} {A : Option Addr} {xs : List Value} (h : w.ownsRow base e size (.slice A n c) n xs) (ho : (Value.slice A n c).ownBlock = some b) : A = some ⟨b, 0, none⟩ := by
  rcases h.2 with ⟨h0, _⟩ | ⟨g, cap, cur, hv, _⟩
  · rw [h0] at ho
    cases ho
  · rw [hv] at ho
    injection ho with ho
    injection hv with hv _ _
    have ho : g = b := ho
    rw [hv, ho]
theorem va_one {w : World} {x : Va} {cs : List Value} (h : RVa w x cs) : ∀ u ∈ cs, u.oneCell' = true := by
  obtain ⟨L, c, A, d, he, _⟩ := h.open
  rw [he]
  intro u hu
  simp only [List.mem_cons, List.not_mem_nil, or_false] at hu
  rcases hu with rfl | rfl | rfl | rfl <;> rfl
theorem olc_one {e : TypeId} {w : World} {xs : List Va} {A : Option Addr} {d : Nat} {cells : List Value} {fs : Nat → List Nat} {fp : List Nat} (h : OLc kVa e w xs A d cells fs fp) : ∀ u ∈ cells, u.oneCell' = true := by
  intro u hu
  obtain ⟨i, hi, rfl⟩ := List.getElem_of_mem hu
  have hcl : cells.length = xs.length * 4 := h.2.1.1
  have hi4 : i / 4 < xs.length := by omega
  refine va_one (kVa.reads (h.2.2.1 (i / 4) _ (List.getElem?_eq_getElem hi4))) _ (List.mem_of_getElem? (i := i % 4) ?_)
  show (partK 4 cells (i / 4))[i % 4]? = _
  rw [partK_get _ _ _ _ (by omega), show i / 4 * 4 + i % 4 = i by omega, List.getElem?_eq_getElem hi]
theorem olc_at {w : World} {s : Db} {g d9 j : Nat} {nm : ByteArray} {cells : List Value} {fs : Nat → List Nat} {fp : List Nat} (h : OLc kDd 66 w s (some ⟨g, 0, none⟩) d9 cells fs fp) (hj : j < s.length) (hnm : s[j].1 = nm) (h0 : 0 < s[j].2.length) :
    ∃ g5 d5 cells5 fs5, cells[j * 2]? = some (.string nm) ∧ cells[j * 2 + 1]? = some (.slice (some ⟨g5, 0, none⟩) s[j].2.length d5) ∧ nm.size ≤ 9223372036854775807 ∧ OLc kVa 47 w s[j].2 (some ⟨g5, 0, none⟩) d5 cells5 fs5 (fs j) := by
  obtain ⟨TA, ta, td, hcs, hs, x, hx, ho⟩ := kDd_oopen (h.2.2.1 j _ (List.getElem?_eq_getElem hj))
  injection hx with hx _
  subst hx
  obtain ⟨rfl, cells5, fs5, h5⟩ := ho.parts
  obtain ⟨g5, rfl⟩ := own_someG h5.row h0
  have e : ∀ q, q < 2 → cells[j * 2 + q]? = [Value.string s[j].1, .slice (some ⟨g5, 0, none⟩) s[j].2.length td][q]? := fun q hq => by
    rw [← hcs]
    exact (partK_get 2 cells j q hq).symm
  exact ⟨g5, td, cells5, fs5, by rw [← hnm]; exact e 0 (by omega), e 1 (by omega), by rw [← hnm]; exact hs, h5⟩
theorem del_next {w w4 w6 w7 : World} {s : Db} {nm : ByteArray} {g g5 j k d9 d5 d6 K H : Nat} {A6 : Option Addr} {cells cells5 : List Value} {fs fs5 : Nat → List Nat} {fp : List Nat}
    (h : OLc kDd 66 w4 s (some ⟨g, 0, none⟩) d9 cells fs fp) (hj : j < s.length) (hnm : s[j].1 = nm) (hs : nm.size ≤ 9223372036854775807) (hc0 : cells[j * 2]? = some (.string nm)) (hc1 : cells[j * 2 + 1]? = some (.slice (some ⟨g5, 0, none⟩) s[j].2.length d5))
    (hi : OLc kVa 47 w4 s[j].2 (some ⟨g5, 0, none⟩) d5 cells5 fs5 (fs j)) (hk : k < s[j].2.length) (hf : ∀ b ∈ fp, w.heap.size ≤ b ∧ b < K ∧ H + 2 < b) (hH : w.heap.size = H)
    (bk : Box1 w4 K 37 (.slice (some ⟨g, 0, none⟩) s.length d9)) (br : Box1 w4 (H + 1 + 1) 37 (.slice none 0 0)) (hb : Below w.heap.size w w4) (h46 : Below w4.heap.size w4 w6)
    (hown : w7.ownsRow 0 47 4 (.slice A6 (k + (s[j].2.length - (k + 1))) d6) (k + (s[j].2.length - (k + 1))) (cells5.take (k * 4) ++ cells5.drop ((k + 1) * 4))) (hgr : w6.grownBy w7 (some g5))
    (hor : (Value.slice A6 (k + (s[j].2.length - (k + 1))) d6).ownBlock = some g5 ∨ (Value.slice A6 (k + (s[j].2.length - (k + 1))) d6).ownBlock = some w6.heap.size) :
    (w7.cell? ⟨K, 0, none⟩ = some (.slice (some ⟨g, 0, none⟩) s.length d9) ∧ w7.cell? ⟨g, j * 2 + 1, none⟩ = some (.slice (some ⟨g5, 0, none⟩) s[j].2.length d5) ∧ w7.frozen? ⟨g, j * 2 + 1, none⟩ = false) ∧
    Box1 (w7.setCell ⟨g, j * 2 + 1, none⟩ (.slice A6 (k + (s[j].2.length - (k + 1))) d6)) K 37 (.slice (some ⟨g, 0, none⟩) s.length d9) ∧ Box1 (w7.setCell ⟨g, j * 2 + 1, none⟩ (.slice A6 (k + (s[j].2.length - (k + 1))) d6)) (H + 1 + 1) 37 (.slice none 0 0) ∧
    ∀ U : World, (w7.setCell ⟨g, j * 2 + 1, none⟩ (.slice A6 (k + (s[j].2.length - (k + 1))) d6)).grownBy U (some (H + 1 + 1)) → MadeChg (s.set j (nm, s[j].2.take k ++ s[j].2.drop (k + 1)), true) w (.returned (.tuple #[.agg #[.slice (some ⟨g, 0, none⟩) s.length d9], .bool true])) U := by
  have hfp := h.2.2.2.1
  have hgf : g ∈ fp := by rw [hfp]; simp [blk]
  have h5f : g5 ∈ fs j := by rw [hi.2.2.2.1]; simp [blk]
  have h5p : g5 ∈ fp := by rw [hfp]; exact List.mem_append.2 (.inr (List.mem_flatMap.2 ⟨j, List.mem_range.2 hj, h5f⟩))
  have hne : g ≠ g5 := fun e => by
    have hnd := h.2.2.2.2
    rw [hfp] at hnd
    exact (List.nodup_append.1 hnd).2.2 g (by simp [blk]) g5 (List.mem_flatMap.2 ⟨j, List.mem_range.2 hj, h5f⟩) e
  have b1 := hf g hgf
  have b5 := hf g5 h5p
  have hK4 := bk.lt
  have h2 := h46.size
  have h3 := hgr.size
  have h0 := hb.size
  have bk6 := bk.under h46 bk.lt
  have br6 := br.under h46 br.lt
  have bk7 := bk6.grown hgr (by intro e; injection e with e; omega)
  have br7 := br6.grown hgr (by intro e; injection e with e; omega)
  have hrow7 := own_keep (own_keep h.row (row := none) (grown_none h46) (fun b _ => by simp)) hgr (fun b hb e => by
    have hbg : b = g := by simpa [blk] using hb
    injection e with e
    exact hne (hbg.symm.trans e))
  have hcl : cells.length = s.length * 2 := h.row.1
  obtain ⟨fp', ho, hf'⟩ := del_mem (A5 := some ⟨g5, 0, none⟩) (d5 := d5) h hj hnm hs hc0 hi hk (fun b hb => by have := hf b hb; omega) h46 hown hgr hor
  have hbU : Below w.heap.size w (w7.setCell ⟨g, j * 2 + 1, none⟩ (.slice A6 (k + (s[j].2.length - (k + 1))) d6)) := ((hb.trans (h46.mono h0)).grown hgr (by omega) (fun q hq => by injection hq with hq; omega)).setCell (p := ⟨g, j * 2 + 1, none⟩) b1.1 _
  have hsU : w7.heap.size ≤ (w7.setCell ⟨g, j * 2 + 1, none⟩ (.slice A6 (k + (s[j].2.length - (k + 1))) d6)).heap.size := (grown_set (World.grownBy.refl w7 (some g)) (j := j * 2 + 1) (.slice A6 (k + (s[j].2.length - (k + 1))) d6)).size
  refine ⟨⟨bk7.c0, (hrow7.cellAt (j * 2 + 1) (show j * 2 + 1 < s.length * kDd.n by rw [kDd_n]; omega)).trans hc1, hrow7.frozenAt _⟩, bk7.far (by show K ≠ g; omega) _, br7.far (by show H + 1 + 1 ≠ g; omega) _, fun U hU => ?_⟩
  refine made_end (by rw [List.length_set]) ho (fun b hb => ?_) (fun hm => ?_) (by omega) hbU hU
  · rcases hf' b hb with h | h
    · have := hf b h; omega
    · omega
  · rcases hf' _ hm with h | h
    · have := hf _ h; omega
    · have := br.lt; omega
end Go.Proofs.YtlikmgkjilmjpaaGreat

/-
  The library's Grow at a nil slice, and Concat of two lists of values (four cells each).
-/
namespace Go.Proofs.YtlikmgkjilmjpaaGreat
open Go.RowKit

section
variable {P : Program}
theorem run_append_noneN (w : World) (base size : Nat) (t ty e : TypeId) (i : TypeInfo) (ht : P.underlying t = some (.slice e)) (hi : P.info? e = some i) (v : Value) (n : Nat) (xs : List Value) (hown : w.ownsRow base e size v n xs) (c : Nat) :
    (Builtin.append_ #[t, t] ty #[v, .slice none 0 c]).run P w = .ok v w := by
  rcases hown.2 with ⟨rfl, rfl⟩ | ⟨g, cap, cur, rfl, _, _, hnc, _⟩
  · simp [Builtin.append_, run_underlying ht, sizeOf, typeInfo, hi, Builtin.lenOf, Builtin.firstCells]
  · simp [Builtin.append_, run_underlying ht, sizeOf, typeInfo, hi, Builtin.lenOf, Builtin.firstCells, hnc, storeCells]
/-- an append onto a row of the call's own of a list that may have no address; elements of any size -/
theorem wpList_append_slN (w : World) {ops : Array Oper} {rest : List Oper} {o : Oper} {a : Act} {Q : Exit → Act → World → Prop} (hgd : o.guard = none) (s x : Operand) (t : TypeId)
    (ho : o.op = .call { callee := .builtin .append, args := #[s, x], argTypes := #[t, t] })
    (base : Nat) (e : TypeId) (i : TypeInfo) (z : Value) (size bytes : Nat) (ht : P.underlying t = some (.slice e)) (hi : P.info? e = some i) (hz : i.zero = some z) (hsize : i.size = size) (hby : i.bytes = bytes) (hzs : z.cells.size = size) (hsz : 0 < size)
    (v : Value) (n : Nat) (xs : List Value) (hs : a.eval s = v) (hown : w.ownsRow base e size v n xs) (A : Option Addr) (m c : Nat) (news : List Value) (hx : a.eval x = .slice A m c) (hl : news.length = m * size) (hnews : Sl w A news) (h1 : ∀ u ∈ news, u.oneCell' = true)
    (h63 : n + m ≤ maxLen) (hbytes : (n + m) * bytes ≤ 140737488355328) (hbase : base ≤ w.heap.size)
    (h : ∀ v' w', w'.ownsRow base e size v' (n + m) (xs ++ news) → w.grownBy w' v.ownBlock → (v'.ownBlock = v.ownBlock ∨ v'.ownBlock = some w.heap.size) → wpList P ops Q rest (a.put o.dst v') w') : wpList P ops Q (o :: rest) a w := by
  cases A with
  | none =>
    have hn : news = [] := by
      cases news with
      | nil => rfl
      | cons u r =>
        obtain ⟨ad, e, _⟩ := hnews 0 u rfl
        cases e
    subst hn
    have hm : m = 0 := by
      rcases Nat.eq_zero_or_pos m with h | h
      · exact h
      · have := Nat.mul_pos h hsz
        simp only [List.length_nil] at hl
        omega
    subst hm
    exact Lib.wpList_append_run w hgd s x t t ho _ _ hs hx v w (run_append_noneN w base size t o.type e i ht hi v n xs hown c) (h v w (by simpa using hown) (World.grownBy.refl w _) (.inl rfl))
  | some ad =>
    have hc : ∀ j u, news[j]? = some u → w.cell? (ad.add j) = some u := by
      intro j u hj
      obtain ⟨ad', e, hcc⟩ := hnews j u hj
      injection e with e
      subst e
      exact hcc
    obtain ⟨v', w', h2, h3, h4, _, h5⟩ := run_append_own_at (P := P) w base t o.type e i z size bytes ht hi hz hsize hby hzs hsz v n xs hown ad m c news hl hc h1 h63 hbytes hbase
    exact Lib.wpList_append_run w hgd s x t t ho _ _ hs hx v' w' h2 (h v' w' h3 h4 h5)
end

/-- a row of values in new memory, cell by cell -/
def OwnC (n : Nat) (xs : List Value) (w : World) (e : Ending) (w' : World) : Prop :=
  ∃ (A : Option Addr) (c : Nat), e = .returned (.slice A n c) ∧ w'.ownsRow w.heap.size 47 4 (.slice A n c) n xs ∧ Below w.heap.size w w'
theorem own_zerosV (w : World) (n : Nat) (e : TypeId) (h : n ≤ maxLen) :
    (w.drew.alloc (.cells (Builtin.zeroCells (Value.agg #[.int .i64 0, .int .i64 0, .slice none 0 0, .slice none 0 0]).cells n ++ Builtin.zeroCells (Value.agg #[.int .i64 0, .int .i64 0, .slice none 0 0, .slice none 0 0]).cells (grownCap w n 0 e - n)) e)).ownsRow w.heap.size e 4 (.slice (some ⟨w.heap.size, 0, none⟩) 0 (grownCap w n 0 e)) 0 [] := by
  have hge := grownCap_ge w n 0 e
  refine ⟨by simp, .inr ⟨w.heap.size, _, _, rfl, Nat.le_refl _, heap_alloc_new w.drew _, Nat.zero_le _, grownCap_le_maxLen w n 0 e h, ?_, by simp⟩⟩
  simp [Builtin.zeroCells, Value.cells]
  omega

set_option maxRecDepth 100000 in
set_option maxHeartbeats 1600000 in
theorem growV_any (n : Nat) (w : World) (hn : n ≤ 2097152) : Calls Tryz.prog 60 #[.slice none 0 0, .int .i64 n] w (OwnC 0 [] w) := by
  obtain ⟨i0, hi, hz0, hz1, hz2⟩ := info_parts infoVa
  rcases Nat.eq_zero_or_pos n with rfl | hp
  · go_enter Tryz.func60, Tryz.ntmps60
    go_wp2_with fail
    go_ret
    exact ⟨none, 0, rfl, World.ownsRow_nil _ _ _ _, Below.refl _ _⟩
  · have hr := fun ty => Lib.run_append_nil_zeros (P := Tryz.prog) w 45 3 ty 47 i0 (.agg #[.int .i64 0, .int .i64 0, .slice none 0 0, .slice none 0 0]) .i64 .i64 Tryz.underlying45 Tryz.underlying3 hi hz0 n hp (by rw [hz1]; omega) (by omega) (by rw [hz2]; omega)
    have ho := own_zerosV w n 47 (by unfold maxLen; omega)
    have HR := Lib.hid hr
    have HO := Lib.hid ho
    clear hr ho
    go_enter Tryz.func60, Tryz.ntmps60
    go_wp2_with (at_builtin; refine Lib.wpList_append_run _ rfl (.tmp 20) (.tmp 21) 45 3 rfl _ _ rfl rfl _ _ (HR.out _) ?_)
    go_ret
    exact ⟨_, _, rfl, HO.out, (Below.refl _ _).drew.alloc (Nat.le_refl _) _⟩

/-- the sum that the first loop makes; what the second one has collected -/
def CatInvV (n m : Nat) (sz i : Value) : Prop := (i = .int .i64 0 ∧ sz = .int .i64 0) ∨ (i = .int .i64 1 ∧ sz = .int .i64 n) ∨ (i = .int .i64 2 ∧ sz = .int .i64 (n + m : Nat))
def DInvV (n m : Nat) (xs ys : List Value) (w : World) (v i : Value) (wr : World) : Prop :=
  ∃ (q : Nat) (o : List Value) (A : Option Addr) (c : Nat), v = .slice A q c ∧ wr.ownsRow w.heap.size 47 4 (.slice A q c) q o ∧ Below w.heap.size w wr ∧
    ((i = .int .i64 0 ∧ o = [] ∧ q = 0) ∨ (i = .int .i64 1 ∧ o = xs ∧ q = n) ∨ (i = .int .i64 2 ∧ o = xs ++ ys ∧ q = n + m))
theorem dinvV_more {n m q : Nat} {xs ys o : List Value} {w wr : World} {v i : Value} (h : wr.ownsRow w.heap.size 47 4 v q o) (hb : Below w.heap.size w wr)
    (hi : (i = .int .i64 1 ∧ o = xs ∧ q = n) ∨ (i = .int .i64 2 ∧ o = xs ++ ys ∧ q = n + m)) : DInvV n m xs ys w v i wr := by
  obtain ⟨A, c, rfl⟩ := own_shape3 h
  exact ⟨q, o, A, c, rfl, h, hb, .inr hi⟩

set_option maxRecDepth 100000 in
set_option maxHeartbeats 3200000 in
theorem concV_any (g : Nat) (A B : Option Addr) (c d n m : Nat) (xs ys : List Value) (w : World) (h0 : w.cell? ⟨g, 0, none⟩ = some (.slice A n c)) (h1 : w.cell? ⟨g, 1, none⟩ = some (.slice B m d)) (hxl : xs.length = n * 4) (hyl : ys.length = m * 4) (hx1 : ∀ u ∈ xs, u.oneCell' = true) (hy1 : ∀ u ∈ ys, u.oneCell' = true)
    (hA : Sl w A xs) (hB : Sl w B ys) (hnm : n + m ≤ 2097152) :
    Calls Tryz.prog 36 #[.slice (some ⟨g, 0, none⟩) 2 2] w (OwnC (n + m) (xs ++ ys) w) := by
  obtain ⟨i0, hi, hz0, hz1, hz2⟩ := info_parts infoVa
  have hg : g < w.heap.size := World.block_lt_of_cell? w _ h0
  have hn : n ≤ 2097152 := by omega
  have hm : m ≤ 2097152 := by omega
  have HXL := Lib.hid hxl
  have HYL := Lib.hid hyl
  have HX1 := Lib.hid hx1
  have HY1 := Lib.hid hy1
  clear hxl hyl hx1 hy1
  go_enter Tryz.func36, Tryz.ntmps36
  go_wp2_with fail
  go_loop [3, 11] (fun sz i => CatInvV n m sz i) (fun _ i => 2 - (intOf i).toNat)
  case atStart => exact .inl ⟨rfl, rfl⟩
  case round =>
    rcases hrel with ⟨rfl, rfl⟩ | ⟨rfl, rfl⟩ | ⟨rfl, rfl⟩
    · go_wp2_with fail
      go_round
      case rel => exact .inr (.inl ⟨rfl, by go_num⟩)
      case measure => simp [intOf]
    · go_wp2_with fail
      go_round
      case rel => exact .inr (.inr ⟨rfl, by go_num⟩)
      case measure => simp [intOf]
    · go_wp2_with fail
      refine (growV_any (n + m) w (by omega)).mono ?_
      rintro e w1 ⟨A1, c1, rfl, hown1, hb1⟩
      have HB1 := Lib.hid hb1
      have HO1 := Lib.hid hown1
      clear hb1 hown1
      go_wp2_with fail
      go_loopw [6, 27] (fun v i wr => DInvV n m xs ys w v i wr) (fun _ i _ => 2 - (intOf i).toNat)
      case atStart => exact ⟨0, [], A1, c1, rfl, HO1.out, HB1.out, .inl ⟨rfl, rfl, rfl⟩⟩
      case round =>
        obtain ⟨q, o, A2, c2, rfl, hown, hb, hj⟩ := hrel
        have hsz := hb.size
        have k0 : wr.cell? ⟨g, 0, none⟩ = some (.slice A n c) := (hb.cell hg).trans h0
        have k1 : wr.cell? ⟨g, 1, none⟩ = some (.slice B m d) := (hb.cell hg).trans h1
        have HA := Lib.hid (hA.below hb)
        have HBs := Lib.hid (hB.below hb)
        have HO := Lib.hid hown
        clear hown h0 h1
        rcases hj with ⟨rfl, rfl, rfl⟩ | ⟨rfl, rfl, rfl⟩ | ⟨rfl, rfl, rfl⟩
        · go_wp2_with (at_builtin; refine wpList_append_slN _ rfl (.tmp 31) (.tmp 32) 45 rfl w.heap.size 47 i0 _ 4 64 Tryz.underlying45 hi hz0 hz1 hz2 (by rfl) (by omega) _ _ _ rfl HO.out A n c xs rfl HXL.out HA.out HX1.out (by unfold maxLen; omega) (by omega) hsz ?_; intro v' w2 hown2 hg2 _)
          have hb2 : Below w.heap.size w w2 := hb.grown hg2 hsz (fun q hq => (HO.out.lt q hq).1)
          go_roundw
          case rel => exact dinvV_more (by simpa using hown2) hb2 (.inl ⟨rfl, rfl, rfl⟩)
          case measure => simp [intOf]
        · go_wp2_with (at_builtin; refine wpList_append_slN _ rfl (.tmp 31) (.tmp 32) 45 rfl w.heap.size 47 i0 _ 4 64 Tryz.underlying45 hi hz0 hz1 hz2 (by rfl) (by omega) _ _ _ rfl HO.out B m d ys rfl HYL.out HBs.out HY1.out (by unfold maxLen; omega) (by omega) hsz ?_; intro v' w2 hown2 hg2 _)
          have hb2 : Below w.heap.size w w2 := hb.grown hg2 hsz (fun q hq => (HO.out.lt q hq).1)
          go_roundw
          case rel => exact dinvV_more hown2 hb2 (.inr ⟨rfl, rfl, rfl⟩)
          case measure => simp [intOf]
        · go_wp2_with fail
          go_ret
          exact ⟨A2, c2, rfl, HO.out, hb⟩
end Go.Proofs.YtlikmgkjilmjpaaGreat

/-
  The model's l9Table: the place of a table in a database.
-/
namespace Go.Proofs.YtlikmgkjilmjpaaGreat
open Go.RowKit

/-- n is the place of the first element with the name, -1 if there is none -/
def AtD {α : Type} (xs : List (ByteArray × α)) (nm : ByteArray) (n : Int) : Prop := (n = -1 ∧ xs.find? (fun d => decide (d.1 = nm)) = none) ∨ ∃ k : Nat, ∃ h : k < xs.length, n = (k : Int) ∧ xs[k].1 = nm ∧ xs.find? (fun d => decide (d.1 = nm)) = some xs[k]
def NoneAt {α : Type} (xs : List (ByteArray × α)) (nm : ByteArray) (k : Nat) : Prop := ∀ (j : Nat) (h : j < xs.length), j < k → xs[j].1 ≠ nm
theorem noneAt_zero {α : Type} (xs : List (ByteArray × α)) (nm : ByteArray) : NoneAt xs nm 0 := fun j _ h => by omega
theorem noneAt_more {α : Type} {xs : List (ByteArray × α)} {nm : ByteArray} {k : Nat} (h : NoneAt xs nm k) (hk : k < xs.length) (hn : xs[k].1 ≠ nm) : NoneAt xs nm (k + 1) := fun j hj hlt => by
  by_cases e : j = k
  · subst e; exact hn
  · exact h j hj (by omega)
theorem atD_none {α : Type} {xs : List (ByteArray × α)} {nm : ByteArray} (h : NoneAt xs nm xs.length) : xs.find? (fun d => decide (d.1 = nm)) = none := by
  rw [List.find?_eq_none]
  intro d hd
  obtain ⟨j, hj, rfl⟩ := List.getElem_of_mem hd
  have := h j hj hj
  simpa using this
theorem atD_some {α : Type} {xs : List (ByteArray × α)} {nm : ByteArray} {k : Nat} (h : NoneAt xs nm k) (hk : k < xs.length) (hn : xs[k].1 = nm) : xs.find? (fun d => decide (d.1 = nm)) = some xs[k] := by
  rw [List.find?_eq_some_iff_getElem]
  refine ⟨by simp [hn], k, hk, rfl, fun j hj => ?_⟩
  have := h j (by omega) hj
  simpa using this
def NumAt (t : Db) (nm : ByteArray) (w : World) (e : Ending) (w' : World) : Prop := ∃ n : Int, e = .returned (.int .i64 n) ∧ AtD t nm n ∧ Below w.heap.size w w'

set_option maxRecDepth 100000 in
set_option maxHeartbeats 1600000 in
theorem l9Table_any (t : Db) (nm : ByteArray) (w : World) (cs : List Value) (h : RDb w t cs) : Calls Tryz.prog 27 #[.agg cs.toArray, .string nm] w (NumAt t nm w) := by
  obtain ⟨A, c, rfl, hl, _, hp⟩ := h.open
  obtain ⟨W1, hW1⟩ : ∃ W1, w.alloc (.cells #[.slice A t.length c] 37) = W1 := ⟨_, rfl⟩
  obtain ⟨H, hH⟩ : ∃ H, w.heap.size = H := ⟨_, rfl⟩
  have b0 : Box1 W1 H 37 (.slice A t.length c) := by rw [← hW1, ← hH]; exact Box1.new w _ _
  have hb1 : Below w.heap.size w W1 := by rw [← hW1]; exact (Below.refl _ _).alloc (Nat.le_refl _) _
  have HA := Lib.hid (fun (W : World) (hB : Below W1.heap.size W1 W) => b0.under hB b0.lt)
  have HB1 := Lib.hid hb1
  have HP := Lib.hid (hp.keep hb1)
  have HW1 := Lib.hid hW1
  have x0 := b0.c0
  have HI0 : Hid (∃ k : Nat, k ≤ t.length ∧ Value.int .i64 0 = .int .i64 (k : Int) ∧ NoneAt t nm k ∧ Below W1.heap.size W1 W1) := Lib.hid ⟨0, Nat.zero_le _, rfl, noneAt_zero _ _, Below.refl _ _⟩
  clear h hp hW1 b0 hb1
  go_enter Tryz.func27, Tryz.ntmps27
  go_wp2_with fail
  rw [HW1.out]
  go_wp2_with fail
  go_loopw [5] (fun i wr => ∃ k : Nat, k ≤ t.length ∧ i = .int .i64 (k : Int) ∧ NoneAt t nm k ∧ Below W1.heap.size W1 wr) (fun i _ => t.length - (intOf i).toNat)
  case atStart => exact HI0.out
  case round =>
    obtain ⟨k, hk, rfl, hno, hb⟩ := hrel
    clear x0
    have x0 := (HA.out wr hb).c0
    by_cases hlt : k < t.length
    · obtain ⟨ad, p, c0, c1, rfl, hpe, hr, q0, q1⟩ := rl_at2 kDd_n HP.out hb hlt
      obtain ⟨TB, tb, te, hcs, hs, hy⟩ := kDd_open hr
      simp only [List.cons.injEq, and_true] at hcs
      obtain ⟨rfl, rfl⟩ := hcs
      have HBW := Lib.hid (HB1.out.trans (hb.mono HB1.out.size))
      by_cases hn : t[k].1 = nm
      · have HR : Hid (NumAt t nm w (.returned (.int .i64 (k : Int))) wr) := Lib.hid ⟨(k : Int), rfl, .inr ⟨k, hlt, rfl, hn, atD_some hno hlt hn⟩, HBW.out⟩
        rw [hn] at q0
        clear hr hs hy hno hk hn
        go_wp2_with fail
        go_ret
        exact HR.out
      · have HR : Hid (∃ j : Nat, j ≤ t.length ∧ Value.int .i64 ((k : Int) + 1) = .int .i64 (j : Int) ∧ NoneAt t nm j ∧ Below W1.heap.size W1 wr) := Lib.hid ⟨k + 1, hlt, by simp, noneAt_more hno hlt hn, hb⟩
        have f1 := str_neS hn
        generalize t[k].1 = nk at q0 f1
        clear hr hs hy hno hk hn hb
        go_wp2_with fail
        go_roundw
        case rel => exact HR.out
        case measure => simp [intOf]; omega
    · have he : k = t.length := by omega
      subst he
      have HR : Hid (NumAt t nm w (.returned (.int .i64 (-1))) wr) := Lib.hid ⟨-1, rfl, .inl ⟨rfl, atD_none hno⟩, HB1.out.trans (hb.mono HB1.out.size)⟩
      clear hno hb hk
      go_wp2_with fail
      go_ret
      exact HR.out
end Go.Proofs.YtlikmgkjilmjpaaGreat

/-
  The model's l9Table: the first place of a name.
-/
namespace Go.Proofs.YtlikmgkjilmjpaaGreat
open Go.RowKit

theorem idxN_at {β : Type} {nm : ByteArray} : ∀ (t : List (ByteArray × β)) (k : Nat) (h : k < t.length), NoneAt t nm k → t[k].1 = nm → idxN (t.map fun d => d.1) nm = some k
  | [], k, h, _, _ => by simp at h
  | d :: t, 0, _, _, hn => by
    rw [List.map_cons, idxN, if_pos (by simpa using hn)]
  | d :: t, k + 1, h, hno, hn => by
    have h0 : d.1 ≠ nm := hno 0 (by simp) (by omega)
    rw [List.map_cons, idxN, if_neg h0, idxN_at t k (by simpa using h) (fun j hj hlt => hno (j + 1) (by simpa using hj) (by omega)) (by simpa using hn)]
    rfl
theorem idxN_no {β : Type} {nm : ByteArray} {t : List (ByteArray × β)} (h : NoneAt t nm t.length) : idxN (t.map fun d => d.1) nm = none := by
  cases hi : idxN (t.map fun d => d.1) nm with
  | none => rfl
  | some j =>
    obtain ⟨hj, hn, _⟩ := (idxN_find t nm).1 j hi
    exact absurd hn (h j hj hj)
def NumIx (t : Db) (nm : ByteArray) (w : World) (e : Ending) (w' : World) : Prop := ∃ n : Int, e = .returned (.int .i64 n) ∧ ((n = -1 ∧ idxN (t.map fun d => d.1) nm = none) ∨ ∃ k : Nat, k < t.length ∧ n = (k : Int) ∧ idxN (t.map fun d => d.1) nm = some k) ∧ Below w.heap.size w w'
set_option maxRecDepth 100000 in
set_option maxHeartbeats 1600000 in
theorem l9TableN_any (t : Db) (nm : ByteArray) (w : World) (cs : List Value) (h : RDb w t cs) : Calls Tryz.prog 27 #[.agg cs.toArray, .string nm] w (NumIx t nm w) := by
  obtain ⟨A, c, rfl, hl, _, hp⟩ := h.open
  obtain ⟨W1, hW1⟩ : ∃ W1, w.alloc (.cells #[.slice A t.length c] 37) = W1 := ⟨_, rfl⟩
  obtain ⟨H, hH⟩ : ∃ H, w.heap.size = H := ⟨_, rfl⟩
  have b0 : Box1 W1 H 37 (.slice A t.length c) := by rw [← hW1, ← hH]; exact Box1.new w _ _
  have hb1 : Below w.heap.size w W1 := by rw [← hW1]; exact (Below.refl _ _).alloc (Nat.le_refl _) _
  have HA := Lib.hid (fun (W : World) (hB : Below W1.heap.size W1 W) => b0.under hB b0.lt)
  have HB1 := Lib.hid hb1
  have HP := Lib.hid (hp.keep hb1)
  have HW1 := Lib.hid hW1
  have x0 := b0.c0
  have HI0 : Hid (∃ k : Nat, k ≤ t.length ∧ Value.int .i64 0 = .int .i64 (k : Int) ∧ NoneAt t nm k ∧ Below W1.heap.size W1 W1) := Lib.hid ⟨0, Nat.zero_le _, rfl, noneAt_zero _ _, Below.refl _ _⟩
  clear h hp hW1 b0 hb1
  go_enter Tryz.func27, Tryz.ntmps27
  go_wp2_with fail
  rw [HW1.out]
  go_wp2_with fail
  go_loopw [5] (fun i wr => ∃ k : Nat, k ≤ t.length ∧ i = .int .i64 (k : Int) ∧ NoneAt t nm k ∧ Below W1.heap.size W1 wr) (fun i _ => t.length - (intOf i).toNat)
  case atStart => exact HI0.out
  case round =>
    obtain ⟨k, hk, rfl, hno, hb⟩ := hrel
    clear x0
    have x0 := (HA.out wr hb).c0
    by_cases hlt : k < t.length
    · obtain ⟨ad, p, c0, c1, rfl, hpe, hr, q0, q1⟩ := rl_at2 kDd_n HP.out hb hlt
      obtain ⟨TB, tb, te, hcs, hs, hy⟩ := kDd_open hr
      simp only [List.cons.injEq, and_true] at hcs
      obtain ⟨rfl, rfl⟩ := hcs
      have HBW := Lib.hid (HB1.out.trans (hb.mono HB1.out.size))
      by_cases hn : t[k].1 = nm
      · have HR : Hid (NumIx t nm w (.returned (.int .i64 (k : Int))) wr) := Lib.hid ⟨(k : Int), rfl, .inr ⟨k, hlt, rfl, idxN_at t k hlt hno hn⟩, HBW.out⟩
        rw [hn] at q0
        clear hr hs hy hno hk hn
        go_wp2_with fail
        go_ret
        exact HR.out
      · have HR : Hid (∃ j : Nat, j ≤ t.length ∧ Value.int .i64 ((k : Int) + 1) = .int .i64 (j : Int) ∧ NoneAt t nm j ∧ Below W1.heap.size W1 wr) := Lib.hid ⟨k + 1, hlt, by simp, noneAt_more hno hlt hn, hb⟩
        have f1 := str_neS hn
        generalize t[k].1 = nk at q0 f1
        clear hr hs hy hno hk hn hb
        go_wp2_with fail
        go_roundw
        case rel => exact HR.out
        case measure => simp [intOf]; omega
    · have he : k = t.length := by omega
      subst he
      have HR : Hid (NumIx t nm w (.returned (.int .i64 (-1))) wr) := Lib.hid ⟨-1, rfl, .inl ⟨rfl, idxN_no hno⟩, HB1.out.trans (hb.mono HB1.out.size)⟩
      clear hno hb hk
      go_wp2_with fail
      go_ret
      exact HR.out
end Go.Proofs.YtlikmgkjilmjpaaGreat

/-
  A list of a kind that grows by append in the one field of a struct of its own. Hangs on no program.
-/
namespace Go.Proofs.YtlikmgkjilmjpaaGreat
open Go.RowKit
section
variable {α : Type}

/-- k elements are put together; the variable is the block g -/
def ApF (a : Kd α) (e T : TypeId) (xs : List α) (w : World) (g k : Nat) (A : Option Addr) (d : Nat) (cells : List Value) (fs : Nat → List Nat) (fp : List Nat) (wr : World) : Prop :=
  Box1 wr g T (.slice A k d) ∧ OLc a e wr (xs.take k) A d cells fs fp ∧ (∀ b ∈ fp, w.heap.size ≤ b ∧ b < wr.heap.size ∧ b ≠ g) ∧ w.heap.size ≤ g ∧ Below w.heap.size w wr
def ApFInv (a : Kd α) (e T : TypeId) (xs : List α) (w : World) (g : Nat) (i : Value) (wr : World) : Prop :=
  ∃ (k : Nat) (A : Option Addr) (d : Nat) (cells : List Value) (fs : Nat → List Nat) (fp : List Nat), k ≤ xs.length ∧ i = .int .i64 (k : Int) ∧ ApF a e T xs w g k A d cells fs fp wr
theorem apF_zero (a : Kd α) (e T : TypeId) (xs : List α) {w wr : World} {g : Nat} (h : Box1 wr g T (.slice none 0 0)) (hg : w.heap.size ≤ g) (hb : Below w.heap.size w wr) : ApF a e T xs w g 0 none 0 [] (fun _ => []) [] wr :=
  ⟨h, ol_nil a e wr, fun b hm => by simp at hm, hg, hb⟩
theorem apF_more {a : Kd α} {e T : TypeId} {xs : List α} {w wr w2 w4 : World} {g k : Nat} {A A' : Option Addr} {d d' : Nat} {cells rs : List Value} {fs : Nat → List Nat} {fp fx : List Nat} {i : Value} (hk : k < xs.length) (hmax : xs.length ≤ 9223372036854775807) (hi : i = .int .i64 ((k + 1 : Nat) : Int))
    (h : ApF a e T xs w g k A d cells fs fp wr) (hb2 : Below wr.heap.size wr w2) (hx : a.O w2 xs[k] rs fx) (hfx : ∀ b ∈ fx, wr.heap.size ≤ b ∧ b < w2.heap.size) (o : Obj)
    (hown : w4.ownsRow 0 e a.n (.slice A' (k + 1) d') (k + 1) (cells ++ rs)) (hgr : (w2.alloc o).grownBy w4 (Value.slice A k d).ownBlock)
    (hor : (Value.slice A' (k + 1) d').ownBlock = (Value.slice A k d).ownBlock ∨ (Value.slice A' (k + 1) d').ownBlock = some (w2.alloc o).heap.size) : ApFInv a e T xs w g i (w4.setCell ⟨g, 0, none⟩ (.slice A' (k + 1) d')) := by
  obtain ⟨hbox, hol, hfp, hwg, hb⟩ := h
  have hgl := hbox.lt
  have hlen : (xs.take k).length = k := by rw [List.length_take]; omega
  have hs2 := hb2.size
  have hsw := hb.size
  have hs3 : (w2.alloc o).heap.size = w2.heap.size + 1 := by simp
  have hb3 : Below wr.heap.size wr (w2.alloc o) := hb2.alloc hs2 _
  have hs4 := hgr.size
  have h3 : OLc a e (w2.alloc o) (xs.take k) A d cells fs fp := hol.under hb3
  have hx3 : a.O (w2.alloc o) xs[k] rs fx := a.under hx ((Below.refl _ _).alloc (Nat.le_refl _) _)
  obtain ⟨fs', fp', h4, hf4⟩ := olc_append (A' := A') (d' := d') h3 (by rw [hlen]; omega) hx3 (fun b hb1 hb2 => by have := hfx b hb1; have := hfp b hb2; omega) (fun b hb1 => by have := hfx b hb1; omega) (fun b hb1 => by have := hfp b hb1; omega) (by rw [hlen]; exact hown) (by rw [hlen]; exact hgr) (by rw [hlen]; exact hor)
  have htk : xs.take k ++ [xs[k]] = xs.take (k + 1) := by rw [List.take_add_one, List.getElem?_eq_getElem hk]; rfl
  rw [htk] at h4
  have hAfp : ∀ b, (Value.slice A k d).ownBlock = some b → b ∈ fp := fun b hm => by
    have hbm : b ∈ blk A := (blk_own A k d b).1 hm
    rw [hol.2.2.2.1]; simp [hbm]
  obtain ⟨w5, hw5⟩ : ∃ w5, w4.setCell ⟨g, 0, none⟩ (.slice A' (k + 1) d') = w5 := ⟨_, rfl⟩
  have hg5 : w4.grownBy w5 (some g) := by rw [← hw5]; exact grown_set (World.grownBy.refl _ _) _
  have hs5 := hg5.size
  have hne : ∀ b ∈ fp', w.heap.size ≤ b ∧ b < w4.heap.size ∧ b ≠ g := fun b hm => by
    obtain ⟨h5, h6⟩ := hf4 b hm
    rcases h5 with h5 | h5 | h5
    · have := hfp b h5; exact ⟨this.1, by omega, this.2.2⟩
    · have := hfx b h5; exact ⟨by omega, by omega, by omega⟩
    · exact ⟨by omega, by omega, by omega⟩
  rw [hw5]
  refine ⟨k + 1, A', d', _, fs', fp', hk, hi, ?_, h4.held (K := fun i => some i ≠ some g) ⟨hg5.os, hg5.tape, hg5.output, hg5.size, fun i hi hd => hg5.block i hi hd⟩ (fun b hm e1 => by injection e1 with e1; exact (hne b hm).2.2 e1), fun b hm => by have := hne b hm; exact ⟨this.1, by omega, this.2.2⟩, hwg, ?_⟩
  · rw [← hw5]
    exact (((hbox.under hb3 hgl).grown hgr (fun e1 => (hfp g (hAfp g e1.symm)).2.2 rfl))).set0 _
  · have h6 : Below w.heap.size w w4 := (hb.trans (hb3.mono hsw)).grown hgr (by omega) (fun b hm => (hfp b (hAfp b hm)).1)
    exact h6.grown hg5 h6.size (fun b hm => by injection hm with hm; omega)
/-- .. as apF_more, the blocks named -/
theorem apF_step {a : Kd α} {e T : TypeId} {xs : List α} {w wr w2 w4 : World} {g k : Nat} {A A' : Option Addr} {d d' : Nat} {cells rs : List Value} {fs : Nat → List Nat} {fp fx : List Nat} (hk : k < xs.length) (hmax : xs.length ≤ 9223372036854775807)
    (h : ApF a e T xs w g k A d cells fs fp wr) (hb2 : Below wr.heap.size wr w2) (hx : a.O w2 xs[k] rs fx) (hfx : ∀ b ∈ fx, wr.heap.size ≤ b ∧ b < w2.heap.size) (o : Obj)
    (hown : w4.ownsRow 0 e a.n (.slice A' (k + 1) d') (k + 1) (cells ++ rs)) (hgr : (w2.alloc o).grownBy w4 (Value.slice A k d).ownBlock)
    (hor : (Value.slice A' (k + 1) d').ownBlock = (Value.slice A k d).ownBlock ∨ (Value.slice A' (k + 1) d').ownBlock = some (w2.alloc o).heap.size) :
    ∃ fs' fp', ApF a e T xs w g (k + 1) A' d' (cells ++ rs) fs' fp' (w4.setCell ⟨g, 0, none⟩ (.slice A' (k + 1) d')) ∧ (∀ b ∈ fp', b ∈ fp ∨ wr.heap.size ≤ b) ∧ Held (fun i => i ≠ g ∧ i ∉ fp) wr (w4.setCell ⟨g, 0, none⟩ (.slice A' (k + 1) d')) := by
  obtain ⟨hbox, hol, hfp, hwg, hb⟩ := h
  have hgl := hbox.lt
  have hlen : (xs.take k).length = k := by rw [List.length_take]; omega
  have hs2 := hb2.size
  have hsw := hb.size
  have hs3 : (w2.alloc o).heap.size = w2.heap.size + 1 := by simp
  have hb3 : Below wr.heap.size wr (w2.alloc o) := hb2.alloc hs2 _
  have hs4 := hgr.size
  have h3 : OLc a e (w2.alloc o) (xs.take k) A d cells fs fp := hol.under hb3
  have hx3 : a.O (w2.alloc o) xs[k] rs fx := a.under hx ((Below.refl _ _).alloc (Nat.le_refl _) _)
  obtain ⟨fs', fp', h4, hf4⟩ := olc_append (A' := A') (d' := d') h3 (by rw [hlen]; omega) hx3 (fun b hb1 hb2 => by have := hfx b hb1; have := hfp b hb2; omega) (fun b hb1 => by have := hfx b hb1; omega) (fun b hb1 => by have := hfp b hb1; omega) (by rw [hlen]; exact hown) (by rw [hlen]; exact hgr) (by rw [hlen]; exact hor)
  have htk : xs.take k ++ [xs[k]] = xs.take (k + 1) := by rw [List.take_add_one, List.getElem?_eq_getElem hk]; rfl
  rw [htk] at h4
  have hAfp : ∀ b, (Value.slice A k d).ownBlock = some b → b ∈ fp := fun b hm => by
    have hbm : b ∈ blk A := (blk_own A k d b).1 hm
    rw [hol.2.2.2.1]; simp [hbm]
  obtain ⟨w5, hw5⟩ : ∃ w5, w4.setCell ⟨g, 0, none⟩ (.slice A' (k + 1) d') = w5 := ⟨_, rfl⟩
  have hg5 : w4.grownBy w5 (some g) := by rw [← hw5]; exact grown_set (World.grownBy.refl _ _) _
  have hs5 := hg5.size
  have hne : ∀ b ∈ fp', w.heap.size ≤ b ∧ b < w4.heap.size ∧ b ≠ g := fun b hm => by
    obtain ⟨h5, h6⟩ := hf4 b hm
    rcases h5 with h5 | h5 | h5
    · have := hfp b h5; exact ⟨this.1, by omega, this.2.2⟩
    · have := hfx b h5; exact ⟨by omega, by omega, by omega⟩
    · exact ⟨by omega, by omega, by omega⟩
  rw [hw5]
  refine ⟨fs', fp', ⟨?_, h4.held (K := fun i => some i ≠ some g) ⟨hg5.os, hg5.tape, hg5.output, hg5.size, fun i hi hd => hg5.block i hi hd⟩ (fun b hm e1 => by injection e1 with e1; exact (hne b hm).2.2 e1), fun b hm => by have := hne b hm; exact ⟨this.1, by omega, this.2.2⟩, hwg, ?_⟩, fun b hm => ?_, ?_⟩
  · rw [← hw5]
    exact (((hbox.under hb3 hgl).grown hgr (fun e1 => (hfp g (hAfp g e1.symm)).2.2 rfl))).set0 _
  · have h6 : Below w.heap.size w w4 := (hb.trans (hb3.mono hsw)).grown hgr (by omega) (fun b hm => (hfp b (hAfp b hm)).1)
    exact h6.grown hg5 h6.size (fun b hm => by injection hm with hm; omega)
  · obtain ⟨h5, h6⟩ := hf4 b hm
    rcases h5 with h5 | h5 | h5
    · exact .inl h5
    · exact .inr (hfx b h5).1
    · exact .inr (by omega)
  · refine (Held.of_below hb3 fun i hi _ => hi).trans ((Held.grown hgr fun q hq hn => hn.2 (hAfp q hq)).trans ?_)
    rw [← hw5]
    exact Held.set w4 (fun h => h.1 rfl) _
theorem ApF.apart {a : Kd α} {e T : TypeId} {xs : List α} {w wr : World} {g k : Nat} {A : Option Addr} {d : Nat} {cells : List Value} {fs : Nat → List Nat} {fp : List Nat} (h : ApF a e T xs w g k A d cells fs fp wr) : some g ≠ (Value.slice A k d).ownBlock := by
  obtain ⟨hbox, hol, hfp, hwg, hb⟩ := h
  intro e1
  have hbm : g ∈ blk A := (blk_own A k d g).1 e1.symm
  exact (hfp g (by rw [hol.2.2.2.1]; simp [hbm])).2.2 rfl
theorem ApF.row {a : Kd α} {e T : TypeId} {xs : List α} {w wr : World} {g k : Nat} {A : Option Addr} {d : Nat} {cells : List Value} {fs : Nat → List Nat} {fp : List Nat} (h : ApF a e T xs w g k A d cells fs fp wr) (hk : k ≤ xs.length) : wr.ownsRow 0 e a.n (.slice A k d) k cells := by
  have h1 := h.2.1.row
  rwa [show (xs.take k).length = k by rw [List.length_take]; omega] at h1
theorem ApF.drew {a : Kd α} {e T : TypeId} {xs : List α} {w wr : World} {g k : Nat} {A : Option Addr} {d : Nat} {cells : List Value} {fs : Nat → List Nat} {fp : List Nat} (h : ApF a e T xs w g k A d cells fs fp wr) : ApF a e T xs w g k A d cells fs fp wr.drew := by
  obtain ⟨hbox, hol, hfp, hwg, hb⟩ := h
  exact ⟨hbox, hol.under (Below.refl _ _).drew, hfp, hwg, hb.drew⟩
/-- whole: handed back through the block G -/
theorem apF_done {a : Kd α} {e T : TypeId} {xs : List α} {w W wr U : World} {g G : Nat} {A : Option Addr} {d : Nat} {cells : List Value} {fs : Nat → List Nat} {fp : List Nat} (h : ApF a e T xs W g xs.length A d cells fs fp wr) (hwW : Below w.heap.size w W) (hG : G < W.heap.size) (hwG : w.heap.size ≤ G) (hU : wr.grownBy U (some G)) :
    ∃ fp', OL a e U xs (.slice A xs.length d) fp' ∧ (∀ b ∈ fp', w.heap.size ≤ b ∧ b < U.heap.size) ∧ Below w.heap.size w U := by
  obtain ⟨hbox, hol, hfp, hwg, hb⟩ := h
  rw [List.take_length] at hol
  have hsU := hU.size
  have hsW := hwW.size
  have hsb := hb.size
  refine ⟨fp, (hol.held (K := fun i => some i ≠ some G) ⟨hU.os, hU.tape, hU.output, hU.size, fun i hi hd => hU.block i hi hd⟩ (fun b hm e1 => by injection e1 with e1; have := hfp b hm; omega)).ol, fun b hm => by have := hfp b hm; omega, ?_⟩
  have h1 : Below w.heap.size w wr := hwW.trans (hb.mono hsW)
  exact h1.grown hU h1.size (fun b hm => by injection hm with hm; omega)
end
end Go.Proofs.YtlikmgkjilmjpaaGreat
