/-
  Merged by program: Kd.
-/
import Derived.Test.YtlikmgkjilmjpaaC6
import Derived.Test.YtlikmgkjilmjpaaC8
import Derived.Test.YtlikmgkjilmjpaaC9

/-
  Kinds of data: how a datum of a Go type lies in memory (R: read; O: in memory of the call's own, with its blocks); products and lists of kinds. Hangs on no program.
-/
namespace Go.Proofs.Ytlikmgkjilmjpaa
open Go.RowKit

/-- the cells of the j-th struct of n cells -/
def partK {β : Type} (n : Nat) (xs : List β) (j : Nat) : List β := (xs.drop (j * n)).take n
theorem partK_get {β : Type} (n : Nat) (xs : List β) (j i : Nat) (hi : i < n) : (partK n xs j)[i]? = xs[j * n + i]? := by
  unfold partK
  rw [List.getElem?_take_of_lt hi, List.getElem?_drop]
theorem own_heldK {w w' : World} {base size n : Nat} {e : TypeId} {A : Option Addr} {c : Nat} {xs : List Value} {K : Nat → Prop} (h : w.ownsRow base e size (.slice A n c) n xs) (hH : Held K w w') (hK : ∀ b ∈ blk A, K b) : w'.ownsRow base e size (.slice A n c) n xs := by
  refine ⟨h.1, h.2.imp id ?_⟩
  rintro ⟨g, cap, cur, hv, h1, h2, h3⟩
  injection hv with e1 e2 e3
  subst e1
  exact ⟨g, cap, cur, by rw [e2, e3], h1, (hH.block g (h.lt g rfl).2 (hK g (by simp [blk]))).trans h2, h3⟩

structure Kd (α : Type) where
  n : Nat
  R : World → α → List Value → Prop
  O : World → α → List Value → List Nat → Prop
  len : ∀ {w : World} {x : α} {cs : List Value}, R w x cs → cs.length = n
  keep : ∀ {w w' : World} {x : α} {cs : List Value}, R w x cs → Below w.heap.size w w' → R w' x cs
  reads : ∀ {w : World} {x : α} {cs : List Value} {fp : List Nat}, O w x cs fp → R w x cs
  held : ∀ {w w' : World} {x : α} {cs : List Value} {fp : List Nat} {K : Nat → Prop}, O w x cs fp → Held K w w' → (∀ b ∈ fp, K b) → O w' x cs fp
  nodup : ∀ {w : World} {x : α} {cs : List Value} {fp : List Nat}, O w x cs fp → fp.Nodup
section
variable {α β : Type}
theorem Kd.okeep (a : Kd α) {w w' : World} {x : α} {cs : List Value} {fp : List Nat} {row : Option Nat} (h : a.O w x cs fp) (hg : w.grownBy w' row) (hne : ∀ b ∈ fp, some b ≠ row) : a.O w' x cs fp :=
  a.held h (K := fun i => some i ≠ row) ⟨hg.os, hg.tape, hg.output, hg.size, fun i hi hd => hg.block i hi hd⟩ hne
theorem Kd.under (a : Kd α) {w w' : World} {x : α} {cs : List Value} {fp : List Nat} (h : a.O w x cs fp) (hb : Below w.heap.size w w') : a.O w' x cs fp :=
  a.okeep h (row := none) ⟨hb.os, hb.tape, hb.output, hb.size, fun i hi _ => hb.block i hi⟩ (fun b _ => by simp)

/-- the slice with the address A reads as a list -/
def RL (a : Kd α) (w : World) (A : Option Addr) (xs : List α) : Prop := ∃ ps : Nat → List Value, ∀ (j : Nat) (x : α), xs[j]? = some x → a.R w x (ps j) ∧ ∃ ad, A = some ad ∧ ∀ (i : Nat) (u : Value), (ps j)[i]? = some u → w.cell? (ad.add (j * a.n + i)) = some u
theorem RL.keep {a : Kd α} {w w' : World} {A : Option Addr} {xs : List α} (h : RL a w A xs) (hb : Below w.heap.size w w') : RL a w' A xs := by
  obtain ⟨ps, hp⟩ := h
  refine ⟨ps, fun j t hj => ?_⟩
  obtain ⟨h1, ad, h2, h3⟩ := hp j t hj
  exact ⟨a.keep h1 hb, ad, h2, fun i u hi => (hb.cell (World.block_lt_of_cell? w _ (h3 i u hi))).trans (h3 i u hi)⟩
theorem rl_nil (a : Kd α) (w : World) (A : Option Addr) : RL a w A [] := ⟨fun _ => [], fun j x hj => by simp at hj⟩
/-- a list in memory of the call's own; its blocks -/
def OL (a : Kd α) (e : TypeId) (w : World) (xs : List α) (s : Value) (fp : List Nat) : Prop :=
  ∃ (A : Option Addr) (d : Nat) (cells : List Value) (fs : Nat → List Nat), s = .slice A xs.length d ∧ xs.length ≤ 9223372036854775807 ∧ w.ownsRow 0 e a.n (.slice A xs.length d) xs.length cells ∧ (∀ (j : Nat) (x : α), xs[j]? = some x → a.O w x (partK a.n cells j) (fs j)) ∧
    fp = blk A ++ (List.range xs.length).flatMap fs ∧ fp.Nodup
theorem OL.reads {a : Kd α} {e : TypeId} {w : World} {xs : List α} {s : Value} {fp : List Nat} (h : OL a e w xs s fp) : ∃ A d, s = .slice A xs.length d ∧ xs.length ≤ 9223372036854775807 ∧ xs.length ≤ d ∧ RL a w A xs := by
  obtain ⟨A, d, cells, fs, rfl, h1, h2, h3, _, _⟩ := h
  refine ⟨A, d, rfl, h1, own_capTy h2, partK a.n cells, fun j x hj => ⟨a.reads (h3 j x hj), ?_⟩⟩
  have hl := a.len (a.reads (h3 j x hj))
  have hj' := (List.getElem?_eq_some_iff.1 hj).1
  rcases h2.2 with ⟨_, h0⟩ | ⟨g, cap, cur, hv, _⟩
  · omega
  · injection hv with e1 _ _
    subst e1
    refine ⟨_, rfl, fun i u hi => ?_⟩
    have hi3 : i < a.n := by
      have := (List.getElem?_eq_some_iff.1 hi).1
      omega
    rw [partK_get _ _ _ _ hi3] at hi
    exact h2.cells (g := g) rfl _ u hi
theorem OL.held {a : Kd α} {e : TypeId} {w w' : World} {xs : List α} {s : Value} {fp : List Nat} {K : Nat → Prop} (h : OL a e w xs s fp) (hH : Held K w w') (hK : ∀ b ∈ fp, K b) : OL a e w' xs s fp := by
  obtain ⟨A, d, cells, fs, rfl, h1, h2, h3, rfl, h5⟩ := h
  refine ⟨A, d, cells, fs, rfl, h1, own_heldK h2 hH fun b hb => hK b (by simp [hb]), fun j x hj => a.held (h3 j x hj) hH fun b hb => hK b ?_, rfl, h5⟩
  rw [List.mem_append, List.mem_flatMap]
  exact .inr ⟨j, List.mem_range.2 (List.getElem?_eq_some_iff.1 hj).1, hb⟩

def Kd.list (a : Kd α) (e : TypeId) : Kd (List α) where
  n := 1
  R w xs cs := ∃ A d, cs = [.slice A xs.length d] ∧ xs.length ≤ 9223372036854775807 ∧ xs.length ≤ d ∧ RL a w A xs
  O w xs cs fp := ∃ s, cs = [s] ∧ OL a e w xs s fp
  len := by rintro w x cs ⟨A, d, rfl, _⟩; rfl
  keep := by rintro w w' x cs ⟨A, d, rfl, h1, h2, h3⟩ hb; exact ⟨A, d, rfl, h1, h2, h3.keep hb⟩
  reads := by
    rintro w x cs fp ⟨s, rfl, h⟩
    obtain ⟨A, d, rfl, h1⟩ := OL.reads h
    exact ⟨A, d, rfl, h1⟩
  held := by rintro w w' x cs fp K ⟨s, rfl, h⟩ hH hK; exact ⟨s, rfl, h.held hH hK⟩
  nodup := by rintro w x cs fp ⟨s, rfl, A, d, cells, fs, _, _, _, _, _, h⟩; exact h
def Kd.prod (a : Kd α) (b : Kd β) : Kd (α × β) where
  n := a.n + b.n
  R w x cs := ∃ c1 c2, cs = c1 ++ c2 ∧ a.R w x.1 c1 ∧ b.R w x.2 c2
  O w x cs fp := ∃ c1 c2 f1 f2, cs = c1 ++ c2 ∧ a.O w x.1 c1 f1 ∧ b.O w x.2 c2 f2 ∧ fp = f1 ++ f2 ∧ fp.Nodup
  len := by rintro w x cs ⟨c1, c2, rfl, h1, h2⟩; rw [List.length_append, a.len h1, b.len h2]
  keep := by rintro w w' x cs ⟨c1, c2, rfl, h1, h2⟩ hb; exact ⟨c1, c2, rfl, a.keep h1 hb, b.keep h2 hb⟩
  reads := by rintro w x cs fp ⟨c1, c2, f1, f2, rfl, h1, h2, _, _⟩; exact ⟨c1, c2, rfl, a.reads h1, b.reads h2⟩
  held := by
    rintro w w' x cs fp K ⟨c1, c2, f1, f2, rfl, h1, h2, rfl, h3⟩ hH hK
    exact ⟨c1, c2, f1, f2, rfl, a.held h1 hH fun q hq => hK q (by simp [hq]), b.held h2 hH fun q hq => hK q (by simp [hq]), rfl, h3⟩
  nodup := by rintro w x cs fp ⟨c1, c2, f1, f2, _, _, _, _, h⟩; exact h
def kStr : Kd ByteArray where
  n := 1
  R _ s cs := cs = [.string s] ∧ s.size ≤ 9223372036854775807
  O _ s cs fp := cs = [.string s] ∧ s.size ≤ 9223372036854775807 ∧ fp = []
  len := by rintro w x cs ⟨rfl, _⟩; rfl
  keep := by rintro w w' x cs h _; exact h
  reads := by rintro w x cs fp ⟨h1, h2, _⟩; exact ⟨h1, h2⟩
  held := by rintro w w' x cs fp K h _ _; exact h
  nodup := by rintro w x cs fp ⟨_, _, rfl⟩; simp
def kInt : Kd Int where
  n := 1
  R _ k cs := cs = [.int .i64 k] ∧ -9223372036854775808 ≤ k ∧ k ≤ 9223372036854775807
  O _ k cs fp := cs = [.int .i64 k] ∧ (-9223372036854775808 ≤ k ∧ k ≤ 9223372036854775807) ∧ fp = []
  len := by rintro w x cs ⟨rfl, _⟩; rfl
  keep := by rintro w w' x cs h _; exact h
  reads := by rintro w x cs fp ⟨h1, h2, _⟩; exact ⟨h1, h2⟩
  held := by rintro w w' x cs fp K h _ _; exact h
  nodup := by rintro w x cs fp ⟨_, _, rfl⟩; simp
theorem OTy.heldK {w w' : World} {t : Ty} {cs : List Value} {fp : List Nat} {K : Nat → Prop} (h : OTy w t cs fp) (hH : Held K w w') (hK : ∀ b ∈ fp, K b) : OTy w' t cs fp := by
  induction h with
  | node a ks L A c d xs fs h0 h1 h2 h3 h4 h5 ih =>
    refine .node a ks L A c d xs fs h0 (own_heldK h1 hH fun b hb => hK b (by simp [hb])) h2 (own_heldK h3 hH fun b hb => hK b (by simp [hb])) (fun j t hj => ih j t hj fun b hb => hK b ?_) h5
    rw [List.mem_append, List.mem_flatMap]
    exact .inr ⟨j, List.mem_range.2 (List.getElem?_eq_some_iff.1 hj).1, hb⟩
def kTy : Kd Ty where
  n := 3
  R := RTy
  O := OTy
  len h := h.len
  keep h hb := h.keep hb
  reads h := h.reads
  held h hH hK := h.heldK hH hK
  nodup h := h.nodup

/-- what a list takes of the laws' bound -/
def wL (f : α → Nat) (xs : List α) : Nat := xs.length + (xs.map f).sum
theorem wL_le {f : α → Nat} {xs : List α} {k : Nat} {B : Nat} (hk : k < xs.length) (h : wL f xs ≤ B) : f xs[k] ≤ B ∧ xs.length ≤ B := by
  have h1 := sum_take_succ f xs k hk
  have h2 := sum_take_le f xs (k + 1)
  unfold wL at h
  constructor <;> omega
/-- what a copying loop keeps: the first k places are filled -/
def ToLInv (a : Kd α) (e : TypeId) (xs : List α) (w : World) (i : Value) (wr : World) : Prop :=
  ∃ (k : Nat) (cells : List Value) (fs : Nat → List Nat), k ≤ xs.length ∧ i = .int .i64 k ∧ wr.ownsRow w.heap.size e a.n (.slice (some ⟨w.heap.size, 0, none⟩) xs.length xs.length) xs.length cells ∧
    (∀ (j : Nat) (x : α), j < k → xs[j]? = some x → a.O wr x (partK a.n cells j) (fs j)) ∧ ((List.range k).flatMap fs).Nodup ∧ (∀ j, j < k → ∀ b ∈ fs j, w.heap.size < b ∧ b < wr.heap.size) ∧ Below w.heap.size w wr
theorem tolinv_zero (a : Kd α) (e : TypeId) (xs : List α) {w w0 : World} {cells : List Value} (hown : w0.ownsRow w.heap.size e a.n (.slice (some ⟨w.heap.size, 0, none⟩) xs.length xs.length) xs.length cells) (hb : Below w.heap.size w w0) : ToLInv a e xs w (.int .i64 0) w0 :=
  ⟨0, cells, fun _ => [], Nat.zero_le _, rfl, hown, fun j t hj => by omega, by simp, fun j hj => by omega, hb⟩
/-- .. one more: the cells of the place k are stored (W3), the others stay -/
theorem tolinv_more {a : Kd α} {e : TypeId} {xs : List α} {w wr w2 w3 : World} {k : Nat} {cells cells3 rs : List Value} {fs : Nat → List Nat} {fp : List Nat} {i : Value} (hk : k < xs.length) (hi : i = .int .i64 ((k + 1 : Nat) : Int))
    (hown : wr.ownsRow w.heap.size e a.n (.slice (some ⟨w.heap.size, 0, none⟩) xs.length xs.length) xs.length cells) (hkid : ∀ (j : Nat) (x : α), j < k → xs[j]? = some x → a.O wr x (partK a.n cells j) (fs j)) (hnd : ((List.range k).flatMap fs).Nodup)
    (hbd : ∀ j, j < k → ∀ b ∈ fs j, w.heap.size < b ∧ b < wr.heap.size) (hb : Below w.heap.size w wr) (hb2 : Below wr.heap.size wr w2) (hot : a.O w2 xs[k] rs fp) (hfp : ∀ b ∈ fp, wr.heap.size ≤ b ∧ b < w2.heap.size)
    (h3 : w3.ownsRow w.heap.size e a.n (.slice (some ⟨w.heap.size, 0, none⟩) xs.length xs.length) xs.length cells3) (hg3 : w2.grownBy w3 (some w.heap.size)) (hput : partK a.n cells3 k = rs) (hother : ∀ j, j ≠ k → partK a.n cells3 j = partK a.n cells j) : ToLInv a e xs w i w3 := by
  have hlt : w.heap.size < wr.heap.size := (hown.lt w.heap.size rfl).2
  have hs2 := hb2.size
  have hs3 := hg3.size
  refine ⟨k + 1, cells3, fun j => if j = k then fp else fs j, hk, hi, h3, fun j t hj ht => ?_, ?_, fun j hj b hbm => ?_, (hb.trans (hb2.mono hb.size)).grown hg3 (by omega) (fun q hq => by injection hq with hq; omega)⟩
  · show a.O _ _ _ (if j = k then fp else fs j)
    by_cases ej : j = k
    · subst ej
      rw [List.getElem?_eq_getElem hk] at ht
      injection ht with ht
      subst ht
      rw [if_pos rfl, hput]
      exact a.okeep hot hg3 (fun b hbm e => by injection e with e; have := (hfp b hbm).1; omega)
    · rw [if_neg ej, hother j ej]
      exact a.okeep (a.under (hkid j t (by omega) ht) hb2) hg3 (fun b hbm e => by injection e with e; have := (hbd j (by omega) b hbm).1; omega)
  · rw [flat_more]
    refine List.nodup_append.2 ⟨hnd, ?_, fun x hx y hy exy => ?_⟩
    · exact a.nodup hot
    · have h1 := flat_bd hbd x hx
      have h2 := hfp y hy
      omega
  · change b ∈ (if j = k then fp else fs j) at hbm
    by_cases ej : j = k
    · rw [if_pos ej] at hbm
      have := hfp b hbm
      omega
    · rw [if_neg ej] at hbm
      have := hbd j (by omega) b hbm
      omega
/-- a datum in new memory -/
def MadeK (a : Kd α) (x : α) (f : List Value → Value) (w : World) (e : Ending) (w' : World) : Prop :=
  ∃ (cs : List Value) (fp : List Nat), e = .returned (f cs) ∧ a.O w' x cs fp ∧ (∀ b ∈ fp, w.heap.size ≤ b ∧ b < w'.heap.size) ∧ Below w.heap.size w w'
/-- a list in new memory -/
def MadeL' (a : Kd α) (e' : TypeId) (xs : List α) (w : World) (e : Ending) (w' : World) : Prop :=
  ∃ (A : Option Addr) (d : Nat) (fp : List Nat), e = .returned (.slice A xs.length d) ∧ OL a e' w' xs (.slice A xs.length d) fp ∧ (∀ b ∈ fp, w.heap.size ≤ b ∧ b < w'.heap.size) ∧ Below w.heap.size w w'
theorem tolinv_done {a : Kd α} {e : TypeId} {xs : List α} {w wr : World} (hl : xs.length ≤ 9223372036854775807) (h : ToLInv a e xs w (.int .i64 (xs.length : Int)) wr) : MadeL' a e xs w (.returned (.slice (some ⟨w.heap.size, 0, none⟩) xs.length xs.length)) wr := by
  obtain ⟨k, cells, fs, hk, hi, ho, hkid, hnd, hbd, hb⟩ := h
  have hk2 : k = xs.length := by
    injection hi with _ hi
    omega
  subst hk2
  have hlt := (ho.lt w.heap.size rfl).2
  refine ⟨_, _, blk (some ⟨w.heap.size, 0, none⟩) ++ (List.range xs.length).flatMap fs, rfl, ⟨_, _, cells, fs, rfl, hl, ⟨ho.1, ho.2.imp id fun ⟨g, cap, cur, h1, _, h3⟩ => ⟨g, cap, cur, h1, Nat.zero_le _, h3⟩⟩, fun j t hj => hkid j t (List.getElem?_eq_some_iff.1 hj).1 hj, rfl, ?_⟩, fun b hbm => ?_, hb⟩
  · show (w.heap.size :: _).Nodup
    refine List.nodup_cons.2 ⟨fun hm => ?_, hnd⟩
    have := flat_bd hbd _ hm
    omega
  · rcases List.mem_append.1 hbm with h | h
    · simp [blk] at h
      omega
    · have := flat_bd hbd b h
      omega
end
end Go.Proofs.Ytlikmgkjilmjpaa
