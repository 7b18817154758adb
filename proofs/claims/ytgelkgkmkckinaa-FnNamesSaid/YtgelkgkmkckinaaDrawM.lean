/-
  The draws of chapter 2, by the exported functions; the comparison of two equal lists ('sameTexts').
-/
import Derived.Test.YtgelkgkmkckinaaDrawN
import Derived.Test.YtgelkgkmkckinaaRow
namespace Go.Proofs.Ytgelkgkmkckinaa
open Go.RowKit

/-- a short list in new memory -/
def DrawL (w : World) (e : Ending) (w' : World) : Prop := ∃ (zs : List ByteArray) (A : Option Addr) (c : Nat), e = .returned (.slice A zs.length c) ∧ zs.length ≤ 5 ∧ (∀ z ∈ zs, z.size ≤ 4) ∧ Row w' w.heap.size w'.heap.size A zs.length c (zs.map Value.string) ∧ Below w.heap.size w w'
def DrawLL (w : World) (e : Ending) (w' : World) : Prop :=
  ∃ (zs ys : List ByteArray) (A B : Option Addr) (c d : Nat), e = .returned (.tuple #[.slice A zs.length c, .slice B ys.length d]) ∧ Short zs ∧ Short ys ∧
    Row w' w.heap.size w'.heap.size A zs.length c (zs.map Value.string) ∧ Row w' w.heap.size w'.heap.size B ys.length d (ys.map Value.string) ∧ Below w.heap.size w w'
theorem row_mono {w : World} {lo lo' : Nat} {A : Option Addr} {n c : Nat} {xs : List Value} (h : w.ownsRow lo 9 1 (.slice A n c) n xs) (hl : lo' ≤ lo) : Row w lo' w.heap.size A n c xs := Row.of (own_mono h hl)

set_option maxHeartbeats 800000 in
theorem drawSort_any (A : Option Addr) (cap : Nat) (bs : List UInt8) (w : World) (h : Code w A bs) : Calls Try.prog 10 #[.slice A bs.length cap] w (DrawL w) := by
  have H := Lib.hid (l1New_any A cap bs w h.1 h.2)
  clear h
  go_enter Try.func10, Try.ntmps10
  go_wp2_with fail
  refine (H.out).mono ?_
  rintro e w1 ⟨b, rfl, hbw, hc, hb⟩
  have HB := Lib.hid hb
  have HC := Lib.hid hc
  clear hb hc
  go_wp2_with fail
  refine (l2List_any b w1 HC.out).mono ?_
  rintro e w2 ⟨zs, A2, c2, rfl, hs, hown, _, hg⟩
  have HR : Hid (DrawL w (.returned (.slice A2 zs.length c2)) w2) := ⟨zs, A2, c2, rfl, hs.1, hs.2, row_mono hown HB.out.size, below_of_grown HB.out hg HB.out.size hbw⟩
  clear hs hown hg
  go_wp2_with fail
  go_ret
  exact HR.out

set_option maxHeartbeats 800000 in
theorem drawUnite_any (A : Option Addr) (cap : Nat) (bs : List UInt8) (w : World) (h : Code w A bs) : Calls Try.prog 12 #[.slice A bs.length cap] w (DrawLL w) := by
  have H := Lib.hid (l1New_any A cap bs w h.1 h.2)
  clear h
  go_enter Try.func12, Try.ntmps12
  go_wp2_with fail
  refine (H.out).mono ?_
  rintro e w1 ⟨b, rfl, hbw, hc, hb⟩
  have HB := Lib.hid hb
  have HC := Lib.hid hc
  clear hb hc
  go_wp2_with fail
  refine (l2List_any b w1 HC.out).mono ?_
  rintro e w2 ⟨zs, A2, c2, rfl, hs, hown, hc2, hg⟩
  have HB2 := Lib.hid (below_of_grown HB.out hg HB.out.size hbw)
  have HC2 := Lib.hid hc2
  have HS := Lib.hid hs
  have HO := Lib.hid hown
  have hlt := HC.out.lt
  clear hs hown hg hc2
  go_wp2_with fail
  refine (l2List_any b w2 HC2.out).mono ?_
  rintro e w3 ⟨ys, A3, c3, rfl, hs3, hown3, _, hg3⟩
  have ho3 : w3.ownsRow w1.heap.size 9 1 (.slice A2 zs.length c2) zs.length (zs.map Value.string) := HO.out.kept hg3 (.inr (fun e => by have := (HO.out.lt b e).1; omega))
  have HR : Hid (DrawLL w (.returned (.tuple #[.slice A2 zs.length c2, .slice A3 ys.length c3])) w3) :=
    ⟨zs, ys, A2, A3, c2, c3, rfl, HS.out, hs3, row_mono ho3 HB.out.size, row_mono hown3 HB2.out.size, below_of_grown HB2.out hg3 HB2.out.size hbw⟩
  clear hs3 hown3 hg3 ho3
  go_wp2_with fail
  go_ret2
  exact HR.out

def names11 : List ByteArray := [⟨#[120]⟩, ⟨#[120, 49]⟩, ⟨#[49, 120]⟩, ⟨#[88]⟩, ⟨#[97, 98, 99, 100]⟩, ⟨#[97, 98, 99, 100, 101]⟩, ⟨#[]⟩, ⟨#[105, 102]⟩, ⟨#[102, 111, 114]⟩, ⟨#[105, 102, 120]⟩, ⟨#[97, 45]⟩]
theorem names11_bd : ∀ x ∈ names11, x.size ≤ 1000 := by decide
def DrawT (w : World) (e : Ending) (w' : World) : Prop := ∃ s : ByteArray, e = .returned (.string s) ∧ s.size ≤ 1000 ∧ Below w.heap.size w w'

set_option maxHeartbeats 800000 in
theorem drawName_any (A : Option Addr) (cap : Nat) (bs : List UInt8) (w : World) (h : Code w A bs) : Calls Try.prog 19 #[.slice A bs.length cap] w (DrawT w) := by
  have H := Lib.hid (l1New_any A cap bs w h.1 h.2)
  clear h
  go_enter Try.func19, Try.ntmps19
  go_wp2_with fail
  refine (H.out).mono ?_
  rintro e w1 ⟨b, rfl, hbw, hc, hb⟩
  have HB := Lib.hid hb
  have HC := Lib.hid hc
  clear hb hc
  go_wp2_with fail
  refine (l1Pick_new b names11 w1 HC.out (by decide) (by decide)).mono ?_
  rintro e w2 ⟨x, hx, rfl, _, hg⟩
  have HR : Hid (DrawT w (.returned (.string x)) w2) := ⟨x, rfl, names11_bd x hx, below_of_grown HB.out hg HB.out.size hbw⟩
  clear hx hg
  go_wp2_with fail
  go_ret
  exact HR.out

set_option maxHeartbeats 800000 in
theorem drawAsc_any (A : Option Addr) (cap : Nat) (bs : List UInt8) (w : World) (h : Code w A bs) : Calls Try.prog 20 #[.slice A bs.length cap] w (DrawL w) := by
  have H := Lib.hid (l1New_any A cap bs w h.1 h.2)
  clear h
  go_enter Try.func20, Try.ntmps20
  go_wp2_with fail
  refine (H.out).mono ?_
  rintro e w1 ⟨b, rfl, hbw, hc, hb⟩
  have HB := Lib.hid hb
  have HC := Lib.hid hc
  clear hb hc
  go_wp2_with fail
  refine (l1Once_any b 2 w1 HC.out (by omega) (by omega)).mono ?_
  rintro e w2 ⟨y, rfl, hc2, hg⟩
  have HC2 := Lib.hid hc2
  have HB2 := Lib.hid (below_of_grown HB.out hg HB.out.size hbw)
  clear hc2 hg
  cases y
  · go_wp2_with fail
    refine (l2List_any b w2 HC2.out).mono ?_
    rintro e w3 ⟨zs, A2, c2, rfl, hs, hown, _, hg⟩
    have HR : Hid (DrawL w (.returned (.slice A2 zs.length c2)) w3) := ⟨zs, A2, c2, rfl, hs.1, hs.2, row_mono hown HB2.out.size, below_of_grown HB2.out hg HB2.out.size hbw⟩
    clear hs hown hg
    go_wp2_with fail
    go_ret
    exact HR.out
  · go_wp2_with fail
    refine (l2List_any b w2 HC2.out).mono ?_
    rintro e w3 ⟨zs, A2, c2, rfl, hs, hown, _, hg⟩
    have HB3 := Lib.hid (below_of_grown HB2.out hg HB2.out.size hbw)
    have HS := Lib.hid hs
    have HO := Lib.hid hown
    clear hs hown hg
    go_wp2_with fail
    refine (specSort_any A2 c2 zs w3 (Sl.of_own HO.out) (by have := HS.out.1; omega)).mono ?_
    rintro e w4 ⟨o, _, hm, hl, A4, c4, rfl, hown4, hb4⟩
    have HR : Hid (DrawL w (.returned (.slice A4 o.length c4)) w4) := ⟨o, A4, c4, rfl, by have := HS.out.1; omega, fun z hz => HS.out.2 z ((hm z).1 hz), row_mono hown4 HB3.out.size, HB3.out.trans (hb4.mono HB3.out.size)⟩
    clear hm hl hown4 hb4
    go_wp2_with fail
    go_ret
    exact HR.out

set_option maxHeartbeats 800000 in
theorem sameT_any (A B : Option Addr) (c d : Nat) (xs : List ByteArray) (w : World) (hA : Sl w A (xs.map Value.string)) (hB : Sl w B (xs.map Value.string)) (hn : xs.length ≤ 9223372036854775807) :
    Calls Try.prog 14 #[.slice A xs.length c, .slice B xs.length d] w (LawYes w) := by
  go_enter Try.func14, Try.ntmps14
  go_wp2
  go_loopw [5] (fun i wr => ∃ k : Nat, k ≤ xs.length ∧ i = .int .i64 k ∧ ∃ n, wr = w.drewN n) (fun i _ => xs.length - (intOf i).toNat)
  case atStart => exact ⟨0, Nat.zero_le _, rfl, 0, rfl⟩
  case round =>
    obtain ⟨k, hk, rfl, n, rfl⟩ := hrel
    by_cases hlt : k < xs.length
    · obtain ⟨ad, rfl, hc⟩ := hA k (.string xs[k]) (by simp [hlt])
      obtain ⟨bd, rfl, hd⟩ := hB k (.string xs[k]) (by simp [hlt])
      go_wp2
      go_quiet (fail)
      go_wp2
      go_roundw
      case rel => exact ⟨k + 1, by omega, by go_num, _, rfl⟩
      case measure => simp [intOf]; omega
    · go_wp2
      go_ret
      exact ⟨rfl, below_drewN (Below.refl _ _) n⟩
end Go.Proofs.Ytgelkgkmkckinaa
