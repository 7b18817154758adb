/-
  DERIVED. GIVEN WITH THE SEED: THE CARDS: each row of YtlcedleebbgebaaGreatDoorRows.lean that lists a variable, with what it lists TIED to the program's text (the seventh form; the later family's looks); each row that meets fmt, with fmt's text TOLD by the authors' own Lean function (tested against real Go, not proved from fmt's source: count such statements apart). THE CARD IS WHAT COUNTS. Prove the row's statement (the work); the ties are given (YtlcedleebbgebaaGreatDoorTie.lean); close each card by the builder's one call (the guide's Derived/Test/ToyasCard.lean, 'card_holds'). Laid BY PROGRAM, IN A SANDBOX (cutbox-door.mjs). By AI agents, Wed Nov 11 2026. No macro, syntax, notation, axiom, sorry.
-/
import Derived.Test.YtlcedleebbgebaaGreatDoorRows
import GoSem.ClaimSeven
namespace Go.Proofs.YtlcedleebbgebaaGreatDoor
namespace Rows

/-- THE TIED CARD OF 'laws.FnExactTypeOf'. -/
def fnExactTypeOfCard : Claim7 := { stood := { row := fnExactTypeOfRow, standIns := [], harness := (true, "e8d646f6e4e11e238a5b6983a58852467a7e5e844c932030c617e2c5e16e3a6b"), looks := true }, kinds := [], alts := [], laidByText := true, laidKinds := [.data, .sentinel], laidTests := true, laidLooks := .later }
def FnExactTypeOfCardSaid : Prop := Claim7.holds Tryz.pinned (.plain (OpenSpec.ofChange fnExactTypeOfSpec)) fnExactTypeOfCard

/-- THE TIED CARD OF 'laws.FnExactIsQuery'. -/
def fnExactIsQueryCard : Claim7 := { stood := { row := fnExactIsQueryRow, standIns := [], harness := (true, "e8d646f6e4e11e238a5b6983a58852467a7e5e844c932030c617e2c5e16e3a6b"), looks := true }, kinds := [], alts := [], laidByText := true, laidKinds := [.data, .sentinel], laidTests := true, laidLooks := .later }
def FnExactIsQueryCardSaid : Prop := Claim7.holds Tryz.pinned (.plain (OpenSpec.ofChange fnExactIsQuerySpec)) fnExactIsQueryCard

/-- THE SECOND FORM's CARD OF 'laws.FnExactTypeOf'. -/
def fnExactTypeOfUptoCard : Claim7 := { stood := { row := fnExactTypeOfUptoRow, standIns := [], harness := (true, "e8d646f6e4e11e238a5b6983a58852467a7e5e844c932030c617e2c5e16e3a6b"), looks := true }, kinds := [], alts := [], laidByText := true, laidKinds := [.data, .sentinel], laidTests := true, laidLooks := .later }
def FnExactTypeOfUptoCardSaid : Prop := Claim7.holds Tryz.pinned (.plain (OpenSpec.upto fnExactTypeOfSpec)) fnExactTypeOfUptoCard

/-- THE SECOND FORM's CARD OF 'laws.FnExactIsQuery'. -/
def fnExactIsQueryUptoCard : Claim7 := { stood := { row := fnExactIsQueryUptoRow, standIns := [], harness := (true, "e8d646f6e4e11e238a5b6983a58852467a7e5e844c932030c617e2c5e16e3a6b"), looks := true }, kinds := [], alts := [], laidByText := true, laidKinds := [.data, .sentinel], laidTests := true, laidLooks := .later }
def FnExactIsQueryUptoCardSaid : Prop := Claim7.holds Tryz.pinned (.plain (OpenSpec.upto fnExactIsQuerySpec)) fnExactIsQueryUptoCard
end Rows
end Go.Proofs.YtlcedleebbgebaaGreatDoor
