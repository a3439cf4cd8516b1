/-
  DERIVED. GIVEN WITH THE SEED: THE CARDS: each row of YtcbfchkhbngpkaaGreatDoorRows.lean that lists a variable, with what it lists TIED to the program's text (the seventh form; the later family's looks); each row that meets fmt, with fmt's text TOLD by the authors' own Lean function (tested against real Go, not proved from fmt's source: count such statements apart). THE CARD IS WHAT COUNTS. Prove the row's statement (the work); the ties are given (YtcbfchkhbngpkaaGreatDoorTie.lean); close each card by the builder's one call (the guide's Derived/Test/ToyasCard.lean, 'card_holds'). Laid BY PROGRAM, IN A SANDBOX (cutbox-door.mjs). By AI agents, Wed Nov 11 2026. No macro, syntax, notation, axiom, sorry.
-/
import Derived.Test.YtcbfchkhbngpkaaGreatDoorRows
import GoSem.ClaimSeven
namespace Go.Proofs.YtcbfchkhbngpkaaGreatDoor
namespace Rows

/-- THE TIED CARD OF 'burrowlaw13.ConfigValidates'. -/
def configValidatesCard : Claim7 := { stood := { row := configValidatesRow, standIns := [], harness := (true, "ca7d89b226fb19f2012e777260c997af586f8155388b0a0b80699b50e3c16a54"), looks := true }, kinds := [], alts := [], laidByText := true, laidKinds := [.data, .data, .data, .data, .sentinel, .sentinel, .pinned], laidTests := true, laidLooks := .later }
def ConfigValidatesCardSaid : Prop := Claim7.holds Tryz.pinned (.plain (OpenSpec.ofChange configValidatesSpec)) configValidatesCard

/-- THE TIED CARD OF 'burrowlaw13.ConfigReturns'. -/
def configReturnsCard : Claim7 := { stood := { row := configReturnsRow, standIns := [], harness := (true, "ca7d89b226fb19f2012e777260c997af586f8155388b0a0b80699b50e3c16a54"), looks := true }, kinds := [], alts := [], laidByText := true, laidKinds := [.data, .data, .data, .data, .sentinel, .sentinel, .pinned], laidTests := true, laidLooks := .later }
def ConfigReturnsCardSaid : Prop := Claim7.holds Tryz.pinned (.plain (OpenSpec.ofChange configReturnsSpec)) configReturnsCard

/-- THE SECOND FORM's CARD OF 'burrowlaw13.ConfigValidates'. -/
def configValidatesUptoCard : Claim7 := { stood := { row := configValidatesUptoRow, standIns := [], harness := (true, "ca7d89b226fb19f2012e777260c997af586f8155388b0a0b80699b50e3c16a54"), looks := true }, kinds := [], alts := [], laidByText := true, laidKinds := [.data, .data, .data, .data, .sentinel, .sentinel, .pinned], laidTests := true, laidLooks := .later }
def ConfigValidatesUptoCardSaid : Prop := Claim7.holds Tryz.pinned (.plain (OpenSpec.upto configValidatesSpec)) configValidatesUptoCard

/-- THE SECOND FORM's CARD OF 'burrowlaw13.ConfigReturns'. -/
def configReturnsUptoCard : Claim7 := { stood := { row := configReturnsUptoRow, standIns := [], harness := (true, "ca7d89b226fb19f2012e777260c997af586f8155388b0a0b80699b50e3c16a54"), looks := true }, kinds := [], alts := [], laidByText := true, laidKinds := [.data, .data, .data, .data, .sentinel, .sentinel, .pinned], laidTests := true, laidLooks := .later }
def ConfigReturnsUptoCardSaid : Prop := Claim7.holds Tryz.pinned (.plain (OpenSpec.upto configReturnsSpec)) configReturnsUptoCard
end Rows
end Go.Proofs.YtcbfchkhbngpkaaGreatDoor
