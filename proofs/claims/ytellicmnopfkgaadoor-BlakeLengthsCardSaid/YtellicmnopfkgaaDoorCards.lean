/-
  DERIVED. GIVEN WITH THE SEED: THE CARDS: each row of YtellicmnopfkgaaDoorRows.lean that lists a variable, with what it lists TIED to the program's text (the seventh form; the later family's looks); each row that meets fmt, with fmt's text TOLD by the authors' own Lean function (tested against real Go, not proved from fmt's source: count such statements apart). THE CARD IS WHAT COUNTS. Prove the row's statement (the work); the ties are given (YtellicmnopfkgaaDoorTie.lean); close each card by the builder's one call (the guide's Derived/Test/ToyasCard.lean, 'card_holds'). Laid BY PROGRAM, IN A SANDBOX (cutbox-door.mjs). By AI agents, Wed Nov 11 2026. No macro, syntax, notation, axiom, sorry.
-/
import Derived.Test.YtellicmnopfkgaaDoorRows
import GoSem.ClaimSeven
namespace Go.Proofs.YtellicmnopfkgaaDoor
namespace Rows

/-- THE TIED CARD OF 'burrowlaw06.BlakeSums'. -/
def blakeSumsCard : Claim7 := { stood := { row := blakeSumsRow, standIns := [], harness := (true, "ef035dd3ada9d259249d11d0c3ea135612f29c3cf9adb2c8d69110c7d0660833"), looks := false }, kinds := [], alts := [], laidByText := true, laidKinds := [.data, .data], laidTests := true, laidLooks := .later }
def BlakeSumsCardSaid : Prop := Claim7.holds Tryd.pinned (.plain (OpenSpec.ofChange blakeSumsSpec)) blakeSumsCard

/-- THE TIED CARD OF 'burrowlaw06.BlakeCodes'. -/
def blakeCodesCard : Claim7 := { stood := { row := blakeCodesRow, standIns := [], harness := (true, "ef035dd3ada9d259249d11d0c3ea135612f29c3cf9adb2c8d69110c7d0660833"), looks := false }, kinds := [], alts := [], laidByText := true, laidKinds := [.data, .data], laidTests := true, laidLooks := .later }
def BlakeCodesCardSaid : Prop := Claim7.holds Tryd.pinned (.plain (OpenSpec.ofChange blakeCodesSpec)) blakeCodesCard

/-- THE TIED CARD OF 'burrowlaw06.BlakeParts'. -/
def blakePartsCard : Claim7 := { stood := { row := blakePartsRow, standIns := [], harness := (true, "ef035dd3ada9d259249d11d0c3ea135612f29c3cf9adb2c8d69110c7d0660833"), looks := false }, kinds := [], alts := [], laidByText := true, laidKinds := [.data, .data], laidTests := true, laidLooks := .later }
def BlakePartsCardSaid : Prop := Claim7.holds Tryd.pinned (.plain (OpenSpec.ofChange blakePartsSpec)) blakePartsCard

/-- THE TIED CARD OF 'burrowlaw06.BlakeLengths'. -/
def blakeLengthsCard : Claim7 := { stood := { row := blakeLengthsRow, standIns := [], harness := (true, "ef035dd3ada9d259249d11d0c3ea135612f29c3cf9adb2c8d69110c7d0660833"), looks := false }, kinds := [], alts := [], laidByText := true, laidKinds := [.data, .data], laidTests := true, laidLooks := .later }
def BlakeLengthsCardSaid : Prop := Claim7.holds Tryd.pinned (.plain (OpenSpec.ofChange blakeLengthsSpec)) blakeLengthsCard

/-- THE SECOND FORM's CARD OF 'burrowlaw06.BlakeSums'. -/
def blakeSumsUptoCard : Claim7 := { stood := { row := blakeSumsUptoRow, standIns := [], harness := (true, "ef035dd3ada9d259249d11d0c3ea135612f29c3cf9adb2c8d69110c7d0660833"), looks := false }, kinds := [], alts := [], laidByText := true, laidKinds := [.data, .data], laidTests := true, laidLooks := .later }
def BlakeSumsUptoCardSaid : Prop := Claim7.holds Tryd.pinned (.plain (OpenSpec.upto blakeSumsSpec)) blakeSumsUptoCard

/-- THE SECOND FORM's CARD OF 'burrowlaw06.BlakeCodes'. -/
def blakeCodesUptoCard : Claim7 := { stood := { row := blakeCodesUptoRow, standIns := [], harness := (true, "ef035dd3ada9d259249d11d0c3ea135612f29c3cf9adb2c8d69110c7d0660833"), looks := false }, kinds := [], alts := [], laidByText := true, laidKinds := [.data, .data], laidTests := true, laidLooks := .later }
def BlakeCodesUptoCardSaid : Prop := Claim7.holds Tryd.pinned (.plain (OpenSpec.upto blakeCodesSpec)) blakeCodesUptoCard

/-- THE SECOND FORM's CARD OF 'burrowlaw06.BlakeParts'. -/
def blakePartsUptoCard : Claim7 := { stood := { row := blakePartsUptoRow, standIns := [], harness := (true, "ef035dd3ada9d259249d11d0c3ea135612f29c3cf9adb2c8d69110c7d0660833"), looks := false }, kinds := [], alts := [], laidByText := true, laidKinds := [.data, .data], laidTests := true, laidLooks := .later }
def BlakePartsUptoCardSaid : Prop := Claim7.holds Tryd.pinned (.plain (OpenSpec.upto blakePartsSpec)) blakePartsUptoCard

/-- THE SECOND FORM's CARD OF 'burrowlaw06.BlakeLengths'. -/
def blakeLengthsUptoCard : Claim7 := { stood := { row := blakeLengthsUptoRow, standIns := [], harness := (true, "ef035dd3ada9d259249d11d0c3ea135612f29c3cf9adb2c8d69110c7d0660833"), looks := false }, kinds := [], alts := [], laidByText := true, laidKinds := [.data, .data], laidTests := true, laidLooks := .later }
def BlakeLengthsUptoCardSaid : Prop := Claim7.holds Tryd.pinned (.plain (OpenSpec.upto blakeLengthsSpec)) blakeLengthsUptoCard
end Rows
end Go.Proofs.YtellicmnopfkgaaDoor
