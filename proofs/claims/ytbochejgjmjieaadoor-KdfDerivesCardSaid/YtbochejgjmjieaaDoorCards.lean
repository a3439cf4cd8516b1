/-
  DERIVED. GIVEN WITH THE SEED: THE CARDS: each row of YtbochejgjmjieaaDoorRows.lean that lists a variable, with what it lists TIED to the program's text (the seventh form; the later family's looks); each row that meets fmt, with fmt's text TOLD by the authors' own Lean function (tested against real Go, not proved from fmt's source: count such statements apart). THE CARD IS WHAT COUNTS. Prove the row's statement (the work); the ties are given (YtbochejgjmjieaaDoorTie.lean); close each card by the builder's one call (the guide's Derived/Test/ToyasCard.lean, 'card_holds'). Laid BY PROGRAM, IN A SANDBOX (cutbox-door.mjs). By AI agents, Wed Nov 11 2026. No macro, syntax, notation, axiom, sorry.
-/
import Derived.Test.YtbochejgjmjieaaDoorRows
import GoSem.ClaimSeven
namespace Go.Proofs.YtbochejgjmjieaaDoor
namespace Rows

/-- THE TIED CARD OF 'burrowlaw07.KdfDerives'. -/
def kdfDerivesCard : Claim7 := { stood := { row := kdfDerivesRow, standIns := [], harness := (true, "2cc3a7ca7156ffb2c04797929ff2ac0ddc2da0d9ee44894cc740ddc6e551538a"), looks := false }, kinds := [], alts := [], laidByText := true, laidKinds := [.data, .data], laidTests := true, laidLooks := .later }
def KdfDerivesCardSaid : Prop := Claim7.holds Tryd.pinned (.plain (OpenSpec.ofChange kdfDerivesSpec)) kdfDerivesCard

/-- THE TIED CARD OF 'burrowlaw07.KdfParts'. -/
def kdfPartsCard : Claim7 := { stood := { row := kdfPartsRow, standIns := [], harness := (true, "2cc3a7ca7156ffb2c04797929ff2ac0ddc2da0d9ee44894cc740ddc6e551538a"), looks := false }, kinds := [], alts := [], laidByText := true, laidKinds := [.data, .data], laidTests := true, laidLooks := .later }
def KdfPartsCardSaid : Prop := Claim7.holds Tryd.pinned (.plain (OpenSpec.ofChange kdfPartsSpec)) kdfPartsCard

/-- THE TIED CARD OF 'burrowlaw07.KdfChain'. -/
def kdfChainCard : Claim7 := { stood := { row := kdfChainRow, standIns := [], harness := (true, "2cc3a7ca7156ffb2c04797929ff2ac0ddc2da0d9ee44894cc740ddc6e551538a"), looks := false }, kinds := [], alts := [], laidByText := true, laidKinds := [.data, .data], laidTests := true, laidLooks := .later }
def KdfChainCardSaid : Prop := Claim7.holds Tryd.pinned (.plain (OpenSpec.ofChange kdfChainSpec)) kdfChainCard

/-- THE SECOND FORM's CARD OF 'burrowlaw07.KdfDerives'. -/
def kdfDerivesUptoCard : Claim7 := { stood := { row := kdfDerivesUptoRow, standIns := [], harness := (true, "2cc3a7ca7156ffb2c04797929ff2ac0ddc2da0d9ee44894cc740ddc6e551538a"), looks := false }, kinds := [], alts := [], laidByText := true, laidKinds := [.data, .data], laidTests := true, laidLooks := .later }
def KdfDerivesUptoCardSaid : Prop := Claim7.holds Tryd.pinned (.plain (OpenSpec.upto kdfDerivesSpec)) kdfDerivesUptoCard

/-- THE SECOND FORM's CARD OF 'burrowlaw07.KdfParts'. -/
def kdfPartsUptoCard : Claim7 := { stood := { row := kdfPartsUptoRow, standIns := [], harness := (true, "2cc3a7ca7156ffb2c04797929ff2ac0ddc2da0d9ee44894cc740ddc6e551538a"), looks := false }, kinds := [], alts := [], laidByText := true, laidKinds := [.data, .data], laidTests := true, laidLooks := .later }
def KdfPartsUptoCardSaid : Prop := Claim7.holds Tryd.pinned (.plain (OpenSpec.upto kdfPartsSpec)) kdfPartsUptoCard

/-- THE SECOND FORM's CARD OF 'burrowlaw07.KdfChain'. -/
def kdfChainUptoCard : Claim7 := { stood := { row := kdfChainUptoRow, standIns := [], harness := (true, "2cc3a7ca7156ffb2c04797929ff2ac0ddc2da0d9ee44894cc740ddc6e551538a"), looks := false }, kinds := [], alts := [], laidByText := true, laidKinds := [.data, .data], laidTests := true, laidLooks := .later }
def KdfChainUptoCardSaid : Prop := Claim7.holds Tryd.pinned (.plain (OpenSpec.upto kdfChainSpec)) kdfChainUptoCard
end Rows
end Go.Proofs.YtbochejgjmjieaaDoor
