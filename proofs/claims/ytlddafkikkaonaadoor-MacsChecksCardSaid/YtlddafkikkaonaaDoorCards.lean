/-
  DERIVED. GIVEN WITH THE SEED: THE CARDS: each row of YtlddafkikkaonaaDoorRows.lean that lists a variable, with what it lists TIED to the program's text (the seventh form; the later family's looks); each row that meets fmt, with fmt's text TOLD by the authors' own Lean function (tested against real Go, not proved from fmt's source: count such statements apart). THE CARD IS WHAT COUNTS. Prove the row's statement (the work); the ties are given (YtlddafkikkaonaaDoorTie.lean); close each card by the builder's one call (the guide's Derived/Test/ToyasCard.lean, 'card_holds'). Laid BY PROGRAM, IN A SANDBOX (cutbox-door.mjs). By AI agents, Wed Nov 11 2026. No macro, syntax, notation, axiom, sorry.
-/
import Derived.Test.YtlddafkikkaonaaDoorRows
import GoSem.ClaimSeven
namespace Go.Proofs.YtlddafkikkaonaaDoor
namespace Rows

/-- THE TIED CARD OF 'burrowlaw12.MacsSeals'. -/
def macsSealsCard : Claim7 := { stood := { row := macsSealsRow, standIns := [], harness := (true, "de6373bea1cab2fff2fd5ce1bfb78b52cd08dcd0bf1733a2718d03f2a364a58c"), looks := false }, kinds := [], alts := [], laidByText := true, laidKinds := [.data, .data], laidTests := true, laidLooks := .later }
def MacsSealsCardSaid : Prop := Claim7.holds Tryd.pinned (.plain (OpenSpec.ofChange macsSealsSpec)) macsSealsCard

/-- THE TIED CARD OF 'burrowlaw12.MacsChecks'. -/
def macsChecksCard : Claim7 := { stood := { row := macsChecksRow, standIns := [], harness := (true, "de6373bea1cab2fff2fd5ce1bfb78b52cd08dcd0bf1733a2718d03f2a364a58c"), looks := false }, kinds := [], alts := [], laidByText := true, laidKinds := [.data, .data], laidTests := true, laidLooks := .later }
def MacsChecksCardSaid : Prop := Claim7.holds Tryd.pinned (.plain (OpenSpec.ofChange macsChecksSpec)) macsChecksCard

/-- THE TIED CARD OF 'burrowlaw12.MacsReturns'. -/
def macsReturnsCard : Claim7 := { stood := { row := macsReturnsRow, standIns := [], harness := (true, "de6373bea1cab2fff2fd5ce1bfb78b52cd08dcd0bf1733a2718d03f2a364a58c"), looks := false }, kinds := [], alts := [], laidByText := true, laidKinds := [.data, .data], laidTests := true, laidLooks := .later }
def MacsReturnsCardSaid : Prop := Claim7.holds Tryd.pinned (.plain (OpenSpec.ofChange macsReturnsSpec)) macsReturnsCard

/-- THE TIED CARD OF 'burrowlaw12.MacsCookies'. -/
def macsCookiesCard : Claim7 := { stood := { row := macsCookiesRow, standIns := [], harness := (true, "de6373bea1cab2fff2fd5ce1bfb78b52cd08dcd0bf1733a2718d03f2a364a58c"), looks := false }, kinds := [], alts := [], laidByText := true, laidKinds := [.data, .data], laidTests := true, laidLooks := .later }
def MacsCookiesCardSaid : Prop := Claim7.holds Tryd.pinned (.plain (OpenSpec.ofChange macsCookiesSpec)) macsCookiesCard

/-- THE SECOND FORM's CARD OF 'burrowlaw12.MacsSeals'. -/
def macsSealsUptoCard : Claim7 := { stood := { row := macsSealsUptoRow, standIns := [], harness := (true, "de6373bea1cab2fff2fd5ce1bfb78b52cd08dcd0bf1733a2718d03f2a364a58c"), looks := false }, kinds := [], alts := [], laidByText := true, laidKinds := [.data, .data], laidTests := true, laidLooks := .later }
def MacsSealsUptoCardSaid : Prop := Claim7.holds Tryd.pinned (.plain (OpenSpec.upto macsSealsSpec)) macsSealsUptoCard

/-- THE SECOND FORM's CARD OF 'burrowlaw12.MacsChecks'. -/
def macsChecksUptoCard : Claim7 := { stood := { row := macsChecksUptoRow, standIns := [], harness := (true, "de6373bea1cab2fff2fd5ce1bfb78b52cd08dcd0bf1733a2718d03f2a364a58c"), looks := false }, kinds := [], alts := [], laidByText := true, laidKinds := [.data, .data], laidTests := true, laidLooks := .later }
def MacsChecksUptoCardSaid : Prop := Claim7.holds Tryd.pinned (.plain (OpenSpec.upto macsChecksSpec)) macsChecksUptoCard

/-- THE SECOND FORM's CARD OF 'burrowlaw12.MacsReturns'. -/
def macsReturnsUptoCard : Claim7 := { stood := { row := macsReturnsUptoRow, standIns := [], harness := (true, "de6373bea1cab2fff2fd5ce1bfb78b52cd08dcd0bf1733a2718d03f2a364a58c"), looks := false }, kinds := [], alts := [], laidByText := true, laidKinds := [.data, .data], laidTests := true, laidLooks := .later }
def MacsReturnsUptoCardSaid : Prop := Claim7.holds Tryd.pinned (.plain (OpenSpec.upto macsReturnsSpec)) macsReturnsUptoCard

/-- THE SECOND FORM's CARD OF 'burrowlaw12.MacsCookies'. -/
def macsCookiesUptoCard : Claim7 := { stood := { row := macsCookiesUptoRow, standIns := [], harness := (true, "de6373bea1cab2fff2fd5ce1bfb78b52cd08dcd0bf1733a2718d03f2a364a58c"), looks := false }, kinds := [], alts := [], laidByText := true, laidKinds := [.data, .data], laidTests := true, laidLooks := .later }
def MacsCookiesUptoCardSaid : Prop := Claim7.holds Tryd.pinned (.plain (OpenSpec.upto macsCookiesSpec)) macsCookiesUptoCard
end Rows
end Go.Proofs.YtlddafkikkaonaaDoor
