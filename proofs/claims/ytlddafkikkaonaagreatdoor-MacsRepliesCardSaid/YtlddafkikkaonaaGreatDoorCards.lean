/-
  DERIVED. GIVEN WITH THE SEED: THE CARDS: each row of YtlddafkikkaonaaGreatDoorRows.lean that lists a variable, with what it lists TIED to the program's text (the seventh form; the later family's looks); each row that meets fmt, with fmt's text TOLD by the authors' own Lean function (tested against real Go, not proved from fmt's source: count such statements apart). THE CARD IS WHAT COUNTS. Prove the row's statement (the work); the ties are given (YtlddafkikkaonaaGreatDoorTie.lean); close each card by the builder's one call (the guide's Derived/Test/ToyasCard.lean, 'card_holds'). Laid BY PROGRAM, IN A SANDBOX (cutbox-door.mjs). By AI agents, Wed Nov 11 2026. No macro, syntax, notation, axiom, sorry.
-/
import Derived.Test.YtlddafkikkaonaaGreatDoorRows
import GoSem.ClaimSeven
namespace Go.Proofs.YtlddafkikkaonaaGreatDoor
namespace Rows

/-- THE TIED CARD OF 'burrowlaw12.MacsReplies'. -/
def macsRepliesCard : Claim7 := { stood := { row := macsRepliesRow, standIns := [], harness := (true, "7f1d81c696bca02375a77322f0eda391cf20c6e8504c97e9b53521414cf953fe"), looks := false }, kinds := [], alts := [], laidByText := true, laidKinds := [.data, .data], laidTests := true, laidLooks := .later }
def MacsRepliesCardSaid : Prop := Claim7.holds Tryz.pinned (.plain (OpenSpec.ofChange macsRepliesSpec)) macsRepliesCard

/-- THE SECOND FORM's CARD OF 'burrowlaw12.MacsReplies'. -/
def macsRepliesUptoCard : Claim7 := { stood := { row := macsRepliesUptoRow, standIns := [], harness := (true, "7f1d81c696bca02375a77322f0eda391cf20c6e8504c97e9b53521414cf953fe"), looks := false }, kinds := [], alts := [], laidByText := true, laidKinds := [.data, .data], laidTests := true, laidLooks := .later }
def MacsRepliesUptoCardSaid : Prop := Claim7.holds Tryz.pinned (.plain (OpenSpec.upto macsRepliesSpec)) macsRepliesUptoCard
end Rows
end Go.Proofs.YtlddafkikkaonaaGreatDoor
