/-
  No cell of these rows narrows 'for every input' (looked for: loops, veiled, ifaces, maps, wideKeys, modest, calm, conditions, laid).
  DERIVED. THE GIVEN ROWS OF THIS SEAT. 4 by the template 'for every input the law returns true; each argument reads behind the call as it read before'; 0 by the template 'total and deterministic' (their statements: YtpahfckihcbajaaTotals.lean).
  GIVEN WITH THE SEED: the statements are not yours to turn. If you find one false, say at which input.
  Laid BY PROGRAM, IN A SANDBOX (cutbox-rows.mjs): the forced cells as the released guide's own fill.sh prints them over the translation 22335b04fc0b2c6f… (all of the seat's roots in one cut). By AI agents, Wed Nov 11 2026. No macro, syntax, notation, axiom, sorry.
-/
import Derived.Test.YtpahfckihcbajaaChecked
import GoSem.Claim
import GoSem.ClaimJoined
import GoSem.ClaimMapViews
import Derived.JoinedTies
import Derived.KernelRfl
namespace Go.Proofs.Ytpahfckihcbajaa
/- THE CELL 'sum', in the pinned program and in every row, IS THE sha256 OF THE DUMP (.gsa) THAT YtpahfckihcbajaaProg.lean LOADS. Nothing in Lean hashes anything: it is a label: what it is worth is what the hold of that sum in a sandbox is worth. -/
noncomputable def Try.pinned : Pinned := { name := "ytpahfckihcbajaa", sum := "22335b04fc0b2c6faa9c01b64c0537c8103e642411edb8fd7fa79ab14be9c35c", checked := Try.checked }
namespace Rows
def none {H : Type} : Left H := { results := [], args := [] }

/-- 'burrowlaw19.LimiterNotes': WHATEVER THE INPUT: true; the input reads as it did. -/
def limiterNotesSpec : ChangeSpec := { name := "limiterNotes", fn := fun _ => fun
  | [d1, d2, d3, d4] => { results := [.lit (.bool true)], args := [d1, d2, d3, d4] }
  | _ => none }
def limiterNotesRow : OpenClaim := { program := "ytpahfckihcbajaa", sum := "22335b04fc0b2c6faa9c01b64c0537c8103e642411edb8fd7fa79ab14be9c35c", func := "burrow/burrowlaw19.LimiterNotes", spec := "limiterNotes", inPlace := ["internal/bytealg.Compare", "slices.overlaps[burrow/api.Bucket]"], unfollowed := true, recurses := true, apart := false }
def LimiterNotesSaid : Prop := limiterNotesRow.holds Try.pinned (OpenSpec.ofChange limiterNotesSpec)

/-- ITS FALSE NEIGHBOUR: 'it returns false'. Refute it at one input. -/
def limiterNotesWrong : ChangeSpec := { name := "limiterNotes", fn := fun _ => fun
  | [d1, d2, d3, d4] => { results := [.lit (.bool false)], args := [d1, d2, d3, d4] }
  | _ => none }
def LimiterNotesWrongFalsely : Prop := limiterNotesRow.holds Try.pinned (OpenSpec.ofChange limiterNotesWrong)

/-- 'burrowlaw19.LimiterLoads': WHATEVER THE INPUT: true; the input reads as it did. -/
def limiterLoadsSpec : ChangeSpec := { name := "limiterLoads", fn := fun _ => fun
  | [d1, d2] => { results := [.lit (.bool true)], args := [d1, d2] }
  | _ => none }
def limiterLoadsRow : OpenClaim := { program := "ytpahfckihcbajaa", sum := "22335b04fc0b2c6faa9c01b64c0537c8103e642411edb8fd7fa79ab14be9c35c", func := "burrow/burrowlaw19.LimiterLoads", spec := "limiterLoads", inPlace := ["internal/bytealg.Compare", "slices.overlaps[burrow/api.Bucket]"], unfollowed := true, recurses := true, apart := false }
def LimiterLoadsSaid : Prop := limiterLoadsRow.holds Try.pinned (OpenSpec.ofChange limiterLoadsSpec)

/-- ITS FALSE NEIGHBOUR: 'it returns false'. Refute it at one input. -/
def limiterLoadsWrong : ChangeSpec := { name := "limiterLoads", fn := fun _ => fun
  | [d1, d2] => { results := [.lit (.bool false)], args := [d1, d2] }
  | _ => none }
def LimiterLoadsWrongFalsely : Prop := limiterLoadsRow.holds Try.pinned (OpenSpec.ofChange limiterLoadsWrong)

/-- 'burrowlaw19.LimiterAllows': WHATEVER THE INPUT: true; the input reads as it did. -/
def limiterAllowsSpec : ChangeSpec := { name := "limiterAllows", fn := fun _ => fun
  | [d1, d2, d3, d4] => { results := [.lit (.bool true)], args := [d1, d2, d3, d4] }
  | _ => none }
def limiterAllowsRow : OpenClaim := { program := "ytpahfckihcbajaa", sum := "22335b04fc0b2c6faa9c01b64c0537c8103e642411edb8fd7fa79ab14be9c35c", func := "burrow/burrowlaw19.LimiterAllows", spec := "limiterAllows", inPlace := ["internal/bytealg.Compare", "slices.overlaps[burrow/api.Bucket]"], unfollowed := true, recurses := true, apart := false }
def LimiterAllowsSaid : Prop := limiterAllowsRow.holds Try.pinned (OpenSpec.ofChange limiterAllowsSpec)

/-- ITS FALSE NEIGHBOUR: 'it returns false'. Refute it at one input. -/
def limiterAllowsWrong : ChangeSpec := { name := "limiterAllows", fn := fun _ => fun
  | [d1, d2, d3, d4] => { results := [.lit (.bool false)], args := [d1, d2, d3, d4] }
  | _ => none }
def LimiterAllowsWrongFalsely : Prop := limiterAllowsRow.holds Try.pinned (OpenSpec.ofChange limiterAllowsWrong)

/-- 'burrowlaw19.LimiterBounds': WHATEVER THE INPUT: true; the input reads as it did. -/
def limiterBoundsSpec : ChangeSpec := { name := "limiterBounds", fn := fun _ => fun
  | [d] => { results := [.lit (.bool true)], args := [d] }
  | _ => none }
def limiterBoundsRow : OpenClaim := { program := "ytpahfckihcbajaa", sum := "22335b04fc0b2c6faa9c01b64c0537c8103e642411edb8fd7fa79ab14be9c35c", func := "burrow/burrowlaw19.LimiterBounds", spec := "limiterBounds", inPlace := ["internal/bytealg.Compare", "slices.overlaps[burrow/api.Bucket]"], unfollowed := true, recurses := true, apart := false }
def LimiterBoundsSaid : Prop := limiterBoundsRow.holds Try.pinned (OpenSpec.ofChange limiterBoundsSpec)

/-- ITS FALSE NEIGHBOUR: 'it returns false'. Refute it at one input. -/
def limiterBoundsWrong : ChangeSpec := { name := "limiterBounds", fn := fun _ => fun
  | [d] => { results := [.lit (.bool false)], args := [d] }
  | _ => none }
def LimiterBoundsWrongFalsely : Prop := limiterBoundsRow.holds Try.pinned (OpenSpec.ofChange limiterBoundsWrong)

/- THE SECOND FORM. 'bulk': how many values and letters a reading holds, each counted each time it is reached (what is shared counts as often as it is met; a slice's spare places count too). A statement '..UptoSaid' is the law's where the arguments, and the package variables that the reading takes, are together of bulk at most 1048576: NARROWER than '..Said'. Prove '..Said' where nothing that the law and all that it calls make is longer than what came in: it says more and counts as full. Else prove '..UptoSaid'. A law counts once. -/
mutual
def uptoBulk {H : Type} : DataW H → Nat
  | .lit (.string bytes) => bytes.length + 1
  | .lit _ => 1
  | .nil => 1
  | .ptr d => uptoBulk d + 1
  | .slice elems spare => uptoBulkAll elems + uptoBulkAll spare + 1
  | .agg parts => uptoBulkAll parts + 1
  | .iface _ d => uptoBulk d + 1
  | .map entries => uptoBulkEntries entries + 1
  | .held _ => 1
def uptoBulkAll {H : Type} : List (DataW H) → Nat
  | [] => 0
  | d :: r => uptoBulk d + uptoBulkAll r
def uptoBulkEntries {H : Type} : List (Lit × DataW H) → Nat
  | [] => 0
  | x :: r => uptoBulkEntry x + uptoBulkEntries r
def uptoBulkEntry {H : Type} : Lit × DataW H → Nat
  | (.string bytes, d) => bytes.length + uptoBulk d + 1
  | (_, d) => uptoBulk d + 1
 end
def uptoSmall : (H : Type) → List (DataW H) → Bool := fun _ ds => decide (uptoBulkAll ds ≤ 1048576)
def OpenSpec.upto (s : _root_.Go.ChangeSpec) : _root_.Go.OpenSpec := { _root_.Go.OpenSpec.ofChange s with cond := some uptoSmall }

/-- 'burrowlaw19.LimiterNotes', WHERE WHAT IT READS IS OF BULK AT MOST 1048576: true; the input reads as it did. -/
def limiterNotesUptoRow : OpenClaim := { program := "ytpahfckihcbajaa", sum := "22335b04fc0b2c6faa9c01b64c0537c8103e642411edb8fd7fa79ab14be9c35c", func := "burrow/burrowlaw19.LimiterNotes", spec := "limiterNotes", inPlace := ["internal/bytealg.Compare", "slices.overlaps[burrow/api.Bucket]"], unfollowed := true, recurses := true, apart := false, narrowed := true }
def LimiterNotesUptoSaid : Prop := limiterNotesUptoRow.holds Try.pinned (OpenSpec.upto limiterNotesSpec)

/-- 'burrowlaw19.LimiterLoads', WHERE WHAT IT READS IS OF BULK AT MOST 1048576: true; the input reads as it did. -/
def limiterLoadsUptoRow : OpenClaim := { program := "ytpahfckihcbajaa", sum := "22335b04fc0b2c6faa9c01b64c0537c8103e642411edb8fd7fa79ab14be9c35c", func := "burrow/burrowlaw19.LimiterLoads", spec := "limiterLoads", inPlace := ["internal/bytealg.Compare", "slices.overlaps[burrow/api.Bucket]"], unfollowed := true, recurses := true, apart := false, narrowed := true }
def LimiterLoadsUptoSaid : Prop := limiterLoadsUptoRow.holds Try.pinned (OpenSpec.upto limiterLoadsSpec)

/-- 'burrowlaw19.LimiterAllows', WHERE WHAT IT READS IS OF BULK AT MOST 1048576: true; the input reads as it did. -/
def limiterAllowsUptoRow : OpenClaim := { program := "ytpahfckihcbajaa", sum := "22335b04fc0b2c6faa9c01b64c0537c8103e642411edb8fd7fa79ab14be9c35c", func := "burrow/burrowlaw19.LimiterAllows", spec := "limiterAllows", inPlace := ["internal/bytealg.Compare", "slices.overlaps[burrow/api.Bucket]"], unfollowed := true, recurses := true, apart := false, narrowed := true }
def LimiterAllowsUptoSaid : Prop := limiterAllowsUptoRow.holds Try.pinned (OpenSpec.upto limiterAllowsSpec)

/-- 'burrowlaw19.LimiterBounds', WHERE WHAT IT READS IS OF BULK AT MOST 1048576: true; the input reads as it did. -/
def limiterBoundsUptoRow : OpenClaim := { program := "ytpahfckihcbajaa", sum := "22335b04fc0b2c6faa9c01b64c0537c8103e642411edb8fd7fa79ab14be9c35c", func := "burrow/burrowlaw19.LimiterBounds", spec := "limiterBounds", inPlace := ["internal/bytealg.Compare", "slices.overlaps[burrow/api.Bucket]"], unfollowed := true, recurses := true, apart := false, narrowed := true }
def LimiterBoundsUptoSaid : Prop := limiterBoundsUptoRow.holds Try.pinned (OpenSpec.upto limiterBoundsSpec)

end Rows
end Go.Proofs.Ytpahfckihcbajaa
