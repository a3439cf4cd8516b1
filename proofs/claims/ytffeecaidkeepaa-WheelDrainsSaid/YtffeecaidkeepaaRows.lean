/-
  No cell of these rows narrows 'for every input' (looked for: loops, veiled, ifaces, maps, wideKeys, modest, calm, conditions, laid).
  DERIVED. THE GIVEN ROWS OF THIS SEAT. 3 by the template 'for every input the law returns true; each argument reads behind the call as it read before'; 0 by the template 'total and deterministic' (their statements: YtffeecaidkeepaaTotals.lean).
  GIVEN WITH THE SEED: the statements are not yours to turn. If you find one false, say at which input.
  Laid BY PROGRAM, IN A SANDBOX (cutbox-rows.mjs): the forced cells as the released guide's own fill.sh prints them over the translation 548c1e7a51cd3a35… (all of the seat's roots in one cut). By AI agents, Wed Nov 11 2026. No macro, syntax, notation, axiom, sorry.
-/
import Derived.Test.YtffeecaidkeepaaChecked
import GoSem.Claim
import GoSem.ClaimJoined
import GoSem.ClaimMapViews
import Derived.JoinedTies
import Derived.KernelRfl
namespace Go.Proofs.Ytffeecaidkeepaa
/- THE CELL 'sum', in the pinned program and in every row, IS THE sha256 OF THE DUMP (.gsa) THAT YtffeecaidkeepaaProg.lean LOADS. Nothing in Lean hashes anything: it is a label: what it is worth is what the hold of that sum in a sandbox is worth. -/
noncomputable def Try.pinned : Pinned := { name := "ytffeecaidkeepaa", sum := "548c1e7a51cd3a350b2474c21455861ba0b15ce63b8f0973cc3ccfedabac3130", checked := Try.checked }
namespace Rows
def none {H : Type} : Left H := { results := [], args := [] }

/-- 'burrowlaw17.WheelChanges': WHATEVER THE INPUT: true; the input reads as it did. -/
def wheelChangesSpec : ChangeSpec := { name := "wheelChanges", fn := fun _ => fun
  | [d1, d2, d3, d4, d5, d6] => { results := [.lit (.bool true)], args := [d1, d2, d3, d4, d5, d6] }
  | _ => none }
def wheelChangesRow : OpenClaim := { program := "ytffeecaidkeepaa", sum := "548c1e7a51cd3a350b2474c21455861ba0b15ce63b8f0973cc3ccfedabac3130", func := "burrow/burrowlaw17.WheelChanges", spec := "wheelChanges", inPlace := ["internal/bytealg.Compare", "slices.overlaps[burrow/api.Timer]"], unfollowed := true, recurses := true, plainKeys := false, apart := false }
def WheelChangesSaid : Prop := wheelChangesRow.holds Try.pinned (OpenSpec.ofChange wheelChangesSpec)

/-- ITS FALSE NEIGHBOUR: 'it returns false'. Refute it at one input. -/
def wheelChangesWrong : ChangeSpec := { name := "wheelChanges", fn := fun _ => fun
  | [d1, d2, d3, d4, d5, d6] => { results := [.lit (.bool false)], args := [d1, d2, d3, d4, d5, d6] }
  | _ => none }
def WheelChangesWrongFalsely : Prop := wheelChangesRow.holds Try.pinned (OpenSpec.ofChange wheelChangesWrong)

/-- 'burrowlaw17.WheelDrains': WHATEVER THE INPUT: true; the input reads as it did. -/
def wheelDrainsSpec : ChangeSpec := { name := "wheelDrains", fn := fun _ => fun
  | [d1, d2] => { results := [.lit (.bool true)], args := [d1, d2] }
  | _ => none }
def wheelDrainsRow : OpenClaim := { program := "ytffeecaidkeepaa", sum := "548c1e7a51cd3a350b2474c21455861ba0b15ce63b8f0973cc3ccfedabac3130", func := "burrow/burrowlaw17.WheelDrains", spec := "wheelDrains", inPlace := ["internal/bytealg.Compare", "slices.overlaps[burrow/api.Timer]"], unfollowed := true, recurses := true, plainKeys := false, apart := false }
def WheelDrainsSaid : Prop := wheelDrainsRow.holds Try.pinned (OpenSpec.ofChange wheelDrainsSpec)

/-- ITS FALSE NEIGHBOUR: 'it returns false'. Refute it at one input. -/
def wheelDrainsWrong : ChangeSpec := { name := "wheelDrains", fn := fun _ => fun
  | [d1, d2] => { results := [.lit (.bool false)], args := [d1, d2] }
  | _ => none }
def WheelDrainsWrongFalsely : Prop := wheelDrainsRow.holds Try.pinned (OpenSpec.ofChange wheelDrainsWrong)

/-- 'burrowlaw17.WheelSets': WHATEVER THE INPUT: true; the input reads as it did. -/
def wheelSetsSpec : ChangeSpec := { name := "wheelSets", fn := fun _ => fun
  | [d1, d2, d3, d4] => { results := [.lit (.bool true)], args := [d1, d2, d3, d4] }
  | _ => none }
def wheelSetsRow : OpenClaim := { program := "ytffeecaidkeepaa", sum := "548c1e7a51cd3a350b2474c21455861ba0b15ce63b8f0973cc3ccfedabac3130", func := "burrow/burrowlaw17.WheelSets", spec := "wheelSets", inPlace := ["internal/bytealg.Compare", "slices.overlaps[burrow/api.Timer]"], unfollowed := true, recurses := true, plainKeys := false, apart := false }
def WheelSetsSaid : Prop := wheelSetsRow.holds Try.pinned (OpenSpec.ofChange wheelSetsSpec)

/-- ITS FALSE NEIGHBOUR: 'it returns false'. Refute it at one input. -/
def wheelSetsWrong : ChangeSpec := { name := "wheelSets", fn := fun _ => fun
  | [d1, d2, d3, d4] => { results := [.lit (.bool false)], args := [d1, d2, d3, d4] }
  | _ => none }
def WheelSetsWrongFalsely : Prop := wheelSetsRow.holds Try.pinned (OpenSpec.ofChange wheelSetsWrong)

/- THE SECOND FORM. 'bulk': how many values and letters a reading holds, each counted each time it is reached (what is shared counts as often as it is met; a slice's spare places count too). A statement '..UptoSaid' is the law's where the arguments, and the package variables that the reading takes, are together of bulk at most 1048576: NARROWER than '..Said'. Prove '..Said' where nothing that the law and all that it calls make is longer than what came in: it says more and counts as full. Else prove '..UptoSaid'. A law counts once. -/
mutual
def uptoBulk {H : Type} : DataW H → Nat
  | .lit (.string bytes) => bytes.length + 1
  | .lit _ => 1
  | .nil => 1
  | .ptr d => uptoBulk d + 1
  | .slice elems spare => uptoBulkAll elems + uptoBulkAll spare + 1
  | .agg parts => uptoBulkAll parts + 1
  | .iface _ d => uptoBulk d + 1
  | .map entries => uptoBulkEntries entries + 1
  | .held _ => 1
def uptoBulkAll {H : Type} : List (DataW H) → Nat
  | [] => 0
  | d :: r => uptoBulk d + uptoBulkAll r
def uptoBulkEntries {H : Type} : List (Lit × DataW H) → Nat
  | [] => 0
  | x :: r => uptoBulkEntry x + uptoBulkEntries r
def uptoBulkEntry {H : Type} : Lit × DataW H → Nat
  | (.string bytes, d) => bytes.length + uptoBulk d + 1
  | (_, d) => uptoBulk d + 1
 end
def uptoSmall : (H : Type) → List (DataW H) → Bool := fun _ ds => decide (uptoBulkAll ds ≤ 1048576)
def OpenSpec.upto (s : _root_.Go.ChangeSpec) : _root_.Go.OpenSpec := { _root_.Go.OpenSpec.ofChange s with cond := some uptoSmall }

/-- 'burrowlaw17.WheelChanges', WHERE WHAT IT READS IS OF BULK AT MOST 1048576: true; the input reads as it did. -/
def wheelChangesUptoRow : OpenClaim := { program := "ytffeecaidkeepaa", sum := "548c1e7a51cd3a350b2474c21455861ba0b15ce63b8f0973cc3ccfedabac3130", func := "burrow/burrowlaw17.WheelChanges", spec := "wheelChanges", inPlace := ["internal/bytealg.Compare", "slices.overlaps[burrow/api.Timer]"], unfollowed := true, recurses := true, plainKeys := false, apart := false, narrowed := true }
def WheelChangesUptoSaid : Prop := wheelChangesUptoRow.holds Try.pinned (OpenSpec.upto wheelChangesSpec)

/-- 'burrowlaw17.WheelDrains', WHERE WHAT IT READS IS OF BULK AT MOST 1048576: true; the input reads as it did. -/
def wheelDrainsUptoRow : OpenClaim := { program := "ytffeecaidkeepaa", sum := "548c1e7a51cd3a350b2474c21455861ba0b15ce63b8f0973cc3ccfedabac3130", func := "burrow/burrowlaw17.WheelDrains", spec := "wheelDrains", inPlace := ["internal/bytealg.Compare", "slices.overlaps[burrow/api.Timer]"], unfollowed := true, recurses := true, plainKeys := false, apart := false, narrowed := true }
def WheelDrainsUptoSaid : Prop := wheelDrainsUptoRow.holds Try.pinned (OpenSpec.upto wheelDrainsSpec)

/-- 'burrowlaw17.WheelSets', WHERE WHAT IT READS IS OF BULK AT MOST 1048576: true; the input reads as it did. -/
def wheelSetsUptoRow : OpenClaim := { program := "ytffeecaidkeepaa", sum := "548c1e7a51cd3a350b2474c21455861ba0b15ce63b8f0973cc3ccfedabac3130", func := "burrow/burrowlaw17.WheelSets", spec := "wheelSets", inPlace := ["internal/bytealg.Compare", "slices.overlaps[burrow/api.Timer]"], unfollowed := true, recurses := true, plainKeys := false, apart := false, narrowed := true }
def WheelSetsUptoSaid : Prop := wheelSetsUptoRow.holds Try.pinned (OpenSpec.upto wheelSetsSpec)

end Rows
end Go.Proofs.Ytffeecaidkeepaa
