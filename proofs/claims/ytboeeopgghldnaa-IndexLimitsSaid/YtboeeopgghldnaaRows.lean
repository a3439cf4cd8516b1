/-
  No cell of these rows narrows 'for every input' (looked for: loops, veiled, ifaces, maps, wideKeys, modest, calm, conditions, laid).
  DERIVED. THE GIVEN ROWS OF THIS SEAT. 3 by the template 'for every input the law returns true; each argument reads behind the call as it read before'; 0 by the template 'total and deterministic' (their statements: YtboeeopgghldnaaTotals.lean).
  GIVEN WITH THE SEED: the statements are not yours to turn. If you find one false, say at which input.
  Laid BY PROGRAM, IN A SANDBOX (cutbox-rows.mjs): the forced cells as the released guide's own fill.sh prints them over the translation 86904c94fd3f4dd1… (all of the seat's roots in one cut). By AI agents, Wed Nov 11 2026. No macro, syntax, notation, axiom, sorry.
-/
import Derived.Test.YtboeeopgghldnaaChecked
import GoSem.Claim
import GoSem.ClaimJoined
import GoSem.ClaimMapViews
import Derived.JoinedTies
import Derived.KernelRfl
namespace Go.Proofs.Ytboeeopgghldnaa
/- THE CELL 'sum', in the pinned program and in every row, IS THE sha256 OF THE DUMP (.gsa) THAT YtboeeopgghldnaaProg.lean LOADS. Nothing in Lean hashes anything: it is a label: what it is worth is what the hold of that sum in a sandbox is worth. -/
noncomputable def Try.pinned : Pinned := { name := "ytboeeopgghldnaa", sum := "86904c94fd3f4dd10b9b067195f530e8459249937fbf9ce9e60befb3f6326b83", checked := Try.checked }
namespace Rows
def none {H : Type} : Left H := { results := [], args := [] }

/-- 'burrowlaw15.IndexTables': WHATEVER THE INPUT: true; the input reads as it did. -/
def indexTablesSpec : ChangeSpec := { name := "indexTables", fn := fun _ => fun
  | [d1, d2, d3, d4, d5] => { results := [.lit (.bool true)], args := [d1, d2, d3, d4, d5] }
  | _ => none }
def indexTablesRow : OpenClaim := { program := "ytboeeopgghldnaa", sum := "86904c94fd3f4dd10b9b067195f530e8459249937fbf9ce9e60befb3f6326b83", func := "burrow/burrowlaw15.IndexTables", spec := "indexTables", unfollowed := true, recurses := true, apart := false }
def IndexTablesSaid : Prop := indexTablesRow.holds Try.pinned (OpenSpec.ofChange indexTablesSpec)

/-- ITS FALSE NEIGHBOUR: 'it returns false'. Refute it at one input. -/
def indexTablesWrong : ChangeSpec := { name := "indexTables", fn := fun _ => fun
  | [d1, d2, d3, d4, d5] => { results := [.lit (.bool false)], args := [d1, d2, d3, d4, d5] }
  | _ => none }
def IndexTablesWrongFalsely : Prop := indexTablesRow.holds Try.pinned (OpenSpec.ofChange indexTablesWrong)

/-- 'burrowlaw15.IndexFresh': WHATEVER THE INPUT: true; the input reads as it did. -/
def indexFreshSpec : ChangeSpec := { name := "indexFresh", fn := fun _ => fun
  | [d1, d2, d3, d4, d5] => { results := [.lit (.bool true)], args := [d1, d2, d3, d4, d5] }
  | _ => none }
def indexFreshRow : OpenClaim := { program := "ytboeeopgghldnaa", sum := "86904c94fd3f4dd10b9b067195f530e8459249937fbf9ce9e60befb3f6326b83", func := "burrow/burrowlaw15.IndexFresh", spec := "indexFresh", unfollowed := true, recurses := true, apart := false }
def IndexFreshSaid : Prop := indexFreshRow.holds Try.pinned (OpenSpec.ofChange indexFreshSpec)

/-- ITS FALSE NEIGHBOUR: 'it returns false'. Refute it at one input. -/
def indexFreshWrong : ChangeSpec := { name := "indexFresh", fn := fun _ => fun
  | [d1, d2, d3, d4, d5] => { results := [.lit (.bool false)], args := [d1, d2, d3, d4, d5] }
  | _ => none }
def IndexFreshWrongFalsely : Prop := indexFreshRow.holds Try.pinned (OpenSpec.ofChange indexFreshWrong)

/-- 'burrowlaw15.IndexLimits': WHATEVER THE INPUT: true; the input reads as it did. -/
def indexLimitsSpec : ChangeSpec := { name := "indexLimits", fn := fun _ => fun
  | [d] => { results := [.lit (.bool true)], args := [d] }
  | _ => none }
def indexLimitsRow : OpenClaim := { program := "ytboeeopgghldnaa", sum := "86904c94fd3f4dd10b9b067195f530e8459249937fbf9ce9e60befb3f6326b83", func := "burrow/burrowlaw15.IndexLimits", spec := "indexLimits", unfollowed := true, recurses := true, apart := false }
def IndexLimitsSaid : Prop := indexLimitsRow.holds Try.pinned (OpenSpec.ofChange indexLimitsSpec)

/-- ITS FALSE NEIGHBOUR: 'it returns false'. Refute it at one input. -/
def indexLimitsWrong : ChangeSpec := { name := "indexLimits", fn := fun _ => fun
  | [d] => { results := [.lit (.bool false)], args := [d] }
  | _ => none }
def IndexLimitsWrongFalsely : Prop := indexLimitsRow.holds Try.pinned (OpenSpec.ofChange indexLimitsWrong)

/- THE SECOND FORM. 'bulk': how many values and letters a reading holds, each counted each time it is reached (what is shared counts as often as it is met; a slice's spare places count too). A statement '..UptoSaid' is the law's where the arguments, and the package variables that the reading takes, are together of bulk at most 1048576: NARROWER than '..Said'. Prove '..Said' where nothing that the law and all that it calls make is longer than what came in: it says more and counts as full. Else prove '..UptoSaid'. A law counts once. -/
mutual
def uptoBulk {H : Type} : DataW H → Nat
  | .lit (.string bytes) => bytes.length + 1
  | .lit _ => 1
  | .nil => 1
  | .ptr d => uptoBulk d + 1
  | .slice elems spare => uptoBulkAll elems + uptoBulkAll spare + 1
  | .agg parts => uptoBulkAll parts + 1
  | .iface _ d => uptoBulk d + 1
  | .map entries => uptoBulkEntries entries + 1
  | .held _ => 1
def uptoBulkAll {H : Type} : List (DataW H) → Nat
  | [] => 0
  | d :: r => uptoBulk d + uptoBulkAll r
def uptoBulkEntries {H : Type} : List (Lit × DataW H) → Nat
  | [] => 0
  | x :: r => uptoBulkEntry x + uptoBulkEntries r
def uptoBulkEntry {H : Type} : Lit × DataW H → Nat
  | (.string bytes, d) => bytes.length + uptoBulk d + 1
  | (_, d) => uptoBulk d + 1
 end
def uptoSmall : (H : Type) → List (DataW H) → Bool := fun _ ds => decide (uptoBulkAll ds ≤ 1048576)
def OpenSpec.upto (s : _root_.Go.ChangeSpec) : _root_.Go.OpenSpec := { _root_.Go.OpenSpec.ofChange s with cond := some uptoSmall }

/-- 'burrowlaw15.IndexTables', WHERE WHAT IT READS IS OF BULK AT MOST 1048576: true; the input reads as it did. -/
def indexTablesUptoRow : OpenClaim := { program := "ytboeeopgghldnaa", sum := "86904c94fd3f4dd10b9b067195f530e8459249937fbf9ce9e60befb3f6326b83", func := "burrow/burrowlaw15.IndexTables", spec := "indexTables", unfollowed := true, recurses := true, apart := false, narrowed := true }
def IndexTablesUptoSaid : Prop := indexTablesUptoRow.holds Try.pinned (OpenSpec.upto indexTablesSpec)

/-- 'burrowlaw15.IndexFresh', WHERE WHAT IT READS IS OF BULK AT MOST 1048576: true; the input reads as it did. -/
def indexFreshUptoRow : OpenClaim := { program := "ytboeeopgghldnaa", sum := "86904c94fd3f4dd10b9b067195f530e8459249937fbf9ce9e60befb3f6326b83", func := "burrow/burrowlaw15.IndexFresh", spec := "indexFresh", unfollowed := true, recurses := true, apart := false, narrowed := true }
def IndexFreshUptoSaid : Prop := indexFreshUptoRow.holds Try.pinned (OpenSpec.upto indexFreshSpec)

/-- 'burrowlaw15.IndexLimits', WHERE WHAT IT READS IS OF BULK AT MOST 1048576: true; the input reads as it did. -/
def indexLimitsUptoRow : OpenClaim := { program := "ytboeeopgghldnaa", sum := "86904c94fd3f4dd10b9b067195f530e8459249937fbf9ce9e60befb3f6326b83", func := "burrow/burrowlaw15.IndexLimits", spec := "indexLimits", unfollowed := true, recurses := true, apart := false, narrowed := true }
def IndexLimitsUptoSaid : Prop := indexLimitsUptoRow.holds Try.pinned (OpenSpec.upto indexLimitsSpec)

end Rows
end Go.Proofs.Ytboeeopgghldnaa
