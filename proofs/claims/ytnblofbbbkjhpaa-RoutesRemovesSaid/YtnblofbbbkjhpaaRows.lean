/-
  No cell of these rows narrows 'for every input' (looked for: loops, veiled, ifaces, maps, wideKeys, modest, calm, conditions, laid).
  DERIVED. THE GIVEN ROWS OF THIS SEAT. 6 by the template 'for every input the law returns true; each argument reads behind the call as it read before'; 0 by the template 'total and deterministic' (their statements: YtnblofbbbkjhpaaTotals.lean).
  GIVEN WITH THE SEED: the statements are not yours to turn. If you find one false, say at which input.
  Laid BY PROGRAM, IN A SANDBOX (cutbox-rows.mjs): the forced cells as the released guide's own fill.sh prints them over the translation cdfda25c63027607… (all of the seat's roots in one cut). By AI agents, Wed Nov 11 2026. No macro, syntax, notation, axiom, sorry.
-/
import Derived.Test.YtnblofbbbkjhpaaChecked
import GoSem.Claim
import GoSem.ClaimJoined
import GoSem.ClaimMapViews
import Derived.JoinedTies
import Derived.KernelRfl
namespace Go.Proofs.Ytnblofbbbkjhpaa
/- THE CELL 'sum', in the pinned program and in every row, IS THE sha256 OF THE DUMP (.gsa) THAT YtnblofbbbkjhpaaProg.lean LOADS. Nothing in Lean hashes anything: it is a label: what it is worth is what the hold of that sum in a sandbox is worth. -/
noncomputable def Try.pinned : Pinned := { name := "ytnblofbbbkjhpaa", sum := "cdfda25c630276070e500d4e4f5eaf607e090f6fe93b862af0d1e7a098e41cc2", checked := Try.checked }
namespace Rows
def none {H : Type} : Left H := { results := [], args := [] }

/-- 'burrowlaw14.RoutesChange': WHATEVER THE INPUT: true; the input reads as it did. -/
def routesChangeSpec : ChangeSpec := { name := "routesChange", fn := fun _ => fun
  | [d1, d2, d3, d4, d5] => { results := [.lit (.bool true)], args := [d1, d2, d3, d4, d5] }
  | _ => none }
def routesChangeRow : OpenClaim := { program := "ytnblofbbbkjhpaa", sum := "cdfda25c630276070e500d4e4f5eaf607e090f6fe93b862af0d1e7a098e41cc2", func := "burrow/burrowlaw14.RoutesChange", spec := "routesChange", inPlace := ["internal/bytealg.Compare"], unfollowed := true, recurses := true, apart := false }
def RoutesChangeSaid : Prop := routesChangeRow.holds Try.pinned (OpenSpec.ofChange routesChangeSpec)

/-- ITS FALSE NEIGHBOUR: 'it returns false'. Refute it at one input. -/
def routesChangeWrong : ChangeSpec := { name := "routesChange", fn := fun _ => fun
  | [d1, d2, d3, d4, d5] => { results := [.lit (.bool false)], args := [d1, d2, d3, d4, d5] }
  | _ => none }
def RoutesChangeWrongFalsely : Prop := routesChangeRow.holds Try.pinned (OpenSpec.ofChange routesChangeWrong)

/-- 'burrowlaw14.RoutesLookup': WHATEVER THE INPUT: true; the input reads as it did. -/
def routesLookupSpec : ChangeSpec := { name := "routesLookup", fn := fun _ => fun
  | [d1, d2, d3, d4] => { results := [.lit (.bool true)], args := [d1, d2, d3, d4] }
  | _ => none }
def routesLookupRow : OpenClaim := { program := "ytnblofbbbkjhpaa", sum := "cdfda25c630276070e500d4e4f5eaf607e090f6fe93b862af0d1e7a098e41cc2", func := "burrow/burrowlaw14.RoutesLookup", spec := "routesLookup", inPlace := ["internal/bytealg.Compare"], unfollowed := true, recurses := true, apart := false }
def RoutesLookupSaid : Prop := routesLookupRow.holds Try.pinned (OpenSpec.ofChange routesLookupSpec)

/-- ITS FALSE NEIGHBOUR: 'it returns false'. Refute it at one input. -/
def routesLookupWrong : ChangeSpec := { name := "routesLookup", fn := fun _ => fun
  | [d1, d2, d3, d4] => { results := [.lit (.bool false)], args := [d1, d2, d3, d4] }
  | _ => none }
def RoutesLookupWrongFalsely : Prop := routesLookupRow.holds Try.pinned (OpenSpec.ofChange routesLookupWrong)

/-- 'burrowlaw14.RoutesLongest': WHATEVER THE INPUT: true; the input reads as it did. -/
def routesLongestSpec : ChangeSpec := { name := "routesLongest", fn := fun _ => fun
  | [d1, d2] => { results := [.lit (.bool true)], args := [d1, d2] }
  | _ => none }
def routesLongestRow : OpenClaim := { program := "ytnblofbbbkjhpaa", sum := "cdfda25c630276070e500d4e4f5eaf607e090f6fe93b862af0d1e7a098e41cc2", func := "burrow/burrowlaw14.RoutesLongest", spec := "routesLongest", inPlace := ["internal/bytealg.Compare"], unfollowed := true, recurses := true, apart := false }
def RoutesLongestSaid : Prop := routesLongestRow.holds Try.pinned (OpenSpec.ofChange routesLongestSpec)

/-- ITS FALSE NEIGHBOUR: 'it returns false'. Refute it at one input. -/
def routesLongestWrong : ChangeSpec := { name := "routesLongest", fn := fun _ => fun
  | [d1, d2] => { results := [.lit (.bool false)], args := [d1, d2] }
  | _ => none }
def RoutesLongestWrongFalsely : Prop := routesLongestRow.holds Try.pinned (OpenSpec.ofChange routesLongestWrong)

/-- 'burrowlaw14.RoutesOrders': WHATEVER THE INPUT: true; the input reads as it did. -/
def routesOrdersSpec : ChangeSpec := { name := "routesOrders", fn := fun _ => fun
  | [d1, d2] => { results := [.lit (.bool true)], args := [d1, d2] }
  | _ => none }
def routesOrdersRow : OpenClaim := { program := "ytnblofbbbkjhpaa", sum := "cdfda25c630276070e500d4e4f5eaf607e090f6fe93b862af0d1e7a098e41cc2", func := "burrow/burrowlaw14.RoutesOrders", spec := "routesOrders", inPlace := ["internal/bytealg.Compare"], unfollowed := true, recurses := true, apart := false }
def RoutesOrdersSaid : Prop := routesOrdersRow.holds Try.pinned (OpenSpec.ofChange routesOrdersSpec)

/-- ITS FALSE NEIGHBOUR: 'it returns false'. Refute it at one input. -/
def routesOrdersWrong : ChangeSpec := { name := "routesOrders", fn := fun _ => fun
  | [d1, d2] => { results := [.lit (.bool false)], args := [d1, d2] }
  | _ => none }
def RoutesOrdersWrongFalsely : Prop := routesOrdersRow.holds Try.pinned (OpenSpec.ofChange routesOrdersWrong)

/-- 'burrowlaw14.RoutesRemoves': WHATEVER THE INPUT: true; the input reads as it did. -/
def routesRemovesSpec : ChangeSpec := { name := "routesRemoves", fn := fun _ => fun
  | [d1, d2] => { results := [.lit (.bool true)], args := [d1, d2] }
  | _ => none }
def routesRemovesRow : OpenClaim := { program := "ytnblofbbbkjhpaa", sum := "cdfda25c630276070e500d4e4f5eaf607e090f6fe93b862af0d1e7a098e41cc2", func := "burrow/burrowlaw14.RoutesRemoves", spec := "routesRemoves", inPlace := ["internal/bytealg.Compare"], unfollowed := true, recurses := true, apart := false }
def RoutesRemovesSaid : Prop := routesRemovesRow.holds Try.pinned (OpenSpec.ofChange routesRemovesSpec)

/-- ITS FALSE NEIGHBOUR: 'it returns false'. Refute it at one input. -/
def routesRemovesWrong : ChangeSpec := { name := "routesRemoves", fn := fun _ => fun
  | [d1, d2] => { results := [.lit (.bool false)], args := [d1, d2] }
  | _ => none }
def RoutesRemovesWrongFalsely : Prop := routesRemovesRow.holds Try.pinned (OpenSpec.ofChange routesRemovesWrong)

/-- 'burrowlaw14.RoutesLimits': WHATEVER THE INPUT: true; the input reads as it did. -/
def routesLimitsSpec : ChangeSpec := { name := "routesLimits", fn := fun _ => fun
  | [d] => { results := [.lit (.bool true)], args := [d] }
  | _ => none }
def routesLimitsRow : OpenClaim := { program := "ytnblofbbbkjhpaa", sum := "cdfda25c630276070e500d4e4f5eaf607e090f6fe93b862af0d1e7a098e41cc2", func := "burrow/burrowlaw14.RoutesLimits", spec := "routesLimits", inPlace := ["internal/bytealg.Compare"], unfollowed := true, recurses := true, apart := false }
def RoutesLimitsSaid : Prop := routesLimitsRow.holds Try.pinned (OpenSpec.ofChange routesLimitsSpec)

/-- ITS FALSE NEIGHBOUR: 'it returns false'. Refute it at one input. -/
def routesLimitsWrong : ChangeSpec := { name := "routesLimits", fn := fun _ => fun
  | [d] => { results := [.lit (.bool false)], args := [d] }
  | _ => none }
def RoutesLimitsWrongFalsely : Prop := routesLimitsRow.holds Try.pinned (OpenSpec.ofChange routesLimitsWrong)

/- THE SECOND FORM. 'bulk': how many values and letters a reading holds, each counted each time it is reached (what is shared counts as often as it is met; a slice's spare places count too). A statement '..UptoSaid' is the law's where the arguments, and the package variables that the reading takes, are together of bulk at most 1048576: NARROWER than '..Said'. Prove '..Said' where nothing that the law and all that it calls make is longer than what came in: it says more and counts as full. Else prove '..UptoSaid'. A law counts once. -/
mutual
def uptoBulk {H : Type} : DataW H → Nat
  | .lit (.string bytes) => bytes.length + 1
  | .lit _ => 1
  | .nil => 1
  | .ptr d => uptoBulk d + 1
  | .slice elems spare => uptoBulkAll elems + uptoBulkAll spare + 1
  | .agg parts => uptoBulkAll parts + 1
  | .iface _ d => uptoBulk d + 1
  | .map entries => uptoBulkEntries entries + 1
  | .held _ => 1
def uptoBulkAll {H : Type} : List (DataW H) → Nat
  | [] => 0
  | d :: r => uptoBulk d + uptoBulkAll r
def uptoBulkEntries {H : Type} : List (Lit × DataW H) → Nat
  | [] => 0
  | x :: r => uptoBulkEntry x + uptoBulkEntries r
def uptoBulkEntry {H : Type} : Lit × DataW H → Nat
  | (.string bytes, d) => bytes.length + uptoBulk d + 1
  | (_, d) => uptoBulk d + 1
 end
def uptoSmall : (H : Type) → List (DataW H) → Bool := fun _ ds => decide (uptoBulkAll ds ≤ 1048576)
def OpenSpec.upto (s : _root_.Go.ChangeSpec) : _root_.Go.OpenSpec := { _root_.Go.OpenSpec.ofChange s with cond := some uptoSmall }

/-- 'burrowlaw14.RoutesChange', WHERE WHAT IT READS IS OF BULK AT MOST 1048576: true; the input reads as it did. -/
def routesChangeUptoRow : OpenClaim := { program := "ytnblofbbbkjhpaa", sum := "cdfda25c630276070e500d4e4f5eaf607e090f6fe93b862af0d1e7a098e41cc2", func := "burrow/burrowlaw14.RoutesChange", spec := "routesChange", inPlace := ["internal/bytealg.Compare"], unfollowed := true, recurses := true, apart := false, narrowed := true }
def RoutesChangeUptoSaid : Prop := routesChangeUptoRow.holds Try.pinned (OpenSpec.upto routesChangeSpec)

/-- 'burrowlaw14.RoutesLookup', WHERE WHAT IT READS IS OF BULK AT MOST 1048576: true; the input reads as it did. -/
def routesLookupUptoRow : OpenClaim := { program := "ytnblofbbbkjhpaa", sum := "cdfda25c630276070e500d4e4f5eaf607e090f6fe93b862af0d1e7a098e41cc2", func := "burrow/burrowlaw14.RoutesLookup", spec := "routesLookup", inPlace := ["internal/bytealg.Compare"], unfollowed := true, recurses := true, apart := false, narrowed := true }
def RoutesLookupUptoSaid : Prop := routesLookupUptoRow.holds Try.pinned (OpenSpec.upto routesLookupSpec)

/-- 'burrowlaw14.RoutesLongest', WHERE WHAT IT READS IS OF BULK AT MOST 1048576: true; the input reads as it did. -/
def routesLongestUptoRow : OpenClaim := { program := "ytnblofbbbkjhpaa", sum := "cdfda25c630276070e500d4e4f5eaf607e090f6fe93b862af0d1e7a098e41cc2", func := "burrow/burrowlaw14.RoutesLongest", spec := "routesLongest", inPlace := ["internal/bytealg.Compare"], unfollowed := true, recurses := true, apart := false, narrowed := true }
def RoutesLongestUptoSaid : Prop := routesLongestUptoRow.holds Try.pinned (OpenSpec.upto routesLongestSpec)

/-- 'burrowlaw14.RoutesOrders', WHERE WHAT IT READS IS OF BULK AT MOST 1048576: true; the input reads as it did. -/
def routesOrdersUptoRow : OpenClaim := { program := "ytnblofbbbkjhpaa", sum := "cdfda25c630276070e500d4e4f5eaf607e090f6fe93b862af0d1e7a098e41cc2", func := "burrow/burrowlaw14.RoutesOrders", spec := "routesOrders", inPlace := ["internal/bytealg.Compare"], unfollowed := true, recurses := true, apart := false, narrowed := true }
def RoutesOrdersUptoSaid : Prop := routesOrdersUptoRow.holds Try.pinned (OpenSpec.upto routesOrdersSpec)

/-- 'burrowlaw14.RoutesRemoves', WHERE WHAT IT READS IS OF BULK AT MOST 1048576: true; the input reads as it did. -/
def routesRemovesUptoRow : OpenClaim := { program := "ytnblofbbbkjhpaa", sum := "cdfda25c630276070e500d4e4f5eaf607e090f6fe93b862af0d1e7a098e41cc2", func := "burrow/burrowlaw14.RoutesRemoves", spec := "routesRemoves", inPlace := ["internal/bytealg.Compare"], unfollowed := true, recurses := true, apart := false, narrowed := true }
def RoutesRemovesUptoSaid : Prop := routesRemovesUptoRow.holds Try.pinned (OpenSpec.upto routesRemovesSpec)

/-- 'burrowlaw14.RoutesLimits', WHERE WHAT IT READS IS OF BULK AT MOST 1048576: true; the input reads as it did. -/
def routesLimitsUptoRow : OpenClaim := { program := "ytnblofbbbkjhpaa", sum := "cdfda25c630276070e500d4e4f5eaf607e090f6fe93b862af0d1e7a098e41cc2", func := "burrow/burrowlaw14.RoutesLimits", spec := "routesLimits", inPlace := ["internal/bytealg.Compare"], unfollowed := true, recurses := true, apart := false, narrowed := true }
def RoutesLimitsUptoSaid : Prop := routesLimitsUptoRow.holds Try.pinned (OpenSpec.upto routesLimitsSpec)

end Rows
end Go.Proofs.Ytnblofbbbkjhpaa
