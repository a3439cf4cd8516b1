/-
  No cell of these rows narrows 'for every input' (looked for: loops, veiled, ifaces, maps, wideKeys, modest, calm, conditions, laid).
  DERIVED. THE GIVEN ROWS OF THIS SEAT. 4 by the template 'for every input the law returns true; each argument reads behind the call as it read before'; 0 by the template 'total and deterministic' (their statements: YtdpdalkeafkhkaaTotals.lean).
  GIVEN WITH THE SEED: the statements are not yours to turn. If you find one false, say at which input.
  Laid BY PROGRAM, IN A SANDBOX (cutbox-rows.mjs): the forced cells as the released guide's own fill.sh prints them over the translation db7a5bc88e8bd74b… (all of the seat's roots in one cut). By AI agents, Wed Nov 11 2026. No macro, syntax, notation, axiom, sorry.
-/
import Derived.Test.YtdpdalkeafkhkaaChecked
import GoSem.Claim
import GoSem.ClaimJoined
import GoSem.ClaimMapViews
import Derived.JoinedTies
import Derived.KernelRfl
namespace Go.Proofs.Ytdpdalkeafkhkaa
/- THE CELL 'sum', in the pinned program and in every row, IS THE sha256 OF THE DUMP (.gsa) THAT YtdpdalkeafkhkaaProg.lean LOADS. Nothing in Lean hashes anything: it is a label: what it is worth is what the hold of that sum in a sandbox is worth. -/
noncomputable def Try.pinned : Pinned := { name := "ytdpdalkeafkhkaa", sum := "db7a5bc88e8bd74bf4c094b0458396d22ea26dfbfc8cd74c243094ef224c689b", checked := Try.checked }
namespace Rows
def none {H : Type} : Left H := { results := [], args := [] }

/-- 'burrowlaw10.InnerChecks': WHATEVER THE INPUT: true; the input reads as it did. -/
def innerChecksSpec : ChangeSpec := { name := "innerChecks", fn := fun _ => fun
  | [d1, d2, d3, d4, d5, d6] => { results := [.lit (.bool true)], args := [d1, d2, d3, d4, d5, d6] }
  | _ => none }
def innerChecksRow : OpenClaim := { program := "ytdpdalkeafkhkaa", sum := "db7a5bc88e8bd74bf4c094b0458396d22ea26dfbfc8cd74c243094ef224c689b", func := "burrow/burrowlaw10.InnerChecks", spec := "innerChecks", apart := false }
def InnerChecksSaid : Prop := innerChecksRow.holds Try.pinned (OpenSpec.ofChange innerChecksSpec)

/-- ITS FALSE NEIGHBOUR: 'it returns false'. Refute it at one input. -/
def innerChecksWrong : ChangeSpec := { name := "innerChecks", fn := fun _ => fun
  | [d1, d2, d3, d4, d5, d6] => { results := [.lit (.bool false)], args := [d1, d2, d3, d4, d5, d6] }
  | _ => none }
def InnerChecksWrongFalsely : Prop := innerChecksRow.holds Try.pinned (OpenSpec.ofChange innerChecksWrong)

/-- 'burrowlaw10.InnerReturns': WHATEVER THE INPUT: true; the input reads as it did. -/
def innerReturnsSpec : ChangeSpec := { name := "innerReturns", fn := fun _ => fun
  | [d1, d2, d3] => { results := [.lit (.bool true)], args := [d1, d2, d3] }
  | _ => none }
def innerReturnsRow : OpenClaim := { program := "ytdpdalkeafkhkaa", sum := "db7a5bc88e8bd74bf4c094b0458396d22ea26dfbfc8cd74c243094ef224c689b", func := "burrow/burrowlaw10.InnerReturns", spec := "innerReturns", apart := false }
def InnerReturnsSaid : Prop := innerReturnsRow.holds Try.pinned (OpenSpec.ofChange innerReturnsSpec)

/-- ITS FALSE NEIGHBOUR: 'it returns false'. Refute it at one input. -/
def innerReturnsWrong : ChangeSpec := { name := "innerReturns", fn := fun _ => fun
  | [d1, d2, d3] => { results := [.lit (.bool false)], args := [d1, d2, d3] }
  | _ => none }
def InnerReturnsWrongFalsely : Prop := innerReturnsRow.holds Try.pinned (OpenSpec.ofChange innerReturnsWrong)

/-- 'burrowlaw10.InnerPrefixes': WHATEVER THE INPUT: true; the input reads as it did. -/
def innerPrefixesSpec : ChangeSpec := { name := "innerPrefixes", fn := fun _ => fun
  | [d1, d2, d3, d4, d5] => { results := [.lit (.bool true)], args := [d1, d2, d3, d4, d5] }
  | _ => none }
def innerPrefixesRow : OpenClaim := { program := "ytdpdalkeafkhkaa", sum := "db7a5bc88e8bd74bf4c094b0458396d22ea26dfbfc8cd74c243094ef224c689b", func := "burrow/burrowlaw10.InnerPrefixes", spec := "innerPrefixes", inPlace := ["internal/bytealg.Compare"], apart := false }
def InnerPrefixesSaid : Prop := innerPrefixesRow.holds Try.pinned (OpenSpec.ofChange innerPrefixesSpec)

/-- ITS FALSE NEIGHBOUR: 'it returns false'. Refute it at one input. -/
def innerPrefixesWrong : ChangeSpec := { name := "innerPrefixes", fn := fun _ => fun
  | [d1, d2, d3, d4, d5] => { results := [.lit (.bool false)], args := [d1, d2, d3, d4, d5] }
  | _ => none }
def InnerPrefixesWrongFalsely : Prop := innerPrefixesRow.holds Try.pinned (OpenSpec.ofChange innerPrefixesWrong)

/-- 'burrowlaw10.InnerNests': WHATEVER THE INPUT: true; the input reads as it did. -/
def innerNestsSpec : ChangeSpec := { name := "innerNests", fn := fun _ => fun
  | [d1, d2, d3, d4] => { results := [.lit (.bool true)], args := [d1, d2, d3, d4] }
  | _ => none }
def innerNestsRow : OpenClaim := { program := "ytdpdalkeafkhkaa", sum := "db7a5bc88e8bd74bf4c094b0458396d22ea26dfbfc8cd74c243094ef224c689b", func := "burrow/burrowlaw10.InnerNests", spec := "innerNests", apart := false }
def InnerNestsSaid : Prop := innerNestsRow.holds Try.pinned (OpenSpec.ofChange innerNestsSpec)

/-- ITS FALSE NEIGHBOUR: 'it returns false'. Refute it at one input. -/
def innerNestsWrong : ChangeSpec := { name := "innerNests", fn := fun _ => fun
  | [d1, d2, d3, d4] => { results := [.lit (.bool false)], args := [d1, d2, d3, d4] }
  | _ => none }
def InnerNestsWrongFalsely : Prop := innerNestsRow.holds Try.pinned (OpenSpec.ofChange innerNestsWrong)

/- THE SECOND FORM. 'bulk': how many values and letters a reading holds, each counted each time it is reached (what is shared counts as often as it is met; a slice's spare places count too). A statement '..UptoSaid' is the law's where the arguments, and the package variables that the reading takes, are together of bulk at most 1048576: NARROWER than '..Said'. Prove '..Said' where nothing that the law and all that it calls make is longer than what came in: it says more and counts as full. Else prove '..UptoSaid'. A law counts once. -/
mutual
def uptoBulk {H : Type} : DataW H → Nat
  | .lit (.string bytes) => bytes.length + 1
  | .lit _ => 1
  | .nil => 1
  | .ptr d => uptoBulk d + 1
  | .slice elems spare => uptoBulkAll elems + uptoBulkAll spare + 1
  | .agg parts => uptoBulkAll parts + 1
  | .iface _ d => uptoBulk d + 1
  | .map entries => uptoBulkEntries entries + 1
  | .held _ => 1
def uptoBulkAll {H : Type} : List (DataW H) → Nat
  | [] => 0
  | d :: r => uptoBulk d + uptoBulkAll r
def uptoBulkEntries {H : Type} : List (Lit × DataW H) → Nat
  | [] => 0
  | x :: r => uptoBulkEntry x + uptoBulkEntries r
def uptoBulkEntry {H : Type} : Lit × DataW H → Nat
  | (.string bytes, d) => bytes.length + uptoBulk d + 1
  | (_, d) => uptoBulk d + 1
 end
def uptoSmall : (H : Type) → List (DataW H) → Bool := fun _ ds => decide (uptoBulkAll ds ≤ 1048576)
def OpenSpec.upto (s : _root_.Go.ChangeSpec) : _root_.Go.OpenSpec := { _root_.Go.OpenSpec.ofChange s with cond := some uptoSmall }

/-- 'burrowlaw10.InnerChecks', WHERE WHAT IT READS IS OF BULK AT MOST 1048576: true; the input reads as it did. -/
def innerChecksUptoRow : OpenClaim := { program := "ytdpdalkeafkhkaa", sum := "db7a5bc88e8bd74bf4c094b0458396d22ea26dfbfc8cd74c243094ef224c689b", func := "burrow/burrowlaw10.InnerChecks", spec := "innerChecks", apart := false, narrowed := true }
def InnerChecksUptoSaid : Prop := innerChecksUptoRow.holds Try.pinned (OpenSpec.upto innerChecksSpec)

/-- 'burrowlaw10.InnerReturns', WHERE WHAT IT READS IS OF BULK AT MOST 1048576: true; the input reads as it did. -/
def innerReturnsUptoRow : OpenClaim := { program := "ytdpdalkeafkhkaa", sum := "db7a5bc88e8bd74bf4c094b0458396d22ea26dfbfc8cd74c243094ef224c689b", func := "burrow/burrowlaw10.InnerReturns", spec := "innerReturns", apart := false, narrowed := true }
def InnerReturnsUptoSaid : Prop := innerReturnsUptoRow.holds Try.pinned (OpenSpec.upto innerReturnsSpec)

/-- 'burrowlaw10.InnerPrefixes', WHERE WHAT IT READS IS OF BULK AT MOST 1048576: true; the input reads as it did. -/
def innerPrefixesUptoRow : OpenClaim := { program := "ytdpdalkeafkhkaa", sum := "db7a5bc88e8bd74bf4c094b0458396d22ea26dfbfc8cd74c243094ef224c689b", func := "burrow/burrowlaw10.InnerPrefixes", spec := "innerPrefixes", inPlace := ["internal/bytealg.Compare"], apart := false, narrowed := true }
def InnerPrefixesUptoSaid : Prop := innerPrefixesUptoRow.holds Try.pinned (OpenSpec.upto innerPrefixesSpec)

/-- 'burrowlaw10.InnerNests', WHERE WHAT IT READS IS OF BULK AT MOST 1048576: true; the input reads as it did. -/
def innerNestsUptoRow : OpenClaim := { program := "ytdpdalkeafkhkaa", sum := "db7a5bc88e8bd74bf4c094b0458396d22ea26dfbfc8cd74c243094ef224c689b", func := "burrow/burrowlaw10.InnerNests", spec := "innerNests", apart := false, narrowed := true }
def InnerNestsUptoSaid : Prop := innerNestsUptoRow.holds Try.pinned (OpenSpec.upto innerNestsSpec)

end Rows
end Go.Proofs.Ytdpdalkeafkhkaa
