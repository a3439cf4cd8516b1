/-
  No cell of these rows narrows 'for every input' (looked for: loops, veiled, ifaces, maps, wideKeys, modest, calm, conditions, laid).
  DERIVED. THE GIVEN ROWS OF THIS SEAT. 3 by the template 'for every input the law returns true; each argument reads behind the call as it read before'; 0 by the template 'total and deterministic' (their statements: YteidabgkidablaaTotals.lean).
  GIVEN WITH THE SEED: the statements are not yours to turn. If you find one false, say at which input.
  Laid BY PROGRAM, IN A SANDBOX (cutbox-rows.mjs): the forced cells as the released guide's own fill.sh prints them over the translation 2fa5265f8edb0195… (all of the seat's roots in one cut). By AI agents, Wed Nov 11 2026. No macro, syntax, notation, axiom, sorry.
-/
import Derived.Test.YteidabgkidablaaChecked
import GoSem.Claim
import GoSem.ClaimJoined
import GoSem.ClaimMapViews
import Derived.JoinedTies
import Derived.KernelRfl
namespace Go.Proofs.Yteidabgkidablaa
/- THE CELL 'sum', in the pinned program and in every row, IS THE sha256 OF THE DUMP (.gsa) THAT YteidabgkidablaaProg.lean LOADS. Nothing in Lean hashes anything: it is a label: what it is worth is what the hold of that sum in a sandbox is worth. -/
noncomputable def Try.pinned : Pinned := { name := "yteidabgkidablaa", sum := "2fa5265f8edb01955ab182461778e17e81586b1c2de82f007e0cc8a1e78680f6", checked := Try.checked }
namespace Rows
def none {H : Type} : Left H := { results := [], args := [] }

/-- 'burrowlaw16.WindowAccepts': WHATEVER THE INPUT: true; the input reads as it did. -/
def windowAcceptsSpec : ChangeSpec := { name := "windowAccepts", fn := fun _ => fun
  | [d1, d2, d3, d4] => { results := [.lit (.bool true)], args := [d1, d2, d3, d4] }
  | _ => none }
def windowAcceptsRow : OpenClaim := { program := "yteidabgkidablaa", sum := "2fa5265f8edb01955ab182461778e17e81586b1c2de82f007e0cc8a1e78680f6", func := "burrow/burrowlaw16.WindowAccepts", spec := "windowAccepts", apart := false }
def WindowAcceptsSaid : Prop := windowAcceptsRow.holds Try.pinned (OpenSpec.ofChange windowAcceptsSpec)

/-- ITS FALSE NEIGHBOUR: 'it returns false'. Refute it at one input. -/
def windowAcceptsWrong : ChangeSpec := { name := "windowAccepts", fn := fun _ => fun
  | [d1, d2, d3, d4] => { results := [.lit (.bool false)], args := [d1, d2, d3, d4] }
  | _ => none }
def WindowAcceptsWrongFalsely : Prop := windowAcceptsRow.holds Try.pinned (OpenSpec.ofChange windowAcceptsWrong)

/-- 'burrowlaw16.WindowOnce': WHATEVER THE INPUT: true; the input reads as it did. -/
def windowOnceSpec : ChangeSpec := { name := "windowOnce", fn := fun _ => fun
  | [d1, d2] => { results := [.lit (.bool true)], args := [d1, d2] }
  | _ => none }
def windowOnceRow : OpenClaim := { program := "yteidabgkidablaa", sum := "2fa5265f8edb01955ab182461778e17e81586b1c2de82f007e0cc8a1e78680f6", func := "burrow/burrowlaw16.WindowOnce", spec := "windowOnce", apart := false }
def WindowOnceSaid : Prop := windowOnceRow.holds Try.pinned (OpenSpec.ofChange windowOnceSpec)

/-- ITS FALSE NEIGHBOUR: 'it returns false'. Refute it at one input. -/
def windowOnceWrong : ChangeSpec := { name := "windowOnce", fn := fun _ => fun
  | [d1, d2] => { results := [.lit (.bool false)], args := [d1, d2] }
  | _ => none }
def WindowOnceWrongFalsely : Prop := windowOnceRow.holds Try.pinned (OpenSpec.ofChange windowOnceWrong)

/-- 'burrowlaw16.WindowSets': WHATEVER THE INPUT: true; the input reads as it did. -/
def windowSetsSpec : ChangeSpec := { name := "windowSets", fn := fun _ => fun
  | [d1, d2, d3] => { results := [.lit (.bool true)], args := [d1, d2, d3] }
  | _ => none }
def windowSetsRow : OpenClaim := { program := "yteidabgkidablaa", sum := "2fa5265f8edb01955ab182461778e17e81586b1c2de82f007e0cc8a1e78680f6", func := "burrow/burrowlaw16.WindowSets", spec := "windowSets", apart := false }
def WindowSetsSaid : Prop := windowSetsRow.holds Try.pinned (OpenSpec.ofChange windowSetsSpec)

/-- ITS FALSE NEIGHBOUR: 'it returns false'. Refute it at one input. -/
def windowSetsWrong : ChangeSpec := { name := "windowSets", fn := fun _ => fun
  | [d1, d2, d3] => { results := [.lit (.bool false)], args := [d1, d2, d3] }
  | _ => none }
def WindowSetsWrongFalsely : Prop := windowSetsRow.holds Try.pinned (OpenSpec.ofChange windowSetsWrong)

/- THE SECOND FORM. 'bulk': how many values and letters a reading holds, each counted each time it is reached (what is shared counts as often as it is met; a slice's spare places count too). A statement '..UptoSaid' is the law's where the arguments, and the package variables that the reading takes, are together of bulk at most 1048576: NARROWER than '..Said'. Prove '..Said' where nothing that the law and all that it calls make is longer than what came in: it says more and counts as full. Else prove '..UptoSaid'. A law counts once. -/
mutual
def uptoBulk {H : Type} : DataW H → Nat
  | .lit (.string bytes) => bytes.length + 1
  | .lit _ => 1
  | .nil => 1
  | .ptr d => uptoBulk d + 1
  | .slice elems spare => uptoBulkAll elems + uptoBulkAll spare + 1
  | .agg parts => uptoBulkAll parts + 1
  | .iface _ d => uptoBulk d + 1
  | .map entries => uptoBulkEntries entries + 1
  | .held _ => 1
def uptoBulkAll {H : Type} : List (DataW H) → Nat
  | [] => 0
  | d :: r => uptoBulk d + uptoBulkAll r
def uptoBulkEntries {H : Type} : List (Lit × DataW H) → Nat
  | [] => 0
  | x :: r => uptoBulkEntry x + uptoBulkEntries r
def uptoBulkEntry {H : Type} : Lit × DataW H → Nat
  | (.string bytes, d) => bytes.length + uptoBulk d + 1
  | (_, d) => uptoBulk d + 1
 end
def uptoSmall : (H : Type) → List (DataW H) → Bool := fun _ ds => decide (uptoBulkAll ds ≤ 1048576)
def OpenSpec.upto (s : _root_.Go.ChangeSpec) : _root_.Go.OpenSpec := { _root_.Go.OpenSpec.ofChange s with cond := some uptoSmall }

/-- 'burrowlaw16.WindowAccepts', WHERE WHAT IT READS IS OF BULK AT MOST 1048576: true; the input reads as it did. -/
def windowAcceptsUptoRow : OpenClaim := { program := "yteidabgkidablaa", sum := "2fa5265f8edb01955ab182461778e17e81586b1c2de82f007e0cc8a1e78680f6", func := "burrow/burrowlaw16.WindowAccepts", spec := "windowAccepts", apart := false, narrowed := true }
def WindowAcceptsUptoSaid : Prop := windowAcceptsUptoRow.holds Try.pinned (OpenSpec.upto windowAcceptsSpec)

/-- 'burrowlaw16.WindowOnce', WHERE WHAT IT READS IS OF BULK AT MOST 1048576: true; the input reads as it did. -/
def windowOnceUptoRow : OpenClaim := { program := "yteidabgkidablaa", sum := "2fa5265f8edb01955ab182461778e17e81586b1c2de82f007e0cc8a1e78680f6", func := "burrow/burrowlaw16.WindowOnce", spec := "windowOnce", apart := false, narrowed := true }
def WindowOnceUptoSaid : Prop := windowOnceUptoRow.holds Try.pinned (OpenSpec.upto windowOnceSpec)

/-- 'burrowlaw16.WindowSets', WHERE WHAT IT READS IS OF BULK AT MOST 1048576: true; the input reads as it did. -/
def windowSetsUptoRow : OpenClaim := { program := "yteidabgkidablaa", sum := "2fa5265f8edb01955ab182461778e17e81586b1c2de82f007e0cc8a1e78680f6", func := "burrow/burrowlaw16.WindowSets", spec := "windowSets", apart := false, narrowed := true }
def WindowSetsUptoSaid : Prop := windowSetsUptoRow.holds Try.pinned (OpenSpec.upto windowSetsSpec)

end Rows
end Go.Proofs.Yteidabgkidablaa
