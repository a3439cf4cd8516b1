/-
  No cell of these rows narrows 'for every input' (looked for: loops, veiled, ifaces, maps, wideKeys, modest, calm, conditions, laid).
  DERIVED. THE GIVEN ROWS OF THIS SEAT. 2 by the template 'for every input the law returns true; each argument reads behind the call as it read before'; 0 by the template 'total and deterministic' (their statements: YtkbefhmgcodpaaaTotals.lean).
  GIVEN WITH THE SEED: the statements are not yours to turn. If you find one false, say at which input.
  Laid BY PROGRAM, IN A SANDBOX (cutbox-rows.mjs): the forced cells as the released guide's own fill.sh prints them over the translation f3dcda59c21aa7d3… (all of the seat's roots in one cut). By AI agents, Wed Nov 11 2026. No macro, syntax, notation, axiom, sorry.
-/
import Derived.Test.YtkbefhmgcodpaaaChecked
import GoSem.Claim
import GoSem.ClaimJoined
import GoSem.ClaimMapViews
import Derived.JoinedTies
import Derived.KernelRfl
namespace Go.Proofs.Ytkbefhmgcodpaaa
/- THE CELL 'sum', in the pinned program and in every row, IS THE sha256 OF THE DUMP (.gsa) THAT YtkbefhmgcodpaaaProg.lean LOADS. Nothing in Lean hashes anything: it is a label: what it is worth is what the hold of that sum in a sandbox is worth. -/
noncomputable def Try.pinned : Pinned := { name := "ytkbefhmgcodpaaa", sum := "f3dcda59c21aa7d3345d526b5f261864a71ad4194a5a61f217b8305af6c88c88", checked := Try.checked }
namespace Rows
def none {H : Type} : Left H := { results := [], args := [] }

/-- 'burrowlaw05.XchachaSeals': WHATEVER THE INPUT: true; the input reads as it did. -/
def xchachaSealsSpec : ChangeSpec := { name := "xchachaSeals", fn := fun _ => fun
  | [d1, d2, d3, d4, d5, d6, d7] => { results := [.lit (.bool true)], args := [d1, d2, d3, d4, d5, d6, d7] }
  | _ => none }
def xchachaSealsRow : OpenClaim := { program := "ytkbefhmgcodpaaa", sum := "f3dcda59c21aa7d3345d526b5f261864a71ad4194a5a61f217b8305af6c88c88", func := "burrow/burrowlaw05.XchachaSeals", spec := "xchachaSeals", inPlace := ["math/bits.Add64", "math/bits.Sub64"], apart := false }
def XchachaSealsSaid : Prop := xchachaSealsRow.holds Try.pinned (OpenSpec.ofChange xchachaSealsSpec)

/-- ITS FALSE NEIGHBOUR: 'it returns false'. Refute it at one input. -/
def xchachaSealsWrong : ChangeSpec := { name := "xchachaSeals", fn := fun _ => fun
  | [d1, d2, d3, d4, d5, d6, d7] => { results := [.lit (.bool false)], args := [d1, d2, d3, d4, d5, d6, d7] }
  | _ => none }
def XchachaSealsWrongFalsely : Prop := xchachaSealsRow.holds Try.pinned (OpenSpec.ofChange xchachaSealsWrong)

/-- 'burrowlaw05.XchachaReturns': WHATEVER THE INPUT: true; the input reads as it did. -/
def xchachaReturnsSpec : ChangeSpec := { name := "xchachaReturns", fn := fun _ => fun
  | [d1, d2, d3, d4] => { results := [.lit (.bool true)], args := [d1, d2, d3, d4] }
  | _ => none }
def xchachaReturnsRow : OpenClaim := { program := "ytkbefhmgcodpaaa", sum := "f3dcda59c21aa7d3345d526b5f261864a71ad4194a5a61f217b8305af6c88c88", func := "burrow/burrowlaw05.XchachaReturns", spec := "xchachaReturns", inPlace := ["math/bits.Add64", "math/bits.Sub64"], apart := false }
def XchachaReturnsSaid : Prop := xchachaReturnsRow.holds Try.pinned (OpenSpec.ofChange xchachaReturnsSpec)

/-- ITS FALSE NEIGHBOUR: 'it returns false'. Refute it at one input. -/
def xchachaReturnsWrong : ChangeSpec := { name := "xchachaReturns", fn := fun _ => fun
  | [d1, d2, d3, d4] => { results := [.lit (.bool false)], args := [d1, d2, d3, d4] }
  | _ => none }
def XchachaReturnsWrongFalsely : Prop := xchachaReturnsRow.holds Try.pinned (OpenSpec.ofChange xchachaReturnsWrong)

/- THE SECOND FORM. 'bulk': how many values and letters a reading holds, each counted each time it is reached (what is shared counts as often as it is met; a slice's spare places count too). A statement '..UptoSaid' is the law's where the arguments, and the package variables that the reading takes, are together of bulk at most 1048576: NARROWER than '..Said'. Prove '..Said' where nothing that the law and all that it calls make is longer than what came in: it says more and counts as full. Else prove '..UptoSaid'. A law counts once. -/
mutual
def uptoBulk {H : Type} : DataW H → Nat
  | .lit (.string bytes) => bytes.length + 1
  | .lit _ => 1
  | .nil => 1
  | .ptr d => uptoBulk d + 1
  | .slice elems spare => uptoBulkAll elems + uptoBulkAll spare + 1
  | .agg parts => uptoBulkAll parts + 1
  | .iface _ d => uptoBulk d + 1
  | .map entries => uptoBulkEntries entries + 1
  | .held _ => 1
def uptoBulkAll {H : Type} : List (DataW H) → Nat
  | [] => 0
  | d :: r => uptoBulk d + uptoBulkAll r
def uptoBulkEntries {H : Type} : List (Lit × DataW H) → Nat
  | [] => 0
  | x :: r => uptoBulkEntry x + uptoBulkEntries r
def uptoBulkEntry {H : Type} : Lit × DataW H → Nat
  | (.string bytes, d) => bytes.length + uptoBulk d + 1
  | (_, d) => uptoBulk d + 1
 end
def uptoSmall : (H : Type) → List (DataW H) → Bool := fun _ ds => decide (uptoBulkAll ds ≤ 1048576)
def OpenSpec.upto (s : _root_.Go.ChangeSpec) : _root_.Go.OpenSpec := { _root_.Go.OpenSpec.ofChange s with cond := some uptoSmall }

/-- 'burrowlaw05.XchachaSeals', WHERE WHAT IT READS IS OF BULK AT MOST 1048576: true; the input reads as it did. -/
def xchachaSealsUptoRow : OpenClaim := { program := "ytkbefhmgcodpaaa", sum := "f3dcda59c21aa7d3345d526b5f261864a71ad4194a5a61f217b8305af6c88c88", func := "burrow/burrowlaw05.XchachaSeals", spec := "xchachaSeals", inPlace := ["math/bits.Add64", "math/bits.Sub64"], apart := false, narrowed := true }
def XchachaSealsUptoSaid : Prop := xchachaSealsUptoRow.holds Try.pinned (OpenSpec.upto xchachaSealsSpec)

/-- 'burrowlaw05.XchachaReturns', WHERE WHAT IT READS IS OF BULK AT MOST 1048576: true; the input reads as it did. -/
def xchachaReturnsUptoRow : OpenClaim := { program := "ytkbefhmgcodpaaa", sum := "f3dcda59c21aa7d3345d526b5f261864a71ad4194a5a61f217b8305af6c88c88", func := "burrow/burrowlaw05.XchachaReturns", spec := "xchachaReturns", inPlace := ["math/bits.Add64", "math/bits.Sub64"], apart := false, narrowed := true }
def XchachaReturnsUptoSaid : Prop := xchachaReturnsUptoRow.holds Try.pinned (OpenSpec.upto xchachaReturnsSpec)

end Rows
end Go.Proofs.Ytkbefhmgcodpaaa
