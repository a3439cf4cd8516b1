/-
  No cell of these rows narrows 'for every input' (looked for: loops, veiled, ifaces, maps, wideKeys, modest, calm, conditions, laid).
  DERIVED. THE GIVEN ROWS OF THIS SEAT. 3 by the template 'for every input the law returns true; each argument reads behind the call as it read before'; 0 by the template 'total and deterministic' (their statements: YtmbcohhnnlpnaaaTotals.lean).
  GIVEN WITH THE SEED: the statements are not yours to turn. If you find one false, say at which input.
  Laid BY PROGRAM, IN A SANDBOX (cutbox-rows.mjs): the forced cells as the released guide's own fill.sh prints them over the translation 8f8fab135bd32015… (all of the seat's roots in one cut). By AI agents, Wed Nov 11 2026. No macro, syntax, notation, axiom, sorry.
-/
import Derived.Test.YtmbcohhnnlpnaaaChecked
import GoSem.Claim
import GoSem.ClaimJoined
import GoSem.ClaimMapViews
import Derived.JoinedTies
import Derived.KernelRfl
namespace Go.Proofs.Ytmbcohhnnlpnaaa
/- THE CELL 'sum', in the pinned program and in every row, IS THE sha256 OF THE DUMP (.gsa) THAT YtmbcohhnnlpnaaaProg.lean LOADS. Nothing in Lean hashes anything: it is a label: what it is worth is what the hold of that sum in a sandbox is worth. -/
noncomputable def Try.pinned : Pinned := { name := "ytmbcohhnnlpnaaa", sum := "8f8fab135bd32015c8291e4cfb32d3856bc34316aac24037ef8c6cc0aa941a08", checked := Try.checked }
namespace Rows
def none {H : Type} : Left H := { results := [], args := [] }

/-- 'burrowlaw09.TaiStamps': WHATEVER THE INPUT: true; the input reads as it did. -/
def taiStampsSpec : ChangeSpec := { name := "taiStamps", fn := fun _ => fun
  | [d1, d2, d3, d4] => { results := [.lit (.bool true)], args := [d1, d2, d3, d4] }
  | _ => none }
def taiStampsRow : OpenClaim := { program := "ytmbcohhnnlpnaaa", sum := "8f8fab135bd32015c8291e4cfb32d3856bc34316aac24037ef8c6cc0aa941a08", func := "burrow/burrowlaw09.TaiStamps", spec := "taiStamps", apart := false }
def TaiStampsSaid : Prop := taiStampsRow.holds Try.pinned (OpenSpec.ofChange taiStampsSpec)

/-- ITS FALSE NEIGHBOUR: 'it returns false'. Refute it at one input. -/
def taiStampsWrong : ChangeSpec := { name := "taiStamps", fn := fun _ => fun
  | [d1, d2, d3, d4] => { results := [.lit (.bool false)], args := [d1, d2, d3, d4] }
  | _ => none }
def TaiStampsWrongFalsely : Prop := taiStampsRow.holds Try.pinned (OpenSpec.ofChange taiStampsWrong)

/-- 'burrowlaw09.TaiOrders': WHATEVER THE INPUT: true; the input reads as it did. -/
def taiOrdersSpec : ChangeSpec := { name := "taiOrders", fn := fun _ => fun
  | [d1, d2, d3] => { results := [.lit (.bool true)], args := [d1, d2, d3] }
  | _ => none }
def taiOrdersRow : OpenClaim := { program := "ytmbcohhnnlpnaaa", sum := "8f8fab135bd32015c8291e4cfb32d3856bc34316aac24037ef8c6cc0aa941a08", func := "burrow/burrowlaw09.TaiOrders", spec := "taiOrders", inPlace := ["internal/bytealg.Compare"], apart := false }
def TaiOrdersSaid : Prop := taiOrdersRow.holds Try.pinned (OpenSpec.ofChange taiOrdersSpec)

/-- ITS FALSE NEIGHBOUR: 'it returns false'. Refute it at one input. -/
def taiOrdersWrong : ChangeSpec := { name := "taiOrders", fn := fun _ => fun
  | [d1, d2, d3] => { results := [.lit (.bool false)], args := [d1, d2, d3] }
  | _ => none }
def TaiOrdersWrongFalsely : Prop := taiOrdersRow.holds Try.pinned (OpenSpec.ofChange taiOrdersWrong)

/-- 'burrowlaw09.TaiAfter': WHATEVER THE INPUT: true; the input reads as it did. -/
def taiAfterSpec : ChangeSpec := { name := "taiAfter", fn := fun _ => fun
  | [d1, d2, d3] => { results := [.lit (.bool true)], args := [d1, d2, d3] }
  | _ => none }
def taiAfterRow : OpenClaim := { program := "ytmbcohhnnlpnaaa", sum := "8f8fab135bd32015c8291e4cfb32d3856bc34316aac24037ef8c6cc0aa941a08", func := "burrow/burrowlaw09.TaiAfter", spec := "taiAfter", inPlace := ["internal/bytealg.Compare"], apart := false }
def TaiAfterSaid : Prop := taiAfterRow.holds Try.pinned (OpenSpec.ofChange taiAfterSpec)

/-- ITS FALSE NEIGHBOUR: 'it returns false'. Refute it at one input. -/
def taiAfterWrong : ChangeSpec := { name := "taiAfter", fn := fun _ => fun
  | [d1, d2, d3] => { results := [.lit (.bool false)], args := [d1, d2, d3] }
  | _ => none }
def TaiAfterWrongFalsely : Prop := taiAfterRow.holds Try.pinned (OpenSpec.ofChange taiAfterWrong)

/- THE SECOND FORM. 'bulk': how many values and letters a reading holds, each counted each time it is reached (what is shared counts as often as it is met; a slice's spare places count too). A statement '..UptoSaid' is the law's where the arguments, and the package variables that the reading takes, are together of bulk at most 1048576: NARROWER than '..Said'. Prove '..Said' where nothing that the law and all that it calls make is longer than what came in: it says more and counts as full. Else prove '..UptoSaid'. A law counts once. -/
mutual
def uptoBulk {H : Type} : DataW H → Nat
  | .lit (.string bytes) => bytes.length + 1
  | .lit _ => 1
  | .nil => 1
  | .ptr d => uptoBulk d + 1
  | .slice elems spare => uptoBulkAll elems + uptoBulkAll spare + 1
  | .agg parts => uptoBulkAll parts + 1
  | .iface _ d => uptoBulk d + 1
  | .map entries => uptoBulkEntries entries + 1
  | .held _ => 1
def uptoBulkAll {H : Type} : List (DataW H) → Nat
  | [] => 0
  | d :: r => uptoBulk d + uptoBulkAll r
def uptoBulkEntries {H : Type} : List (Lit × DataW H) → Nat
  | [] => 0
  | x :: r => uptoBulkEntry x + uptoBulkEntries r
def uptoBulkEntry {H : Type} : Lit × DataW H → Nat
  | (.string bytes, d) => bytes.length + uptoBulk d + 1
  | (_, d) => uptoBulk d + 1
 end
def uptoSmall : (H : Type) → List (DataW H) → Bool := fun _ ds => decide (uptoBulkAll ds ≤ 1048576)
def OpenSpec.upto (s : _root_.Go.ChangeSpec) : _root_.Go.OpenSpec := { _root_.Go.OpenSpec.ofChange s with cond := some uptoSmall }

/-- 'burrowlaw09.TaiStamps', WHERE WHAT IT READS IS OF BULK AT MOST 1048576: true; the input reads as it did. -/
def taiStampsUptoRow : OpenClaim := { program := "ytmbcohhnnlpnaaa", sum := "8f8fab135bd32015c8291e4cfb32d3856bc34316aac24037ef8c6cc0aa941a08", func := "burrow/burrowlaw09.TaiStamps", spec := "taiStamps", apart := false, narrowed := true }
def TaiStampsUptoSaid : Prop := taiStampsUptoRow.holds Try.pinned (OpenSpec.upto taiStampsSpec)

/-- 'burrowlaw09.TaiOrders', WHERE WHAT IT READS IS OF BULK AT MOST 1048576: true; the input reads as it did. -/
def taiOrdersUptoRow : OpenClaim := { program := "ytmbcohhnnlpnaaa", sum := "8f8fab135bd32015c8291e4cfb32d3856bc34316aac24037ef8c6cc0aa941a08", func := "burrow/burrowlaw09.TaiOrders", spec := "taiOrders", inPlace := ["internal/bytealg.Compare"], apart := false, narrowed := true }
def TaiOrdersUptoSaid : Prop := taiOrdersUptoRow.holds Try.pinned (OpenSpec.upto taiOrdersSpec)

/-- 'burrowlaw09.TaiAfter', WHERE WHAT IT READS IS OF BULK AT MOST 1048576: true; the input reads as it did. -/
def taiAfterUptoRow : OpenClaim := { program := "ytmbcohhnnlpnaaa", sum := "8f8fab135bd32015c8291e4cfb32d3856bc34316aac24037ef8c6cc0aa941a08", func := "burrow/burrowlaw09.TaiAfter", spec := "taiAfter", inPlace := ["internal/bytealg.Compare"], apart := false, narrowed := true }
def TaiAfterUptoSaid : Prop := taiAfterUptoRow.holds Try.pinned (OpenSpec.upto taiAfterSpec)

end Rows
end Go.Proofs.Ytmbcohhnnlpnaaa
