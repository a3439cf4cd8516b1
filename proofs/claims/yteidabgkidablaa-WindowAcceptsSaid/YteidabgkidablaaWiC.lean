/-
  What the laws of the window ask of the program, by a function's number. No statement is proved here.
-/
import Derived.Test.YteidabgkidablaaWiRd
namespace Go.Proofs.Yteidabgkidablaa
open Go.RowKit

def WiCheckC (F : Nat) : Prop := ∀ (x : WinM) (c : Nat) (w : World), x.ok → c < 18446744073709551616 →
  Calls Try.prog F #[.agg x.cells.toArray, .int .u64 (c : Int)] w fun e w' => e = .returned (.bool (checkM x c)) ∧ Below w.heap.size w w'
def WiAcceptC (F : Nat) : Prop := ∀ (x : WinM) (c : Nat) (w : World), x.ok → c < 18446744073709551616 →
  Calls Try.prog F #[.agg x.cells.toArray, .int .u64 (c : Int)] w fun e w' => e = .returned (.tuple #[.agg (acceptM x c).1.cells.toArray, .bool (acceptM x c).2]) ∧ Below w.heap.size w w'
end Go.Proofs.Yteidabgkidablaa
