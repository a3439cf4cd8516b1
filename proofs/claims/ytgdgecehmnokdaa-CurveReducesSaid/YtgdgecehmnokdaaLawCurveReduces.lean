/-
  CurveReduces returns true for every input, by what the landed functions give.
-/
import Derived.Test.YtgdgecehmnokdaaCuReduces
import Derived.Test.YtgdgecehmnokdaaCuProg
namespace Go.Proofs.Ytgdgecehmnokdaa
open Go.RowKit

theorem cu_reduces_walk_all (w : World) (a : List UInt8) (n : Nat) (ha : a.length = 32) (hn : n ≤ 255) :
    Calls Try.prog 7 #[.agg (a.map u8v).toArray, .int .u8 (n : Int)] w fun e w' => e = .returned (.bool true) ∧ Below w.heap.size w w' :=
  cu_reduces_walk cuMulC w a n ha hn
end Go.Proofs.Ytgdgecehmnokdaa
