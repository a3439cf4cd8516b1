/-
  AeadCounters returns true for every input, by what the landed functions give.
-/
import Derived.Test.YtafkedeelngnnaaAeSealC
import Derived.Test.YtafkedeelngnnaaAeCount
namespace Go.Proofs.Ytafkedeelngnnaa
open Go.RowKit

theorem counters_walk_all (w : World) (a b : Nat) (ha : a ≤ 18446744073709551615) (hb : b ≤ 18446744073709551615) :
    Calls Try.prog 5 #[.int .u64 (a : Int), .int .u64 (b : Int)] w fun e w' => e = .returned (.bool true) ∧ Below w.heap.size w w' :=
  counters_walk sealC countC w a b ha hb
end Go.Proofs.Ytafkedeelngnnaa
