/-
  CurveClamps returns true for every input, by what the landed functions give.
-/
import Derived.Test.YtgdgecehmnokdaaCuClamps
import Derived.Test.YtgdgecehmnokdaaCuProg
namespace Go.Proofs.Ytgdgecehmnokdaa
open Go.RowKit

theorem cu_clamps_walk_all (w : World) (a u : List UInt8) (n : Nat) (ha : a.length = 32) (hu : u.length = 32) (hn : n ≤ 255) :
    Calls Try.prog 6 #[.agg (a.map u8v).toArray, .agg (u.map u8v).toArray, .int .u8 (n : Int)] w fun e w' => e = .returned (.bool true) ∧ Below w.heap.size w w' :=
  cu_clamps_walk cuClampC cuShareC cuMulC w a u n ha hu hn
end Go.Proofs.Ytgdgecehmnokdaa
