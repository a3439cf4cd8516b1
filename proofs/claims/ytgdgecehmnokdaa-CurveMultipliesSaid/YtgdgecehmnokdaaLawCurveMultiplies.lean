/-
  CurveMultiplies returns true for every input, by what the landed functions give.
-/
import Derived.Test.YtgdgecehmnokdaaCuMultiplies
import Derived.Test.YtgdgecehmnokdaaCuProg
namespace Go.Proofs.Ytgdgecehmnokdaa
open Go.RowKit

theorem cu_multiplies_walk_all (w : World) (a u : List UInt8) (wh lo : Nat) (ha : a.length = 32) (hu : u.length = 32) (hwh : wh ≤ 255) (hlo : lo ≤ 255) :
    Calls Try.prog 3 #[.agg (a.map u8v).toArray, .agg (u.map u8v).toArray, .int .u8 (wh : Int), .int .u8 (lo : Int)] w fun e w' => e = .returned (.bool true) ∧ Below w.heap.size w w' :=
  cu_multiplies_walk cuMulC cuShareC w a u wh lo ha hu hwh hlo
end Go.Proofs.Ytgdgecehmnokdaa
