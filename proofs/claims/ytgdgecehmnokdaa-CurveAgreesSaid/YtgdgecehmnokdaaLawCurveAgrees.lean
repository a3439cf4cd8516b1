/-
  CurveAgrees returns true for every input, by what the landed functions give.
-/
import Derived.Test.YtgdgecehmnokdaaCuAgrees
import Derived.Test.YtgdgecehmnokdaaCuProg
namespace Go.Proofs.Ytgdgecehmnokdaa
open Go.RowKit

theorem cu_agrees_walk_all (w : World) (a b : List UInt8) (ha : a.length = 32) (hb0 : b.length = 32) :
    Calls Try.prog 5 #[.agg (a.map u8v).toArray, .agg (b.map u8v).toArray] w fun e w' => e = .returned (.bool true) ∧ Below w.heap.size w w' :=
  cu_agrees_walk cuShareC cuPublicC cuMulC w a b ha hb0
end Go.Proofs.Ytgdgecehmnokdaa
