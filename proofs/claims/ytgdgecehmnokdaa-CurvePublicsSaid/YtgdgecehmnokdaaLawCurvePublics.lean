/-
  CurvePublics returns true for every input, by what the landed functions give.
-/
import Derived.Test.YtgdgecehmnokdaaCuPublics
import Derived.Test.YtgdgecehmnokdaaCuProg
namespace Go.Proofs.Ytgdgecehmnokdaa
open Go.RowKit

theorem cu_publics_walk_all (w : World) (k : List UInt8) (hk : k.length = 32) :
    Calls Try.prog 4 #[.agg (k.map u8v).toArray] w fun e w' => e = .returned (.bool true) ∧ Below w.heap.size w w' :=
  cu_publics_walk cuClampC cuPublicC cuMulC w k hk
end Go.Proofs.Ytgdgecehmnokdaa
