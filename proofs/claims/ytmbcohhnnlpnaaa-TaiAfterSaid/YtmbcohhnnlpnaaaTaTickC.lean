/-
  What is asked of tai.Tick. No statement is proved here.
-/
import Derived.Test.YtmbcohhnnlpnaaaTaMath
import Derived.Test.YtmbcohhnnlpnaaaMem
namespace Go.Proofs.Ytmbcohhnnlpnaaa
open Go.RowKit

def TaTickC : Prop := ∀ s : List UInt8, s.length = 12 → ∀ w : World,
  Calls Try.prog 9 #[.agg (s.map u8v).toArray] w fun e w' => e = .returned (.tuple #[.int .i64 (tickL s).1, .int .i64 ((tickL s).2 : Int)]) ∧ Below w.heap.size w w'
end Go.Proofs.Ytmbcohhnnlpnaaa
