/-
  What is asked of tai.After. No statement is proved here.
-/
import Derived.Test.YtmbcohhnnlpnaaaTaMath
import Derived.Test.YtmbcohhnnlpnaaaMem
namespace Go.Proofs.Ytmbcohhnnlpnaaa
open Go.RowKit

def TaAfterC : Prop := ∀ a b : List UInt8, a.length = 12 → b.length = 12 → ∀ w : World,
  Calls Try.prog 12 #[.agg (a.map u8v).toArray, .agg (b.map u8v).toArray] w fun e w' => e = .returned (.bool (laterB a b)) ∧ Below w.heap.size w w'
end Go.Proofs.Ytmbcohhnnlpnaaa
