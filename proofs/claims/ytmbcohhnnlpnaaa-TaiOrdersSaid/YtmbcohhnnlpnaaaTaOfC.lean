/-
  What is asked of tai.Of. No statement is proved here.
-/
import Derived.Test.YtmbcohhnnlpnaaaTaMath
import Derived.Test.YtmbcohhnnlpnaaaMem
namespace Go.Proofs.Ytmbcohhnnlpnaaa
open Go.RowKit

def TaOfC : Prop := ∀ t : Int, -9223372036854775808 ≤ t → t ≤ 9223372036854775807 → ∀ w : World,
  Calls Try.prog 8 #[.int .i64 t] w fun e w' => e = .returned (.agg ((stampL t).map u8v).toArray) ∧ Below w.heap.size w w'
end Go.Proofs.Ytmbcohhnnlpnaaa
