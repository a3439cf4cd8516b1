/-
  Equality of two structs, as an operation. No statement is proved here.
-/
import Derived.Test.YteidabgkidablaaObj
namespace Go.Proofs.Yteidabgkidablaa
open Go.RowKit

theorem run_eql_agg {P : Program} (ρ : Operand → Value) (o : Oper) (t r : TypeId) (i j : Tmp) (ho : o.op = .binOp .eql t (.tmp i) (.tmp j) r) (u v : Array Value) (b : Bool) (w : World) (hx : ρ (.tmp i) = .agg u) (hy : ρ (.tmp j) = .agg v) (hg : P.eqGuardType P.depth t = false) (he : (Op.equalIn 10000 t (.agg u) (.agg v)).run P w = .ok b w) :
    (execOp ρ o).run P w = .ok (.value (.bool b)) w := by
  have he2 : (Op.equalIn Op.maxDepth t (.agg u) (.agg v)).run P w = .ok b w := he
  unfold execOp
  simp only [ho, hx, hy, eqGuard]
  simp [binOp, Op.equal, he2, hg, Result.andThen]
end Go.Proofs.Yteidabgkidablaa
