/-
  Two objects are compared by == or !=, in a list of operations and in a drawn region. No function of the program is named here.
-/
import Derived.Test.YteidabgkidablaaObj
import Derived.Test.YteidabgkidablaaEqlG
namespace Go.Proofs.Yteidabgkidablaa
open Go.RowKit

theorem run_cmp_agg {P : Program} (ρ : Operand → Value) (o : Oper) (t r : TypeId) (i j : Tmp) (neg : Bool) (ho : o.op = .binOp (if neg then .neq else .eql) t (.tmp i) (.tmp j) r) (u v : Array Value) (b : Bool) (w : World) (hx : ρ (.tmp i) = .agg u) (hy : ρ (.tmp j) = .agg v) (hg : P.eqGuardType P.depth t = false) (he : (Op.equalIn 10000 t (.agg u) (.agg v)).run P w = .ok b w) :
    (execOp ρ o).run P w = .ok (.value (.bool (if neg then !b else b))) w := by
  have he2 : (Op.equalIn Op.maxDepth t (.agg u) (.agg v)).run P w = .ok b w := he
  unfold execOp
  cases neg
  · rw [if_neg (by decide)] at ho
    simp only [ho, hx, hy, eqGuard]
    simp [binOp, Op.equal, he2, hg, Result.andThen]
  · rw [if_pos rfl] at ho
    simp only [ho, hx, hy, eqGuard]
    simp [binOp, Op.equal, he2, hg, Result.andThen]
theorem wpList_neq_agg {P : Program} {w : World} {ops : Array Oper} {rest : List Oper} {o : Oper} {a : Act} {Q : Exit → Act → World → Prop} (hw : Region.wanted o (yielded ops a.tmps) = true) (t r : TypeId) (i j : Tmp) (ho : o.op = .binOp .neq t (.tmp i) (.tmp j) r) (u v : Array Value) (b : Bool)
    (hx : a.eval (.tmp i) = .agg u) (hy : a.eval (.tmp j) = .agg v) (hg : P.eqGuardType P.depth t = false) (he : (Op.equalIn 10000 t (.agg u) (.agg v)).run P w = .ok b w)
    (h : wpList P ops Q rest (a.put o.dst (.bool (!b))) w) : wpList P ops Q (o :: rest) a w :=
  wpList_step fun K hK => by
    rw [if_pos hw]
    have hr := run_cmp_agg a.eval o t r i j true ho u v b w hx hy hg he
    unfold Oper.wp
    rw [hr]
    exact hK _ _ h
theorem yields_cmp_agg {P : Program} {ops : Array Oper} {S : World → Prop} {o : Oper} {a : Act} (neg : Bool) (hw : Region.wanted o (yielded ops a.tmps) = true) (t r : TypeId) (i j : Tmp) (ho : o.op = .binOp (if neg then .neq else .eql) t (.tmp i) (.tmp j) r) (u v : Array Value) (b : Bool)
    (hx : a.eval (.tmp i) = .agg u) (hy : a.eval (.tmp j) = .agg v) (hg : P.eqGuardType P.depth t = false) (he : ∀ w, (Op.equalIn 10000 t (.agg u) (.agg v)).run P w = .ok b w) : YieldsIf P ops S o (.bool (if neg then !b else b)) a :=
  .inl ⟨hw, fun w _ => run_cmp_agg a.eval o t r i j neg ho u v b w hx hy hg (he w)⟩
end Go.Proofs.Yteidabgkidablaa
