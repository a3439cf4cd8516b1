/-
  The builtin max of two numbers. No statement is proved here.
-/
import Derived.Test.YtnmjcibhggchkaaMem
namespace Go.Proofs.Ytnmjcibhggchkaa
open Go.RowKit

theorem wpList_max_k {P : Program} {w : World} {ops : Array Oper} {rest : List Oper} {o : Oper} {a : Act} {Q : Exit → Act → World → Prop} (hgd : o.guard = none) (x y : Operand) (ts : Array TypeId) (ho : o.op = .call { callee := .builtin .max, args := #[x, y], argTypes := ts })
    (k : IntKind) (u v m : Int) (hx : a.eval x = .int k u) (hy : a.eval y = .int k v) (hm : max u v = m) (h : wpList P ops Q rest (a.put o.dst (.int k m)) w) : wpList P ops Q (o :: rest) a w :=
  wpList_plain hgd fun K hK => by
    have hr : (Builtin.max_ ts o.type #[.int k u, .int k v]).run P w = .ok (.int k m) w := by
      subst hm
      by_cases huv : v ≤ u
      · rw [Int.max_eq_left huv]
        simp [Builtin.max_, Builtin.max2]
        try omega
      · rw [Int.max_eq_right (by omega)]
        simp [Builtin.max_, Builtin.max2]
        try omega
    unfold Oper.wp execOp
    simp only [ho, resolve, invoke, builtin, Sem.run_bind, Sem.run_pure, Result.andThen_ok, List.map_toArray, List.map_cons, List.map_nil, hx, hy, hr]
    exact hK _ _ h
end Go.Proofs.Ytnmjcibhggchkaa
