/-
  A quick look whether an operation is the one that is meant. No statement is proved here.
-/
import Derived.Test.YtnmjcibhggchkaaMem
namespace Go.Proofs.Ytnmjcibhggchkaa
open Go.RowKit

theorem at_op {P : Program} {w : World} {ops : Array Oper} {rest : List Oper} {o : Oper} {a : Act} {Q : Exit → Act → World → Prop} (p : Op) (_ : o.op = p) (h : wpList P ops Q (o :: rest) a w) : wpList P ops Q (o :: rest) a w := h
end Go.Proofs.Ytnmjcibhggchkaa
