/-
  StageOrders returns true for every input, by what the landed functions give.
-/
import Derived.Test.YtnmjcibhggchkaaStOrders
import Derived.Test.YtnmjcibhggchkaaStPush
import Derived.Test.YtnmjcibhggchkaaStPop
namespace Go.Proofs.Ytnmjcibhggchkaa
open Go.RowKit

theorem st_orders_walk_all (w : World) (A : Option Addr) (n c : Nat) (ps : List Part) (cap : Nat) (hnc : n ≤ c ∧ c ≤ maxLen) (hr : PkRd w w.heap.size A n ps) (hcap : cap ≤ 255) :
    Calls Try.prog 4 #[.slice A n c, .int .u8 (cap : Int)] w fun e w' => e = .returned (.bool true) ∧ Below w.heap.size w w' :=
  st_orders_walk stPushC stPopC w A n c ps cap hnc hr hcap
end Go.Proofs.Ytnmjcibhggchkaa
