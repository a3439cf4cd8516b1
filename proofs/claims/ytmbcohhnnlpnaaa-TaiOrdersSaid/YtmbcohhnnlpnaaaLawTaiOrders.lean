/-
  TaiOrders returns true for every input, by what the landed functions give.
-/
import Derived.Test.YtmbcohhnnlpnaaaTaOrders
import Derived.Test.YtmbcohhnnlpnaaaTaProg
namespace Go.Proofs.Ytmbcohhnnlpnaaa
open Go.RowKit

theorem ta_orders_walk_all (w : World) (a b : Int) (n : Nat) (_ha : -9223372036854775808 ≤ a ∧ a ≤ 9223372036854775807) (_hb : -9223372036854775808 ≤ b ∧ b ≤ 9223372036854775807) (hn : n ≤ 255) :
    Calls Try.prog 4 #[.int .i64 a, .int .i64 b, .int .u8 (n : Int)] w fun e w' => e = .returned (.bool true) ∧ Below w.heap.size w w' :=
  ta_orders_walk taOfC taTickC taAfterC w a b n _ha _hb hn
end Go.Proofs.Ytmbcohhnnlpnaaa
