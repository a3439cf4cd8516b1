/-
  TaiAfter returns true for every input, by what the landed functions give.
-/
import Derived.Test.YtmbcohhnnlpnaaaTaAfter
import Derived.Test.YtmbcohhnnlpnaaaTaProg
namespace Go.Proofs.Ytmbcohhnnlpnaaa
open Go.RowKit

theorem ta_after_walk_all (w : World) (a b : List UInt8) (n : Nat) (ha : a.length = 12) (hb : b.length = 12) (hn : n ≤ 255) :
    Calls Try.prog 5 #[.agg (a.map u8v).toArray, .agg (b.map u8v).toArray, .int .u8 (n : Int)] w fun e w' => e = .returned (.bool true) ∧ Below w.heap.size w w' :=
  ta_after_walk taAfterC taOfC w a b n ha hb hn
end Go.Proofs.Ytmbcohhnnlpnaaa
