/-
  TaiStamps returns true for every input, by what the landed functions give.
-/
import Derived.Test.YtmbcohhnnlpnaaaTaStamps
import Derived.Test.YtmbcohhnnlpnaaaTaProg
namespace Go.Proofs.Ytmbcohhnnlpnaaa
open Go.RowKit

theorem ta_stamps_walk_all (w : World) (t : Int) (s : List UInt8) (n1 n2 : Nat) (ht : -9223372036854775808 ≤ t ∧ t ≤ 9223372036854775807) (hs : s.length = 12) (hn1 : n1 ≤ 255) (hn2 : n2 ≤ 255) :
    Calls Try.prog 3 #[.int .i64 t, .agg (s.map u8v).toArray, .int .u8 (n1 : Int), .int .u8 (n2 : Int)] w fun e w' => e = .returned (.bool true) ∧ Below w.heap.size w w' :=
  ta_stamps_walk taOfC taTickC w t s n1 n2 ht hs hn1 hn2
end Go.Proofs.Ytmbcohhnnlpnaaa
