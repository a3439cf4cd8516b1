/-
  MessageReturns returns true for every input, by what the landed functions give.
-/
import Derived.Test.YtaolhndbpgjlcaaMsReturns
import Derived.Test.YtaolhndbpgjlcaaMsProg
namespace Go.Proofs.Ytaolhndbpgjlcaa
open Go.RowKit

theorem ms_returns_walk_all (w : World) (m1 m2 m3 : MsgM) (r q : Nat) (A : Option Addr) (nb cb : Nat) (lb : List UInt8) (hok1 : m1.ok 1) (hok2 : m2.ok 2) (hok3 : m3.ok 3) (hr32 : r ≤ 4294967295) (hq64 : q ≤ 18446744073709551615) (hnc : nb ≤ cb) (hcm : cb ≤ maxLen) (hrb : Rd w w.heap.size A nb lb) :
    Calls Try.prog 5 #[.agg m1.cells.toArray, .agg m2.cells.toArray, .agg m3.cells.toArray, .int .u32 (r : Int), .int .u64 (q : Int), .slice A nb cb] w fun e w' => e = .returned (.bool true) ∧ Below w.heap.size w w' :=
  ms_returns_walk msKindC msEncC1 msEncC2 msEncC3 msEncTC msDecC1 msDecC2 msDecC3 msDecTC w m1 m2 m3 r q A nb cb lb hok1 hok2 hok3 hr32 hq64 hnc hcm hrb
end Go.Proofs.Ytaolhndbpgjlcaa
