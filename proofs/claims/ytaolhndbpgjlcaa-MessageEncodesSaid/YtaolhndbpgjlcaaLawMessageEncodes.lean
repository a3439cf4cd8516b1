/-
  MessageEncodes returns true for every input, by what the landed functions give.
-/
import Derived.Test.YtaolhndbpgjlcaaMsEncodes
import Derived.Test.YtaolhndbpgjlcaaMsPEnc
import Derived.Test.YtaolhndbpgjlcaaMsPEncT
namespace Go.Proofs.Ytaolhndbpgjlcaa
open Go.RowKit

theorem ms_encodes_walk_all (w : World) (m1 m2 m3 : MsgM) (r q : Nat) (A : Option Addr) (nb cb : Nat) (lb : List UInt8) (n : Nat) (hok1 : m1.ok 1) (hok2 : m2.ok 2) (hok3 : m3.ok 3) (hr32 : r < 4294967296) (hq64 : q < 18446744073709551616) (hnc : nb ≤ cb) (hcm : cb ≤ maxLen) (hrb : Rd w w.heap.size A nb lb) (hn : n ≤ 65535) :
    Calls Try.prog 3 #[.agg m1.cells.toArray, .agg m2.cells.toArray, .agg m3.cells.toArray, .agg (tranC r q A nb cb).toArray, .int .u16 (n : Int)] w fun e w' => e = .returned (.bool true) ∧ Below w.heap.size w w' :=
  ms_encodes_walk msKindC msEncC1 msEncC2 msEncC3 msEncTC w m1 m2 m3 r q A nb cb lb n hok1 hok2 hok3 hr32 hq64 hnc hcm hrb hn
end Go.Proofs.Ytaolhndbpgjlcaa
