/-
  MessageDecodes returns true for every input, by what the landed functions give.
-/
import Derived.Test.YtaolhndbpgjlcaaMsDecW
import Derived.Test.YtaolhndbpgjlcaaMsPDec
import Derived.Test.YtaolhndbpgjlcaaMsPDecT
import Derived.Test.YtaolhndbpgjlcaaMsPEncT
namespace Go.Proofs.Ytaolhndbpgjlcaa
open Go.RowKit

theorem ms_decodes_walk_all (w : World) (m1 m2 m3 : MsgM) (n : Nat) (A : Option Addr) (nb cb : Nat) (lb : List UInt8) (wh ia ib : Nat) (hok1 : m1.ok 1) (hok2 : m2.ok 2) (hok3 : m3.ok 3) (hn : n ≤ 65535) (hnc : nb ≤ cb) (hcm : cb ≤ maxLen) (hrb : Rd w w.heap.size A nb lb) (hwh : wh ≤ 255) (hia : ia ≤ 255) (hib : ib ≤ 255) :
    Calls Try.prog 4 #[.agg m1.cells.toArray, .agg m2.cells.toArray, .agg m3.cells.toArray, .int .u16 (n : Int), .slice A nb cb, .int .u8 (wh : Int), .int .u8 (ia : Int), .int .u8 (ib : Int)] w fun e w' => e = .returned (.bool true) ∧ Below w.heap.size w w' :=
  ms_decodes_walk msKindC msDecC1 msDecC2 msDecC3 msDecTC msEncTC w m1 m2 m3 n A nb cb lb wh ia ib hok1 hok2 hok3 hn hnc hcm hrb hwh hia hib
end Go.Proofs.Ytaolhndbpgjlcaa
