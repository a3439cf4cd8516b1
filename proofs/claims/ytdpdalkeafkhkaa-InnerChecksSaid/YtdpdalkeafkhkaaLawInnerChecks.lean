/-
  InnerChecks returns true for every input, by what the landed functions give.
-/
import Derived.Test.YtdpdalkeafkhkaaInChecks
import Derived.Test.YtdpdalkeafkhkaaInProg
namespace Go.Proofs.Ytdpdalkeafkhkaa
open Go.RowKit

theorem in_checks_walk_all (w : World) (Ab : Option Addr) (nb cb : Nat) (lb : List UInt8) (six : Bool) (n ia ib mo : Nat) (hnc : nb ≤ cb) (hcm : cb ≤ maxLen) (hr : Rd w w.heap.size Ab nb lb) (hn : n ≤ 65535) (hia : ia ≤ 255) (hib : ib ≤ 255) (hmo : mo ≤ 255) :
    Calls Try.prog 3 #[.slice Ab nb cb, .bool six, .int .u16 (n : Int), .int .u8 (ia : Int), .int .u8 (ib : Int), .int .u8 (mo : Int)] w fun e w' => e = .returned (.bool true) ∧ Below w.heap.size w w' :=
  in_checks_walk inCheckC inPadC inTrimC w Ab nb cb lb six n ia ib mo hnc hcm hr hn hia hib hmo
end Go.Proofs.Ytdpdalkeafkhkaa
