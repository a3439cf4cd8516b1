/-
  InnerNests returns true for every input, by what the landed functions give.
-/
import Derived.Test.YtdpdalkeafkhkaaInNests
import Derived.Test.YtdpdalkeafkhkaaInProg
namespace Go.Proofs.Ytdpdalkeafkhkaa
open Go.RowKit

theorem in_nests_walk_all (w : World) (A : Option Addr) (n c : Nat) (l : List UInt8) (long short other : Nat) (hnc : n ≤ c) (hcm : c ≤ maxLen) (hr : Rd w w.heap.size A n l) (hlo : long ≤ 255) (hsh : short ≤ 255) (hot : other ≤ 65535) :
    Calls Try.prog 6 #[.slice A n c, .int .u8 (long : Int), .int .u8 (short : Int), .int .u16 (other : Int)] w fun e w' => e = .returned (.bool true) ∧ Below w.heap.size w w' :=
  in_nests_walk inCheckC inPadC inValidC inContainsC w A n c l long short other hnc hcm hr hlo hsh hot
end Go.Proofs.Ytdpdalkeafkhkaa
