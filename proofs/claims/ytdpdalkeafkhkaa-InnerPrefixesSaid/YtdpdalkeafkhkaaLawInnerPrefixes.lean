/-
  InnerPrefixes returns true for every input, by what the landed functions give.
-/
import Derived.Test.YtdpdalkeafkhkaaInPrefixes
import Derived.Test.YtdpdalkeafkhkaaInProg
namespace Go.Proofs.Ytdpdalkeafkhkaa
open Go.RowKit

theorem in_prefixes_walk_all (w : World) (a0 : AddrM) (b0 : Int) (a b : AddrM) (Ac : Option Addr) (nc cc : Nat) (lc : List UInt8) (ia : Nat) (ha0 : a0.ok) (hb0 : -9223372036854775808 ≤ b0 ∧ b0 ≤ 9223372036854775807) (ha : a.ok) (hb : b.ok) (hnc : nc ≤ cc) (hcm : cc ≤ maxLen) (hr : Rd w w.heap.size Ac nc lc) (hia : ia ≤ 255) :
    Calls Try.prog 5 #[.agg (prefC a0 b0).toArray, .agg a.cells.toArray, .agg b.cells.toArray, .slice Ac nc cc, .int .u8 (ia : Int)] w fun e w' => e = .returned (.bool true) ∧ Below w.heap.size w w' :=
  in_prefixes_walk inCheckC inPadC inValidC inContainsC inLessC w a0 b0 a b Ac nc cc lc ia ha0 hb0 ha hb hnc hcm hr hia
end Go.Proofs.Ytdpdalkeafkhkaa
