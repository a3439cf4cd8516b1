/-
  InnerReturns returns true for every input, by what the landed functions give.
-/
import Derived.Test.YtdpdalkeafkhkaaInReturns
import Derived.Test.YtdpdalkeafkhkaaInProg
namespace Go.Proofs.Ytdpdalkeafkhkaa
open Go.RowKit

theorem in_returns_walk_all (w : World) (six : Bool) (n fill : Nat) (hn : n ≤ 65535) (hf : fill ≤ 255) :
    Calls Try.prog 4 #[.bool six, .int .u16 (n : Int), .int .u8 (fill : Int)] w fun e w' => e = .returned (.bool true) ∧ Below w.heap.size w w' :=
  in_returns_walk inCheckC inPadC inTrimC w six n fill hn hf
end Go.Proofs.Ytdpdalkeafkhkaa
