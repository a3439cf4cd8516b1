/-
  WindowOnce returns true for every input, by what the landed functions give.
-/
import Derived.Test.YteidabgkidablaaWiOnce
import Derived.Test.YteidabgkidablaaWiPAccept
import Derived.Test.YteidabgkidablaaWiPCheck
namespace Go.Proofs.Yteidabgkidablaa
open Go.RowKit

theorem wi_once_walk_all (w : World) (As : Option Addr) (ns cs : Nat) (st : List Int) (f : Nat) (hnc : ns ≤ cs ∧ cs ≤ maxLen) (hs : IntRd .u16 w w.heap.size As ns st) (hsr : ∀ z ∈ st, 0 ≤ z ∧ z < 65536) (hf : f < 4294967296) :
    Calls Try.prog 4 #[.slice As ns cs, .int .u32 (f : Int)] w fun e w' => e = .returned (.bool true) ∧ Below w.heap.size w w' :=
  wi_once_walk wiAcceptC wiCheckC w As ns cs st f hnc hs hsr hf
end Go.Proofs.Yteidabgkidablaa
