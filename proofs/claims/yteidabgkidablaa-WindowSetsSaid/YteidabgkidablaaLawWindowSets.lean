/-
  WindowSets returns true for every input, by what the landed functions give.
-/
import Derived.Test.YteidabgkidablaaWiSets
import Derived.Test.YteidabgkidablaaWiPAccept
import Derived.Test.YteidabgkidablaaWiPCheck
namespace Go.Proofs.Yteidabgkidablaa
open Go.RowKit

theorem wi_sets_walk_all (w : World) (As : Option Addr) (ns cs : Nat) (st : List UInt8) (f t : Nat) (hnc0 : ns ≤ cs) (hcm0 : cs ≤ maxLen) (hs : Rd w w.heap.size As ns st) (hf : f < 4294967296) (ht : t < 256) :
    Calls Try.prog 5 #[.slice As ns cs, .int .u32 (f : Int), .int .u8 (t : Int)] w fun e w' => e = .returned (.bool true) ∧ Below w.heap.size w w' :=
  wi_sets_walk wiAcceptC wiCheckC w As ns cs st f t hnc0 hcm0 hs hf ht
end Go.Proofs.Yteidabgkidablaa
