/-
  WindowAccepts returns true for every input, by what the landed functions give.
-/
import Derived.Test.YteidabgkidablaaWiAccepts
import Derived.Test.YteidabgkidablaaWiPAccept
import Derived.Test.YteidabgkidablaaWiPCheck
namespace Go.Proofs.Yteidabgkidablaa
open Go.RowKit

theorem wi_accepts_walk_all (w : World) (x : WinM) (c : Nat) (As : Option Addr) (ns cs : Nat) (st : List Int) (f : Nat) (hx : x.ok) (hc : c < 18446744073709551616) (hnc : ns ≤ cs ∧ cs ≤ maxLen) (hs : IntRd .u16 w w.heap.size As ns st) (hsr : ∀ z ∈ st, 0 ≤ z ∧ z < 65536) (hf : f < 18446744073709551616) :
    Calls Try.prog 3 #[.agg x.cells.toArray, .int .u64 (c : Int), .slice As ns cs, .int .u64 (f : Int)] w fun e w' => e = .returned (.bool true) ∧ Below w.heap.size w w' :=
  wi_accepts_walk wiAcceptC wiCheckC w x c As ns cs st f hx hc hnc hs hsr hf
end Go.Proofs.Yteidabgkidablaa
