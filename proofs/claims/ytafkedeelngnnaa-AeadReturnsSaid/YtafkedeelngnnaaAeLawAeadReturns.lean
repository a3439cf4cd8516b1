/-
  AeadReturns returns true for every input, by what the landed functions give.
-/
import Derived.Test.YtafkedeelngnnaaAeSealC
import Derived.Test.YtafkedeelngnnaaAeReturns
namespace Go.Proofs.Ytafkedeelngnnaa
open Go.RowKit

theorem returns_walk_all (w : World) (k nn : List UInt8) (Ap : Option Addr) (np cp : Nat) (lp : List UInt8) (Am : Option Addr) (nm cm : Nat) (lm : List UInt8) (ia iby : Nat) (hk : k.length = 32) (hn : nn.length = 12) (hpc : np ≤ cp) (hpm : cp ≤ maxLen) (hrp : Rd w w.heap.size Ap np lp) (hmc : nm ≤ cm) (hmm : cm ≤ maxLen) (hrm : Rd w w.heap.size Am nm lm) (hia : ia ≤ 255) (hby : iby ≤ 255) :
    Calls Try.prog 4 #[.agg (k.map u8v).toArray, .agg (nn.map u8v).toArray, .slice Ap np cp, .slice Am nm cm, .int .u8 (ia : Int), .int .u8 (iby : Int)] w fun e w' => e = .returned (.bool true) ∧ Below w.heap.size w w' :=
  returns_walk sealC openC w k nn Ap np cp lp Am nm cm lm ia iby hk hn hpc hpm hrp hmc hmm hrm hia hby
end Go.Proofs.Ytafkedeelngnnaa
