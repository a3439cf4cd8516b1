/-
  AeadSeals returns true for every input, by what the landed functions give.
-/
import Derived.Test.YtafkedeelngnnaaAeSealC
import Derived.Test.YtafkedeelngnnaaAeSeals
import Derived.Test.YtafkedeelngnnaaChRefXor
import Derived.Test.YtafkedeelngnnaaPoPoly
namespace Go.Proofs.Ytafkedeelngnnaa
open Go.RowKit

theorem seals_walk_all (w : World) (k nn : List UInt8) (Ap : Option Addr) (np cp : Nat) (lp : List UInt8) (Am : Option Addr) (nm cm : Nat) (lm : List UInt8) (As : Option Addr) (ns cs : Nat) (ls : List UInt8) (ia iby : Nat) (hk : k.length = 32) (hn : nn.length = 12) (hpc : np ≤ cp) (hpm : cp ≤ maxLen) (hrp : Rd w w.heap.size Ap np lp) (hmc : nm ≤ cm) (hmm : cm ≤ maxLen) (hrm : Rd w w.heap.size Am nm lm) (hsc : ns ≤ cs) (hsm : cs ≤ maxLen) (hrs : Rd w w.heap.size As ns ls) (hia : ia ≤ 255) (hby : iby ≤ 255) :
    Calls Try.prog 3 #[.agg (k.map u8v).toArray, .agg (nn.map u8v).toArray, .slice Ap np cp, .slice Am nm cm, .slice As ns cs, .int .u8 (ia : Int), .int .u8 (iby : Int)] w fun e w' => e = .returned (.bool true) ∧ Below w.heap.size w w' :=
  seals_walk sealC openC (fun k n hk hn c D m cap l hm w hr => refXor_own k n hk hn c D m cap l hm w hr) (fun k n hk hn c w => refBlock_any k n hk hn c w) (fun k hk D n cap l h1 h2 w hr => refPoly_any k hk D n cap l h1 h2 w hr) w k nn Ap np cp lp Am nm cm lm As ns cs ls ia iby hk hn hpc hpm hrp hmc hmm hrm hsc hsm hrs hia hby
end Go.Proofs.Ytafkedeelngnnaa
