/-
  XchachaReturns returns true for every input, by what the landed functions give.
-/
import Derived.Test.YtkbefhmgcodpaaaXcReturns
import Derived.Test.YtkbefhmgcodpaaaXcProg
namespace Go.Proofs.Ytkbefhmgcodpaaa
open Go.RowKit

theorem xc_returns_walk_all (w : World) (k n : List UInt8) (Ap : Option Addr) (np cp : Nat) (lp : List UInt8) (Am : Option Addr) (nm cm : Nat) (lm : List UInt8) (hk : k.length = 32) (hn : n.length = 24) (hpc : np ≤ cp) (hpm : cp ≤ maxLen) (hrp : Rd w w.heap.size Ap np lp) (hmc : nm ≤ cm) (hmm : cm ≤ maxLen) (hrm : Rd w w.heap.size Am nm lm) :
    Calls Try.prog 4 #[.agg (k.map u8v).toArray, .agg (n.map u8v).toArray, .slice Ap np cp, .slice Am nm cm] w fun e w' => e = .returned (.bool true) ∧ Below w.heap.size w w' :=
  xc_returns_walk deriveC xsealC xopenC w k n Ap np cp lp Am nm cm lm hk hn hpc hpm hrp hmc hmm hrm
end Go.Proofs.Ytkbefhmgcodpaaa
