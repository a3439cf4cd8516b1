/-
  PolySums returns true for every input, by what poly.Sum gives.
-/
import Derived.Test.YthjhohmmdnjpkaaSuSum
import Derived.Test.YthjhohmmdnjpkaaPoSums
namespace Go.Proofs.Ythjhohmmdnjpkaa
open Go.RowKit

theorem sums_walk_all (w : World) (k : List UInt8) (A : Option Addr) (len cap : Nat) (l : List UInt8) (fill : Nat) (hk : k.length = 32) (hlc : len ≤ cap) (hcm : cap ≤ maxLen) (hr : Rd w w.heap.size A len l) (hf : fill ≤ 255) :
    Calls Try.prog 3 #[.agg (k.map u8v).toArray, .slice A len cap, .int .u8 (fill : Int)] w fun e w' => e = .returned (.bool true) ∧ Below w.heap.size w w' := sums_walk sumC w k A len cap l fill hk hlc hcm hr hf
end Go.Proofs.Ythjhohmmdnjpkaa
