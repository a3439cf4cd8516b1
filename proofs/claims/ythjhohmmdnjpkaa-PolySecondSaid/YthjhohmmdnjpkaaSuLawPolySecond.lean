/-
  PolySecond returns true for every input, by what poly.Sum gives.
-/
import Derived.Test.YthjhohmmdnjpkaaSuSum
import Derived.Test.YthjhohmmdnjpkaaPoSecond
namespace Go.Proofs.Ythjhohmmdnjpkaa
open Go.RowKit

theorem second_walk_all (w : World) (k : List UInt8) (A : Option Addr) (len cap : Nat) (l : List UInt8) (hk : k.length = 32) (hlc : len ≤ cap) (hcm : cap ≤ maxLen) (hr : Rd w w.heap.size A len l) :
    Calls Try.prog 4 #[.agg (k.map u8v).toArray, .slice A len cap] w fun e w' => e = .returned (.bool true) ∧ Below w.heap.size w w' := second_walk sumC w k A len cap l hk hlc hcm hr
end Go.Proofs.Ythjhohmmdnjpkaa
