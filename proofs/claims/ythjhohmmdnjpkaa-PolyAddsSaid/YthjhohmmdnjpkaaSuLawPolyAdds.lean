/-
  PolyAdds returns true for every input, by what poly.Sum gives.
-/
import Derived.Test.YthjhohmmdnjpkaaSuSum
import Derived.Test.YthjhohmmdnjpkaaPoAdds
namespace Go.Proofs.Ythjhohmmdnjpkaa
open Go.RowKit

theorem adds_walk_all (w : World) (k : List UInt8) (A : Option Addr) (len cap : Nat) (l : List UInt8) (hk : k.length = 32) (hlc : len ≤ cap) (hcm : cap ≤ maxLen) (hr : Rd w w.heap.size A len l) :
    Calls Try.prog 6 #[.agg (k.map u8v).toArray, .slice A len cap] w fun e w' => e = .returned (.bool true) ∧ Below w.heap.size w w' := adds_walk sumC w k A len cap l hk hlc hcm hr
end Go.Proofs.Ythjhohmmdnjpkaa
