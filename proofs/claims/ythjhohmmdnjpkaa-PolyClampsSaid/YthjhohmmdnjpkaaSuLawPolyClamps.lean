/-
  PolyClamps returns true for every input, by what poly.Sum gives.
-/
import Derived.Test.YthjhohmmdnjpkaaSuSum
import Derived.Test.YthjhohmmdnjpkaaPoClamps
namespace Go.Proofs.Ythjhohmmdnjpkaa
open Go.RowKit

theorem clamps_walk_all (w : World) (k : List UInt8) (A : Option Addr) (len cap : Nat) (l : List UInt8) (noise : Nat) (hk : k.length = 32) (hlc : len ≤ cap) (hcm : cap ≤ maxLen) (hr : Rd w w.heap.size A len l) (hns : noise ≤ 65535) :
    Calls Try.prog 5 #[.agg (k.map u8v).toArray, .slice A len cap, .int .u16 (noise : Int)] w fun e w' => e = .returned (.bool true) ∧ Below w.heap.size w w' := clamps_walk sumC w k A len cap l noise hk hlc hcm hr hns
end Go.Proofs.Ythjhohmmdnjpkaa
