/-
  StagePushes returns true for every input, by what the landed functions give.
-/
import Derived.Test.YtnmjcibhggchkaaStPushes
import Derived.Test.YtnmjcibhggchkaaStPush
import Derived.Test.YtnmjcibhggchkaaStPop
import Derived.Test.YtnmjcibhggchkaaStSize
namespace Go.Proofs.Ytnmjcibhggchkaa
open Go.RowKit

theorem st_pushes_walk_all (w : World) (A : Option Addr) (n c : Nat) (ps : List Part) (cap : Int) (pA : Option Addr) (pn pc : Nat) (pl : List UInt8) (hnc : n ≤ c ∧ c ≤ maxLen) (hr : PkRd w w.heap.size A n ps) (hcap : -9223372036854775808 ≤ cap ∧ cap ≤ 9223372036854775807) (hpn : pn ≤ pc) (hpc : pc ≤ maxLen) (hp : Rd w w.heap.size pA pn pl) :
    Calls Try.prog 3 #[.slice A n c, .int .i64 cap, .slice pA pn pc] w fun e w' => e = .returned (.bool true) ∧ Below w.heap.size w w' :=
  st_pushes_walk stPushC stPopC stSizeC w A n c ps cap pA pn pc pl hnc hr hcap hpn hpc hp
end Go.Proofs.Ytnmjcibhggchkaa
