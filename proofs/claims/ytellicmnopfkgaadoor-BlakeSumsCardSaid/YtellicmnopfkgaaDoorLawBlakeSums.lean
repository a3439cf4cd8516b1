/-
  BlakeSums returns true for every input, by what the landed functions give.
-/
import Derived.Test.YtellicmnopfkgaaDoorBlSums
import Derived.Test.YtellicmnopfkgaaDoorBlProg
namespace Go.Proofs.YtellicmnopfkgaaDoor
open Go.RowKit

theorem bl_sums_walk_all (w : World) (hlv : LvBlake w) (size : Int) (Ak : Option Addr) (nk ck : Nat) (lk : List UInt8) (Ad : Option Addr) (nd cd : Nat) (ld : List UInt8) (ia : Nat) (hsz : -9223372036854775808 ≤ size ∧ size ≤ 9223372036854775807) (hkc : nk ≤ ck) (hkm : ck ≤ maxLen) (hrk : Rd w w.heap.size Ak nk lk) (hdc : nd ≤ cd) (hdm : cd ≤ maxLen) (hrd : Rd w w.heap.size Ad nd ld) (hia : ia ≤ 255) :
    Calls Tryd.prog 3 #[.int .i64 size, .slice Ak nk ck, .slice Ad nd cd, .int .u8 (ia : Int)] w fun e w' => e = .returned (.bool true) ∧ Below w.heap.size w w' :=
  bl_sums_walk blSumC blHashC w hlv size Ak nk ck lk Ad nd cd ld ia hsz hkc hkm hrk hdc hdm hrd hia
end Go.Proofs.YtellicmnopfkgaaDoor
