/-
  BlakeLengths returns true for every input, by what the landed functions give.
-/
import Derived.Test.YtellicmnopfkgaaDoorBlLengths
import Derived.Test.YtellicmnopfkgaaDoorBlProgC
namespace Go.Proofs.YtellicmnopfkgaaDoor
open Go.RowKit

theorem bl_lengths_walk_all (w : World) (hlv : LvBlake w) (ia : Nat) (Ak : Option Addr) (nk ck : Nat) (lk : List UInt8) (Ad : Option Addr) (nd cd : Nat) (ld : List UInt8) (hia : ia ≤ 255) (hkc : nk ≤ ck) (hkm : ck ≤ maxLen) (hrk : Rd w w.heap.size Ak nk lk) (hdc : nd ≤ cd) (hdm : cd ≤ maxLen) (hrd : Rd w w.heap.size Ad nd ld) :
    Calls Tryd.prog 6 #[.int .u8 (ia : Int), .slice Ak nk ck, .slice Ad nd cd] w fun e w' => e = .returned (.bool true) ∧ Below w.heap.size w w' :=
  bl_lengths_walk blSumC blHashC blCodeC w hlv ia Ak nk ck lk Ad nd cd ld hia hkc hkm hrk hdc hdm hrd
end Go.Proofs.YtellicmnopfkgaaDoor
