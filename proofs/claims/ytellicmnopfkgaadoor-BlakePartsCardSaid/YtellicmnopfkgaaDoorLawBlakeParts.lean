/-
  BlakeParts returns true for every input, by what the landed functions give.
-/
import Derived.Test.YtellicmnopfkgaaDoorBlParts
import Derived.Test.YtellicmnopfkgaaDoorBlProgC
namespace Go.Proofs.YtellicmnopfkgaaDoor
open Go.RowKit

theorem bl_parts_walk_all (w : World) (hlv : LvBlake w) (Ak : Option Addr) (nk ck : Nat) (lk : List UInt8) (Ad : Option Addr) (nd cd : Nat) (ld : List UInt8) (ia ja : Nat) (hkc : nk ≤ ck) (hkm : ck ≤ maxLen) (hrk : Rd w w.heap.size Ak nk lk) (hdc : nd ≤ cd) (hdm : cd ≤ maxLen) (hrd : Rd w w.heap.size Ad nd ld) (hia : ia ≤ 255) (hja : ja ≤ 255) :
    Calls Tryd.prog 5 #[.slice Ak nk ck, .slice Ad nd cd, .int .u8 (ia : Int), .int .u8 (ja : Int)] w fun e w' => e = .returned (.bool true) ∧ Below w.heap.size w w' :=
  bl_parts_walk blHashC blCodeC w hlv Ak nk ck lk Ad nd cd ld ia ja hkc hkm hrk hdc hdm hrd hia hja
end Go.Proofs.YtellicmnopfkgaaDoor
