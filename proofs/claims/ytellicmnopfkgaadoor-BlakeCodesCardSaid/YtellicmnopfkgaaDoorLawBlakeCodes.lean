/-
  BlakeCodes returns true for every input, by what the landed functions give.
-/
import Derived.Test.YtellicmnopfkgaaDoorBlCodes
import Derived.Test.YtellicmnopfkgaaDoorBlProgC
namespace Go.Proofs.YtellicmnopfkgaaDoor
open Go.RowKit

theorem bl_codes_walk_all (w : World) (hlv : LvBlake w) (Ak : Option Addr) (nk ck : Nat) (lk : List UInt8) (Aa : Option Addr) (na ca : Nat) (la : List UInt8) (Ab : Option Addr) (nb cb : Nat) (lb : List UInt8) (hkc : nk ≤ ck) (hkm : ck ≤ maxLen) (hrk : Rd w w.heap.size Ak nk lk) (hac : na ≤ ca) (ham : ca ≤ maxLen) (hra : Rd w w.heap.size Aa na la) (hbc : nb ≤ cb) (hbm : cb ≤ maxLen) (hrb : Rd w w.heap.size Ab nb lb) :
    Calls Tryd.prog 4 #[.slice Ak nk ck, .slice Aa na ca, .slice Ab nb cb] w fun e w' => e = .returned (.bool true) ∧ Below w.heap.size w w' :=
  bl_codes_walk blHashC blCodeC w hlv Ak nk ck lk Aa na ca la Ab nb cb lb hkc hkm hrk hac ham hra hbc hbm hrb
end Go.Proofs.YtellicmnopfkgaaDoor
