/-
  The mathematics of HMAC with BLAKE2s and of derived keys; no function of the program is named here.
-/
import Derived.Test.YtbochejgjmjieaaDoorBlC
namespace Go.Proofs.YtbochejgjmjieaaDoor
open Go.RowKit

/-- the key as it counts: a long one by its hash value -/
def hkeyB (key : List UInt8) : List UInt8 := if 64 < key.length then hashB 32 [] key else key
theorem hkeyB_length (key : List UInt8) : (hkeyB key).length ≤ 64 := by
  unfold hkeyB
  split
  · rw [hashB_length 32 [] key (by omega)]; omega
  · omega
/-- the key's first m bytes, filled with zero bytes, each combined with x -/
def xpadB (k : List UInt8) (x : UInt8) (m : Nat) : List UInt8 := (List.range m).map fun i => k.getD i 0 ^^^ x
theorem xpadB_length (k : List UInt8) (x : UInt8) (m : Nat) : (xpadB k x m).length = m := by simp [xpadB]
theorem xpadB_succ (k : List UInt8) (x : UInt8) (m : Nat) : xpadB k x (m + 1) = xpadB k x m ++ [k.getD m 0 ^^^ x] := by simp [xpadB, List.range_succ]
def hmacB (key data : List UInt8) : List UInt8 := hashB 32 [] (xpadB (hkeyB key) 0x5c 64 ++ hashB 32 [] (xpadB (hkeyB key) 0x36 64 ++ data))
theorem hmacB_length (key data : List UInt8) : (hmacB key data).length = 32 := hashB_length _ _ _ (by omega)
/-- the derived keys, from the first on; ahead of it nothing -/
def tB (t0 : List UInt8) : Nat → List UInt8
  | 0 => []
  | i + 1 => hmacB t0 (tB t0 i ++ [UInt8.ofNat (i + 1)])
theorem tB_length (t0 : List UInt8) (i : Nat) : (tB t0 (i + 1)).length = 32 := hmacB_length _ _
def expandB (key input : List UInt8) (n : Int) : List (List UInt8) := if n < 1 ∨ 255 < n then [] else (List.range n.toNat).map fun i => tB (hmacB key input) (i + 1)
end Go.Proofs.YtbochejgjmjieaaDoor
