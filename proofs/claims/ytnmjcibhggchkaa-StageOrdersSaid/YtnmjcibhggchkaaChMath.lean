/-
  The mathematics of ChaCha20: quarter round, double round, core, block and stream over lists of words and bytes; no function of the program is named here.
-/
import Derived.Test.YtnmjcibhggchkaaNum
import Derived.Laws.BitsAllLaws
namespace Go.Proofs.Ytnmjcibhggchkaa
open Go.RowKit

def rotl (x : UInt32) (n : Nat) : UInt32 := x <<< UInt32.ofNat n ||| x >>> UInt32.ofNat (32 - n)
def wd (w : List UInt32) (i : Nat) : UInt32 := w.getD i 0
def addW (w : List UInt32) (i j : Nat) : List UInt32 := w.set i (wd w i + wd w j)
def mixW (w : List UInt32) (i j n : Nat) : List UInt32 := w.set i (rotl (wd w i ^^^ wd w j) n)
def quarterW (w : List UInt32) (a b c d : Nat) : List UInt32 :=
  mixW (addW (mixW (addW (mixW (addW (mixW (addW w a b) d a 16) c d) b c 12) a b) d a 8) c d) b c 7
def doubleW (w : List UInt32) : List UInt32 :=
  quarterW (quarterW (quarterW (quarterW (quarterW (quarterW (quarterW (quarterW w 0 4 8 12) 1 5 9 13) 2 6 10 14) 3 7 11 15) 0 5 10 15) 1 6 11 12) 2 7 8 13) 3 4 9 14
def coreW : Nat → List UInt32 → List UInt32
  | 0, w => w
  | n + 1, w => doubleW (coreW n w)
def wordL (l : List UInt8) (i : Nat) : UInt32 := UInt32.ofNat (numL ((l.drop (4 * i)).take 4))
def stateW (k : List UInt8) (c : UInt32) (n : List UInt8) : List UInt32 :=
  [0x61707865, 0x3320646e, 0x79622d32, 0x6b206574] ++ (List.range 8).map (wordL k) ++ [c] ++ (List.range 3).map (wordL n)
def blockL (k : List UInt8) (c : UInt32) (n : List UInt8) : List UInt8 :=
  ((coreW 10 (stateW k c n)).zipWith (· + ·) (stateW k c n)).flatMap fun x => littleL x.toNat 4
def streamB (k : List UInt8) (c : UInt32) (n : List UInt8) (i : Nat) : UInt8 := (blockL k (c + UInt32.ofNat (i / 64)) n).getD (i % 64) 0
def xorL (k : List UInt8) (c : UInt32) (n d : List UInt8) : List UInt8 := d.mapIdx fun i x => x ^^^ streamB k c n i

theorem addW_length (w : List UInt32) (i j : Nat) : (addW w i j).length = w.length := List.length_set
theorem mixW_length (w : List UInt32) (i j n : Nat) : (mixW w i j n).length = w.length := List.length_set
theorem quarterW_length (w : List UInt32) (a b c d : Nat) : (quarterW w a b c d).length = w.length := by simp only [quarterW, addW_length, mixW_length]
theorem doubleW_length (w : List UInt32) : (doubleW w).length = w.length := by simp only [doubleW, quarterW_length]
theorem coreW_length : ∀ (n : Nat) (w : List UInt32), (coreW n w).length = w.length
  | 0, _ => rfl
  | n + 1, w => (doubleW_length _).trans (coreW_length n w)
theorem stateW_length (k : List UInt8) (c : UInt32) (n : List UInt8) : (stateW k c n).length = 16 := by simp [stateW]
theorem xorL_length (k : List UInt8) (c : UInt32) (n d : List UInt8) : (xorL k c n d).length = d.length := by simp [xorL]
theorem xorL_get (k : List UInt8) (c : UInt32) (n d : List UInt8) (i : Nat) (h : i < d.length) : (xorL k c n d)[i]'(by rw [xorL_length]; exact h) = d[i] ^^^ streamB k c n i := by simp [xorL]
theorem u8_xor_xor (a b : UInt8) : a ^^^ b ^^^ b = a := by
  apply UInt8.toNat.inj
  rw [UInt8.toNat_xor, UInt8.toNat_xor, Nat.xor_assoc, Nat.xor_self, Nat.xor_zero]
/-- twice is once more the data -/
theorem xorL_xorL (k : List UInt8) (c : UInt32) (n d : List UInt8) : xorL k c n (xorL k c n d) = d := by
  apply List.ext_getElem
  · rw [xorL_length, xorL_length]
  · intro i h1 h2
    rw [xorL_get _ _ _ _ _ (by rw [xorL_length]; exact h2), xorL_get _ _ _ _ _ h2, u8_xor_xor]
/-- the beginning of the data -/
theorem xorL_take (k : List UInt8) (c : UInt32) (n d : List UInt8) (m : Nat) : xorL k c n (d.take m) = (xorL k c n d).take m := by
  apply List.ext_getElem
  · rw [xorL_length, List.length_take, List.length_take, xorL_length]
  · intro i h1 h2
    have h3 : i < (d.take m).length := by rw [xorL_length] at h1; exact h1
    rw [xorL_get _ _ _ _ _ h3, List.getElem_take, List.getElem_take, xorL_get _ _ _ _ _ (by rw [List.length_take] at h3; omega)]
/-- behind 64 bytes the next counter -/
theorem xorL_drop (k : List UInt8) (c : UInt32) (n d : List UInt8) : xorL k (c + 1) n (d.drop 64) = (xorL k c n d).drop 64 := by
  apply List.ext_getElem
  · rw [xorL_length, List.length_drop, List.length_drop, xorL_length]
  · intro i h1 h2
    have h3 : i < (d.drop 64).length := by rw [xorL_length] at h1; exact h1
    have h4 : 64 + i < d.length := by rw [List.length_drop] at h3; omega
    have key : streamB k (c + 1) n i = streamB k c n (64 + i) := by
      unfold streamB
      rw [show (64 + i) / 64 = 1 + i / 64 from by omega, show (64 + i) % 64 = i % 64 from by omega, UInt32.ofNat_add, ← UInt32.add_assoc]
      rfl
    rw [xorL_get _ _ _ _ _ h3, List.getElem_drop, List.getElem_drop, xorL_get _ _ _ _ _ h4, key]
theorem exBlock : (blockL ((List.range 32).map UInt8.ofNat) 1 [0, 0, 0, 9, 0, 0, 0, 0x4a, 0, 0, 0, 0]).take 4 = [0x10, 0xf1, 0xe7, 0xe4] ∧ (blockL ((List.range 32).map UInt8.ofNat) 1 [0, 0, 0, 9, 0, 0, 0, 0x4a, 0, 0, 0, 0]).drop 60 = [0xa2, 0x50, 0x3c, 0x4e] := by decide +kernel

/-! the model's sums, exclusive ors and shifts of words -/
theorem u32_add (x y : UInt32) : IntKind.u32.wrap ((x.toNat : Int) + (y.toNat : Int)) = ((x + y).toNat : Int) := by
  rw [UInt32.toNat_add]
  unfold IntKind.wrap
  dsimp only
  have e : (IntKind.u32.signed && decide (((x.toNat : Int) + (y.toNat : Int)) % (2 ^ IntKind.u32.bits : Int) ≥ (2 ^ (IntKind.u32.bits - 1) : Int))) = false := rfl
  rw [e]
  show ((x.toNat : Int) + (y.toNat : Int)) % 4294967296 = (((x.toNat + y.toNat) % 4294967296 : Nat) : Int)
  omega
theorem u32_sum (x y : UInt32) : ((x.toNat : Int) + (y.toNat : Int)) % 4294967296 = ((x + y).toNat : Int) := by
  rw [UInt32.toNat_add]
  omega
theorem u32_xor (x y : UInt32) : bits BinOp.xor IntKind.u32 (x.toNat : Int) (y.toNat : Int) = ((x ^^^ y).toNat : Int) := by
  rw [UInt32.toNat_xor, u32_xor_nat _ _ x.toNat_lt y.toNat_lt]
theorem u32_or (x y : UInt32) : bits BinOp.or IntKind.u32 (x.toNat : Int) (y.toNat : Int) = ((x ||| y).toNat : Int) := by
  rw [UInt32.toNat_or, u32_or_nat _ _ x.toNat_lt y.toNat_lt]
theorem rotl_toNat (x : UInt32) (n : Nat) (h0 : 0 < n) (h : n < 32) : (rotl x n).toNat = (x.toNat * 2 ^ n % 4294967296) ||| (x.toNat / 2 ^ (32 - n)) := by
  unfold rotl
  rw [UInt32.toNat_or, UInt32.toNat_shiftLeft, UInt32.toNat_shiftRight, UInt32.toNat_ofNat', UInt32.toNat_ofNat', Nat.mod_eq_of_lt (show n < 2 ^ 32 by omega), Nat.mod_eq_of_lt (show 32 - n < 2 ^ 32 by omega), Nat.mod_eq_of_lt h, Nat.mod_eq_of_lt (show 32 - n < 32 by omega), Nat.shiftLeft_eq, Nat.shiftRight_eq_div_pow]
theorem u32_rotl (x : UInt32) (n : Nat) (h0 : 0 < n) (h : n < 32) : bits BinOp.or IntKind.u32 ((x.toNat : Int) * 2 ^ n % 4294967296) ((x.toNat : Int) / 2 ^ (32 - n)) = ((rotl x n).toNat : Int) := by
  have hx := x.toNat_lt
  rw [rotl_toNat x n h0 h, ← u32_or_nat _ _ (by omega) (Nat.lt_of_le_of_lt (Nat.div_le_self _ _) (by omega))]
  simp
end Go.Proofs.Ytnmjcibhggchkaa
