/-
  More of what the laws of layer 3 say, as plain mathematics: the second half is added; the struck bits do not matter.
-/
import Derived.Test.YthjhohmmdnjpkaaPoLaws
namespace Go.Proofs.Ythjhohmmdnjpkaa
open Go.RowKit

/-- the carry into place i of a sum -/
def cy (a s i : Nat) : Nat := (a % 256 ^ i + s % 256 ^ i) / 256 ^ i
theorem cy_zero (a s : Nat) : cy a s 0 = 0 := by simp [cy, Nat.mod_one]
theorem cy_succ (a s i : Nat) : cy a s (i + 1) = (a / 256 ^ i % 256 + s / 256 ^ i % 256 + cy a s i) / 256 := by
  unfold cy
  have hp : 0 < 256 ^ i := Nat.pow_pos (by omega)
  rw [Nat.pow_succ, Nat.mod_mul, Nat.mod_mul, ← Nat.div_div_eq_div_mul]
  congr 1
  rw [show a % 256 ^ i + 256 ^ i * (a / 256 ^ i % 256) + (s % 256 ^ i + 256 ^ i * (s / 256 ^ i % 256)) = (a % 256 ^ i + s % 256 ^ i) + 256 ^ i * (a / 256 ^ i % 256 + s / 256 ^ i % 256) by rw [Nat.mul_add]; omega, Nat.add_mul_div_left _ _ hp]
  omega
theorem cy_digit (a s i : Nat) : (a + s) / 256 ^ i % 256 = (a / 256 ^ i % 256 + s / 256 ^ i % 256 + cy a s i) % 256 := by
  unfold cy
  have hp : 0 < 256 ^ i := Nat.pow_pos (by omega)
  have ea := Nat.div_add_mod a (256 ^ i)
  have es := Nat.div_add_mod s (256 ^ i)
  have e : a + s = (a % 256 ^ i + s % 256 ^ i) + 256 ^ i * (a / 256 ^ i + s / 256 ^ i) := by rw [Nat.mul_add]; omega
  have h : (a + s) / 256 ^ i = (a % 256 ^ i + s % 256 ^ i) / 256 ^ i + (a / 256 ^ i + s / 256 ^ i) := by
    rw [e, Nat.add_mul_div_left _ _ hp]
  rw [h]
  omega
theorem cy_le (a s i : Nat) : cy a s i ≤ 1 := by
  unfold cy
  have hp : 0 < 256 ^ i := Nat.pow_pos (by omega)
  have h1 := Nat.mod_lt a hp
  have h2 := Nat.mod_lt s hp
  have : (a % 256 ^ i + s % 256 ^ i) / 256 ^ i < 2 := by
    rw [Nat.div_lt_iff_lt_mul hp]
    omega
  omega
/-- the bytes from 16 on 0 as far as j -/
def tailRow (k : List UInt8) (j : Nat) : List UInt8 := k.take 16 ++ List.replicate (j - 16) 0 ++ k.drop j
theorem tailRow_length (k : List UInt8) (hk : k.length = 32) (j : Nat) (h1 : 16 ≤ j) (h2 : j ≤ 32) : (tailRow k j).length = 32 := by simp [tailRow, hk]; omega
theorem tailRow_zero (k : List UInt8) : tailRow k 16 = k := by simp [tailRow]
theorem tailRow_set (k : List UInt8) (hk : k.length = 32) (j : Nat) (h1 : 16 ≤ j) (h2 : j < 32) : (tailRow k j).set j 0 = tailRow k (j + 1) := by
  unfold tailRow
  have hl : (k.take 16 ++ List.replicate (j - 16) (0 : UInt8)).length = j := by simp [hk]; omega
  rw [List.set_append_right _ _ (by omega), hl, Nat.sub_self, List.drop_eq_getElem_cons (by omega), List.set_cons_zero, show j + 1 - 16 = (j - 16) + 1 by omega, List.replicate_succ', List.append_assoc, List.append_assoc, List.append_assoc]
  rfl
theorem rN_same (k x : List UInt8) (h : ∀ i, i < 16 → clampD x i = clampD k i) : rN x = rN k := by
  unfold rN rDig
  congr 1
  refine List.map_congr_left fun i hi => ?_
  have hi : i < 17 := List.mem_range.1 hi
  by_cases h16 : i < 16
  · exact h i h16
  · unfold clampD
    rw [if_neg (by omega), if_neg (by omega), if_neg h16, if_neg (by omega), if_neg (by omega), if_neg h16]
theorem tag_tail (k : List UInt8) (hk : k.length = 32) (d : List UInt8) : tagL (tailRow k 32) d = littleL (accI (rN k) d ((d.length + 15) / 16)) 16 := by
  have h1 : rN (tailRow k 32) = rN k := rN_same k _ fun i hi => by
    have e : (tailRow k 32).getD i 0 = k.getD i 0 := by
      unfold tailRow
      rw [List.getD, List.getD, List.append_assoc, List.getElem?_append_left (by rw [List.length_take]; omega), List.getElem?_take, if_pos hi]
    unfold clampD
    rw [e]
  have h2 : sN (tailRow k 32) = 0 := by
    have e : (tailRow k 32).drop 16 = List.replicate 16 0 := by
      unfold tailRow
      rw [List.append_assoc, List.drop_left' (by rw [List.length_take]; omega), List.drop_of_length_le (show k.length ≤ 32 by omega), List.append_nil]
    rw [sN, e]
    rfl
  rw [tagL, tagN, h1, h2, Nat.add_zero]
theorem byte_div (n i : Nat) : ((byteOf n i).toNat : Nat) = n / 256 ^ i % 256 := by rw [byteOf_toNat, pow_256]
theorem sN_digit (k : List UInt8) (hk : k.length = 32) (i : Nat) (hi : i < 16) : sN k / 256 ^ i % 256 = kb k (16 + i) := by
  rw [← byte_div, sN, byteOf_numL _ i (by rw [List.length_take, List.length_drop]; omega)]
  rw [List.getElem_take, List.getElem_drop]
  unfold kb
  simp [List.getD, show 16 + i < k.length by omega]
end Go.Proofs.Ythjhohmmdnjpkaa
