/-
  What the laws of layer 3 say of the authenticator, as plain mathematics.
-/
import Derived.Test.YthjhohmmdnjpkaaPoRows
namespace Go.Proofs.Ythjhohmmdnjpkaa
open Go.RowKit

theorem byteOf_numL (l : List UInt8) (j : Nat) (h : j < l.length) : byteOf (numL l) j = l[j] := by
  have h1 := numL_append (l.take j) (l.drop j)
  rw [List.take_append_drop, List.length_take, Nat.min_eq_left (by omega), pow_256] at h1
  have h2 := numL_drop l j h
  have h3 := numL_take_lt l j
  apply UInt8.toNat.inj
  rw [byteOf_toNat, h1, Nat.add_mul_div_left _ _ (Nat.pow_pos (by omega)), Nat.div_eq_of_lt h3, Nat.zero_add, h2]
  have := l[j].toNat_lt
  omega
theorem littleL_numL (l : List UInt8) (n : Nat) (h : l.length = n) : littleL (numL l) n = l := by
  subst h
  refine List.ext_getElem (littleL_length _ _) fun j h1 h2 => ?_
  rw [littleL_get, byteOf_numL l j h2]
theorem accI_zero (d : List UInt8) : ∀ i, accI 0 d i = 0
  | 0 => rfl
  | i + 1 => by rw [accI, Nat.mul_zero, Nat.zero_mod]
theorem sN_half (k : List UInt8) (hk : k.length = 32) : littleL (sN k) 16 = k.drop 16 := by
  have h : ((k.drop 16).take 16) = k.drop 16 := List.take_of_length_le (by rw [List.length_drop]; omega)
  rw [sN, h]
  exact littleL_numL _ 16 (by rw [List.length_drop]; omega)
theorem tag_none (k : List UInt8) (hk : k.length = 32) : tagL k [] = k.drop 16 := by
  show littleL (0 + sN k) 16 = _
  rw [Nat.zero_add, sN_half k hk]
/-- the first j bytes 0 -/
def zeroRow (k : List UInt8) (j : Nat) : List UInt8 := List.replicate j 0 ++ k.drop j
theorem zeroRow_length (k : List UInt8) (j : Nat) (h : j ≤ k.length) : (zeroRow k j).length = k.length := by simp [zeroRow]; omega
theorem zeroRow_zero (k : List UInt8) : zeroRow k 0 = k := by simp [zeroRow]
theorem zeroRow_set (k : List UInt8) (j : Nat) (h : j < k.length) : (zeroRow k j).set j 0 = zeroRow k (j + 1) := by
  unfold zeroRow
  rw [List.set_append_right _ _ (by simp), List.length_replicate, Nat.sub_self, List.drop_eq_getElem_cons h, List.set_cons_zero, List.replicate_succ', List.append_assoc]
  rfl
theorem rN_zero (k : List UInt8) : rN (zeroRow k 16) = 0 := by
  have h : ∀ i, i < 17 → dg (rDig (zeroRow k 16)) i = 0 := fun i hi => by
    have e : dg (rDig (zeroRow k 16)) i = clampD (zeroRow k 16) i := by simp [dg, rDig, List.getD, hi]
    rw [e]
    unfold clampD
    by_cases h16 : i < 16
    · have e0 : ((zeroRow k 16).getD i 0).toNat = 0 := by
        unfold zeroRow
        rw [List.getD, List.getElem?_append_left (by rw [List.length_replicate]; exact h16), List.getElem?_replicate, if_pos h16]
        rfl
      rw [e0]
      simp
    · rw [if_neg (by omega), if_neg (by omega), if_neg h16]
  show sumTo (fun i => dg (rDig (zeroRow k 16)) i * 256 ^ i) 17 = 0
  rw [sumTo_congr (g := fun _ => 0) 17 (fun i hi => by rw [h i hi, Nat.zero_mul]), sumTo_zero]
theorem tag_zero (k : List UInt8) (hk : k.length = 32) (d : List UInt8) : tagL (zeroRow k 16) d = k.drop 16 := by
  rw [tagL, tagN, rN_zero, accI_zero, Nat.zero_add, sN_half _ (by rw [zeroRow_length _ _ (by omega), hk])]
  simp [zeroRow]
end Go.Proofs.Ythjhohmmdnjpkaa
