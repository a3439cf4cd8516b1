/-
  The struck bits of the key's first half do not matter, as plain mathematics.
-/
import Derived.Test.YthjhohmmdnjpkaaPoLaws2
namespace Go.Proofs.Ythjhohmmdnjpkaa
open Go.RowKit

theorem clamp_hi (b y : Nat) (hy : y % 16 = 0) : (b ^^^ y) &&& 15 = b &&& 15 := by
  have h : y &&& 15 = 0 := by
    have := Nat.and_two_pow_sub_one_eq_mod y 4
    rw [show (2 ^ 4 - 1 : Nat) = 15 from rfl, show (2 ^ 4 : Nat) = 16 from rfl, hy] at this
    exact this
  rw [Nat.and_xor_distrib_right, h, Nat.xor_zero]
theorem clamp_lo (b t : Nat) : (b ^^^ (t &&& 3)) &&& 252 = b &&& 252 := by
  rw [Nat.and_xor_distrib_right, Nat.and_assoc, show (3 &&& 252 : Nat) = 0 from rfl, Nat.and_zero, Nat.xor_zero]
theorem getD_set (k : List UInt8) (j i : Nat) (v : UInt8) (h : j < k.length) : (k.set j v).getD i 0 = if i = j then v else k.getD i 0 := by
  simp only [List.getD, List.getElem?_set]
  by_cases e : j = i
  · subst e; simp [h]
  · rw [if_neg e, if_neg (fun e' => e e'.symm)]
theorem sN_set (k : List UInt8) (j : Nat) (v : UInt8) (hj : j < 16) : sN (k.set j v) = sN k := by
  unfold sN
  rw [List.drop_set_of_lt (by omega)]
theorem tag_hi (k : List UInt8) (hk : k.length = 32) (j : Nat) (hj : j = 3 ∨ j = 7 ∨ j = 11 ∨ j = 15) (y : UInt8) (hy : y.toNat % 16 = 0) (d : List UInt8) : tagL (k.set j (k.getD j 0 ^^^ y)) d = tagL k d := by
  have h1 : rN (k.set j (k.getD j 0 ^^^ y)) = rN k := rN_same k _ fun i _ => by
    unfold clampD
    rw [getD_set k j i _ (by omega)]
    by_cases e : i = j
    · subst e
      rw [if_pos rfl]
      simp only [if_pos hj]
      rw [UInt8.toNat_xor, clamp_hi _ _ hy]
    · rw [if_neg e]
  rw [tagL, tagN, h1, sN_set k j _ (by omega)]
  rfl
theorem tag_lo (k : List UInt8) (hk : k.length = 32) (j : Nat) (hj : j = 4 ∨ j = 8 ∨ j = 12) (y : UInt8) (t : Nat) (hy : y.toNat = t &&& 3) (d : List UInt8) : tagL (k.set j (k.getD j 0 ^^^ y)) d = tagL k d := by
  have h1 : rN (k.set j (k.getD j 0 ^^^ y)) = rN k := rN_same k _ fun i _ => by
    unfold clampD
    rw [getD_set k j i _ (by omega)]
    by_cases e : i = j
    · subst e
      rw [if_pos rfl]
      have hn : ¬ (i = 3 ∨ i = 7 ∨ i = 11 ∨ i = 15) := by omega
      simp only [if_neg hn, if_pos hj]
      rw [UInt8.toNat_xor, hy, clamp_lo]
    · rw [if_neg e]
  rw [tagL, tagN, h1, sN_set k j _ (by omega)]
  rfl
end Go.Proofs.Ythjhohmmdnjpkaa
