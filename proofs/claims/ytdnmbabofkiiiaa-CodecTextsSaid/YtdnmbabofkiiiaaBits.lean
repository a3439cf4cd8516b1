/-
  Plain mathematics of a key's bits: the six bits of a place of the text, one by one, and the bytes that the characters' bits make. No statement is proved here.
-/
import Derived.Test.YtdnmbabofkiiiaaB64
namespace Go.Proofs.Ytdnmbabofkiiiaa

/-- bit j of a list of bytes, the most significant one of each byte first -/
def bitK (K : List UInt8) (j : Nat) : Nat := (K.getD (j / 8) 0).toNat / 2 ^ (7 - j % 8) % 2
theorem bitK_lt (K : List UInt8) (j : Nat) : bitK K j < 2 := Nat.mod_lt _ (by omega)
/-- the number of the bits a .. a + m - 1 -/
def bitsN (K : List UInt8) (a : Nat) : Nat → Nat
  | 0 => 0
  | m + 1 => 2 * bitsN K a m + bitK K (a + m)
theorem bitsN_lt (K : List UInt8) (a : Nat) : ∀ m, bitsN K a m < 2 ^ m
  | 0 => by simp [bitsN]
  | m + 1 => by
    have := bitsN_lt K a m
    have hb := bitK_lt K (a + m)
    rw [bitsN, Nat.pow_succ]
    omega
theorem three_get (K : List UInt8) (g : Nat) (h : g * 3 + 3 ≤ K.length) : (K.drop (g * 3)).take 3 = [K.getD (g * 3) 0, K.getD (g * 3 + 1) 0, K.getD (g * 3 + 2) 0] := by
  rw [getD_lt (by omega), getD_lt (by omega), getD_lt (by omega)]
  refine List.ext_getElem (by simp; omega) fun r h1 h2 => ?_
  have h3 : r < 3 := by simpa using h2
  obtain rfl | rfl | rfl : r = 0 ∨ r = 1 ∨ r = 2 := by omega
  all_goals simp
theorem numB_three (a b c : UInt8) : numB [a, b, c] = a.toNat * 65536 + b.toNat * 256 + c.toNat := by
  simp [numB, numL]; omega
theorem six_bits0 (a b c : Nat) (_ha : a < 256) (_hb : b < 256) (_hc : c < 256) : (a * 65536 + b * 256 + c) / 2 ^ (6 * (3 - 0)) % 64 = (2 * (2 * (2 * (2 * (2 * (2 * 0 + a / 2 ^ (7 - 0) % 2) + a / 2 ^ (7 - 1) % 2) + a / 2 ^ (7 - 2) % 2) + a / 2 ^ (7 - 3) % 2) + a / 2 ^ (7 - 4) % 2) + a / 2 ^ (7 - 5) % 2) := by
  simp only [Nat.reduceSub, Nat.reduceMul, Nat.reducePow]
  omega
theorem six_bits1 (a b c : Nat) (_ha : a < 256) (_hb : b < 256) (_hc : c < 256) : (a * 65536 + b * 256 + c) / 2 ^ (6 * (3 - 1)) % 64 = (2 * (2 * (2 * (2 * (2 * (2 * 0 + a / 2 ^ (7 - 6) % 2) + a / 2 ^ (7 - 7) % 2) + b / 2 ^ (7 - 0) % 2) + b / 2 ^ (7 - 1) % 2) + b / 2 ^ (7 - 2) % 2) + b / 2 ^ (7 - 3) % 2) := by
  simp only [Nat.reduceSub, Nat.reduceMul, Nat.reducePow]
  omega
theorem six_bits2 (a b c : Nat) (_ha : a < 256) (_hb : b < 256) (_hc : c < 256) : (a * 65536 + b * 256 + c) / 2 ^ (6 * (3 - 2)) % 64 = (2 * (2 * (2 * (2 * (2 * (2 * 0 + b / 2 ^ (7 - 4) % 2) + b / 2 ^ (7 - 5) % 2) + b / 2 ^ (7 - 6) % 2) + b / 2 ^ (7 - 7) % 2) + c / 2 ^ (7 - 0) % 2) + c / 2 ^ (7 - 1) % 2) := by
  simp only [Nat.reduceSub, Nat.reduceMul, Nat.reducePow]
  omega
theorem six_bits3 (a b c : Nat) (_ha : a < 256) (_hb : b < 256) (_hc : c < 256) : (a * 65536 + b * 256 + c) / 2 ^ (6 * (3 - 3)) % 64 = (2 * (2 * (2 * (2 * (2 * (2 * 0 + c / 2 ^ (7 - 2) % 2) + c / 2 ^ (7 - 3) % 2) + c / 2 ^ (7 - 4) % 2) + c / 2 ^ (7 - 5) % 2) + c / 2 ^ (7 - 6) % 2) + c / 2 ^ (7 - 7) % 2) := by
  simp only [Nat.reduceSub, Nat.reduceMul, Nat.reducePow]
  omega
/-- the six bits of a place are those of its group's number -/
theorem sext_bits (K : List UInt8) (i : Nat) (h : i / 4 * 3 + 3 ≤ K.length) : sext K i = bitsN K (6 * i) 6 := by
  unfold sext
  rw [three_get K (i / 4) h, numB_three]
  have ha := (K.getD (i / 4 * 3) 0).toNat_lt
  have hb := (K.getD (i / 4 * 3 + 1) 0).toNat_lt
  have hc := (K.getD (i / 4 * 3 + 2) 0).toNat_lt
  generalize hA : (K.getD (i / 4 * 3) 0).toNat = a at *
  generalize hB : (K.getD (i / 4 * 3 + 1) 0).toNat = b at *
  generalize hC : (K.getD (i / 4 * 3 + 2) 0).toNat = c at *
  have bit : ∀ m x y, 6 * i + m = 8 * x + y → y < 8 → bitK K (6 * i + m) = (K.getD x 0).toNat / 2 ^ (7 - y) % 2 := by
    intro m x y h1 h2
    unfold bitK
    rw [h1, show (8 * x + y) / 8 = x from by omega, show (8 * x + y) % 8 = y from by omega]
  simp only [bitsN]
  rcases (by omega : i % 4 = 0 ∨ i % 4 = 1 ∨ i % 4 = 2 ∨ i % 4 = 3) with h | h | h | h
  · rw [h, bit 0 (i / 4 * 3) 0 (by omega) (by omega), bit 1 (i / 4 * 3) 1 (by omega) (by omega), bit 2 (i / 4 * 3) 2 (by omega) (by omega), bit 3 (i / 4 * 3) 3 (by omega) (by omega), bit 4 (i / 4 * 3) 4 (by omega) (by omega), bit 5 (i / 4 * 3) 5 (by omega) (by omega), hA]
    exact six_bits0 a b c ha hb hc
  · rw [h, bit 0 (i / 4 * 3) 6 (by omega) (by omega), bit 1 (i / 4 * 3) 7 (by omega) (by omega), bit 2 (i / 4 * 3 + 1) 0 (by omega) (by omega), bit 3 (i / 4 * 3 + 1) 1 (by omega) (by omega), bit 4 (i / 4 * 3 + 1) 2 (by omega) (by omega), bit 5 (i / 4 * 3 + 1) 3 (by omega) (by omega), hA, hB]
    exact six_bits1 a b c ha hb hc
  · rw [h, bit 0 (i / 4 * 3 + 1) 4 (by omega) (by omega), bit 1 (i / 4 * 3 + 1) 5 (by omega) (by omega), bit 2 (i / 4 * 3 + 1) 6 (by omega) (by omega), bit 3 (i / 4 * 3 + 1) 7 (by omega) (by omega), bit 4 (i / 4 * 3 + 2) 0 (by omega) (by omega), bit 5 (i / 4 * 3 + 2) 1 (by omega) (by omega), hB, hC]
    exact six_bits2 a b c ha hb hc
  · rw [h, bit 0 (i / 4 * 3 + 2) 2 (by omega) (by omega), bit 1 (i / 4 * 3 + 2) 3 (by omega) (by omega), bit 2 (i / 4 * 3 + 2) 4 (by omega) (by omega), bit 3 (i / 4 * 3 + 2) 5 (by omega) (by omega), bit 4 (i / 4 * 3 + 2) 6 (by omega) (by omega), bit 5 (i / 4 * 3 + 2) 7 (by omega) (by omega), hC]
    exact six_bits3 a b c ha hb hc
end Go.Proofs.Ytdnmbabofkiiiaa
