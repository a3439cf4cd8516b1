/-
  Plain mathematics of numbers and their bytes, with no program in sight: the bytes of a number, the number of bytes, and that the one gives the other back. No statement is proved here.
-/
import Derived.Below
namespace Go.Proofs.Ytnmjcibhggchkaa

theorem getD_lt {l : List UInt8} {i : Nat} (h : i < l.length) : l.getD i 0 = l[i] := by simp [List.getD, h]

/-- byte i of the number n -/
def byteOf (n i : Nat) : UInt8 := UInt8.ofNat (n / 2 ^ (8 * i) % 256)
theorem byteOf_toNat (n i : Nat) : (byteOf n i).toNat = n / 2 ^ (8 * i) % 256 := by
  unfold byteOf
  rw [UInt8.toNat_ofNat']
  exact Nat.mod_eq_of_lt (by omega)
theorem byteOf_cast (n i : Nat) : ((byteOf n i).toNat : Int) = (n : Int) / 2 ^ (8 * i) % 256 := by
  rw [byteOf_toNat, Int.natCast_emod, Int.natCast_ediv, Int.natCast_pow]; rfl

/-- the k lowest bytes, the least significant one first -/
def littleL (n k : Nat) : List UInt8 := (List.range k).map (byteOf n)
theorem littleL_length (n k : Nat) : (littleL n k).length = k := by simp [littleL]
theorem littleL_succ (n k : Nat) : littleL n (k + 1) = littleL n k ++ [byteOf n k] := by simp [littleL, List.range_succ]
theorem littleL_get (n k j : Nat) (h : j < (littleL n k).length) : (littleL n k)[j] = byteOf n j := by simp [littleL]

/-- a row of k bytes whose first j are those of n, the others 0 -/
def littleRow (n k j : Nat) : List UInt8 := littleL n j ++ List.replicate (k - j) 0
theorem littleRow_zero (n k : Nat) : littleRow n k 0 = List.replicate k 0 := by simp [littleRow, littleL]
theorem littleRow_end (n k : Nat) : littleRow n k k = littleL n k := by simp [littleRow]
theorem littleRow_set (n k j : Nat) (h : j < k) : (littleRow n k j).set j (byteOf n j) = littleRow n k (j + 1) := by
  unfold littleRow
  rw [List.set_append_right _ _ (by rw [littleL_length]; exact Nat.le_refl _), littleL_length, Nat.sub_self, littleL_succ, show k - j = (k - (j + 1)) + 1 from by omega, List.replicate_succ, List.set_cons_zero, List.append_assoc]
  rfl

/-- the number of bytes, the least significant one first -/
def numL : List UInt8 → Nat
  | [] => 0
  | b :: l => b.toNat + 256 * numL l
theorem numL_lt : ∀ l : List UInt8, numL l < 256 ^ l.length
  | [] => by simp [numL]
  | b :: l => by
    have h := numL_lt l
    have hb := b.toNat_lt
    simp only [numL, List.length_cons, Nat.pow_succ]
    omega
theorem numL_append : ∀ l r : List UInt8, numL (l ++ r) = numL l + 256 ^ l.length * numL r
  | [], r => by simp [numL]
  | b :: l, r => by
    simp only [List.cons_append, numL, numL_append l r, List.length_cons, Nat.pow_succ]
    rw [Nat.mul_add, Nat.mul_comm (256 ^ l.length) 256, Nat.mul_assoc]
    omega
theorem pow_256 (j : Nat) : 256 ^ j = 2 ^ (8 * j) := by rw [Nat.pow_mul]
theorem numL_take_succ (l : List UInt8) (j : Nat) (h : j < l.length) : numL (l.take (j + 1)) = numL (l.take j) + 2 ^ (8 * j) * l[j].toNat := by
  rw [List.take_succ_eq_append_getElem h, numL_append, List.length_take, Nat.min_eq_left (by omega), pow_256]
  simp [numL]
theorem numL_take_lt (l : List UInt8) (j : Nat) : numL (l.take j) < 2 ^ (8 * j) := by
  have h := numL_lt (l.take j)
  rw [pow_256] at h
  refine Nat.lt_of_lt_of_le h (Nat.pow_le_pow_right (by omega) ?_)
  have := List.length_take_le j l
  omega
theorem numL_little (n : Nat) : ∀ k, numL (littleL n k) = n % 256 ^ k
  | 0 => by simp [littleL, numL, Nat.mod_one]
  | k + 1 => by
    rw [littleL_succ, numL_append, littleL_length, numL_little n k]
    simp only [numL, byteOf_toNat, Nat.mul_zero, Nat.add_zero]
    rw [← pow_256, Nat.pow_succ, Nat.mod_mul]
theorem numL_reverse_concat (l : List UInt8) (b : UInt8) : numL ((l ++ [b]).reverse) = numL l.reverse * 256 + b.toNat := by
  simp [numL]; omega
/-- the number of bytes, the most significant one first -/
def numB (l : List UInt8) : Nat := numL l.reverse
theorem numB_take_succ (l : List UInt8) (j : Nat) (h : j < l.length) : numB (l.take (j + 1)) = numB (l.take j) * 256 + l[j].toNat := by
  unfold numB
  rw [List.take_succ_eq_append_getElem h, numL_reverse_concat]

/-- 'or' of a number with zeros below and a number that lies there is their sum -/
theorem or_low (a b i : Nat) (h : b < 2 ^ i) : b ||| 2 ^ i * a = b + 2 ^ i * a := by
  rw [Nat.or_comm, ← Nat.two_pow_add_eq_or_of_lt h a, Nat.add_comm]
/-- a list whose first k and last k elements have changed places -/
def revRow (l : List UInt8) (k : Nat) : List UInt8 := (List.range l.length).map fun m => if m < k ∨ l.length - 1 - m < k then l.getD (l.length - 1 - m) 0 else l.getD m 0
theorem revRow_length (l : List UInt8) (k : Nat) : (revRow l k).length = l.length := by simp [revRow]
theorem revRow_get (l : List UInt8) (k m : Nat) (h : m < (revRow l k).length) : (revRow l k)[m] = if m < k ∨ l.length - 1 - m < k then l.getD (l.length - 1 - m) 0 else l.getD m 0 := by simp [revRow]
theorem revRow_zero (l : List UInt8) : revRow l 0 = l := by
  refine List.ext_getElem (revRow_length l 0) fun m h1 h2 => ?_
  rw [revRow_get, if_neg (by omega), getD_lt h2]
theorem revRow_end (l : List UInt8) (k : Nat) (h : l.length ≤ 2 * k + 1) : revRow l k = l.reverse := by
  refine List.ext_getElem (by rw [revRow_length, List.length_reverse]) fun m h1 h2 => ?_
  have hm : m < l.length := by rwa [revRow_length] at h1
  rw [revRow_get, List.getElem_reverse, ← getD_lt (l := l) (by omega)]
  split
  · rfl
  · rw [show l.length - 1 - m = m from by omega]
theorem revRow_step (l : List UInt8) (k : Nat) (h : k < l.length - 1 - k) :
    ((revRow l k).set k ((revRow l k).getD (l.length - 1 - k) 0)).set (l.length - 1 - k) ((revRow l k).getD k 0) = revRow l (k + 1) := by
  have hl := revRow_length l k
  have e1 : (revRow l k).getD (l.length - 1 - k) 0 = l.getD (l.length - 1 - k) 0 := by
    rw [getD_lt (by omega), revRow_get, if_neg (by omega)]
  have e2 : (revRow l k).getD k 0 = l.getD k 0 := by
    rw [getD_lt (by omega), revRow_get, if_neg (by omega)]
  rw [e1, e2]
  refine List.ext_getElem (by simp [revRow_length]) fun m h1 h2 => ?_
  have hm : m < l.length := by rwa [revRow_length] at h2
  rw [revRow_get, List.getElem_set, List.getElem_set, revRow_get]
  by_cases c1 : l.length - 1 - k = m
  · rw [if_pos c1, if_pos (by omega), show l.length - 1 - m = k from by omega]
  · rw [if_neg c1]
    by_cases c2 : k = m
    · rw [if_pos c2, if_pos (by omega), ← c2]
    · rw [if_neg c2]
      by_cases c3 : m < k ∨ l.length - 1 - m < k
      · rw [if_pos c3, if_pos (by omega)]
      · rw [if_neg c3, if_neg (by omega)]

/-- the digit of a number below 16 -/
def hexD (d : Nat) : UInt8 := if d < 10 then UInt8.ofNat (48 + d) else UInt8.ofNat (87 + d)
/-- the text of bytes -/
def hexL : List UInt8 → List UInt8
  | [] => []
  | b :: l => hexD (b.toNat / 16) :: hexD (b.toNat % 16) :: hexL l
theorem hexL_length : ∀ l, (hexL l).length = 2 * l.length
  | [] => rfl
  | b :: l => by simp [hexL, hexL_length l]; omega
theorem hexL_append : ∀ l r, hexL (l ++ r) = hexL l ++ hexL r
  | [], r => rfl
  | b :: l, r => by simp [hexL, hexL_append l r]
theorem hexL_take_succ (l : List UInt8) (j : Nat) (h : j < l.length) : hexL (l.take (j + 1)) = hexL (l.take j) ++ [hexD (l[j].toNat / 16), hexD (l[j].toNat % 16)] := by
  rw [List.take_succ_eq_append_getElem h, hexL_append]; rfl

theorem hexIdx (d : Nat) (h : d < 16) (h' : d < (ByteArray.mk #[48, 49, 50, 51, 52, 53, 54, 55, 56, 57, 97, 98, 99, 100, 101, 102]).size) :
    (ByteArray.mk #[48, 49, 50, 51, 52, 53, 54, 55, 56, 57, 97, 98, 99, 100, 101, 102])[d] = hexD d := by
  have : ∀ d : Fin 16, (ByteArray.mk #[48, 49, 50, 51, 52, 53, 54, 55, 56, 57, 97, 98, 99, 100, 101, 102])[d.val]'(d.isLt) = hexD d.val := by decide
  exact this ⟨d, h⟩
theorem hexIdx' {d : Nat} (k : Nat) (h : d = k ∧ k < 16) (h' : d < (ByteArray.mk #[48, 49, 50, 51, 52, 53, 54, 55, 56, 57, 97, 98, 99, 100, 101, 102]).size) :
    (ByteArray.mk #[48, 49, 50, 51, 52, 53, 54, 55, 56, 57, 97, 98, 99, 100, 101, 102])[d] = hexD k := by
  obtain ⟨rfl, h⟩ := h
  exact hexIdx d h h'

/-- the characters of base64 -/
def b64T : List UInt8 := [65, 66, 67, 68, 69, 70, 71, 72, 73, 74, 75, 76, 77, 78, 79, 80, 81, 82, 83, 84, 85, 86, 87, 88, 89, 90, 97, 98, 99, 100, 101, 102, 103, 104, 105, 106, 107, 108, 109, 110, 111, 112, 113, 114, 115, 116, 117, 118, 119, 120, 121, 122, 48, 49, 50, 51, 52, 53, 54, 55, 56, 57, 43, 47]
def b64D (d : Nat) : UInt8 := b64T.getD d 0
theorem b64Idx {d : Nat} (k : Nat) (h : d = k ∧ k < 64) (h' : d < (ByteArray.mk #[65, 66, 67, 68, 69, 70, 71, 72, 73, 74, 75, 76, 77, 78, 79, 80, 81, 82, 83, 84, 85, 86, 87, 88, 89, 90, 97, 98, 99, 100, 101, 102, 103, 104, 105, 106, 107, 108, 109, 110, 111, 112, 113, 114, 115, 116, 117, 118, 119, 120, 121, 122, 48, 49, 50, 51, 52, 53, 54, 55, 56, 57, 43, 47]).size) :
    (ByteArray.mk #[65, 66, 67, 68, 69, 70, 71, 72, 73, 74, 75, 76, 77, 78, 79, 80, 81, 82, 83, 84, 85, 86, 87, 88, 89, 90, 97, 98, 99, 100, 101, 102, 103, 104, 105, 106, 107, 108, 109, 110, 111, 112, 113, 114, 115, 116, 117, 118, 119, 120, 121, 122, 48, 49, 50, 51, 52, 53, 54, 55, 56, 57, 43, 47])[d] = b64D k := by
  obtain ⟨rfl, h⟩ := h
  have : ∀ d : Fin 64, (ByteArray.mk #[65, 66, 67, 68, 69, 70, 71, 72, 73, 74, 75, 76, 77, 78, 79, 80, 81, 82, 83, 84, 85, 86, 87, 88, 89, 90, 97, 98, 99, 100, 101, 102, 103, 104, 105, 106, 107, 108, 109, 110, 111, 112, 113, 114, 115, 116, 117, 118, 119, 120, 121, 122, 48, 49, 50, 51, 52, 53, 54, 55, 56, 57, 43, 47])[d.val]'(d.isLt) = b64D d.val := by decide
  exact this ⟨d, h⟩
/-- six bits of a list of bytes: place i of its text -/
def sext (f : List UInt8) (i : Nat) : Nat := numB ((f.drop (i / 4 * 3)).take 3) / 2 ^ (6 * (3 - i % 4)) % 64
def chrs (k : List UInt8) (n : Nat) : List UInt8 := (List.range n).map fun i => b64D (sext (k ++ [0]) i)
theorem chrs_length (k : List UInt8) (n : Nat) : (chrs k n).length = n := by simp [chrs]
theorem chrs_succ (k : List UInt8) (n : Nat) : chrs k (n + 1) = chrs k n ++ [b64D (sext (k ++ [0]) n)] := by simp [chrs, List.range_succ]
/-- the text of a key -/
def textL (k : List UInt8) : List UInt8 := chrs k 43 ++ [61]
theorem textL_length (k : List UInt8) : (textL k).length = 44 := by simp [textL, chrs]
theorem chrs_set (k : List UInt8) : (chrs k 44).set 43 61 = textL k := by
  rw [chrs_succ, List.set_append_right _ _ (by rw [chrs_length]; omega), chrs_length]
  rfl

theorem numL_take_mod (l : List UInt8) : numL l % 18446744073709551616 = numL (l.take 8) := by
  have hlt : numL (l.take 8) < 18446744073709551616 := numL_take_lt l 8
  by_cases h : l.length ≤ 8
  · rw [List.take_of_length_le h] at hlt ⊢
    exact Nat.mod_eq_of_lt hlt
  · have h2 := numL_append (l.take 8) (l.drop 8)
    rw [List.take_append_drop, List.length_take, Nat.min_eq_left (by omega)] at h2
    have : (256 : Nat) ^ 8 = 18446744073709551616 := by decide
    rw [this] at h2
    omega
theorem numL_drop (l : List UInt8) (j : Nat) (h : j < l.length) : numL (l.drop j) = l[j].toNat + 256 * numL (l.drop (j + 1)) := by
  rw [List.drop_eq_getElem_cons h]; rfl
end Go.Proofs.Ytnmjcibhggchkaa
