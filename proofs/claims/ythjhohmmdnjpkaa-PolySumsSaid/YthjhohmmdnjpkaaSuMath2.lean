/-
  The mathematics of Poly1305's key and pieces as the program reads them: masks of words, the number of a piece, the last sum. No statement is proved here.
-/
import Derived.Test.YthjhohmmdnjpkaaSuMath
namespace Go.Proofs.Ythjhohmmdnjpkaa
open Go.RowKit

theorem and_join (b c x y : Nat) (hb : b < 256) (hc : c < 256) : (b + 256 * x) &&& (c + 256 * y) = (b &&& c) + 256 * (x &&& y) := by
  have h1 : ((b + 256 * x) &&& (c + 256 * y)) % 2 ^ 8 = (b + 256 * x) % 2 ^ 8 &&& (c + 256 * y) % 2 ^ 8 := Nat.and_mod_two_pow
  have h2 : ((b + 256 * x) &&& (c + 256 * y)) / 2 ^ 8 = (b + 256 * x) / 2 ^ 8 &&& (c + 256 * y) / 2 ^ 8 := Nat.and_div_two_pow
  rw [show (b + 256 * x) % 2 ^ 8 = b by omega, show (c + 256 * y) % 2 ^ 8 = c by omega] at h1
  rw [show (b + 256 * x) / 2 ^ 8 = x by omega, show (c + 256 * y) / 2 ^ 8 = y by omega] at h2
  generalize (b + 256 * x) &&& (c + 256 * y) = z at *
  omega
theorem numL_and : ∀ l m : List UInt8, l.length = m.length → numL l &&& numL m = numL (l.zipWith (· &&& ·) m)
  | [], [], _ => by simp [numL]
  | [], _ :: _, h => by simp at h
  | _ :: _, [], h => by simp at h
  | b :: l, c :: m, h => by
    rw [numL, numL, and_join _ _ _ _ b.toNat_lt c.toNat_lt, numL_and l m (by simpa using h), List.zipWith_cons_cons, numL, UInt8.toNat_and]
def maskLow : List UInt8 := [255, 255, 255, 15, 252, 255, 255, 15]
def maskHigh : List UInt8 := [252, 255, 255, 15, 252, 255, 255, 15]
theorem maskLow_num : numL maskLow = 1152921487695413247 := by decide
theorem maskHigh_num : numL maskHigh = 1152921487695413244 := by decide
def lowW (k : List UInt8) : Nat := numL (k.take 8)
def highW (k : List UInt8) : Nat := numL ((k.drop 8).take 8)
theorem take8_lt (l : List UInt8) : numL (l.take 8) < 18446744073709551616 := by
  have h := numL_take_lt l 8
  rwa [show 2 ^ (8 * 8) = 18446744073709551616 by decide] at h
theorem rN_words (k : List UInt8) (hk : 16 ≤ k.length) : rN k = (lowW k &&& 1152921487695413247) + 18446744073709551616 * (highW k &&& 1152921487695413244) := by
  have hl1 : (k.take 8).length = 8 := by rw [List.length_take]; omega
  have hl2 : ((k.drop 8).take 8).length = 8 := by rw [List.length_take, List.length_drop]; omega
  rw [← maskLow_num, ← maskHigh_num, lowW, highW, numL_and _ _ (by rw [hl1]; rfl), numL_and _ _ (by rw [hl2]; rfl)]
  have hz : ((k.take 8).zipWith (· &&& ·) maskLow).length = 8 := by rw [List.length_zipWith, hl1]; rfl
  have ha := numL_append ((k.take 8).zipWith (· &&& ·) maskLow) (((k.drop 8).take 8).zipWith (· &&& ·) maskHigh)
  rw [hz, show 256 ^ 8 = 18446744073709551616 by decide] at ha
  rw [← ha, rN]
  refine valN_bytes _ _ (by simp; omega) fun i hi => ?_
  have e : dg (rDig k) i = clampD k i := by simp [dg, rDig, List.getD, hi]
  rw [e]
  have hb : ∀ j, j < 16 → ((k.take 8).zipWith (· &&& ·) maskLow ++ ((k.drop 8).take 8).zipWith (· &&& ·) maskHigh).getD j 0 = (k.getD j 0) &&& ((maskLow ++ maskHigh).getD j 0) := by
    intro j hj
    simp only [List.getD]
    rw [List.getElem?_append, hz]
    have hml : maskLow.length = 8 := rfl
    have hmh : maskHigh.length = 8 := rfl
    by_cases h8 : j < 8
    · rw [if_pos h8, List.getElem?_append_left (by omega), List.getElem?_zipWith, List.getElem?_take, if_pos h8, List.getElem?_eq_getElem (show j < k.length by omega), List.getElem?_eq_getElem (show j < maskLow.length by omega)]
      rfl
    · rw [if_neg h8, List.getElem?_append_right (by omega), hml, List.getElem?_zipWith, List.getElem?_take, if_pos (by omega), List.getElem?_drop, show 8 + (j - 8) = j by omega, List.getElem?_eq_getElem (show j < k.length by omega), List.getElem?_eq_getElem (show j - 8 < maskHigh.length by omega)]
      rfl
  by_cases h16 : i < 16
  · rw [hb i h16, UInt8.toNat_and]
    unfold clampD
    have hlt := (k.getD i 0).toNat_lt
    generalize (k.getD i 0).toNat = b at hlt ⊢
    have h255 : b &&& 255 = b := by
      have := Nat.and_two_pow_sub_one_eq_mod b 8
      rw [show 2 ^ 8 - 1 = 255 by decide] at this
      omega
    have hc : i = 0 ∨ i = 1 ∨ i = 2 ∨ i = 3 ∨ i = 4 ∨ i = 5 ∨ i = 6 ∨ i = 7 ∨ i = 8 ∨ i = 9 ∨ i = 10 ∨ i = 11 ∨ i = 12 ∨ i = 13 ∨ i = 14 ∨ i = 15 := by omega
    rcases hc with rfl | rfl | rfl | rfl | rfl | rfl | rfl | rfl | rfl | rfl | rfl | rfl | rfl | rfl | rfl | rfl <;> simp [maskLow, maskHigh, h255]
  · obtain rfl : i = 16 := by omega
    have : clampD k 16 = 0 := by simp [clampD]
    rw [this, List.getD, List.getElem?_eq_none (by rw [List.length_append, hz, List.length_zipWith, hl2]; exact Nat.le_of_eq rfl)]
    rfl
theorem rN_zero_words (k : List UInt8) : (lowW k &&& 1152921487695413247) < 18446744073709551616 ∧ (highW k &&& 1152921487695413244) < 18446744073709551616 := by
  have h1 := Nat.and_le_right (n := lowW k) (m := 1152921487695413247)
  have h2 := Nat.and_le_right (n := highW k) (m := 1152921487695413244)
  omega
def facN (k : List UInt8) : List Nat := splitN (lowW k &&& 1152921487695413247) (highW k &&& 1152921487695413244) 0
theorem facN_val (k : List UInt8) (hk : 16 ≤ k.length) : val5 (facN k) = rN k := by rw [facN, splitN_val, rN_words k hk]; omega
theorem facN_le (k : List UInt8) : ∀ i, dg (facN k) i ≤ 67108863 := splitN_le _ _ _ (rN_zero_words k).1 (rN_zero_words k).2 (by omega)

/-! pieces -/
def bytesP (p : List UInt8) : List UInt8 := p ++ 1 :: List.replicate (16 - p.length) 0
theorem bytesP_length (p : List UInt8) (h : p.length ≤ 16) : (bytesP p).length = 17 := by simp [bytesP]; omega
theorem numL_zeros : ∀ n, numL (List.replicate n 0) = 0
  | 0 => rfl
  | n + 1 => by rw [List.replicate_succ, numL, numL_zeros n]; rfl
theorem bytesP_num (p : List UInt8) : numL (bytesP p) = numL p + 256 ^ p.length := by
  rw [bytesP, numL_append, numL, numL_zeros]
  simp
def topW (p : List UInt8) : Nat := ((bytesP p).getD 16 0).toNat
def numP (p : List UInt8) : List Nat := splitN (lowW (bytesP p)) (highW (bytesP p)) (topW p)
theorem topW_le (p : List UInt8) (h : p.length ≤ 16) : topW p ≤ 1 := by
  unfold topW bytesP
  simp only [List.getD, List.getElem?_append]
  by_cases e : p.length = 16
  · rw [if_neg (by omega), e]
    simp
  · rw [if_neg (by omega), show 16 - p.length = (15 - p.length) + 1 by omega, List.getElem?_cons_succ, List.getElem?_replicate]
    split <;> simp
theorem numP_val (p : List UInt8) (h : p.length ≤ 16) : val5 (numP p) = numL p + 256 ^ p.length := by
  rw [numP, splitN_val, ← bytesP_num]
  have hl := bytesP_length p h
  have hd : (bytesP p).drop 16 = [(bytesP p).getD 16 0] := by
    apply List.ext_getElem
    · simp [hl]
    · intro i h1 h2
      have : i = 0 := by simpa using h2
      subst this
      simp [hl]
  have e1 : bytesP p = (bytesP p).take 8 ++ (((bytesP p).drop 8).take 8 ++ (bytesP p).drop 16) := by
    rw [← List.drop_drop (i := 8) (j := 8), List.take_append_drop, List.take_append_drop]
  have h1 := numL_append ((bytesP p).take 8) (((bytesP p).drop 8).take 8 ++ (bytesP p).drop 16)
  have h2 := numL_append (((bytesP p).drop 8).take 8) ((bytesP p).drop 16)
  rw [← e1, List.length_take, hl] at h1
  rw [List.length_take, List.length_drop, hl, hd] at h2
  rw [h1, hd, h2]
  unfold lowW highW topW
  rw [numL, numL]
  generalize numL ((bytesP p).take 8) = A
  generalize numL (((bytesP p).drop 8).take 8) = B
  generalize ((bytesP p).getD 16 0).toNat = C
  rw [show min 8 17 = 8 by decide, show min 8 (17 - 8) = 8 by decide, show 256 ^ 8 = 18446744073709551616 by decide]
  omega
theorem numP_le (p : List UInt8) (h : p.length ≤ 16) : ∀ i, dg (numP p) i ≤ 67108863 := splitN_le _ _ _ (take8_lt _) (take8_lt _) (by have := topW_le p h; omega)

/-! the last sum -/
def raised (n : List Nat) : List Nat := n.set 0 (dg n 0 + 5)
theorem tight_lt {n : List Nat} (h : tight n) : val5 n ≤ 1361129467683753853853498429727072845828 := by
  rw [val5_eq]
  have h0 := h.2 0
  have h1 := h.2 1
  have h2 := h.2 2
  have h3 := h.2 3
  have h4 := h.2 4
  simp at h0 h1 h2 h3 h4
  omega
theorem raised_val (n : List Nat) (h : n.length = 5) : val5 (raised n) = val5 n + 5 := by
  have := val5_set n 0 5 h (by omega)
  rw [raised, this, Nat.pow_zero, Nat.mul_one]
theorem raised_length (n : List Nat) : (raised n).length = n.length := by rw [raised, List.length_set]
theorem raised_carry {n : List Nat} (h : tight n) : val5 (carryN (raised n)) = val5 n % primeP + 5 ∧ ∀ i, dg (carryN (raised n)) i ≤ 67108863 := by
  have hlt := tight_lt h
  have hr := raised_val n h.1
  have hl : (raised n).length = 5 := by rw [raised_length, h.1]
  have hc := carryN_val _ hl
  rw [hr] at hc
  have hp : primeP = 1361129467683753853853498429727072845819 := rfl
  have hd := fun i => carryN_digit _ hl i
  rw [hr] at hd
  by_cases h1 : val5 n < primeP
  · have hq : (val5 n + 5) / 1361129467683753853853498429727072845824 = 0 := Nat.div_eq_of_lt (by omega)
    rw [hq] at hc hd
    refine ⟨by rw [hc, Nat.mod_eq_of_lt h1, Nat.mod_eq_of_lt (by omega)], fun i => ?_⟩
    have := hd i
    split at this <;> omega
  · have hq : (val5 n + 5) / 1361129467683753853853498429727072845824 = 1 := by omega
    have hm : (val5 n + 5) % 1361129467683753853853498429727072845824 = val5 n + 5 - 1361129467683753853853498429727072845824 := by omega
    have hmp : val5 n % primeP = val5 n - primeP := by rw [Nat.mod_eq_sub_mod (by omega), Nat.mod_eq_of_lt (by omega)]
    rw [hq, hm] at hc
    have hv : val5 (carryN (raised n)) = val5 n % primeP + 5 := by rw [hc, hmp]; omega
    refine ⟨hv, fun i => ?_⟩
    by_cases e : i = 0
    · subst e
      have h9 : val5 (carryN (raised n)) ≤ 14 := by rw [hv, hmp]; omega
      rw [val5_eq] at h9
      omega
    · have := hd i
      rw [if_neg e] at this
      exact this
theorem byteOf_mod (n m i : Nat) (h : i < m) : byteOf (n % 256 ^ m) i = byteOf n i := by
  unfold byteOf
  rw [← pow_256]
  obtain ⟨d, rfl⟩ : ∃ d, m = i + (1 + d) := ⟨m - i - 1, by omega⟩
  rw [Nat.pow_add, Nat.mod_mul_right_div_self, Nat.pow_add, Nat.pow_one, Nat.mod_mul_right_mod]
theorem byteOf_div (n m i : Nat) : byteOf (n / 256 ^ m) i = byteOf n (m + i) := by
  unfold byteOf
  rw [← pow_256, ← pow_256, Nat.div_div_eq_div_mul, ← Nat.pow_add]
theorem littleL_halves (n a b : Nat) (ha : a = n % 18446744073709551616) (hb : b = n / 18446744073709551616 % 18446744073709551616) : littleL a 8 ++ littleL b 8 = littleL n 16 := by
  rw [show 18446744073709551616 = 256 ^ 8 by decide] at ha hb
  apply List.ext_getElem
  · simp [littleL]
  · intro i h1 h2
    rw [littleL_length] at h2
    rw [littleL_get n 16 i (by rw [littleL_length]; exact h2), List.getElem_append]
    split
    · rename_i h
      rw [littleL_length] at h
      rw [littleL_get, ha, byteOf_mod n 8 i h]
    · rename_i h
      rw [littleL_length] at h
      rw [littleL_get, hb, byteOf_mod _ 8 _ (by rw [littleL_length]; omega), littleL_length, byteOf_div, show 8 + (i - 8) = i by omega]
def keyLow (k : List UInt8) : Nat := numL ((k.drop 16).take 8)
def keyHigh (k : List UInt8) : Nat := numL ((k.drop 24).take 8)
theorem sN_words (k : List UInt8) (hk : k.length = 32) : sN k = keyLow k + 18446744073709551616 * keyHigh k := by
  have e : (k.drop 16).take 16 = (k.drop 16).take 8 ++ (k.drop 24).take 8 := by
    rw [show 16 = 8 + 8 from rfl, List.take_add, List.drop_drop]
  have h := numL_append ((k.drop 16).take 8) ((k.drop 24).take 8)
  rw [List.length_take, List.length_drop, hk, show min 8 (32 - 16) = 8 by decide, show 256 ^ 8 = 18446744073709551616 by decide] at h
  rw [sN, e, h]
  rfl
/-- the four sums of words -/
def fin0 (lo s0 : Nat) : Nat := (lo + s0) % 18446744073709551616
def over0 (lo s0 : Nat) : Nat := (lo + s0) / 18446744073709551616
def fin1 (lo hi s0 s1 : Nat) : Nat := (hi + s1 + over0 lo s0) % 18446744073709551616
def fin2 (lo s0 : Nat) : Nat := (fin0 lo s0 + 18446744073709551616 - 5) % 18446744073709551616
def under2 (lo s0 : Nat) : Nat := if fin0 lo s0 < 5 then 1 else 0
def fin3 (lo hi s0 s1 : Nat) : Nat := (fin1 lo hi s0 s1 + 18446744073709551616 - under2 lo s0) % 18446744073709551616
theorem fin_val (lo hi s0 s1 m : Nat) (_h1 : lo < 18446744073709551616) (_h2 : hi < 18446744073709551616) (_h3 : s0 < 18446744073709551616) (_h4 : s1 < 18446744073709551616) (h : lo + 18446744073709551616 * hi = (m + 5) % 340282366920938463463374607431768211456) :
    fin2 lo s0 + 18446744073709551616 * fin3 lo hi s0 s1 = (m + (s0 + 18446744073709551616 * s1)) % 340282366920938463463374607431768211456 := by
  have e0 : fin0 lo s0 = (lo + s0) % 18446744073709551616 := rfl
  have e1 : over0 lo s0 = (lo + s0) / 18446744073709551616 := rfl
  have e2 : fin1 lo hi s0 s1 = (hi + s1 + over0 lo s0) % 18446744073709551616 := rfl
  have e3 : fin2 lo s0 = (fin0 lo s0 + 18446744073709551616 - 5) % 18446744073709551616 := rfl
  have e5 : fin3 lo hi s0 s1 = (fin1 lo hi s0 s1 + 18446744073709551616 - under2 lo s0) % 18446744073709551616 := rfl
  have e4 : (fin0 lo s0 < 5 ∧ under2 lo s0 = 1) ∨ (5 ≤ fin0 lo s0 ∧ under2 lo s0 = 0) := by
    unfold under2
    by_cases h : fin0 lo s0 < 5
    · rw [if_pos h]; exact .inl ⟨h, rfl⟩
    · rw [if_neg h]; exact .inr ⟨by omega, rfl⟩
  generalize fin3 lo hi s0 s1 = A3 at *
  generalize fin2 lo s0 = A2 at *
  generalize fin1 lo hi s0 s1 = A1 at *
  generalize under2 lo s0 = U at *
  generalize over0 lo s0 = O at *
  generalize fin0 lo s0 = A0 at *
  omega
theorem sum_le (a : List Nat) (p : List UInt8) (ht : tight a) (hp : p.length ≤ 16) : ∀ i, dg (addS a (numP p) 5) i ≤ 268435455 := fun i => by
  rw [addS_dg _ _ ht.1 5 i (by omega)]
  have h1 := ht.2 i
  have h2 := numP_le p hp i
  split <;> (split at h1 <;> omega)
end Go.Proofs.Ythjhohmmdnjpkaa
