/-
  The mathematics of numbers of five limbs of 26 bits, as the program's Poly1305 keeps them: carries, sums, products and their values modulo 2^130 - 5. No statement is proved here.
-/
import Derived.Test.YthjhohmmdnjpkaaPoMath3
namespace Go.Proofs.Ythjhohmmdnjpkaa
open Go.RowKit

/-- the value of five limbs -/
def val5 (l : List Nat) : Nat := sumTo (fun i => dg l i * 67108864 ^ i) 5
theorem val5_eq (l : List Nat) : val5 l = dg l 0 + dg l 1 * 67108864 + dg l 2 * 4503599627370496 + dg l 3 * 302231454903657293676544 + dg l 4 * 20282409603651670423947251286016 := by
  simp [val5, sumTo]
/-- the first i rounds of a carry: the limbs, and what goes over -/
def cst (l : List Nat) : Nat → List Nat × Nat
  | 0 => (l, 0)
  | i + 1 => ((cst l i).1.set i ((dg (cst l i).1 i + (cst l i).2) % 67108864), (dg (cst l i).1 i + (cst l i).2) / 67108864)
def carryN (l : List Nat) : List Nat := (cst l 5).1.set 0 (dg (cst l 5).1 0 + 5 * (cst l 5).2)
theorem cst_length (l : List Nat) : ∀ j, (cst l j).1.length = l.length
  | 0 => rfl
  | j + 1 => by rw [cst, List.length_set, cst_length]
theorem cst_above (l : List Nat) : ∀ j i, j ≤ i → j ≤ l.length → dg (cst l j).1 i = dg l i
  | 0, _, _, _ => rfl
  | j + 1, i, h, hl => by
    rw [cst, dg_set _ _ _ _ (by rw [cst_length]; omega), if_neg (by omega), cst_above l j i (by omega) (by omega)]
theorem cst_below (l : List Nat) : ∀ j i, i < j → j ≤ l.length → dg (cst l j).1 i < 67108864
  | 0, _, h, _ => absurd h (by omega)
  | j + 1, i, h, hl => by
    rw [cst, dg_set _ _ _ _ (by rw [cst_length]; omega)]
    split
    · exact Nat.mod_lt _ (by omega)
    · exact cst_below l j i (by omega) (by omega)
theorem cst_carry (l : List Nat) (M : Nat) (hM : ∀ i, dg l i ≤ 67108863 * M) : ∀ j, j ≤ l.length → (cst l j).2 ≤ M
  | 0, _ => Nat.zero_le _
  | j + 1, hj => by
    have h1 := cst_carry l M hM j (by omega)
    have h2 := cst_above l j j (Nat.le_refl _) (by omega)
    have h3 := hM j
    show (dg (cst l j).1 j + (cst l j).2) / 67108864 ≤ M
    rw [h2]
    omega
theorem val5_cst (l : List Nat) (hl : l.length = 5) : val5 (cst l 5).1 + (cst l 5).2 * 1361129467683753853853498429727072845824 = val5 l := by
  have e : ∀ j, j < 5 → ∃ s, dg l j + (cst l j).2 = s ∧ dg (cst l 5).1 j = s % 67108864 ∧ (cst l (j + 1)).2 = s / 67108864 := by
    intro j hj
    refine ⟨_, rfl, ?_, ?_⟩
    · have h1 : ∀ k, j < k → k ≤ 5 → dg (cst l k).1 j = (dg l j + (cst l j).2) % 67108864 := by
        intro k
        induction k with
        | zero => intro h; omega
        | succ k ih =>
          intro h hk
          rw [cst, dg_set _ _ _ _ (by rw [cst_length]; omega)]
          by_cases e : j = k
          · subst e; rw [if_pos rfl, cst_above l j j (Nat.le_refl _) (by omega)]
          · rw [if_neg e]; exact ih (by omega) (by omega)
      exact h1 5 hj (by omega)
    · show (dg (cst l j).1 j + (cst l j).2) / 67108864 = _
      rw [cst_above l j j (Nat.le_refl _) (by omega)]
  obtain ⟨s0, a0, b0, c0⟩ := e 0 (by omega)
  obtain ⟨s1, a1, b1, c1⟩ := e 1 (by omega)
  obtain ⟨s2, a2, b2, c2⟩ := e 2 (by omega)
  obtain ⟨s3, a3, b3, c3⟩ := e 3 (by omega)
  obtain ⟨s4, a4, b4, c4⟩ := e 4 (by omega)
  rw [show (cst l 0).2 = 0 from rfl] at a0
  rw [show 0 + 1 = 1 from rfl] at c0
  rw [show 1 + 1 = 2 from rfl] at c1
  rw [show 2 + 1 = 3 from rfl] at c2
  rw [show 3 + 1 = 4 from rfl] at c3
  rw [show 4 + 1 = 5 from rfl] at c4
  rw [val5_eq, val5_eq, b0, b1, b2, b3, b4]
  generalize (cst l 5).2 = u5 at *
  generalize (cst l 4).2 = u4 at *
  generalize (cst l 3).2 = u3 at *
  generalize (cst l 2).2 = u2 at *
  generalize (cst l 1).2 = u1 at *
  generalize dg l 0 = d0 at *
  generalize dg l 1 = d1 at *
  generalize dg l 2 = d2 at *
  generalize dg l 3 = d3 at *
  generalize dg l 4 = d4 at *
  have g0 := Nat.div_add_mod s0 67108864
  have g1 := Nat.div_add_mod s1 67108864
  have g2 := Nat.div_add_mod s2 67108864
  have g3 := Nat.div_add_mod s3 67108864
  have g4 := Nat.div_add_mod s4 67108864
  rw [← c0] at g0
  rw [← c1] at g1
  rw [← c2] at g2
  rw [← c3] at g3
  rw [← c4] at g4
  generalize s0 % 67108864 = r0 at *
  generalize s1 % 67108864 = r1 at *
  generalize s2 % 67108864 = r2 at *
  generalize s3 % 67108864 = r3 at *
  generalize s4 % 67108864 = r4 at *
  clear c0 c1 c2 c3 c4 b0 b1 b2 b3 b4 e
  omega
theorem cst_lt (l : List Nat) (hl : l.length = 5) : val5 (cst l 5).1 < 1361129467683753853853498429727072845824 := by
  rw [val5_eq]
  have h0 := cst_below l 5 0 (by omega) (by omega)
  have h1 := cst_below l 5 1 (by omega) (by omega)
  have h2 := cst_below l 5 2 (by omega) (by omega)
  have h3 := cst_below l 5 3 (by omega) (by omega)
  have h4 := cst_below l 5 4 (by omega) (by omega)
  omega
theorem cst_over (l : List Nat) (hl : l.length = 5) : (cst l 5).2 = val5 l / 1361129467683753853853498429727072845824 ∧ val5 (cst l 5).1 = val5 l % 1361129467683753853853498429727072845824 := by
  have h1 := val5_cst l hl
  have h2 := cst_lt l hl
  omega
theorem carryN_length (l : List Nat) : (carryN l).length = l.length := by rw [carryN, List.length_set, cst_length]
theorem carryN_val (l : List Nat) (hl : l.length = 5) : val5 (carryN l) = val5 l % 1361129467683753853853498429727072845824 + 5 * (val5 l / 1361129467683753853853498429727072845824) := by
  obtain ⟨h1, h2⟩ := cst_over l hl
  have e : val5 (carryN l) = val5 (cst l 5).1 + 5 * (cst l 5).2 := by
    rw [val5_eq, val5_eq, carryN]
    simp only [dg_set _ _ _ _ (show 0 < (cst l 5).1.length by rw [cst_length]; omega)]
    simp
    omega
  rw [e, h1, h2]
theorem carryN_mod (l : List Nat) (hl : l.length = 5) : val5 (carryN l) % primeP = val5 l % primeP := by
  have h := carryN_val l hl
  have h2 := Nat.div_add_mod (val5 l) 1361129467683753853853498429727072845824
  have : val5 l = val5 (carryN l) + val5 l / 1361129467683753853853498429727072845824 * primeP := by
    rw [primeP]; omega
  rw [this, Nat.add_mul_mod_self_right]
theorem carryN_digit (l : List Nat) (hl : l.length = 5) (i : Nat) : dg (carryN l) i ≤ if i = 0 then 67108863 + 5 * (val5 l / 1361129467683753853853498429727072845824) else 67108863 := by
  obtain ⟨h1, _⟩ := cst_over l hl
  rw [carryN, dg_set _ _ _ _ (by rw [cst_length]; omega), h1]
  by_cases h5 : i < 5
  · have := cst_below l 5 i h5 (by omega)
    split
    · subst i; omega
    · omega
  · rw [if_neg (by omega), if_neg (by omega), dg_high _ _ (by rw [cst_length]; omega)]; omega

/-! two words and a top -/
def splitN (a b c : Nat) : List Nat := [a % 67108864, a / 67108864 % 67108864, a / 4503599627370496 + b % 16384 * 4096, b / 16384 % 67108864, b / 1099511627776 + c * 16777216]
theorem three_parts (a m n : Nat) : a = a % m + a / m % n * m + a / (m * n) * (m * n) := by
  have h1 := Nat.div_add_mod a m
  have h2 := Nat.div_add_mod (a / m) n
  rw [Nat.div_div_eq_div_mul] at h2
  generalize a / (m * n) = q at h2 ⊢
  generalize a / m % n = r at h2 ⊢
  have h3 : a / m * m = r * m + q * (m * n) := by
    rw [← h2, Nat.add_mul, Nat.mul_comm m n, ← Nat.mul_assoc, Nat.mul_comm q n]
    omega
  rw [Nat.mul_comm] at h1
  omega
theorem parts_low (a : Nat) : a = a % 67108864 + a / 67108864 % 67108864 * 67108864 + a / 4503599627370496 * 4503599627370496 := by
  have h1 := three_parts a 67108864 67108864
  rwa [show 67108864 * 67108864 = 4503599627370496 by decide] at h1
theorem parts_high (a : Nat) : a = a % 16384 + a / 16384 % 67108864 * 16384 + a / 1099511627776 * 1099511627776 := by
  have h1 := three_parts a 16384 67108864
  rwa [show 16384 * 67108864 = 1099511627776 by decide] at h1
theorem parts_sum (a a0 a1 a2 b b0 b1 b2 c : Nat) (h1 : a = a0 + a1 * 67108864 + a2 * 4503599627370496) (h2 : b = b0 + b1 * 16384 + b2 * 1099511627776) :
    a0 + a1 * 67108864 + (a2 + b0 * 4096) * 4503599627370496 + b1 * 302231454903657293676544 + (b2 + c * 16777216) * 20282409603651670423947251286016 = a + 18446744073709551616 * b + 340282366920938463463374607431768211456 * c := by
  subst h1 h2
  omega
theorem splitN_0 (a b c : Nat) : dg (splitN a b c) 0 = a % 67108864 := by unfold splitN dg; simp only [List.getD_cons_zero]
theorem splitN_1 (a b c : Nat) : dg (splitN a b c) 1 = a / 67108864 % 67108864 := by unfold splitN dg; simp only [List.getD_cons_zero, List.getD_cons_succ]
theorem splitN_2 (a b c : Nat) : dg (splitN a b c) 2 = a / 4503599627370496 + b % 16384 * 4096 := by unfold splitN dg; simp only [List.getD_cons_zero, List.getD_cons_succ]
theorem splitN_3 (a b c : Nat) : dg (splitN a b c) 3 = b / 16384 % 67108864 := by unfold splitN dg; simp only [List.getD_cons_zero, List.getD_cons_succ]
theorem splitN_4 (a b c : Nat) : dg (splitN a b c) 4 = b / 1099511627776 + c * 16777216 := by unfold splitN dg; simp only [List.getD_cons_zero, List.getD_cons_succ]
theorem splitN_val (a b c : Nat) : val5 (splitN a b c) = a + 18446744073709551616 * b + 340282366920938463463374607431768211456 * c := by
  rw [val5_eq, splitN_0, splitN_1, splitN_2, splitN_3, splitN_4]
  have h1 := parts_low a
  have h2 := parts_high b
  exact parts_sum a _ _ _ b _ _ _ c h1 h2
theorem splitN_le (a b c : Nat) (ha : a < 18446744073709551616) (hb : b < 18446744073709551616) (hc : c ≤ 3) : ∀ i, dg (splitN a b c) i ≤ 67108863 := fun i => by
  by_cases h : i < 5
  · have hi : i = 0 ∨ i = 1 ∨ i = 2 ∨ i = 3 ∨ i = 4 := by omega
    rcases hi with rfl | rfl | rfl | rfl | rfl <;> (first | rw [splitN_0] | rw [splitN_1] | rw [splitN_2] | rw [splitN_3] | rw [splitN_4])
    · exact Nat.le_of_lt_succ (Nat.mod_lt _ (by omega))
    · exact Nat.le_of_lt_succ (Nat.mod_lt _ (by omega))
    · have h1 : a / 4503599627370496 < 4096 := Nat.div_lt_of_lt_mul (by omega)
      have h2 := Nat.mod_lt b (show 16384 > 0 by omega)
      omega
    · exact Nat.le_of_lt_succ (Nat.mod_lt _ (by omega))
    · have h1 : b / 1099511627776 < 16777216 := Nat.div_lt_of_lt_mul (by omega)
      omega
  · rw [dg_high _ _ (by simp [splitN]; omega)]; omega
theorem splitN_length (a b c : Nat) : (splitN a b c).length = 5 := by simp [splitN]
/-- the two words of five limbs of 26 bits -/
def joinL (l : List Nat) : Nat := dg l 0 + dg l 1 * 67108864 + dg l 2 % 4096 * 4503599627370496
def joinH (l : List Nat) : Nat := dg l 2 / 4096 + dg l 3 * 16384 + dg l 4 % 16777216 * 1099511627776
theorem join_val (l : List Nat) (h : ∀ i, dg l i ≤ 67108863) : joinL l < 18446744073709551616 ∧ joinH l < 18446744073709551616 ∧ joinL l + 18446744073709551616 * joinH l = val5 l % 340282366920938463463374607431768211456 := by
  have h0 := h 0
  have h1 := h 1
  have h2 := h 2
  have h3 := h 3
  have h4 := h 4
  rw [val5_eq]
  unfold joinL joinH
  have g2 := Nat.div_add_mod (dg l 2) 4096
  have g4 := Nat.div_add_mod (dg l 4) 16777216
  have k2 := Nat.mod_lt (dg l 2) (show 4096 > 0 by omega)
  have k4 := Nat.mod_lt (dg l 4) (show 16777216 > 0 by omega)
  generalize dg l 2 % 4096 = r2 at *
  generalize dg l 2 / 4096 = q2 at *
  generalize dg l 4 % 16777216 = r4 at *
  generalize dg l 4 / 16777216 = q4 at *
  generalize dg l 0 = d0 at *
  generalize dg l 1 = d1 at *
  generalize dg l 2 = d2 at *
  generalize dg l 3 = d3 at *
  generalize dg l 4 = d4 at *
  clear h
  refine ⟨by omega, by omega, ?_⟩
  have e : d0 + d1 * 67108864 + d2 * 4503599627370496 + d3 * 302231454903657293676544 + d4 * 20282409603651670423947251286016 = d0 + d1 * 67108864 + r2 * 4503599627370496 + 18446744073709551616 * (q2 + d3 * 16384 + r4 * 1099511627776) + 340282366920938463463374607431768211456 * q4 := by omega
  rw [e, Nat.add_mul_mod_self_left, Nat.mod_eq_of_lt (by omega)]

/-! sums -/
def addS (x y : List Nat) : Nat → List Nat
  | 0 => x
  | i + 1 => (addS x y i).set i (dg (addS x y i) i + dg y i)
theorem addS_length (x y : List Nat) : ∀ j, (addS x y j).length = x.length
  | 0 => rfl
  | j + 1 => by rw [addS, List.length_set, addS_length]
theorem addS_dg (x y : List Nat) (hx : x.length = 5) : ∀ j i, j ≤ 5 → dg (addS x y j) i = if i < j then dg x i + dg y i else dg x i
  | 0, i, _ => by simp [addS]
  | j + 1, i, h => by
    rw [addS, dg_set _ _ _ _ (by rw [addS_length]; omega), addS_dg x y hx j j (by omega), addS_dg x y hx j i (by omega)]
    by_cases e : i = j
    · subst e; simp
    · rw [if_neg e]
      by_cases h2 : i < j
      · rw [if_pos h2, if_pos (by omega)]
      · rw [if_neg h2, if_neg (by omega)]
theorem addS_val (x y : List Nat) (hx : x.length = 5) : val5 (addS x y 5) = val5 x + val5 y := by
  unfold val5
  rw [← sumTo_add]
  exact sumTo_congr 5 fun i hi => by rw [addS_dg x y hx 5 i (by omega), if_pos hi, Nat.add_mul]

/-! products -/
/-- one term: x_i y_j goes to the limb i + j, or five times to the limb i + j - 5 -/
def term (x y P : List Nat) (i j : Nat) : List Nat :=
  if i + j < 5 then P.set (i + j) (dg P (i + j) + dg x i * dg y j) else P.set (i + j - 5) (dg P (i + j - 5) + 5 * dg x i * dg y j)
def terms (x y P : List Nat) (i : Nat) : Nat → List Nat
  | 0 => P
  | j + 1 => term x y (terms x y P i j) i j
def prod (x y : List Nat) : Nat → List Nat
  | 0 => List.replicate 5 0
  | i + 1 => terms x y (prod x y i) i 5
theorem term_length (x y P : List Nat) (i j : Nat) : (term x y P i j).length = P.length := by
  unfold term; split <;> simp
theorem terms_length (x y P : List Nat) (i : Nat) : ∀ j, (terms x y P i j).length = P.length
  | 0 => rfl
  | j + 1 => by rw [terms, term_length, terms_length]
theorem prod_length (x y : List Nat) : ∀ i, (prod x y i).length = 5
  | 0 => by simp [prod]
  | i + 1 => by rw [prod, terms_length, prod_length]
theorem term_le (x y P : List Nat) (X Y B : Nat) (hx : ∀ i, dg x i ≤ X) (hy : ∀ i, dg y i ≤ Y) (i j : Nat) (hi : i < 5) (hj : j < 5) (hP : P.length = 5) (hB : ∀ k, dg P k ≤ B) : ∀ k, dg (term x y P i j) k ≤ B + 5 * (X * Y) := by
  intro k
  have h1 := Nat.mul_le_mul (hx i) (hy j)
  have h2 := hB k
  unfold term
  split
  · rw [dg_set _ _ _ _ (by omega)]
    split
    · have := hB (i + j); omega
    · omega
  · rw [dg_set _ _ _ _ (by omega)]
    split
    · have := hB (i + j - 5)
      rw [Nat.mul_assoc]
      omega
    · omega
theorem terms_le (x y P : List Nat) (X Y B : Nat) (hx : ∀ i, dg x i ≤ X) (hy : ∀ i, dg y i ≤ Y) (i : Nat) (hi : i < 5) (hP : P.length = 5) (hB : ∀ k, dg P k ≤ B) : ∀ j, j ≤ 5 → ∀ k, dg (terms x y P i j) k ≤ B + j * (5 * (X * Y))
  | 0, _, k => by have := hB k; simpa [terms] using this
  | j + 1, h, k => by
    have := term_le x y (terms x y P i j) X Y _ hx hy i j hi (by omega) (by rw [terms_length, hP]) (terms_le x y P X Y B hx hy i hi hP hB j (by omega)) k
    rw [terms, Nat.add_mul]
    omega
theorem prod_le (x y : List Nat) (X Y : Nat) (hx : ∀ i, dg x i ≤ X) (hy : ∀ i, dg y i ≤ Y) : ∀ i, i ≤ 5 → ∀ k, dg (prod x y i) k ≤ i * (5 * (5 * (X * Y)))
  | 0, _, k => by
    have : dg (prod x y 0) k = 0 := by
      simp only [prod, dg, List.getD, List.getElem?_replicate]
      split <;> simp
    omega
  | i + 1, h, k => by
    have := terms_le x y (prod x y i) X Y _ hx hy i (by omega) (prod_length x y i) (prod_le x y X Y hx hy i (by omega)) 5 (by omega) k
    rw [prod, Nat.add_mul]
    omega
theorem val5_set (l : List Nat) (j x : Nat) (hl : l.length = 5) (hj : j < 5) : val5 (l.set j (dg l j + x)) = val5 l + x * 67108864 ^ j := by
  have h := sumTo_set (fun i => dg l i * 67108864 ^ i) j ((dg l j + x) * 67108864 ^ j) 5 hj
  have e : val5 (l.set j (dg l j + x)) = sumTo (fun i => if i = j then (dg l j + x) * 67108864 ^ j else dg l i * 67108864 ^ i) 5 := by
    unfold val5
    refine sumTo_congr 5 fun i hi => ?_
    rw [dg_set _ _ _ _ (by omega)]
    by_cases e : i = j
    · subst e; simp
    · simp [e]
  have e2 : val5 l = sumTo (fun i => dg l i * 67108864 ^ i) 5 := rfl
  rw [e, e2]
  rw [Nat.add_mul] at h ⊢
  omega
theorem fold_pow (t : Nat) (h : 5 ≤ t) : (67108864 : Nat) ^ t = 67108864 ^ (t - 5) * (primeP + 5) := by
  obtain ⟨s, rfl⟩ : ∃ s, t = s + 5 := ⟨t - 5, by omega⟩
  rw [Nat.add_sub_cancel, Nat.pow_add, show (67108864 : Nat) ^ 5 = primeP + 5 by decide]
theorem term_val (x y P : List Nat) (i j : Nat) (hi : i < 5) (hj : j < 5) (hP : P.length = 5) : val5 (term x y P i j) % primeP = (val5 P + dg x i * 67108864 ^ i * (dg y j * 67108864 ^ j)) % primeP := by
  have e : dg x i * 67108864 ^ i * (dg y j * 67108864 ^ j) = dg x i * dg y j * 67108864 ^ (i + j) := by
    rw [Nat.pow_add]
    simp only [Nat.mul_assoc]
    congr 1
    simp only [← Nat.mul_assoc]
    rw [Nat.mul_comm (67108864 ^ i) (dg y j)]
  rw [e]
  unfold term
  split
  · rw [val5_set P (i + j) _ hP (by omega)]
  · rename_i h
    rw [val5_set P (i + j - 5) _ hP (by omega), fold_pow (i + j) (by omega)]
    have e2 : val5 P + dg x i * dg y j * (67108864 ^ (i + j - 5) * (primeP + 5)) = val5 P + 5 * dg x i * dg y j * 67108864 ^ (i + j - 5) + dg x i * dg y j * 67108864 ^ (i + j - 5) * primeP := by
      rw [Nat.mul_add, Nat.mul_add, Nat.mul_assoc 5, ← Nat.mul_assoc (dg x i * dg y j), ← Nat.mul_assoc (dg x i * dg y j)]
      rw [show 5 * (dg x i * dg y j) * 67108864 ^ (i + j - 5) = dg x i * dg y j * 67108864 ^ (i + j - 5) * 5 by rw [Nat.mul_assoc, Nat.mul_comm]]
      omega
    exact ((congrArg (· % primeP) e2).trans (Nat.add_mul_mod_self_right _ _ _)).symm
theorem terms_val (x y P : List Nat) (i : Nat) (hi : i < 5) (hP : P.length = 5) (j : Nat) (hj : j ≤ 5) : val5 (terms x y P i j) % primeP = (val5 P + dg x i * 67108864 ^ i * sumTo (fun j => dg y j * 67108864 ^ j) j) % primeP := by
  induction j with
  | zero => rw [show terms x y P i 0 = P from rfl, show sumTo (fun j => dg y j * 67108864 ^ j) 0 = 0 from rfl, Nat.mul_zero, Nat.add_zero]
  | succ j ih =>
    have h1 := term_val x y (terms x y P i j) i j hi (by omega) (by rw [terms_length, hP])
    have h2 := ih (by omega)
    rw [show terms x y P i (j + 1) = term x y (terms x y P i j) i j from rfl, h1, show sumTo (fun j => dg y j * 67108864 ^ j) (j + 1) = sumTo (fun j => dg y j * 67108864 ^ j) j + dg y j * 67108864 ^ j from rfl]
    generalize dg y j * 67108864 ^ j = b
    generalize sumTo (fun j => dg y j * 67108864 ^ j) j = c at h2 ⊢
    generalize dg x i * 67108864 ^ i = a at h2 ⊢
    generalize val5 (terms x y P i j) = V at h2 ⊢
    rw [Nat.mul_add, Nat.add_mod, h2, ← Nat.add_mod, Nat.add_assoc]
theorem prod_zero (x y : List Nat) : val5 (prod x y 0) = 0 := by
  rw [val5_eq]
  simp [prod, dg]
theorem prod_val (x y : List Nat) (i : Nat) (hi : i ≤ 5) : val5 (prod x y i) % primeP = (sumTo (fun i => dg x i * 67108864 ^ i) i * val5 y) % primeP := by
  induction i with
  | zero => rw [prod_zero, show sumTo (fun i => dg x i * 67108864 ^ i) 0 = 0 from rfl, Nat.zero_mul]
  | succ i ih =>
    have h1 := terms_val x y (prod x y i) i (by omega) (prod_length x y i) 5 (by omega)
    have h2 := ih (by omega)
    rw [show sumTo (fun j => dg y j * 67108864 ^ j) 5 = val5 y from rfl] at h1
    rw [show prod x y (i + 1) = terms x y (prod x y i) i 5 from rfl, h1, show sumTo (fun i => dg x i * 67108864 ^ i) (i + 1) = sumTo (fun i => dg x i * 67108864 ^ i) i + dg x i * 67108864 ^ i from rfl]
    generalize dg x i * 67108864 ^ i = b
    generalize sumTo (fun i => dg x i * 67108864 ^ i) i = c at h2 ⊢
    generalize val5 (prod x y i) = V at h2 ⊢
    rw [Nat.add_mul, Nat.add_mod, h2, ← Nat.add_mod]
def mulN (x y : List Nat) : List Nat := carryN (carryN (prod x y 5))
theorem mulN_length (x y : List Nat) : (mulN x y).length = 5 := by rw [mulN, carryN_length, carryN_length, prod_length]
theorem mulN_val (x y : List Nat) : val5 (mulN x y) % primeP = val5 x * val5 y % primeP := by
  rw [mulN, carryN_mod _ (by rw [carryN_length, prod_length]), carryN_mod _ (prod_length x y 5), prod_val x y 5 (by omega), show sumTo (fun i => dg x i * 67108864 ^ i) 5 = val5 x from rfl]
/-- limbs of 26 bits, the lowest one with 5 more at most: what multiply returns -/
def tight (l : List Nat) : Prop := l.length = 5 ∧ ∀ i, dg l i ≤ if i = 0 then 67108868 else 67108863
theorem prod_val_lt (x y : List Nat) (hx : ∀ i, dg x i ≤ 268435455) (hy : ∀ i, dg y i ≤ 67108863) : val5 (prod x y 5) < 68719476736 * 1361129467683753853853498429727072845824 := by
  have hp := prod_le x y _ _ hx hy 5 (by omega)
  rw [val5_eq]
  have h0 := hp 0
  have h1 := hp 1
  have h2 := hp 2
  have h3 := hp 3
  have h4 := hp 4
  omega
theorem mulN_tight (x y : List Nat) (hx : ∀ i, dg x i ≤ 268435455) (hy : ∀ i, dg y i ≤ 67108863) : tight (mulN x y) := by
  have hv := prod_val_lt x y hx hy
  have h1 := carryN_val _ (prod_length x y 5)
  have hl : (carryN (prod x y 5)).length = 5 := by rw [carryN_length, prod_length]
  refine ⟨mulN_length x y, fun i => ?_⟩
  have h2 := carryN_digit _ hl i
  have h3 : val5 (carryN (prod x y 5)) / 1361129467683753853853498429727072845824 ≤ 1 := by omega
  unfold mulN
  split
  · rw [if_pos (by assumption)] at h2; omega
  · rw [if_neg (by assumption)] at h2; omega
end Go.Proofs.Ythjhohmmdnjpkaa
