/-
  The mathematics of Poly1305: numbers of seventeen digits, their sums, products and remainders, and the authenticator itself; no function of the program is named here. The mathematics of Poly1305, second half: the remainder, the sum, the product, the authenticator. The mathematics of Poly1305, third part: the least remainder, digits and bytes, the authenticator. No statement is proved here.
-/
import Derived.Test.YtkbefhmgcodpaaaNum
namespace Go.Proofs.Ytkbefhmgcodpaaa
open Go.RowKit

def primeP : Nat := 1361129467683753853853498429727072845819
theorem primeP_eq : 2 ^ 130 = primeP + 5 := by decide
theorem pow_256_16 : (256 : Nat) ^ 16 * 4 = primeP + 5 := by decide
theorem pow_256_17 : (256 : Nat) ^ 17 = 64 * primeP + 320 := by decide

def sumTo (f : Nat → Nat) : Nat → Nat
  | 0 => 0
  | n + 1 => sumTo f n + f n
theorem sumTo_congr {f g : Nat → Nat} : ∀ n, (∀ i, i < n → f i = g i) → sumTo f n = sumTo g n
  | 0, _ => rfl
  | n + 1, h => by rw [sumTo, sumTo, sumTo_congr n (fun i hi => h i (by omega)), h n (by omega)]
theorem sumTo_zero : ∀ n, sumTo (fun _ => 0) n = 0
  | 0 => rfl
  | n + 1 => by rw [sumTo, sumTo_zero n]
theorem sumTo_add (f g : Nat → Nat) : ∀ n, sumTo (fun i => f i + g i) n = sumTo f n + sumTo g n
  | 0 => rfl
  | n + 1 => by rw [sumTo, sumTo, sumTo, sumTo_add f g n]; omega
theorem sumTo_mul (f : Nat → Nat) (c : Nat) : ∀ n, sumTo (fun i => c * f i) n = c * sumTo f n
  | 0 => rfl
  | n + 1 => by rw [sumTo, sumTo, sumTo_mul f c n, Nat.mul_add]
theorem sumTo_set (f : Nat → Nat) (j x : Nat) : ∀ n, j < n → sumTo (fun i => if i = j then x else f i) n + f j = sumTo f n + x
  | 0, h => absurd h (by omega)
  | n + 1, h => by
    rw [sumTo, sumTo]
    by_cases e : j = n
    · subst e
      rw [if_pos rfl, sumTo_congr (g := f) j (fun i hi => if_neg (by omega))]
      omega
    · have := sumTo_set f j x n (by omega)
      rw [if_neg (by omega)]
      omega
theorem sumTo_le {f g : Nat → Nat} : ∀ n, (∀ i, i < n → f i ≤ g i) → sumTo f n ≤ sumTo g n
  | 0, _ => Nat.le_refl _
  | n + 1, h => by
    have h1 := sumTo_le n (fun i hi => h i (by omega))
    have h2 := h n (by omega)
    rw [sumTo, sumTo]
    omega

/-- digit i -/
def dg (l : List Nat) (i : Nat) : Nat := l.getD i 0
theorem dg_set (l : List Nat) (j x i : Nat) (h : j < l.length) : dg (l.set j x) i = if i = j then x else dg l i := by
  unfold dg
  simp only [List.getD, List.getElem?_set]
  by_cases e : j = i
  · subst e
    simp [h]
  · rw [if_neg e, if_neg (fun e' => e e'.symm)]
/-- the number of the first n digits -/
def valTo (l : List Nat) (n : Nat) : Nat := sumTo (fun i => dg l i * 256 ^ i) n
def valN (l : List Nat) : Nat := valTo l 17
theorem valTo_set (l : List Nat) (j x n : Nat) (hl : j < l.length) (hn : j < n) : valTo (l.set j x) n + dg l j * 256 ^ j = valTo l n + x * 256 ^ j := by
  unfold valTo
  rw [← sumTo_set (fun i => dg l i * 256 ^ i) j (x * 256 ^ j) n hn]
  congr 1
  refine sumTo_congr n fun i _ => ?_
  rw [dg_set l j x i hl]
  by_cases e : i = j
  · rw [if_pos e, if_pos e, e]
  · rw [if_neg e, if_neg e]
theorem valTo_lt (l : List Nat) : ∀ n, (∀ i, i < n → dg l i < 256) → valTo l n < 256 ^ n
  | 0, _ => by simp [valTo, sumTo]
  | n + 1, h => by
    have h1 := valTo_lt l n (fun i hi => h i (by omega))
    have h2 := h n (by omega)
    unfold valTo at h1 ⊢
    rw [sumTo, Nat.pow_succ]
    have h3 : dg l n * 256 ^ n ≤ 255 * 256 ^ n := Nat.mul_le_mul_right _ (by omega)
    omega

/-! carrying -/
def pass (l : List Nat) (u : Nat) : Nat → List Nat × Nat
  | 0 => (l, u)
  | j + 1 => ((pass l u j).1.set j (((pass l u j).2 + dg (pass l u j).1 j) % 256), ((pass l u j).2 + dg (pass l u j).1 j) / 256)
theorem pass_length (l : List Nat) (u : Nat) : ∀ j, (pass l u j).1.length = l.length
  | 0 => rfl
  | j + 1 => by rw [pass, List.length_set, pass_length l u j]
theorem pass_above (l : List Nat) (u : Nat) : ∀ j i, j ≤ i → j ≤ l.length → dg (pass l u j).1 i = dg l i
  | 0, _, _, _ => rfl
  | j + 1, i, h, hl => by
    rw [pass, dg_set _ _ _ _ (by rw [pass_length]; omega), if_neg (by omega), pass_above l u j i (by omega) (by omega)]
theorem pass_below (l : List Nat) (u : Nat) : ∀ j i, i < j → j ≤ l.length → dg (pass l u j).1 i < 256
  | 0, _, h, _ => absurd h (by omega)
  | j + 1, i, h, hl => by
    rw [pass, dg_set _ _ _ _ (by rw [pass_length]; omega)]
    by_cases e : i = j
    · rw [if_pos e]; exact Nat.mod_lt _ (by omega)
    · rw [if_neg e]; exact pass_below l u j i (by omega) (by omega)
theorem pass_val (l : List Nat) (u n : Nat) : ∀ j, j ≤ n → j ≤ l.length → valTo (pass l u j).1 n + (pass l u j).2 * 256 ^ j = valTo l n + u
  | 0, _, _ => by simp [pass]
  | j + 1, h, hl => by
    have ih := pass_val l u n j (by omega) (by omega)
    rw [pass]
    have h1 := valTo_set (pass l u j).1 j (((pass l u j).2 + dg (pass l u j).1 j) % 256) n (by rw [pass_length]; omega) (by omega)
    dsimp only
    generalize (pass l u j).2 = v at ih h1 ⊢
    generalize dg (pass l u j).1 j = d at ih h1 ⊢
    have e : (v + d) % 256 * 256 ^ j + (v + d) / 256 * 256 ^ (j + 1) = v * 256 ^ j + d * 256 ^ j := by
      rw [Nat.pow_succ, Nat.mul_comm (256 ^ j) 256, ← Nat.mul_assoc, ← Nat.add_mul, ← Nat.add_mul]
      congr 1
      omega
    omega
/-- the carry stays small -/
theorem pass_carry (l : List Nat) (u M B : Nat) (hM : ∀ i, dg l i ≤ M) (hu : u ≤ B) (hB : M ≤ 255 * B) : ∀ j, j ≤ l.length → (pass l u j).2 ≤ B
  | 0, _ => hu
  | j + 1, h => by
    have ih := pass_carry l u M B hM hu hB j (by omega)
    rw [pass]
    dsimp only
    rw [pass_above l u j j (Nat.le_refl _) (by omega)]
    have := hM j
    omega
theorem pass_end (l : List Nat) (u : Nat) (hl : 16 ≤ l.length) (hd : ∀ i, i < 16 → dg l i < 256) (hu : u ≤ 256 ^ 16) : (pass l u 16).2 ≤ 1 := by
  have h1 := pass_val l u 16 16 (Nat.le_refl _) hl
  have h2 := valTo_lt l 16 hd
  have h3 : (pass l u 16).2 * 256 ^ 16 < 2 * 256 ^ 16 := by omega
  have := Nat.lt_of_mul_lt_mul_right h3
  omega
theorem pass_none (l : List Nat) (hl : 16 ≤ l.length) (hd : ∀ i, i < 16 → dg l i < 256) : (pass l 0 16).2 = 0 := by
  have h1 := pass_val l 0 16 16 (Nat.le_refl _) hl
  have h2 := valTo_lt l 16 hd
  have h3 : (pass l 0 16).2 * 256 ^ 16 < 1 * 256 ^ 16 := by omega
  have := Nat.lt_of_mul_lt_mul_right h3
  omega

/-- one round of the remainder -/
def mid (l : List Nat) : List Nat := (pass l 0 16).1.set 16 (((pass l 0 16).2 + dg (pass l 0 16).1 16) % 4)
def midU (l : List Nat) : Nat := 5 * (((pass l 0 16).2 + dg (pass l 0 16).1 16) / 4)
def redR (l : List Nat) : List Nat := (pass (mid l) (midU l) 16).1.set 16 (dg (pass (mid l) (midU l) 16).1 16 + (pass (mid l) (midU l) 16).2)
def redN (l : List Nat) : List Nat := redR (redR l)
theorem mid_length (l : List Nat) : (mid l).length = l.length := by rw [mid, List.length_set, pass_length]
theorem redR_length (l : List Nat) : (redR l).length = l.length := by rw [redR, List.length_set, pass_length, mid_length]
theorem redN_length (l : List Nat) : (redN l).length = l.length := by rw [redN, redR_length, redR_length]
theorem valN_split (l : List Nat) : valN l = valTo l 16 + dg l 16 * 256 ^ 16 := rfl
theorem redR_val (l : List Nat) (hl : l.length = 17) : valN l = valN (redR l) + ((pass l 0 16).2 + dg (pass l 0 16).1 16) / 4 * primeP := by
  have h1 := pass_val l 0 17 16 (by omega) (by omega)
  have h2 := valTo_set (pass l 0 16).1 16 (((pass l 0 16).2 + dg (pass l 0 16).1 16) % 4) 17 (by rw [pass_length]; omega) (by omega)
  have h3 := pass_val (mid l) (midU l) 17 16 (by omega) (by rw [mid_length]; omega)
  have h4 := valTo_set (pass (mid l) (midU l) 16).1 16 (dg (pass (mid l) (midU l) 16).1 16 + (pass (mid l) (midU l) 16).2) 17 (by rw [pass_length, mid_length]; omega) (by omega)
  have e1 : valTo (mid l) 17 = valTo ((pass l 0 16).1.set 16 (((pass l 0 16).2 + dg (pass l 0 16).1 16) % 4)) 17 := rfl
  have e2 : valN (redR l) = valTo ((pass (mid l) (midU l) 16).1.set 16 (dg (pass (mid l) (midU l) 16).1 16 + (pass (mid l) (midU l) 16).2)) 17 := rfl
  have e3 : midU l = 5 * (((pass l 0 16).2 + dg (pass l 0 16).1 16) / 4) := rfl
  have e4 : valN l = valTo l 17 := rfl
  rw [← e1] at h2
  rw [← e2] at h4
  rw [e4]
  have hp : primeP + 5 = 1361129467683753853853498429727072845824 := by decide
  have hq : (256 : Nat) ^ 16 = 340282366920938463463374607431768211456 := by decide
  rw [hq] at h1 h2 h3 h4
  generalize valTo (mid l) 17 = A at h2 h3
  generalize valTo (pass (mid l) (midU l) 16).1 17 = C at h3 h4
  generalize dg (pass (mid l) (midU l) 16).1 16 = D at h4
  generalize (pass (mid l) (midU l) 16).2 = E at h3 h4
  generalize (pass l 0 16).2 = F at h1 h2 e3 ⊢
  generalize dg (pass l 0 16).1 16 = G at h2 e3 ⊢
  generalize valTo (pass l 0 16).1 17 = I at h1 h2
  generalize valN (redR l) = J at h4 ⊢
  generalize valTo l 17 = V at h1 ⊢
  generalize midU l = U at h3 e3
  have hpp : primeP = 1361129467683753853853498429727072845819 := rfl
  rw [hpp]
  omega
theorem redR_digits (l : List Nat) (hl : l.length = 17) : ∀ i, i < 16 → dg (redR l) i < 256 := fun i hi => by
  rw [redR, dg_set _ _ _ _ (by rw [pass_length, mid_length]; omega), if_neg (by omega)]
  exact pass_below _ _ 16 i hi (by rw [mid_length]; omega)
theorem mid_digits (l : List Nat) (hl : l.length = 17) : ∀ i, i < 16 → dg (mid l) i < 256 := fun i hi => by
  rw [mid, dg_set _ _ _ _ (by rw [pass_length]; omega), if_neg (by omega)]
  exact pass_below _ _ 16 i hi (by omega)
theorem mid_top (l : List Nat) (hl : l.length = 17) : dg (mid l) 16 = ((pass l 0 16).2 + dg l 16) % 4 := by
  rw [mid, dg_set _ _ _ _ (by rw [pass_length]; omega), if_pos rfl, pass_above l 0 16 16 (Nat.le_refl _) (by omega)]
theorem redR_top (l : List Nat) (hl : l.length = 17) : dg (redR l) 16 = ((pass l 0 16).2 + dg l 16) % 4 + (pass (mid l) (midU l) 16).2 := by
  rw [redR, dg_set _ _ _ _ (by rw [pass_length, mid_length]; omega), if_pos rfl, pass_above _ _ 16 16 (Nat.le_refl _) (by rw [mid_length]; omega), mid_top l hl]
theorem midU_eq (l : List Nat) (hl : l.length = 17) : midU l = 5 * (((pass l 0 16).2 + dg l 16) / 4) := by
  rw [midU, pass_above l 0 16 16 (Nat.le_refl _) (by omega)]

/-! the remainder -/
/-- digits that fit -/
def fits (l : List Nat) : Prop := l.length = 17 ∧ ∀ i, dg l i ≤ 400000000
/-- digits below 256, the last one small -/
def tidy (l : List Nat) (t : Nat) : Prop := l.length = 17 ∧ (∀ i, i < 16 → dg l i < 256) ∧ dg l 16 ≤ t
theorem dg_high (l : List Nat) (i : Nat) (h : l.length ≤ i) : dg l i = 0 := by simp [dg, List.getD, h]
theorem tidy.fits {l : List Nat} {t : Nat} (h : tidy l t) (ht : t ≤ 400000000) : fits l := ⟨h.1, fun i => by
  by_cases h1 : i < 16
  · have := h.2.1 i h1; omega
  · by_cases h2 : i = 16
    · subst h2; have := h.2.2; omega
    · rw [dg_high l i (by have := h.1; omega)]; omega⟩
theorem tidy.mono {l : List Nat} {t t' : Nat} (h : tidy l t) (ht : t ≤ t') : tidy l t' := ⟨h.1, h.2.1, Nat.le_trans h.2.2 ht⟩
theorem fits_carry {l : List Nat} (h : fits l) (j : Nat) (hj : j ≤ 17) : (pass l 0 j).2 ≤ 2097152 := pass_carry l 0 400000000 2097152 h.2 (by omega) (by omega) j (by rw [h.1]; exact hj)
theorem fits_midU {l : List Nat} (h : fits l) : midU l ≤ 503000000 := by
  rw [midU_eq l h.1]
  have h1 := fits_carry h 16 (by omega)
  have h2 := h.2 16
  omega
theorem mid_le {l : List Nat} (h : fits l) : ∀ i, dg (mid l) i ≤ 255 := fun i => by
  by_cases h1 : i < 16
  · have := mid_digits l h.1 i h1; omega
  · by_cases h2 : i = 16
    · subst h2; rw [mid_top l h.1]; omega
    · rw [dg_high _ i (by rw [mid_length, h.1]; omega)]; omega
theorem mid_carry {l : List Nat} (h : fits l) (j : Nat) (hj : j ≤ 17) : (pass (mid l) (midU l) j).2 ≤ 503000000 :=
  pass_carry _ _ 255 503000000 (mid_le h) (fits_midU h) (by omega) j (by rw [mid_length, h.1]; exact hj)
theorem redR_tidy {l : List Nat} (h : fits l) : tidy (redR l) 4 := ⟨by rw [redR_length, h.1], redR_digits l h.1, by
  rw [redR_top l h.1]
  have := pass_end (mid l) (midU l) (by rw [mid_length, h.1]; omega) (mid_digits l h.1) (by
    have := fits_midU h
    have hq : (256 : Nat) ^ 16 = 340282366920938463463374607431768211456 := by decide
    omega)
  omega⟩
theorem redR_tidier {l : List Nat} (h : tidy l 4) : tidy (redR l) 3 := by
  have hf := h.fits (by omega)
  refine ⟨by rw [redR_length, h.1], redR_digits l h.1, ?_⟩
  rw [redR_top l h.1, pass_none l (by rw [h.1]; omega) h.2.1, Nat.zero_add]
  have h16 := h.2.2
  by_cases e : dg l 16 = 4
  · have := pass_end (mid l) (midU l) (by rw [mid_length, h.1]; omega) (mid_digits l h.1) (by
      have := fits_midU hf
      have hq : (256 : Nat) ^ 16 = 340282366920938463463374607431768211456 := by decide
      omega)
    rw [e]
    omega
  · have hu : midU l = 0 := by
      rw [midU_eq l h.1, pass_none l (by rw [h.1]; omega) h.2.1]
      omega
    rw [hu, pass_none (mid l) (by rw [mid_length, h.1]; omega) (mid_digits l h.1)]
    omega
theorem redN_tidy {l : List Nat} (h : fits l) : tidy (redN l) 3 := redR_tidier (redR_tidy h)
theorem redN_val {l : List Nat} (h : l.length = 17) : valN (redN l) % primeP = valN l % primeP := by
  rw [redR_val l h, redR_val (redR l) (by rw [redR_length, h]), Nat.add_mul_mod_self_right, Nat.add_mul_mod_self_right]
  rfl

/-! the sum -/
def plusP (a b : List Nat) : Nat → List Nat × Nat
  | 0 => (a, 0)
  | j + 1 => ((plusP a b j).1.set j (((plusP a b j).2 + (dg (plusP a b j).1 j + dg b j)) % 256), ((plusP a b j).2 + (dg (plusP a b j).1 j + dg b j)) / 256)
def plusN (a b : List Nat) : List Nat := (plusP a b 17).1
theorem plusP_length (a b : List Nat) : ∀ j, (plusP a b j).1.length = a.length
  | 0 => rfl
  | j + 1 => by rw [plusP, List.length_set, plusP_length a b j]
theorem plusP_above (a b : List Nat) : ∀ j i, j ≤ i → j ≤ a.length → dg (plusP a b j).1 i = dg a i
  | 0, _, _, _ => rfl
  | j + 1, i, h, hl => by
    rw [plusP, dg_set _ _ _ _ (by rw [plusP_length]; omega), if_neg (by omega), plusP_above a b j i (by omega) (by omega)]
theorem plusP_below (a b : List Nat) : ∀ j i, i < j → j ≤ a.length → dg (plusP a b j).1 i < 256
  | 0, _, h, _ => absurd h (by omega)
  | j + 1, i, h, hl => by
    rw [plusP, dg_set _ _ _ _ (by rw [plusP_length]; omega)]
    by_cases e : i = j
    · rw [if_pos e]; exact Nat.mod_lt _ (by omega)
    · rw [if_neg e]; exact plusP_below a b j i (by omega) (by omega)
theorem plusP_val (a b : List Nat) (n : Nat) : ∀ j, j ≤ n → j ≤ a.length → valTo (plusP a b j).1 n + (plusP a b j).2 * 256 ^ j = valTo a n + valTo b j
  | 0, _, _ => by simp [plusP, valTo, sumTo]
  | j + 1, h, hl => by
    have ih := plusP_val a b n j (by omega) (by omega)
    rw [plusP]
    have h1 := valTo_set (plusP a b j).1 j (((plusP a b j).2 + (dg (plusP a b j).1 j + dg b j)) % 256) n (by rw [plusP_length]; omega) (by omega)
    have h2 : valTo b (j + 1) = valTo b j + dg b j * 256 ^ j := rfl
    dsimp only
    rw [h2]
    generalize (plusP a b j).2 = v at ih h1 ⊢
    generalize dg (plusP a b j).1 j = d at ih h1 ⊢
    generalize dg b j = g at h1 ⊢
    have e : (v + (d + g)) % 256 * 256 ^ j + (v + (d + g)) / 256 * 256 ^ (j + 1) = v * 256 ^ j + d * 256 ^ j + g * 256 ^ j := by
      rw [Nat.pow_succ, Nat.mul_comm (256 ^ j) 256, ← Nat.mul_assoc, ← Nat.add_mul, ← Nat.add_mul, ← Nat.add_mul]
      congr 1
      omega
    omega
theorem plusP_carry (a b : List Nat) (ha : ∀ i, dg a i ≤ 255) (hb : ∀ i, dg b i ≤ 255) : ∀ j, j ≤ a.length → (plusP a b j).2 ≤ 1
  | 0, _ => by simp [plusP]
  | j + 1, h => by
    have ih := plusP_carry a b ha hb j (by omega)
    rw [plusP]
    dsimp only
    rw [plusP_above a b j j (Nat.le_refl _) (by omega)]
    have := ha j
    have := hb j
    omega
theorem plusN_length (a b : List Nat) : (plusN a b).length = a.length := plusP_length a b 17
theorem plusN_digits (a b : List Nat) (ha : a.length = 17) (i : Nat) : dg (plusN a b) i ≤ 255 := by
  by_cases h : i < 17
  · have := plusP_below a b 17 i h (by omega)
    exact Nat.le_of_lt_succ this
  · rw [dg_high _ i (by rw [plusN_length]; omega)]; omega
theorem plusN_val (a b : List Nat) (ha : a.length = 17) : valN (plusN a b) = (valN a + valN b) % 256 ^ 17 := by
  have h1 := plusP_val a b 17 17 (Nat.le_refl _) (by omega)
  have h2 : valN (plusN a b) < 256 ^ 17 := valTo_lt _ 17 (fun i hi => plusP_below a b 17 i hi (by omega))
  have h3 : valN (plusN a b) + (plusP a b 17).2 * 256 ^ 17 = valN a + valN b := h1
  rw [← h3, Nat.add_mul_mod_self_right, Nat.mod_eq_of_lt h2]

/-! the product -/
def rotB (b : List Nat) (j i : Nat) : Nat := if j ≤ i then dg b (i - j) else 320 * dg b (i + 17 - j)
def convI (a b : List Nat) (i : Nat) : Nat → Nat := sumTo (fun j => dg a j * rotB b j i)
def convN (a b : List Nat) : List Nat := (List.range 17).map fun i => convI a b i 17
def timesN (a b : List Nat) : List Nat := redN (convN a b)
theorem convN_length (a b : List Nat) : (convN a b).length = 17 := by simp [convN]
theorem convN_dg (a b : List Nat) (i : Nat) (h : i < 17) : dg (convN a b) i = convI a b i 17 := by simp [dg, convN, List.getD, h]
theorem convI_le (a b : List Nat) (ha : ∀ i, dg a i ≤ 255) (hb : ∀ i, dg b i ≤ 255) (i : Nat) : ∀ n, convI a b i n ≤ 20808000 * n
  | 0 => Nat.le_refl _
  | n + 1 => by
    have ih := convI_le a b ha hb i n
    have h1 : rotB b n i ≤ 81600 := by
      unfold rotB
      split
      · have := hb (i - n); omega
      · have := hb (i + 17 - n); omega
    have h2 := Nat.mul_le_mul (ha n) h1
    unfold convI at ih ⊢
    rw [sumTo]
    omega
theorem convN_fits (a b : List Nat) (ha : ∀ i, dg a i ≤ 255) (hb : ∀ i, dg b i ≤ 255) : fits (convN a b) := ⟨convN_length a b, fun i => by
  by_cases h : i < 17
  · rw [convN_dg a b i h]
    have := convI_le a b ha hb i 17
    omega
  · rw [dg_high _ i (by rw [convN_length]; omega)]; omega⟩
theorem sumTo_first (f : Nat → Nat) : ∀ n, sumTo f (n + 1) = f 0 + sumTo (fun i => f (i + 1)) n
  | 0 => by simp [sumTo]
  | n + 1 => by rw [sumTo, sumTo_first f n, sumTo]; omega
theorem sumTo_swap (f : Nat → Nat → Nat) (m : Nat) : ∀ n, sumTo (fun i => sumTo (f i) m) n = sumTo (fun j => sumTo (fun i => f i j) n) m
  | 0 => by
    rw [sumTo]
    exact (sumTo_zero m).symm
  | n + 1 => by
    rw [sumTo, sumTo_swap f m n, ← sumTo_add]
    exact sumTo_congr m fun j _ => rfl
/-- the value of b, turned j times -/
def turn (b : List Nat) (j : Nat) : Nat := sumTo (fun i => rotB b j i * 256 ^ i) 17
theorem turn_zero (b : List Nat) : turn b 0 = valN b := sumTo_congr 17 fun i _ => by rw [rotB, if_pos (Nat.zero_le _), Nat.sub_zero]
theorem turn_succ (b : List Nat) (j : Nat) (hj : j ≤ 16) : 256 * turn b j = turn b (j + 1) + 64 * dg b (16 - j) * primeP := by
  unfold turn
  rw [sumTo_first (fun i => rotB b (j + 1) i * 256 ^ i) 16, sumTo, Nat.mul_add, ← sumTo_mul]
  have e1 : sumTo (fun i => 256 * (rotB b j i * 256 ^ i)) 16 = sumTo (fun i => rotB b (j + 1) (i + 1) * 256 ^ (i + 1)) 16 := sumTo_congr 16 fun i _ => by
    have : rotB b (j + 1) (i + 1) = rotB b j i := by
      unfold rotB
      by_cases h : j ≤ i
      · rw [if_pos h, if_pos (by omega), show i + 1 - (j + 1) = i - j by omega]
      · rw [if_neg h, if_neg (by omega), show i + 1 + 17 - (j + 1) = i + 17 - j by omega]
    rw [this, Nat.pow_succ, Nat.mul_comm (256 ^ i) 256, ← Nat.mul_assoc, ← Nat.mul_assoc, Nat.mul_comm 256]
  rw [e1]
  have e2 : rotB b j 16 = dg b (16 - j) := by rw [rotB, if_pos hj]
  have e3 : rotB b (j + 1) 0 = 320 * dg b (16 - j) := by rw [rotB, if_neg (by omega), show 0 + 17 - (j + 1) = 16 - j by omega]
  rw [e2, e3]
  generalize sumTo (fun i => rotB b (j + 1) (i + 1) * 256 ^ (i + 1)) 16 = s
  generalize dg b (16 - j) = d
  have hp : primeP = 1361129467683753853853498429727072845819 := rfl
  have hq : (256 : Nat) ^ 16 = 340282366920938463463374607431768211456 := by decide
  rw [hp, hq, Nat.pow_zero]
  omega
theorem turn_mod (b : List Nat) (j : Nat) (h : j ≤ 17) : ∃ q, 256 ^ j * valN b = turn b j + q * primeP := by
  induction j with
  | zero => exact ⟨0, by rw [turn_zero, Nat.pow_zero, Nat.one_mul, Nat.zero_mul, Nat.add_zero]⟩
  | succ j ih =>
    obtain ⟨q, hq⟩ := ih (by omega)
    have hs := turn_succ b j (by omega)
    refine ⟨64 * dg b (16 - j) + 256 * q, ?_⟩
    have e : 256 ^ (j + 1) * valN b = 256 * (256 ^ j * valN b) := by rw [Nat.pow_succ, Nat.mul_comm (256 ^ j) 256, Nat.mul_assoc]
    rw [e, hq, Nat.mul_add, hs, Nat.add_mul, Nat.mul_assoc 256 q]
    generalize 64 * dg b (16 - j) * primeP = x
    generalize 256 * (q * primeP) = y
    omega
theorem convN_val (a b : List Nat) : ∃ q, valN a * valN b = valN (convN a b) + q * primeP := by
  have h1 : valN (convN a b) = sumTo (fun j => dg a j * turn b j) 17 := by
    have : valN (convN a b) = sumTo (fun i => sumTo (fun j => dg a j * rotB b j i * 256 ^ i) 17) 17 := sumTo_congr 17 fun i hi => by
      rw [convN_dg a b i hi, convI, Nat.mul_comm, ← sumTo_mul]
      exact sumTo_congr 17 fun j _ => by rw [Nat.mul_comm]
    rw [this, sumTo_swap]
    refine sumTo_congr 17 fun j _ => ?_
    unfold turn
    rw [← sumTo_mul]
    exact sumTo_congr 17 fun i _ => by rw [Nat.mul_assoc]
  have h2 : ∀ n, n ≤ 17 → ∃ q, sumTo (fun j => dg a j * 256 ^ j) n * valN b = sumTo (fun j => dg a j * turn b j) n + q * primeP := by
    intro n
    induction n with
    | zero => exact fun _ => ⟨0, by simp [sumTo]⟩
    | succ n ih =>
      intro hn
      obtain ⟨q, hq⟩ := ih (by omega)
      obtain ⟨t, ht⟩ := turn_mod b n (by omega)
      refine ⟨q + dg a n * t, ?_⟩
      rw [sumTo, sumTo, Nat.add_mul, hq, Nat.mul_assoc, ht, Nat.mul_add, Nat.add_mul, Nat.mul_assoc]
      omega
  obtain ⟨q, hq⟩ := h2 17 (by omega)
  exact ⟨q, by rw [h1]; exact hq⟩
theorem timesN_val (a b : List Nat) : valN (timesN a b) % primeP = (valN a * valN b) % primeP := by
  obtain ⟨q, hq⟩ := convN_val a b
  rw [hq, Nat.add_mul_mod_self_right]
  exact redN_val (convN_length a b)
theorem timesN_tidy (a b : List Nat) (ha : ∀ i, dg a i ≤ 255) (hb : ∀ i, dg b i ≤ 255) : tidy (timesN a b) 3 := redN_tidy (convN_fits a b ha hb)

theorem valTo_more (l : List Nat) (m : Nat) : ∀ d, ∃ R, valTo l (m + d) = valTo l m + R * 256 ^ m
  | 0 => ⟨0, by simp⟩
  | d + 1 => by
    obtain ⟨R, h⟩ := valTo_more l m d
    refine ⟨R + dg l (m + d) * 256 ^ d, ?_⟩
    have e : valTo l (m + (d + 1)) = valTo l (m + d) + dg l (m + d) * 256 ^ (m + d) := rfl
    rw [e, h, Nat.add_mul, Nat.pow_add, Nat.mul_assoc, Nat.mul_comm (256 ^ d) (256 ^ m)]
    generalize R * 256 ^ m = x
    omega
theorem dg_of_val (l : List Nat) (hd : ∀ i, i < 17 → dg l i < 256) (j : Nat) (hj : j < 17) : dg l j = valN l / 256 ^ j % 256 := by
  obtain ⟨R, h⟩ := valTo_more l (j + 1) (16 - j)
  have e : valN l = valTo l (j + 1 + (16 - j)) := by rw [show j + 1 + (16 - j) = 17 by omega]; rfl
  have h1 : valTo l (j + 1) = valTo l j + dg l j * 256 ^ j := rfl
  have h2 := valTo_lt l j (fun i hi => hd i (by omega))
  have h3 := hd j hj
  have hpos : 0 < 256 ^ j := Nat.pow_pos (by omega)
  have e5 : valTo l j + dg l j * 256 ^ j + R * (256 ^ j * 256) = valTo l j + 256 ^ j * (dg l j + R * 256) := by
    rw [Nat.mul_add, Nat.mul_comm (256 ^ j) (dg l j), Nat.mul_left_comm R (256 ^ j) 256, Nat.add_assoc]
  rw [e, h, h1, Nat.pow_succ, e5, Nat.add_mul_div_left _ _ hpos, Nat.div_eq_of_lt h2, Nat.zero_add, Nat.add_mul_mod_self_right, Nat.mod_eq_of_lt h3]
theorem dg_top (l : List Nat) (hd : ∀ i, i < 16 → dg l i < 256) : dg l 16 = valN l / 256 ^ 16 := by
  have h2 := valTo_lt l 16 hd
  rw [valN_split, Nat.mul_comm, Nat.add_mul_div_left _ _ (by decide), Nat.div_eq_of_lt h2, Nat.zero_add]
theorem tidy_lt {l : List Nat} {t : Nat} (h : tidy l t) : valN l < (t + 1) * 256 ^ 16 := by
  have h1 := valTo_lt l 16 h.2.1
  have h2 : dg l 16 * 256 ^ 16 ≤ t * 256 ^ 16 := Nat.mul_le_mul_right _ h.2.2
  rw [valN_split, Nat.add_mul]
  omega
theorem tidy_le {l : List Nat} {t : Nat} (h : tidy l t) (ht : t ≤ 255) : ∀ i, dg l i ≤ 255 := fun i => by
  by_cases h1 : i < 16
  · have := h.2.1 i h1; omega
  · by_cases h2 : i = 16
    · subst h2; have := h.2.2; omega
    · rw [dg_high l i (by have := h.1; omega)]; omega

/-! the least remainder -/
def minusN : List Nat := [5, 0, 0, 0, 0, 0, 0, 0, 0, 0, 0, 0, 0, 0, 0, 0, 252]
theorem minusN_val : valN minusN = 5 + 252 * 256 ^ 16 := by decide
def lessN (r : List Nat) : List Nat := plusN r minusN
def leastN (l : List Nat) : List Nat := if dg (lessN (redN l)) 16 &&& 128 = 0 then (lessN (redN l)).set 16 (dg (lessN (redN l)) 16 &&& 3) else redN l
theorem less_cases {r : List Nat} (h : tidy r 3) : (primeP ≤ valN r ∧ dg (lessN r) 16 = 0 ∧ valN (lessN r) = valN r - primeP) ∨ (valN r < primeP ∧ 252 ≤ dg (lessN r) 16 ∧ dg (lessN r) 16 ≤ 255) := by
  have hv := plusN_val r minusN h.1
  have hlt := tidy_lt h
  have hd : ∀ i, i < 16 → dg (lessN r) i < 256 := fun i _ => by have := plusN_digits r minusN h.1 i; unfold lessN; omega
  have ht := dg_top (lessN r) hd
  have h255 := plusN_digits r minusN h.1 16
  rw [minusN_val] at hv
  have hp : primeP = 1361129467683753853853498429727072845819 := rfl
  have hq : (256 : Nat) ^ 16 = 340282366920938463463374607431768211456 := by decide
  have hq2 : (256 : Nat) ^ 17 = 87112285931760246646623899502532662132736 := by decide
  have e : valN (lessN r) = valN (plusN r minusN) := rfl
  have e2 : dg (lessN r) 16 = dg (plusN r minusN) 16 := rfl
  rw [hq] at ht hv hlt
  rw [hq2] at hv
  rw [hp]
  generalize dg (lessN r) 16 = D at ht e2 ⊢
  generalize dg (plusN r minusN) 16 = D' at h255 e2
  generalize valN (lessN r) = A at ht e ⊢
  generalize valN (plusN r minusN) = A' at hv e
  generalize valN r = V at hv hlt ⊢
  omega
theorem leastN_val {l : List Nat} (h : fits l) : valN (leastN l) = valN l % primeP := by
  have ht := redN_tidy h
  have hr := redN_val h.1
  have hpos : 0 < primeP := by decide
  unfold leastN
  rcases less_cases ht with ⟨h1, h2, h3⟩ | ⟨h1, h2, h3⟩
  · have hlt := tidy_lt ht
    rw [h2, if_pos (by decide), show (0 &&& 3 : Nat) = 0 from rfl]
    have hs : (lessN (redN l)).set 16 0 = lessN (redN l) := by
      apply List.ext_getElem?
      intro i
      rw [List.getElem?_set]
      by_cases e : 16 = i
      · subst e
        have hl : (lessN (redN l)).length = 17 := by rw [lessN, plusN_length, ht.1]
        rw [if_pos rfl, if_pos (by omega), List.getElem?_eq_getElem (by omega)]
        simp only [dg, List.getD, List.getElem?_eq_getElem (show 16 < (lessN (redN l)).length by omega), Option.getD_some] at h2
        rw [h2]
      · rw [if_neg e]
    rw [hs, h3, ← hr, Nat.mod_eq_sub_mod h1, Nat.mod_eq_of_lt]
    have hp : primeP = 1361129467683753853853498429727072845819 := rfl
    have hq : (256 : Nat) ^ 16 = 340282366920938463463374607431768211456 := by decide
    rw [hq] at hlt
    rw [hp] at h1 ⊢
    omega
  · have h4 : ¬ dg (lessN (redN l)) 16 &&& 128 = 0 := by
      have : dg (lessN (redN l)) 16 = 252 ∨ dg (lessN (redN l)) 16 = 253 ∨ dg (lessN (redN l)) 16 = 254 ∨ dg (lessN (redN l)) 16 = 255 := by omega
      rcases this with e | e | e | e <;> rw [e] <;> decide
    rw [if_neg h4, ← hr, Nat.mod_eq_of_lt h1]
theorem leastN_le {l : List Nat} (h : fits l) : (leastN l).length = 17 ∧ ∀ i, dg (leastN l) i ≤ 255 := by
  have ht := redN_tidy h
  have hl : (lessN (redN l)).length = 17 := by rw [lessN, plusN_length, ht.1]
  unfold leastN
  split
  · refine ⟨by rw [List.length_set, hl], fun i => ?_⟩
    rw [dg_set _ _ _ _ (by omega)]
    split
    · have := Nat.and_le_right (n := dg (lessN (redN l)) 16) (m := 3)
      omega
    · exact plusN_digits _ _ ht.1 i
  · exact ⟨ht.1, tidy_le ht (by omega)⟩

/-! digits and bytes -/
theorem numL_sum : ∀ (l : List UInt8) (n : Nat), l.length ≤ n → numL l = sumTo (fun i => (l.getD i 0).toNat * 256 ^ i) n
  | [], n, _ => by
    rw [numL, ← sumTo_zero n]
    exact sumTo_congr n fun i _ => by simp
  | b :: l, 0, h => absurd h (by simp)
  | b :: l, n + 1, h => by
    rw [numL, sumTo_first, numL_sum l n (by simpa using h), ← sumTo_mul]
    have e : ((b :: l).getD 0 0).toNat * 256 ^ 0 = b.toNat := by simp
    rw [e]
    congr 1
    refine sumTo_congr n fun i _ => ?_
    rw [List.getD_cons_succ, Nat.pow_succ, Nat.mul_comm (256 ^ i) 256, ← Nat.mul_assoc, ← Nat.mul_assoc, Nat.mul_comm 256]
theorem valN_bytes (ds : List Nat) (l : List UInt8) (hl : l.length ≤ 17) (h : ∀ i, i < 17 → dg ds i = (l.getD i 0).toNat) : valN ds = numL l := by
  rw [numL_sum l 17 hl]
  exact sumTo_congr 17 fun i hi => by rw [h i hi]
theorem bytes_of_val (l : List Nat) (hd : ∀ i, dg l i ≤ 255) : (List.range 16).map (fun j => UInt8.ofNat (dg l j)) = littleL (valN l) 16 := by
  unfold littleL
  refine List.map_congr_left fun j hj => ?_
  have hj : j < 16 := List.mem_range.1 hj
  unfold byteOf
  rw [dg_of_val l (fun i _ => by have := hd i; omega) j (by omega), pow_256]

/-! the authenticator -/
/-- the first half of the key, some bits of it struck -/
def clampD (k : List UInt8) (i : Nat) : Nat :=
  let b := (k.getD i 0).toNat
  if i = 3 ∨ i = 7 ∨ i = 11 ∨ i = 15 then b &&& 15 else if i = 4 ∨ i = 8 ∨ i = 12 then b &&& 252 else if i < 16 then b else 0
def rDig (k : List UInt8) : List Nat := (List.range 17).map (clampD k)
def rN (k : List UInt8) : Nat := valN (rDig k)
def sN (k : List UInt8) : Nat := numL ((k.drop 16).take 16)
def pieceN (data : List UInt8) (i : Nat) : Nat := numL ((data.drop (16 * i)).take 16) + 256 ^ ((data.drop (16 * i)).take 16).length
def accI (r : Nat) (data : List UInt8) : Nat → Nat
  | 0 => 0
  | i + 1 => (accI r data i + pieceN data i) * r % primeP
def tagN (k data : List UInt8) : Nat := accI (rN k) data ((data.length + 15) / 16) + sN k
def tagL (k data : List UInt8) : List UInt8 := littleL (tagN k data) 16
theorem accI_lt (r : Nat) (data : List UInt8) : ∀ i, accI r data i < primeP
  | 0 => by show 0 < primeP; decide
  | i + 1 => Nat.mod_lt _ (by decide)
theorem rDig_le (k : List UInt8) : (rDig k).length = 17 ∧ ∀ i, dg (rDig k) i ≤ 255 := by
  refine ⟨by simp [rDig], fun i => ?_⟩
  by_cases h : i < 17
  · have e : dg (rDig k) i = clampD k i := by simp [dg, rDig, List.getD, h]
    rw [e]
    have hb := (k.getD i 0).toNat_lt
    have h1 := Nat.and_le_left (n := (k.getD i 0).toNat) (m := 15)
    have h2 := Nat.and_le_left (n := (k.getD i 0).toNat) (m := 252)
    unfold clampD
    dsimp only
    split
    · omega
    · split
      · omega
      · split <;> omega
  · rw [dg_high _ i (by simp [rDig]; omega)]; omega
/-- a piece and its byte 1 as digits -/
def cDig (p : List UInt8) : List Nat := p.map UInt8.toNat ++ 1 :: List.replicate (16 - p.length) 0
theorem cDig_le (p : List UInt8) (h : p.length ≤ 16) : (cDig p).length = 17 ∧ ∀ i, dg (cDig p) i ≤ 255 := by
  refine ⟨by simp [cDig]; omega, fun i => ?_⟩
  unfold dg cDig
  simp only [List.getD, List.getElem?_append, List.length_map]
  split
  · rename_i h1
    simp only [List.getElem?_map, List.getElem?_eq_getElem h1, Option.map_some, Option.getD_some]
    have := (p[i]).toNat_lt
    omega
  · rename_i h1
    rcases Nat.eq_or_lt_of_le (Nat.le_of_not_lt h1) with e | e
    · rw [← e]; simp
    · obtain ⟨t, ht⟩ : ∃ t, i - p.length = t + 1 := ⟨i - p.length - 1, by omega⟩
      rw [ht, List.getElem?_cons_succ, List.getElem?_replicate]
      split <;> simp
theorem cDig_val (p : List UInt8) (h : p.length ≤ 16) : valN (cDig p) = numL p + 256 ^ p.length := by
  rw [valN_bytes (cDig p) (p ++ [1]) (by simp; omega), numL_append]
  · simp [numL]
  · intro i hi
    unfold dg cDig
    simp only [List.getD, List.getElem?_append, List.length_map]
    split
    · rename_i h1
      simp only [List.getElem?_map, List.getElem?_eq_getElem h1, Option.map_some, Option.getD_some]
    · rename_i h1
      rcases Nat.eq_or_lt_of_le (Nat.le_of_not_lt h1) with e | e
      · rw [← e]; simp
      · obtain ⟨t, ht⟩ : ∃ t, i - p.length = t + 1 := ⟨i - p.length - 1, by omega⟩
        rw [ht, List.getElem?_cons_succ, List.getElem?_cons_succ, List.getElem?_replicate]
        split <;> simp
/-- one piece more -/
theorem step_val {h r : List Nat} (k data : List UInt8) (i : Nat) (hh : tidy h 3) (hv : valN h % primeP = accI (rN k) data i) (hr : r = rDig k) :
    tidy (timesN (plusN h (cDig ((data.drop (16 * i)).take 16))) r) 3 ∧ valN (timesN (plusN h (cDig ((data.drop (16 * i)).take 16))) r) % primeP = accI (rN k) data (i + 1) := by
  subst hr
  have hlen : ((data.drop (16 * i)).take 16).length ≤ 16 := List.length_take_le 16 _
  obtain ⟨p, hp⟩ : ∃ p, (data.drop (16 * i)).take 16 = p := ⟨_, rfl⟩
  have hpi : pieceN data i = numL p + 256 ^ p.length := by rw [pieceN, hp]
  rw [hp] at hlen ⊢
  refine ⟨timesN_tidy _ _ (plusN_digits _ _ hh.1) (rDig_le k).2, ?_⟩
  rw [timesN_val, plusN_val _ _ hh.1, cDig_val p hlen, accI, hpi]
  have h1 := tidy_lt hh
  have h2 := numL_lt p
  have h3 : 256 ^ p.length ≤ 256 ^ 16 := Nat.pow_le_pow_right (by omega) hlen
  have hq : (256 : Nat) ^ 17 = 256 * 256 ^ 16 := by decide
  have h4 : valN h + (numL p + 256 ^ p.length) < 256 ^ 17 := by omega
  rw [Nat.mod_eq_of_lt h4]
  have e1 : (valN h + (numL p + 256 ^ p.length)) % primeP = (accI (rN k) data i + (numL p + 256 ^ p.length)) % primeP := by
    rw [Nat.add_mod, hv, Nat.add_mod_mod]
  show _ * rN k % primeP = _ * rN k % primeP
  rw [Nat.mul_mod, e1, ← Nat.mul_mod]
end Go.Proofs.Ytkbefhmgcodpaaa
