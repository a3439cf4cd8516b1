/-
  The mathematics of Poly1305, second half: the remainder, the sum, the product, the authenticator.
-/
import Derived.Test.YthjhohmmdnjpkaaPoMath
namespace Go.Proofs.Ythjhohmmdnjpkaa
open Go.RowKit

/-! the remainder -/
/-- digits that fit -/
def fits (l : List Nat) : Prop := l.length = 17 ∧ ∀ i, dg l i ≤ 400000000
/-- digits below 256, the last one small -/
def tidy (l : List Nat) (t : Nat) : Prop := l.length = 17 ∧ (∀ i, i < 16 → dg l i < 256) ∧ dg l 16 ≤ t
theorem dg_high (l : List Nat) (i : Nat) (h : l.length ≤ i) : dg l i = 0 := by simp [dg, List.getD, h]
theorem tidy.fits {l : List Nat} {t : Nat} (h : tidy l t) (ht : t ≤ 400000000) : fits l := ⟨h.1, fun i => by
  by_cases h1 : i < 16
  · have := h.2.1 i h1; omega
  · by_cases h2 : i = 16
    · subst h2; have := h.2.2; omega
    · rw [dg_high l i (by have := h.1; omega)]; omega⟩
theorem tidy.mono {l : List Nat} {t t' : Nat} (h : tidy l t) (ht : t ≤ t') : tidy l t' := ⟨h.1, h.2.1, Nat.le_trans h.2.2 ht⟩
theorem fits_carry {l : List Nat} (h : fits l) (j : Nat) (hj : j ≤ 17) : (pass l 0 j).2 ≤ 2097152 := pass_carry l 0 400000000 2097152 h.2 (by omega) (by omega) j (by rw [h.1]; exact hj)
theorem fits_midU {l : List Nat} (h : fits l) : midU l ≤ 503000000 := by
  rw [midU_eq l h.1]
  have h1 := fits_carry h 16 (by omega)
  have h2 := h.2 16
  omega
theorem mid_le {l : List Nat} (h : fits l) : ∀ i, dg (mid l) i ≤ 255 := fun i => by
  by_cases h1 : i < 16
  · have := mid_digits l h.1 i h1; omega
  · by_cases h2 : i = 16
    · subst h2; rw [mid_top l h.1]; omega
    · rw [dg_high _ i (by rw [mid_length, h.1]; omega)]; omega
theorem mid_carry {l : List Nat} (h : fits l) (j : Nat) (hj : j ≤ 17) : (pass (mid l) (midU l) j).2 ≤ 503000000 :=
  pass_carry _ _ 255 503000000 (mid_le h) (fits_midU h) (by omega) j (by rw [mid_length, h.1]; exact hj)
theorem redR_tidy {l : List Nat} (h : fits l) : tidy (redR l) 4 := ⟨by rw [redR_length, h.1], redR_digits l h.1, by
  rw [redR_top l h.1]
  have := pass_end (mid l) (midU l) (by rw [mid_length, h.1]; omega) (mid_digits l h.1) (by
    have := fits_midU h
    have hq : (256 : Nat) ^ 16 = 340282366920938463463374607431768211456 := by decide
    omega)
  omega⟩
theorem redR_tidier {l : List Nat} (h : tidy l 4) : tidy (redR l) 3 := by
  have hf := h.fits (by omega)
  refine ⟨by rw [redR_length, h.1], redR_digits l h.1, ?_⟩
  rw [redR_top l h.1, pass_none l (by rw [h.1]; omega) h.2.1, Nat.zero_add]
  have h16 := h.2.2
  by_cases e : dg l 16 = 4
  · have := pass_end (mid l) (midU l) (by rw [mid_length, h.1]; omega) (mid_digits l h.1) (by
      have := fits_midU hf
      have hq : (256 : Nat) ^ 16 = 340282366920938463463374607431768211456 := by decide
      omega)
    rw [e]
    omega
  · have hu : midU l = 0 := by
      rw [midU_eq l h.1, pass_none l (by rw [h.1]; omega) h.2.1]
      omega
    rw [hu, pass_none (mid l) (by rw [mid_length, h.1]; omega) (mid_digits l h.1)]
    omega
theorem redN_tidy {l : List Nat} (h : fits l) : tidy (redN l) 3 := redR_tidier (redR_tidy h)
theorem redN_val {l : List Nat} (h : l.length = 17) : valN (redN l) % primeP = valN l % primeP := by
  rw [redR_val l h, redR_val (redR l) (by rw [redR_length, h]), Nat.add_mul_mod_self_right, Nat.add_mul_mod_self_right]
  rfl

/-! the sum -/
def plusP (a b : List Nat) : Nat → List Nat × Nat
  | 0 => (a, 0)
  | j + 1 => ((plusP a b j).1.set j (((plusP a b j).2 + (dg (plusP a b j).1 j + dg b j)) % 256), ((plusP a b j).2 + (dg (plusP a b j).1 j + dg b j)) / 256)
def plusN (a b : List Nat) : List Nat := (plusP a b 17).1
theorem plusP_length (a b : List Nat) : ∀ j, (plusP a b j).1.length = a.length
  | 0 => rfl
  | j + 1 => by rw [plusP, List.length_set, plusP_length a b j]
theorem plusP_above (a b : List Nat) : ∀ j i, j ≤ i → j ≤ a.length → dg (plusP a b j).1 i = dg a i
  | 0, _, _, _ => rfl
  | j + 1, i, h, hl => by
    rw [plusP, dg_set _ _ _ _ (by rw [plusP_length]; omega), if_neg (by omega), plusP_above a b j i (by omega) (by omega)]
theorem plusP_below (a b : List Nat) : ∀ j i, i < j → j ≤ a.length → dg (plusP a b j).1 i < 256
  | 0, _, h, _ => absurd h (by omega)
  | j + 1, i, h, hl => by
    rw [plusP, dg_set _ _ _ _ (by rw [plusP_length]; omega)]
    by_cases e : i = j
    · rw [if_pos e]; exact Nat.mod_lt _ (by omega)
    · rw [if_neg e]; exact plusP_below a b j i (by omega) (by omega)
theorem plusP_val (a b : List Nat) (n : Nat) : ∀ j, j ≤ n → j ≤ a.length → valTo (plusP a b j).1 n + (plusP a b j).2 * 256 ^ j = valTo a n + valTo b j
  | 0, _, _ => by simp [plusP, valTo, sumTo]
  | j + 1, h, hl => by
    have ih := plusP_val a b n j (by omega) (by omega)
    rw [plusP]
    have h1 := valTo_set (plusP a b j).1 j (((plusP a b j).2 + (dg (plusP a b j).1 j + dg b j)) % 256) n (by rw [plusP_length]; omega) (by omega)
    have h2 : valTo b (j + 1) = valTo b j + dg b j * 256 ^ j := rfl
    dsimp only
    rw [h2]
    generalize (plusP a b j).2 = v at ih h1 ⊢
    generalize dg (plusP a b j).1 j = d at ih h1 ⊢
    generalize dg b j = g at h1 ⊢
    have e : (v + (d + g)) % 256 * 256 ^ j + (v + (d + g)) / 256 * 256 ^ (j + 1) = v * 256 ^ j + d * 256 ^ j + g * 256 ^ j := by
      rw [Nat.pow_succ, Nat.mul_comm (256 ^ j) 256, ← Nat.mul_assoc, ← Nat.add_mul, ← Nat.add_mul, ← Nat.add_mul]
      congr 1
      omega
    omega
theorem plusP_carry (a b : List Nat) (ha : ∀ i, dg a i ≤ 255) (hb : ∀ i, dg b i ≤ 255) : ∀ j, j ≤ a.length → (plusP a b j).2 ≤ 1
  | 0, _ => by simp [plusP]
  | j + 1, h => by
    have ih := plusP_carry a b ha hb j (by omega)
    rw [plusP]
    dsimp only
    rw [plusP_above a b j j (Nat.le_refl _) (by omega)]
    have := ha j
    have := hb j
    omega
theorem plusN_length (a b : List Nat) : (plusN a b).length = a.length := plusP_length a b 17
theorem plusN_digits (a b : List Nat) (ha : a.length = 17) (i : Nat) : dg (plusN a b) i ≤ 255 := by
  by_cases h : i < 17
  · have := plusP_below a b 17 i h (by omega)
    exact Nat.le_of_lt_succ this
  · rw [dg_high _ i (by rw [plusN_length]; omega)]; omega
theorem plusN_val (a b : List Nat) (ha : a.length = 17) : valN (plusN a b) = (valN a + valN b) % 256 ^ 17 := by
  have h1 := plusP_val a b 17 17 (Nat.le_refl _) (by omega)
  have h2 : valN (plusN a b) < 256 ^ 17 := valTo_lt _ 17 (fun i hi => plusP_below a b 17 i hi (by omega))
  have h3 : valN (plusN a b) + (plusP a b 17).2 * 256 ^ 17 = valN a + valN b := h1
  rw [← h3, Nat.add_mul_mod_self_right, Nat.mod_eq_of_lt h2]

/-! the product -/
def rotB (b : List Nat) (j i : Nat) : Nat := if j ≤ i then dg b (i - j) else 320 * dg b (i + 17 - j)
def convI (a b : List Nat) (i : Nat) : Nat → Nat := sumTo (fun j => dg a j * rotB b j i)
def convN (a b : List Nat) : List Nat := (List.range 17).map fun i => convI a b i 17
def timesN (a b : List Nat) : List Nat := redN (convN a b)
theorem convN_length (a b : List Nat) : (convN a b).length = 17 := by simp [convN]
theorem convN_dg (a b : List Nat) (i : Nat) (h : i < 17) : dg (convN a b) i = convI a b i 17 := by simp [dg, convN, List.getD, h]
theorem convI_le (a b : List Nat) (ha : ∀ i, dg a i ≤ 255) (hb : ∀ i, dg b i ≤ 255) (i : Nat) : ∀ n, convI a b i n ≤ 20808000 * n
  | 0 => Nat.le_refl _
  | n + 1 => by
    have ih := convI_le a b ha hb i n
    have h1 : rotB b n i ≤ 81600 := by
      unfold rotB
      split
      · have := hb (i - n); omega
      · have := hb (i + 17 - n); omega
    have h2 := Nat.mul_le_mul (ha n) h1
    unfold convI at ih ⊢
    rw [sumTo]
    omega
theorem convN_fits (a b : List Nat) (ha : ∀ i, dg a i ≤ 255) (hb : ∀ i, dg b i ≤ 255) : fits (convN a b) := ⟨convN_length a b, fun i => by
  by_cases h : i < 17
  · rw [convN_dg a b i h]
    have := convI_le a b ha hb i 17
    omega
  · rw [dg_high _ i (by rw [convN_length]; omega)]; omega⟩
theorem sumTo_first (f : Nat → Nat) : ∀ n, sumTo f (n + 1) = f 0 + sumTo (fun i => f (i + 1)) n
  | 0 => by simp [sumTo]
  | n + 1 => by rw [sumTo, sumTo_first f n, sumTo]; omega
theorem sumTo_swap (f : Nat → Nat → Nat) (m : Nat) : ∀ n, sumTo (fun i => sumTo (f i) m) n = sumTo (fun j => sumTo (fun i => f i j) n) m
  | 0 => by
    rw [sumTo]
    exact (sumTo_zero m).symm
  | n + 1 => by
    rw [sumTo, sumTo_swap f m n, ← sumTo_add]
    exact sumTo_congr m fun j _ => rfl
/-- the value of b, turned j times -/
def turn (b : List Nat) (j : Nat) : Nat := sumTo (fun i => rotB b j i * 256 ^ i) 17
theorem turn_zero (b : List Nat) : turn b 0 = valN b := sumTo_congr 17 fun i _ => by rw [rotB, if_pos (Nat.zero_le _), Nat.sub_zero]
theorem turn_succ (b : List Nat) (j : Nat) (hj : j ≤ 16) : 256 * turn b j = turn b (j + 1) + 64 * dg b (16 - j) * primeP := by
  unfold turn
  rw [sumTo_first (fun i => rotB b (j + 1) i * 256 ^ i) 16, sumTo, Nat.mul_add, ← sumTo_mul]
  have e1 : sumTo (fun i => 256 * (rotB b j i * 256 ^ i)) 16 = sumTo (fun i => rotB b (j + 1) (i + 1) * 256 ^ (i + 1)) 16 := sumTo_congr 16 fun i _ => by
    have : rotB b (j + 1) (i + 1) = rotB b j i := by
      unfold rotB
      by_cases h : j ≤ i
      · rw [if_pos h, if_pos (by omega), show i + 1 - (j + 1) = i - j by omega]
      · rw [if_neg h, if_neg (by omega), show i + 1 + 17 - (j + 1) = i + 17 - j by omega]
    rw [this, Nat.pow_succ, Nat.mul_comm (256 ^ i) 256, ← Nat.mul_assoc, ← Nat.mul_assoc, Nat.mul_comm 256]
  rw [e1]
  have e2 : rotB b j 16 = dg b (16 - j) := by rw [rotB, if_pos hj]
  have e3 : rotB b (j + 1) 0 = 320 * dg b (16 - j) := by rw [rotB, if_neg (by omega), show 0 + 17 - (j + 1) = 16 - j by omega]
  rw [e2, e3]
  generalize sumTo (fun i => rotB b (j + 1) (i + 1) * 256 ^ (i + 1)) 16 = s
  generalize dg b (16 - j) = d
  have hp : primeP = 1361129467683753853853498429727072845819 := rfl
  have hq : (256 : Nat) ^ 16 = 340282366920938463463374607431768211456 := by decide
  rw [hp, hq, Nat.pow_zero]
  omega
theorem turn_mod (b : List Nat) (j : Nat) (h : j ≤ 17) : ∃ q, 256 ^ j * valN b = turn b j + q * primeP := by
  induction j with
  | zero => exact ⟨0, by rw [turn_zero, Nat.pow_zero, Nat.one_mul, Nat.zero_mul, Nat.add_zero]⟩
  | succ j ih =>
    obtain ⟨q, hq⟩ := ih (by omega)
    have hs := turn_succ b j (by omega)
    refine ⟨64 * dg b (16 - j) + 256 * q, ?_⟩
    have e : 256 ^ (j + 1) * valN b = 256 * (256 ^ j * valN b) := by rw [Nat.pow_succ, Nat.mul_comm (256 ^ j) 256, Nat.mul_assoc]
    rw [e, hq, Nat.mul_add, hs, Nat.add_mul, Nat.mul_assoc 256 q]
    generalize 64 * dg b (16 - j) * primeP = x
    generalize 256 * (q * primeP) = y
    omega
theorem convN_val (a b : List Nat) : ∃ q, valN a * valN b = valN (convN a b) + q * primeP := by
  have h1 : valN (convN a b) = sumTo (fun j => dg a j * turn b j) 17 := by
    have : valN (convN a b) = sumTo (fun i => sumTo (fun j => dg a j * rotB b j i * 256 ^ i) 17) 17 := sumTo_congr 17 fun i hi => by
      rw [convN_dg a b i hi, convI, Nat.mul_comm, ← sumTo_mul]
      exact sumTo_congr 17 fun j _ => by rw [Nat.mul_comm]
    rw [this, sumTo_swap]
    refine sumTo_congr 17 fun j _ => ?_
    unfold turn
    rw [← sumTo_mul]
    exact sumTo_congr 17 fun i _ => by rw [Nat.mul_assoc]
  have h2 : ∀ n, n ≤ 17 → ∃ q, sumTo (fun j => dg a j * 256 ^ j) n * valN b = sumTo (fun j => dg a j * turn b j) n + q * primeP := by
    intro n
    induction n with
    | zero => exact fun _ => ⟨0, by simp [sumTo]⟩
    | succ n ih =>
      intro hn
      obtain ⟨q, hq⟩ := ih (by omega)
      obtain ⟨t, ht⟩ := turn_mod b n (by omega)
      refine ⟨q + dg a n * t, ?_⟩
      rw [sumTo, sumTo, Nat.add_mul, hq, Nat.mul_assoc, ht, Nat.mul_add, Nat.add_mul, Nat.mul_assoc]
      omega
  obtain ⟨q, hq⟩ := h2 17 (by omega)
  exact ⟨q, by rw [h1]; exact hq⟩
theorem timesN_val (a b : List Nat) : valN (timesN a b) % primeP = (valN a * valN b) % primeP := by
  obtain ⟨q, hq⟩ := convN_val a b
  rw [hq, Nat.add_mul_mod_self_right]
  exact redN_val (convN_length a b)
theorem timesN_tidy (a b : List Nat) (ha : ∀ i, dg a i ≤ 255) (hb : ∀ i, dg b i ≤ 255) : tidy (timesN a b) 3 := redN_tidy (convN_fits a b ha hb)
end Go.Proofs.Ythjhohmmdnjpkaa
