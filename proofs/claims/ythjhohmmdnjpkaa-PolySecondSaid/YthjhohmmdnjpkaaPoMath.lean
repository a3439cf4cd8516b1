/-
  The mathematics of Poly1305: numbers of seventeen digits, their sums, products and remainders, and the authenticator itself; no function of the program is named here.
-/
import Derived.Test.YthjhohmmdnjpkaaNum
namespace Go.Proofs.Ythjhohmmdnjpkaa
open Go.RowKit

def primeP : Nat := 1361129467683753853853498429727072845819
theorem primeP_eq : 2 ^ 130 = primeP + 5 := by decide
theorem pow_256_16 : (256 : Nat) ^ 16 * 4 = primeP + 5 := by decide
theorem pow_256_17 : (256 : Nat) ^ 17 = 64 * primeP + 320 := by decide

def sumTo (f : Nat → Nat) : Nat → Nat
  | 0 => 0
  | n + 1 => sumTo f n + f n
theorem sumTo_congr {f g : Nat → Nat} : ∀ n, (∀ i, i < n → f i = g i) → sumTo f n = sumTo g n
  | 0, _ => rfl
  | n + 1, h => by rw [sumTo, sumTo, sumTo_congr n (fun i hi => h i (by omega)), h n (by omega)]
theorem sumTo_zero : ∀ n, sumTo (fun _ => 0) n = 0
  | 0 => rfl
  | n + 1 => by rw [sumTo, sumTo_zero n]
theorem sumTo_add (f g : Nat → Nat) : ∀ n, sumTo (fun i => f i + g i) n = sumTo f n + sumTo g n
  | 0 => rfl
  | n + 1 => by rw [sumTo, sumTo, sumTo, sumTo_add f g n]; omega
theorem sumTo_mul (f : Nat → Nat) (c : Nat) : ∀ n, sumTo (fun i => c * f i) n = c * sumTo f n
  | 0 => rfl
  | n + 1 => by rw [sumTo, sumTo, sumTo_mul f c n, Nat.mul_add]
theorem sumTo_set (f : Nat → Nat) (j x : Nat) : ∀ n, j < n → sumTo (fun i => if i = j then x else f i) n + f j = sumTo f n + x
  | 0, h => absurd h (by omega)
  | n + 1, h => by
    rw [sumTo, sumTo]
    by_cases e : j = n
    · subst e
      rw [if_pos rfl, sumTo_congr (g := f) j (fun i hi => if_neg (by omega))]
      omega
    · have := sumTo_set f j x n (by omega)
      rw [if_neg (by omega)]
      omega
theorem sumTo_le {f g : Nat → Nat} : ∀ n, (∀ i, i < n → f i ≤ g i) → sumTo f n ≤ sumTo g n
  | 0, _ => Nat.le_refl _
  | n + 1, h => by
    have h1 := sumTo_le n (fun i hi => h i (by omega))
    have h2 := h n (by omega)
    rw [sumTo, sumTo]
    omega

/-- digit i -/
def dg (l : List Nat) (i : Nat) : Nat := l.getD i 0
theorem dg_set (l : List Nat) (j x i : Nat) (h : j < l.length) : dg (l.set j x) i = if i = j then x else dg l i := by
  unfold dg
  simp only [List.getD, List.getElem?_set]
  by_cases e : j = i
  · subst e
    simp [h]
  · rw [if_neg e, if_neg (fun e' => e e'.symm)]
/-- the number of the first n digits -/
def valTo (l : List Nat) (n : Nat) : Nat := sumTo (fun i => dg l i * 256 ^ i) n
def valN (l : List Nat) : Nat := valTo l 17
theorem valTo_set (l : List Nat) (j x n : Nat) (hl : j < l.length) (hn : j < n) : valTo (l.set j x) n + dg l j * 256 ^ j = valTo l n + x * 256 ^ j := by
  unfold valTo
  rw [← sumTo_set (fun i => dg l i * 256 ^ i) j (x * 256 ^ j) n hn]
  congr 1
  refine sumTo_congr n fun i _ => ?_
  rw [dg_set l j x i hl]
  by_cases e : i = j
  · rw [if_pos e, if_pos e, e]
  · rw [if_neg e, if_neg e]
theorem valTo_lt (l : List Nat) : ∀ n, (∀ i, i < n → dg l i < 256) → valTo l n < 256 ^ n
  | 0, _ => by simp [valTo, sumTo]
  | n + 1, h => by
    have h1 := valTo_lt l n (fun i hi => h i (by omega))
    have h2 := h n (by omega)
    unfold valTo at h1 ⊢
    rw [sumTo, Nat.pow_succ]
    have h3 : dg l n * 256 ^ n ≤ 255 * 256 ^ n := Nat.mul_le_mul_right _ (by omega)
    omega

/-! carrying -/
def pass (l : List Nat) (u : Nat) : Nat → List Nat × Nat
  | 0 => (l, u)
  | j + 1 => ((pass l u j).1.set j (((pass l u j).2 + dg (pass l u j).1 j) % 256), ((pass l u j).2 + dg (pass l u j).1 j) / 256)
theorem pass_length (l : List Nat) (u : Nat) : ∀ j, (pass l u j).1.length = l.length
  | 0 => rfl
  | j + 1 => by rw [pass, List.length_set, pass_length l u j]
theorem pass_above (l : List Nat) (u : Nat) : ∀ j i, j ≤ i → j ≤ l.length → dg (pass l u j).1 i = dg l i
  | 0, _, _, _ => rfl
  | j + 1, i, h, hl => by
    rw [pass, dg_set _ _ _ _ (by rw [pass_length]; omega), if_neg (by omega), pass_above l u j i (by omega) (by omega)]
theorem pass_below (l : List Nat) (u : Nat) : ∀ j i, i < j → j ≤ l.length → dg (pass l u j).1 i < 256
  | 0, _, h, _ => absurd h (by omega)
  | j + 1, i, h, hl => by
    rw [pass, dg_set _ _ _ _ (by rw [pass_length]; omega)]
    by_cases e : i = j
    · rw [if_pos e]; exact Nat.mod_lt _ (by omega)
    · rw [if_neg e]; exact pass_below l u j i (by omega) (by omega)
theorem pass_val (l : List Nat) (u n : Nat) : ∀ j, j ≤ n → j ≤ l.length → valTo (pass l u j).1 n + (pass l u j).2 * 256 ^ j = valTo l n + u
  | 0, _, _ => by simp [pass]
  | j + 1, h, hl => by
    have ih := pass_val l u n j (by omega) (by omega)
    rw [pass]
    have h1 := valTo_set (pass l u j).1 j (((pass l u j).2 + dg (pass l u j).1 j) % 256) n (by rw [pass_length]; omega) (by omega)
    dsimp only
    generalize (pass l u j).2 = v at ih h1 ⊢
    generalize dg (pass l u j).1 j = d at ih h1 ⊢
    have e : (v + d) % 256 * 256 ^ j + (v + d) / 256 * 256 ^ (j + 1) = v * 256 ^ j + d * 256 ^ j := by
      rw [Nat.pow_succ, Nat.mul_comm (256 ^ j) 256, ← Nat.mul_assoc, ← Nat.add_mul, ← Nat.add_mul]
      congr 1
      omega
    omega
/-- the carry stays small -/
theorem pass_carry (l : List Nat) (u M B : Nat) (hM : ∀ i, dg l i ≤ M) (hu : u ≤ B) (hB : M ≤ 255 * B) : ∀ j, j ≤ l.length → (pass l u j).2 ≤ B
  | 0, _ => hu
  | j + 1, h => by
    have ih := pass_carry l u M B hM hu hB j (by omega)
    rw [pass]
    dsimp only
    rw [pass_above l u j j (Nat.le_refl _) (by omega)]
    have := hM j
    omega
theorem pass_end (l : List Nat) (u : Nat) (hl : 16 ≤ l.length) (hd : ∀ i, i < 16 → dg l i < 256) (hu : u ≤ 256 ^ 16) : (pass l u 16).2 ≤ 1 := by
  have h1 := pass_val l u 16 16 (Nat.le_refl _) hl
  have h2 := valTo_lt l 16 hd
  have h3 : (pass l u 16).2 * 256 ^ 16 < 2 * 256 ^ 16 := by omega
  have := Nat.lt_of_mul_lt_mul_right h3
  omega
theorem pass_none (l : List Nat) (hl : 16 ≤ l.length) (hd : ∀ i, i < 16 → dg l i < 256) : (pass l 0 16).2 = 0 := by
  have h1 := pass_val l 0 16 16 (Nat.le_refl _) hl
  have h2 := valTo_lt l 16 hd
  have h3 : (pass l 0 16).2 * 256 ^ 16 < 1 * 256 ^ 16 := by omega
  have := Nat.lt_of_mul_lt_mul_right h3
  omega

/-- one round of the remainder -/
def mid (l : List Nat) : List Nat := (pass l 0 16).1.set 16 (((pass l 0 16).2 + dg (pass l 0 16).1 16) % 4)
def midU (l : List Nat) : Nat := 5 * (((pass l 0 16).2 + dg (pass l 0 16).1 16) / 4)
def redR (l : List Nat) : List Nat := (pass (mid l) (midU l) 16).1.set 16 (dg (pass (mid l) (midU l) 16).1 16 + (pass (mid l) (midU l) 16).2)
def redN (l : List Nat) : List Nat := redR (redR l)
theorem mid_length (l : List Nat) : (mid l).length = l.length := by rw [mid, List.length_set, pass_length]
theorem redR_length (l : List Nat) : (redR l).length = l.length := by rw [redR, List.length_set, pass_length, mid_length]
theorem redN_length (l : List Nat) : (redN l).length = l.length := by rw [redN, redR_length, redR_length]
theorem valN_split (l : List Nat) : valN l = valTo l 16 + dg l 16 * 256 ^ 16 := rfl
theorem redR_val (l : List Nat) (hl : l.length = 17) : valN l = valN (redR l) + ((pass l 0 16).2 + dg (pass l 0 16).1 16) / 4 * primeP := by
  have h1 := pass_val l 0 17 16 (by omega) (by omega)
  have h2 := valTo_set (pass l 0 16).1 16 (((pass l 0 16).2 + dg (pass l 0 16).1 16) % 4) 17 (by rw [pass_length]; omega) (by omega)
  have h3 := pass_val (mid l) (midU l) 17 16 (by omega) (by rw [mid_length]; omega)
  have h4 := valTo_set (pass (mid l) (midU l) 16).1 16 (dg (pass (mid l) (midU l) 16).1 16 + (pass (mid l) (midU l) 16).2) 17 (by rw [pass_length, mid_length]; omega) (by omega)
  have e1 : valTo (mid l) 17 = valTo ((pass l 0 16).1.set 16 (((pass l 0 16).2 + dg (pass l 0 16).1 16) % 4)) 17 := rfl
  have e2 : valN (redR l) = valTo ((pass (mid l) (midU l) 16).1.set 16 (dg (pass (mid l) (midU l) 16).1 16 + (pass (mid l) (midU l) 16).2)) 17 := rfl
  have e3 : midU l = 5 * (((pass l 0 16).2 + dg (pass l 0 16).1 16) / 4) := rfl
  have e4 : valN l = valTo l 17 := rfl
  rw [← e1] at h2
  rw [← e2] at h4
  rw [e4]
  have hp : primeP + 5 = 1361129467683753853853498429727072845824 := by decide
  have hq : (256 : Nat) ^ 16 = 340282366920938463463374607431768211456 := by decide
  rw [hq] at h1 h2 h3 h4
  generalize valTo (mid l) 17 = A at h2 h3
  generalize valTo (pass (mid l) (midU l) 16).1 17 = C at h3 h4
  generalize dg (pass (mid l) (midU l) 16).1 16 = D at h4
  generalize (pass (mid l) (midU l) 16).2 = E at h3 h4
  generalize (pass l 0 16).2 = F at h1 h2 e3 ⊢
  generalize dg (pass l 0 16).1 16 = G at h2 e3 ⊢
  generalize valTo (pass l 0 16).1 17 = I at h1 h2
  generalize valN (redR l) = J at h4 ⊢
  generalize valTo l 17 = V at h1 ⊢
  generalize midU l = U at h3 e3
  have hpp : primeP = 1361129467683753853853498429727072845819 := rfl
  rw [hpp]
  omega
theorem redR_digits (l : List Nat) (hl : l.length = 17) : ∀ i, i < 16 → dg (redR l) i < 256 := fun i hi => by
  rw [redR, dg_set _ _ _ _ (by rw [pass_length, mid_length]; omega), if_neg (by omega)]
  exact pass_below _ _ 16 i hi (by rw [mid_length]; omega)
theorem mid_digits (l : List Nat) (hl : l.length = 17) : ∀ i, i < 16 → dg (mid l) i < 256 := fun i hi => by
  rw [mid, dg_set _ _ _ _ (by rw [pass_length]; omega), if_neg (by omega)]
  exact pass_below _ _ 16 i hi (by omega)
theorem mid_top (l : List Nat) (hl : l.length = 17) : dg (mid l) 16 = ((pass l 0 16).2 + dg l 16) % 4 := by
  rw [mid, dg_set _ _ _ _ (by rw [pass_length]; omega), if_pos rfl, pass_above l 0 16 16 (Nat.le_refl _) (by omega)]
theorem redR_top (l : List Nat) (hl : l.length = 17) : dg (redR l) 16 = ((pass l 0 16).2 + dg l 16) % 4 + (pass (mid l) (midU l) 16).2 := by
  rw [redR, dg_set _ _ _ _ (by rw [pass_length, mid_length]; omega), if_pos rfl, pass_above _ _ 16 16 (Nat.le_refl _) (by rw [mid_length]; omega), mid_top l hl]
theorem midU_eq (l : List Nat) (hl : l.length = 17) : midU l = 5 * (((pass l 0 16).2 + dg l 16) / 4) := by
  rw [midU, pass_above l 0 16 16 (Nat.le_refl _) (by omega)]
end Go.Proofs.Ythjhohmmdnjpkaa
