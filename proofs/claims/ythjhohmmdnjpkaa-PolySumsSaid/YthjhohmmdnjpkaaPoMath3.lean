/-
  The mathematics of Poly1305, third part: the least remainder, digits and bytes, the authenticator.
-/
import Derived.Test.YthjhohmmdnjpkaaPoMath2
namespace Go.Proofs.Ythjhohmmdnjpkaa
open Go.RowKit

theorem valTo_more (l : List Nat) (m : Nat) : ∀ d, ∃ R, valTo l (m + d) = valTo l m + R * 256 ^ m
  | 0 => ⟨0, by simp⟩
  | d + 1 => by
    obtain ⟨R, h⟩ := valTo_more l m d
    refine ⟨R + dg l (m + d) * 256 ^ d, ?_⟩
    have e : valTo l (m + (d + 1)) = valTo l (m + d) + dg l (m + d) * 256 ^ (m + d) := rfl
    rw [e, h, Nat.add_mul, Nat.pow_add, Nat.mul_assoc, Nat.mul_comm (256 ^ d) (256 ^ m)]
    generalize R * 256 ^ m = x
    omega
theorem dg_of_val (l : List Nat) (hd : ∀ i, i < 17 → dg l i < 256) (j : Nat) (hj : j < 17) : dg l j = valN l / 256 ^ j % 256 := by
  obtain ⟨R, h⟩ := valTo_more l (j + 1) (16 - j)
  have e : valN l = valTo l (j + 1 + (16 - j)) := by rw [show j + 1 + (16 - j) = 17 by omega]; rfl
  have h1 : valTo l (j + 1) = valTo l j + dg l j * 256 ^ j := rfl
  have h2 := valTo_lt l j (fun i hi => hd i (by omega))
  have h3 := hd j hj
  have hpos : 0 < 256 ^ j := Nat.pow_pos (by omega)
  have e5 : valTo l j + dg l j * 256 ^ j + R * (256 ^ j * 256) = valTo l j + 256 ^ j * (dg l j + R * 256) := by
    rw [Nat.mul_add, Nat.mul_comm (256 ^ j) (dg l j), Nat.mul_left_comm R (256 ^ j) 256, Nat.add_assoc]
  rw [e, h, h1, Nat.pow_succ, e5, Nat.add_mul_div_left _ _ hpos, Nat.div_eq_of_lt h2, Nat.zero_add, Nat.add_mul_mod_self_right, Nat.mod_eq_of_lt h3]
theorem dg_top (l : List Nat) (hd : ∀ i, i < 16 → dg l i < 256) : dg l 16 = valN l / 256 ^ 16 := by
  have h2 := valTo_lt l 16 hd
  rw [valN_split, Nat.mul_comm, Nat.add_mul_div_left _ _ (by decide), Nat.div_eq_of_lt h2, Nat.zero_add]
theorem tidy_lt {l : List Nat} {t : Nat} (h : tidy l t) : valN l < (t + 1) * 256 ^ 16 := by
  have h1 := valTo_lt l 16 h.2.1
  have h2 : dg l 16 * 256 ^ 16 ≤ t * 256 ^ 16 := Nat.mul_le_mul_right _ h.2.2
  rw [valN_split, Nat.add_mul]
  omega
theorem tidy_le {l : List Nat} {t : Nat} (h : tidy l t) (ht : t ≤ 255) : ∀ i, dg l i ≤ 255 := fun i => by
  by_cases h1 : i < 16
  · have := h.2.1 i h1; omega
  · by_cases h2 : i = 16
    · subst h2; have := h.2.2; omega
    · rw [dg_high l i (by have := h.1; omega)]; omega

/-! the least remainder -/
def minusN : List Nat := [5, 0, 0, 0, 0, 0, 0, 0, 0, 0, 0, 0, 0, 0, 0, 0, 252]
theorem minusN_val : valN minusN = 5 + 252 * 256 ^ 16 := by decide
def lessN (r : List Nat) : List Nat := plusN r minusN
def leastN (l : List Nat) : List Nat := if dg (lessN (redN l)) 16 &&& 128 = 0 then (lessN (redN l)).set 16 (dg (lessN (redN l)) 16 &&& 3) else redN l
theorem less_cases {r : List Nat} (h : tidy r 3) : (primeP ≤ valN r ∧ dg (lessN r) 16 = 0 ∧ valN (lessN r) = valN r - primeP) ∨ (valN r < primeP ∧ 252 ≤ dg (lessN r) 16 ∧ dg (lessN r) 16 ≤ 255) := by
  have hv := plusN_val r minusN h.1
  have hlt := tidy_lt h
  have hd : ∀ i, i < 16 → dg (lessN r) i < 256 := fun i _ => by have := plusN_digits r minusN h.1 i; unfold lessN; omega
  have ht := dg_top (lessN r) hd
  have h255 := plusN_digits r minusN h.1 16
  rw [minusN_val] at hv
  have hp : primeP = 1361129467683753853853498429727072845819 := rfl
  have hq : (256 : Nat) ^ 16 = 340282366920938463463374607431768211456 := by decide
  have hq2 : (256 : Nat) ^ 17 = 87112285931760246646623899502532662132736 := by decide
  have e : valN (lessN r) = valN (plusN r minusN) := rfl
  have e2 : dg (lessN r) 16 = dg (plusN r minusN) 16 := rfl
  rw [hq] at ht hv hlt
  rw [hq2] at hv
  rw [hp]
  generalize dg (lessN r) 16 = D at ht e2 ⊢
  generalize dg (plusN r minusN) 16 = D' at h255 e2
  generalize valN (lessN r) = A at ht e ⊢
  generalize valN (plusN r minusN) = A' at hv e
  generalize valN r = V at hv hlt ⊢
  omega
theorem leastN_val {l : List Nat} (h : fits l) : valN (leastN l) = valN l % primeP := by
  have ht := redN_tidy h
  have hr := redN_val h.1
  have hpos : 0 < primeP := by decide
  unfold leastN
  rcases less_cases ht with ⟨h1, h2, h3⟩ | ⟨h1, h2, h3⟩
  · have hlt := tidy_lt ht
    rw [h2, if_pos (by decide), show (0 &&& 3 : Nat) = 0 from rfl]
    have hs : (lessN (redN l)).set 16 0 = lessN (redN l) := by
      apply List.ext_getElem?
      intro i
      rw [List.getElem?_set]
      by_cases e : 16 = i
      · subst e
        have hl : (lessN (redN l)).length = 17 := by rw [lessN, plusN_length, ht.1]
        rw [if_pos rfl, if_pos (by omega), List.getElem?_eq_getElem (by omega)]
        simp only [dg, List.getD, List.getElem?_eq_getElem (show 16 < (lessN (redN l)).length by omega), Option.getD_some] at h2
        rw [h2]
      · rw [if_neg e]
    rw [hs, h3, ← hr, Nat.mod_eq_sub_mod h1, Nat.mod_eq_of_lt]
    have hp : primeP = 1361129467683753853853498429727072845819 := rfl
    have hq : (256 : Nat) ^ 16 = 340282366920938463463374607431768211456 := by decide
    rw [hq] at hlt
    rw [hp] at h1 ⊢
    omega
  · have h4 : ¬ dg (lessN (redN l)) 16 &&& 128 = 0 := by
      have : dg (lessN (redN l)) 16 = 252 ∨ dg (lessN (redN l)) 16 = 253 ∨ dg (lessN (redN l)) 16 = 254 ∨ dg (lessN (redN l)) 16 = 255 := by omega
      rcases this with e | e | e | e <;> rw [e] <;> decide
    rw [if_neg h4, ← hr, Nat.mod_eq_of_lt h1]
theorem leastN_le {l : List Nat} (h : fits l) : (leastN l).length = 17 ∧ ∀ i, dg (leastN l) i ≤ 255 := by
  have ht := redN_tidy h
  have hl : (lessN (redN l)).length = 17 := by rw [lessN, plusN_length, ht.1]
  unfold leastN
  split
  · refine ⟨by rw [List.length_set, hl], fun i => ?_⟩
    rw [dg_set _ _ _ _ (by omega)]
    split
    · have := Nat.and_le_right (n := dg (lessN (redN l)) 16) (m := 3)
      omega
    · exact plusN_digits _ _ ht.1 i
  · exact ⟨ht.1, tidy_le ht (by omega)⟩

/-! digits and bytes -/
theorem numL_sum : ∀ (l : List UInt8) (n : Nat), l.length ≤ n → numL l = sumTo (fun i => (l.getD i 0).toNat * 256 ^ i) n
  | [], n, _ => by
    rw [numL, ← sumTo_zero n]
    exact sumTo_congr n fun i _ => by simp
  | b :: l, 0, h => absurd h (by simp)
  | b :: l, n + 1, h => by
    rw [numL, sumTo_first, numL_sum l n (by simpa using h), ← sumTo_mul]
    have e : ((b :: l).getD 0 0).toNat * 256 ^ 0 = b.toNat := by simp
    rw [e]
    congr 1
    refine sumTo_congr n fun i _ => ?_
    rw [List.getD_cons_succ, Nat.pow_succ, Nat.mul_comm (256 ^ i) 256, ← Nat.mul_assoc, ← Nat.mul_assoc, Nat.mul_comm 256]
theorem valN_bytes (ds : List Nat) (l : List UInt8) (hl : l.length ≤ 17) (h : ∀ i, i < 17 → dg ds i = (l.getD i 0).toNat) : valN ds = numL l := by
  rw [numL_sum l 17 hl]
  exact sumTo_congr 17 fun i hi => by rw [h i hi]
theorem bytes_of_val (l : List Nat) (hd : ∀ i, dg l i ≤ 255) : (List.range 16).map (fun j => UInt8.ofNat (dg l j)) = littleL (valN l) 16 := by
  unfold littleL
  refine List.map_congr_left fun j hj => ?_
  have hj : j < 16 := List.mem_range.1 hj
  unfold byteOf
  rw [dg_of_val l (fun i _ => by have := hd i; omega) j (by omega), pow_256]

/-! the authenticator -/
/-- the first half of the key, some bits of it struck -/
def clampD (k : List UInt8) (i : Nat) : Nat :=
  let b := (k.getD i 0).toNat
  if i = 3 ∨ i = 7 ∨ i = 11 ∨ i = 15 then b &&& 15 else if i = 4 ∨ i = 8 ∨ i = 12 then b &&& 252 else if i < 16 then b else 0
def rDig (k : List UInt8) : List Nat := (List.range 17).map (clampD k)
def rN (k : List UInt8) : Nat := valN (rDig k)
def sN (k : List UInt8) : Nat := numL ((k.drop 16).take 16)
def pieceN (data : List UInt8) (i : Nat) : Nat := numL ((data.drop (16 * i)).take 16) + 256 ^ ((data.drop (16 * i)).take 16).length
def accI (r : Nat) (data : List UInt8) : Nat → Nat
  | 0 => 0
  | i + 1 => (accI r data i + pieceN data i) * r % primeP
def tagN (k data : List UInt8) : Nat := accI (rN k) data ((data.length + 15) / 16) + sN k
def tagL (k data : List UInt8) : List UInt8 := littleL (tagN k data) 16
theorem accI_lt (r : Nat) (data : List UInt8) : ∀ i, accI r data i < primeP
  | 0 => by show 0 < primeP; decide
  | i + 1 => Nat.mod_lt _ (by decide)
theorem rDig_le (k : List UInt8) : (rDig k).length = 17 ∧ ∀ i, dg (rDig k) i ≤ 255 := by
  refine ⟨by simp [rDig], fun i => ?_⟩
  by_cases h : i < 17
  · have e : dg (rDig k) i = clampD k i := by simp [dg, rDig, List.getD, h]
    rw [e]
    have hb := (k.getD i 0).toNat_lt
    have h1 := Nat.and_le_left (n := (k.getD i 0).toNat) (m := 15)
    have h2 := Nat.and_le_left (n := (k.getD i 0).toNat) (m := 252)
    unfold clampD
    dsimp only
    split
    · omega
    · split
      · omega
      · split <;> omega
  · rw [dg_high _ i (by simp [rDig]; omega)]; omega
/-- a piece and its byte 1 as digits -/
def cDig (p : List UInt8) : List Nat := p.map UInt8.toNat ++ 1 :: List.replicate (16 - p.length) 0
theorem cDig_le (p : List UInt8) (h : p.length ≤ 16) : (cDig p).length = 17 ∧ ∀ i, dg (cDig p) i ≤ 255 := by
  refine ⟨by simp [cDig]; omega, fun i => ?_⟩
  unfold dg cDig
  simp only [List.getD, List.getElem?_append, List.length_map]
  split
  · rename_i h1
    simp only [List.getElem?_map, List.getElem?_eq_getElem h1, Option.map_some, Option.getD_some]
    have := (p[i]).toNat_lt
    omega
  · rename_i h1
    rcases Nat.eq_or_lt_of_le (Nat.le_of_not_lt h1) with e | e
    · rw [← e]; simp
    · obtain ⟨t, ht⟩ : ∃ t, i - p.length = t + 1 := ⟨i - p.length - 1, by omega⟩
      rw [ht, List.getElem?_cons_succ, List.getElem?_replicate]
      split <;> simp
theorem cDig_val (p : List UInt8) (h : p.length ≤ 16) : valN (cDig p) = numL p + 256 ^ p.length := by
  rw [valN_bytes (cDig p) (p ++ [1]) (by simp; omega), numL_append]
  · simp [numL]
  · intro i hi
    unfold dg cDig
    simp only [List.getD, List.getElem?_append, List.length_map]
    split
    · rename_i h1
      simp only [List.getElem?_map, List.getElem?_eq_getElem h1, Option.map_some, Option.getD_some]
    · rename_i h1
      rcases Nat.eq_or_lt_of_le (Nat.le_of_not_lt h1) with e | e
      · rw [← e]; simp
      · obtain ⟨t, ht⟩ : ∃ t, i - p.length = t + 1 := ⟨i - p.length - 1, by omega⟩
        rw [ht, List.getElem?_cons_succ, List.getElem?_cons_succ, List.getElem?_replicate]
        split <;> simp
/-- one piece more -/
theorem step_val {h r : List Nat} (k data : List UInt8) (i : Nat) (hh : tidy h 3) (hv : valN h % primeP = accI (rN k) data i) (hr : r = rDig k) :
    tidy (timesN (plusN h (cDig ((data.drop (16 * i)).take 16))) r) 3 ∧ valN (timesN (plusN h (cDig ((data.drop (16 * i)).take 16))) r) % primeP = accI (rN k) data (i + 1) := by
  subst hr
  have hlen : ((data.drop (16 * i)).take 16).length ≤ 16 := List.length_take_le 16 _
  obtain ⟨p, hp⟩ : ∃ p, (data.drop (16 * i)).take 16 = p := ⟨_, rfl⟩
  have hpi : pieceN data i = numL p + 256 ^ p.length := by rw [pieceN, hp]
  rw [hp] at hlen ⊢
  refine ⟨timesN_tidy _ _ (plusN_digits _ _ hh.1) (rDig_le k).2, ?_⟩
  rw [timesN_val, plusN_val _ _ hh.1, cDig_val p hlen, accI, hpi]
  have h1 := tidy_lt hh
  have h2 := numL_lt p
  have h3 : 256 ^ p.length ≤ 256 ^ 16 := Nat.pow_le_pow_right (by omega) hlen
  have hq : (256 : Nat) ^ 17 = 256 * 256 ^ 16 := by decide
  have h4 : valN h + (numL p + 256 ^ p.length) < 256 ^ 17 := by omega
  rw [Nat.mod_eq_of_lt h4]
  have e1 : (valN h + (numL p + 256 ^ p.length)) % primeP = (accI (rN k) data i + (numL p + 256 ^ p.length)) % primeP := by
    rw [Nat.add_mod, hv, Nat.add_mod_mod]
  show _ * rN k % primeP = _ * rN k % primeP
  rw [Nat.mul_mod, e1, ← Nat.mul_mod]
end Go.Proofs.Ythjhohmmdnjpkaa
