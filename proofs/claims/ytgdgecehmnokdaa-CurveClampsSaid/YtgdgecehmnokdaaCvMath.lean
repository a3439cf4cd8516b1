/-
  The mathematics of numbers of five limbs of 51 bits: carries, sums, differences, products, and their classes modulo 2^255 - 19. No statement is proved here.
-/
import Derived.Test.YtgdgecehmnokdaaCuVal
namespace Go.Proofs.Ytgdgecehmnokdaa.Cv

def dg (l : List Nat) (i : Nat) : Nat := l.getD i 0
theorem dg_set (l : List Nat) (j x i : Nat) (h : j < l.length) : dg (l.set j x) i = if i = j then x else dg l i := by
  unfold dg
  simp only [List.getD, List.getElem?_set]
  by_cases e : j = i
  · subst e
    simp [h]
  · rw [if_neg e, if_neg (fun e' => e e'.symm)]
theorem dg_high (l : List Nat) (i : Nat) (h : l.length ≤ i) : dg l i = 0 := by simp [dg, h]
/-- the value of five limbs -/
def val (l : List Nat) : Nat := dg l 0 + dg l 1 * 2251799813685248 + dg l 2 * 5070602400912917605986812821504 + dg l 3 * 11417981541647679048466287755595961091061972992 + dg l 4 * 25711008708143844408671393477458601640355247900524685364822016
theorem val_set0 (l : List Nat) (x : Nat) (h : l.length = 5) : val (l.set 0 (dg l 0 + x)) = val l + x := by
  simp only [val, dg_set _ _ _ _ (show 0 < l.length by omega)]
  simp
  omega
/-- the first i rounds of a carry: the limbs, and what goes over -/
def cst (l : List Nat) : Nat → List Nat × Nat
  | 0 => (l, 0)
  | i + 1 => ((cst l i).1.set i ((dg (cst l i).1 i + (cst l i).2) % 2251799813685248), (dg (cst l i).1 i + (cst l i).2) / 2251799813685248)
def carryN (l : List Nat) : List Nat := (cst l 5).1.set 0 (dg (cst l 5).1 0 + 19 * (cst l 5).2)
theorem cst_length (l : List Nat) : ∀ j, (cst l j).1.length = l.length
  | 0 => rfl
  | j + 1 => by rw [cst, List.length_set, cst_length]
theorem cst_above (l : List Nat) : ∀ j i, j ≤ i → j ≤ l.length → dg (cst l j).1 i = dg l i
  | 0, _, _, _ => rfl
  | j + 1, i, h, hl => by
    rw [cst, dg_set _ _ _ _ (by rw [cst_length]; omega), if_neg (by omega), cst_above l j i (by omega) (by omega)]
theorem cst_below (l : List Nat) : ∀ j i, i < j → j ≤ l.length → dg (cst l j).1 i < 2251799813685248
  | 0, _, h, _ => absurd h (by omega)
  | j + 1, i, h, hl => by
    rw [cst, dg_set _ _ _ _ (by rw [cst_length]; omega)]
    split
    · exact Nat.mod_lt _ (by omega)
    · exact cst_below l j i (by omega) (by omega)
theorem cst_carry (l : List Nat) (M : Nat) (hM : ∀ i, dg l i ≤ 2251799813685247 * M) : ∀ j, j ≤ l.length → (cst l j).2 ≤ M
  | 0, _ => Nat.zero_le _
  | j + 1, hj => by
    have h1 := cst_carry l M hM j (by omega)
    have h2 := cst_above l j j (Nat.le_refl _) (by omega)
    have h3 := hM j
    show (dg (cst l j).1 j + (cst l j).2) / 2251799813685248 ≤ M
    rw [h2]
    omega
theorem val_cst (l : List Nat) (hl : l.length = 5) : val (cst l 5).1 + (cst l 5).2 * 57896044618658097711785492504343953926634992332820282019728792003956564819968 = val l := by
  have e : ∀ j, j < 5 → ∃ s, dg l j + (cst l j).2 = s ∧ dg (cst l 5).1 j = s % 2251799813685248 ∧ (cst l (j + 1)).2 = s / 2251799813685248 := by
    intro j hj
    refine ⟨_, rfl, ?_, ?_⟩
    · have h1 : ∀ k, j < k → k ≤ 5 → dg (cst l k).1 j = (dg l j + (cst l j).2) % 2251799813685248 := by
        intro k
        induction k with
        | zero => intro h; omega
        | succ k ih =>
          intro h hk
          rw [cst, dg_set _ _ _ _ (by rw [cst_length]; omega)]
          by_cases e : j = k
          · subst e; rw [if_pos rfl, cst_above l j j (Nat.le_refl _) (by omega)]
          · rw [if_neg e]; exact ih (by omega) (by omega)
      exact h1 5 hj (by omega)
    · show (dg (cst l j).1 j + (cst l j).2) / 2251799813685248 = _
      rw [cst_above l j j (Nat.le_refl _) (by omega)]
  obtain ⟨s0, a0, b0, c0⟩ := e 0 (by omega)
  obtain ⟨s1, a1, b1, c1⟩ := e 1 (by omega)
  obtain ⟨s2, a2, b2, c2⟩ := e 2 (by omega)
  obtain ⟨s3, a3, b3, c3⟩ := e 3 (by omega)
  obtain ⟨s4, a4, b4, c4⟩ := e 4 (by omega)
  rw [show (cst l 0).2 = 0 from rfl] at a0
  rw [show 0 + 1 = 1 from rfl] at c0
  rw [show 1 + 1 = 2 from rfl] at c1
  rw [show 2 + 1 = 3 from rfl] at c2
  rw [show 3 + 1 = 4 from rfl] at c3
  rw [show 4 + 1 = 5 from rfl] at c4
  rw [val, val, b0, b1, b2, b3, b4]
  generalize (cst l 5).2 = u5 at *
  generalize (cst l 4).2 = u4 at *
  generalize (cst l 3).2 = u3 at *
  generalize (cst l 2).2 = u2 at *
  generalize (cst l 1).2 = u1 at *
  generalize dg l 0 = d0 at *
  generalize dg l 1 = d1 at *
  generalize dg l 2 = d2 at *
  generalize dg l 3 = d3 at *
  generalize dg l 4 = d4 at *
  have g0 := Nat.div_add_mod s0 2251799813685248
  have g1 := Nat.div_add_mod s1 2251799813685248
  have g2 := Nat.div_add_mod s2 2251799813685248
  have g3 := Nat.div_add_mod s3 2251799813685248
  have g4 := Nat.div_add_mod s4 2251799813685248
  rw [← c0] at g0
  rw [← c1] at g1
  rw [← c2] at g2
  rw [← c3] at g3
  rw [← c4] at g4
  generalize s0 % 2251799813685248 = r0 at *
  generalize s1 % 2251799813685248 = r1 at *
  generalize s2 % 2251799813685248 = r2 at *
  generalize s3 % 2251799813685248 = r3 at *
  generalize s4 % 2251799813685248 = r4 at *
  clear c0 c1 c2 c3 c4 b0 b1 b2 b3 b4 e
  omega
theorem cst_lt (l : List Nat) (hl : l.length = 5) : val (cst l 5).1 < 57896044618658097711785492504343953926634992332820282019728792003956564819968 := by
  rw [val]
  have h0 := cst_below l 5 0 (by omega) (by omega)
  have h1 := cst_below l 5 1 (by omega) (by omega)
  have h2 := cst_below l 5 2 (by omega) (by omega)
  have h3 := cst_below l 5 3 (by omega) (by omega)
  have h4 := cst_below l 5 4 (by omega) (by omega)
  omega
theorem cst_over (l : List Nat) (hl : l.length = 5) : (cst l 5).2 = val l / 57896044618658097711785492504343953926634992332820282019728792003956564819968 ∧ val (cst l 5).1 = val l % 57896044618658097711785492504343953926634992332820282019728792003956564819968 := by
  have h1 := val_cst l hl
  have h2 := cst_lt l hl
  omega
theorem carryN_length (l : List Nat) : (carryN l).length = l.length := by rw [carryN, List.length_set, cst_length]
theorem carryN_val (l : List Nat) (hl : l.length = 5) : val (carryN l) = val l % 57896044618658097711785492504343953926634992332820282019728792003956564819968 + 19 * (val l / 57896044618658097711785492504343953926634992332820282019728792003956564819968) := by
  obtain ⟨h1, h2⟩ := cst_over l hl
  rw [carryN, val_set0 _ _ (by rw [cst_length, hl]), h1, h2]
theorem p25_lit : Cu.P25 = 57896044618658097711785492504343953926634992332820282019728792003956564819949 := rfl
theorem fq_nat {x y k : Nat} (h : x + k * Cu.P25 = y) : Cu.fq (x : Int) = Cu.fq (y : Int) := by
  apply Cu.fq_of_mod
  subst h
  rw [Int.natCast_add, Int.natCast_mul, Int.add_mul_emod_self_right]
theorem fq_carryN (l : List Nat) (hl : l.length = 5) : Cu.fq (val (carryN l) : Int) = Cu.fq (val l : Int) := by
  refine fq_nat (k := val l / 57896044618658097711785492504343953926634992332820282019728792003956564819968) ?_
  have h := carryN_val l hl
  have h2 := Nat.div_add_mod (val l) 57896044618658097711785492504343953926634992332820282019728792003956564819968
  rw [p25_lit]
  omega
/-- what a product is -/
def SmallN (l : List Nat) : Prop := l.length = 5 ∧ dg l 0 ≤ 2251799813685247 + 19 ∧ ∀ i, 1 ≤ i → dg l i ≤ 2251799813685247
/-- what a product takes -/
def LooseN (l : List Nat) : Prop := l.length = 5 ∧ ∀ i, dg l i ≤ 9007199254740991
theorem SmallN.loose {l : List Nat} (h : SmallN l) : LooseN l := ⟨h.1, fun i => by
  rcases Nat.eq_zero_or_pos i with e | e
  · subst e; have := h.2.1; omega
  · have := h.2.2 i e; omega⟩
theorem SmallN.le {l : List Nat} (h : SmallN l) (i : Nat) : dg l i ≤ 2251799813685247 + 19 := by
  rcases Nat.eq_zero_or_pos i with e | e
  · subst e; exact h.2.1
  · have := h.2.2 i e; omega
theorem carryN_small (l : List Nat) (hl : l.length = 5) (hv : val l < 2 * 57896044618658097711785492504343953926634992332820282019728792003956564819968) : SmallN (carryN l) := by
  obtain ⟨h1, _⟩ := cst_over l hl
  have hk : (cst l 5).2 ≤ 1 := by omega
  refine ⟨by rw [carryN_length, hl], ?_, fun i hi => ?_⟩
  · rw [carryN, dg_set _ _ _ _ (by rw [cst_length]; omega), if_pos rfl]
    have := cst_below l 5 0 (by omega) (by omega)
    omega
  · rw [carryN, dg_set _ _ _ _ (by rw [cst_length]; omega), if_neg (by omega)]
    by_cases h5 : i < 5
    · have := cst_below l 5 i h5 (by omega); omega
    · rw [dg_high _ _ (by rw [cst_length]; omega)]; omega

/-! a loop over the five places -/
def upd (f : Nat → Nat) (l : List Nat) : Nat → List Nat
  | 0 => l
  | i + 1 => (upd f l i).set i (f i)
theorem upd_length (f : Nat → Nat) (l : List Nat) : ∀ j, (upd f l j).length = l.length
  | 0 => rfl
  | j + 1 => by rw [upd, List.length_set, upd_length]
theorem upd_dg (f : Nat → Nat) (l : List Nat) : ∀ j i, j ≤ l.length → dg (upd f l j) i = if i < j then f i else dg l i
  | 0, i, _ => by simp [upd]
  | j + 1, i, h => by
    rw [upd, dg_set _ _ _ _ (by rw [upd_length]; omega), upd_dg f l j i (by omega)]
    by_cases e : i = j
    · subst e; simp
    · rw [if_neg e]
      by_cases h2 : i < j
      · rw [if_pos h2, if_pos (by omega)]
      · rw [if_neg h2, if_neg (by omega)]
theorem list5 (l : List Nat) (h : l.length = 5) : l = [dg l 0, dg l 1, dg l 2, dg l 3, dg l 4] := by
  match l, h with
  | [a, b, c, d, e], _ => rfl
theorem upd_all (f : Nat → Nat) (l : List Nat) (h : l.length = 5) : upd f l 5 = [f 0, f 1, f 2, f 3, f 4] := by
  rw [list5 (upd f l 5) (by rw [upd_length, h])]
  simp only [upd_dg f l 5 _ (by omega : 5 ≤ l.length)]
  rfl
/-- a sum -/
def addF (x y : List Nat) (i : Nat) : Nat := dg x i + dg y i
def addN (x y : List Nat) : List Nat := upd (addF x y) x 5
theorem addN_val (x y : List Nat) (hx : x.length = 5) : val (addN x y) = val x + val y := by
  rw [addN, upd_all _ _ hx]
  simp only [val, addF, dg, List.getD_cons_zero, List.getD_cons_succ]
  omega
theorem addN_length (x y : List Nat) : (addN x y).length = x.length := upd_length _ _ _
theorem addN_loose (x y : List Nat) (hx : SmallN x) (hy : SmallN y) : LooseN (addN x y) := by
  refine ⟨by rw [addN_length, hx.1], fun i => ?_⟩
  have h1 := hx.le i
  have h2 := hy.le i
  rw [addN, upd_dg _ _ _ _ (by rw [hx.1]; omega)]
  split
  · rw [addF]; omega
  · omega
theorem addN_fq (x y : List Nat) (hx : x.length = 5) : Cu.fq (val (addN x y) : Int) = Cu.fq (val x : Int) + Cu.fq (val y : Int) := by
  rw [addN_val x y hx, Int.natCast_add, Cu.fq_add]
/-- twice the modulus -/
def twoP : List Nat := [4503599627370458, 4503599627370494, 4503599627370494, 4503599627370494, 4503599627370494]
def subF (x y : List Nat) (i : Nat) : Nat := dg twoP i + dg x i - dg y i
def subN (x y : List Nat) : List Nat := upd (subF x y) twoP 5
theorem twoP_at (i : Nat) (h : i < 5) : 2251799813685247 + 19 ≤ dg twoP i ∧ dg twoP i ≤ 4503599627370494 := by
  have hi : i = 0 ∨ i = 1 ∨ i = 2 ∨ i = 3 ∨ i = 4 := by omega
  rcases hi with rfl | rfl | rfl | rfl | rfl <;> decide
theorem twoP_le (i : Nat) : dg twoP i ≤ 4503599627370494 := by
  by_cases h : i < 5
  · exact (twoP_at i h).2
  · rw [dg_high _ _ (by simp [twoP]; omega)]; omega
theorem subN_length (x y : List Nat) : (subN x y).length = 5 := upd_length _ _ _
theorem subN_loose (x y : List Nat) (hx : SmallN x) (_hy : SmallN y) : LooseN (subN x y) := by
  refine ⟨subN_length x y, fun i => ?_⟩
  have h1 := hx.le i
  have h2 := twoP_le i
  rw [subN, upd_dg _ _ _ _ (by simp [twoP])]
  split
  · rw [subF]; omega
  · omega
theorem subN_val (x y : List Nat) (hy : SmallN y) : val (subN x y) + val y = val x + 2 * Cu.P25 := by
  rw [subN, upd_all _ _ rfl]
  have h0 := hy.le 0
  have h1 := hy.le 1
  have h2 := hy.le 2
  have h3 := hy.le 3
  have h4 := hy.le 4
  simp only [val, subF, twoP, dg, List.getD_cons_zero, List.getD_cons_succ] at *
  rw [p25_lit]
  generalize y.getD 0 0 = y0 at *
  generalize y.getD 1 0 = y1 at *
  generalize y.getD 2 0 = y2 at *
  generalize y.getD 3 0 = y3 at *
  generalize y.getD 4 0 = y4 at *
  omega
theorem subN_fq (x y : List Nat) (hy : SmallN y) : Cu.fq (val (subN x y) : Int) = Cu.fq (val x : Int) - Cu.fq (val y : Int) := by
  have h := subN_val x y hy
  have e : Cu.fq (val x : Int) = Cu.fq ((val (subN x y) + val y : Nat) : Int) := fq_nat h.symm
  rw [Int.natCast_add, Cu.fq_add] at e
  rw [e]
  clear h e
  grind

/-! products -/
/-- what limb i of x is multiplied with in the column k -/
def cf (y : List Nat) (k i : Nat) : Nat := if i ≤ k then dg y (k - i) else 19 * dg y (k + 5 - i)
def inn (x y : List Nat) (k a : Nat) : Nat → Nat
  | 0 => a
  | i + 1 => inn x y k a i + dg x i * cf y k i
def mst (x y : List Nat) : Nat → List Nat × Nat
  | 0 => (List.replicate 5 0, 0)
  | k + 1 => ((mst x y k).1.set k (inn x y k (mst x y k).2 5 % 2251799813685248), inn x y k (mst x y k).2 5 / 2251799813685248)
def preN (x y : List Nat) : List Nat := (mst x y 5).1.set 0 (dg (mst x y 5).1 0 + 19 * (mst x y 5).2)
def mulN (x y : List Nat) : List Nat := carryN (preN x y)
theorem mst_length (x y : List Nat) : ∀ k, (mst x y k).1.length = 5
  | 0 => by simp [mst]
  | k + 1 => by rw [mst, List.length_set, mst_length]
theorem cf_le (y : List Nat) (hy : LooseN y) (k i : Nat) : cf y k i ≤ 171136785840078829 := by
  unfold cf
  split
  · have := hy.2 (k - i); omega
  · have := hy.2 (k + 5 - i); omega
theorem inn_le (x y : List Nat) (hx : LooseN x) (hy : LooseN y) (k a : Nat) : ∀ i, inn x y k a i ≤ a + i * 1541463129877526609946419417579539
  | 0 => by simp [inn]
  | i + 1 => by
    have h1 := inn_le x y hx hy k a i
    have h2 := Nat.mul_le_mul (hx.2 i) (cf_le y hy k i)
    rw [inn, Nat.add_mul]
    omega
theorem mst_over (x y : List Nat) (hx : LooseN x) (hy : LooseN y) : ∀ k, (mst x y k).2 ≤ 4611686018427387904
  | 0 => by simp [mst]
  | k + 1 => by
    have h1 := mst_over x y hx hy k
    have h2 := inn_le x y hx hy k (mst x y k).2 5
    show inn x y k (mst x y k).2 5 / 2251799813685248 ≤ _
    omega
theorem inn_all (x y : List Nat) (hx : LooseN x) (hy : LooseN y) (k i : Nat) (hi : i ≤ 5) : inn x y k (mst x y k).2 i ≤ 10384593717069655257060992658440192 := by
  have h1 := mst_over x y hx hy k
  have h2 := inn_le x y hx hy k (mst x y k).2 i
  have h3 := Nat.mul_le_mul_right 1541463129877526609946419417579539 hi
  omega
theorem mst_last (x y : List Nat) (hx : LooseN x) (hy : LooseN y) : (mst x y 5).2 ≤ 288230376151711744 := by
  have h1 := mst_over x y hx hy 4
  show inn x y 4 (mst x y 4).2 5 / 2251799813685248 ≤ _
  generalize (mst x y 4).2 = a at h1 ⊢
  have m : ∀ i j, dg x i * dg y j ≤ 9007199254740991 * 9007199254740991 := fun i j => Nat.mul_le_mul (hx.2 i) (hy.2 j)
  have e0 := m 0 4
  have e1 := m 1 3
  have e2 := m 2 2
  have e3 := m 3 1
  have e4 := m 4 0
  have hq : inn x y 4 a 5 = a + dg x 0 * dg y 4 + dg x 1 * dg y 3 + dg x 2 * dg y 2 + dg x 3 * dg y 1 + dg x 4 * dg y 0 := rfl
  rw [hq]
  generalize dg x 0 * dg y 4 = q0 at *
  generalize dg x 1 * dg y 3 = q1 at *
  generalize dg x 2 * dg y 2 = q2 at *
  generalize dg x 3 * dg y 1 = q3 at *
  generalize dg x 4 * dg y 0 = q4 at *
  clear hq m
  omega
theorem mst_below (x y : List Nat) : ∀ k i, k ≤ 5 → dg (mst x y k).1 i < 2251799813685248
  | 0, i, _ => by
    have : dg (mst x y 0).1 i = 0 := by
      simp only [mst, dg, List.getD, List.getElem?_replicate]
      split <;> simp
    omega
  | k + 1, i, hk => by
    rw [mst, dg_set _ _ _ _ (by rw [mst_length]; omega)]
    split
    · exact Nat.mod_lt _ (by omega)
    · exact mst_below x y k i (by omega)
theorem preN_length (x y : List Nat) : (preN x y).length = 5 := by rw [preN, List.length_set, mst_length]
theorem preN_le (x y : List Nat) (hx : LooseN x) (hy : LooseN y) (i : Nat) : dg (preN x y) i ≤ 9221120237041090560 ∧ (1 ≤ i → dg (preN x y) i ≤ 2251799813685247) := by
  have h1 := mst_last x y hx hy
  have h2 := mst_below x y 5 i (by omega)
  have h3 := mst_below x y 5 0 (by omega)
  rw [preN, dg_set _ _ _ _ (by rw [mst_length]; omega)]
  split
  · omega
  · omega
theorem preN_val_lt (x y : List Nat) (hx : LooseN x) (hy : LooseN y) : val (preN x y) < 2 * 57896044618658097711785492504343953926634992332820282019728792003956564819968 := by
  have h0 := (preN_le x y hx hy 0).1
  have h1 := (preN_le x y hx hy 1).2 (by omega)
  have h2 := (preN_le x y hx hy 2).2 (by omega)
  have h3 := (preN_le x y hx hy 3).2 (by omega)
  have h4 := (preN_le x y hx hy 4).2 (by omega)
  rw [val]
  omega
theorem mulN_small (x y : List Nat) (hx : LooseN x) (hy : LooseN y) : SmallN (mulN x y) := carryN_small _ (preN_length x y) (preN_val_lt x y hx hy)
/-- the columns together -/
theorem prod_id (b x0 x1 x2 x3 x4 y0 y1 y2 y3 y4 : Int) :
    (x0 + x1*b + x2*(b*b) + x3*(b*b*b) + x4*(b*b*b*b)) * (y0 + y1*b + y2*(b*b) + y3*(b*b*b) + y4*(b*b*b*b)) =
      (x0*y0 + x1*(19*y4) + x2*(19*y3) + x3*(19*y2) + x4*(19*y1)) + (x0*y1 + x1*y0 + x2*(19*y4) + x3*(19*y3) + x4*(19*y2))*b + (x0*y2 + x1*y1 + x2*y0 + x3*(19*y4) + x4*(19*y3))*(b*b)
        + (x0*y3 + x1*y2 + x2*y1 + x3*y0 + x4*(19*y4))*(b*b*b) + (x0*y4 + x1*y3 + x2*y2 + x3*y1 + x4*y0)*(b*b*b*b)
        + (b*b*b*b*b - 19)*((x1*y4 + x2*y3 + x3*y2 + x4*y1) + (x2*y4 + x3*y3 + x4*y2)*b + (x3*y4 + x4*y3)*(b*b) + (x4*y4)*(b*b*b)) := by grind
theorem mst_sum (x y : List Nat) : val (mst x y 5).1 + (mst x y 5).2 * 57896044618658097711785492504343953926634992332820282019728792003956564819968 =
    (dg x 0*dg y 0 + dg x 1*(19*dg y 4) + dg x 2*(19*dg y 3) + dg x 3*(19*dg y 2) + dg x 4*(19*dg y 1)) + (dg x 0*dg y 1 + dg x 1*dg y 0 + dg x 2*(19*dg y 4) + dg x 3*(19*dg y 3) + dg x 4*(19*dg y 2))*2251799813685248 + (dg x 0*dg y 2 + dg x 1*dg y 1 + dg x 2*dg y 0 + dg x 3*(19*dg y 4) + dg x 4*(19*dg y 3))*5070602400912917605986812821504
        + (dg x 0*dg y 3 + dg x 1*dg y 2 + dg x 2*dg y 1 + dg x 3*dg y 0 + dg x 4*(19*dg y 4))*11417981541647679048466287755595961091061972992 + (dg x 0*dg y 4 + dg x 1*dg y 3 + dg x 2*dg y 2 + dg x 3*dg y 1 + dg x 4*dg y 0)*25711008708143844408671393477458601640355247900524685364822016 := by
  have e : ∀ k, k < 5 → dg (mst x y 5).1 k = inn x y k (mst x y k).2 5 % 2251799813685248 ∧ (mst x y (k + 1)).2 = inn x y k (mst x y k).2 5 / 2251799813685248 := by
    intro k hk
    refine ⟨?_, rfl⟩
    have h1 : ∀ m, k < m → m ≤ 5 → dg (mst x y m).1 k = inn x y k (mst x y k).2 5 % 2251799813685248 := by
      intro m
      induction m with
      | zero => intro h; omega
      | succ m ih =>
        intro h hm
        rw [mst, dg_set _ _ _ _ (by rw [mst_length]; omega)]
        by_cases e : k = m
        · subst e; rw [if_pos rfl]
        · rw [if_neg e]; exact ih (by omega) (by omega)
    exact h1 5 hk (by omega)
  obtain ⟨b0, c0⟩ := e 0 (by omega)
  obtain ⟨b1, c1⟩ := e 1 (by omega)
  obtain ⟨b2, c2⟩ := e 2 (by omega)
  obtain ⟨b3, c3⟩ := e 3 (by omega)
  obtain ⟨b4, c4⟩ := e 4 (by omega)
  clear e
  have a0 : inn x y 0 (mst x y 0).2 5 = dg x 0*dg y 0 + dg x 1*(19*dg y 4) + dg x 2*(19*dg y 3) + dg x 3*(19*dg y 2) + dg x 4*(19*dg y 1) := by
    show 0 + _ + _ + _ + _ + _ = _
    rw [Nat.zero_add]
    rfl
  have a1 : inn x y 1 (mst x y 1).2 5 = (mst x y 1).2 + (dg x 0*dg y 1 + dg x 1*dg y 0 + dg x 2*(19*dg y 4) + dg x 3*(19*dg y 3) + dg x 4*(19*dg y 2)) := by
    show (mst x y 1).2 + dg x 0*dg y 1 + dg x 1*dg y 0 + dg x 2*(19*dg y 4) + dg x 3*(19*dg y 3) + dg x 4*(19*dg y 2) = _
    simp only [Nat.add_assoc]
  have a2 : inn x y 2 (mst x y 2).2 5 = (mst x y 2).2 + (dg x 0*dg y 2 + dg x 1*dg y 1 + dg x 2*dg y 0 + dg x 3*(19*dg y 4) + dg x 4*(19*dg y 3)) := by
    show (mst x y 2).2 + dg x 0*dg y 2 + dg x 1*dg y 1 + dg x 2*dg y 0 + dg x 3*(19*dg y 4) + dg x 4*(19*dg y 3) = _
    simp only [Nat.add_assoc]
  have a3 : inn x y 3 (mst x y 3).2 5 = (mst x y 3).2 + (dg x 0*dg y 3 + dg x 1*dg y 2 + dg x 2*dg y 1 + dg x 3*dg y 0 + dg x 4*(19*dg y 4)) := by
    show (mst x y 3).2 + dg x 0*dg y 3 + dg x 1*dg y 2 + dg x 2*dg y 1 + dg x 3*dg y 0 + dg x 4*(19*dg y 4) = _
    simp only [Nat.add_assoc]
  have a4 : inn x y 4 (mst x y 4).2 5 = (mst x y 4).2 + (dg x 0*dg y 4 + dg x 1*dg y 3 + dg x 2*dg y 2 + dg x 3*dg y 1 + dg x 4*dg y 0) := by
    show (mst x y 4).2 + dg x 0*dg y 4 + dg x 1*dg y 3 + dg x 2*dg y 2 + dg x 3*dg y 1 + dg x 4*dg y 0 = _
    simp only [Nat.add_assoc]
  rw [val, b0, b1, b2, b3, b4, ← a0]
  generalize (dg x 0*dg y 1 + dg x 1*dg y 0 + dg x 2*(19*dg y 4) + dg x 3*(19*dg y 3) + dg x 4*(19*dg y 2)) = p1 at a1 ⊢
  generalize (dg x 0*dg y 2 + dg x 1*dg y 1 + dg x 2*dg y 0 + dg x 3*(19*dg y 4) + dg x 4*(19*dg y 3)) = p2 at a2 ⊢
  generalize (dg x 0*dg y 3 + dg x 1*dg y 2 + dg x 2*dg y 1 + dg x 3*dg y 0 + dg x 4*(19*dg y 4)) = p3 at a3 ⊢
  generalize (dg x 0*dg y 4 + dg x 1*dg y 3 + dg x 2*dg y 2 + dg x 3*dg y 1 + dg x 4*dg y 0) = p4 at a4 ⊢
  clear a0 b0 b1 b2 b3 b4
  rw [show (4 : Nat) + 1 = 5 from rfl] at c4
  rw [show (3 : Nat) + 1 = 4 from rfl] at c3
  rw [show (2 : Nat) + 1 = 3 from rfl] at c2
  rw [show (1 : Nat) + 1 = 2 from rfl] at c1
  rw [show (0 : Nat) + 1 = 1 from rfl] at c0
  have g0 := Nat.div_add_mod (inn x y 0 (mst x y 0).2 5) 2251799813685248
  have g1 := Nat.div_add_mod (inn x y 1 (mst x y 1).2 5) 2251799813685248
  have g2 := Nat.div_add_mod (inn x y 2 (mst x y 2).2 5) 2251799813685248
  have g3 := Nat.div_add_mod (inn x y 3 (mst x y 3).2 5) 2251799813685248
  have g4 := Nat.div_add_mod (inn x y 4 (mst x y 4).2 5) 2251799813685248
  rw [← c0] at g0
  rw [← c1] at g1
  rw [← c2] at g2
  rw [← c3] at g3
  rw [← c4] at g4
  rw [a1] at g1 ⊢
  rw [a2] at g2 ⊢
  rw [a3] at g3 ⊢
  rw [a4] at g4 ⊢
  clear a1 a2 a3 a4 c0 c1 c2 c3 c4
  generalize inn x y 0 (mst x y 0).2 5 = s0 at *
  generalize (mst x y 1).2 = u1 at *
  generalize (mst x y 2).2 = u2 at *
  generalize (mst x y 3).2 = u3 at *
  generalize (mst x y 4).2 = u4 at *
  generalize (mst x y 5).2 = u5 at *
  generalize s0 % 2251799813685248 = r0 at *
  generalize (u1 + p1) % 2251799813685248 = r1 at *
  generalize (u2 + p2) % 2251799813685248 = r2 at *
  generalize (u3 + p3) % 2251799813685248 = r3 at *
  generalize (u4 + p4) % 2251799813685248 = r4 at *
  omega
theorem mulN_fq (x y : List Nat) : Cu.fq (val (mulN x y) : Int) = Cu.fq (val x : Int) * Cu.fq (val y : Int) := by
  rw [mulN, fq_carryN _ (preN_length x y), ← Cu.fq_mul, preN, val_set0 _ _ (mst_length x y 5)]
  have h := mst_sum x y
  have hp := prod_id 2251799813685248 (dg x 0) (dg x 1) (dg x 2) (dg x 3) (dg x 4) (dg y 0) (dg y 1) (dg y 2) (dg y 3) (dg y 4)
  rw [show ((2251799813685248 : Int)*2251799813685248) = 5070602400912917605986812821504 by decide, show ((5070602400912917605986812821504 : Int)*2251799813685248) = 11417981541647679048466287755595961091061972992 by decide, show ((11417981541647679048466287755595961091061972992 : Int)*2251799813685248) = 25711008708143844408671393477458601640355247900524685364822016 by decide, show ((25711008708143844408671393477458601640355247900524685364822016 : Int)*2251799813685248) = 57896044618658097711785492504343953926634992332820282019728792003956564819968 by decide] at hp
  have hvx : (val x : Int) = (dg x 0 : Int) + dg x 1 * 2251799813685248 + dg x 2 * 5070602400912917605986812821504 + dg x 3 * 11417981541647679048466287755595961091061972992 + dg x 4 * 25711008708143844408671393477458601640355247900524685364822016 := by rw [val]; omega
  have hvy : (val y : Int) = (dg y 0 : Int) + dg y 1 * 2251799813685248 + dg y 2 * 5070602400912917605986812821504 + dg y 3 * 11417981541647679048466287755595961091061972992 + dg y 4 * 25711008708143844408671393477458601640355247900524685364822016 := by rw [val]; omega
  rw [← hvx, ← hvy] at hp
  have hi := congrArg (fun n : Nat => (n : Int)) h
  simp only [Int.natCast_add, Int.natCast_mul, Int.cast_ofNat_Int] at hi
  rw [hp]
  generalize ((dg x 1 : Int) * dg y 4 + dg x 2 * dg y 3 + dg x 3 * dg y 2 + dg x 4 * dg y 1 + (dg x 2 * dg y 4 + dg x 3 * dg y 3 + dg x 4 * dg y 2) * 2251799813685248 + (dg x 3 * dg y 4 + dg x 4 * dg y 3) * 5070602400912917605986812821504 + dg x 4 * dg y 4 * 11417981541647679048466287755595961091061972992) = Q
  rw [← hi]
  apply Cu.fq_of_mod
  generalize (mst x y 5).2 = o
  generalize val (mst x y 5).1 = v
  have e : (v : Int) + (o : Int) * 57896044618658097711785492504343953926634992332820282019728792003956564819968 + (57896044618658097711785492504343953926634992332820282019728792003956564819968 - 19) * Q = ((v + 19 * o : Nat) : Int) + (o + Q) * (Cu.P25 : Int) := by
    rw [p25_lit, show ((57896044618658097711785492504343953926634992332820282019728792003956564819949 : Nat) : Int) = 57896044618658097711785492504343953926634992332820282019728792003956564819949 from rfl, Int.natCast_add, Int.natCast_mul, Int.add_mul]
    omega
  rw [e, Int.add_mul_emod_self_right]
end Go.Proofs.Ytgdgecehmnokdaa.Cv
