/-
  Digits to the base 65536: carrying, and the class of a number. No statement is proved here.
-/
import Derived.Test.YtgdgecehmnokdaaCuGroup
namespace Go.Proofs.Ytgdgecehmnokdaa.Cu
/-- the number of digits to the base 65536, which may be greater, or negative -/
def valL : List Int → Int
  | [] => 0
  | x :: r => x + 65536 * valL r
theorem valL_append : ∀ a b : List Int, valL (a ++ b) = valL a + 65536^a.length * valL b
  | [], b => by simp [valL]
  | x :: a, b => by
    have := valL_append a b
    simp only [List.cons_append, valL, this, List.length_cons, Int.pow_succ]
    rw [Int.mul_add, ← Int.mul_assoc, Int.mul_comm (65536^a.length) 65536, Int.add_assoc]
theorem valL_set : ∀ (l : List Int) (i : Nat) (x : Int), i < l.length → valL (l.set i x) = valL l + (x - l.getD i 0) * 65536^i
  | [], i, x, h => by simp at h
  | y :: l, 0, x, _ => by simp [valL]; omega
  | y :: l, i+1, x, h => by
    have := valL_set l i x (by simpa using h)
    simp only [List.set_cons_succ, valL, this, List.getD_cons_succ, Int.pow_succ]
    generalize (x - l.getD i 0) = d
    generalize (65536 : Int)^i = q
    rw [Int.mul_add, ← Int.mul_assoc d q, Int.mul_comm (d*q) 65536]; omega
/-- digits made small, the carry that is left -/
def chain : List Int → Int → List Int × Int
  | [], c => ([], c)
  | x :: r, c => ((x + c) % 65536 :: (chain r ((x + c) / 65536)).1, (chain r ((x + c) / 65536)).2)
theorem chain_length : ∀ (l : List Int) (c : Int), (chain l c).1.length = l.length
  | [], _ => rfl
  | x :: r, c => by simp [chain, chain_length r]
theorem chain_val : ∀ (l : List Int) (c : Int), valL (chain l c).1 + 65536^l.length * (chain l c).2 = valL l + c
  | [], c => by simp [valL, chain]
  | x :: r, c => by
    have := chain_val r ((x + c) / 65536)
    simp only [chain, valL, List.length_cons, Int.pow_succ]
    generalize (chain r ((x + c) / 65536)).2 = k at *
    generalize valL (chain r ((x + c) / 65536)).1 = v at *
    generalize (65536 : Int)^r.length = q at *
    have e : q * 65536 * k = 65536 * (q * k) := by rw [Int.mul_comm q, Int.mul_assoc]
    rw [e]
    omega
theorem chain_digit : ∀ (l : List Int) (c : Int), ∀ d ∈ (chain l c).1, 0 ≤ d ∧ d ≤ 65535
  | [], _, d, h => by simp [chain] at h
  | x :: r, c, d, h => by
    simp only [chain, List.mem_cons] at h
    rcases h with h | h
    · subst h; omega
    · exact chain_digit r _ d h
theorem chain_snoc : ∀ (l : List Int) (c x : Int), chain (l ++ [x]) c = ((chain l c).1 ++ [(x + (chain l c).2) % 65536], (x + (chain l c).2) / 65536)
  | [], c, x => by simp [chain]
  | y :: r, c, x => by simp [chain, chain_snoc r]
theorem chain_bound (M : Int) (hM : 2 ≤ M) : ∀ (l : List Int) (c : Int), (∀ x ∈ l, -M ≤ x ∧ x ≤ M) → -M ≤ c → c ≤ M → -M ≤ (chain l c).2 ∧ (chain l c).2 ≤ M
  | [], c, _, h1, h2 => ⟨h1, h2⟩
  | x :: r, c, h, h1, h2 => by
    have hx := h x (by simp)
    exact chain_bound M hM r _ (fun y hy => h y (by simp [hy])) (by omega) (by omega)
theorem chain_small : ∀ (l : List Int) (c : Int), (∀ x ∈ l, 0 ≤ x ∧ x ≤ 65535) → -1 ≤ c → c ≤ 1 → -1 ≤ (chain l c).2 ∧ (chain l c).2 ≤ 1
  | [], c, _, h1, h2 => ⟨h1, h2⟩
  | x :: r, c, h, h1, h2 => by
    have hx := h x (by simp)
    exact chain_small r _ (fun y hy => h y (by simp [hy])) (by omega) (by omega)
/-- what carried makes of digits -/
def carL (l : List Int) : List Int :=
  match (chain l 0).1 with
  | [] => []
  | d :: r => (d + 38 * (chain l 0).2) :: r
theorem carL_length (l : List Int) : (carL l).length = l.length := by
  have h := chain_length l 0
  unfold carL
  cases e : (chain l 0).1 with
  | nil => rw [e] at h; exact h
  | cons d r => rw [e] at h; exact h
theorem carL_val (l : List Int) (h : l.length = 16) : valL (carL l) = valL l - (chain l 0).2 * (65536^16 - 38) := by
  have h1 := chain_length l 0
  have h2 := chain_val l 0
  rw [h] at h1 h2
  unfold carL
  cases e : (chain l 0).1 with
  | nil => rw [e] at h1; simp at h1
  | cons d r =>
    rw [e] at h2
    simp only [valL] at h2 ⊢
    generalize (chain l 0).2 = k at *
    omega
/-- the digits that a product has -/
def Good (r : List Int) : Prop := r.length = 16 ∧ -38 ≤ r.getD 0 0 ∧ r.getD 0 0 ≤ 65573 ∧ ∀ i, 1 ≤ i → i < 16 → 0 ≤ r.getD i 0 ∧ r.getD i 0 ≤ 65535
theorem getD_mem {l : List Int} {i : Nat} (h : i < l.length) : l.getD i 0 ∈ l := by
  rw [List.getD_eq_getElem?_getD, List.getElem?_eq_getElem h]; simp
/-- after one carrying: all digits but the first are small -/
theorem carL_first (M : Int) (hM : 65536 ≤ M) (l : List Int) (h : l.length = 16) (hb : ∀ x ∈ l, -M ≤ x ∧ x ≤ M) : ∃ d r, carL l = d :: r ∧ -38 * (M/32768 + 1) ≤ d ∧ d ≤ 65535 + 38 * (M/32768 + 1) ∧ ∀ x ∈ r, 0 ≤ x ∧ x ≤ 65535 := by
  have h1 := chain_length l 0
  rw [h] at h1
  have hd := chain_digit l 0
  have hl : l = l.take 15 ++ [l.getD 15 0] := by
    match l, h with
    | [a0, a1, a2, a3, a4, a5, a6, a7, a8, a9, a10, a11, a12, a13, a14, a15], _ => rfl
  have hc : -(M/32768 + 1) ≤ (chain l 0).2 ∧ (chain l 0).2 ≤ M/32768 + 1 := by
    rw [hl, chain_snoc]
    have hx := hb (l.getD 15 0) (getD_mem (by omega))
    have hk := chain_bound M (by omega) (l.take 15) 0 (fun x hx => hb x (List.mem_of_mem_take hx)) (by omega) (by omega)
    dsimp only
    generalize l.getD 15 0 = x at *
    generalize (chain (l.take 15) 0).2 = k at *
    omega
  unfold carL
  cases e : (chain l 0).1 with
  | nil => rw [e] at h1; simp at h1
  | cons d r =>
    rw [e] at hd
    have hd0 := hd d (by simp)
    refine ⟨_, r, rfl, ?_, ?_, fun x hx => hd x (by simp [hx])⟩
    · generalize (chain l 0).2 = k at *; omega
    · generalize (chain l 0).2 = k at *; omega
theorem carL_good (l : List Int) (h : l.length = 16) (hb : ∀ x ∈ l, -1125899906842624 ≤ x ∧ x ≤ 1125899906842624) : Good (carL (carL l)) := by
  obtain ⟨d, r, e, h1, h2, hr⟩ := carL_first 1125899906842624 (by omega) l h hb
  have hl := carL_length l
  rw [e] at hl ⊢
  rw [h] at hl
  match r, hl with
  | [a1, a2, a3, a4, a5, a6, a7, a8, a9, a10, a11, a12, a13, a14, a15], _ =>
    have r1 := hr a1 (by simp)
    have r2 := hr a2 (by simp)
    have hk := chain_small [a3, a4, a5, a6, a7, a8, a9, a10, a11, a12, a13, a14, a15] ((a2 + (a1 + (d + 0) / 65536) / 65536) / 65536) (fun x hx => hr x (by simp only [List.mem_cons] at hx ⊢; exact .inr (.inr hx))) (by omega) (by omega)
    have hg := chain_digit [d, a1, a2, a3, a4, a5, a6, a7, a8, a9, a10, a11, a12, a13, a14, a15] 0
    have hl2 := carL_length [d, a1, a2, a3, a4, a5, a6, a7, a8, a9, a10, a11, a12, a13, a14, a15]
    have hk2 : (chain [d, a1, a2, a3, a4, a5, a6, a7, a8, a9, a10, a11, a12, a13, a14, a15] 0).2 = (chain [a3, a4, a5, a6, a7, a8, a9, a10, a11, a12, a13, a14, a15] ((a2 + (a1 + (d + 0) / 65536) / 65536) / 65536)).2 := rfl
    rw [← hk2] at hk
    clear hk2 hr
    unfold carL at hl2 ⊢
    cases e2 : (chain [d, a1, a2, a3, a4, a5, a6, a7, a8, a9, a10, a11, a12, a13, a14, a15] 0).1 with
    | nil => have := chain_length [d, a1, a2, a3, a4, a5, a6, a7, a8, a9, a10, a11, a12, a13, a14, a15] 0; rw [e2] at this; simp at this
    | cons x y =>
      rw [e2] at hg hl2
      have h0 := hg x (by simp)
      generalize (chain [d, a1, a2, a3, a4, a5, a6, a7, a8, a9, a10, a11, a12, a13, a14, a15] 0).2 = k at *
      refine ⟨hl2, ?_, ?_, fun i hi hi2 => ?_⟩
      · simp only [List.getD_cons_zero]; omega
      · simp only [List.getD_cons_zero]; omega
      · match i, hi with
        | i+1, _ =>
          rw [List.getD_cons_succ]
          exact hg _ (by
            have : i < y.length := by simp only [List.length_cons] at hl2; omega
            exact List.mem_cons_of_mem _ (getD_mem this))
/-- the class of a number -/
def fq (x : Int) : Fq := ⟨(x % (P25 : Int)).toNat, by
  have h1 := Int.emod_nonneg x (show (P25 : Int) ≠ 0 by decide +kernel)
  have h2 := Int.emod_lt_of_pos x (show (0 : Int) < (P25 : Int) by decide +kernel)
  omega⟩
theorem fq_n (x : Int) : ((fq x).val : Int) = x % (P25 : Int) := Int.toNat_of_nonneg (Int.emod_nonneg x (by decide +kernel))
theorem fq_ext {a b : Fq} (h : (a.val : Int) = (b.val : Int)) : a = b := Fin.ext (by omega)
theorem fq_mul (x y : Int) : fq (x * y) = fq x * fq y := by
  apply fq_ext
  rw [fq_mul_n, Int.natCast_emod, Int.natCast_mul, fq_n, fq_n, fq_n, ← Int.mul_emod]
theorem fq_add (x y : Int) : fq (x + y) = fq x + fq y := by
  apply fq_ext
  rw [Fin.val_add, Int.natCast_emod, Int.natCast_add, fq_n, fq_n, fq_n, ← Int.add_emod]
theorem fq_of_mod {x y : Int} (h : x % (P25 : Int) = y % (P25 : Int)) : fq x = fq y := by
  apply fq_ext
  rw [fq_n, fq_n, h]
theorem fq_sub (x y : Int) : fq (x - y) = fq x - fq y := by
  have h := fq_add (x - y) y
  rw [Int.sub_add_cancel] at h
  rw [h]; clear h; grind
theorem fq_less (x k : Int) : fq (x - k * (65536^16 - 38)) = fq x := by
  apply fq_of_mod
  have e : k * (65536^16 - 38) = (P25 : Int) * (2 * k) := by
    rw [show ((65536 : Int)^16 - 38) = (P25 : Int) * 2 by decide +kernel, Int.mul_comm k, Int.mul_assoc]
  rw [e, Int.sub_eq_add_neg, ← Int.mul_neg, Int.add_mul_emod_self_left]
theorem fq_carL (l : List Int) (h : l.length = 16) : fq (valL (carL l)) = fq (valL l) := by rw [carL_val l h, fq_less]
end Go.Proofs.Ytgdgecehmnokdaa.Cu
