/-
  The mathematics of time stamps over lists of bytes; no function of the program is named here.
-/
import Derived.Test.YtdpdalkeafkhkaaNum
namespace Go.Proofs.Ytdpdalkeafkhkaa
open Go.RowKit

def bigL (n k : Nat) : List UInt8 := (littleL n k).reverse
theorem bigL_length (n k : Nat) : (bigL n k).length = k := by rw [bigL, List.length_reverse, littleL_length]
theorem numB_big (n k : Nat) : numB (bigL n k) = n % 256 ^ k := by
  unfold numB bigL
  rw [List.reverse_reverse, numL_little]
theorem numB_lt (l : List UInt8) : numB l < 256 ^ l.length := by
  have h := numL_lt l.reverse
  rwa [List.length_reverse] at h
theorem numB_cons (x : UInt8) (l : List UInt8) : numB (x :: l) = numB l + 256 ^ l.length * x.toNat := by
  unfold numB
  rw [List.reverse_cons, numL_append, List.length_reverse]
  simp [numL]
theorem numB_append (a b : List UInt8) : numB (a ++ b) = numB b + 256 ^ b.length * numB a := by
  unfold numB
  rw [List.reverse_append, numL_append, List.length_reverse]
/-- bytes of the same length and number are the same -/
theorem numL_inj : ∀ (a b : List UInt8), a.length = b.length → numL a = numL b → a = b
  | [], [], _, _ => rfl
  | [], _ :: _, h, _ => by simp at h
  | _ :: _, [], h, _ => by simp at h
  | x :: a, y :: b, h, e => by
    simp only [numL] at e
    have hx := x.toNat_lt
    have hy := y.toNat_lt
    have h1 : x.toNat = y.toNat := by omega
    rw [numL_inj a b (by simpa using h) (by omega), UInt8.toNat.inj h1]
theorem numB_inj (a b : List UInt8) (h : a.length = b.length) (e : numB a = numB b) : a = b := by
  have := numL_inj a.reverse b.reverse (by simpa using h) e
  simpa using congrArg List.reverse this
theorem bigL_numB (l : List UInt8) : bigL (numB l) l.length = l := by
  refine numB_inj _ _ (bigL_length _ _) ?_
  rw [numB_big, Nat.mod_eq_of_lt (numB_lt l)]

/-- 2^62 + 10 -/
def epochN : Nat := 4611686018427387914
def stampN (t : Nat) : List UInt8 := bigL (epochN + t / 1000) 8 ++ bigL (t % 1000 * 1000000) 4
theorem stampN_length (t : Nat) : (stampN t).length = 12 := by rw [stampN, List.length_append, bigL_length, bigL_length]
/-- the stamp of a time -/
def stampL (t : Int) : List UInt8 := if t < 0 ∨ 1099511627776 < t then List.replicate 12 0 else stampN t.toNat
theorem stampL_length (t : Int) : (stampL t).length = 12 := by
  unfold stampL
  split
  · rfl
  · exact stampN_length _
theorem stampL_nat (t : Nat) (h : t ≤ 1099511627776) : stampL (t : Int) = stampN t := by
  rw [stampL, if_neg (by omega)]
  rfl
/-- the time that the bytes of a stamp tell, if it is one -/
def tickT (s : List UInt8) : Nat := (numB (s.take 8) - epochN) * 1000 + numB (s.drop 8) / 1000000
def tickL (s : List UInt8) : Int × Nat :=
  if numB (s.take 8) < epochN ∨ epochN + 1099511627 < numB (s.take 8) then (0, 5)
  else if 1099511627776 < tickT s ∨ stampN (tickT s) ≠ s then (0, 5) else ((tickT s : Int), 0)
theorem stampN_secs (t : Nat) (h : t ≤ 1099511627776) : numB ((stampN t).take 8) = epochN + t / 1000 := by
  rw [stampN, List.take_append_of_le_length (by rw [bigL_length]; omega), List.take_of_length_le (by rw [bigL_length]; omega), numB_big]
  unfold epochN
  omega
theorem stampN_nanos (t : Nat) : numB ((stampN t).drop 8) = t % 1000 * 1000000 := by
  have e : (stampN t).drop 8 = bigL (t % 1000 * 1000000) 4 := by
    rw [stampN, List.drop_append_of_le_length (by rw [bigL_length]; omega), List.drop_of_length_le (by rw [bigL_length]; omega), List.nil_append]
  rw [e, numB_big]
  omega
theorem tickT_stamp (t : Nat) (h : t ≤ 1099511627776) : tickT (stampN t) = t := by
  rw [tickT, stampN_secs t h, stampN_nanos]
  omega
theorem tickL_stamp (t : Nat) (h : t ≤ 1099511627776) : tickL (stampN t) = ((t : Int), 0) := by
  rw [tickL, stampN_secs t h, tickT_stamp t h, if_neg (by omega), if_neg (fun h1 => h1.elim (fun h2 => by omega) (fun h2 => h2 rfl))]
/-- the first byte in which they differ is greater in a -/
def laterB : List UInt8 → List UInt8 → Bool
  | x :: a, y :: b => if x = y then laterB a b else decide (y < x)
  | _, _ => false
theorem laterB_less : ∀ (a b : List UInt8), a.length = b.length → (!(Op.bytesLess a b || a == b)) = laterB a b
  | [], [], _ => rfl
  | [], _ :: _, h => by simp at h
  | _ :: _, [], h => by simp at h
  | x :: a, y :: b, h => by
    have ih := laterB_less a b (by simpa using h)
    unfold laterB Op.bytesLess
    by_cases e : x = y
    · subst e
      rw [if_pos rfl, ← ih]
      simp
    · rw [if_neg e]
      have e1 : (x == y) = false := by simpa using e
      have e2 : ((x :: a) == (y :: b)) = false := by simp [e]
      rw [e1, e2]
      have h1 : x.toNat ≠ y.toNat := fun h => e (UInt8.toNat.inj h)
      simp only [Bool.false_and, Bool.or_false]
      by_cases h2 : x < y
      · have h3 : ¬ y < x := by rw [UInt8.lt_iff_toNat_lt] at h2 ⊢; omega
        simp [h2, h3]
      · have h3 : y < x := by rw [UInt8.lt_iff_toNat_lt] at h2 ⊢; omega
        simp [h2, h3]
theorem laterB_numB : ∀ (a b : List UInt8), a.length = b.length → laterB a b = decide (numB b < numB a)
  | [], [], _ => by simp [laterB]
  | [], _ :: _, h => by simp at h
  | _ :: _, [], h => by simp at h
  | x :: a, y :: b, h => by
    have hl : a.length = b.length := by simpa using h
    have ih := laterB_numB a b hl
    unfold laterB
    rw [numB_cons, numB_cons, hl]
    by_cases e : x = y
    · subst e
      rw [if_pos rfl, ih]
      congr 1
      exact propext ⟨fun h => by omega, fun h => by omega⟩
    · rw [if_neg e]
      congr 1
      have h1 : x.toNat ≠ y.toNat := fun h => e (UInt8.toNat.inj h)
      have ha := numB_lt a
      have hb := numB_lt b
      rw [hl] at ha
      generalize 256 ^ b.length = p at ha hb
      rw [UInt8.lt_iff_toNat_lt]
      refine propext ⟨fun h => ?_, fun h => ?_⟩
      · obtain ⟨d, hd⟩ : ∃ d, x.toNat = y.toNat + 1 + d := ⟨x.toNat - y.toNat - 1, by omega⟩
        rw [hd, Nat.mul_add, Nat.mul_add, Nat.mul_one]
        have := Nat.zero_le (p * d)
        omega
      · rcases Nat.lt_or_ge y.toNat x.toNat with h2 | h2
        · exact h2
        · exfalso
          obtain ⟨d, hd⟩ : ∃ d, y.toNat = x.toNat + 1 + d := ⟨y.toNat - x.toNat - 1, by omega⟩
          rw [hd, Nat.mul_add, Nat.mul_add, Nat.mul_one] at h
          have := Nat.zero_le (p * d)
          omega
theorem laterB_self (a : List UInt8) : laterB a a = false := by
  rw [laterB_numB a a rfl]
  simp
/-- stamps are in the order of their times -/
theorem laterB_stamp (x y : Nat) (hx : x ≤ 1099511627776) (hy : y ≤ 1099511627776) : laterB (stampN x) (stampN y) = decide (y < x) := by
  rw [laterB_numB _ _ (by rw [stampN_length, stampN_length])]
  have e : ∀ t, t ≤ 1099511627776 → numB (stampN t) = t % 1000 * 1000000 + 256 ^ 4 * (epochN + t / 1000) := by
    intro t ht
    rw [stampN, numB_append, bigL_length, numB_big, numB_big]
    unfold epochN
    omega
  rw [e x hx, e y hy]
  congr 1
  unfold epochN
  exact propext ⟨fun h => by omega, fun h => by omega⟩
theorem stamp_1500 : stampL 1500 = [0x40, 0, 0, 0, 0, 0, 0, 0x0b, 0x1d, 0xcd, 0x65, 0] := by decide +kernel
end Go.Proofs.Ytdpdalkeafkhkaa
