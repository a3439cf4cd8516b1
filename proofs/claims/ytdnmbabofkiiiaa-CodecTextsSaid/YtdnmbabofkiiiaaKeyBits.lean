/-
  Plain mathematics of what a text in base64 stands for, bit by bit: the key that is filled with the characters' bits one after the other is the one of the groups. No statement is proved here.
-/
import Derived.Test.YtdnmbabofkiiiaaBits
namespace Go.Proofs.Ytdnmbabofkiiiaa

/-- bit j of a text: of character j / 6, the most significant one first -/
def tbit (t : List UInt8) (j : Nat) : Nat := (b64V (t.getD (j / 6) 0)).toNat / 2 ^ (5 - j % 6) % 2
theorem tbit_lt (t : List UInt8) (j : Nat) : tbit t j < 2 := Nat.mod_lt _ (by omega)
/-- byte m of the key behind the first J bits: its first x bits -/
def accB (t : List UInt8) (J m : Nat) : Nat → Nat
  | 0 => 0
  | x + 1 => 2 * accB t J m x + (if x < J - 8 * m then tbit t (8 * m + x) else 0)
def kb (t : List UInt8) (J m : Nat) : Nat := accB t J m 8
def keyRow (t : List UInt8) (J : Nat) : List UInt8 := (List.range 32).map fun m => UInt8.ofNat (kb t J m)
theorem keyRow_length (t : List UInt8) (J : Nat) : (keyRow t J).length = 32 := by simp [keyRow]
theorem accB_lt (t : List UInt8) (J m : Nat) : ∀ x, accB t J m x < 2 ^ x
  | 0 => by simp [accB]
  | x + 1 => by
    have := accB_lt t J m x
    have hb := tbit_lt t (8 * m + x)
    rw [accB, Nat.pow_succ]
    split <;> omega
theorem kb_lt (t : List UInt8) (J m : Nat) : kb t J m < 256 := accB_lt t J m 8
theorem kb_zero (t : List UInt8) (m : Nat) : kb t 0 m = 0 := by simp [kb, accB]
theorem keyRow_zero (t : List UInt8) : keyRow t 0 = List.replicate 32 0 := by
  unfold keyRow
  rw [show (fun m => UInt8.ofNat (kb t 0 m)) = fun _ => 0 from funext fun m => by rw [kb_zero]; rfl]
  rfl
/-- the next bit belongs to byte J / 8, place J % 8; the places behind it are still 0 -/
theorem kb_step (t : List UInt8) (J : Nat) : kb t (J + 1) (J / 8) = kb t J (J / 8) + tbit t J * 2 ^ (7 - J % 8) ∧ kb t J (J / 8) % 2 ^ (8 - J % 8) = 0 := by
  have hJ : J = 8 * (J / 8) + J % 8 := by omega
  generalize hm : J / 8 = m at *
  generalize hx : J % 8 = x at *
  have hx8 : x < 8 := by omega
  subst hJ
  have e1 : 8 * m + x - 8 * m = x := by omega
  have e2 : 8 * m + x + 1 - 8 * m = x + 1 := by omega
  simp only [kb, accB, e1, e2]
  clear e1 e2 hm hx
  obtain rfl | rfl | rfl | rfl | rfl | rfl | rfl | rfl : x = 0 ∨ x = 1 ∨ x = 2 ∨ x = 3 ∨ x = 4 ∨ x = 5 ∨ x = 6 ∨ x = 7 := by omega
  all_goals
    simp only [Nat.reduceLT, Nat.reduceAdd, if_true, if_false, Nat.reduceSub, Nat.reducePow, Nat.add_zero, Nat.mul_zero, Nat.lt_irrefl, Nat.zero_lt_one]
    first | omega | (simp only [and_true]; omega)
/-- another byte is as it was -/
theorem kb_other (t : List UInt8) (J m : Nat) (h : m ≠ J / 8) : kb t (J + 1) m = kb t J m := by
  have e : ∀ x, x < 8 → ((x < J + 1 - 8 * m) ↔ (x < J - 8 * m)) := fun x hx => by omega
  simp only [kb, accB, e 0 (by omega), e 1 (by omega), e 2 (by omega), e 3 (by omega), e 4 (by omega), e 5 (by omega), e 6 (by omega), e 7 (by omega)]
theorem keyRow_get (t : List UInt8) (J m : Nat) (h : m < (keyRow t J).length) : (keyRow t J)[m] = UInt8.ofNat (kb t J m) := by simp [keyRow]
/-- a bit that is 0 changes nothing -/
theorem keyRow_skip (t : List UInt8) (J : Nat) (h : tbit t J = 0) : keyRow t (J + 1) = keyRow t J := by
  refine List.ext_getElem (by rw [keyRow_length, keyRow_length]) fun m h1 h2 => ?_
  rw [keyRow_get, keyRow_get]
  by_cases e : m = J / 8
  · subst e
    have := (kb_step t J).1
    rw [h, Nat.zero_mul] at this
    rw [this, Nat.add_zero]
  · rw [kb_other t J m e]
/-- a bit that is 1 is added -/
theorem keyRow_set (t : List UInt8) (J : Nat) (h : tbit t J = 1) (_hJ : J / 8 < 32) : (keyRow t J).set (J / 8) (UInt8.ofNat (kb t J (J / 8) + 2 ^ (7 - J % 8))) = keyRow t (J + 1) := by
  refine List.ext_getElem (by rw [List.length_set, keyRow_length, keyRow_length]) fun m h1 h2 => ?_
  rw [List.getElem_set, keyRow_get, keyRow_get]
  by_cases e : J / 8 = m
  · rw [if_pos e]
    subst e
    rw [(kb_step t J).1, h, Nat.one_mul]
  · rw [if_neg e, kb_other t J m (fun e' => e e'.symm)]

theorem bitsN_bit (K : List UInt8) (a m : Nat) (h : m < 6) : bitsN K a 6 / 2 ^ (5 - m) % 2 = bitK K (a + m) := by
  have b0 := bitK_lt K (a + 0)
  have b1 := bitK_lt K (a + 1)
  have b2 := bitK_lt K (a + 2)
  have b3 := bitK_lt K (a + 3)
  have b4 := bitK_lt K (a + 4)
  have b5 := bitK_lt K (a + 5)
  simp only [bitsN]
  obtain rfl | rfl | rfl | rfl | rfl | rfl : m = 0 ∨ m = 1 ∨ m = 2 ∨ m = 3 ∨ m = 4 ∨ m = 5 := by omega
  all_goals
    simp only [Nat.reduceSub, Nat.reducePow]
    omega
section
variable {t : List UInt8} (hl : t.length = 44)
include hl
theorem digit_at (i : Nat) (hi : i < 43) : (digitsOf t)[i]'(by rw [digits_length t hl]; omega) = t.getD i 0 := by
  rw [getD_lt (by omega)]
  simp only [digitsOf]
  rw [List.getElem_append_left (by simp; omega)]
  simp
theorem digit_last : (digitsOf t)[43]'(by rw [digits_length t hl]; omega) = 65 := by
  simp only [digitsOf]
  rw [List.getElem_append_right (by simp; omega)]
  simp [hl]
theorem bitK_fill (j : Nat) (hj : j < 258) : bitK (fill (digitsOf t) 11) j = tbit t j := by
  have hD := digits_length t hl
  have h1 := sext_fill _ hD (j / 6) (by omega)
  rw [sext_bits _ _ (by rw [fill_length]; omega), digit_at hl _ (by omega)] at h1
  have h2 := bitsN_bit (fill (digitsOf t) 11) (6 * (j / 6)) (j % 6) (by omega)
  rw [h1, show 6 * (j / 6) + j % 6 = j from by omega] at h2
  rw [← h2]
  rfl
theorem bitK_fill_last (m : Nat) (hm : m < 6) : bitK (fill (digitsOf t) 11) (258 + m) = 0 := by
  have hD := digits_length t hl
  have h1 := sext_fill _ hD 43 (by omega)
  rw [sext_bits _ _ (by rw [fill_length]; omega), digit_last hl, show (b64V 65).toNat = 0 from by decide +kernel] at h1
  have h2 := bitsN_bit (fill (digitsOf t) 11) (6 * 43) m hm
  rw [h1, Nat.zero_div] at h2
  exact h2.symm
theorem kb_fill (m : Nat) (hm : m < 32) : kb t 256 m = ((fill (digitsOf t) 11).getD m 0).toNat := by
  have hb := ((fill (digitsOf t) 11).getD m 0).toNat_lt
  have e : ∀ x, x < 8 → (x < 256 - 8 * m) ∧ tbit t (8 * m + x) = ((fill (digitsOf t) 11).getD m 0).toNat / 2 ^ (7 - x) % 2 := by
    intro x hx
    refine ⟨by omega, ?_⟩
    rw [← bitK_fill hl _ (by omega)]
    unfold bitK
    rw [show (8 * m + x) / 8 = m from by omega, show (8 * m + x) % 8 = x from by omega]
  simp only [kb, accB, if_pos (e 0 (by omega)).1, if_pos (e 1 (by omega)).1, if_pos (e 2 (by omega)).1, if_pos (e 3 (by omega)).1, if_pos (e 4 (by omega)).1, if_pos (e 5 (by omega)).1, if_pos (e 6 (by omega)).1, if_pos (e 7 (by omega)).1]
  rw [(e 0 (by omega)).2, (e 1 (by omega)).2, (e 2 (by omega)).2, (e 3 (by omega)).2, (e 4 (by omega)).2, (e 5 (by omega)).2, (e 6 (by omega)).2, (e 7 (by omega)).2]
  generalize ((fill (digitsOf t) 11).getD m 0).toNat = b at hb ⊢
  clear e hl
  simp only [Nat.reduceSub, Nat.reducePow]
  omega
theorem fill_keyRow : (fill (digitsOf t) 11).take 32 = keyRow t 256 := by
  refine List.ext_getElem (by rw [keyRow_length, List.length_take, fill_length]; rfl) fun m h1 h2 => ?_
  have hm : m < 32 := by rwa [keyRow_length] at h2
  rw [keyRow_get, kb_fill hl m hm, List.getElem_take, ← getD_lt (l := fill (digitsOf t) 11) (by rw [fill_length]; omega)]
  exact UInt8.toNat_inj.1 (by rw [UInt8.toNat_ofNat', Nat.mod_eq_of_lt (UInt8.toNat_lt _)])
theorem fill_last : (fill (digitsOf t) 11).getD 32 0 = 0 ↔ tbit t 256 = 0 ∧ tbit t 257 = 0 := by
  rw [← bitK_fill hl 256 (by omega), ← bitK_fill hl 257 (by omega)]
  have z : ∀ m, m < 6 → ((fill (digitsOf t) 11).getD 32 0).toNat / 2 ^ (5 - m) % 2 = 0 := by
    intro m hm
    have := bitK_fill_last hl m hm
    unfold bitK at this
    rwa [show (258 + m) / 8 = 32 from by omega, show 7 - (258 + m) % 8 = 5 - m from by omega] at this
  have z0 := z 0 (by omega)
  have z1 := z 1 (by omega)
  have z2 := z 2 (by omega)
  have z3 := z 3 (by omega)
  have z4 := z 4 (by omega)
  have z5 := z 5 (by omega)
  have hb := ((fill (digitsOf t) 11).getD 32 0).toNat_lt
  have e : (fill (digitsOf t) 11).getD 32 0 = 0 ↔ ((fill (digitsOf t) 11).getD 32 0).toNat = 0 := by
    rw [← UInt8.toNat_inj]; rfl
  rw [e]
  unfold bitK
  simp only [show 256 / 8 = 32 from rfl, show 7 - 256 % 8 = 7 from rfl, show 7 - 257 % 8 = 6 from rfl]
  generalize ((fill (digitsOf t) 11).getD 32 0).toNat = b at *
  clear e z hl
  simp only [Nat.reduceSub, Nat.reducePow] at *
  omega
theorem allOk_chars : allOk (digitsOf t) 11 = true ↔ ∀ i, i < 43 → valid (t.getD i 0) = true := by
  have hD := digits_length t hl
  constructor
  · intro h i hi
    have := allOk_get _ hD h i (by omega)
    rwa [digit_at hl i hi] at this
  · intro h
    unfold allOk grpOk
    rw [List.all_eq_true]
    intro g _
    rw [List.all_eq_true]
    intro c hc
    have hc' : c ∈ digitsOf t := List.mem_of_mem_drop (List.mem_of_mem_take hc)
    obtain ⟨i, hi, rfl⟩ := List.getElem_of_mem hc'
    by_cases hi43 : i < 43
    · rw [digit_at hl i hi43]
      exact h i hi43
    · obtain rfl : i = 43 := by omega
      rw [digit_last hl]
      decide +kernel
end
/-- what the text of a key stands for, by its bits -/
theorem parseK_bits (t : List UInt8) (hl : t.length = 44) (h61 : t.getD 43 0 = 61) :
    ((∀ i, i < 43 → valid (t.getD i 0) = true) ∧ tbit t 256 = 0 ∧ tbit t 257 = 0 → parseK t = some (keyRow t 256)) ∧
    ((∃ i, i < 43 ∧ valid (t.getD i 0) = false) ∨ tbit t 256 ≠ 0 ∨ tbit t 257 ≠ 0 → parseK t = none) := by
  constructor
  · rintro ⟨h1, h2⟩
    unfold parseK
    rw [if_pos ⟨hl, h61⟩, if_pos ⟨(allOk_chars hl).2 h1, (fill_last hl).2 h2⟩, fill_keyRow hl]
  · intro h
    unfold parseK
    rw [if_pos ⟨hl, h61⟩, if_neg]
    rintro ⟨h1, h2⟩
    have h1' := (allOk_chars hl).1 h1
    have h2' := (fill_last hl).1 h2
    rcases h with ⟨i, hi, hv⟩ | h | h
    · rw [h1' i hi] at hv
      cases hv
    · exact h h2'.1
    · exact h h2'.2
end Go.Proofs.Ytdnmbabofkiiiaa
