/-
  Prefixes that are addresses with bits cleared: valid, and what they contain. No statement is proved here.
-/
import Derived.Test.YtdpdalkeafkhkaaCodes5
import Derived.Test.YtdpdalkeafkhkaaInRef3
namespace Go.Proofs.Ytdpdalkeafkhkaa
open Go.RowKit

theorem bit_clear_all : ∀ m : Fin 8, ∀ k : Fin 8, ∀ x : Fin 256, (clearBit (UInt8.ofNat x.val) m.val).toNat / 2 ^ (7 - k.val) % 2 = if k = m then 0 else x.val / 2 ^ (7 - k.val) % 2 := by decide +kernel
theorem bit_clear (x : UInt8) (m k : Nat) (hm : m < 8) (hk : k < 8) : (clearBit x m).toNat / 2 ^ (7 - k) % 2 = if k = m then 0 else x.toNat / 2 ^ (7 - k) % 2 := by
  have h := bit_clear_all ⟨m, hm⟩ ⟨k, hk⟩ ⟨x.toNat, x.toNat_lt⟩
  simp only [UInt8.ofNat_toNat, Fin.mk.injEq] at h
  exact h
theorem clear_zero : ∀ m : Fin 8, clearBit 0 m.val = 0 := by decide
theorem mask_bit (ip : List UInt8) (hl : ip.length = 16) (b i : Nat) (hi : i < 128) : ∀ j, b + j ≤ 128 → bitM (clearS ip b j) i = if b ≤ i ∧ i < b + j then 0 else bitM ip i
  | 0, _ => by rw [if_neg (by omega)]; rfl
  | j + 1, h => by
    have ih := mask_bit ip hl b i hi j (by omega)
    have hml := clearS_length ip b j
    rw [clearS]
    generalize clearS ip b j = y at ih hml ⊢
    by_cases hq : i / 8 = (b + j) / 8
    · rw [bitM, hq, List.getD_eq_getElem?_getD, List.getElem?_set_self (by omega), Option.getD_some, bit_clear _ _ _ (by omega) (by omega)]
      rw [bitM, hq] at ih
      by_cases he : i % 8 = (b + j) % 8
      · rw [if_pos he, if_pos (by omega)]
      · rw [if_neg he, ih]
        by_cases hc : b ≤ i ∧ i < b + j
        · rw [if_pos hc, if_pos (by omega)]
        · rw [if_neg hc, if_neg (by omega)]
    · rw [bitM, List.getD_eq_getElem?_getD, List.getElem?_set_ne (by omega), ← List.getD_eq_getElem?_getD]
      rw [bitM] at ih
      rw [ih]
      by_cases hc : b ≤ i ∧ i < b + j
      · rw [if_pos hc, if_pos (by omega)]
      · rw [if_neg hc, if_neg (by omega)]
theorem mask_bits (a : AddrM) (h : a.ok) (b i : Nat) (hb : b ≤ 128) (hi : i < 128) : bitM (maskM a b).ip i = if b ≤ i then 0 else bitM a.ip i := by
  have := mask_bit a.ip h b i hi (128 - b) (by omega)
  rw [maskM]
  rw [this]
  by_cases hc : b ≤ i
  · rw [if_pos hc, if_pos (by omega)]
  · rw [if_neg hc, if_neg (by omega)]
theorem sound_iff (a : AddrM) : soundM a = true ↔ a.six = true ∨ ∀ q, 4 ≤ q → a.ip.getD q 0 = 0 := by
  rw [soundM, Bool.or_eq_true, List.all_eq_true]
  refine or_congr Iff.rfl ⟨fun h q hq => ?_, fun h x hx => ?_⟩
  · by_cases hl : q < a.ip.length
    · have := h (a.ip[q]) (by
        rw [List.mem_iff_getElem]
        exact ⟨q - 4, by rw [List.length_drop]; omega, by rw [List.getElem_drop]; congr 1; omega⟩)
      rw [List.getD_eq_getElem?_getD, List.getElem?_eq_getElem hl]
      exact beq_iff_eq.1 this
    · rw [List.getD_eq_getElem?_getD, List.getElem?_eq_none (by omega)]; rfl
  · obtain ⟨n, hn, rfl⟩ := List.mem_iff_getElem.1 hx
    rw [List.length_drop] at hn
    have := h (4 + n) (by omega)
    rw [List.getD_eq_getElem?_getD, List.getElem?_eq_getElem (by omega)] at this
    rw [List.getElem_drop]
    exact beq_iff_eq.2 this
theorem clearS_zero (ip : List UInt8) (b q : Nat) (hq : ip.getD q 0 = 0) : ∀ j, (clearS ip b j).getD q 0 = 0
  | 0 => hq
  | j + 1 => by
    have ih := clearS_zero ip b q hq j
    rw [clearS]
    by_cases he : (b + j) / 8 = q
    · rw [he, ih, clear_zero ⟨(b + j) % 8, Nat.mod_lt _ (by omega)⟩, List.getD_eq_getElem?_getD, List.getElem?_set]
      rw [if_pos rfl]
      split <;> rfl
    · rw [List.getD_eq_getElem?_getD, List.getElem?_set_ne he, ← List.getD_eq_getElem?_getD, ih]
theorem mask_sound (a : AddrM) (b : Nat) (hs : soundM a = true) : soundM (maskM a b) = true := by
  rw [sound_iff] at hs ⊢
  rcases hs with h | h
  · exact .inl h
  · exact .inr fun q hq => clearS_zero _ _ _ (h q hq) _
theorem width_le (a : AddrM) : widthM a ≤ 128 := by unfold widthM; split <;> omega
theorem mask_valid (a : AddrM) (h : a.ok) (b : Nat) (hb : b ≤ widthM a) (hs : soundM a = true) : validM (maskM a b) (b : Int) = true := by
  have hw := width_le a
  rw [validM_iff _ _ (mask_sound a b hs) (by omega) (by show (b : Int) ≤ (widthM a : Int); omega)]
  intro i hi hlt
  rw [mask_bits a h b i (by omega) hlt, if_pos (by omega)]
theorem mask_contains (a x : AddrM) (h : a.ok) (b : Nat) (hb : b ≤ widthM a) (hs : soundM a = true) (hx : soundM x = true) (h6 : x.six = a.six) : containsM (maskM a b) (b : Int) x = true ↔ ∀ i : Nat, i < b → bitM x.ip i = bitM a.ip i := by
  have hw := width_le a
  rw [containsM_iff _ _ _ (mask_valid a h b hb hs) hx (by show (x.six == a.six) = true; rw [h6]; simp)]
  constructor
  · intro k i hi
    rw [k i (by omega) (by omega), mask_bits a h b i (by omega) (by omega), if_neg (by omega)]
  · intro k i hi hlt
    rw [k i (by omega), mask_bits a h b i (by omega) hlt, if_neg (by omega)]
theorem mask_nests (a x : AddrM) (h : a.ok) (m n : Nat) (hmn : m ≤ n) (hn : n ≤ widthM a) (hs : soundM a = true) (hx : soundM x = true) (h6 : x.six = a.six) (hc : containsM (maskM a n) (n : Int) x = true) : containsM (maskM a m) (m : Int) x = true := by
  rw [mask_contains a x h n hn hs hx h6] at hc
  rw [mask_contains a x h m (by omega) hs hx h6]
  exact fun i hi => hc i (by omega)
theorem codeA_sound (l : List UInt8) (p : Nat) : soundM (codeA l p) = true := by
  rw [sound_iff]
  by_cases h : sixV l p = true
  · exact .inl h
  · refine .inr fun q hq => ?_
    rw [codeA]
    dsimp only
    rw [if_neg h, fourB]
    generalize UInt8.ofNat (nextV l (nextP l p 3) 4) = u1
    generalize UInt8.ofNat (nextV l (nextP l (nextP l p 3) 4) 4) = u2
    generalize UInt8.ofNat (nextV l (nextP l (nextP l (nextP l p 3) 4) 4) 256) = u3
    obtain ⟨k, rfl⟩ : ∃ k, q = k + 4 := ⟨q - 4, by omega⟩
    show ([10, u1, u2, u3] ++ List.replicate 12 0 : List UInt8).getD (k + 4) 0 = 0
    rw [List.getD_eq_getElem?_getD, List.getElem?_append_right (by simp), show k + 4 - ([10, u1, u2, u3] : List UInt8).length = k from rfl, List.getElem?_replicate]
    split <;> rfl
theorem xor_bits (a b : UInt8) : bits BinOp.xor IntKind.u8 (a.toNat : Int) (b.toNat : Int) = ((a ^^^ b).toNat : Int) := by
  rw [UInt8.toNat_xor, u8_xor_nat _ _ a.toNat_lt b.toNat_lt]
end Go.Proofs.Ytdpdalkeafkhkaa
