/-
  The contracts of inner's size and first: how many bits an address has, and an address without the bits behind the first ones. No statement is proved here.
-/
import Derived.Test.YtdpdalkeafkhkaaInRef3
namespace Go.Proofs.Ytdpdalkeafkhkaa
open Go.RowKit

/-- a byte without the bits behind the first m -/
def cutByte (x : UInt8) (m : Nat) : UInt8 := x &&& ~~~(UInt8.ofNat (255 / 2 ^ m))
theorem cut_all : ∀ m : Fin 8, ∀ n : Fin 256, bits BinOp.andNot IntKind.u8 (n.val : Int) ((255 / 2 ^ m.val : Nat) : Int) = ((cutByte (UInt8.ofNat n.val) m.val).toNat : Int) := by decide +kernel
theorem cut_bits (x : UInt8) (m : Nat) (h : m < 8) : bits BinOp.andNot IntKind.u8 (x.toNat : Int) (255 / 2 ^ m) = ((cutByte x m).toNat : Int) := by
  have h1 := cut_all ⟨m, h⟩ ⟨x.toNat, x.toNat_lt⟩
  simp only [UInt8.ofNat_toNat] at h1
  rw [← h1, Int.natCast_ediv, Int.natCast_pow]
  rfl
theorem bit_cut_all : ∀ m : Fin 8, ∀ k : Fin 8, ∀ x : Fin 256, (cutByte (UInt8.ofNat x.val) m.val).toNat / 2 ^ (7 - k.val) % 2 = if k.val < m.val then x.val / 2 ^ (7 - k.val) % 2 else 0 := by decide +kernel
theorem bit_cut (x : UInt8) (m k : Nat) (hm : m < 8) (hk : k < 8) : (cutByte x m).toNat / 2 ^ (7 - k) % 2 = if k < m then x.toNat / 2 ^ (7 - k) % 2 else 0 := by
  have h := bit_cut_all ⟨m, hm⟩ ⟨k, hk⟩ ⟨x.toNat, x.toNat_lt⟩
  simp only [UInt8.ofNat_toNat] at h
  exact h
/-- an address without the bits behind the first k -/
def firstM (a : AddrM) (k : Nat) : AddrM := if k / 8 < 16 then ⟨a.six, (a.ip.set (k / 8) (cutByte (a.ip.getD (k / 8) 0) (k % 8))).take (k / 8 + 1) ++ List.replicate (15 - k / 8) 0⟩ else a
theorem firstM_ok (a : AddrM) (h : a.ok) (k : Nat) : (firstM a k).ok := by
  unfold firstM
  split
  · simp only [AddrM.ok, List.length_append, List.length_take, List.length_set, List.length_replicate]
    have : a.ip.length = 16 := h
    omega
  · exact h
theorem firstM_six (a : AddrM) (k : Nat) : (firstM a k).six = a.six := by unfold firstM; split <;> rfl
theorem firstM_bit (a : AddrM) (h : a.ok) (k i : Nat) (hi : i < 128) : bitM (firstM a k).ip i = if i < k then bitM a.ip i else 0 := by
  have hl : a.ip.length = 16 := h
  unfold firstM
  by_cases hk : k / 8 < 16
  · rw [if_pos hk]
    unfold bitM
    dsimp only
    rw [List.getD_eq_getElem?_getD, List.getElem?_append, List.length_take, List.length_set, List.getElem?_take]
    by_cases h1 : i / 8 < k / 8
    · rw [if_pos (by omega), if_pos (by omega), List.getElem?_set_ne (by omega), if_pos (by omega), ← List.getD_eq_getElem?_getD]
    · by_cases h2 : i / 8 = k / 8
      · rw [if_pos (by omega), if_pos (by omega), h2, List.getElem?_set_self (by omega), Option.getD_some, bit_cut _ _ _ (by omega) (by omega)]
        by_cases h3 : i % 8 < k % 8
        · rw [if_pos h3, if_pos (by omega)]
        · rw [if_neg h3, if_neg (by omega)]
      · rw [if_neg (by omega), if_neg (by omega), List.getElem?_replicate]
        split <;> simp
  · rw [if_neg hk, if_pos (by omega)]
/-- bytes whose bits are the same are the same -/
theorem byte_sum : ∀ x : Fin 256, x.val = 128 * (x.val / 2 ^ (7 - 0) % 2) + 64 * (x.val / 2 ^ (7 - 1) % 2) + 32 * (x.val / 2 ^ (7 - 2) % 2) + 16 * (x.val / 2 ^ (7 - 3) % 2) + 8 * (x.val / 2 ^ (7 - 4) % 2) + 4 * (x.val / 2 ^ (7 - 5) % 2) + 2 * (x.val / 2 ^ (7 - 6) % 2) + x.val / 2 ^ (7 - 7) % 2 := by decide +kernel
theorem byte_bits (x y : UInt8) (h : ∀ k, k < 8 → x.toNat / 2 ^ (7 - k) % 2 = y.toNat / 2 ^ (7 - k) % 2) : x = y := by
  have hx := byte_sum ⟨x.toNat, x.toNat_lt⟩
  have hy := byte_sum ⟨y.toNat, y.toNat_lt⟩
  simp only [] at hx hy
  rw [h 0 (by omega), h 1 (by omega), h 2 (by omega), h 3 (by omega), h 4 (by omega), h 5 (by omega), h 6 (by omega), h 7 (by omega), ← hy] at hx
  exact UInt8.toNat.inj hx
theorem ip_bits (l m : List UInt8) (hl : l.length = 16) (hm : m.length = 16) (h : ∀ i, i < 128 → bitM l i = bitM m i) : l = m := by
  apply List.ext_getElem (by omega)
  intro j h1 h2
  refine byte_bits _ _ (fun k hk => ?_)
  have := h (8 * j + k) (by omega)
  unfold bitM at this
  rw [show (8 * j + k) / 8 = j by omega, show (8 * j + k) % 8 = k by omega, List.getD_eq_getElem?_getD, List.getElem?_eq_getElem h1, List.getD_eq_getElem?_getD, List.getElem?_eq_getElem h2] at this
  exact this
instance : DecidableEq AddrM := fun a b => decidable_of_iff (a.six = b.six ∧ a.ip = b.ip) ⟨fun h => by cases a; cases b; simp_all, fun h => by rw [h]; exact ⟨rfl, rfl⟩⟩
theorem AddrM.ext_bits (a b : AddrM) (ha : a.ok) (hb : b.ok) (h6 : a.six = b.six) (h : ∀ i, i < 128 → bitM a.ip i = bitM b.ip i) : a = b := by
  have hi := ip_bits _ _ ha hb h
  cases a; cases b
  simp_all
theorem firstM_eq (a b : AddrM) (ha : a.ok) (hb : b.ok) (k : Nat) : firstM a k = b ↔ a.six = b.six ∧ ∀ i, i < 128 → (if i < k then bitM a.ip i else 0) = bitM b.ip i := by
  constructor
  · rintro rfl
    exact ⟨(firstM_six a k).symm, fun i hi => (firstM_bit a ha k i hi).symm⟩
  · rintro ⟨h6, h⟩
    exact AddrM.ext_bits _ _ (firstM_ok a ha k) hb ((firstM_six a k).trans h6) (fun i hi => (firstM_bit a ha k i hi).trans (h i hi))
theorem cells_inj (a b : AddrM) (h : a.cells = b.cells) : a = b := by
  cases a; cases b
  simp only [AddrM.cells, List.cons.injEq] at h
  obtain ⟨h1, h2⟩ := h
  injection h1 with h1
  subst h1
  congr 1
  refine List.map_inj_right ?_ |>.1 h2
  intro x y hxy
  have : ((x.toNat : Nat) : Int) = (y.toNat : Int) := by simpa [u8v] using hxy
  exact UInt8.toNat.inj (by omega)
/-- the bytes of IPv4 behind the fourth are zero exactly if the bits behind the 32nd are -/
theorem sound_first (a : AddrM) (h : a.ok) : soundM a = decide (firstM a (widthM a) = a) := by
  rw [Bool.eq_iff_iff, decide_eq_true_iff, firstM_eq a a h h]
  cases h6 : a.six with
  | true =>
    rw [soundM, h6, widthM, h6]
    simp only [Bool.true_or, true_and, true_iff, if_true]
    intro i hi
    rw [if_pos hi]
  | false =>
    rw [soundM_four a h h6, widthM, h6]
    simp only [true_and]
    constructor
    · intro hz i hi
      by_cases hlt : i < 32
      · rw [if_pos (by simpa using hlt)]
      · rw [if_neg (by simpa using hlt)]
        have := hz (i / 8 - 4) (by omega)
        rw [show 4 + (i / 8 - 4) = i / 8 by omega] at this
        rw [bitM, this]
        simp
    · intro hz j hj
      refine byte_bits _ _ (fun k hk => ?_)
      have := hz (8 * (4 + j) + k) (by omega)
      rw [if_neg (by simp; omega)] at this
      unfold bitM at this
      rw [show (8 * (4 + j) + k) / 8 = 4 + j by omega, show (8 * (4 + j) + k) % 8 = k by omega] at this
      rw [← this]
      simp
theorem valid_first (a : AddrM) (h : a.ok) (bits : Int) : validM a bits = (decide (0 ≤ bits) && (decide (bits ≤ (widthM a : Int)) && decide (firstM a bits.toNat = a))) := by
  by_cases h0 : 0 ≤ bits
  · by_cases h1 : bits ≤ (widthM a : Int)
    · rw [decide_eq_true h0, decide_eq_true h1, Bool.true_and, Bool.true_and, Bool.eq_iff_iff, decide_eq_true_iff, firstM_eq a a h h]
      constructor
      · intro hv
        have hs : soundM a = true := by rw [validM] at hv; exact (Bool.and_eq_true _ _ ▸ hv).1
        rw [validM_iff a bits hs h0 h1] at hv
        refine ⟨rfl, fun i hi => ?_⟩
        by_cases hlt : i < bits.toNat
        · rw [if_pos hlt]
        · rw [if_neg hlt, hv i (by omega) hi]
      · rintro ⟨_, hv⟩
        have hs : soundM a = true := by
          rw [sound_first a h, decide_eq_true_iff, firstM_eq a a h h]
          refine ⟨rfl, fun i hi => ?_⟩
          by_cases hlt : i < widthM a
          · rw [if_pos hlt]
          · have := hv i hi
            rw [if_neg (by omega)] at this
            rw [if_neg hlt, this]
        rw [validM_iff a bits hs h0 h1]
        intro i hb hi
        have := hv i hi
        rw [if_neg (by omega)] at this
        exact this.symm
    · rw [decide_eq_true h0, decide_eq_false h1, validM, decide_eq_true h0, decide_eq_false h1]
      simp
  · rw [decide_eq_false h0, validM, decide_eq_false h0]
    simp
theorem contains_first (a x : AddrM) (h : a.ok) (hx : x.ok) (bits : Int) : containsM a bits x = (validM a bits && (soundM x && decide (firstM x bits.toNat = a))) := by
  by_cases hv : validM a bits = true
  · by_cases hs : soundM x = true
    · rw [hv, hs, Bool.true_and, Bool.true_and]
      have hv2 := hv
      rw [valid_first a h, Bool.and_eq_true, Bool.and_eq_true, decide_eq_true_iff, decide_eq_true_iff, decide_eq_true_iff, firstM_eq a a h h] at hv2
      obtain ⟨h0, h1, _, h2⟩ := hv2
      by_cases h6 : x.six = a.six
      · rw [Bool.eq_iff_iff, containsM_iff a x bits hv hs (by rw [h6]; simp), decide_eq_true_iff, firstM_eq x a hx h]
        constructor
        · intro hc
          refine ⟨h6, fun i hi => ?_⟩
          by_cases hlt : i < bits.toNat
          · rw [if_pos hlt, hc i (by omega) hi]
          · have := h2 i hi
            rw [if_neg hlt] at this
            rw [if_neg hlt, this]
        · rintro ⟨_, hc⟩ i hb hi
          have := hc i hi
          rw [if_pos (by omega)] at this
          exact this
      · rw [containsM, hv, hs, show (x.six == a.six) = false by simpa using h6]
        simp only [Bool.true_and, Bool.false_and]
        refine (decide_eq_false fun e => h6 ?_).symm
        rw [← e, firstM_six]
    · rw [Bool.not_eq_true] at hs
      rw [hs, containsM, hs]
      simp
  · rw [Bool.not_eq_true] at hv
    rw [hv, containsM, hv]
    simp
end Go.Proofs.Ytdpdalkeafkhkaa
