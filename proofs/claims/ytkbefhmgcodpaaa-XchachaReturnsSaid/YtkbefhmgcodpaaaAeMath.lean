/-
  The mathematics of ChaCha20-Poly1305: what is sealed and what opening gives. No statement is proved here.
-/
import Derived.Test.YtkbefhmgcodpaaaChMath
import Derived.Test.YtkbefhmgcodpaaaPoMath
namespace Go.Proofs.Ytkbefhmgcodpaaa
open Go.RowKit

/-- zero bytes up to a multiple of 16 -/
def padL (l : List UInt8) : List UInt8 := List.replicate ((16 - l.length % 16) % 16) 0
/-- the data of the tag -/
def macL (more c : List UInt8) : List UInt8 := more ++ padL more ++ (c ++ padL c) ++ (littleL more.length 8 ++ littleL c.length 8)
def oneK (k n : List UInt8) : List UInt8 := (blockL k 0 n).take 32
def sealT (k n c more : List UInt8) : List UInt8 := littleL (tagN (oneK k n) (macL more c)) 16
def sealL (k n p more : List UInt8) : List UInt8 := xorL k 1 n p ++ sealT k n (xorL k 1 n p) more
/-- what opening returns, and the error's number -/
def openL (k n s more : List UInt8) : List UInt8 × Nat :=
  if s.length < 16 then ([], 2)
  else if sealT k n (s.take (s.length - 16)) more = s.drop (s.length - 16) then (xorL k 1 n (s.take (s.length - 16)), 0)
  else ([], 6)
theorem sealT_length (k n c more : List UInt8) : (sealT k n c more).length = 16 := littleL_length _ _
theorem sealL_length (k n p more : List UInt8) : (sealL k n p more).length = p.length + 16 := by
  rw [sealL, List.length_append, sealT_length, xorL_length]
theorem open_seal (k n p more : List UInt8) : openL k n (sealL k n p more) more = (p, 0) := by
  have hl := sealL_length k n p more
  have h1 : (sealL k n p more).take ((sealL k n p more).length - 16) = xorL k 1 n p := by
    rw [hl, Nat.add_sub_cancel, sealL, List.take_left' (xorL_length k 1 n p)]
  have h2 : (sealL k n p more).drop ((sealL k n p more).length - 16) = sealT k n (xorL k 1 n p) more := by
    rw [hl, Nat.add_sub_cancel, sealL, List.drop_left' (xorL_length k 1 n p)]
  rw [openL, if_neg (by omega), h1, h2, if_pos rfl, xorL_xorL]
theorem seal_open (k n s more : List UInt8) (h : (openL k n s more).2 = 0) : sealL k n (openL k n s more).1 more = s := by
  unfold openL at h ⊢
  split at h
  · simp at h
  · rename_i h16
    rw [if_neg h16]
    split at h
    · rename_i ht
      rw [if_pos ht]
      show xorL k 1 n (xorL k 1 n (s.take (s.length - 16))) ++ sealT k n (xorL k 1 n (xorL k 1 n (s.take (s.length - 16)))) more = s
      rw [xorL_xorL, ht, List.take_append_drop]
    · simp at h
theorem open_cases (k n s more : List UInt8) (h : 16 ≤ s.length) : ((openL k n s more).2 = 6 ∧ (openL k n s more).1 = []) ∨ (openL k n s more).2 = 0 := by
  unfold openL
  rw [if_neg (by omega)]
  split
  · exact .inr rfl
  · exact .inl ⟨rfl, rfl⟩
/-- a nonce of a counter -/
def countL (c : Nat) : List UInt8 := List.replicate 4 0 ++ littleL c 8
theorem littleL_inj {a b : Nat} (ha : a < 18446744073709551616) (hb : b < 18446744073709551616) (h : littleL a 8 = littleL b 8) : a = b := by
  have h1 := numL_little a 8
  have h2 := numL_little b 8
  rw [h, h2, show 256 ^ 8 = 18446744073709551616 by decide, Nat.mod_eq_of_lt ha, Nat.mod_eq_of_lt hb] at h1
  exact h1.symm
theorem countL_inj {a b : Nat} (ha : a < 18446744073709551616) (hb : b < 18446744073709551616) : countL a = countL b ↔ a = b := by
  refine ⟨fun h => littleL_inj ha hb (List.append_cancel_left h), fun h => by rw [h]⟩
theorem countL_length (c : Nat) : (countL c).length = 12 := by simp [countL, littleL_length]

theorem flat_four : ∀ ws : List UInt32, (ws.flatMap fun x => littleL x.toNat 4).length = 4 * ws.length
  | [] => rfl
  | x :: ws => by rw [List.flatMap_cons, List.length_append, littleL_length, flat_four ws, List.length_cons]; omega
theorem blockL_len (k : List UInt8) (c : UInt32) (n : List UInt8) : (blockL k c n).length = 64 := by
  unfold blockL
  rw [flat_four, List.length_zipWith, coreW_length, stateW_length]
  rfl
theorem oneK_length (k n : List UInt8) : (oneK k n).length = 32 := by rw [oneK, List.length_take, blockL_len]; rfl
theorem padL_length (l : List UInt8) : (padL l).length ≤ 15 := by rw [padL, List.length_replicate]; omega
theorem macL_length (more c : List UInt8) : (macL more c).length ≤ more.length + c.length + 46 := by
  have h1 := padL_length more
  have h2 := padL_length c
  simp only [macL, List.length_append, littleL_length]
  omega
/-! the chapter's example -/
def aeK : List UInt8 := (List.range 32).map fun i => UInt8.ofNat (128 + i)
def aeN : List UInt8 := [7, 0, 0, 0, 64, 65, 66, 67, 68, 69, 70, 71]
def aeM : List UInt8 := [80, 81, 82, 83, 192, 193, 194, 195, 196, 197, 198, 199]
def aeP : List UInt8 := [76, 97, 100, 105, 101, 115, 32, 97, 110, 100, 32, 71, 101, 110, 116, 108, 101, 109, 101, 110, 32, 111, 102, 32, 116, 104, 101, 32, 99, 108, 97, 115, 115, 32, 111, 102, 32, 39, 57, 57, 58, 32, 73, 102, 32, 73, 32, 99, 111, 117, 108, 100, 32, 111, 102, 102, 101, 114, 32, 121, 111, 117, 32, 111, 110, 108, 121, 32, 111, 110, 101, 32, 116, 105, 112, 32, 102, 111, 114, 32, 116, 104, 101, 32, 102, 117, 116, 117, 114, 101, 44, 32, 115, 117, 110, 115, 99, 114, 101, 101, 110, 32, 119, 111, 117, 108, 100, 32, 98, 101, 32, 105, 116, 46]
theorem aeP_length : aeP.length = 114 := by decide
def aeC : List UInt8 := [211, 26, 141, 52, 100, 142, 96, 219, 123, 134, 175, 188, 83, 239, 126, 194, 164, 173, 237, 81, 41, 110, 8, 254, 169, 226, 181, 167, 54, 238, 98, 214, 61, 190, 164, 94, 140, 169, 103, 18, 130, 250, 251, 105, 218, 146, 114, 139, 26, 113, 222, 10, 158, 6, 11, 41, 5, 214, 165, 182, 126, 205, 59, 54, 146, 221, 189, 127, 45, 119, 139, 140, 152, 3, 174, 227, 40, 9, 27, 88, 250, 179, 36, 228, 250, 214, 117, 148, 85, 133, 128, 139, 72, 49, 215, 188, 63, 244, 222, 240, 142, 75, 122, 157, 229, 118, 210, 101, 134, 206, 198, 75, 97, 22]
def aeT : List UInt8 := [26, 225, 11, 89, 79, 9, 226, 106, 126, 144, 46, 203, 208, 96, 6, 145]
theorem xorL_short (k : List UInt8) (c : UInt32) (n d : List UInt8) (h : d.length ≤ 64) : xorL k c n d = d.zipWith (· ^^^ ·) (blockL k c n) := by
  have hb := blockL_len k c n
  apply List.ext_getElem
  · rw [xorL_length, List.length_zipWith, hb]; omega
  · intro i h1 h2
    rw [xorL_length] at h1
    rw [xorL_get _ _ _ _ _ h1, List.getElem_zipWith]
    unfold streamB
    rw [Nat.div_eq_of_lt (by omega), Nat.mod_eq_of_lt (by omega), show c + UInt32.ofNat 0 = c by simp, getD_lt (by omega)]
theorem xorL_parts (k : List UInt8) (c : UInt32) (n d : List UInt8) : xorL k c n d = xorL k c n (d.take 64) ++ xorL k (c + 1) n (d.drop 64) := by
  rw [xorL_take, xorL_drop, List.take_append_drop]
set_option maxRecDepth 100000 in
theorem ae_cipher : xorL aeK 1 aeN aeP = aeC := by
  rw [xorL_parts, xorL_short _ _ _ (aeP.take 64) (by decide), xorL_short _ _ _ (aeP.drop 64) (by decide)]
  decide +kernel
set_option maxRecDepth 100000 in
theorem ae_tag : sealT aeK aeN aeC aeM = aeT := by decide +kernel
theorem ae_seal : sealL aeK aeN aeP aeM = aeC ++ aeT := by rw [sealL, ae_cipher, ae_tag]
end Go.Proofs.Ytkbefhmgcodpaaa
