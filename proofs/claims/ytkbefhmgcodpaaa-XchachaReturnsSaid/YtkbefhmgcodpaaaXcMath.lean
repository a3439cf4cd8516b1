/-
  The mathematics of XChaCha20-Poly1305: the derived key, and sealing with a long nonce. No statement is proved here.
-/
import Derived.Test.YtkbefhmgcodpaaaChState
import Derived.Test.YtkbefhmgcodpaaaAeMore
namespace Go.Proofs.Ytkbefhmgcodpaaa
open Go.RowKit

/-- the words that are mixed -/
def xcW (k inn : List UInt8) : List UInt32 := fillW (fillW baseW 4 (wordL k) 8) 12 (wordL inn) 4
def xcoreW (k inn : List UInt8) : List UInt32 := coreW 10 (xcW k inn)
/-- HChaCha20 -/
def deriveL (k inn : List UInt8) : List UInt8 := ((xcoreW k inn).take 4 ++ (xcoreW k inn).drop 12).flatMap fun x => littleL x.toNat 4
theorem xcW_length (k inn : List UInt8) : (xcW k inn).length = 16 := by rw [xcW, fillW_length, fillW_length]; rfl
theorem xcoreW_length (k inn : List UInt8) : (xcoreW k inn).length = 16 := by rw [xcoreW, coreW_length, xcW_length]
theorem deriveL_length (k inn : List UInt8) : (deriveL k inn).length = 32 := by
  rw [deriveL, flat_four, List.length_append, List.length_take, List.length_drop, xcoreW_length]; rfl
def longN (n : List UInt8) : List UInt8 := List.replicate 4 0 ++ n.drop 16
theorem longN_length (n : List UInt8) (h : n.length = 24) : (longN n).length = 12 := by rw [longN, List.length_append, List.length_replicate, List.length_drop, h]
def longK (k n : List UInt8) : List UInt8 := deriveL k (n.take 16)
theorem longK_length (k n : List UInt8) : (longK k n).length = 32 := deriveL_length _ _
def xsealL (k n p more : List UInt8) : List UInt8 := sealL (longK k n) (longN n) p more
def xopenL (k n s more : List UInt8) : List UInt8 × Nat := openL (longK k n) (longN n) s more
theorem xsealL_length (k n p more : List UInt8) : (xsealL k n p more).length = p.length + 16 := sealL_length _ _ _ _
theorem xopen_seal (k n p more : List UInt8) : xopenL k n (xsealL k n p more) more = (p, 0) := open_seal _ _ _ _
def xcK : List UInt8 := (List.range 32).map UInt8.ofNat
def xcIn : List UInt8 := [0, 0, 0, 9, 0, 0, 0, 74, 0, 0, 0, 0, 49, 65, 89, 39]
def xcOut : List UInt8 := [130, 65, 59, 66, 39, 178, 123, 254, 211, 14, 66, 80, 138, 135, 125, 115, 160, 249, 228, 213, 138, 116, 168, 83, 193, 46, 196, 19, 38, 211, 236, 220]
theorem xc_example : deriveL xcK xcIn = xcOut := by decide +kernel

theorem xc_cellsL (l : List UInt8) (h : l.length = 24) : (Try.prog.info? 26).map (·.size) = some (l.map u8v).length := by
  rw [List.length_map, h]; kernel_rfl
theorem xc_cells16 (l : List UInt8) (h : l.length = 16) : (Try.prog.info? 24).map (·.size) = some (l.map u8v).length := by
  rw [List.length_map, h]; kernel_rfl
/-- the derived key, piece by piece, as a loop over four words lays it -/
def derRow (W : List UInt32) : Nat → List UInt8
  | 0 => List.replicate 32 0
  | j + 1 => putL (putL (derRow W j) (4 * j) (littleL (wd W j).toNat 4)) (16 + 4 * j) (littleL (wd W (12 + j)).toNat 4)
theorem derRow_length (W : List UInt32) : ∀ j, j ≤ 4 → (derRow W j).length = 32
  | 0, _ => rfl
  | j + 1, h => by
    have := derRow_length W j (by omega)
    rw [derRow, putL_length _ _ _ (by rw [putL_length _ _ _ (by rw [littleL_length]; omega), littleL_length]; omega), putL_length _ _ _ (by rw [littleL_length]; omega), this]
theorem der_four (b0 b1 b2 b3 c0 c1 c2 c3 : List UInt8) (hb0 : b0.length = 4) (hb1 : b1.length = 4) (hb2 : b2.length = 4) (hb3 : b3.length = 4) (hc0 : c0.length = 4) (hc1 : c1.length = 4) (hc2 : c2.length = 4) (hc3 : c3.length = 4) :
    putL (putL (putL (putL (putL (putL (putL (putL (List.replicate 32 0) 0 b0) 16 c0) 4 b1) 20 c1) 8 b2) 24 c2) 12 b3) 28 c3 = b0 ++ (b1 ++ (b2 ++ (b3 ++ (c0 ++ (c1 ++ (c2 ++ c3)))))) := by
  match b0, hb0, b1, hb1, b2, hb2, b3, hb3, c0, hc0, c1, hc1, c2, hc2, c3, hc3 with
  | [_, _, _, _], _, [_, _, _, _], _, [_, _, _, _], _, [_, _, _, _], _, [_, _, _, _], _, [_, _, _, _], _, [_, _, _, _], _, [_, _, _, _], _ => simp [putL]
theorem derRow_end (W : List UInt32) (h : W.length = 16) : derRow W 4 = (W.take 4 ++ W.drop 12).flatMap fun x => littleL x.toNat 4 := by
  match W, h with
  | [a0, a1, a2, a3, a4, a5, a6, a7, a8, a9, a10, a11, a12, a13, a14, a15], _ =>
    have h4 := der_four (littleL a0.toNat 4) (littleL a1.toNat 4) (littleL a2.toNat 4) (littleL a3.toNat 4) (littleL a12.toNat 4) (littleL a13.toNat 4) (littleL a14.toNat 4) (littleL a15.toNat 4) (littleL_length _ _) (littleL_length _ _) (littleL_length _ _) (littleL_length _ _) (littleL_length _ _) (littleL_length _ _) (littleL_length _ _) (littleL_length _ _)
    simpa [derRow, wd] using h4
end Go.Proofs.Ytkbefhmgcodpaaa
