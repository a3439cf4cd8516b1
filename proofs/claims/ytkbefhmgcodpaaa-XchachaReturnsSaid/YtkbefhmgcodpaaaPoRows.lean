/-
  Rows of digits and bytes as Poly1305's own loops fill them; and two words for a region that draws its order. No statement is proved here.
-/
import Derived.Test.YtkbefhmgcodpaaaPoOps
import Derived.Test.YtkbefhmgcodpaaaRegion
namespace Go.Proofs.Ytkbefhmgcodpaaa
open Go.RowKit

def rowG (f : Nat → Nat) (j : Nat) : List Nat := (List.range j).map f ++ List.replicate (17 - j) 0
theorem rowG_length (f : Nat → Nat) (j : Nat) (h : j ≤ 17) : (rowG f j).length = 17 := by simp [rowG]; omega
theorem rowG_zero (f : Nat → Nat) : rowG f 0 = List.replicate 17 0 := by simp [rowG]
theorem rowG_set (f : Nat → Nat) (j : Nat) (h : j < 17) : (rowG f j).set j (f j) = rowG f (j + 1) := by
  unfold rowG
  rw [List.set_append_right _ _ (by simp), List.length_map, List.length_range, Nat.sub_self, show 17 - j = (17 - (j + 1)) + 1 by omega, List.replicate_succ, List.set_cons_zero, List.range_succ, List.map_append, List.append_assoc]
  rfl
theorem rowG_dg (f : Nat → Nat) (j i : Nat) : dg (rowG f j) i = if i < j then f i else 0 := by
  unfold dg rowG
  simp only [List.getD, List.getElem?_append, List.length_map, List.length_range]
  split
  · rename_i h
    simp [h]
  · rw [List.getElem?_replicate]
    split <;> simp
theorem list_eq_dg {l m : List Nat} (hl : l.length = 17) (hm : m.length = 17) (h : ∀ i, i < 17 → dg l i = dg m i) : l = m := by
  apply List.ext_getElem (by omega)
  intro i h1 h2
  have := h i (by omega)
  simpa [dg, List.getD, h1, h2] using this
def kb (k : List UInt8) (i : Nat) : Nat := (k.getD i 0).toNat
/-- the seven clamps, one after the other -/
def clamp (l : List Nat) : List (Nat × Nat) → List Nat
  | [] => l
  | (i, m) :: r => clamp (l.set i (dg l i &&& m)) r
def clampsL : List (Nat × Nat) := [(3, 15), (4, 252), (7, 15), (8, 252), (11, 15), (12, 252), (15, 15)]
theorem clamp_length (l : List Nat) : ∀ c, (clamp l c).length = l.length := by
  intro c
  induction c generalizing l with
  | nil => rfl
  | cons x c ih => rw [clamp, ih, List.length_set]
theorem clamp_all (k : List UInt8) : clamp (rowG (kb k) 16) clampsL = rDig k := by
  refine list_eq_dg (by rw [clamp_length, rowG_length _ _ (by omega)]) (rDig_le k).1 fun i hi => ?_
  have hr : dg (rDig k) i = clampD k i := by simp [dg, rDig, List.getD, hi]
  rw [hr]
  have hlen := rowG_length (kb k) 16 (by omega)
  simp only [clampsL, clamp]
  simp only [dg_set, List.length_set, hlen, rowG_dg, show (3 : Nat) < 17 by decide, show (4 : Nat) < 17 by decide, show (7 : Nat) < 17 by decide, show (8 : Nat) < 17 by decide, show (11 : Nat) < 17 by decide, show (12 : Nat) < 17 by decide, show (15 : Nat) < 17 by decide]
  have hc : i = 0 ∨ i = 1 ∨ i = 2 ∨ i = 3 ∨ i = 4 ∨ i = 5 ∨ i = 6 ∨ i = 7 ∨ i = 8 ∨ i = 9 ∨ i = 10 ∨ i = 11 ∨ i = 12 ∨ i = 13 ∨ i = 14 ∨ i = 15 ∨ i = 16 := by omega
  rcases hc with rfl | rfl | rfl | rfl | rfl | rfl | rfl | rfl | rfl | rfl | rfl | rfl | rfl | rfl | rfl | rfl | rfl <;> simp [clampD, kb]
theorem cDig_row (p : List UInt8) (h : p.length ≤ 16) : (rowG (kb p) p.length).set p.length 1 = cDig p := by
  refine list_eq_dg (by rw [List.length_set, rowG_length _ _ (by omega)]) (cDig_le p h).1 fun i hi => ?_
  rw [dg_set _ _ _ _ (by rw [rowG_length _ _ (by omega)]; omega), rowG_dg]
  unfold dg cDig kb
  simp only [List.getD, List.getElem?_append, List.length_map]
  by_cases e : i = p.length
  · subst e; simp
  · rw [if_neg e]
    by_cases h1 : i < p.length
    · rw [if_pos h1, if_pos h1]; simp [h1]
    · obtain ⟨t, ht⟩ : ∃ t, i - p.length = t + 1 := ⟨i - p.length - 1, by omega⟩
      rw [if_neg h1, if_neg h1, ht, List.getElem?_cons_succ, List.getElem?_replicate]
      split <;> simp
def sDig (k : List UInt8) : List Nat := rowG (fun i => kb k (16 + i)) 16
theorem sDig_le (k : List UInt8) : (sDig k).length = 17 ∧ ∀ i, dg (sDig k) i ≤ 255 := ⟨rowG_length _ _ (by omega), fun i => by
  rw [sDig, rowG_dg]
  split
  · have := (k.getD (16 + i) 0).toNat_lt
    unfold kb
    omega
  · omega⟩
theorem sDig_val (k : List UInt8) : valN (sDig k) = sN k := by
  refine valN_bytes _ _ (by simp; omega) fun i hi => ?_
  rw [sDig, rowG_dg]
  by_cases h : i < 16
  · rw [if_pos h]
    simp [kb, List.getD, h]
  · rw [if_neg h]
    simp [List.getD, List.getElem?_take, h]
def rowO (l : List Nat) (j : Nat) : List UInt8 := (List.range j).map (fun i => UInt8.ofNat (dg l i)) ++ List.replicate (16 - j) 0
theorem rowO_length (l : List Nat) (j : Nat) (h : j ≤ 16) : (rowO l j).length = 16 := by simp [rowO]; omega
theorem rowO_zero (l : List Nat) : rowO l 0 = List.replicate 16 0 := by simp [rowO]
theorem rowO_set (l : List Nat) (j : Nat) (h : j < 16) : (rowO l j).set j (UInt8.ofNat (dg l j)) = rowO l (j + 1) := by
  unfold rowO
  rw [List.set_append_right _ _ (by simp), List.length_map, List.length_range, Nat.sub_self, show 16 - j = (16 - (j + 1)) + 1 by omega, List.replicate_succ, List.set_cons_zero, List.range_succ, List.map_append, List.append_assoc]
  rfl
theorem rowO_end (l : List Nat) (hd : ∀ i, dg l i ≤ 255) : rowO l 16 = littleL (valN l) 16 := by
  rw [← bytes_of_val l hd]
  simp [rowO]
theorem u8v_dig (d : Nat) (h : d ≤ 255) : u8v (UInt8.ofNat d) = .int .u8 (d : Int) := by
  rw [u8v, UInt8.toNat_ofNat', Nat.mod_eq_of_lt (by omega)]
/-- what the last sum gives -/
theorem tag_end (k data : List UInt8) (hd : List Nat) (h3 : tidy hd 3) (hv : valN hd % primeP = accI (rN k) data ((data.length + 15) / 16)) :
    rowO (plusN (leastN hd) (sDig k)) 16 = tagL k data := by
  have hf := h3.fits (by omega)
  have hl := leastN_le hf
  rw [rowO_end _ (plusN_digits _ _ hl.1), plusN_val _ _ hl.1, leastN_val hf, hv, sDig_val k]
  have h1 := accI_lt (rN k) data ((data.length + 15) / 16)
  have h2 : sN k < 256 ^ ((k.drop 16).take 16).length := numL_lt _
  have h4 : 256 ^ ((k.drop 16).take 16).length ≤ 256 ^ 16 := Nat.pow_le_pow_right (by omega) (List.length_take_le 16 _)
  have hp : primeP = 1361129467683753853853498429727072845819 := rfl
  have hq : (256 : Nat) ^ 16 = 340282366920938463463374607431768211456 := by decide
  have hq2 : (256 : Nat) ^ 17 = 87112285931760246646623899502532662132736 := by decide
  rw [Nat.mod_eq_of_lt]
  · rfl
  · rw [hq2]
    rw [hp] at h1
    rw [hq] at h4
    omega

end Go.Proofs.Ytkbefhmgcodpaaa
