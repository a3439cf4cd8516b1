/-
  The mathematics of BLAKE2s over lists of words and bytes; no function of the program is named here.
-/
import Derived.Test.YtbochejgjmjieaaDoorChMath
namespace Go.Proofs.YtbochejgjmjieaaDoor
open Go.RowKit

def rotr (x : UInt32) (n : Nat) : UInt32 := x >>> UInt32.ofNat n ||| x <<< UInt32.ofNat (32 - n)
theorem rotr_rotl (x : UInt32) (n : Nat) (h0 : 0 < n) (h : n < 32) : rotr x n = rotl x (32 - n) := by
  unfold rotr rotl
  rw [show 32 - (32 - n) = n by omega]
  apply UInt32.toNat.inj
  rw [UInt32.toNat_or, UInt32.toNat_or, Nat.or_comm]
def ivW : List UInt32 := [0x6A09E667, 0xBB67AE85, 0x3C6EF372, 0xA54FF53A, 0x510E527F, 0x9B05688C, 0x1F83D9AB, 0x5BE0CD19]
def ordT : List (List Nat) := [[0, 1, 2, 3, 4, 5, 6, 7, 8, 9, 10, 11, 12, 13, 14, 15], [14, 10, 4, 8, 9, 15, 13, 6, 1, 12, 0, 2, 11, 7, 5, 3], [11, 8, 12, 0, 5, 2, 15, 13, 10, 14, 3, 6, 7, 1, 9, 4], [7, 9, 3, 1, 13, 12, 11, 14, 2, 6, 5, 10, 4, 0, 15, 8], [9, 0, 5, 7, 2, 4, 10, 15, 14, 1, 11, 12, 6, 8, 3, 13], [2, 12, 6, 10, 0, 11, 8, 3, 4, 13, 7, 5, 15, 14, 1, 9], [12, 5, 1, 15, 14, 13, 4, 10, 0, 7, 6, 3, 9, 2, 8, 11], [13, 11, 7, 14, 12, 1, 3, 9, 5, 0, 15, 4, 8, 6, 2, 10], [6, 15, 14, 9, 11, 3, 0, 8, 12, 2, 13, 7, 1, 4, 10, 5], [10, 2, 8, 4, 7, 6, 1, 5, 15, 11, 9, 14, 3, 12, 13, 0]]
def ordN (r i : Nat) : Nat := (ordT.getD r []).getD i 0
theorem ordN_lt (r i : Nat) (hr : r < 10) (hi : i < 16) : ordN r i < 16 := by
  have h : ∀ r : Fin 10, ∀ i : Fin 16, ordN r.val i.val < 16 := by decide
  exact h ⟨r, hr⟩ ⟨i, hi⟩
def addX (v : List UInt32) (a b : Nat) (x : UInt32) : List UInt32 := v.set a (wd v a + wd v b + x)
def xrot (v : List UInt32) (d a n : Nat) : List UInt32 := v.set d (rotr (wd v d ^^^ wd v a) n)
def mixB (v : List UInt32) (a b c d : Nat) (x y : UInt32) : List UInt32 :=
  xrot (addW (xrot (addX (xrot (addW (xrot (addX v a b x) d a 16) c d) b c 12) a b y) d a 8) c d) b c 7
/-- a round with the permutation r -/
def roundB (m : List UInt32) (r : Nat) (v : List UInt32) : List UInt32 :=
  mixB (mixB (mixB (mixB (mixB (mixB (mixB (mixB (v) 0 4 8 12 (wd m (ordN r 0)) (wd m (ordN r 1))) 1 5 9 13 (wd m (ordN r 2)) (wd m (ordN r 3))) 2 6 10 14 (wd m (ordN r 4)) (wd m (ordN r 5))) 3 7 11 15 (wd m (ordN r 6)) (wd m (ordN r 7))) 0 5 10 15 (wd m (ordN r 8)) (wd m (ordN r 9))) 1 6 11 12 (wd m (ordN r 10)) (wd m (ordN r 11))) 2 7 8 13 (wd m (ordN r 12)) (wd m (ordN r 13))) 3 4 9 14 (wd m (ordN r 14)) (wd m (ordN r 15))
def roundsB (m : List UInt32) : Nat → List UInt32 → List UInt32
  | 0, v => v
  | r + 1, v => roundB m r (roundsB m r v)
/-- the words ahead of the rounds -/
def beginB (h : List UInt32) (t : Nat) (f : Bool) : List UInt32 :=
  let v := ((h ++ ivW).set 12 (wd (h ++ ivW) 12 ^^^ UInt32.ofNat t)).set 13 (wd (h ++ ivW) 13 ^^^ UInt32.ofNat (t / 4294967296))
  if f then v.set 14 (~~~ (wd (h ++ ivW) 14)) else v
def wordsL (l : List UInt8) : List UInt32 := (List.range 16).map (wordL l)
/-- a state behind a block of 64 bytes -/
def compB (h : List UInt32) (b : List UInt8) (t : Nat) (f : Bool) : List UInt32 :=
  let v := roundsB (wordsL b) 10 (beginB h t f)
  (List.range 8).map fun i => wd h i ^^^ (wd v i ^^^ wd v (8 + i))
/-- what stands ahead of the data for a key -/
def keyB (key : List UInt8) : List UInt8 := if key = [] then [] else key ++ List.replicate (64 - key.length) 0
def msgB (key data : List UInt8) : List UInt8 := keyB key ++ data
/-- filled with zero bytes -/
def fillB (l : List UInt8) : List UInt8 := l ++ List.replicate (if l = [] then 64 else (64 - l.length % 64) % 64) 0
/-- the states behind the first n of N blocks of the filled message p, which has len bytes before it was filled -/
def statesB (h : List UInt32) (p : List UInt8) (len N : Nat) : Nat → List UInt32
  | 0 => h
  | n + 1 => compB (statesB h p len N n) ((p.drop (64 * n)).take 64) (if n + 1 = N then len else 64 * (n + 1)) (n + 1 == N)
def firstB (size klen : Nat) : List UInt32 := ivW.set 0 (wd ivW 0 ^^^ (0x01010000 ^^^ UInt32.ofNat (klen * 256) ^^^ UInt32.ofNat size))
def hashB (size : Nat) (key data : List UInt8) : List UInt8 :=
  let p := fillB (msgB key data)
  ((statesB (firstB size key.length) p (msgB key data).length (p.length / 64) (p.length / 64)).flatMap fun x => littleL x.toNat 4).take size
theorem bl_abc : hashB 32 [] [97, 98, 99] = [0x50, 0x8c, 0x5e, 0x8c, 0x32, 0x7c, 0x14, 0xe2, 0xe1, 0xa7, 0x2b, 0xa3, 0x4e, 0xeb, 0x45, 0x2f, 0x37, 0x45, 0x8b, 0x20, 0x9e, 0xd6, 0x3a, 0x29, 0x4d, 0x99, 0x9b, 0x4c, 0x86, 0x67, 0x59, 0x82] := by decide +kernel

theorem addX_length (v : List UInt32) (a b : Nat) (x : UInt32) : (addX v a b x).length = v.length := List.length_set
theorem xrot_length (v : List UInt32) (d a n : Nat) : (xrot v d a n).length = v.length := List.length_set
theorem mixB_length (v : List UInt32) (a b c d : Nat) (x y : UInt32) : (mixB v a b c d x y).length = v.length := by simp only [mixB, xrot_length, addX_length, addW_length]
theorem roundB_length (m : List UInt32) (r : Nat) (v : List UInt32) : (roundB m r v).length = v.length := by simp only [roundB, mixB_length]
theorem roundsB_length (m : List UInt32) : ∀ (r : Nat) (v : List UInt32), (roundsB m r v).length = v.length
  | 0, _ => rfl
  | r + 1, v => (roundB_length m r _).trans (roundsB_length m r v)
theorem beginB_length (h : List UInt32) (t : Nat) (f : Bool) (hh : h.length = 8) : (beginB h t f).length = 16 := by
  unfold beginB
  cases f <;> simp [hh, ivW]
theorem compB_length (h : List UInt32) (b : List UInt8) (t : Nat) (f : Bool) : (compB h b t f).length = 8 := by simp [compB]
theorem firstB_length (size klen : Nat) : (firstB size klen).length = 8 := by simp [firstB, ivW]
theorem statesB_length (h : List UInt32) (p : List UInt8) (len N : Nat) (hh : h.length = 8) : ∀ n, (statesB h p len N n).length = 8
  | 0 => hh
  | _ + 1 => compB_length _ _ _ _
theorem wordsL_length (l : List UInt8) : (wordsL l).length = 16 := by simp [wordsL]
theorem fillB_pos (l : List UInt8) : 0 < (fillB l).length := by
  unfold fillB
  by_cases h : l = []
  · subst h; simp
  · rw [if_neg h, List.length_append]
    have := List.length_pos_iff.2 h
    omega
theorem fillB_mod (l : List UInt8) : (fillB l).length % 64 = 0 := by
  unfold fillB
  by_cases h : l = []
  · subst h; simp
  · rw [if_neg h, List.length_append, List.length_replicate]
    omega
end Go.Proofs.YtbochejgjmjieaaDoor
