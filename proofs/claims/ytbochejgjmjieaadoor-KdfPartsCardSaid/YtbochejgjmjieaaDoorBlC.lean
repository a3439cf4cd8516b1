/-
  What is asked of blake.Sum, Hash and Code, and words for parts. No statement is proved here.
-/
import Derived.Test.YtbochejgjmjieaaDoorBlMath
import Derived.Test.YtbochejgjmjieaaDoorEnt
import Derived.Test.YtbochejgjmjieaaDoorWord
import Derived.Test.YtbochejgjmjieaaDoorPart
namespace Go.Proofs.YtbochejgjmjieaaDoor
open Go.RowKit

def sumB (size : Int) (key data : List UInt8) : List UInt8 × Nat := if size < 1 ∨ 32 < size ∨ 32 < key.length then ([], 1) else (hashB size.toNat key data, 0)
def codeB (key data : List UInt8) : List UInt8 := if 32 < key.length then List.replicate 16 0 else hashB 16 key data
theorem flat_words : ∀ ws : List UInt32, (ws.flatMap fun x => littleL x.toNat 4).length = 4 * ws.length
  | [] => rfl
  | x :: ws => by rw [List.flatMap_cons, List.length_append, littleL_length, flat_words ws, List.length_cons]; omega
theorem hashB_length (size : Nat) (key data : List UInt8) (h : size ≤ 32) : (hashB size key data).length = size := by
  unfold hashB
  rw [List.length_take, flat_words, statesB_length _ _ _ _ (firstB_length _ _)]
  omega
theorem codeB_length (key data : List UInt8) : (codeB key data).length = 16 := by
  unfold codeB
  split
  · simp
  · exact hashB_length 16 key data (by omega)
/-- parts as a call is given them -/
def PartsOk (ps : List Part) : Prop := ps.length ≤ 100 ∧ (flat ps ps.length).length ≤ 100000 ∧ ∀ p ∈ ps, p.n ≤ p.c ∧ p.c ≤ maxLen
theorem parts_blk {W : World} {g : Nat} {t : TypeId} (ps : List Part) (hb : Blk W g t (ps.map fun p => .slice p.A p.n p.c)) (h : ∀ p ∈ ps, Rd W W.heap.size p.A p.n p.l) : PartsRd W W.heap.size (some ⟨g, 0, none⟩) ps :=
  fun _ => ⟨g, rfl, hb.lt, fun j hj => ⟨by rw [hb.cell]; simp [hj], h _ (List.getElem_mem hj)⟩⟩
/-- the package-level variables of blake, as the program's text lays them -/
def permV : List Value := ordT.flatMap fun r => r.map fun i : Nat => .int .u8 (i : Int)
def LvBlake (w : World) : Prop := (∃ t, Blk w 0 t (ivW.map u32v)) ∧ ∃ t, Blk w 1 t permV
theorem LvBlake.below {w w' : World} (h : LvBlake w) (hb : Below w.heap.size w w') : LvBlake w' := by
  obtain ⟨⟨t, h1⟩, u, h2⟩ := h
  exact ⟨⟨t, h1.below hb h1.lt⟩, u, h2.below hb h2.lt⟩
def BlSumC : Prop := ∀ (size : Int), -9223372036854775808 ≤ size → size ≤ 9223372036854775807 → ∀ (Ak Ad : Option Addr) (nk ck nd cd : Nat) (key data : List UInt8), nk ≤ ck → ck ≤ maxLen → nd ≤ cd → cd ≤ maxLen → nk ≤ 1000 → nd ≤ 100000 → ∀ w : World, LvBlake w → Rd w w.heap.size Ak nk key → Rd w w.heap.size Ad nd data →
  Calls Tryd.prog 19 #[.int .i64 size, .slice Ak nk ck, .slice Ad nd cd] w fun e w' => ∃ A c', e = .returned (.tuple #[.slice A (sumB size key data).1.length c', .int .i64 ((sumB size key data).2 : Int)]) ∧ RdIn w.heap.size w'.heap.size A (sumB size key data).1.length (sumB size key data).1 w' ∧ (sumB size key data).1.length ≤ c' ∧ c' ≤ maxLen ∧ Below w.heap.size w w'
def BlHashC : Prop := ∀ (c : Nat) (A : Option Addr) (ps : List Part), PartsOk ps → ps.length ≤ c → c ≤ maxLen → ∀ w : World, LvBlake w → PartsRd w w.heap.size A ps →
  Calls Tryd.prog 14 #[.slice A ps.length c] w fun e w' => e = .returned (.agg ((hashB 32 [] (flat ps ps.length)).map u8v).toArray) ∧ Below w.heap.size w w'
end Go.Proofs.YtbochejgjmjieaaDoor
