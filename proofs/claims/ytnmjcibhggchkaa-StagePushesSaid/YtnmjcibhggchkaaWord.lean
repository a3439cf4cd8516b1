/-
  Words in memory, zero bytes, and what a walk says of slices of the call's own. No statement is proved here.
-/
import Derived.Test.YtnmjcibhggchkaaBlkMore
import Derived.Test.YtnmjcibhggchkaaChMath
namespace Go.Proofs.Ytnmjcibhggchkaa
open Go.RowKit

def u32v (x : UInt32) : Value := .int .u32 (x.toNat : Int)

/-- a block of words, the one at i as it is read there -/
theorem Blk.word {w : World} {g : Nat} {t : TypeId} {l : List UInt32} (h : Blk w g t (l.map u32v)) (i : Nat) (hi : i < l.length) : w.cell? ⟨g, i, none⟩ = some (.int .u32 ((wd l i).toNat : Int)) := by
  rw [h.cell i]
  simp [u32v, hi, wd, List.getD]
theorem Blk.drewN {w : World} {g : Nat} {t : TypeId} {cs : List Value} (h : Blk w g t cs) (n : Nat) : Blk (w.drewN n) g t cs := h
theorem Blk.setWord {w : World} {g : Nat} {t : TypeId} {l : List UInt32} (h : Blk w g t (l.map u32v)) (i : Nat) (x : UInt32) : Blk (w.setCell ⟨g, i, none⟩ (.int .u32 (x.toNat : Int))) g t ((l.set i x).map u32v) := by
  have h' := h.set_ i (.int .u32 (x.toNat : Int))
  rw [List.map_set]
  exact h'

def aeZ (n : Nat) : List Value := List.replicate n (.int .u8 0)
theorem aeZ12 : (aeZ 12).toArray = #[.int .u8 0, .int .u8 0, .int .u8 0, .int .u8 0, .int .u8 0, .int .u8 0, .int .u8 0, .int .u8 0, .int .u8 0, .int .u8 0, .int .u8 0, .int .u8 0] := rfl
theorem aeZ16 : (aeZ 16).toArray = #[.int .u8 0, .int .u8 0, .int .u8 0, .int .u8 0, .int .u8 0, .int .u8 0, .int .u8 0, .int .u8 0, .int .u8 0, .int .u8 0, .int .u8 0, .int .u8 0, .int .u8 0, .int .u8 0, .int .u8 0, .int .u8 0] := rfl
theorem aeZ32 : (aeZ 32).toArray = #[.int .u8 0, .int .u8 0, .int .u8 0, .int .u8 0, .int .u8 0, .int .u8 0, .int .u8 0, .int .u8 0, .int .u8 0, .int .u8 0, .int .u8 0, .int .u8 0, .int .u8 0, .int .u8 0, .int .u8 0, .int .u8 0, .int .u8 0, .int .u8 0, .int .u8 0, .int .u8 0, .int .u8 0, .int .u8 0, .int .u8 0, .int .u8 0, .int .u8 0, .int .u8 0, .int .u8 0, .int .u8 0, .int .u8 0, .int .u8 0, .int .u8 0, .int .u8 0] := rfl
theorem own_addr {w : World} {base e n : Nat} {A : Option Addr} {c : Nat} {xs : List Value} (h : w.ownsRow base e 1 (.slice A n c) n xs) : n ≤ c ∧ c ≤ maxLen ∧ (0 < n → ∃ g, A = some ⟨g, 0, none⟩) := by
  rcases h.2 with ⟨hv, h0⟩ | ⟨g, cap, cur, hv, _, _, hnc, hcm, _⟩
  · simp only [Value.slice.injEq] at hv
    exact ⟨by omega, by rw [hv.2.2]; exact Nat.zero_le _, fun h => by omega⟩
  · simp only [Value.slice.injEq] at hv
    exact ⟨by rw [hv.2.2]; exact hnc, by rw [hv.2.2]; exact hcm, fun _ => ⟨g, hv.1⟩⟩
theorem blk_all {w : World} {g m : Nat} {t : TypeId} {l : List UInt8} (h : Blk w g t (l.map u8v)) (hl : l.length = m) : Rd w w.heap.size (some ⟨g, 0, none⟩) m l := by
  have h2 := (h.rd 0 m (by omega)).mono h.lt
  rwa [List.drop_zero, List.take_of_length_le (by omega)] at h2
/-- l with xs in the place of what stands behind off -/
def putL {α : Type} (l : List α) (off : Nat) (xs : List α) : List α := l.take off ++ xs ++ l.drop (off + xs.length)
theorem putL_length {α : Type} (l : List α) (off : Nat) (xs : List α) (h : off + xs.length ≤ l.length) : (putL l off xs).length = l.length := by
  simp only [putL, List.length_append, List.length_take, List.length_drop]; omega
theorem putL_map {α β : Type} (f : α → β) (l : List α) (off : Nat) (xs : List α) : (l.map f).take off ++ xs.map f ++ (l.map f).drop (off + (xs.map f).length) = (putL l off xs).map f := by
  simp only [putL, List.map_append, List.map_take, List.map_drop, List.length_map]
/-- words that are zero -/
def zw (n : Nat) : List Value := List.replicate n (.int .u32 0)
theorem u32v_one (l : List UInt32) : ∀ v ∈ l.map u32v, v.oneCell' = true := by
  intro v hv
  obtain ⟨b, _, rfl⟩ := List.mem_map.1 hv
  rfl
theorem wordL_toNat (l : List UInt8) (i : Nat) : (wordL l i).toNat = numL ((l.drop (4 * i)).take 4) := by
  unfold wordL
  rw [UInt32.toNat_ofNat']
  refine Nat.mod_eq_of_lt ?_
  exact numL_take_lt (l.drop (4 * i)) 4
theorem word_wrap (l : List UInt8) (i : Nat) : ((numL (((l.drop (4 * i)).take 4).take 8) : Nat) : Int) % 4294967296 = ((wordL l i).toNat : Int) := by
  have h := wordL_toNat l i
  have h2 := (wordL l i).toNat_lt
  rw [List.take_take, show min 8 4 = 4 from rfl, ← h]
  omega
/-- the first j places from off on are set to what f gives -/
def fillW (l : List UInt32) (off : Nat) (f : Nat → UInt32) : Nat → List UInt32
  | 0 => l
  | j + 1 => (fillW l off f j).set (off + j) (f j)
theorem fillW_length (l : List UInt32) (off : Nat) (f : Nat → UInt32) : ∀ j, (fillW l off f j).length = l.length
  | 0 => rfl
  | j + 1 => by rw [fillW, List.length_set, fillW_length l off f j]

theorem grown_set {w w' : World} {g : Nat} (h : w.grownBy w' (some g)) (i : Nat) (u : Value) : w.grownBy (w'.setCell ⟨g, i, none⟩ u) (some g) :=
  ⟨h.os, h.tape, h.output, by simpa [World.setCell] using h.size, fun k hk hne => by
    have := h.block k hk hne
    rw [Below.heap_setCell w' ⟨g, i, none⟩ u k (fun e => hne (by simp [e]))]
    exact this⟩

theorem fillW_get (l : List UInt32) (off : Nat) (f : Nat → UInt32) : ∀ j i : Nat, off + j ≤ l.length → (fillW l off f j)[i]? = if off ≤ i ∧ i < off + j then some (f (i - off)) else l[i]?
  | 0, i, _ => by rw [fillW, if_neg (by omega)]
  | j + 1, i, h => by
    rw [fillW, List.getElem?_set, fillW_length]
    by_cases e : off + j = i
    · rw [if_pos e, if_pos (by omega), if_pos (by omega)]
      congr 2
      omega
    · rw [if_neg e, fillW_get l off f j i (by omega)]
      by_cases h2 : off ≤ i ∧ i < off + j
      · rw [if_pos h2, if_pos (by omega)]
      · rw [if_neg h2, if_neg (by omega)]
/-- a slice's length -/
def lenS : Value → Nat
  | .slice _ n _ => n
  | _ => 0
theorem below_own {w0 w w' : World} {v : Value} {e n : Nat} {xs : List Value} (hb : Below w0.heap.size w0 w) (hown : w.ownsRow w0.heap.size e 1 v n xs) (hg : w.grownBy w' v.ownBlock) : Below w0.heap.size w0 w' := hb.grown hg hb.size (own_from hown)
theorem rd_new (w : World) (t : TypeId) (l : List UInt8) : Rd (w.alloc (.cells (l.map u8v).toArray t)) (w.heap.size + 1) (some ⟨w.heap.size, 0, none⟩) l.length l := by
  have h := (Blk.new w t (l.map u8v)).rd 0 l.length (by omega)
  rwa [List.drop_zero, List.take_length] at h

end Go.Proofs.Ytnmjcibhggchkaa
