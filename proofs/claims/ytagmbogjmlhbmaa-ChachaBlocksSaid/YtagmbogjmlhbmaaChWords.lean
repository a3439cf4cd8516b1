/-
  The contract of chacha.readWords: words out of bytes, four for each, the least significant one first.
-/
import Derived.Test.YtagmbogjmlhbmaaLit
import Derived.Test.YtagmbogjmlhbmaaChCore
namespace Go.Proofs.Ytagmbogjmlhbmaa
open Go.RowKit

theorem wordL_toNat (l : List UInt8) (i : Nat) : (wordL l i).toNat = numL ((l.drop (4 * i)).take 4) := by
  unfold wordL
  rw [UInt32.toNat_ofNat']
  refine Nat.mod_eq_of_lt ?_
  exact numL_take_lt (l.drop (4 * i)) 4
theorem word_wrap (l : List UInt8) (i : Nat) : ((numL (((l.drop (4 * i)).take 4).take 8) : Nat) : Int) % 4294967296 = ((wordL l i).toNat : Int) := by
  have h := wordL_toNat l i
  have h2 := (wordL l i).toNat_lt
  rw [List.take_take, show min 8 4 = 4 from rfl, ← h]
  omega
/-- the first j places from off on are set to what f gives -/
def fillW (l : List UInt32) (off : Nat) (f : Nat → UInt32) : Nat → List UInt32
  | 0 => l
  | j + 1 => (fillW l off f j).set (off + j) (f j)
theorem fillW_length (l : List UInt32) (off : Nat) (f : Nat → UInt32) : ∀ j, (fillW l off f j).length = l.length
  | 0 => rfl
  | j + 1 => by rw [fillW, List.length_set, fillW_length l off f j]

theorem grown_set {w w' : World} {g : Nat} (h : w.grownBy w' (some g)) (i : Nat) (u : Value) : w.grownBy (w'.setCell ⟨g, i, none⟩ u) (some g) :=
  ⟨h.os, h.tape, h.output, by simpa [World.setCell] using h.size, fun k hk hne => by
    have := h.block k hk hne
    rw [Below.heap_setCell w' ⟨g, i, none⟩ u k (fun e => hne (by simp [e]))]
    exact this⟩

theorem readWords_any (G off n c kb m : Nat) (t tk : TypeId) (l : List UInt32) (bs : List UInt8) (hl : l.length = 16) (hoff : off + n ≤ 16) (hc : n ≤ c) (hb : bs.length = m) (hm : 4 * n ≤ m) (hm2 : m ≤ 1000) (hkG : G ≠ kb) (w : World) (hG : Blk w G t (l.map u32v)) (hK : Blk w kb tk (bs.map u8v)) :
    Calls Try.prog 24 #[.slice (some ⟨G, off, none⟩) n c, .slice (some ⟨kb, 0, none⟩) m m] w fun e w' => e = .returned (.tuple #[]) ∧ Blk w' G t ((fillW l off (wordL bs) n).map u32v) ∧ w.grownBy w' (some G) := by
  have HG := Lib.hid hG
  have HK := Lib.hid hK
  have HL := Lib.hid hl
  have HB := Lib.hid hb
  have HKG := Lib.hid hkG
  clear hG hK hl hb hkG
  go_enter Try.func24, Try.ntmps24
  go_wp2
  go_loopw [7, 4] (fun i _ wr => ∃ j : Nat, j ≤ n ∧ i = .int .i64 j ∧ Blk wr G t ((fillW l off (wordL bs) j).map u32v) ∧ Blk wr kb tk (bs.map u8v) ∧ w.grownBy wr (some G)) (fun i _ _ => n - (intOf i).toNat)
  case atStart => exact ⟨0, by omega, rfl, HG.out, HK.out, World.grownBy.refl _ _⟩
  case round =>
    obtain ⟨j, hj, rfl, hblk, hk, hg⟩ := hrel
    by_cases hlt : j < n
    · have rd := hk.rd (4 * j) 4 (by have := HB.out; omega)
      have RL := Lib.hid (readLittle_any _ _ 4 (m - 4 * j) _ (by omega) wr rd)
      have hlen : (fillW l off (wordL bs) j).length = 16 := by rw [fillW_length]; exact HL.out
      have fx := hblk.word (off + j) (by omega)
      have zx := hblk.frozen (off + j)
      have WW := Lib.hid (word_wrap bs j)
      have HN := Lib.hid (And.intro (hblk.setWord (off + j) (wordL bs j)) (And.intro (hk.far (p := ⟨G, off + j, none⟩) HKG.out.symm (.int .u32 ((wordL bs j).toNat : Int))) (grown_set hg (off + j) (.int .u32 ((wordL bs j).toNat : Int)))))
      clear hblk hk hg rd hlen
      go_wp2_with fail
      rw [show (j + 1) * 4 - j * 4 = 4 by omega, Nat.mul_comm j 4]
      refine RL.out.mono ?_
      rintro e w1 ⟨rfl, rfl⟩
      clear RL
      obtain ⟨N, hN⟩ : ∃ N, numL (((bs.drop (4 * j)).take 4).take 8) = N := ⟨_, rfl⟩
      have WN := WW.out
      rw [hN] at WN ⊢
      clear hN WW
      go_wp2
      go_roundw
      case rel =>
        exact ⟨j + 1, by omega, by go_num, HN.out.1, HN.out.2.1, HN.out.2.2⟩
      case measure => simp [intOf]; omega
    · obtain rfl : j = n := by omega
      have HN := Lib.hid (And.intro hblk hg)
      clear hblk hg hk
      go_wp2
      refine bodyPost_end (results_none rfl _ _ _) rfl ⟨rfl, HN.out.1, HN.out.2⟩
end Go.Proofs.Ytagmbogjmlhbmaa
