/-
  A packet is recovered from its padded form: mathematics.
-/
import Derived.Test.YtdpdalkeafkhkaaInPack
namespace Go.Proofs.Ytdpdalkeafkhkaa
open Go.RowKit

theorem pad_length (l : List UInt8) : (padB l).length = l.length + (16 - l.length % 16) % 16 := by
  rw [padB, List.length_append, List.length_replicate]
theorem pad_mod (l : List UInt8) : (padB l).length % 16 = 0 := by
  rw [pad_length]; omega
theorem pad_less (l : List UInt8) : (padB l).length - l.length < 16 := by
  rw [pad_length]; omega
theorem pad_le (l : List UInt8) : l.length ≤ (padB l).length := by
  rw [pad_length]; omega
theorem pad_take (l : List UInt8) : (padB l).take l.length = l := by
  rw [padB, List.take_append_of_le_length (Nat.le_refl _), List.take_length]
theorem pad_drop (l : List UInt8) : (padB l).drop l.length = List.replicate ((16 - l.length % 16) % 16) 0 := by
  rw [padB, List.drop_append_of_le_length (Nat.le_refl _), List.drop_length, List.nil_append]
theorem pad_getD (l : List UInt8) (i : Nat) (h : i < l.length) : (padB l).getD i 0 = l.getD i 0 := by
  rw [padB, List.getD_eq_getElem?_getD, List.getD_eq_getElem?_getD, List.getElem?_append_left h]
theorem two_of (n : Nat) (h : n < 65536) : 256 * (UInt8.ofNat (n / 256)).toNat + (UInt8.ofNat n).toNat = n := by
  rw [UInt8.toNat_ofNat', UInt8.toNat_ofNat']
  show 256 * (n / 256 % 256) + n % 256 = n
  omega
/-- the padded form of a packet is accepted, with the packet's length -/
theorem pack_check (six : Bool) (n : Nat) (hn : n ≤ 1900) (f : UInt8) : (checkB (padB (packM six n f))).2 = 0 ∧ (checkB (padB (packM six n f))).1.len = (packM six n f).length := by
  have hl := packM_length six n f
  have hp := pad_length (packM six n f)
  have hg := pad_getD (packM six n f)
  cases six with
  | true =>
    rw [if_pos rfl] at hl
    have g0 : (padB (packM true n f)).getD 0 0 = 96 := (hg 0 (by omega)).trans rfl
    have g4 : (padB (packM true n f)).getD 4 0 = UInt8.ofNat (n / 256) := (hg 4 (by omega)).trans rfl
    have g5 : (padB (packM true n f)).getD 5 0 = UInt8.ofNat n := (hg 5 (by omega)).trans rfl
    have ht : twoB (padB (packM true n f)) 4 = n := by
      unfold twoB
      rw [g4, g5]
      exact two_of n (by omega)
    have hc := checkB_six (padB (packM true n f)) (by omega) (by omega) (by rw [g0]; rfl)
    rw [if_neg (by omega), ht, if_neg (by omega), if_neg (by omega)] at hc
    rw [hc]
    refine ⟨rfl, ?_⟩
    show 40 + twoB _ 4 = _
    rw [ht, hl]
  | false =>
    rw [if_neg (by decide)] at hl
    have g0 : (padB (packM false n f)).getD 0 0 = 69 := (hg 0 (by omega)).trans rfl
    have g2 : (padB (packM false n f)).getD 2 0 = UInt8.ofNat ((20 + n) / 256) := (hg 2 (by omega)).trans rfl
    have g3 : (padB (packM false n f)).getD 3 0 = UInt8.ofNat (20 + n) := (hg 3 (by omega)).trans rfl
    have ht : twoB (padB (packM false n f)) 2 = 20 + n := by
      unfold twoB
      rw [g2, g3]
      exact two_of _ (by omega)
    have hc := checkB_four (padB (packM false n f)) (by omega) (by omega) (by rw [g0]; rfl)
    rw [if_neg (by omega), ht, g0, if_neg (by show ¬(5 < 5 ∨ 20 + n < 4 * 5); omega), if_neg (by omega), if_neg (by omega)] at hc
    rw [hc]
    refine ⟨rfl, ?_⟩
    show twoB _ 2 = _
    rw [ht, hl]
theorem pack_trim (six : Bool) (n : Nat) (hn : n ≤ 1900) (f : UInt8) : trimB (padB (packM six n f)) = (packM six n f, 0) := by
  obtain ⟨h1, h2⟩ := pack_check six n hn f
  rw [trimB, if_pos h1, h2, pad_take]
end Go.Proofs.Ytdpdalkeafkhkaa
