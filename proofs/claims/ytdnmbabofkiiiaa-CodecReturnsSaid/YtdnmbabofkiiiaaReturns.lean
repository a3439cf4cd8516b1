/-
  CodecReturns returns true for every number and size, and changes nothing that was there: the walk.
-/
import Derived.Test.YtdnmbabofkiiiaaBegun
import Derived.BigQuiet
import Derived.Deep.QuietTactic
namespace Go.Proofs.Ytdnmbabofkiiiaa
open Go.RowKit

/-- behind the bytes: what the law asks of the number m that is left of n -/
theorem returns_tail (n k M : Nat) (hn : n < 18446744073709551616) (h8 : k ≤ 8) (hM : M = n % 256 ^ k) : numL ((littleL n k).take 8) = M ∧ numB (littleL n k).reverse % 18446744073709551616 = M := by
  have hl : ((littleL n k).take 8) = littleL n k := List.take_of_length_le (by rw [littleL_length]; exact h8)
  have hp : M < 18446744073709551616 := by rw [hM]; exact Nat.lt_of_le_of_lt (Nat.mod_le _ _) hn
  refine ⟨by rw [hl, numL_little, hM], ?_⟩
  unfold numB
  rw [List.reverse_reverse, numL_little, ← hM, Nat.mod_eq_of_lt hp]

set_option maxHeartbeats 400000 in
theorem returns_walk (w : World) (n s : Nat) (hn : n < 18446744073709551616) (hs : s < 256) :
    Calls Try.prog 4 #[.int .u64 n, .int .u8 s] w fun e w' => e = .returned (.bool true) ∧ Below w.heap.size w w' := by
  obtain ⟨k, hk⟩ : ∃ k : Nat, 1 + (s : Int) % 8 = (k : Int) := ⟨1 + s % 8, by omega⟩
  have h1 : 1 ≤ k := by omega
  have h8 : k ≤ 8 := by omega
  obtain ⟨M, hM⟩ : ∃ M, M = n % 256 ^ k := ⟨_, rfl⟩
  have HT := Lib.hid (returns_tail n k M hn h8 hM)
  obtain ⟨P, hP⟩ : ∃ P, P = 256 ^ k := ⟨_, rfl⟩
  have hMP : k < 8 → IntKind.u64.wrap ((2 : Int) ^ (8 * k)) = (P : Int) ∧ ¬ ((P : Int) = 0) ∧ (n : Int) % (P : Int) = (M : Int) := by
    intro h
    have hq : (2 : Nat) ^ (8 * k) ≤ 2 ^ 56 := Nat.pow_le_pow_right (by omega) (by omega)
    have hq0 : 0 < (2 : Nat) ^ (8 * k) := Nat.pow_pos (by omega)
    have hpp : P = 2 ^ (8 * k) := by rw [hP, pow_256]
    refine ⟨?_, by omega, by rw [hM, ← hP]; omega⟩
    have : ((2 : Int) ^ (8 * k)) = ((2 ^ (8 * k) : Nat) : Int) := by rw [Int.natCast_pow]; rfl
    rw [this, IntKind.wrap_u64, ← hpp]
    omega
  have hM8 : ¬ k < 8 → n = M := by
    intro h
    rw [hM, show k = 8 from by omega, Nat.mod_eq_of_lt hn]
  have LL := Lib.hid (little_any n hn k h1 h8)
  have BB := Lib.hid (big_any n hn k h1 h8)
  clear hM hP
  by_cases hlt : k < 8
  · obtain ⟨p1, p2, p3⟩ := hMP hlt
    clear hMP hM8
    go_enter Try.func4, Try.ntmps4
    go_wp2_with fail
    refine (LL.out _).mono ?_
    rintro e w1 ⟨rfl, hown1, hb1⟩
    go_wp2_with fail
    refine (BB.out _).mono ?_
    rintro e w2 ⟨rfl, hown2, hb2⟩
    clear LL BB
    have r1 := Lib.hid ((Rd.of_own hown1).below hb2)
    have r2 := Lib.hid (Rd.of_own hown2)
    have bw := Lib.hid (hb1.trans (hb2.mono hb1.size))
    have hz := hb2.size
    clear hb1 hb2 hown1 hown2
    go_wp2_with fail
    go_loopw [40, 9] (fun i _ wr => ∃ j : Nat, j ≤ k ∧ i = .int .i64 j ∧ Below w2.heap.size w2 wr) (fun i _ _ => k - (intOf i).toNat)
    case atStart => exact ⟨0, by omega, rfl, Below.refl _ _⟩
    case round =>
      obtain ⟨j, hj, rfl, hb⟩ := hrel
      by_cases hjk : j < k
      · have hc1 := ((r1.out.mono hz).below hb).cell0 j (by rw [littleL_length]; exact hjk)
        have hc2 := (r2.out.below hb).cell0 (k - 1 - j) (by rw [List.length_reverse, littleL_length]; omega)
        rw [littleL_get] at hc1
        rw [List.getElem_reverse, littleL_get] at hc2
        simp only [littleL_length, show k - 1 - (k - 1 - j) = j from by omega] at hc2
        go_wp2
        go_quiet (fail)
        go_wp2
        go_roundw
        case rel => exact ⟨j + 1, by omega, by go_num, below_drewN hb _⟩
        case measure => simp [intOf]; omega
      · obtain rfl : j = k := by omega
        have q1 := Lib.hid ((r1.out.mono hz).below hb)
        have q2 := Lib.hid (r2.out.below hb)
        have bw2 := Lib.hid (bw.out.trans (hb.mono bw.out.size))
        clear hb r1 r2
        go_wp2_with fail
        refine (readLittle_any _ _ _ _ _ (by omega) _ q1.out).mono ?_
        rintro e w3 ⟨rfl, rfl⟩
        rw [HT.out.1]
        go_wp2_with fail
        refine (readBig_any _ _ _ _ _ (by omega) _ q2.out).mono ?_
        rintro e w3 ⟨rfl, rfl⟩
        rw [HT.out.2]
        go_wp2_with fail
        refine (begun_any _).mono ?_
        rintro e w3 ⟨rfl, hb3⟩
        have hbe := Lib.hid (bw2.out.trans (hb3.mono bw2.out.size))
        clear hb3
        go_wp2_with fail
        go_ret
        exact ⟨rfl, hbe.out⟩
  · obtain rfl : n = M := hM8 hlt
    clear hMP hM8
    go_enter Try.func4, Try.ntmps4
    go_wp2_with fail
    refine (LL.out _).mono ?_
    rintro e w1 ⟨rfl, hown1, hb1⟩
    go_wp2_with fail
    refine (BB.out _).mono ?_
    rintro e w2 ⟨rfl, hown2, hb2⟩
    clear LL BB
    have r1 := Lib.hid ((Rd.of_own hown1).below hb2)
    have r2 := Lib.hid (Rd.of_own hown2)
    have bw := Lib.hid (hb1.trans (hb2.mono hb1.size))
    have hz := hb2.size
    clear hb1 hb2 hown1 hown2
    go_wp2_with fail
    go_loopw [40, 9] (fun i _ wr => ∃ j : Nat, j ≤ k ∧ i = .int .i64 j ∧ Below w2.heap.size w2 wr) (fun i _ _ => k - (intOf i).toNat)
    case atStart => exact ⟨0, by omega, rfl, Below.refl _ _⟩
    case round =>
      obtain ⟨j, hj, rfl, hb⟩ := hrel
      by_cases hjk : j < k
      · have hc1 := ((r1.out.mono hz).below hb).cell0 j (by rw [littleL_length]; exact hjk)
        have hc2 := (r2.out.below hb).cell0 (k - 1 - j) (by rw [List.length_reverse, littleL_length]; omega)
        rw [littleL_get] at hc1
        rw [List.getElem_reverse, littleL_get] at hc2
        simp only [littleL_length, show k - 1 - (k - 1 - j) = j from by omega] at hc2
        go_wp2
        go_quiet (fail)
        go_wp2
        go_roundw
        case rel => exact ⟨j + 1, by omega, by go_num, below_drewN hb _⟩
        case measure => simp [intOf]; omega
      · obtain rfl : j = k := by omega
        have q1 := Lib.hid ((r1.out.mono hz).below hb)
        have q2 := Lib.hid (r2.out.below hb)
        have bw2 := Lib.hid (bw.out.trans (hb.mono bw.out.size))
        clear hb r1 r2
        go_wp2_with fail
        refine (readLittle_any _ _ _ _ _ (by omega) _ q1.out).mono ?_
        rintro e w3 ⟨rfl, rfl⟩
        rw [HT.out.1]
        go_wp2_with fail
        refine (readBig_any _ _ _ _ _ (by omega) _ q2.out).mono ?_
        rintro e w3 ⟨rfl, rfl⟩
        rw [HT.out.2]
        go_wp2_with fail
        refine (begun_any _).mono ?_
        rintro e w3 ⟨rfl, hb3⟩
        have hbe := Lib.hid (bw2.out.trans (hb3.mono bw2.out.size))
        clear hb3
        go_wp2_with fail
        go_ret
        exact ⟨rfl, hbe.out⟩
end Go.Proofs.Ytdnmbabofkiiiaa
