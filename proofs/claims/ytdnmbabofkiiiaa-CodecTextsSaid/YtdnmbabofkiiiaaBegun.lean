/-
  The contract of the sanity check: the chapter's examples hold, so it returns true.
-/
import Derived.Test.YtdnmbabofkiiiaaBig
import Derived.Test.YtdnmbabofkiiiaaHex
import Derived.Test.YtdnmbabofkiiiaaText
namespace Go.Proofs.Ytdnmbabofkiiiaa
open Go.RowKit

theorem ex1 : littleL 258 3 = [2, 1, 0] := by decide
theorem ex2 : (littleL 258 3).reverse = [0, 1, 2] := by decide
theorem ex3 : hexL [255, 0] = [102, 102, 48, 48] := by decide
theorem ex4 : textL (List.replicate 32 0) = List.replicate 43 65 ++ [61] := by decide +kernel
theorem zeroKey : (#[.int .u8 0, .int .u8 0, .int .u8 0, .int .u8 0, .int .u8 0, .int .u8 0, .int .u8 0, .int .u8 0, .int .u8 0, .int .u8 0, .int .u8 0, .int .u8 0, .int .u8 0, .int .u8 0, .int .u8 0, .int .u8 0, .int .u8 0, .int .u8 0, .int .u8 0, .int .u8 0, .int .u8 0, .int .u8 0, .int .u8 0, .int .u8 0, .int .u8 0, .int .u8 0, .int .u8 0, .int .u8 0, .int .u8 0, .int .u8 0, .int .u8 0, .int .u8 0] : Array Value) = ((List.replicate 32 (0 : UInt8)).map u8v).toArray := rfl

theorem begun_any (w : World) : Calls Try.prog 18 #[] w fun e w' => e = .returned (.bool true) ∧ Below w.heap.size w w' := by
  obtain ⟨i0, hi, hz0, hz1, hz2⟩ := info_parts Try.info5
  obtain ⟨S, hS⟩ : ∃ S : ByteArray, S = ⟨(textL (List.replicate 32 0)).toArray⟩ := ⟨_, rfl⟩
  have hS1 : S.size = 44 := by rw [hS, ex4]; rfl
  go_enter Try.func18, Try.ntmps18
  go_wp2_with fail
  refine (text_any (List.replicate 32 0) (by simp) _ zeroKey _).mono ?_
  rintro e w1 ⟨rfl, hb1⟩
  rw [← hS]
  have HS := Lib.hid hS
  clear hS
  go_wp2_with fail
  refine (little_any 258 (by omega) 3 (by omega) (by omega) _).mono ?_
  rintro e w2 ⟨rfl, hown2, hb2⟩
  rw [ex1] at hown2
  have hcv2 : (convert 23 9 (.slice (some ⟨w1.heap.size, 0, none⟩) 3 3)).run Try.prog w2 = .ok (.string ⟨#[2, 1, 0]⟩) w2 := run_string_of_rd (P := Try.prog) 23 9 5 3 Try.underlying23 Try.underlying5 Try.underlying9 (Rd.of_own hown2)
  go_wp2_with fail
  refine (big_any 258 (by omega) 3 (by omega) (by omega) _).mono ?_
  rintro e w3 ⟨rfl, hown3, hb3⟩
  rw [ex2] at hown3
  have hcv3 : (convert 23 9 (.slice (some ⟨w2.heap.size, 0, none⟩) 3 3)).run Try.prog w3 = .ok (.string ⟨#[0, 1, 2]⟩) w3 := run_string_of_rd (P := Try.prog) 23 9 5 3 Try.underlying23 Try.underlying5 Try.underlying9 (Rd.of_own hown3)
  go_wp2_with fail
  have hrd : Rd (w3.alloc (.cells #[.int .u8 255, .int .u8 0] 5)) (w3.heap.size + 1) (some ⟨w3.heap.size, 0, none⟩) 2 [255, 0] := (Blk.new w3 5 ([255, 0].map u8v)).rd 0 2 (by simp)
  refine (hex_any _ _ 2 2 [255, 0] (by omega) _ hrd (by simp)).mono ?_
  rintro e w4 ⟨rfl, hb4⟩
  rw [ex3]
  have hbe : Below w.heap.size w w4 := ((((hb1.trans (hb2.mono hb1.size)).trans (hb3.mono (Nat.le_trans hb1.size hb2.size))).alloc (Nat.le_trans hb1.size (Nat.le_trans hb2.size hb3.size)) _)).trans (hb4.mono (by have := hb1.size; have := hb2.size; have := hb3.size; simp; omega))
  have HE := Lib.hid hbe
  clear hbe hrd hown2 hown3 hcv2 hcv3 hb1 hb2 hb3 hb4
  have hS2 : ((S.extract 42 44).toList == [65, 61]) = true := by rw [HS.out]; decide +kernel
  go_wp2
  go_ret
  exact ⟨rfl, HE.out⟩
end Go.Proofs.Ytdnmbabofkiiiaa
