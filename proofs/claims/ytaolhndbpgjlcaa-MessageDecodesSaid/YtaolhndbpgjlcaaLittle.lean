/-
  The contract of codec.Little: for a size from 1 to 8 it returns a new slice with the size lowest bytes of n, the least significant one first; for any other size nothing.
-/
import Derived.Test.YtaolhndbpgjlcaaMem
import Derived.Test.YtaolhndbpgjlcaaNum
namespace Go.Proofs.Ytaolhndbpgjlcaa
open Go.RowKit

set_option maxRecDepth 100000 in
theorem little_any (n : Nat) (_hn : n < 18446744073709551616) (k : Nat) (h1 : 1 ≤ k) (h8 : k ≤ 8) (w : World) :
    Calls Try.prog 26 #[.int .u64 n, .int .i64 k] w fun e w' => e = .returned (.slice (some ⟨w.heap.size, 0, none⟩) k k) ∧ w'.ownsRow w.heap.size 5 1 (.slice (some ⟨w.heap.size, 0, none⟩) k k) k ((littleL n k).map u8v) ∧ Below w.heap.size w w' := by
  obtain ⟨i0, hi, hz0, hz1, hz2⟩ := info_parts Try.info5
  go_enter Try.func26, Try.ntmps26
  go_wp2_with (refine wpList_make_full _ rfl (.tmp 13) (.tmp 13) 38 rfl w.heap.size 5 i0 (.int .u8 0) 1 Try.underlying38 hi hz0 hz1 .i64 .i64 k k k rfl rfl rfl rfl (by rw [hz2]; omega) (by unfold maxLen; omega) (Nat.le_refl _) ?_; intro w1 hown1 hg1)
  go_loopw [16, 6] (fun i _ wr => ∃ j : Nat, j ≤ k ∧ i = .int .i64 j ∧ wr.ownsRow w.heap.size 5 1 (.slice (some ⟨w.heap.size, 0, none⟩) k k) k ((littleRow n k j).map u8v) ∧ Below w.heap.size w wr) (fun i _ _ => k - (intOf i).toNat)
  case atStart =>
    refine ⟨0, by omega, rfl, ?_, (Below.refl _ _).grown hg1 (Nat.le_refl _) (by simp)⟩
    rw [littleRow_zero, List.map_replicate]
    rw [show (Value.int IntKind.u8 0).cells = #[.int .u8 0] from rfl, toList_madeCells_one, Nat.mul_one] at hown1
    exact hown1
  case round =>
    obtain ⟨j, hj, rfl, hown, hb⟩ := hrel
    by_cases hlt : j < k
    · have hfz := hown.frozenAt j
      have hcl : ∃ u, wr.cell? ⟨w.heap.size, j, none⟩ = some u := by
        rw [hown.cellAt j (by omega)]
        exact ⟨_, List.getElem?_eq_getElem (by rw [hown.1]; omega)⟩
      obtain ⟨u, hcl⟩ := hcl
      obtain ⟨hs1, hs2⟩ := hown.stored j (u8v (byteOf n j))
      have HS := Lib.hid hs1
      clear hs1
      go_wp2
      go_roundw
      case rel =>
        refine ⟨j + 1, by omega, by go_num, ?_, ?_⟩
        · have h := HS.out
          rw [← List.map_set, littleRow_set n k j hlt] at h
          simp only [u8v, byteOf_cast] at h
          exact h
        · exact hb.setCell (Nat.le_refl _) _
      case measure => simp [intOf]; omega
    · obtain rfl : j = k := by omega
      rw [littleRow_end] at hown
      go_wp2
      go_ret
      exact ⟨rfl, hown, hb⟩

set_option maxRecDepth 100000 in
/-- any other size: nothing -/
theorem little_none (n k : Int) (h : k < 1 ∨ 8 < k) (w : World) :
    Calls Try.prog 26 #[.int .u64 n, .int .i64 k] w fun e w' => e = .returned (.slice none 0 0) ∧ w = w' := by
  rcases h with h | h
  · go_enter Try.func26, Try.ntmps26
    go_wp2
    go_ret
    exact ⟨rfl, rfl⟩
  · have h' : ¬ k < 1 := by omega
    go_enter Try.func26, Try.ntmps26
    go_wp2
    go_ret
    exact ⟨rfl, rfl⟩
end Go.Proofs.Ytaolhndbpgjlcaa
