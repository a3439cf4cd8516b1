/-
  The contract of the reference's Big.
-/
import Derived.Test.YtmbcohhnnlpnaaaRLit
namespace Go.Proofs.Ytmbcohhnnlpnaaa
open Go.RowKit

set_option maxRecDepth 100000 in
/-- what burrowref01.Big gives of a list: the reversed list; the round prepends -/
theorem refBig_any (n : Nat) (hn : n < 18446744073709551616) (k : Nat) (h1 : 1 ≤ k) (h8 : k ≤ 8) (w : World) :
    Calls Try.prog 14 #[.int .u64 n, .int .i64 k] w fun e w' => ∃ A c, e = .returned (.slice A k c) ∧ w'.ownsRow w.heap.size 5 1 (.slice A k c) k ((littleL n k).reverse.map u8v) ∧ Below w.heap.size w w' := by
  obtain ⟨i0, hi, hz0, hz1, hz2⟩ := info_parts Try.info5
  have LL := Lib.hid (refLittle_any n hn k h1 h8)
  clear hn
  go_enter Try.func14, Try.ntmps14
  go_wp2_with fail
  refine (LL.out _).mono ?_
  rintro e w1 ⟨A, c, rfl, hown1, hb1⟩
  clear LL
  have R1 := Lib.hid (Rd.of_own hown1)
  clear hown1
  go_wp2_with fail
  go_loopw [5, 12] (fun v i wr => ∃ j : Nat, j ≤ k ∧ i = .int .i64 j ∧ wr.ownsRow w1.heap.size 5 1 v j (((littleL n k).take j).reverse.map u8v) ∧ Below w1.heap.size w1 wr) (fun _ i _ => k - (intOf i).toNat)
  case atStart => exact ⟨0, by omega, rfl, World.ownsRow_nil _ _ _ _, Below.refl _ _⟩
  case round =>
    obtain ⟨j, hj, rfl, hown, hb⟩ := hrel
    by_cases hlt : j < k
    · obtain ⟨b, off, rfl, hbB, hc⟩ := R1.out.at_ (by omega)
      have hlj : j < (littleL n k).length := by rw [littleL_length]; exact hlt
      have hc1 := (hb.cell (p := ⟨b, off + j, none⟩) hbB).trans (hc j hlj)
      clear hc
      rw [littleL_get] at hc1
      obtain ⟨A', c', rfl, _⟩ := own_slice hown
      have hsz := hb.size
      have rd := Rd.of_own hown
      have hR := Lib.hid (rd.alloc (Nat.le_refl _) (.cells #[.int .u8 (byteOf n j).toNat] 5))
      clear rd
      go_wp2_with (at_builtin; refine wpList_append_rd _ rfl (.tmp 17) (.tmp 18) 35 rfl w1.heap.size 5 i0 (.int .u8 0) Try.underlying35 hi hz0 hz1 hz2 rfl (.slice (some ⟨wr.heap.size, 0, none⟩) 1 1) 1 [.int .u8 (byteOf n j).toNat] rfl (World.ownsRow_lit wr #[.int .u8 (byteOf n j).toNat] 1 (by omega) (by unfold maxLen; omega) rfl) _ A' j c' _ rfl hR.out (by omega) (by simp; omega) ?_; intro v' w' hown' hg')
      have HO := Lib.hid hown'
      clear hown'
      go_wp2
      go_roundw
      case rel =>
        refine ⟨j + 1, by omega, by go_num, ?_, (hb.alloc (by omega) _).grown hg' (by simp; omega) (by intro q hq; simp [Value.ownBlock] at hq; omega)⟩
        have h := HO.out
        rw [List.take_succ_eq_append_getElem hlj, List.reverse_append, littleL_get, Nat.add_comm]
        exact h
      case measure => simp [intOf]; omega
    · obtain rfl : j = k := by omega
      obtain ⟨A', c', rfl, _⟩ := own_slice hown
      rw [List.take_of_length_le (by rw [littleL_length]; exact Nat.le_refl _)] at hown
      have HO := Lib.hid (own_base hown hb1.size)
      clear hown
      have HB := Lib.hid (hb1.trans (hb.mono hb1.size))
      go_wp2
      go_ret
      exact ⟨A', c', rfl, HO.out, HB.out⟩
end Go.Proofs.Ytmbcohhnnlpnaaa
