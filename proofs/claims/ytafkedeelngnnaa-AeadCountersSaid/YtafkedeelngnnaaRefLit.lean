/-
  The contracts of the reference's numbers: burrowref01.Little, ReadLittle.
-/
import Derived.Test.YtafkedeelngnnaaLit
import Derived.Maps.AppendAt
import Derived.Outline
namespace Go.Proofs.Ytafkedeelngnnaa
open Go.RowKit

theorem readRefLittle_any (B : Nat) (A : Option Addr) (n cap : Nat) (l : List UInt8) (hn : n ≤ 1000000) (w : World) (hr : Rd w B A n l) :
    Calls Try.prog 43 #[.slice A n cap] w fun e w' => e = .returned (.int .u64 (numL (l.take 8) : Nat)) ∧ w = w' := by
  have hl : l.length = n := hr.1
  have HR := Lib.hid hr
  have HL := Lib.hid hl
  clear hr hl
  go_enter Try.func43, Try.ntmps43
  go_wp2
  go_loop [3, 4] (fun v i => ∃ j : Nat, j ≤ n ∧ i = .int .i64 ((j : Int) - 1) ∧ v = .int .u64 (numL (l.drop j) % 18446744073709551616 : Nat)) (fun _ i => (intOf i + 1).toNat)
  case atStart => exact ⟨n, by omega, rfl, by rw [List.drop_of_length_le (by have := HL.out; omega)]; rfl⟩
  case round =>
    obtain ⟨j, hj, rfl, rfl⟩ := hrel
    by_cases hlt : 0 < j
    · obtain ⟨j, rfl⟩ : ∃ i, j = i + 1 := ⟨j - 1, by omega⟩
      obtain ⟨b, off, rfl, _, hc⟩ := HR.out.at_ (by omega)
      have hlj : j < l.length := by have := HL.out; omega
      have hc1 := hc j hlj
      clear hc
      go_wp2
      go_round
      case rel => exact ⟨j, by omega, by go_num, by rw [or64_big, numL_drop l j hlj, Nat.mul_comm, Nat.add_comm]⟩
      case measure => simp [intOf]
    · obtain rfl : j = 0 := by omega
      go_wp2
      go_ret
      exact ⟨ret_int (by rw [← numL_take_mod]; simp), rfl⟩

theorem refLittle_any (n : Nat) (_hn : n < 18446744073709551616) (k : Nat) (h1 : 1 ≤ k) (h8 : k ≤ 8) (w : World) :
    Calls Try.prog 21 #[.int .u64 n, .int .i64 k] w fun e w' => ∃ A c, e = .returned (.slice A k c) ∧ w'.ownsRow w.heap.size 5 1 (.slice A k c) k ((littleL n k).map u8v) ∧ Below w.heap.size w w' := by
  obtain ⟨i0, hi, hz0, hz1, hz2⟩ := info_parts Try.info5
  go_enter Try.func21, Try.ntmps21
  go_wp2
  go_loopw [5, 6] (fun v i wr => ∃ j : Nat, j ≤ k ∧ i = .int .i64 j ∧ wr.ownsRow w.heap.size 5 1 v j ((littleL n j).map u8v) ∧ Below w.heap.size w wr) (fun _ i _ => k - (intOf i).toNat)
  case atStart => exact ⟨0, by omega, rfl, World.ownsRow_nil _ _ _ _, Below.refl _ _⟩
  case round =>
    obtain ⟨j, hj, rfl, hown, hb⟩ := hrel
    by_cases hlt : j < k
    · have hsz := hb.size
      have HB := Lib.hid (byteOf_cast n j)
      go_wp2_with (at_builtin; refine wpList_append_bytes _ rfl (.tmp 18) (.tmp 24) 26 rfl w.heap.size 5 i0 (.int .u8 0) Try.underlying26 hi hz0 hz1 hz2 rfl u5 j _ rfl (hown.alloc _) ⟨wr.heap.size, 0, none⟩ 1 1 [.int .u8 ((n : Int) / 2 ^ (8 * j) % 256)] rfl rfl (cell_one_new _ _ _) (by rw [← HB.out]; exact one_u8 _) (by omega) (by simp; omega) ?_; intro v' w' hown' hg')
      have HO := Lib.hid hown'
      clear hown'
      go_wp2
      go_roundw
      case rel =>
        refine ⟨j + 1, by omega, by go_num, ?_, (hb.alloc (by omega) _).grown hg' (by simp; omega) (own_from hown)⟩
        have h := HO.out
        rw [littleL_succ, List.map_append]
        rw [← HB.out] at h
        exact h
      case measure => simp [intOf]; omega
    · obtain rfl : j = k := by omega
      obtain ⟨A, c, rfl, _⟩ := own_slice hown
      have HO := Lib.hid hown
      clear hown
      go_wp2
      go_ret
      exact ⟨A, c, rfl, HO.out, hb⟩

end Go.Proofs.Ytafkedeelngnnaa
