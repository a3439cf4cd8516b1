/-
  The contract of codec.ReadBig: the number of bytes, the most significant one first.
-/
import Derived.Test.YtdpdalkeafkhkaaOr64
namespace Go.Proofs.Ytdpdalkeafkhkaa
open Go.RowKit

set_option maxRecDepth 100000 in
theorem readBig_any (B : Nat) (A : Option Addr) (n cap : Nat) (l : List UInt8) (hn : n ≤ 1000000) (w : World) (hr : Rd w B A n l) :
    Calls Try.prog 46 #[.slice A n cap] w fun e w' => e = .returned (.int .u64 (numB l % 18446744073709551616 : Nat)) ∧ w = w' := by
  have hl : l.length = n := hr.1
  have HR := Lib.hid hr
  have HL := Lib.hid hl
  clear hr hl
  go_enter Try.func46, Try.ntmps46
  go_wp2
  go_loop [3, 8, 5] (fun v i _ => ∃ j : Nat, j ≤ n ∧ i = .int .i64 j ∧ v = .int .u64 (numB (l.take j) % 18446744073709551616 : Nat)) (fun _ i _ => n - (intOf i).toNat)
  case atStart => exact ⟨0, by omega, rfl, rfl⟩
  case round =>
    obtain ⟨j, hj, rfl, rfl⟩ := hrel
    by_cases hlt : j < n
    · obtain ⟨b, off, rfl, _, hc⟩ := HR.out.at_ (by omega)
      have hlj : j < l.length := by have := HL.out; omega
      have hc1 := hc j hlj
      clear hc
      go_wp2
      go_round
      case rel => exact ⟨j + 1, by omega, by go_num, by rw [or64_big, numB_take_succ l j hlj]⟩
      case measure => simp [intOf]; omega
    · obtain rfl : j = n := by omega
      go_wp2
      go_ret
      exact ⟨ret_int (by rw [List.take_of_length_le (by have := HL.out; omega)]), rfl⟩
end Go.Proofs.Ytdpdalkeafkhkaa
