/-
  The contract of the reference's ReadLittle.
-/
import Derived.Test.YtaolhndbpgjlcaaOr64
import Derived.Maps.AppendAt
import Derived.Outline
namespace Go.Proofs.Ytaolhndbpgjlcaa
open Go.RowKit

set_option maxRecDepth 100000 in
theorem readRefLittle_any (B : Nat) (A : Option Addr) (n cap : Nat) (l : List UInt8) (hn : n ≤ 1000000) (w : World) (hr : Rd w B A n l) :
    Calls Try.prog 40 #[.slice A n cap] w fun e w' => e = .returned (.int .u64 (numL (l.take 8) : Nat)) ∧ w = w' := by
  have hl : l.length = n := hr.1
  have HR := Lib.hid hr
  have HL := Lib.hid hl
  clear hr hl
  go_enter Try.func40, Try.ntmps40
  go_wp2
  go_loop [3, 4] (fun v i => ∃ j : Nat, j ≤ n ∧ i = .int .i64 ((j : Int) - 1) ∧ v = .int .u64 (numL (l.drop j) % 18446744073709551616 : Nat)) (fun _ i => (intOf i + 1).toNat)
  case atStart => exact ⟨n, by omega, rfl, by rw [List.drop_of_length_le (by have := HL.out; omega)]; rfl⟩
  case round =>
    obtain ⟨j, hj, rfl, rfl⟩ := hrel
    by_cases hlt : 0 < j
    · obtain ⟨j, rfl⟩ : ∃ i, j = i + 1 := ⟨j - 1, by omega⟩
      obtain ⟨b, off, rfl, _, hc⟩ := HR.out.at_ (by omega)
      have hlj : j < l.length := by have := HL.out; omega
      have hc1 := hc j hlj
      clear hc
      go_wp2
      go_round
      case rel => exact ⟨j, by omega, by go_num, by rw [or64_big, numL_drop l j hlj, Nat.mul_comm, Nat.add_comm]⟩
      case measure => simp [intOf]
    · obtain rfl : j = 0 := by omega
      go_wp2
      go_ret
      exact ⟨ret_int (by rw [← numL_take_mod]; simp), rfl⟩
end Go.Proofs.Ytaolhndbpgjlcaa
