/-
  The contract of codec.ReadLittle: the number of the first eight bytes at most.
-/
import Derived.Test.YtellicmnopfkgaaDoorMem
import Derived.Test.YtellicmnopfkgaaDoorNum
import Derived.Laws.Bits64
import Derived.Laws.BitsAllLaws
import Derived.Outline
namespace Go.Proofs.YtellicmnopfkgaaDoor
open Go.RowKit

/-- one round of ReadBig -/
theorem or64_big (a : Nat) (b : UInt8) : bits BinOp.or IntKind.u64 (IntKind.u64.wrap ((a : Int) % 18446744073709551616 * 256)) (IntKind.u64.wrap (b.toNat : Int)) = (((a * 256 + b.toNat) % 18446744073709551616 : Nat) : Int) := by
  have hb := b.toNat_lt
  have e1 : IntKind.u64.wrap ((a : Int) % 18446744073709551616 * 256) = (((a % 18446744073709551616 * 256) % 18446744073709551616 : Nat) : Int) := by
    rw [IntKind.wrap_u64]; omega
  have e2 : IntKind.u64.wrap (b.toNat : Int) = (b.toNat : Int) := by
    rw [IntKind.wrap_u64]; omega
  rw [e1, e2, u64_or_nat _ _ (by omega) (by omega), nat_join 8 _ _ (by omega) (by omega)]
  congr 1
  omega
/-- one round of ReadLittle -/
theorem or64_little (a j : Nat) (b : UInt8) (hj : j < 8) (ha : a < 2 ^ (8 * j)) : bits BinOp.or IntKind.u64 (a : Int) (IntKind.u64.wrap (IntKind.u64.wrap (b.toNat : Int) * 2 ^ (8 * j))) = ((a + 2 ^ (8 * j) * b.toNat : Nat) : Int) := by
  have hb := b.toNat_lt
  have e2 : IntKind.u64.wrap (b.toNat : Int) = (b.toNat : Int) := by
    rw [IntKind.wrap_u64]; omega
  have hp : 2 ^ (8 * j) ≤ 2 ^ 56 := Nat.pow_le_pow_right (by omega) (by omega)
  have hm : b.toNat * 2 ^ (8 * j) ≤ 255 * 2 ^ 56 := Nat.mul_le_mul (by omega) hp
  have e3 : IntKind.u64.wrap ((b.toNat : Int) * 2 ^ (8 * j)) = ((2 ^ (8 * j) * b.toNat : Nat) : Int) := by
    have : ((b.toNat : Int) * 2 ^ (8 * j)) = ((b.toNat * 2 ^ (8 * j) : Nat) : Int) := by rw [Int.natCast_mul, Int.natCast_pow]; rfl
    rw [this, IntKind.wrap_u64, Nat.mul_comm]
    rw [Nat.mul_comm] at hm
    omega
  rw [e2, e3, u64_or_nat _ _ (by omega) (by rw [Nat.mul_comm]; omega), or_low _ _ _ ha]

set_option maxRecDepth 100000 in
theorem readLittle_any (B : Nat) (A : Option Addr) (n cap : Nat) (l : List UInt8) (hn : n ≤ 1000000) (w : World) (hr : Rd w B A n l) :
    Calls Tryd.prog 31 #[.slice A n cap] w fun e w' => e = .returned (.int .u64 (numL (l.take 8) : Nat)) ∧ w = w' := by
  have hl : l.length = n := hr.1
  have HR := Lib.hid hr
  have HL := Lib.hid hl
  clear hr hl
  obtain ⟨m, hm⟩ : ∃ m, m = min n 8 := ⟨_, rfl⟩
  have hm8 : m ≤ 8 := by omega
  have hmn : m ≤ n := by omega
  have HM : Hid (l.take m = l.take 8) := by
    have := HL.out
    refine Lib.hid ?_
    by_cases h : n ≤ 8
    · rw [List.take_of_length_le (by omega), List.take_of_length_le (by omega)]
    · rw [show m = 8 from by omega]
  by_cases h8 : n ≤ 8
  · obtain rfl : m = n := by omega
    clear hm
    go_enter Tryd.func31, Tryd.ntmps31
    go_wp2
    go_loop [3, 8, 4] (fun v i _ => ∃ j : Nat, j ≤ m ∧ i = .int .i64 j ∧ v = .int .u64 (numL (l.take j) : Nat)) (fun _ i _ => m - (intOf i).toNat)
    case atStart => exact ⟨0, by omega, rfl, rfl⟩
    case round =>
      obtain ⟨j, hj, rfl, rfl⟩ := hrel
      by_cases hlt : j < m
      · obtain ⟨b, off, rfl, _, hc⟩ := HR.out.at_ (by omega)
        have hlj : j < l.length := by have := HL.out; omega
        have hc1 := hc j hlj
        clear hc
        go_wp2
        go_round
        case rel => exact ⟨j + 1, by omega, by go_num, by rw [or64_little _ j _ (by omega) (numL_take_lt l j), numL_take_succ l j hlj]⟩
        case measure => simp [intOf]; omega
      · obtain rfl : j = m := by omega
        have HM2 := HM
        clear HM
        go_wp2
        go_ret
        exact ⟨ret_int (by rw [HM2.out]), rfl⟩
  · obtain rfl : m = 8 := by omega
    clear hm HM
    go_enter Tryd.func31, Tryd.ntmps31
    go_wp2
    go_loop [3, 8, 4] (fun v i _ => ∃ j : Nat, j ≤ 8 ∧ i = .int .i64 j ∧ v = .int .u64 (numL (l.take j) : Nat)) (fun _ i _ => 8 - (intOf i).toNat)
    case atStart => exact ⟨0, by omega, rfl, rfl⟩
    case round =>
      obtain ⟨j, hj, rfl, rfl⟩ := hrel
      by_cases hlt : j < 8
      · obtain ⟨b, off, rfl, _, hc⟩ := HR.out.at_ (by omega)
        have hlj : j < l.length := by have := HL.out; omega
        have hc1 := hc j hlj
        clear hc
        go_wp2
        go_round
        case rel => exact ⟨j + 1, by omega, by go_num, by rw [or64_little _ j _ (by omega) (numL_take_lt l j), numL_take_succ l j hlj]⟩
        case measure => simp [intOf]; omega
      · obtain rfl : j = 8 := by omega
        go_wp2
        go_ret
        exact ⟨rfl, rfl⟩
end Go.Proofs.YtellicmnopfkgaaDoor
