/-
  The contract of codec.ReadLittle: the number of the first eight bytes at most.
-/
import Derived.Test.YtaolhndbpgjlcaaOr64
namespace Go.Proofs.Ytaolhndbpgjlcaa
open Go.RowKit

set_option maxRecDepth 100000 in
theorem readLittle_any (B : Nat) (A : Option Addr) (n cap : Nat) (l : List UInt8) (hn : n ≤ 1000000) (w : World) (hr : Rd w B A n l) :
    Calls Try.prog 36 #[.slice A n cap] w fun e w' => e = .returned (.int .u64 (numL (l.take 8) : Nat)) ∧ w = w' := by
  have hl : l.length = n := hr.1
  have HR := Lib.hid hr
  have HL := Lib.hid hl
  clear hr hl
  obtain ⟨m, hm⟩ : ∃ m, m = min n 8 := ⟨_, rfl⟩
  have hm8 : m ≤ 8 := by omega
  have hmn : m ≤ n := by omega
  have HM : Hid (l.take m = l.take 8) := by
    have := HL.out
    refine Lib.hid ?_
    by_cases h : n ≤ 8
    · rw [List.take_of_length_le (by omega), List.take_of_length_le (by omega)]
    · rw [show m = 8 from by omega]
  by_cases h8 : n ≤ 8
  · obtain rfl : m = n := by omega
    clear hm
    go_enter Try.func36, Try.ntmps36
    go_wp2
    go_loop [3, 8, 4] (fun v i _ => ∃ j : Nat, j ≤ m ∧ i = .int .i64 j ∧ v = .int .u64 (numL (l.take j) : Nat)) (fun _ i _ => m - (intOf i).toNat)
    case atStart => exact ⟨0, by omega, rfl, rfl⟩
    case round =>
      obtain ⟨j, hj, rfl, rfl⟩ := hrel
      by_cases hlt : j < m
      · obtain ⟨b, off, rfl, _, hc⟩ := HR.out.at_ (by omega)
        have hlj : j < l.length := by have := HL.out; omega
        have hc1 := hc j hlj
        clear hc
        go_wp2
        go_round
        case rel => exact ⟨j + 1, by omega, by go_num, by rw [or64_little _ j _ (by omega) (numL_take_lt l j), numL_take_succ l j hlj]⟩
        case measure => simp [intOf]; omega
      · obtain rfl : j = m := by omega
        have HM2 := HM
        clear HM
        go_wp2
        go_ret
        exact ⟨ret_int (by rw [HM2.out]), rfl⟩
  · obtain rfl : m = 8 := by omega
    clear hm HM
    go_enter Try.func36, Try.ntmps36
    go_wp2
    go_loop [3, 8, 4] (fun v i _ => ∃ j : Nat, j ≤ 8 ∧ i = .int .i64 j ∧ v = .int .u64 (numL (l.take j) : Nat)) (fun _ i _ => 8 - (intOf i).toNat)
    case atStart => exact ⟨0, by omega, rfl, rfl⟩
    case round =>
      obtain ⟨j, hj, rfl, rfl⟩ := hrel
      by_cases hlt : j < 8
      · obtain ⟨b, off, rfl, _, hc⟩ := HR.out.at_ (by omega)
        have hlj : j < l.length := by have := HL.out; omega
        have hc1 := hc j hlj
        clear hc
        go_wp2
        go_round
        case rel => exact ⟨j + 1, by omega, by go_num, by rw [or64_little _ j _ (by omega) (numL_take_lt l j), numL_take_succ l j hlj]⟩
        case measure => simp [intOf]; omega
      · obtain rfl : j = 8 := by omega
        go_wp2
        go_ret
        exact ⟨rfl, rfl⟩
end Go.Proofs.Ytaolhndbpgjlcaa
