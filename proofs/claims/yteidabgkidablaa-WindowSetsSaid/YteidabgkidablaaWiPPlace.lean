/-
  The contract of the program's place. No statement is proved here.
-/
import Derived.Test.YteidabgkidablaaWiC
import Derived.Test.YteidabgkidablaaBits64
import Derived.RegionTactic
import Derived.Deep.DeepCutAuto
namespace Go.Proofs.Yteidabgkidablaa
open Go.RowKit

set_option maxRecDepth 100000 in
set_option maxHeartbeats 8000000 in
theorem place_any (c : Nat) (hc : c < 18446744073709551616) (w : World) :
    Calls Try.prog 13 #[.int .u64 (c : Int)] w fun e w' => e = .returned (.tuple #[.int .i64 ((c / 64 % 4 : Nat) : Int), .int .u64 ((2 ^ (c % 64) : Nat) : Int)]) ∧ w' = w := by
  obtain ⟨cb, hcb⟩ : ∃ z, c / 64 = z := ⟨_, rfl⟩
  obtain ⟨k, hk⟩ : ∃ z, c % 64 = z := ⟨_, rfl⟩
  obtain ⟨j, hj⟩ : ∃ z, cb % 4 = z := ⟨_, rfl⟩
  rw [hcb, hk, hj]
  have hk64 : k < 64 := by omega
  have e1 : (c : Int) / 64 = (cb : Int) := by omega
  have e3 : (c : Int) % 64 = (k : Int) := by omega
  have e4 : (cb : Int) % 4 = (j : Int) := by omega
  have w1' : IntKind.u64.wrap (cb : Int) = (cb : Int) := by rw [IntKind.wrap_u64]; omega
  have w2' : IntKind.i64.wrap (j : Int) = (j : Int) := by rw [IntKind.wrap_i64]; omega
  have esh : IntKind.u64.wrap (2 ^ k : Int) = ((2 ^ k : Nat) : Int) := by have h := shl_u64 k hk64; rw [Int.one_mul] at h; exact h
  have esh2 : (2 ^ k : Int) % 18446744073709551616 = ((2 ^ k : Nat) : Int) := by rw [← IntKind.wrap_u64]; exact esh
  obtain ⟨pk, hpk⟩ : ∃ z, 2 ^ k = z := ⟨_, rfl⟩
  rw [hpk] at esh esh2
  rw [hpk]
  clear hcb hk hj hpk
  go_enter Try.func13, Try.ntmps13
  go_wp2
  go_ret2
  exact ⟨rfl, rfl⟩
end Go.Proofs.Yteidabgkidablaa
