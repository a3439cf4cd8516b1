/-
  A counter that is often about the greatest one of a window. No statement is proved here.
-/
import Derived.Test.YteidabgkidablaaWiC
import Derived.RegionTactic
import Derived.Deep.DeepCutAuto
namespace Go.Proofs.Yteidabgkidablaa
open Go.RowKit

set_option maxRecDepth 100000 in
set_option maxHeartbeats 8000000 in
theorem wi_near_any (x : WinM) (hx : x.ok) (s : Nat) (hs : s < 65536) (w : World) :
    Calls Try.prog 10 #[.agg x.cells.toArray, .int .u16 (s : Int)] w fun e w' => ∃ n : Nat, n < 18446744073709551616 ∧ e = .returned (.int .u64 (n : Int)) ∧ Below w.heap.size w w' := by
  have HX := Lib.hid hx
  obtain ⟨xc, hxc⟩ : ∃ z, x.cells.toArray = z := ⟨_, rfl⟩
  rw [hxc]
  have hm := (Lows.nil w).alloc 25 xc x.cells hxc.symm
  have HM := Lib.hid hm
  obtain ⟨r, hr⟩ : ∃ z, s % 600 = z := ⟨_, rfl⟩
  have e1 : (s : Int) % 600 = (r : Int) := by omega
  have w1' : IntKind.u16.wrap (r : Int) = (r : Int) := by rw [IntKind.wrap_u16]; omega
  have w2' : IntKind.u64.wrap (r : Int) = (r : Int) := by rw [IntKind.wrap_u64]; omega
  obtain ⟨n, hn⟩ : ∃ n : Nat, ((r : Int) - 300) % 18446744073709551616 = (n : Int) := ⟨(((r : Int) - 300) % 18446744073709551616).toNat, by omega⟩
  have hn2 : n < 18446744073709551616 := by omega
  have w3' : IntKind.u64.wrap ((r : Int) - 300) = (n : Int) := by rw [IntKind.wrap_u64]; exact hn
  have w4' : IntKind.u64.wrap (s : Int) = (s : Int) := by rw [IntKind.wrap_u64]; omega
  have HN := Lib.hid hn2
  clear hm hx hxc hr hn hn2
  by_cases h6 : 60000 ≤ s
  · have d1 : decide ((s : Int) ≥ 60000) = true := by simp; omega
    have d2 : decide (60000 ≤ s) = true := by simpa using h6
    obtain ⟨m, hm⟩ : ∃ z, s * 1099511627776 = z := ⟨_, rfl⟩
    have e2 : (s : Int) * 1099511627776 = (m : Int) := by omega
    have e3 : (m : Int) % 18446744073709551616 = (m : Int) := by omega
    have w5' : IntKind.u64.wrap (m : Int) = (m : Int) := by rw [IntKind.wrap_u64]; exact e3
    have HMM := Lib.hid (show m < 18446744073709551616 by omega)
    clear hm
    go_enter Try.func10, Try.ntmps10
    go_wp2
    go_ret
    exact ⟨m, HMM.out, rfl, HM.out.bel⟩
  · have d1 : decide ((s : Int) ≥ 60000) = false := by simp; omega
    have d2 : decide (60000 ≤ s) = false := by simpa using h6
    go_enter Try.func10, Try.ntmps10
    go_upto_region 1 with fail
    generalize w.alloc (.cells xc 25) = w1 at HM ⊢
    generalize w.heap.size = P1 at HM ⊢
    have ft := win_top (HM.out.blk 0 rfl).all
    obtain ⟨c, hc⟩ : ∃ c : Nat, ((x.top : Int) + (n : Int)) % 18446744073709551616 = (c : Int) := ⟨(((x.top : Int) + (n : Int)) % 18446744073709551616).toNat, by omega⟩
    have hc2 : c < 18446744073709551616 := by omega
    have w5' : IntKind.u64.wrap ((x.top : Int) + (n : Int)) = (c : Int) := by rw [IntKind.wrap_u64]; exact hc
    have HC := Lib.hid hc2
    obtain ⟨y, hy⟩ : ∃ z, s % 64 = z := ⟨_, rfl⟩
    have e2 : (s : Int) % 64 = (y : Int) := by omega
    have w6' : IntKind.u64.wrap (y : Int) = (y : Int) := by rw [IntKind.wrap_u64]; omega
    have HY := Lib.hid (show y < 18446744073709551616 by omega)
    clear hc2 hy
    by_cases h1 : c < 9223372036854775808
    · have d3 : decide ((c : Int) < 9223372036854775808) = true := by simp; omega
      have d4 : decide (c < 9223372036854775808) = true := by simpa using h1
      go_wp2
      go_ret
      exact ⟨c, HC.out, rfl, HM.out.bel⟩
    · have d3 : decide ((c : Int) < 9223372036854775808) = false := by simp; omega
      have d4 : decide (c < 9223372036854775808) = false := by simpa using h1
      by_cases h2 : 4611686018427387904 ≤ x.top
      · have d5 : decide ((x.top : Int) ≥ 4611686018427387904) = true := by simp; omega
        have d6 : decide (4611686018427387904 ≤ x.top) = true := by simpa using h2
        go_wp2
        go_ret
        exact ⟨c, HC.out, rfl, HM.out.bel⟩
      · have d5 : decide ((x.top : Int) ≥ 4611686018427387904) = false := by simp; omega
        have d6 : decide (4611686018427387904 ≤ x.top) = false := by simpa using h2
        go_wp2
        go_ret
        exact ⟨y, HY.out, rfl, HM.out.bel⟩
end Go.Proofs.Yteidabgkidablaa
