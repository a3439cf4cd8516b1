/-
  The contract of the reference's CheckWindow. No statement is proved here.
-/
import Derived.Test.YteidabgkidablaaWiC
import Derived.Test.YteidabgkidablaaBits64
import Derived.RegionTactic
import Derived.Deep.DeepCutAuto
namespace Go.Proofs.Yteidabgkidablaa
open Go.RowKit

set_option maxRecDepth 100000 in
set_option maxHeartbeats 8000000 in
theorem refCheck_any : WiCheckC 9 := by
  intro x c w hx hc
  have HX := Lib.hid hx
  obtain ⟨xc, hxc⟩ : ∃ z, x.cells.toArray = z := ⟨_, rfl⟩
  rw [hxc]
  have hm := (Lows.nil w).alloc 25 xc x.cells hxc.symm
  have HM := Lib.hid hm
  clear hm hx hxc
  go_enter Try.func9, Try.ntmps9
  go_upto_region 1 with fail
  generalize w.alloc (.cells xc 25) = w1 at HM ⊢
  generalize w.heap.size = P1 at HM ⊢
  have fu := win_used (HM.out.blk 0 rfl).all
  have ft := win_top (HM.out.blk 0 rfl).all
  obtain ⟨u, hu⟩ : ∃ z, x.used = z := ⟨_, rfl⟩
  rw [hu] at fu
  cases u with
  | false =>
    have HR := Lib.hid (show checkM x c = true from by rw [checkM, hu]; rfl)
    go_wp2
    go_ret
    exact ⟨by rw [HR.out]; rfl, HM.out.bel⟩
  | true =>
    by_cases hlt : x.top < c
    · have HR := Lib.hid (show checkM x c = true from by rw [checkM, decide_eq_true hlt]; simp)
      have d1 : decide ((c : Int) > (x.top : Int)) = true := by simp; omega
      have d2 : decide (x.top < c) = true := by simpa using hlt
      go_wp2
      go_ret
      exact ⟨by rw [HR.out]; rfl, HM.out.bel⟩
    · have d1 : decide ((c : Int) > (x.top : Int)) = false := by simp; omega
      have d2 : decide (x.top < c) = false := by simpa using hlt
      obtain ⟨cb, hcb⟩ : ∃ z, c / 64 = z := ⟨_, rfl⟩
      obtain ⟨tb, htb⟩ : ∃ z, x.top / 64 = z := ⟨_, rfl⟩
      obtain ⟨k, hk⟩ : ∃ z, c % 64 = z := ⟨_, rfl⟩
      obtain ⟨j, hj⟩ : ∃ z, cb % 4 = z := ⟨_, rfl⟩
      have fw := win_word (HM.out.blk 0 rfl).all HX.out.2.1 j (by omega)
      have hws := word_lt HX.out c
      rw [wordM, hcb, hj] at hws
      have hres : checkM x c = (decide (tb ≤ cb + 3) && !(x.ws.getD j 0).testBit k) := by
        rw [checkM, hu, d2, wordM, hcb, htb, hk, hj]
        rfl
      generalize x.ws.getD j 0 = wd at fw hws hres
      rw [show 0 + 2 + j = 2 + j by omega] at fw
      have e1 : (c : Int) / 64 = (cb : Int) := by omega
      have e2 : (x.top : Int) / 64 = (tb : Int) := by omega
      have e3 : (c : Int) % 64 = (k : Int) := by omega
      have e4 : (cb : Int) % 4 = (j : Int) := by omega
      obtain ⟨d, hd⟩ : ∃ z, tb - cb = z := ⟨_, rfl⟩
      have e5 : (tb : Int) - (cb : Int) = (d : Int) := by omega
      have hdd : decide (tb ≤ cb + 3) = decide (d ≤ 3) := by rw [Bool.eq_iff_iff, decide_eq_true_iff, decide_eq_true_iff]; omega
      rw [hdd] at hres
      have HR := Lib.hid hres
      have hxt := HX.out.1
      have w1' : IntKind.u64.wrap (cb : Int) = (cb : Int) := by rw [IntKind.wrap_u64]; omega
      have w2' : IntKind.u64.wrap (tb : Int) = (tb : Int) := by rw [IntKind.wrap_u64]; omega
      have w3' : IntKind.u64.wrap (d : Int) = (d : Int) := by rw [IntKind.wrap_u64]; omega
      by_cases h3 : d ≤ 3
      · have d3 : decide ((d : Int) ≤ 3) = true := by simp; omega
        have d4 : decide (d ≤ 3) = true := by simpa using h3
        clear hcb htb hk hj hd hdd hres
        go_wp2
        go_ret
        exact ⟨by rw [HR.out, d4, Bool.true_and, ← bit_u64_zero wd k hws]; rfl, HM.out.bel⟩
      · have d3 : decide ((d : Int) ≤ 3) = false := by simp; omega
        have d4 : decide (d ≤ 3) = false := by simpa using h3
        clear hcb htb hk hj hd hdd hres
        go_wp2
        go_ret
        exact ⟨by rw [HR.out, d4, Bool.false_and]; rfl, HM.out.bel⟩
end Go.Proofs.Yteidabgkidablaa
