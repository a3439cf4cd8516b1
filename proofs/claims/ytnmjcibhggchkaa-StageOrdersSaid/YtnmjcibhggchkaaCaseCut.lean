/-
  The contract of burrowcase.Cut: the first bytes of data. No statement is proved here.
-/
import Derived.Test.YtnmjcibhggchkaaWord
import Derived.Test.YtnmjcibhggchkaaSliceOf
import Derived.Outline
namespace Go.Proofs.Ytnmjcibhggchkaa
open Go.RowKit

set_option maxRecDepth 100000 in
theorem caseCut_any (A : Option Addr) (n c m k : Nat) (hm : m ≤ 1000000) (hnc : n ≤ c) (hcm : c ≤ maxLen) (hk : min n m = k) (w : World) :
    Calls Try.prog 6 #[.slice A n c, .int .i64 (m : Int)] w fun e w' => e = .returned (.slice A k c) ∧ Below w.heap.size w w' := by
  have hc63 : (c : Int) ≤ 9223372036854775807 := by unfold maxLen at hcm; omega
  by_cases h : n ≤ m
  · obtain rfl : k = n := by omega
    have h1 : ¬ (m : Int) < (k : Int) := by omega
    have h2 : (k : Int) ≤ (m : Int) := by omega
    have h3 : (k : Int) ≤ (c : Int) := by omega
    have h4 : (if (m : Int) < (k : Int) then (m : Int) else (k : Int)) = (k : Int) := if_neg h1
    clear hk
    go_enter Try.func6, Try.ntmps6
    go_wp2
    go_ret
    exact ⟨rfl, Below.refl _ _⟩
  · obtain rfl : k = m := by omega
    have h1 : (k : Int) < (n : Int) := by omega
    have h2 : ¬ (n : Int) ≤ (k : Int) := by omega
    have h3 : (k : Int) ≤ (c : Int) := by omega
    have h4 : (if (k : Int) < (n : Int) then (k : Int) else (n : Int)) = (k : Int) := if_pos h1
    clear hk
    go_enter Try.func6, Try.ntmps6
    go_wp2
    go_ret
    exact ⟨rfl, Below.refl _ _⟩
end Go.Proofs.Ytnmjcibhggchkaa
