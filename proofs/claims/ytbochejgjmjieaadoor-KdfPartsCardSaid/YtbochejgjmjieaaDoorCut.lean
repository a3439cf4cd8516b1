/-
  The contract of burrowcase.Cut (at most the first n bytes).
-/
import Derived.Test.YtbochejgjmjieaaDoorMem
import Derived.Outline
namespace Go.Proofs.YtbochejgjmjieaaDoor
open Go.RowKit

set_option maxRecDepth 100000 in
theorem cut_any (B : Nat) (A : Option Addr) (len cap m : Nat) (l : List UInt8) (hlc : len ≤ cap) (_hcm : cap ≤ maxLen) (w : World) (hr : Rd w B A len l) :
    Calls Tryd.prog 6 #[.slice A len cap, .int .i64 m] w fun e w' => e = .returned (.slice A (min len m) cap) ∧ Rd w B A (min len m) (l.take m) ∧ w = w' := by
  have hrd : Rd w B A (min len m) (l.take m) := by
    have h := hr.take (m := min len m) (by omega)
    have h1 := hr.1
    by_cases hc : len ≤ m
    · rwa [show min len m = len from by omega, List.take_of_length_le (by omega), ← List.take_of_length_le (show l.length ≤ m from by omega), ← show min len m = len from by omega] at h
    · rwa [show min len m = m from by omega] at h ⊢
  have HR := Lib.hid hrd
  clear hrd hr
  unfold maxLen at _hcm
  by_cases hc : len ≤ m
  · rw [show min len m = len from by omega] at HR ⊢
    have b1 : (len : Int) ≤ (cap : Int) := by omega
    go_enter Tryd.func6, Tryd.ntmps6
    go_wp2
    go_ret
    exact ⟨rfl, HR.out, rfl⟩
  · rw [show min len m = m from by omega] at HR ⊢
    have b1 : (m : Int) ≤ (cap : Int) := by omega
    go_enter Tryd.func6, Tryd.ntmps6
    go_wp2
    go_ret
    exact ⟨rfl, HR.out, rfl⟩

end Go.Proofs.YtbochejgjmjieaaDoor
