/-
  The contracts of burrowcase.Cut (at most the first n bytes) and burrowcase.Mod (the remainder from 0 on).
-/
import Derived.Test.YtdnmbabofkiiiaaMem
import Derived.Outline
namespace Go.Proofs.Ytdnmbabofkiiiaa
open Go.RowKit

theorem cut_any (B : Nat) (A : Option Addr) (len cap m : Nat) (l : List UInt8) (hlc : len ≤ cap) (_hcm : cap ≤ maxLen) (w : World) (hr : Rd w B A len l) :
    Calls Try.prog 8 #[.slice A len cap, .int .i64 m] w fun e w' => e = .returned (.slice A (min len m) cap) ∧ Rd w B A (min len m) (l.take m) ∧ w = w' := by
  have hrd : Rd w B A (min len m) (l.take m) := by
    have h := hr.take (m := min len m) (by omega)
    have h1 := hr.1
    by_cases hc : len ≤ m
    · rwa [show min len m = len from by omega, List.take_of_length_le (by omega), ← List.take_of_length_le (show l.length ≤ m from by omega), ← show min len m = len from by omega] at h
    · rwa [show min len m = m from by omega] at h ⊢
  have HR := Lib.hid hrd
  clear hrd hr
  unfold maxLen at _hcm
  by_cases hc : len ≤ m
  · rw [show min len m = len from by omega] at HR ⊢
    have b1 : (len : Int) ≤ (cap : Int) := by omega
    go_enter Try.func8, Try.ntmps8
    go_wp2
    go_ret
    exact ⟨rfl, HR.out, rfl⟩
  · rw [show min len m = m from by omega] at HR ⊢
    have b1 : (m : Int) ≤ (cap : Int) := by omega
    go_enter Try.func8, Try.ntmps8
    go_wp2
    go_ret
    exact ⟨rfl, HR.out, rfl⟩

theorem mod_math (x n : Int) (h : 1 ≤ n) : -n < x.tmod n ∧ x.tmod n < n ∧ (x.tmod n + n).tmod n = x % n := by
  have h1 : x.tmod n < n := Int.tmod_lt_of_pos x (by omega)
  have h2 : -n < x.tmod n := Int.lt_tmod_of_pos x (by omega)
  refine ⟨h2, h1, ?_⟩
  rw [Int.tmod_eq_emod_of_nonneg (by omega), Int.add_emod_right]
  have h3 : x.tmod n = x - n * x.tdiv n := Int.tmod_def x n
  rw [h3, Int.sub_mul_emod_self_left]

theorem mod_any (x n : Int) (h1 : 1 ≤ n) (h2 : n ≤ 1000000000) (w : World) :
    Calls Try.prog 9 #[.int .i64 x, .int .i64 n] w fun e w' => e = .returned (.int .i64 (x % n)) ∧ w = w' := by
  obtain ⟨b1, b2, b3⟩ := mod_math x n h1
  have hw : IntKind.i64.wrap (x.tmod n) = x.tmod n := by rw [IntWalk.i64_in _ (by omega)]
  go_enter Try.func9, Try.ntmps9
  go_wp2
  go_ret
  exact ⟨rfl, rfl⟩
end Go.Proofs.Ytdnmbabofkiiiaa
