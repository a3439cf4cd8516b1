/-
  The contract of codec.Big: for a size from 1 to 8 it returns a new slice with the size lowest bytes of n, the most significant one first; for any other size nothing.
-/
import Derived.Test.YtmbcohhnnlpnaaaLittle
import Derived.Test.YtmbcohhnnlpnaaaReverse
namespace Go.Proofs.Ytmbcohhnnlpnaaa
open Go.RowKit

set_option maxRecDepth 100000 in
theorem big_any (n : Nat) (hn : n < 18446744073709551616) (k : Nat) (h1 : 1 ≤ k) (h8 : k ≤ 8) (w : World) :
    Calls Try.prog 17 #[.int .u64 n, .int .i64 k] w fun e w' => e = .returned (.slice (some ⟨w.heap.size, 0, none⟩) k k) ∧ w'.ownsRow w.heap.size 5 1 (.slice (some ⟨w.heap.size, 0, none⟩) k k) k ((littleL n k).reverse.map u8v) ∧ Below w.heap.size w w' := by
  have L := little_any n hn k h1 h8
  have HL := Lib.hid L
  clear L hn
  go_enter Try.func17, Try.ntmps17
  go_wp2_with fail
  refine (HL.out _).mono ?_
  rintro e w1 ⟨rfl, hown, hb⟩
  have R := reverse_own w.heap.size w.heap.size k k (littleL n k) (by omega) w1 hown
  have HR := Lib.hid R
  clear R
  go_wp2_with fail
  refine HR.out.mono ?_
  rintro e w2 ⟨rfl, hown2, hg2⟩
  go_wp2_with fail
  go_ret
  exact ⟨rfl, hown2, hb.grown hg2 hb.size (by simp)⟩
set_option maxRecDepth 100000 in
/-- slices.Reverse at nothing -/
theorem reverse_nil (w : World) : Calls Try.prog 23 #[.slice none 0 0] w fun e w' => e = .returned (.tuple #[]) ∧ w = w' := by
  go_enter Try.func23, Try.ntmps23
  go_wp2
  go_loop [2, 3] (fun i j => i = .int .i64 0 ∧ j = .int .i64 (-1)) (fun _ _ => 0)
  case atStart => exact ⟨rfl, rfl⟩
  case round =>
    obtain ⟨rfl, rfl⟩ := hrel
    go_wp2
    go_end0
    exact ⟨rfl, rfl⟩
set_option maxRecDepth 100000 in
theorem big_none (n k : Int) (h : k < 1 ∨ 8 < k) (w : World) :
    Calls Try.prog 17 #[.int .u64 n, .int .i64 k] w fun e w' => e = .returned (.slice none 0 0) ∧ w = w' := by
  have L := little_none n k h
  have HL := Lib.hid L
  clear L h
  go_enter Try.func17, Try.ntmps17
  go_wp2_with fail
  refine (HL.out _).mono ?_
  rintro e w1 ⟨rfl, rfl⟩
  go_wp2_with fail
  refine (reverse_nil _).mono ?_
  rintro e w1 ⟨rfl, rfl⟩
  go_wp2_with fail
  go_ret
  exact ⟨rfl, rfl⟩
end Go.Proofs.Ytmbcohhnnlpnaaa
