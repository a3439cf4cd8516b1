/-
  Slices of bytes with three indices. No statement is proved here.
-/
import Derived.Test.YtaolhndbpgjlcaaSliceOf
namespace Go.Proofs.Ytaolhndbpgjlcaa
open Go.RowKit

set_option maxRecDepth 100000 in
theorem slice_lhm (A : Option Addr) (n c i j m : Nat) (h1 : i ≤ j) (h2 : j ≤ m) (h3 : m ≤ c) (w : World) : (Instr.sliceAt 38 (.slice A n c) (some (.int .i64 (i : Int))) (some (.int .i64 (j : Int))) (some (.int .i64 (m : Int)))).run Try.prog w = .ok (.slice (addrOf A i m) (j - i) (m - i)) w := by
  rw [run_sliceAt_slice (P := Try.prog) (w := w) 38 _ _ _ _ bytes_under, run_slice_lhm (P := Try.prog) (w := w) 38 A n c bytes_under .i64 .i64 .i64 i j m (by omega) (by omega) (by omega) (by omega), bytes_size]
  simp only [Result.andThen, sliced, Int.toNat_natCast]
  rfl
set_option maxRecDepth 100000 in
theorem slice_hm (b off n c j m : Nat) (h2 : j ≤ m) (h3 : m ≤ c) (w : World) : (Instr.sliceAt 38 (.slice (some ⟨b, off, none⟩) n c) none (some (.int .i64 (j : Int))) (some (.int .i64 (m : Int)))).run Try.prog w = .ok (.slice (some ⟨b, off, none⟩) j m) w := by
  rw [run_sliceAt_slice (P := Try.prog) (w := w) 38 _ _ _ _ bytes_under, run_slice_hm (P := Try.prog) (w := w) 38 _ n c bytes_under .i64 .i64 j m (by omega) (by omega) (by omega), bytes_size]
  simp only [Result.andThen, sliced, Int.toNat_natCast, Option.map_some, Go.WideShapes.add_plain, Nat.zero_mul, Nat.add_zero, Nat.sub_zero, ite_self]
theorem addrOf_lt (b off i m : Nat) (h : i < m) : addrOf (some ⟨b, off, none⟩) i m = some ⟨b, off + i, none⟩ := by
  rw [addrOf, if_neg (by omega), Option.map_some, Go.WideShapes.add_plain, Nat.mul_one]
end Go.Proofs.Ytaolhndbpgjlcaa
