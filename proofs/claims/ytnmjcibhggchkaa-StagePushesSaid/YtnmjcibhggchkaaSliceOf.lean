/-
  Pieces of a slice of bytes whose address is not known: what x[i:j] and x[i:] give, and what they read as. No statement is proved here.
-/
import Derived.Test.YtnmjcibhggchkaaBlkMore
namespace Go.Proofs.Ytnmjcibhggchkaa
open Go.RowKit

theorem bytes_under : Try.prog.underlying 23 = some (.slice (Try.prog.elem 23)) := by kernel_rfl
theorem bytes_size (w : World) : (sizeOf (Try.prog.elem 23)).run Try.prog w = .ok 1 w := by
  obtain ⟨i0, hi, hz0, hz1, hz2⟩ := info_parts Try.info5
  have e : Try.prog.elem 23 = 5 := by kernel_rfl
  rw [e]
  simp [sizeOf, typeInfo, hi, hz1]
/-- the address behind i elements, as the model keeps it -/
def addrOf (A : Option Addr) (i c : Nat) : Option Addr := if c = i then A else A.map (·.add (i * 1))
theorem Rd.behind {W : World} {B n : Nat} {A : Option Addr} {l : List UInt8} (h : Rd W B A n l) (i c : Nat) (hi : i ≤ n) (hc : n ≤ c) : Rd W B (addrOf A i c) (n - i) (l.drop i) := by
  unfold addrOf
  by_cases e : c = i
  · have e0 : n - i = 0 := by omega
    rw [if_pos e, e0, List.drop_of_length_le (by have := h.1; omega)]
    exact Rd.nil _ _ _
  · rw [if_neg e]
    rcases Nat.eq_zero_or_pos (n - i) with h0 | h0
    · rw [h0, List.drop_of_length_le (by have := h.1; omega)]
      exact Rd.nil _ _ _
    · obtain ⟨b, off, rfl, _, _⟩ := h.2 (by omega)
      rw [Option.map_some, Go.WideShapes.add_plain, Nat.mul_one]
      exact h.drop i b off rfl hi
set_option maxRecDepth 100000 in
theorem slice_lh (A : Option Addr) (n c i j : Nat) (h1 : i ≤ j) (h2 : j ≤ n) (h3 : n ≤ c) (w : World) : (Instr.sliceAt 23 (.slice A n c) (some (.int .i64 (i : Int))) (some (.int .i64 (j : Int))) none).run Try.prog w = .ok (.slice (addrOf A i c) (j - i) (c - i)) w := by
  rw [run_sliceAt_slice (P := Try.prog) (w := w) 23 _ _ _ _ bytes_under, run_slice_lh (P := Try.prog) (w := w) 23 A n c bytes_under .i64 .i64 i j (by omega) (by omega) (by omega), bytes_size]
  simp only [Result.andThen, sliced, Int.toNat_natCast]
  rfl
set_option maxRecDepth 100000 in
theorem slice_l (A : Option Addr) (n c i : Nat) (h2 : i ≤ n) (w : World) : (Instr.sliceAt 23 (.slice A n c) (some (.int .i64 (i : Int))) none none).run Try.prog w = .ok (.slice (addrOf A i c) (n - i) (c - i)) w := by
  rw [run_sliceAt_slice (P := Try.prog) (w := w) 23 _ _ _ _ bytes_under, run_slice_l (P := Try.prog) (w := w) 23 A n c bytes_under .i64 i (by omega) (by omega), bytes_size]
  simp only [Result.andThen, sliced, Int.toNat_natCast]
  rfl
set_option maxRecDepth 100000 in
theorem slice_h (A : Option Addr) (hA : ∃ b off, A = some ⟨b, off, none⟩) (n c j : Nat) (h2 : j ≤ c) (w : World) : (Instr.sliceAt 23 (.slice A n c) none (some (.int .i64 (j : Int))) none).run Try.prog w = .ok (.slice A j c) w := by
  obtain ⟨b, off, rfl⟩ := hA
  rw [run_sliceAt_slice (P := Try.prog) (w := w) 23 _ _ _ _ bytes_under, run_slice_h (P := Try.prog) (w := w) 23 _ n c bytes_under .i64 j (by omega) (by omega), bytes_size]
  simp only [Result.andThen, sliced, Int.toNat_natCast, Option.map_some, Go.WideShapes.add_plain, Nat.zero_mul, Nat.add_zero, Nat.sub_zero, ite_self]
end Go.Proofs.Ytnmjcibhggchkaa
