/-
  The beginning of a row that a slice holds. No statement is proved here.
-/
import Derived.Test.YtnmjcibhggchkaaRtApp
namespace Go.Proofs.Ytnmjcibhggchkaa
open Go.RowKit

theorem addrK_zero {W : World} {B k n : Nat} {A : Option Addr} {os : List (List Value)} (h : RdRow W B A k n os) (j : Nat) (hj : j ≤ n) : RdRow W B (addrK A 0 j k) k j (os.take j) := by
  rcases Nat.eq_zero_or_pos j with h0 | h0
  · subst h0
    rw [List.take_zero]
    exact RdRow.nil
  · obtain ⟨b, off, rfl⟩ := h.addr (by omega)
    unfold addrK
    rw [if_neg (by omega), Option.map_some, Go.WideShapes.add_plain, Nat.zero_mul, Nat.add_zero]
    exact h.take j hj
end Go.Proofs.Ytnmjcibhggchkaa
