/-
  The remainder that is not negative. No statement is proved here.
-/
import Derived.Test.YtnmjcibhggchkaaMem
namespace Go.Proofs.Ytnmjcibhggchkaa
open Go.RowKit

theorem mod_twice (x : Int) (n : Nat) (h1 : 1 ≤ n) : (x.tmod (n : Int) + (n : Int)).tmod (n : Int) = x % (n : Int) := by
  have hb : -(n : Int) < x.tmod n := Int.lt_tmod_of_pos x (by omega)
  rw [Int.tmod_eq_emod_of_nonneg (by omega)]
  have e : x.tmod (n : Int) + (n : Int) = x + (n : Int) * (1 - x.tdiv n) := by
    have h := Int.mul_tdiv_add_tmod x n
    rw [Int.mul_sub, Int.mul_one]
    omega
  rw [e, Int.add_mul_emod_self_left]
end Go.Proofs.Ytnmjcibhggchkaa
