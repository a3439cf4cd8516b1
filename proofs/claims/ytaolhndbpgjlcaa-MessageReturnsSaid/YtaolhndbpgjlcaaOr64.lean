/-
  One round of reading a number: bits joined. No statement is proved here.
-/
import Derived.Test.YtaolhndbpgjlcaaMem
import Derived.Test.YtaolhndbpgjlcaaNum
import Derived.Laws.Bits64
import Derived.Laws.BitsAllLaws
import Derived.Outline
namespace Go.Proofs.Ytaolhndbpgjlcaa
open Go.RowKit

/-- one round of ReadBig -/
theorem or64_big (a : Nat) (b : UInt8) : bits BinOp.or IntKind.u64 (IntKind.u64.wrap ((a : Int) % 18446744073709551616 * 256)) (IntKind.u64.wrap (b.toNat : Int)) = (((a * 256 + b.toNat) % 18446744073709551616 : Nat) : Int) := by
  have hb := b.toNat_lt
  have e1 : IntKind.u64.wrap ((a : Int) % 18446744073709551616 * 256) = (((a % 18446744073709551616 * 256) % 18446744073709551616 : Nat) : Int) := by
    rw [IntKind.wrap_u64]; omega
  have e2 : IntKind.u64.wrap (b.toNat : Int) = (b.toNat : Int) := by
    rw [IntKind.wrap_u64]; omega
  rw [e1, e2, u64_or_nat _ _ (by omega) (by omega), nat_join 8 _ _ (by omega) (by omega)]
  congr 1
  omega
/-- one round of ReadLittle -/
theorem or64_little (a j : Nat) (b : UInt8) (hj : j < 8) (ha : a < 2 ^ (8 * j)) : bits BinOp.or IntKind.u64 (a : Int) (IntKind.u64.wrap (IntKind.u64.wrap (b.toNat : Int) * 2 ^ (8 * j))) = ((a + 2 ^ (8 * j) * b.toNat : Nat) : Int) := by
  have hb := b.toNat_lt
  have e2 : IntKind.u64.wrap (b.toNat : Int) = (b.toNat : Int) := by
    rw [IntKind.wrap_u64]; omega
  have hp : 2 ^ (8 * j) ≤ 2 ^ 56 := Nat.pow_le_pow_right (by omega) (by omega)
  have hm : b.toNat * 2 ^ (8 * j) ≤ 255 * 2 ^ 56 := Nat.mul_le_mul (by omega) hp
  have e3 : IntKind.u64.wrap ((b.toNat : Int) * 2 ^ (8 * j)) = ((2 ^ (8 * j) * b.toNat : Nat) : Int) := by
    have : ((b.toNat : Int) * 2 ^ (8 * j)) = ((b.toNat * 2 ^ (8 * j) : Nat) : Int) := by rw [Int.natCast_mul, Int.natCast_pow]; rfl
    rw [this, IntKind.wrap_u64, Nat.mul_comm]
    rw [Nat.mul_comm] at hm
    omega
  rw [e2, e3, u64_or_nat _ _ (by omega) (by rw [Nat.mul_comm]; omega), or_low _ _ _ ha]
end Go.Proofs.Ytaolhndbpgjlcaa
