/-
  The bits of an exclusive or of two bytes. No statement is proved here.
-/
import Derived.Test.YtaolhndbpgjlcaaWord
namespace Go.Proofs.Ytaolhndbpgjlcaa
open Go.RowKit

theorem xor_bits (a b : UInt8) : bits BinOp.xor IntKind.u8 (a.toNat : Int) (b.toNat : Int) = ((a ^^^ b).toNat : Int) := by
  rw [UInt8.toNat_xor, u8_xor_nat _ _ a.toNat_lt b.toNat_lt]
end Go.Proofs.Ytaolhndbpgjlcaa
