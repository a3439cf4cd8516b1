/-
  The contracts of bits.Add64 and bits.Sub64 off the library's shelf, at this translation's numbers.
-/
import Derived.Shelf.Spec.BitsCarry
import Derived.Test.YtkbefhmgcodpaaaProg
namespace Go.Proofs.Ytkbefhmgcodpaaa
open Go.Shelf
def bits_ren : Go.Shelf.Ren := ⟨fun | 25 => 62 | 26 => 63 | n => n, fun | 22 => 51 | n => n, fun | n => n⟩
theorem info_u64 : (Try.prog.info? 51).map (fun i => (i.zero, i.size, i.bytes)) = some (some (.int .u64 0), 1, 8) := by kernel_rfl
theorem add_lays : Go.Proofs.Lays7.n25 Try.prog bits_ren := {
  mixed := by kernel_rfl
  f25 := Try.func62.trans (congrArg some (by kernel_rfl))
  t22 := Try.underlying51
  a22 := Try.isAgg51
  z22 := Try.sizeOf51
  v22 := Try.zeroValue51
  i22 := info_u64 }
theorem sub_lays : Go.Proofs.Lays7.n26 Try.prog bits_ren := {
  mixed := by kernel_rfl
  f26 := Try.func63.trans (congrArg some (by kernel_rfl))
  t22 := Try.underlying51
  a22 := Try.isAgg51
  z22 := Try.sizeOf51
  v22 := Try.zeroValue51
  i22 := info_u64 }
theorem add64_run (x y c : Nat) (hc : c ≤ 1) (w : World) : (callFunc 62 #[.int .u64 x, .int .u64 y, .int .u64 c]).run Try.prog w =
      .ok (.value (.tuple #[.int .u64 (((x + y + c) % 18446744073709551616 : Nat) : Int), .int .u64 (((x + y + c) / 18446744073709551616 : Nat) : Int)])) w := Any7.bits_Add64 add_lays x y c hc w
theorem sub64_run (x y b : Nat) (hb : b ≤ 1) (w : World) : (callFunc 63 #[.int .u64 x, .int .u64 y, .int .u64 b]).run Try.prog w =
      .ok (.value (.tuple #[.int .u64 (((x + 18446744073709551616 - y - b) % 18446744073709551616 : Nat) : Int), .int .u64 ((if x < y + b then 1 else 0 : Nat) : Int)])) w := Any7.bits_Sub64 sub_lays x y b hb w
end Go.Proofs.Ytkbefhmgcodpaaa
