/-
  The contracts of bits.Add64 and bits.Sub64 off the library's shelf, at this translation's numbers.
-/
import Derived.Shelf.Spec.BitsCarry
import Derived.Test.YtgdgecehmnokdaaProg
namespace Go.Proofs.Ytgdgecehmnokdaa
open Go.Shelf
def bits_ren : Go.Shelf.Ren := ⟨fun | 25 => 43 | 26 => 40 | n => n, fun | 22 => 49 | n => n, fun | n => n⟩
theorem info_u64 : (Try.prog.info? 49).map (fun i => (i.zero, i.size, i.bytes)) = some (some (.int .u64 0), 1, 8) := by kernel_rfl
theorem add_lays : Go.Proofs.Lays7.n25 Try.prog bits_ren := {
  mixed := by kernel_rfl
  f25 := Try.func43.trans (congrArg some (by kernel_rfl))
  t22 := Try.underlying49
  a22 := Try.isAgg49
  z22 := Try.sizeOf49
  v22 := Try.zeroValue49
  i22 := info_u64 }
theorem sub_lays : Go.Proofs.Lays7.n26 Try.prog bits_ren := {
  mixed := by kernel_rfl
  f26 := Try.func40.trans (congrArg some (by kernel_rfl))
  t22 := Try.underlying49
  a22 := Try.isAgg49
  z22 := Try.sizeOf49
  v22 := Try.zeroValue49
  i22 := info_u64 }
theorem add64_run (x y c : Nat) (hc : c ≤ 1) (w : World) : (callFunc 43 #[.int .u64 x, .int .u64 y, .int .u64 c]).run Try.prog w =
      .ok (.value (.tuple #[.int .u64 (((x + y + c) % 18446744073709551616 : Nat) : Int), .int .u64 (((x + y + c) / 18446744073709551616 : Nat) : Int)])) w := Any7.bits_Add64 add_lays x y c hc w
theorem sub64_run (x y b : Nat) (hb : b ≤ 1) (w : World) : (callFunc 40 #[.int .u64 x, .int .u64 y, .int .u64 b]).run Try.prog w =
      .ok (.value (.tuple #[.int .u64 (((x + 18446744073709551616 - y - b) % 18446744073709551616 : Nat) : Int), .int .u64 ((if x < y + b then 1 else 0 : Nat) : Int)])) w := Any7.bits_Sub64 sub_lays x y b hb w
end Go.Proofs.Ytgdgecehmnokdaa
