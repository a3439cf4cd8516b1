/-
  The contract of math/bits.RotateLeft32 at the four distances of ChaCha20. No statement is proved here.
-/
import Derived.Test.YtbochejgjmjieaaDoorMem
import Derived.Test.YtbochejgjmjieaaDoorChMath
import Derived.Laws.ShiftsVarLaws
import Derived.Laws.Bits64
namespace Go.Proofs.YtbochejgjmjieaaDoor
open Go.RowKit

set_option maxRecDepth 100000 in
theorem rot_any (x : UInt32) (n : Nat) (h : n = 16 ∨ n = 12 ∨ n = 8 ∨ n = 7) (w : World) :
    Calls Tryd.prog 38 #[.int .u32 (x.toNat : Int), .int .i64 (n : Int)] w fun e w' => e = .returned (.int .u32 ((rotl x n).toNat : Int)) ∧ w = w' := by
  have hx : x.toNat < 4294967296 := x.toNat_lt
  rcases h with rfl | rfl | rfl | rfl
  · have HR := u32_rotl x 16 (by omega) (by omega)
    simp only [show (2 : Int) ^ 16 = 65536 from rfl] at HR
    have HR2 := Lib.hid HR
    clear HR
    have hb : bits BinOp.and IntKind.u64 16 31 = 16 := by decide
    go_enter Tryd.func38, Tryd.ntmps38
    go_wp2
    rw [HR2.out]
    go_ret
    exact ⟨rfl, rfl⟩
  · have HR := u32_rotl x 12 (by omega) (by omega)
    simp only [show (2 : Int) ^ 12 = 4096 from rfl, show (2 : Int) ^ (32 - 12) = 1048576 from rfl] at HR
    have HR2 := Lib.hid HR
    clear HR
    have hb : bits BinOp.and IntKind.u64 12 31 = 12 := by decide
    go_enter Tryd.func38, Tryd.ntmps38
    go_wp2
    rw [HR2.out]
    go_ret
    exact ⟨rfl, rfl⟩
  · have HR := u32_rotl x 8 (by omega) (by omega)
    simp only [show (2 : Int) ^ 8 = 256 from rfl, show (2 : Int) ^ (32 - 8) = 16777216 from rfl] at HR
    have HR2 := Lib.hid HR
    clear HR
    have hb : bits BinOp.and IntKind.u64 8 31 = 8 := by decide
    go_enter Tryd.func38, Tryd.ntmps38
    go_wp2
    rw [HR2.out]
    go_ret
    exact ⟨rfl, rfl⟩
  · have HR := u32_rotl x 7 (by omega) (by omega)
    simp only [show (2 : Int) ^ 7 = 128 from rfl, show (2 : Int) ^ (32 - 7) = 33554432 from rfl] at HR
    have HR2 := Lib.hid HR
    clear HR
    have hb : bits BinOp.and IntKind.u64 7 31 = 7 := by decide
    go_enter Tryd.func38, Tryd.ntmps38
    go_wp2
    rw [HR2.out]
    go_ret
    exact ⟨rfl, rfl⟩

set_option maxRecDepth 100000 in
theorem rot_any' (v : Int) (n : Nat) (x : UInt32) (hv : v = (x.toNat : Int)) (h : n = 16 ∨ n = 12 ∨ n = 8 ∨ n = 7) (w : World) :
    Calls Tryd.prog 38 #[.int .u32 v, .int .i64 (n : Int)] w fun e w' => e = .returned (.int .u32 ((rotl x n).toNat : Int)) ∧ w = w' := by
  rw [hv]
  exact rot_any x n h w

theorem results_tmp4 {fn : Func} {t u v x : Tmp} (h : fn.results = #[.tmp t, .tmp u, .tmp v, .tmp x]) (tmps : Array Value) (P : Program) (w : World) :
    (results fn tmps).run P w = .ok (.tuple #[tmps.getD t undef, tmps.getD u undef, tmps.getD v undef, tmps.getD x undef]) w := by
  simp [results, h]

end Go.Proofs.YtbochejgjmjieaaDoor
