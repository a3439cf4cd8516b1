/-
  The contracts of the reference's ChaCha20: rotation and quarter round.
-/
import Derived.Test.YtkbefhmgcodpaaaWord
import Derived.Test.YtkbefhmgcodpaaaChMath
import Derived.Deep.QuietTactic
import Derived.BigQuiet
import Derived.RegionTactic
import Derived.BigRegion
import Derived.Deep.RegionWith
import Derived.Deep.DeepCutAuto
import Derived.Laws.ShiftsVarLaws
namespace Go.Proofs.Ytkbefhmgcodpaaa
open Go.RowKit

set_option maxRecDepth 100000 in
theorem refLeft_any (x : UInt32) (n : Nat) (h0 : 0 < n) (h : n < 32) (w : World) :
    Calls Try.prog 42 #[.int .u32 (x.toNat : Int), .int .i64 (n : Int)] w fun e w' => e = .returned (.int .u32 ((rotl x n).toNat : Int)) ∧ ∃ q, w' = w.drewN q := by
  have hx : x.toNat < 4294967296 := x.toNat_lt
  have hn : (0 : Int) ≤ 32 - (n : Int) := by omega
  have HR := Lib.hid (u32_rotl x n h0 h)
  go_enter Try.func42, Try.ntmps42
  go_wp2
  go_quiet (fail)
  go_wp2
  rw [HR.out]
  go_ret
  exact ⟨rfl, _, rfl⟩

end Go.Proofs.Ytkbefhmgcodpaaa
