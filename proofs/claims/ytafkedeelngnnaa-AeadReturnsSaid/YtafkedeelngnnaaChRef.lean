/-
  The contracts of the reference's ChaCha20: rotation and quarter round.
-/
import Derived.Test.YtafkedeelngnnaaMem
import Derived.Test.YtafkedeelngnnaaChMath
import Derived.Deep.QuietTactic
import Derived.BigQuiet
import Derived.RegionTactic
import Derived.BigRegion
import Derived.Deep.RegionWith
import Derived.Deep.DeepCutAuto
import Derived.Laws.ShiftsVarLaws
namespace Go.Proofs.Ytafkedeelngnnaa
open Go.RowKit

def u32v (x : UInt32) : Value := .int .u32 (x.toNat : Int)

theorem refLeft_any (x : UInt32) (n : Nat) (h0 : 0 < n) (h : n < 32) (w : World) :
    Calls Try.prog 54 #[.int .u32 (x.toNat : Int), .int .i64 (n : Int)] w fun e w' => e = .returned (.int .u32 ((rotl x n).toNat : Int)) ∧ ∃ q, w' = w.drewN q := by
  have hx : x.toNat < 4294967296 := x.toNat_lt
  have hn : (0 : Int) ≤ 32 - (n : Int) := by omega
  have HR := Lib.hid (u32_rotl x n h0 h)
  go_enter Try.func54, Try.ntmps54
  go_wp2
  go_quiet (fail)
  go_wp2
  rw [HR.out]
  go_ret
  exact ⟨rfl, _, rfl⟩

/-- a block of words, the one at i as it is read there -/
theorem Blk.word {w : World} {g : Nat} {t : TypeId} {l : List UInt32} (h : Blk w g t (l.map u32v)) (i : Nat) (hi : i < l.length) : w.cell? ⟨g, i, none⟩ = some (.int .u32 ((wd l i).toNat : Int)) := by
  rw [h.cell i]
  simp [u32v, hi, wd, List.getD]
theorem Blk.drewN {w : World} {g : Nat} {t : TypeId} {cs : List Value} (h : Blk w g t cs) (n : Nat) : Blk (w.drewN n) g t cs := h
theorem Blk.setWord {w : World} {g : Nat} {t : TypeId} {l : List UInt32} (h : Blk w g t (l.map u32v)) (i : Nat) (x : UInt32) : Blk (w.setCell ⟨g, i, none⟩ (.int .u32 (x.toNat : Int))) g t ((l.set i x).map u32v) := by
  have h' := h.set_ i (.int .u32 (x.toNat : Int))
  rw [List.map_set]
  exact h'

end Go.Proofs.Ytafkedeelngnnaa
