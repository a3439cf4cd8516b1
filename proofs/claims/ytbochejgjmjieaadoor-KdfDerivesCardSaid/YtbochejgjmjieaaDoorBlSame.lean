/-
  A key, or a tag, is equal to itself. No statement is proved here.
-/
import Derived.Test.YtbochejgjmjieaaDoorKeyMem
namespace Go.Proofs.YtbochejgjmjieaaDoor
open Go.RowKit

theorem run_key_same (xs : List UInt8) (hx : xs.length = 32) (w : World) : (Op.equalIn 10000 30 (.agg (xs.map u8v).toArray) (.agg (xs.map u8v).toArray)).run Tryd.prog w = .ok true w := by
  obtain ⟨i0, hi, _, hz1, _⟩ := info_parts Tryd.info5
  have h := run_key_eq (P := Tryd.prog) 30 5 32 Tryd.underlying30 Tryd.underlying5 i0 hi hz1 xs xs hx hx w
  rwa [show (xs == xs) = true by simp] at h
end Go.Proofs.YtbochejgjmjieaaDoor
