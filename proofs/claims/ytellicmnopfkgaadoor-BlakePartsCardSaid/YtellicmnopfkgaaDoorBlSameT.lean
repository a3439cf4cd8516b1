/-
  A tag is equal to itself. No statement is proved here.
-/
import Derived.Test.YtellicmnopfkgaaDoorKeyMem
namespace Go.Proofs.YtellicmnopfkgaaDoor
open Go.RowKit

theorem run_tag_eq (xs : List UInt8) (hx : xs.length = 16) (w : World) : (Op.equalIn 10000 36 (.agg (xs.map u8v).toArray) (.agg (xs.map u8v).toArray)).run Tryd.prog w = .ok true w := by
  obtain ⟨i0, hi, _, hz1, _⟩ := info_parts Tryd.info5
  have h := run_key_eq (P := Tryd.prog) 36 5 16 Tryd.underlying36 Tryd.underlying5 i0 hi hz1 xs xs hx hx w
  rwa [show (xs == xs) = true by simp] at h
end Go.Proofs.YtellicmnopfkgaaDoor
