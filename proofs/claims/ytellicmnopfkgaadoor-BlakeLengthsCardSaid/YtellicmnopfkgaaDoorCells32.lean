/-
  The cells of a key. No statement is proved here.
-/
import Derived.Test.YtellicmnopfkgaaDoorMem
namespace Go.Proofs.YtellicmnopfkgaaDoor
open Go.RowKit

theorem cells32 (l : List UInt8) (h : l.length = 32) : (Tryd.prog.info? 33).map (·.size) = some (l.map u8v).length := by
  rw [List.length_map, h]; kernel_rfl
end Go.Proofs.YtellicmnopfkgaaDoor
