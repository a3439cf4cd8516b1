/-
  The cells of a key. No statement is proved here.
-/
import Derived.Test.YtgdgecehmnokdaaMem
namespace Go.Proofs.Ytgdgecehmnokdaa
open Go.RowKit

theorem cells32 (l : List UInt8) (h : l.length = 32) : (Try.prog.info? 23).map (·.size) = some (l.map u8v).length := by
  rw [List.length_map, h]; kernel_rfl
end Go.Proofs.Ytgdgecehmnokdaa
