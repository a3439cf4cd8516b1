/-
  The sanity check of layer 6's laws: the chapter's example holds.
-/
import Derived.Test.YtbochejgjmjieaaDoorBlC
import Derived.Lib.SlBytesConst
import Derived.Deep.DeepCutAuto
namespace Go.Proofs.YtbochejgjmjieaaDoor
open Go.RowKit

theorem rd_marked (w : World) (t : TypeId) (l : List UInt8) (n : Nat) (hl : l.length = n) (fr : Nat × Nat) : RdIn w.heap.size (w.heap.size + 1) (some ⟨w.heap.size, 0, none⟩) n l (w.alloc (.cells (l.map u8v).toArray t fr)) := by
  refine ⟨hl, fun _ => ⟨w.heap.size, 0, rfl, Nat.le_refl _, by omega, fun j hj => ?_⟩⟩
  rw [Nat.zero_add, World.cell?_alloc_mark]
  simpa using map_u8v_getElem? l j hj
end Go.Proofs.YtbochejgjmjieaaDoor
