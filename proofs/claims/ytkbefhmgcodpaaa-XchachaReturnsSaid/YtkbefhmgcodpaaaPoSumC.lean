/-
  What the laws of layer 3 and the layers above ask of poly.Sum. No statement is proved here.
-/
import Derived.Test.YtkbefhmgcodpaaaPoPoly
import Derived.Lib.SlBytesConst
namespace Go.Proofs.Ytkbefhmgcodpaaa
open Go.RowKit

/-- poly.Sum gives the authenticator -/
def SumC : Prop := ∀ (k : List UInt8), k.length = 32 → ∀ (D : Option Addr) (n cap : Nat) (l : List UInt8), n ≤ cap → cap ≤ maxLen → n ≤ 1000000 → ∀ w : World, Rd w w.heap.size D n l →
  Calls Try.prog 44 #[.agg (k.map u8v).toArray, .slice D n cap] w fun e w' => e = .returned (.agg ((tagL k l).map u8v).toArray) ∧ Below w.heap.size w w'
theorem tagL_length (k l : List UInt8) : (tagL k l).length = 16 := littleL_length _ _
theorem tag_same (l : List UInt8) (hl : l.length = 16) (w : World) : (Op.equalIn 10000 54 (.agg (l.map u8v).toArray) (.agg (l.map u8v).toArray)).run Try.prog w = .ok true w := by
  obtain ⟨i0, hi, _, hz1, _⟩ := info_parts Try.info5
  rw [run_key_eq 54 5 16 Try.underlying54 Try.underlying5 i0 hi hz1 l l hl hl]
  simp
theorem rd_marked (w : World) (t : TypeId) (l : List UInt8) (n : Nat) (hl : l.length = n) (fr : Nat × Nat) : Rd (w.alloc (.cells (l.map u8v).toArray t fr)) (w.heap.size + 1) (some ⟨w.heap.size, 0, none⟩) n l := by
  refine ⟨hl, fun _ => ⟨w.heap.size, 0, rfl, by omega, fun j hj => ?_⟩⟩
  rw [Nat.zero_add, World.cell?_alloc_mark]
  simpa using map_u8v_getElem? l j hj
end Go.Proofs.Ytkbefhmgcodpaaa
