/-
  Words of layer 4: arrays of bytes of several lengths, four parts joined by the reference, and what is asked of the layers below. No statement is proved here.
-/
import Derived.Test.YtkbefhmgcodpaaaBlkMore
import Derived.Test.YtkbefhmgcodpaaaWord
import Derived.Test.YtkbefhmgcodpaaaAeMath
import Derived.Test.YtkbefhmgcodpaaaRefJoin
namespace Go.Proofs.Ytkbefhmgcodpaaa
open Go.RowKit

theorem ae_cellsN (l : List UInt8) (h : l.length = 12) : (Try.prog.info? 39).map (·.size) = some (l.map u8v).length := by
  rw [List.length_map, h]; kernel_rfl
theorem ae_cellsT (l : List UInt8) (h : l.length = 16) : (Try.prog.info? 54).map (·.size) = some (l.map u8v).length := by
  rw [List.length_map, h]; kernel_rfl
theorem ae_cells64 (l : List UInt8) (h : l.length = 64) : (Try.prog.info? 63).map (·.size) = some (l.map u8v).length := by
  rw [List.length_map, h]; kernel_rfl
theorem refJoin_four (g : Nat) (t : TypeId) (A1 A2 A3 A4 : Option Addr) (n1 c1 n2 c2 n3 c3 n4 c4 : Nat) (l1 l2 l3 l4 : List UInt8) (M : Nat) (hM : n1 + n2 + (n3 + n4) = M) (hn : M ≤ 1000000) (w : World) (hb : Blk w g t [.slice A1 n1 c1, .slice A2 n2 c2, .slice A3 n3 c3, .slice A4 n4 c4])
    (h1 : Rd w w.heap.size A1 n1 l1) (h2 : Rd w w.heap.size A2 n2 l2) (h3 : Rd w w.heap.size A3 n3 l3) (h4 : Rd w w.heap.size A4 n4 l4) :
    Calls Try.prog 38 #[.slice (some ⟨g, 0, none⟩) 4 4] w fun e w' => ∃ A' c', e = .returned (.slice A' M c') ∧ Rd w' w'.heap.size A' M (l1 ++ l2 ++ (l3 ++ l4)) ∧ M ≤ c' ∧ c' ≤ maxLen ∧ Below w.heap.size w w' := by
  have hf : flat [⟨A1, n1, c1, l1⟩, ⟨A2, n2, c2, l2⟩, ⟨A3, n3, c3, l3⟩, ⟨A4, n4, c4, l4⟩] 4 = l1 ++ l2 ++ (l3 ++ l4) := by simp [flat]
  have hl : (l1 ++ l2 ++ (l3 ++ l4)).length = M := by simp only [List.length_append]; rw [h1.1, h2.1, h3.1, h4.1, hM]
  have hJ := refJoin_any w.heap.size 4 (some ⟨g, 0, none⟩) [⟨A1, n1, c1, l1⟩, ⟨A2, n2, c2, l2⟩, ⟨A3, n3, c3, l3⟩, ⟨A4, n4, c4, l4⟩] (by simp) (by show (flat _ 4).length ≤ _; rw [hf, hl]; exact hn) w (Nat.le_refl _) (fun _ => ⟨g, rfl, hb.lt, fun j hj => by
    rw [hb.cell]
    match j, hj with
    | 0, _ => exact ⟨rfl, h1⟩
    | 1, _ => exact ⟨rfl, h2⟩
    | 2, _ => exact ⟨rfl, h3⟩
    | 3, _ => exact ⟨rfl, h4⟩
    | j + 4, hj => exact absurd hj (by simp)⟩)
  refine hJ.mono ?_
  rintro e w' ⟨A', c', he, ho, hbl⟩
  have e2 : ([⟨A1, n1, c1, l1⟩, ⟨A2, n2, c2, l2⟩, ⟨A3, n3, c3, l3⟩, ⟨A4, n4, c4, l4⟩] : List Part).length = 4 := rfl
  rw [e2, hf, hl] at he ho
  obtain ⟨q1, q2, _⟩ := own_addr ho
  exact ⟨A', c', he, Rd.of_own ho, q1, q2, hbl⟩

/-- what the reference's sealing asks of its own layers -/
def RefBlockC : Prop := ∀ (k n : List UInt8), k.length = 32 → n.length = 12 → ∀ (c : UInt32) (w : World),
  Calls Try.prog 36 #[.agg (k.map u8v).toArray, .int .u32 (c.toNat : Int), .agg (n.map u8v).toArray] w fun e w' => e = .returned (.agg ((blockL k c n).map u8v).toArray) ∧ Below w.heap.size w w'
def RefPolyC : Prop := ∀ (k : List UInt8), k.length = 32 → ∀ (D : Option Addr) (n cap : Nat) (l : List UInt8), n ≤ cap → cap ≤ maxLen → ∀ w : World, Rd w w.heap.size D n l →
  Calls Try.prog 37 #[.agg (k.map u8v).toArray, .slice D n cap] w fun e w' => e = .returned (.agg ((tagL k l).map u8v).toArray) ∧ Below w.heap.size w w'
end Go.Proofs.Ytkbefhmgcodpaaa
