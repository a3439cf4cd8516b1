/-
  The parts of a join, and the slice of slices that reads as them. No statement is proved here.
-/
import Derived.Test.YtnmjcibhggchkaaMem
namespace Go.Proofs.Ytnmjcibhggchkaa
open Go.RowKit

/-- one part of a join: a slice and what it reads as -/
structure Part where
  A : Option Addr
  n : Nat
  c : Nat
  l : List UInt8
def flat (ps : List Part) (j : Nat) : List UInt8 := ((ps.take j).map Part.l).flatten
theorem flat_succ (ps : List Part) (j : Nat) (h : j < ps.length) : flat ps (j + 1) = flat ps j ++ ps[j].l := by
  unfold flat
  rw [List.take_succ_eq_append_getElem h, List.map_append, List.flatten_append]
  simp only [List.map_cons, List.map_nil, List.flatten_cons, List.flatten_nil, List.append_nil]
theorem flat_le (ps : List Part) (j : Nat) : (flat ps j).length ≤ (flat ps ps.length).length := by
  unfold flat
  rw [List.take_of_length_le (Nat.le_refl _), ← List.take_append_drop j (ps.map Part.l), List.flatten_append, List.length_append, ← List.map_take]
  omega
/-- the slice of slices reads as the parts -/
def PartsRd (w : World) (B : Nat) (A : Option Addr) (ps : List Part) : Prop :=
  0 < ps.length → ∃ g, A = some ⟨g, 0, none⟩ ∧ g < B ∧ ∀ j (h : j < ps.length), w.cell? ⟨g, j, none⟩ = some (.slice ps[j].A ps[j].n ps[j].c) ∧ Rd w B ps[j].A ps[j].n ps[j].l
end Go.Proofs.Ytnmjcibhggchkaa
