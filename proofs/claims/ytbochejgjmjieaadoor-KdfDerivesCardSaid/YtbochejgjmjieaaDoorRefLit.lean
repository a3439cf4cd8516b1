/-
  The contracts of the reference's ReadLittle and Little. No statement is proved here.
-/
import Derived.Test.YtbochejgjmjieaaDoorRRdLit
import Derived.Test.YtbochejgjmjieaaDoorRLit
namespace Go.Proofs.YtbochejgjmjieaaDoor
open Go.RowKit

theorem own_some {w : World} {base e n : Nat} {A : Option Addr} {c : Nat} {xs : List Value} (h : w.ownsRow base e 1 (.slice A n c) n xs) (hn : 0 < n) : ∃ g, A = some ⟨g, 0, none⟩ ∧ n ≤ c ∧ c ≤ maxLen := by
  rcases h.2 with ⟨_, h0⟩ | ⟨g, cap, cur, hv, _, _, hnc, hcm, _⟩
  · omega
  · simp only [Value.slice.injEq] at hv
    exact ⟨g, hv.1, by rw [hv.2.2]; exact hnc, by rw [hv.2.2]; exact hcm⟩

theorem refLit_some (n : Nat) (hn : n < 18446744073709551616) (w : World) :
    Calls Tryd.prog 27 #[.int .u64 n, .int .i64 4] w fun e w' => ∃ g c, e = .returned (.slice (some ⟨g, 0, none⟩) 4 c) ∧ w'.ownsRow w.heap.size 5 1 (.slice (some ⟨g, 0, none⟩) 4 c) 4 ((littleL n 4).map u8v) ∧ Below w.heap.size w w' := by
  refine (refLittle_any n hn 4 (by omega) (by omega) w).mono ?_
  rintro e w' ⟨A, c, rfl, ho, hb⟩
  obtain ⟨g, rfl, _, _⟩ := own_some ho (by omega)
  exact ⟨g, c, rfl, ho, hb⟩
end Go.Proofs.YtbochejgjmjieaaDoor
