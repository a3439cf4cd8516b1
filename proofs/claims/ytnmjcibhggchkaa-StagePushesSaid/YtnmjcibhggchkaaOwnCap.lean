/-
  The capacity of a row. No statement is proved here.
-/
import Derived.Test.YtnmjcibhggchkaaEnt
namespace Go.Proofs.Ytnmjcibhggchkaa
open Go.RowKit

theorem own_cap {w : World} {base e size n c : Nat} {A : Option Addr} {xs : List Value} (h : w.ownsRow base e size (.slice A n c) n xs) : n ≤ c ∧ c ≤ maxLen := by
  rcases h.2 with ⟨h, h0⟩ | ⟨g, cap, cur, h, _, _, h1, h2, _⟩
  · injection h with _ _ h
    exact ⟨by omega, by unfold maxLen; omega⟩
  · injection h with _ _ h
    subst h
    exact ⟨h1, h2⟩
end Go.Proofs.Ytnmjcibhggchkaa
