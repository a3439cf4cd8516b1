/-
  A row that was made is a block; bytes that were read stay. No statement is proved here.
-/
import Derived.Test.YtnmjcibhggchkaaWord
import Derived.Test.YtnmjcibhggchkaaEnt
namespace Go.Proofs.Ytnmjcibhggchkaa
open Go.RowKit

theorem row_blk {w : World} {base e g n : Nat} {xs : List Value} (h : w.ownsRow base e 1 (.slice (some ⟨g, 0, none⟩) n n) n xs) : Blk w g e xs := by
  rcases h.2 with ⟨h0, _⟩ | ⟨g', cap, cur, hv, _, hg, _, _, hcs, ht⟩
  · cases h0
  · simp only [Value.slice.injEq, Option.some.injEq, Addr.mk.injEq, and_true, true_and] at hv
    obtain ⟨rfl, rfl⟩ := hv
    have : cur.toList = xs := by
      rw [← ht, List.take_of_length_le (by simp; omega)]
    unfold Blk
    rw [hg, ← this]

theorem Rd.kept {w w' : World} {B g n : Nat} {A : Option Addr} {l : List UInt8} (h : Rd w B A n l) (hB : B ≤ g) (hg : g < w.heap.size) (hb : w.grownBy w' (some g)) : Rd w' B A n l :=
  h.keep fun q hq => World.cell?_of_block (hb.block q.block (by omega) (fun e => by injection e with e; omega))
theorem Rd.below2 {w w' : World} {B n : Nat} {A : Option Addr} {l : List UInt8} (h : Rd w B A n l) (hB : B ≤ w.heap.size) (hb : Below w.heap.size w w') : Rd w' B A n l := h.below (hb.mono hB)
end Go.Proofs.Ytnmjcibhggchkaa
