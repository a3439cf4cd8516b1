/-
  The package-level variables of blake, out of a row's condition. No statement is proved here.
-/
import Derived.Test.YtellicmnopfkgaaDoorLaid
import Derived.Test.YtellicmnopfkgaaDoorBlC
import Derived.Test.YtellicmnopfkgaaDoorRows
namespace Go.Proofs.YtellicmnopfkgaaDoor
open Go.RowKit

set_option maxRecDepth 100000 in
theorem laid_initial_is : (Rows.laid_burrow_blake_initial : DataW Unit) = .agg ((ivW.map fun x => (x.toNat : Int)).map fun z => .lit (.int .u32 z)) := by kernel_rfl
set_option maxRecDepth 100000 in
theorem laid_perm_is : (Rows.laid_burrow_blake_permutations : DataW Unit) = .agg (ordT.map fun r => .agg ((r.map fun i : Nat => (i : Int)).map fun z => .lit (.int .u8 z))) := by kernel_rfl
theorem lvBlake_of {W : World} {l : List (String × DataW Unit)} (h : laidMetH Tryd.prog l W) (h1 : ("burrow/blake.initial", Rows.laid_burrow_blake_initial) ∈ l) (h2 : ("burrow/blake.permutations", Rows.laid_burrow_blake_permutations) ∈ l) : LvBlake W := by
  constructor
  · obtain ⟨cs, fuel, p, hd, hb⟩ := laid_blk h h1 (by kernel_rfl) (show Tryd.prog.globalNamed "burrow/blake.initial" = some 0 by kernel_rfl) (show (Tryd.prog.globals[0]?).map (·.type) = some 43 by kernel_rfl)
    rw [laid_initial_is] at hd
    have e := laid_ints Tryd.underlying43 Tryd.underlying41 (by kernel_rfl) (by kernel_rfl) hd
    subst e
    rw [List.map_map] at hb
    exact hb (by decide)
  · obtain ⟨cs, fuel, p, hd, hb⟩ := laid_blk h h2 (by kernel_rfl) (show Tryd.prog.globalNamed "burrow/blake.permutations" = some 1 by kernel_rfl) (show (Tryd.prog.globals[1]?).map (·.type) = some 65 by kernel_rfl)
    rw [laid_perm_is] at hd
    have e := laid_rows (m := 16) Tryd.underlying65 (by kernel_rfl) (by kernel_rfl) hd (ordT.map fun r => r.map fun i : Nat => .int .u8 (i : Int)) rfl (by
      intro i c d fuel q hdi ht
      rw [List.getElem?_map] at hdi
      cases hr : ordT[i]? with
      | none => rw [hr] at hdi; cases hdi
      | some r =>
        rw [hr, Option.map_some, Option.some.injEq] at hdi
        subst hdi
        rw [laid_ints Tryd.underlying35 Tryd.underlying5 (by kernel_rfl) (by kernel_rfl) ht, List.getElem?_map, hr, List.map_map]
        rfl)
    rw [show (ordT.map fun r => r.map fun i : Nat => Value.int .u8 (i : Int)).flatten = permV from rfl] at e
    subst e
    exact hb (Nat.lt_of_lt_of_eq (show 0 < 160 by decide) (show 160 = permV.length by kernel_rfl))
end Go.Proofs.YtellicmnopfkgaaDoor
