/-
  What is asked of blake.Code. No statement is proved here.
-/
import Derived.Test.YtellicmnopfkgaaDoorBlC
namespace Go.Proofs.YtellicmnopfkgaaDoor
open Go.RowKit

theorem tagCells (l : List UInt8) (h : l.length = 16) : (Tryd.prog.info? 36).map (·.size) = some (l.map u8v).length := by
  rw [List.length_map, h]; kernel_rfl
def BlCodeC : Prop := ∀ (Ak : Option Addr) (nk ck : Nat) (key : List UInt8), nk ≤ ck → ck ≤ maxLen → nk ≤ 1000 → ∀ (c : Nat) (A : Option Addr) (ps : List Part), PartsOk ps → ps.length ≤ c → c ≤ maxLen → ∀ w : World, LvBlake w → Rd w w.heap.size Ak nk key → PartsRd w w.heap.size A ps →
  Calls Tryd.prog 14 #[.slice Ak nk ck, .slice A ps.length c] w fun e w' => e = .returned (.agg ((codeB key (flat ps ps.length)).map u8v).toArray) ∧ Below w.heap.size w w'
end Go.Proofs.YtellicmnopfkgaaDoor
