/-
  An object that lies in memory, later. No statement is proved here.
-/
import Derived.Test.YtnmjcibhggchkaaObjRows
namespace Go.Proofs.Ytnmjcibhggchkaa
open Go.RowKit

theorem At.mono {w W : World} {b off B : Nat} {cs : List Value} (h : At w b off cs) (hb : Below B w W) (hlt : b < B) : At W b off cs := fun j v hv => (World.cell?_of_block (hb.block b hlt)).trans (h j v hv)
end Go.Proofs.Ytnmjcibhggchkaa
