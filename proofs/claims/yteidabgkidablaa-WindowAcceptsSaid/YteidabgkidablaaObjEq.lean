/-
  Equality of two objects decides whether their cells are equal. No function of the program is named here.
-/
import Derived.Test.YteidabgkidablaaObj
import Derived.DeepKeys2
namespace Go.Proofs.Yteidabgkidablaa
open Go.RowKit

theorem eq_obj {P : Program} (m D : Nat) (t : TypeId) (hm : m ≤ 10000) (hk : P.keyTypeAt m t = true) (ht : P.tiled m t = true) (cs ds : List Value) (hc : LitsAt P D t cs) (hd : LitsAt P D t ds) (d : TypeDesc) (hu : P.underlying t = some d) (ho : isObj d = true) (hs : P.cellsOf t = cs.length) (hs2 : P.cellsOf t = ds.length) (b : Bool) (hb : b = true ↔ cs = ds) (w : World) :
    (Op.equalIn 10000 t (.agg cs.toArray) (.agg ds.toArray)).run P w = .ok b w := by
  obtain ⟨la, hla⟩ := hc
  obtain ⟨lb, hlb⟩ := hd
  have hf : (Value.agg cs.toArray).formed P t = true := by
    cases d <;> simp_all [Value.formed, isObj]
  have hg : (Value.agg ds.toArray).formed P t = true := by
    cases d <;> simp_all [Value.formed, isObj]
  obtain ⟨r, hr, hiff⟩ := run_equalIn_deep (P := P) (10000 - m) m t hk w D D (.agg cs.toArray) (.agg ds.toArray) la lb hf hg hla hlb
  rw [Nat.sub_add_cancel hm] at hr
  rw [hr]
  have h : r = true ↔ cs = ds := by
    rw [hiff]
    constructor
    · intro e
      rw [cells_of_lits m t ht D cs la hla, cells_of_lits m t ht D ds lb hlb, e]
    · rintro rfl
      rw [hla] at hlb
      exact Option.some.inj hlb
  rw [show r = b by rw [Bool.eq_iff_iff, h, hb]]
end Go.Proofs.Yteidabgkidablaa
