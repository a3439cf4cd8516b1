/-
  Digits in memory: blocks of numbers with 64 bits. No statement is proved here.
-/
import Derived.Deep.DeepCutAuto
import Derived.Laws.Bits64
import Derived.Laws.BitsAllLaws
import Derived.Outline
import Derived.Deep.RegionWith
import Derived.Test.YtgdgecehmnokdaaEnt
import Derived.Test.YtgdgecehmnokdaaWord
import Derived.Test.YtgdgecehmnokdaaCuVal
namespace Go.Proofs.Ytgdgecehmnokdaa
open Go.RowKit

def i64v (x : Int) : Value := .int .i64 x
theorem i64v_one (l : List Int) : ∀ v ∈ l.map i64v, v.oneCell' = true := by
  intro v hv
  obtain ⟨b, _, rfl⟩ := List.mem_map.1 hv
  rfl
/-- a block of digits, the one at i as it is read there -/
theorem Blk.dig {w : World} {g : Nat} {t : TypeId} {l : List Int} (h : Blk w g t (l.map i64v)) (i : Nat) (hi : i < l.length) : w.cell? ⟨g, i, none⟩ = some (.int .i64 (l.getD i 0)) := by
  rw [h.cell i]
  simp [i64v, hi, List.getD]
theorem Blk.setDig {w : World} {g : Nat} {t : TypeId} {l : List Int} (h : Blk w g t (l.map i64v)) (i : Nat) (x : Int) : Blk (w.setCell ⟨g, i, none⟩ (.int .i64 x)) g t ((l.set i x).map i64v) := by
  have h' := h.set_ i (.int .i64 x)
  rw [List.map_set]
  exact h'
/-- n zero digits -/
def zd (n : Nat) : List Value := List.replicate n (.int .i64 0)
theorem zd_map (n : Nat) : zd n = (List.replicate n (0 : Int)).map i64v := by simp [zd, i64v]
/-- between the digits of the list -/
def Within (M : Int) (l : List Int) : Prop := ∀ x ∈ l, -M ≤ x ∧ x ≤ M
theorem Within.getD {M : Int} {l : List Int} (h : Within M l) (i : Nat) (hi : i < l.length) : -M ≤ l.getD i 0 ∧ l.getD i 0 ≤ M := h _ (Cu.getD_mem hi)
end Go.Proofs.Ytgdgecehmnokdaa
