/-
  Cells of numbers and of a slice in an argument. No statement is proved here.
-/
import Derived.Test.YtnmjcibhggchkaaOpenB
import Derived.Test.YtnmjcibhggchkaaMsMath
namespace Go.Proofs.Ytnmjcibhggchkaa
open Go.RowKit Go.ChangeShapes Go.WideShapes Go.ChangeAt

section
variable {H : Type} {enc : TypeId × Value → H} {P : Program} {W : World} {fuel : Nat} {t : TypeId} {cs : List Value} {x : DataW H × List MemPlace}
theorem seg_step (cs : List Value) (o z e : Nat) (h : o + z = e) : cs.drop o = (cs.drop o).take z ++ cs.drop e := by
  subst h
  rw [← List.drop_drop, List.take_append_drop]
theorem u64_cells (ht : P.underlying t = some (.int .u64)) (h : DataW.trod enc P W 0 (fun _ => true) true fuel t cs = some x) : ∃ n : Nat, cs = [.int .u64 (n : Int)] ∧ n < 18446744073709551616 := by
  obtain ⟨n, h1, _, hw⟩ := DataW.trod_int ht h
  have hb := bounds_u64 hw
  exact ⟨n.toNat, by rw [h1, Int.toNat_of_nonneg (by omega)], by omega⟩
theorem slice_cells {e : TypeId} (ht : P.underlying t = some (.slice e)) (he : P.underlying e = some (.int .u8)) (hc : P.cellsOf e = 1) (h : DataW.trod enc P W 0 (fun _ => true) true fuel t cs = some x) :
    ∃ A len cap l, cs = [.slice A len cap] ∧ len ≤ cap ∧ cap ≤ maxLen ∧ Rd W W.heap.size A len l := by
  rcases open_ints ht he hc h with ⟨hcs, _⟩ | ⟨x, l, c, zs, hcs, _, hl, hm, hz, _, hcell, hwz⟩
  · exact ⟨none, 0, 0, [], hcs, Nat.le_refl _, by simp, Rd.nil _ _ _⟩
  · simp only [if_true] at hz
    have hlen : ((zs.take l).map (fun z => UInt8.ofNat z.toNat)).length = l := by simp; omega
    refine ⟨some x, l, c, (zs.take l).map (fun z => UInt8.ofNat z.toNat), hcs, hl, hm, hlen, fun hp => ?_⟩
    obtain ⟨b, off, spot⟩ := x
    have h0 := hcell 0 (by omega)
    have hspot : spot = none := by simpa [Addr.add] using World.cell?_spot h0
    subst hspot
    refine ⟨b, off, rfl, by have := World.block_lt_of_cell? W _ h0; simpa [Addr.add] using this, fun j hj => ?_⟩
    have hj' : j < zs.length := by omega
    have hcj := hcell j hj'
    rw [add_plain] at hcj
    have hw := bounds_u8 (hwz zs[j] (List.getElem_mem hj'))
    rw [hcj, List.getElem_map, List.getElem_take]
    have : zs.getD j 0 = zs[j] := by simp [List.getD, hj']
    rw [this, UInt8.toNat_ofNat', Nat.mod_eq_of_lt (by omega)]
    congr 2
    omega
end
end Go.Proofs.Ytnmjcibhggchkaa
