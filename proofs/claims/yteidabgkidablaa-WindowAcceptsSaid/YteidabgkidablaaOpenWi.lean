/-
  How an argument that is a window is opened. No statement is proved here.
-/
import Derived.Test.YteidabgkidablaaOpenB
import Derived.Test.YteidabgkidablaaWiRd
namespace Go.Proofs.Yteidabgkidablaa
open Go.RowKit Go.ChangeShapes Go.WideShapes Go.ChangeAt

theorem words_cells {H : Type} {enc : TypeId × Value → H} {P : Program} {W : World} {fuel n : Nat} {t e : TypeId} {cs : List Value} {x : DataW H × List MemPlace} (ht : P.underlying t = some (.array n e)) (he : P.underlying e = some (.int .u64)) (hc : P.cellsOf e = 1) (hct : P.cellsOf t = n)
    (h : DataW.trod enc P W 0 (fun _ => true) true fuel t cs = some x) : ∃ l : List Nat, cs = l.map u64n ∧ l.length = n ∧ ∀ x ∈ l, x < 18446744073709551616 := by
  obtain ⟨xs, m, _, _, hl, hn, hat⟩ := DataW.trod_array ht h
  rw [hct] at hl
  have each : ∀ i (hi : i < n), ∃ b : Nat, cs[i]'(by omega) = u64n b ∧ b < 18446744073709551616 := by
    intro i hi
    have h1 := hat i hi
    rw [hc, Nat.mul_one, List.getElem?_eq_getElem (by omega)] at h1
    obtain ⟨z, hz, _, hw⟩ := DataW.trod_int he h1
    have hb := bounds_u64 hw
    have h1d : (cs.drop i).take 1 = [cs[i]'(by omega)] := by
      rw [List.drop_eq_getElem_cons (by omega)]
      rfl
    rw [h1d] at hz
    simp only [List.cons.injEq, and_true] at hz
    refine ⟨z.toNat, ?_, by omega⟩
    have hz' : cs[i]'(by omega) = .int .u64 z := hz
    rw [hz', u64n, Int.toNat_of_nonneg (by omega)]
  refine ⟨(List.range n).map fun i => if hi : i < n then (each i hi).choose else 0, ?_, by simp, fun x hx => ?_⟩
  · refine List.ext_getElem (by simp; omega) fun i h1 h2 => ?_
    have hi : i < n := by omega
    simp only [List.getElem_map, List.getElem_range, dif_pos hi]
    exact (each i hi).choose_spec.1
  · obtain ⟨i, hi, rfl⟩ := List.mem_map.1 hx
    rw [List.mem_range] at hi
    rw [dif_pos hi]
    exact (each i hi).choose_spec.2
set_option maxRecDepth 100000 in
theorem open_win {H : Type} {enc : TypeId × Value → H} {W : World} {r : Reach} {b0 : Nat} {v : Value} {d : DataW H} {p : List MemPlace} (hv : Value.okWide Try.prog W r b0 25 v) (h : DataW.Trod enc Try.prog W 0 (fun _ => true) true 25 v d p) : ∃ x : WinM, v = .agg x.cells.toArray ∧ x.ok := by
  simp only [Value.okWide, Try.underlying25] at hv
  obtain ⟨cs, rfl, hsz, _⟩ := hv
  obtain ⟨fuel, hf⟩ := h
  have hcl : (Value.cells (.agg cs)).toList = cs.toList := rfl
  rw [hcl] at hf
  obtain ⟨hl, hfl⟩ := field_cells Try.underlying25 hf
  obtain ⟨n0, y0, h0⟩ := hfl 0 4 0 1 rfl (by kernel_rfl)
  obtain ⟨n1, y1, h1⟩ := hfl 1 22 1 1 rfl (by kernel_rfl)
  obtain ⟨n2, y2, h2⟩ := hfl 2 23 2 4 rfl (by kernel_rfl)
  obtain ⟨b, hb⟩ := bool_cells Try.underlying4 h0
  obtain ⟨z, hz, _, hw⟩ := DataW.trod_int Try.underlying22 h1
  obtain ⟨ws, hws, hwl, hwr⟩ := words_cells Try.underlying23 Try.underlying22 (by kernel_rfl) (by kernel_rfl) h2
  have hzb := bounds_u64 hw
  have e2 : Try.prog.cellsOf 25 = 6 := by kernel_rfl
  rw [e2] at hl
  refine ⟨⟨b, z.toNat, ws⟩, ?_, by show z.toNat < _; omega, hwl, hwr⟩
  have h3 := seg_two cs.toList 1 5 (by omega)
  have h4 := seg_two (cs.toList.drop 1) 1 4 (by rw [List.length_drop]; omega)
  rw [List.drop_zero, List.drop_drop] at h4
  have h5 : (cs.toList.drop 1).take 5 = cs.toList.drop 1 := List.take_of_length_le (by rw [List.length_drop]; omega)
  have e3 : cs.toList = (WinM.mk b z.toNat ws).cells := by
    rw [h3, h5, h4, hb, hz, hws, WinM.cells, u64n, Int.toNat_of_nonneg (by omega)]
    rfl
  rw [← e3]
end Go.Proofs.Yteidabgkidablaa
