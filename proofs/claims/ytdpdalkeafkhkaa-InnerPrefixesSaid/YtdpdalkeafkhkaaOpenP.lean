/-
  How the cells of a prefix are opened. No statement is proved here.
-/
import Derived.Test.YtdpdalkeafkhkaaOpenS
import Derived.Test.YtdpdalkeafkhkaaInRef3
namespace Go.Proofs.Ytdpdalkeafkhkaa
open Go.RowKit Go.ChangeShapes Go.WideShapes Go.ChangeAt

set_option maxRecDepth 100000 in
theorem open_prefix {H : Type} {enc : TypeId × Value → H} {W : World} {r : Reach} {b0 : Nat} {v : Value} {d : DataW H} {p : List MemPlace} (hv : Value.okWide Try.prog W r b0 42 v) (h : DataW.Trod enc Try.prog W 0 (fun _ => true) true 42 v d p) : ∃ (a : AddrM) (bits : Int), v = .agg (prefC a bits).toArray ∧ a.ok ∧ -9223372036854775808 ≤ bits ∧ bits ≤ 9223372036854775807 := by
  simp only [Value.okWide, Try.underlying42] at hv
  obtain ⟨cs, rfl, hsz, _⟩ := hv
  obtain ⟨fuel, hf⟩ := h
  have hcl : (Value.cells (.agg cs)).toList = cs.toList := rfl
  rw [hcl] at hf
  obtain ⟨hl, hfl⟩ := field_cells Try.underlying42 hf
  obtain ⟨n0, y0, h0⟩ := hfl 0 29 0 17 rfl (by kernel_rfl)
  obtain ⟨n1, y1, h1⟩ := hfl 1 3 17 1 rfl (by kernel_rfl)
  obtain ⟨a, ha, hok⟩ := addr_cells_of h0
  obtain ⟨bits, hb, hb1, hb2⟩ := i64_cells Try.underlying3 h1
  have e2 : Try.prog.cellsOf 42 = 18 := by kernel_rfl
  rw [e2] at hl
  refine ⟨a, bits, ?_, hok, hb1, hb2⟩
  have e3 : cs.toList = prefC a bits := by
    rw [seg_two cs.toList 17 1 hl, ha, hb]
    rfl
  rw [← e3]
end Go.Proofs.Ytdpdalkeafkhkaa
