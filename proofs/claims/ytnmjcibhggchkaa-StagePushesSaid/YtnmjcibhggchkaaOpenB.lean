/-
  How the cells of an argument are opened: a fixed array of bytes, a Bool, numbers, a field. No statement is proved here.
-/
import Derived.Test.YtnmjcibhggchkaaOpen
import Derived.Test.YtnmjcibhggchkaaWord
namespace Go.Proofs.Ytnmjcibhggchkaa
open Go.RowKit Go.ChangeShapes Go.WideShapes Go.ChangeAt

section
variable {H : Type} {enc : TypeId × Value → H} {P : Program} {W : World} {fuel : Nat} {t : TypeId} {cs : List Value} {x : DataW H × List MemPlace}
theorem bytes_cells {n : Nat} {e : TypeId} (ht : P.underlying t = some (.array n e)) (he : P.underlying e = some (.int .u8)) (hc : P.cellsOf e = 1) (hct : P.cellsOf t = n)
    (h : DataW.trod enc P W 0 (fun _ => true) true fuel t cs = some x) : ∃ l : List UInt8, cs = l.map u8v ∧ l.length = n := by
  obtain ⟨xs, m, _, _, hl, hn, hat⟩ := DataW.trod_array ht h
  rw [hct] at hl
  have each : ∀ i (hi : i < n), ∃ b : UInt8, cs[i]'(by omega) = u8v b := by
    intro i hi
    have h1 := hat i hi
    rw [hc, Nat.mul_one, List.getElem?_eq_getElem (by omega)] at h1
    obtain ⟨z, hz, _, hw⟩ := DataW.trod_int he h1
    have hb := bounds_u8 hw
    have h1d : (cs.drop i).take 1 = [cs[i]'(by omega)] := by
      rw [List.drop_eq_getElem_cons (by omega)]
      rfl
    rw [h1d] at hz
    simp only [List.cons.injEq, and_true] at hz
    refine ⟨UInt8.ofNat z.toNat, ?_⟩
    have hz' : cs[i]'(by omega) = .int .u8 z := hz
    rw [hz']
    unfold u8v
    rw [UInt8.toNat_ofNat', Nat.mod_eq_of_lt (by omega)]
    congr 1
    omega
  refine ⟨(List.range n).map fun i => if hi : i < n then (each i hi).choose else 0, ?_, by simp⟩
  refine List.ext_getElem (by simp; omega) fun i h1 h2 => ?_
  have hi : i < n := by omega
  simp only [List.getElem_map, List.getElem_range, dif_pos hi]
  exact (each i hi).choose_spec
theorem bool_cells (ht : P.underlying t = some .bool) (h : DataW.trod enc P W 0 (fun _ => true) true fuel t cs = some x) : ∃ b, cs = [.bool b] := by
  obtain ⟨b, h1, _⟩ := DataW.trod_bool ht h
  exact ⟨b, h1⟩
theorem i64_cells (ht : P.underlying t = some (.int .i64)) (h : DataW.trod enc P W 0 (fun _ => true) true fuel t cs = some x) : ∃ n : Int, cs = [.int .i64 n] ∧ -9223372036854775808 ≤ n ∧ n ≤ 9223372036854775807 := by
  obtain ⟨n, h1, _, hw⟩ := DataW.trod_int ht h
  exact ⟨n, h1, bounds_i64 hw⟩
theorem u32_cells (ht : P.underlying t = some (.int .u32)) (h : DataW.trod enc P W 0 (fun _ => true) true fuel t cs = some x) : ∃ n : Nat, cs = [.int .u32 (n : Int)] ∧ n < 4294967296 := by
  obtain ⟨n, h1, _, hw⟩ := DataW.trod_int ht h
  have hb := bounds_u32 hw
  exact ⟨n.toNat, by rw [h1, Int.toNat_of_nonneg (by omega)], by omega⟩
/-- what a field reads as -/
theorem field_cells {fs : Array Field} (ht : P.underlying t = some (.struct fs)) (h : DataW.trod enc P W 0 (fun _ => true) true fuel t cs = some x) :
    cs.length = P.cellsOf t ∧ ∀ (i : Nat) (ty : TypeId) (off k : Nat), (fs[i]?).map (fun f => (f.type, f.offset)) = some (ty, off) → P.cellsOf ty = k → ∃ n y, DataW.trod enc P W 0 (fun _ => true) true n ty ((cs.drop off).take k) = some y := by
  obtain ⟨xs, n, _, _, hl, hn, hat⟩ := DataW.trod_struct ht h
  refine ⟨hl, fun i ty off k hf hk => ?_⟩
  cases hfi : fs[i]? with
  | none => rw [hfi] at hf; cases hf
  | some f =>
    rw [hfi] at hf
    simp only [Option.map_some, Option.some.injEq, Prod.mk.injEq] at hf
    have h1 := hat i f hfi
    have hi : i < xs.length := by rw [hn]; exact (Array.getElem?_eq_some_iff.1 hfi).1
    rw [List.getElem?_eq_getElem hi, hf.1, hf.2, hk] at h1
    exact ⟨n, _, h1⟩
/-- the cells of a struct, a segment each -/
theorem seg_two (cs : List Value) (a b : Nat) (h : cs.length = a + b) : cs = (cs.drop 0).take a ++ (cs.drop a).take b := by
  rw [List.drop_zero, List.take_of_length_le (l := cs.drop a) (by rw [List.length_drop]; omega), List.take_append_drop]
end
end Go.Proofs.Ytnmjcibhggchkaa
