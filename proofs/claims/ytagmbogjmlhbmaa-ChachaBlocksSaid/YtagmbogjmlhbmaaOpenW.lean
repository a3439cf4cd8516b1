/-
  How an argument of a law that is an array of words is opened. No statement is proved here.
-/
import Derived.Test.YtagmbogjmlhbmaaOpen
import Derived.Test.YtagmbogjmlhbmaaChRef
namespace Go.Proofs.Ytagmbogjmlhbmaa
open Go.RowKit Go.ChangeShapes Go.WideShapes Go.ChangeAt

section
variable {H : Type} {enc : TypeId × Value → H} {P : Program} {W : World}

theorem open_words {r : Reach} {b0 n : Nat} {t e : TypeId} {v : Value} {d : DataW H} {p : List MemPlace} (ht : P.underlying t = some (.array n e)) (he : P.underlying e = some (.int .u32)) (hc : P.cellsOf e = 1) (hct : P.cellsOf t = n)
    (hv : Value.okWide P W r b0 t v) (h : DataW.Trod enc P W 0 (fun _ => true) true t v d p) :
    ∃ l : List UInt32, v = .agg (l.map u32v).toArray ∧ l.length = n := by
  simp only [Value.okWide, ht] at hv
  obtain ⟨cs, rfl, hsz, _⟩ := hv
  obtain ⟨fuel, hf⟩ := h
  obtain ⟨xs, m, _, hx, hl, hn, hat⟩ := DataW.trod_array ht hf
  have each : ∀ i (hi : i < n), ∃ b : UInt32, cs[i]'(by omega) = u32v b := by
    intro i hi
    have h1 := hat i hi
    rw [hc, Nat.mul_one, List.getElem?_eq_getElem (by omega)] at h1
    obtain ⟨z, hz, _, hw⟩ := DataW.trod_int he h1
    have hb := bounds_u32 hw
    have hcl : (Value.cells (.agg cs)).toList = cs.toList := rfl
    have h1d : (cs.toList.drop i).take 1 = [cs[i]'(by omega)] := by
      rw [List.drop_eq_getElem_cons (by simp; omega)]
      simp
    rw [hcl, h1d] at hz
    simp only [List.cons.injEq, and_true] at hz
    refine ⟨UInt32.ofNat z.toNat, ?_⟩
    have hz' : cs[i]'(by omega) = .int .u32 z := hz
    rw [hz']
    unfold u32v
    rw [UInt32.toNat_ofNat', Nat.mod_eq_of_lt (by omega)]
    congr 1
    omega
  refine ⟨(List.range n).map fun i => if hi : i < n then (each i hi).choose else 0, ?_, by simp⟩
  congr 1
  refine Array.ext (by simp; omega) fun i h1 h2 => ?_
  have hi : i < n := by omega
  simp only [List.getElem_toArray, List.getElem_map, List.getElem_range, dif_pos hi]
  exact (each i hi).choose_spec
end
end Go.Proofs.Ytagmbogjmlhbmaa
