/-
  How an argument that is a slice of structs is opened. No statement is proved here.
-/
import Derived.Test.YtnmjcibhggchkaaOpen
import Derived.Test.YtnmjcibhggchkaaObjRows
import Derived.Deep.Slices
namespace Go.Proofs.Ytnmjcibhggchkaa
open Go.RowKit Go.ChangeShapes Go.WideShapes Go.ChangeAt Go.Deep

theorem open_objs {H : Type} {enc : TypeId × Value → H} {P : Program} {W : World} {r : Reach} {b0 : Nat} {t e : TypeId} {v : Value} {d : DataW H} {p : List MemPlace} (ht : P.underlying t = some (.slice e)) (k : Nat) (hk : P.cellsOf e = k) (hk0 : 0 < k) (Q : List Value → Prop)
    (hel : ∀ fuel cs x, DataW.trod enc P W 0 (fun _ => true) true fuel e cs = some x → Q cs) (hv : Value.okWide P W r b0 t v) (h : DataW.Trod enc P W 0 (fun _ => true) true t v d p) :
    ∃ A len cap os, v = .slice A len cap ∧ len ≤ cap ∧ cap ≤ maxLen ∧ RdRow W W.heap.size A k len os ∧ ∀ o ∈ os, Q o := by
  obtain ⟨A, len, cap, rfl⟩ := okWide_slice ht hv
  obtain ⟨fuel, hf⟩ := h
  rcases open_slice ht hf with ⟨hcs, _⟩ | ⟨a, len', cap', m, n, D, Pl, hcs, _, hl, hm, hmm, _, hall⟩
  · simp [Value.cells] at hcs
    obtain ⟨rfl, rfl, rfl⟩ := hcs
    exact ⟨none, 0, 0, [], rfl, Nat.le_refl _, by simp, RdRow.nil, by simp⟩
  · simp [Value.cells] at hcs
    obtain ⟨rfl, rfl, rfl⟩ := hcs
    rw [hk] at hall
    simp only [if_true] at hmm
    have hget : ∀ i, i < len → ∃ cs', W.cells? 0 (a.add (i * k)) k = some cs' ∧ Q cs' := fun i hi => by
      obtain ⟨cs', h1, h2⟩ := hall i (by omega)
      exact ⟨cs', h1, hel _ _ _ h2⟩
    obtain ⟨g, hg⟩ : ∃ g : Nat → List Value, ∀ i, i < len → W.cells? 0 (a.add (i * k)) k = some (g i) ∧ Q (g i) := ⟨fun i => if hi : i < len then (hget i hi).choose else [], fun i hi => by
      simp only [dif_pos hi]
      exact (hget i hi).choose_spec⟩
    clear hget hall
    have hkl : ∀ o ∈ (List.range len).map g, o.length = k := by
      intro o ho
      obtain ⟨i, hi, rfl⟩ := List.mem_map.1 ho
      exact (World.cells?_some (hg i (List.mem_range.1 hi)).1).2.1
    refine ⟨some a, len, cap, (List.range len).map g, rfl, hl, hm, ⟨by simp, hkl, fun h0 => ?_⟩, fun o ho => ?_⟩
    · have h1 := World.cells?_some (hg 0 h0).1
      obtain ⟨c0, hc0⟩ : ∃ c0, W.cell? ((a.add (0 * k)).add 0) = some c0 := by
        have h2 := h1.2.2 0 hk0
        exact ⟨_, h2.trans (List.getElem?_eq_getElem (by rw [h1.2.1]; exact hk0))⟩
      obtain ⟨b, off, spot⟩ := a
      have hspot : spot = none := by simpa [Addr.add] using World.cell?_spot hc0
      subst hspot
      refine ⟨b, off, rfl, by have := World.block_lt_of_cell? W _ hc0; simpa [Addr.add] using this, fun j v hj => ?_⟩
      have hjl := (List.getElem?_eq_some_iff.1 hj).1
      rw [flat_length hkl, List.length_map, List.length_range] at hjl
      have hi : j / k < len := Nat.div_lt_of_lt_mul (by rw [Nat.mul_comm]; exact hjl)
      have hr : j % k < k := Nat.mod_lt _ hk0
      have hs := World.cells?_some (hg (j / k) hi).1
      have hjj : j / k * k + j % k = j := by rw [Nat.mul_comm]; exact Nat.div_add_mod j k
      have hlt : j % k < (g (j / k)).length := by rw [hs.2.1]; exact hr
      have hfa := flat_at hkl (j / k) (g (j / k)) (by rw [List.getElem?_map, List.getElem?_range hi]; rfl) (j % k) _ (List.getElem?_eq_getElem hlt)
      rw [hjj, hj] at hfa
      injection hfa with hfa
      have h3 := hs.2.2 (j % k) hr
      rw [add_plain, add_plain, Nat.add_assoc, hjj, List.getElem?_eq_getElem hlt] at h3
      rw [h3, hfa]
    · obtain ⟨i, hi, rfl⟩ := List.mem_map.1 ho
      exact (hg i (List.mem_range.1 hi)).2
end Go.Proofs.Ytnmjcibhggchkaa
