/-
  A slice of bytes built of a long row of constants. No statement is proved here.
-/
import Derived.Test.YtkbefhmgcodpaaaMem
namespace Go.Proofs.Ytkbefhmgcodpaaa
open Go.RowKit

theorem fill_bytes : ∀ (l : List UInt8) (k : Nat) (base : Array Value), base.size = k + l.length →
    Instr.fill (fun i => some (i * 1, 1)) base ((l.zipIdx k).map fun p => (p.2, u8v p.1)) = some (base.toList.take k ++ l.map u8v).toArray
  | [], k, base, h => by
    have : base.toList.take k = base.toList := List.take_of_length_le (by rw [Array.length_toList]; simp at h; omega)
    simp [Instr.fill, this]
  | b :: l, k, base, h => by
    rw [List.zipIdx_cons, List.map_cons, Instr.fill]
    have hk : k < base.size := by rw [h]; simp
    have hs : ((u8v b).cells.zipIdx.foldl (fun cs (x : Value × Nat) => cs.setIfInBounds (k * 1 + x.2) x.1) base) = base.setIfInBounds k (u8v b) := by
      rw [Nat.mul_one]
      rfl
    have hc : (u8v b).cells.size = 1 := rfl
    rw [hc]
    have ht : ¬ (decide ((1 : Nat) ≠ 1) || decide (k * 1 + 1 > base.size)) = true := by simp; omega
    refine (if_neg ht).trans ?_
    refine (congrArg (fun x => Instr.fill (fun i => some (i * 1, 1)) x ((l.zipIdx (k + 1)).map fun p => (p.2, u8v p.1))) hs).trans ?_
    rw [fill_bytes l (k + 1) _ (by rw [Array.size_setIfInBounds, h, List.length_cons]; omega)]
    congr 2
    rw [Array.toList_setIfInBounds, List.take_succ_eq_append_getElem (by rw [List.length_set, Array.length_toList]; exact hk), List.take_set_of_le (Nat.le_refl _), List.getElem_set_self, List.append_assoc, List.map_cons]
    rfl
theorem wpList_buildBytes {P : Program} {w : World} {ops : Array Oper} {rest : List Oper} {o : Oper} {act : Act} {Q : Exit → Act → World → Prop} (hgd : o.guard = none) (ty e : TypeId) (n : Nat) (ps : Array (Nat × Operand)) (ho : o.op = .buildSlice ty n ps)
    (l : List UInt8) (hps : (ps.map fun x => (x.1, act.eval x.2)).toList = (l.zipIdx 0).map fun p => (p.2, u8v p.1)) (hl : l.length = n) (hn0 : 0 < n) (hn1 : n ≤ 1000) (hu : P.underlying ty = some (.slice e)) (i : TypeInfo) (hi : P.info? e = some i) (hs : i.size = 1) (z : Value) (hz : i.zero = some z)
    (h : wpList P ops Q rest (act.put o.dst (.slice (some ⟨w.heap.size, 0, none⟩) n n)) (w.alloc (.cells (l.map u8v).toArray e))) : wpList P ops Q (o :: rest) act w :=
  wpList_plain hgd fun K hK => by
    unfold Oper.wp execOp
    have hf : ∀ z : Array Value, Instr.fill (fun i => some (i * 1, 1)) ((Array.range (n * 1)).map (z[· % z.size]!)) (ps.map fun x => (x.1, act.eval x.2)).toList = some (l.map u8v).toArray := fun z => by
      rw [hps, fill_bytes l 0 _ (by simp [hl])]
      simp
    have h24 : ¬ n * 1 > 2 ^ 24 := by omega
    have h20 : ¬ n * 1 = 0 := by omega
    simp only [ho, Instr.buildSlice, Sem.run_bind, run_underlying hu, sizeOf, zeroValue, typeInfo, Result.andThen_ok]
    simp [hi, hs, hz, newRow, -Array.toList_map]
    have hf' : ∀ z : Array Value, Instr.fill (fun i => some (i, 1)) ((Array.range n).map (z[· % z.size]!)) (ps.map fun x => (x.1, act.eval x.2)).toList = some (l.map u8v).toArray := fun z => by
      have := hf z
      simpa only [Nat.mul_one] using this
    rw [if_neg (by omega), if_neg (by omega), hf']
    exact hK _ _ h
end Go.Proofs.Ytkbefhmgcodpaaa
