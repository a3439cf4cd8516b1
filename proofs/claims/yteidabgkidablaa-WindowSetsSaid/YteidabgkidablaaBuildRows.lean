/-
  A slice built of arrays of one size: its block holds them one behind the other. No statement is proved here.
-/
import Derived.Test.YteidabgkidablaaTwoRows
namespace Go.Proofs.Yteidabgkidablaa
open Go.RowKit

theorem fill_rows (n : Nat) : ∀ (rows : List (List Value)) (j : Nat) (base : Array Value), (∀ r ∈ rows, r.length = n) → base.size = (j + rows.length) * n →
    Instr.fill (fun i => some (i * n, n)) base ((rows.zipIdx j).map fun x => (x.2, Value.agg x.1.toArray)) = some (base.toList.take (j * n) ++ rows.flatten).toArray
  | [], j, base, _, hb => by
    have : base.toList.take (j * n) = base.toList := List.take_of_length_le (by simp at hb ⊢; omega)
    rw [this]
    simp [Instr.fill]
  | r :: rows, j, base, hr, hb => by
    have hrl : r.length = n := hr r (by simp)
    have hb2 : j * n + n + rows.length * n = base.size := by rw [hb, List.length_cons, show j + (rows.length + 1) = j + 1 + rows.length by omega, Nat.add_mul, Nat.succ_mul]
    have h1 : (r.toArray.zipIdx.foldl (fun cs (x : Value × Nat) => cs.setIfInBounds (j * n + x.2) x.1) base).toList = base.toList.take (j * n) ++ r ++ base.toList.drop (j * n + r.length) := by
      have := foldl_set_list (j * n) r 0 base (by simp; omega)
      rw [← Array.foldl_toList]
      simpa using this
    have hs : (r.toArray.zipIdx.foldl (fun cs (x : Value × Nat) => cs.setIfInBounds (j * n + x.2) x.1) base).size = base.size := by
      rw [← Array.length_toList, h1]
      simp
      omega
    rw [List.zipIdx_cons, List.map_cons]
    refine (if_neg (two_tests (fun hne => hne (show r.toArray.size = n by simpa using hrl)) (fun hlt : j * n + r.toArray.size > base.size => by simp at hlt; omega))).trans ?_
    have ih := fill_rows n rows (j + 1) _ (fun x hx => hr x (List.mem_cons_of_mem _ hx)) (show (r.toArray.zipIdx.foldl (fun cs (x : Value × Nat) => cs.setIfInBounds (j * n + x.2) x.1) base).size = (j + 1 + rows.length) * n by rw [hs, hb, List.length_cons]; congr 1; omega)
    refine ih.trans ?_
    rw [h1, List.flatten_cons, Nat.succ_mul]
    congr 2
    rw [List.take_append_of_le_length (by simp; omega), List.take_of_length_le (by simp; omega), List.append_assoc]
theorem wpList_buildRows {P : Program} {w : World} {ops : Array Oper} {rest : List Oper} {o : Oper} {act : Act} {Q : Exit → Act → World → Prop} (hgd : o.guard = none) (ty e : TypeId) (k : Nat) (parts : List (Nat × Operand)) (ho : o.op = .buildSlice ty k parts.toArray)
    (rows : List (List Value)) (hk : rows.length = k) (hp : (parts.map fun p => (p.1, act.eval p.2)) = (rows.zipIdx 0).map fun x => (x.2, Value.agg x.1.toArray)) (n : Nat) (hu : P.underlying ty = some (.slice e)) (i : TypeInfo) (hi : P.info? e = some i) (hs : i.size = n) (z : Value) (hz : i.zero = some z) (hn0 : 0 < n) (hk0 : 0 < k) (hn1 : k * n ≤ 1000) (ha : ∀ r ∈ rows, r.length = n)
    (h : wpList P ops Q rest (act.put o.dst (.slice (some ⟨w.heap.size, 0, none⟩) k k)) (w.alloc (.cells rows.flatten.toArray e))) : wpList P ops Q (o :: rest) act w :=
  wpList_plain hgd fun K hK => by
    unfold Oper.wp execOp
    have hf := fun z : Array Value => fill_rows n rows 0 ((Array.range (k * n)).map (z[· % z.size]!)) ha (by simp [hk])
    have h24 : ¬ k * n > 2 ^ 24 := by omega
    have h20 : ¬ k * n = 0 := by have := Nat.mul_pos hk0 hn0; omega
    simp only [ho, Instr.buildSlice, Sem.run_bind, run_underlying hu, sizeOf, zeroValue, typeInfo, Result.andThen_ok]
    simp only [Nat.zero_mul, List.take_zero, List.nil_append] at hf
    have hf2 := hf z.cells
    simp [hi, hs, hz, h24, h20, newRow, hp, hf2]
    exact hK _ _ h
theorem flat_rows (n : Nat) : ∀ (rows : List (List Value)) (k : Nat) (h : k < rows.length), (∀ r ∈ rows, r.length = n) → (rows.flatten.drop (k * n)).take n = rows[k]
  | [], k, h, _ => absurd h (by simp)
  | r :: rows, 0, _, hr => by
    have h1 := hr r (by simp)
    rw [Nat.zero_mul, List.drop_zero, List.flatten_cons, List.take_append_of_le_length (by omega), List.take_of_length_le (by omega)]
    rfl
  | r :: rows, k + 1, h, hr => by
    have h1 := hr r (by simp)
    have ih := flat_rows n rows k (by simpa using h) (fun x hx => hr x (List.mem_cons_of_mem _ hx))
    have e : (k + 1) * n = n + k * n := by rw [Nat.succ_mul, Nat.add_comm]
    have e2 : n + k * n - r.length = k * n := by omega
    rw [List.flatten_cons, e, List.drop_append, List.drop_of_length_le (by omega), List.nil_append, e2, ih]
    rfl
end Go.Proofs.Yteidabgkidablaa
