/-
  Words for lists of objects of one size that a slice holds: the first one for which a predicate holds, a place that is written, a predicate that is handed on. No function of the program is named here.
-/
import Derived.Test.YtnmjcibhggchkaaRtApp
import Derived.Test.YtnmjcibhggchkaaOpsG
import Derived.Lib.AppendZerosOnto
namespace Go.Proofs.Ytnmjcibhggchkaa
open Go.RowKit

/-- what is asked of a predicate that is handed on, in every world in which what lies below B is as it was -/
def PredB (P : Program) (F : Nat) (lb : Array Value) (p : List Value → Bool) (B : Nat) (w : World) (os : List (List Value)) : Prop :=
  ∀ o ∈ os, ∀ W, Below B w W → Calls P F (#[.agg o.toArray] ++ lb) W fun e W' => e = .returned (.bool (p o)) ∧ Below W.heap.size W W'
theorem PredB.later {P : Program} {F : Nat} {lb : Array Value} {p : List Value → Bool} {B : Nat} {w w1 : World} {os : List (List Value)} (h : PredB P F lb p B w os) (hb : Below B w w1) : PredB P F lb p B w1 os :=
  fun o ho W hW => h o ho W (hb.trans hW)
def idxM (p : List Value → Bool) (os : List (List Value)) : Int := match os.findIdx? p with
  | none => -1
  | some i => (i : Int)
theorem idxM_none {p : List Value → Bool} {os : List (List Value)} (h : ∀ o ∈ os, p o = false) : idxM p os = -1 := by
  have e : os.findIdx? p = none := List.findIdx?_eq_none_iff.2 h
  unfold idxM
  rw [e]
theorem idxM_some {p : List Value → Bool} {os : List (List Value)} {j : Nat} {o : List Value} (ho : os[j]? = some o) (hp : p o = true) (hn : ∀ (q : Nat) x, q < j → os[q]? = some x → p x = false) : idxM p os = (j : Int) := by
  obtain ⟨hi, rfl⟩ := List.getElem?_eq_some_iff.1 ho
  have e : os.findIdx? p = some j := by
    rw [List.findIdx?_eq_some_iff_getElem]
    exact ⟨hi, hp, fun q hq => by simpa using hn q _ hq (List.getElem?_eq_getElem (by omega))⟩
  unfold idxM
  rw [e]
theorem all_false {p : List Value → Bool} {os : List (List Value)} {n : Nat} (hl : os.length = n) (h : ∀ (q : Nat) x, q < n → os[q]? = some x → p x = false) : ∀ o ∈ os, p o = false := by
  intro o ho
  obtain ⟨i, hi, rfl⟩ := List.getElem_of_mem ho
  exact h i _ (by omega) (List.getElem?_eq_getElem hi)
theorem idxM_cases (p : List Value → Bool) (os : List (List Value)) : (∀ o ∈ os, p o = false) ∨ ∃ j o, os[j]? = some o ∧ p o = true ∧ ∀ (q : Nat) x, q < j → os[q]? = some x → p x = false := by
  cases h : os.findIdx? p with
  | none => exact .inl (List.findIdx?_eq_none_iff.1 h)
  | some j =>
    obtain ⟨hi, hp, hn⟩ := List.findIdx?_eq_some_iff_getElem.1 h
    exact .inr ⟨j, os[j], List.getElem?_eq_getElem hi, hp, fun q x hq hx => by
      obtain ⟨hqi, rfl⟩ := List.getElem?_eq_some_iff.1 hx
      simpa using hn q hq⟩
theorem blk_at {w : World} {g : Nat} {t : TypeId} {k i : Nat} {cs : List (List Value)} {rest o : List Value} (h : Blk w g t (cs.flatten ++ rest)) (hk : ∀ o ∈ cs, o.length = k) (ho : cs[i]? = some o) : At w g (i * k) o := by
  intro j v hj
  rw [h.cell, List.getElem?_append_left]
  · exact flat_at hk i o ho j v hj
  · exact (List.getElem?_eq_some_iff.1 (flat_at hk i o ho j v hj)).1
theorem blk_row {w : World} {g : Nat} {t : TypeId} {k n : Nat} {cs : List (List Value)} {rest : List Value} (h : Blk w g t (cs.flatten ++ rest)) (hk : ∀ o ∈ cs, o.length = k) (hn : cs.length = n) : RdRow w w.heap.size (some ⟨g, 0, none⟩) k n cs :=
  ⟨hn, hk, fun _ => ⟨g, 0, rfl, h.lt, fun j v hj => by
    rw [h.cell, Nat.zero_add, List.getElem?_append_left (List.getElem?_eq_some_iff.1 hj).1]
    exact hj⟩⟩
theorem flat_set {k m : Nat} {cs : List (List Value)} {rest o : List Value} (hk : ∀ o ∈ cs, o.length = k) (ho : o.length = k) (hm : m < cs.length) : setL (cs.flatten ++ rest) (m * k) o = (cs.set m o).flatten ++ rest := by
  have hl := flat_length hk
  have h1 : (m + 1) * k ≤ cs.length * k := Nat.mul_le_mul_right k hm
  have h2 : m * k + k = (m + 1) * k := (Nat.succ_mul m k).symm
  rw [setL, ho, h2, List.take_append_of_le_length (by omega), List.drop_append_of_le_length (by omega), ← flat_take m hk, ← flat_drop (m + 1) hk, List.set_eq_take_append_cons_drop, if_pos hm]
  simp
theorem set_mem {k m : Nat} {cs : List (List Value)} {o : List Value} (hk : ∀ o ∈ cs, o.length = k) (ho : o.length = k) : ∀ x ∈ cs.set m o, x.length = k := by
  intro x hx
  rcases List.mem_or_eq_of_mem_set hx with h | rfl
  · exact hk x h
  · exact ho
theorem one_flat {cs : List (List Value)} (h : ∀ o ∈ cs, ∀ v ∈ o, v.oneCell' = true) : ∀ v ∈ cs.flatten, v.oneCell' = true := fun v hv => by
  obtain ⟨o, ho, h2⟩ := List.mem_flatten.1 hv
  exact h o ho v h2
theorem own_sliceK {w : World} {base e k n : Nat} {v : Value} {xs : List Value} (h : w.ownsRow base e k v n xs) : ∃ A c, v = .slice A n c ∧ n ≤ c ∧ c ≤ maxLen ∧ ∀ ad, A = some ad → base ≤ ad.block := by
  rcases h.2 with ⟨rfl, rfl⟩ | ⟨g, cap, cur, rfl, hb, _, hn, hm, _⟩
  · exact ⟨none, 0, rfl, Nat.le_refl _, by unfold maxLen; omega, fun _ h => by cases h⟩
  · exact ⟨_, _, rfl, hn, hm, fun ad h => by injection h with h; subst h; exact hb⟩
theorem addrK_none {i c k : Nat} : addrK none i c k = none := by unfold addrK; split <;> rfl
theorem addrK_zero_some (b off c k : Nat) : addrK (some ⟨b, off, none⟩) 0 c k = some ⟨b, off, none⟩ := by
  unfold addrK
  split
  · rfl
  · rw [Option.map_some, Go.WideShapes.add_plain, Nat.zero_mul, Nat.add_zero]
theorem addrK_some {b off i c k : Nat} (h : i < c) : addrK (some ⟨b, off, none⟩) i c k = some ⟨b, off + i * k, none⟩ := by
  unfold addrK
  rw [if_neg (by omega), Option.map_some, Go.WideShapes.add_plain]
theorem RdRow.ahead {W : World} {B k n : Nat} {A : Option Addr} {os : List (List Value)} (h : RdRow W B A k n os) (i c : Nat) (hi : i ≤ n) : RdRow W B (addrK A 0 c k) k i (os.take i) := by
  rcases Nat.eq_zero_or_pos i with h0 | h0
  · subst h0
    rw [List.take_zero]
    exact RdRow.nil
  · obtain ⟨b, off, rfl⟩ := h.addr (by omega)
    rw [addrK_zero_some]
    exact h.take i hi
/-- the builtin clear of the elements of a slice that lie in a block -/
theorem run_clear_objs {P : Program} (w : World) (t e ty : TypeId) (ht : P.underlying t = some (.slice e)) (z : Value) (hv : ∀ w, (zeroValue e).run P w = .ok z w) (h1 : ∀ v ∈ z.cells.toList, v.oneCell' = true) (g off n c : Nat) (bt : TypeId) (old : List Value) (hg : Blk w g bt old) (hfit : off + n * z.cells.size ≤ old.length) (hn : 0 < n) :
    ∃ w', (Builtin.clear_ #[t] ty #[.slice (some ⟨g, off, none⟩) n c]).run P w = .ok (.tuple #[]) w' ∧ Blk w' g bt (setL old off (Builtin.zeroCells z.cells n).toList) ∧ w.grownBy w' (some g) := by
  obtain ⟨m, rfl⟩ : ∃ m, n = m + 1 := ⟨n - 1, by omega⟩
  have hl : (Builtin.zeroCells z.cells (m + 1)).toList.length = (m + 1) * z.cells.size := by simp [Builtin.zeroCells]
  have ho : ∀ v ∈ (Builtin.zeroCells z.cells (m + 1)).toList, v.oneCell' = true := by
    intro v hv
    simp only [Builtin.zeroCells, Array.toList_map, Array.toList_range, List.mem_map, List.mem_range] at hv
    obtain ⟨i, hi, rfl⟩ := hv
    have hs : 0 < z.cells.size := by
      rcases Nat.eq_zero_or_pos z.cells.size with h | h
      · rw [h] at hi; omega
      · exact h
    refine h1 _ ?_
    have hlt := Nat.mod_lt i hs
    rw [getElem!_pos z.cells _ hlt]
    simp
  have hst := run_storeCells_at P g off bt (Builtin.zeroCells z.cells (m + 1)).toList 0 old.toArray w hg (by simpa [hl] using hfit) ho
  rw [Nat.add_zero] at hst
  refine ⟨w.setRow g (old.toArray.toList.take off ++ (Builtin.zeroCells z.cells (m + 1)).toList ++ old.toArray.toList.drop (off + (Builtin.zeroCells z.cells (m + 1)).toList.length)).toArray, ?_, ?_, ⟨rfl, rfl, rfl, by simp, fun k _ hk => setRow_other w g k _ (fun e => hk (by simp [e]))⟩⟩
  · simp only [Builtin.clear_, List.getElem?_toArray, List.getElem?_cons_zero, Sem.run_bind, run_underlying ht, Result.andThen_ok, hv]
    rw [hst]
    rfl
  · exact setRow_heap w g old.toArray _ bt _ hg
theorem wpList_clear_objs {P : Program} (w : World) {ops : Array Oper} {rest : List Oper} {o : Oper} {a : Act} {Q : Exit → Act → World → Prop} (hgd : o.guard = none) (d : Operand) (t e : TypeId)
    (ho : o.op = .call { callee := .builtin .clear, args := #[d], argTypes := #[t] }) (ht : P.underlying t = some (.slice e)) (z : Value) (hv : ∀ w, (zeroValue e).run P w = .ok z w) (h1 : ∀ v ∈ z.cells.toList, v.oneCell' = true)
    (g off n c : Nat) (hd : a.eval d = .slice (some ⟨g, off, none⟩) n c) (bt : TypeId) (old : List Value) (hg : Blk w g bt old) (hfit : off + n * z.cells.size ≤ old.length) (hn : 0 < n)
    (h : ∀ w', Blk w' g bt (setL old off (Builtin.zeroCells z.cells n).toList) → w.grownBy w' (some g) → wpList P ops Q rest (a.put o.dst (.tuple #[])) w') : wpList P ops Q (o :: rest) a w := by
  refine wpList_plain hgd fun K hK => ?_
  obtain ⟨w', hrun, h2, h3⟩ := run_clear_objs (P := P) w t e o.type ht z hv h1 g off n c bt old hg hfit hn
  unfold Oper.wp execOp
  simp only [ho, resolve, invoke, builtin, Sem.run_bind, Sem.run_pure, Result.andThen_ok, List.map_toArray, List.map_cons, List.map_nil, hd, hrun]
  exact hK _ _ (h w' h2 h3)
end Go.Proofs.Ytnmjcibhggchkaa
