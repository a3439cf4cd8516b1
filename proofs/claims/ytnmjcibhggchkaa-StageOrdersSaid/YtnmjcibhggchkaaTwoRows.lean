/-
  A slice built of two arrays: its block holds the one behind the other. No statement is proved here.
-/
import Derived.Test.YtnmjcibhggchkaaLoadOff
namespace Go.Proofs.Ytnmjcibhggchkaa
open Go.RowKit

theorem foldl_set_list (off : Nat) (xs : List Value) : ∀ (k : Nat) (cs : Array Value), off + k + xs.length ≤ cs.size →
    ((xs.zipIdx k).foldl (fun cs (x : Value × Nat) => cs.setIfInBounds (off + x.2) x.1) cs).toList = cs.toList.take (off + k) ++ xs ++ cs.toList.drop (off + k + xs.length) := by
  induction xs with
  | nil => intro k cs h; simp
  | cons x xs ih =>
    intro k cs h
    rw [List.zipIdx_cons, List.foldl_cons, ih (k + 1) _ (by simp at h ⊢; omega)]
    have hl : off + k < cs.toList.length := by simp at h ⊢; omega
    simp only [Array.toList_setIfInBounds, List.length_cons]
    rw [List.drop_set_of_lt (by omega), show off + (k + 1) = off + k + 1 by omega, List.take_set, List.take_succ_eq_append_getElem hl, List.set_append_right _ _ (by simp; omega)]
    simp [show min (off + k) cs.size = off + k by simp at h; omega, show off + k + 1 + xs.length = off + k + (xs.length + 1) by omega]

theorem two_tests {p q : Prop} [Decidable p] [Decidable q] (hp : ¬p) (hq : ¬q) : ¬(decide p || decide q) = true := by simp [hp, hq]
theorem fill_two (n : Nat) (base a b : Array Value) (hb : base.size = 2 * n) (ha : a.size = n) (hb2 : b.size = n) :
    Instr.fill (fun i => some (i * n, n)) base [(0, .agg a), (1, .agg b)] = some (a ++ b) := by
  have h1 : ∀ (off : Nat) (v cs : Array Value), off + v.size ≤ cs.size → (v.zipIdx.foldl (fun cs (x : Value × Nat) => cs.setIfInBounds (off + x.2) x.1) cs).toList = cs.toList.take off ++ v.toList ++ cs.toList.drop (off + v.size) := by
    intro off v cs h
    have := foldl_set_list off v.toList 0 cs (by simpa using h)
    rw [← Array.foldl_toList]
    simpa using this
  have hA := h1 (0 * n) a base (by omega)
  have hAs : (a.zipIdx.foldl (fun cs (x : Value × Nat) => cs.setIfInBounds (0 * n + x.2) x.1) base).size = 2 * n := by
    rw [← Array.length_toList, hA]; simp; omega
  have hB := h1 (1 * n) b _ (by rw [hAs]; omega)
  refine (if_neg (two_tests (fun hne => hne ha) (fun hlt : 0 * n + a.size > base.size => by omega))).trans ?_
  refine (if_neg (two_tests (fun hne => hne hb2) (fun hlt : 1 * n + b.size > (Array.foldl (fun cs (x : Value × Nat) => cs.setIfInBounds (0 * n + x.2) x.1) base a.zipIdx).size => by rw [hAs] at hlt; omega))).trans ?_
  refine congrArg some (Array.ext' (hB.trans ?_))
  rw [hA]
  have e0 : List.drop (n + n) base.toList = [] := List.drop_eq_nil_of_le (by simp; omega)
  simp [ha, hb2, e0, List.drop_append]
theorem wpList_buildTwo {P : Program} {w : World} {ops : Array Oper} {rest : List Oper} {o : Oper} {act : Act} {Q : Exit → Act → World → Prop} (hgd : o.guard = none) (ty e : TypeId) (x y : Operand) (ho : o.op = .buildSlice ty 2 #[(0, x), (1, y)])
    (a b : Array Value) (hx : act.eval x = .agg a) (hy : act.eval y = .agg b) (n : Nat) (hu : P.underlying ty = some (.slice e)) (i : TypeInfo) (hi : P.info? e = some i) (hs : i.size = n) (z : Value) (hz : i.zero = some z) (hn0 : 0 < n) (hn1 : n ≤ 1000) (ha : a.size = n) (hb : b.size = n)
    (h : wpList P ops Q rest (act.put o.dst (.slice (some ⟨w.heap.size, 0, none⟩) 2 2)) (w.alloc (.cells (a ++ b) e))) : wpList P ops Q (o :: rest) act w :=
  wpList_plain hgd fun K hK => by
    unfold Oper.wp execOp
    have hf := fun z : Array Value => fill_two n ((Array.range (2 * n)).map (z[· % z.size]!)) a b (by simp) ha hb
    have h24 : ¬ 2 * n > 2 ^ 24 := by omega
    have h20 : ¬ 2 * n = 0 := by omega
    simp only [ho, Instr.buildSlice, Sem.run_bind, run_underlying hu, sizeOf, zeroValue, typeInfo, Result.andThen_ok]
    simp [hi, hs, hz, hf, h24, h20, newRow, hx, hy]
    exact hK _ _ h
end Go.Proofs.Ytnmjcibhggchkaa
