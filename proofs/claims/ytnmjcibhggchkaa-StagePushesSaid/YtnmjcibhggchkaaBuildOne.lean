/-
  A slice built of one part, and the append of one part to a row of the call's own. No statement is proved here.
-/
import Derived.Test.YtnmjcibhggchkaaEnt
import Derived.Test.YtnmjcibhggchkaaWord
import Derived.Test.YtnmjcibhggchkaaTwoRows
import Derived.Maps.AppendAt
namespace Go.Proofs.Ytnmjcibhggchkaa
open Go.RowKit

theorem fill_one (n : Nat) (base a : Array Value) (hb : base.size = n) (ha : a.size = n) :
    Instr.fill (fun i => some (i * n, n)) base [(0, .agg a)] = some a := by
  have hA : (a.zipIdx.foldl (fun cs (x : Value × Nat) => cs.setIfInBounds (0 * n + x.2) x.1) base).toList = base.toList.take (0 * n) ++ a.toList ++ base.toList.drop (0 * n + a.size) := by
    have := foldl_set_list (0 * n) a.toList 0 base (by simp; omega)
    rw [← Array.foldl_toList]
    simpa using this
  refine (if_neg (two_tests (fun hne => hne ha) (fun hlt : 0 * n + a.size > base.size => by omega))).trans ?_
  refine congrArg some (Array.ext' (hA.trans ?_))
  have e0 : List.drop (0 * n + a.size) base.toList = [] := List.drop_eq_nil_of_le (by simp; omega)
  rw [e0]
  simp
theorem step_buildOne {P : Program} {w : World} {ops : Array Oper} {o : Oper} {act : Act} {K : Act → World → Prop} {Q : Exit → Act → World → Prop} {E : Prop} (hgd : o.guard = none) (ty e : TypeId) (x : Operand) (ho : o.op = .buildSlice ty 1 #[(0, x)])
    (a : Array Value) (hx : act.eval x = .agg a) (n : Nat) (hu : P.underlying ty = some (.slice e)) (i : TypeInfo) (hi : P.info? e = some i) (hs : i.size = n) (z : Value) (hz : i.zero = some z) (hn0 : 0 < n) (hn1 : n ≤ 1000) (ha : a.size = n)
    (h : K (act.put o.dst (.slice (some ⟨w.heap.size, 0, none⟩) 1 1)) (w.alloc (.cells a e))) : if Region.wanted o (yielded ops act.tmps) = true then Oper.wp P o act w K Q else E := by
  have hw : Region.wanted o (yielded ops act.tmps) = true := by simp [Region.wanted, hgd]
  rw [if_pos hw]
  unfold Oper.wp execOp
  have hf := fun z : Array Value => fill_one n ((Array.range n).map (z[· % z.size]!)) a (by simp) ha
  have h24 : ¬ n > 2 ^ 24 := by omega
  have h20 : ¬ n = 0 := by omega
  simp only [ho, Instr.buildSlice, Sem.run_bind, run_underlying hu, sizeOf, zeroValue, typeInfo, Result.andThen_ok]
  simp [hi, hs, hz, hf, h24, h20, newRow, hx]
  exact h
theorem step_append_at {P : Program} (w : World) {ops : Array Oper} {o : Oper} {a : Act} {K : Act → World → Prop} {Q : Exit → Act → World → Prop} {E : Prop} (hgd : o.guard = none) (s x : Operand) (t : TypeId)
    (ho : o.op = .call { callee := .builtin .append, args := #[s, x], argTypes := #[t, t] })
    (base : Nat) (e : TypeId) (i : TypeInfo) (z : Value) (size bytes : Nat) (ht : P.underlying t = some (.slice e)) (hi : P.info? e = some i) (hz : i.zero = some z) (hsize : i.size = size) (hby : i.bytes = bytes) (hzs : z.cells.size = size) (hsz : 0 < size)
    (v : Value) (n : Nat) (xs : List Value) (hs : a.eval s = v) (hown : w.ownsRow base e size v n xs) (ad : Addr) (m c : Nat) (news : List Value) (hx : a.eval x = .slice (some ad) m c) (hl : news.length = m * size) (hnews : ∀ j u, news[j]? = some u → w.cell? (ad.add j) = some u) (h1 : ∀ u ∈ news, u.oneCell' = true)
    (h63 : n + m ≤ maxLen) (hbytes : (n + m) * bytes ≤ 140737488355328) (hbase : base ≤ w.heap.size)
    (h : ∀ v' w', w'.ownsRow base e size v' (n + m) (xs ++ news) → w.grownBy w' v.ownBlock → (v'.ownBlock = v.ownBlock ∨ v'.ownBlock = some w.heap.size) → K (a.put o.dst v') w') : if Region.wanted o (yielded ops a.tmps) = true then Oper.wp P o a w K Q else E := by
  have hw : Region.wanted o (yielded ops a.tmps) = true := by simp [Region.wanted, hgd]
  rw [if_pos hw]
  obtain ⟨v', w', hr, h2, h3, _, h5⟩ := run_append_own_at (P := P) w base t o.type e i z size bytes ht hi hz hsize hby hzs hsz v n xs hown ad m c news hl hnews h1 h63 hbytes hbase
  unfold Oper.wp execOp
  simp only [ho, resolve, invoke, builtin, Sem.run_bind, Sem.run_pure, Result.andThen_ok, List.map_toArray, List.map_cons, List.map_nil, hs, hx, hr]
  exact h v' w' h2 h3 h5
end Go.Proofs.Ytnmjcibhggchkaa
