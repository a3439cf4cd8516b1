/-
  Words for lists of routes that grow by append. Pieces of a list of routes. What InsertRoute lays: a route of its parts, a key that is replaced in a list. Equality of two structs under a guard, as an operation. Two objects are compared by == or !=, in a list of operations and in a drawn region. No function of the program is named here. When an address lies in a prefix. The contracts of the reference's Sound, bit, width, Valid, Contains and Less. The contract of the reference's before. What a walk keeps of what lies under the world's size, whoever made it: a list of facts that whatever is made above leaves alone. No statement is proved here.
-/
import Derived.Laws.ShiftsVarLaws
import Derived.Deep.DeepCutAuto
import Derived.Test.YtnblofbbbkjhpaaRoutesChangeB2
namespace Go.Proofs.Ytnblofbbbkjhpaa
open Go.RowKit

theorem wpList_buildOne {P : Program} {w : World} {ops : Array Oper} {rest : List Oper} {o : Oper} {act : Act} {Q : Exit → Act → World → Prop} (hgd : o.guard = none) (ty e : TypeId) (x : Operand) (ho : o.op = .buildSlice ty 1 #[(0, x)])
    (a : Array Value) (hx : act.eval x = .agg a) (n : Nat) (hu : P.underlying ty = some (.slice e)) (i : TypeInfo) (hi : P.info? e = some i) (hs : i.size = n) (z : Value) (hz : i.zero = some z) (hn0 : 0 < n) (hn1 : n ≤ 1000) (ha : a.size = n)
    (h : wpList P ops Q rest (act.put o.dst (.slice (some ⟨w.heap.size, 0, none⟩) 1 1)) (w.alloc (.cells a e))) : wpList P ops Q (o :: rest) act w :=
  wpList_step fun _ hK => step_buildOne hgd ty e x ho a hx n hu i hi hs z hz hn0 hn1 ha (hK _ _ h)
def routeZ : List Value := prefC addr0 0 ++ aeZ 32
theorem routeZ_length : routeZ.length = 50 := by decide
theorem routeInfo : ∃ i, Try.prog.info? 37 = some i ∧ i.zero = some (.agg routeZ.toArray) ∧ i.size = 50 ∧ i.bytes = 64 := by
  have h : (Try.prog.info? 37).map (fun i => (i.zero, i.size, i.bytes)) = some (some (.agg routeZ.toArray), 50, 64) := by kernel_rfl
  cases hi : Try.prog.info? 37 with
  | none => rw [hi] at h; cases h
  | some i =>
    rw [hi] at h
    simp only [Option.map_some, Option.some.injEq, Prod.mk.injEq] at h
    exact ⟨i, rfl, h.1, h.2.1, h.2.2⟩
theorem prefInfo : ∃ i, Try.prog.info? 28 = some i ∧ i.zero = some (.agg (prefC addr0 0).toArray) ∧ i.size = 18 ∧ i.bytes = 32 := by
  have h : (Try.prog.info? 28).map (fun i => (i.zero, i.size, i.bytes)) = some (some (.agg (prefC addr0 0).toArray), 18, 32) := by kernel_rfl
  cases hi : Try.prog.info? 28 with
  | none => rw [hi] at h; cases h
  | some i =>
    rw [hi] at h
    simp only [Option.map_some, Option.some.injEq, Prod.mk.injEq] at h
    exact ⟨i, rfl, h.1, h.2.1, h.2.2⟩
theorem pref_oneR (a : AddrM) (b : Int) : ∀ v ∈ prefC a b, v.oneCell' = true := by
  intro v hv
  rw [prefC, AddrM.cells] at hv
  simp only [List.cons_append, List.mem_cons, List.mem_append, List.mem_map, List.not_mem_nil, or_false] at hv
  rcases hv with rfl | ⟨x, _, rfl⟩ | rfl <;> rfl
theorem route_one (r : RouteM) : ∀ v ∈ r.cells, v.oneCell' = true := by
  intro v hv
  rw [RouteM.cells, List.mem_append, List.mem_map] at hv
  rcases hv with h | ⟨x, _, rfl⟩
  · exact pref_oneR _ _ v h
  · rfl
theorem setL_all (old cs : List Value) (h : cs.length = old.length) : setL old 0 cs = cs := by
  rw [setL, List.take_zero, List.nil_append, Nat.zero_add, h, List.drop_length, List.append_nil]
theorem rtsV_snoc (l : List RouteM) (r : RouteM) : (rtsV (l ++ [r])).flatten = (rtsV l).flatten ++ r.cells := by simp [rtsV]
theorem pfsV_snoc (l : List (AddrM × Int)) (p : AddrM × Int) : (pfsV (l ++ [p])).flatten = (pfsV l).flatten ++ prefC p.1 p.2 := by simp [pfsV]
theorem take_snoc {α : Type} {l : List α} {j : Nat} {r : α} (h : l[j]? = some r) : l.take (j + 1) = l.take j ++ [r] := by rw [List.take_add_one, h]; rfl
theorem remM_snoc (l : List RouteM) (r : RouteM) (a : AddrM) (b : Int) : remM (l ++ [r]) a b = remM l a b ++ (if RouteM.is a b r then [] else [r]) := by
  rw [remM, remM, List.filter_append]
  cases h : RouteM.is a b r <;> simp [h]
theorem remPeerM_snoc (l : List RouteM) (r : RouteM) (k : List UInt8) : remPeerM (l ++ [r]) k = remPeerM l k ++ (if r.peer = k then [] else [r]) := by
  rw [remPeerM, remPeerM, List.filter_append]
  by_cases h : r.peer = k <;> simp [h]
theorem ofM_snoc (l : List RouteM) (r : RouteM) (k : List UInt8) : ofM (l ++ [r]) k = ofM l k ++ (if r.peer = k then [(r.a, r.bits)] else []) := by
  rw [ofM, ofM, List.filter_append, List.map_append]
  by_cases h : r.peer = k <;> simp [h]
theorem remM_ok {l : List RouteM} (h : ∀ r ∈ l, r.ok) (a : AddrM) (b : Int) : ∀ r ∈ remM l a b, r.ok := fun r hr => h r (List.mem_filter.1 hr).1
theorem remPeerM_ok {l : List RouteM} (h : ∀ r ∈ l, r.ok) (k : List UInt8) : ∀ r ∈ remPeerM l k, r.ok := fun r hr => h r (List.mem_filter.1 hr).1
theorem ofM_ok {l : List RouteM} (h : ∀ r ∈ l, r.ok) (k : List UInt8) : ∀ p ∈ ofM l k, okP p := fun p hp => by
  obtain ⟨r, hr, rfl⟩ := List.mem_map.1 hp
  have := h r (List.mem_filter.1 hr).1
  exact ⟨this.1, this.2.2⟩
theorem remM_le (l : List RouteM) (a : AddrM) (b : Int) : (remM l a b).length ≤ l.length := List.length_filter_le _ _
theorem remPeerM_le (l : List RouteM) (k : List UInt8) : (remPeerM l k).length ≤ l.length := List.length_filter_le _ _
theorem ofM_le (l : List RouteM) (k : List UInt8) : (ofM l k).length ≤ l.length := by
  rw [ofM, List.length_map]
  exact List.length_filter_le _ _
/-- an object in a block that was just laid and then written: all that was there ahead is as it was -/
theorem below_fresh {w w' : World} {o : Obj} (hg : (w.alloc o).grownBy w' (some w.heap.size)) : Below w.heap.size w w' :=
  ((Below.refl w.heap.size w).alloc (Nat.le_refl _) o).grown hg (by simp) (fun k hk => by injection hk with hk; omega)
end Go.Proofs.Ytnblofbbbkjhpaa
namespace Go.Proofs.Ytnblofbbbkjhpaa
open Go.RowKit

theorem routes_under : Try.prog.underlying 23 = some (.slice (Try.prog.elem 23)) := by kernel_rfl
theorem routes_size (w : World) : (sizeOf (Try.prog.elem 23)).run Try.prog w = .ok 50 w := by
  obtain ⟨i0, hi, _, hs, _⟩ := routeInfo
  have e : Try.prog.elem 23 = 37 := by kernel_rfl
  rw [e]
  simp [sizeOf, typeInfo, hi, hs]
set_option maxRecDepth 100000 in
theorem routes_hm (A : Option Addr) (n c j : Nat) (h3 : j ≤ c) (w : World) : (Instr.sliceAt 23 (.slice A n c) none (some (.int .i64 (j : Int))) (some (.int .i64 (j : Int)))).run Try.prog w = .ok (.slice (addrK A 0 j 50) j j) w := by
  rw [run_sliceAt_slice (P := Try.prog) (w := w) 23 _ _ _ _ routes_under, run_slice_hm (P := Try.prog) (w := w) 23 A n c routes_under .i64 .i64 j j (by omega) (by omega) (by omega), routes_size]
  simp only [Result.andThen, sliced, Int.toNat_natCast, Nat.sub_zero]
  rfl
set_option maxRecDepth 100000 in
theorem routes_l (A : Option Addr) (n c i : Nat) (h2 : i ≤ n) (w : World) : (Instr.sliceAt 23 (.slice A n c) (some (.int .i64 (i : Int))) none none).run Try.prog w = .ok (.slice (addrK A i c 50) (n - i) (c - i)) w := by
  rw [run_sliceAt_slice (P := Try.prog) (w := w) 23 _ _ _ _ routes_under, run_slice_l (P := Try.prog) (w := w) 23 A n c routes_under .i64 i (by omega) (by omega), routes_size]
  simp only [Result.andThen, sliced, Int.toNat_natCast]
  rfl
theorem addrK_zero {W : World} {B k n : Nat} {A : Option Addr} {os : List (List Value)} (h : RdRow W B A k n os) (j : Nat) (hj : j ≤ n) : RdRow W B (addrK A 0 j k) k j (os.take j) := by
  rcases Nat.eq_zero_or_pos j with h0 | h0
  · subst h0
    rw [List.take_zero]
    exact RdRow.nil
  · obtain ⟨b, off, rfl⟩ := h.addr (by omega)
    unfold addrK
    rw [if_neg (by omega), Option.map_some, Go.WideShapes.add_plain, Nat.zero_mul, Nat.add_zero]
    exact h.take j hj
theorem rtsV_take (l : List RouteM) (j : Nat) : (rtsV l).take j = rtsV (l.take j) := by rw [rtsV, rtsV, List.map_take]
theorem rtsV_drop (l : List RouteM) (j : Nat) : (rtsV l).drop j = rtsV (l.drop j) := by rw [rtsV, rtsV, List.map_drop]
theorem rtsV_one (l : List RouteM) : ∀ u ∈ (rtsV l).flatten, u.oneCell' = true := by
  intro u hu
  obtain ⟨o, ho, h⟩ := List.mem_flatten.1 hu
  obtain ⟨r, _, rfl⟩ := List.mem_map.1 ho
  exact route_one r u h
theorem rtsV_append (l m : List RouteM) : (rtsV l).flatten ++ (rtsV m).flatten = (rtsV (l ++ m)).flatten := by simp [rtsV]
/-- the place of a prefix -/
theorem aheadM_step (a : AddrM) (b : Int) : ∀ (l : List RouteM) (i : Nat), i ≤ aheadM a b l → ∀ r, l[i]? = some r → (befM a b r.a r.bits = false → i + 1 ≤ aheadM a b l) ∧ (befM a b r.a r.bits = true → aheadM a b l = i)
  | [], i, _, r, hr => by simp at hr
  | s :: l, 0, _, r, hr => by
    simp only [List.getElem?_cons_zero, Option.some.injEq] at hr
    subst hr
    unfold aheadM
    constructor
    · intro h
      rw [List.takeWhile_cons, h]
      simp
    · intro h
      rw [List.takeWhile_cons, h]
      simp
  | s :: l, i + 1, hi, r, hr => by
    have hb : befM a b s.a s.bits = false := by
      cases h : befM a b s.a s.bits with
      | false => rfl
      | true =>
        rw [aheadM, List.takeWhile_cons, h] at hi
        simp at hi
    have e : aheadM a b (s :: l) = aheadM a b l + 1 := by
      rw [aheadM, List.takeWhile_cons, hb]
      simp [aheadM]
    have := aheadM_step a b l i (by omega) r (by simpa using hr)
    exact ⟨fun h => by have := this.1 h; omega, fun h => by have := this.2 h; omega⟩
theorem aheadM_le (a : AddrM) (b : Int) (l : List RouteM) : aheadM a b l ≤ l.length := (List.takeWhile_sublist _).length_le
theorem findM_none {a : AddrM} {b : Int} {l : List RouteM} (h : ∀ (i : Nat) (r : RouteM), l[i]? = some r → RouteM.is a b r = false) : findM a b l = none := by
  rw [findM, List.findIdx?_eq_none_iff]
  intro x hx
  obtain ⟨i, hi, rfl⟩ := List.getElem_of_mem hx
  exact h i _ (List.getElem?_eq_getElem hi)
theorem findM_some {a : AddrM} {b : Int} {l : List RouteM} {i : Nat} {r : RouteM} (hr : l[i]? = some r) (h1 : RouteM.is a b r = true) (h : ∀ (j : Nat) (r : RouteM), j < i → l[j]? = some r → RouteM.is a b r = false) : findM a b l = some i := by
  obtain ⟨hi, rfl⟩ := List.getElem?_eq_some_iff.1 hr
  rw [findM, List.findIdx?_eq_some_iff_getElem]
  exact ⟨hi, h1, fun j hj => by simpa using h j _ hj (List.getElem?_eq_getElem (by omega))⟩
end Go.Proofs.Ytnblofbbbkjhpaa
namespace Go.Proofs.Ytnblofbbbkjhpaa
open Go.RowKit

theorem route_built (r : RouteM) (h : r.ok) : Try.prog.built 37 [(0, .agg (prefC r.a r.bits).toArray), (1, .agg (r.peer.map u8v).toArray)] = some r.cells.toArray := by
  rw [built_of 37 [18, 32] [prefC addr0 0, aeZ 32] (by kernel_rfl) #[(0, 18), (18, 32)] (fun parts => by kernel_rfl) (fun i h => by
    match i, h with
    | 0, _ => rfl
    | 1, _ => rfl) _ (fun p hp => by
    simp only [List.mem_cons, List.not_mem_nil, or_false] at hp
    rcases hp with rfl | rfl
    · simp [Value.cells, prefC_length r.a h.1]
    · simp [Value.cells, h.2.1])]
  simp [RouteM.cells, Value.cells]
theorem setL_mid3 (x y y' z : List Value) (off : Nat) (ho : off = x.length) (hy : y'.length = y.length) : setL (x ++ y ++ z) off y' = x ++ y' ++ z := by
  subst ho
  rw [setL, List.append_assoc x y z, List.take_left, hy, ← List.append_assoc, ← List.length_append, List.drop_left]
theorem take_setL (l y : List Value) (off m : Nat) (h : off + y.length ≤ m) (hm : m ≤ l.length) : (setL l off y).take m = setL (l.take m) off y := by
  have key : ∀ t d : List Value, off + y.length ≤ t.length → setL (t ++ d) off y = setL t off y ++ d := by
    intro t d ht
    have e1 : (t ++ d).take off = t.take off := List.take_append_of_le_length (by omega)
    have e2 : (t ++ d).drop (off + y.length) = t.drop (off + y.length) ++ d := List.drop_append_of_le_length ht
    rw [setL, setL, e1, e2, ← List.append_assoc]
  have h1 : (l.take m).length = m := by rw [List.length_take]; omega
  have e := key (l.take m) (l.drop m) (by omega)
  rw [List.take_append_drop] at e
  rw [e]
  exact List.take_left' (by
    rw [setL]
    simp only [List.length_append, List.length_take, List.length_drop]
    omega)
/-- a key is replaced -/
theorem set_peer {l : List RouteM} (hl : ∀ r ∈ l, r.ok) {j : Nat} {r : RouteM} (hr : l[j]? = some r) (k : List UInt8) (hk : k.length = 32) : setL (rtsV l).flatten (j * 50 + 18) (k.map u8v) = (rtsV (l.set j ⟨r.a, r.bits, k⟩)).flatten := by
  obtain ⟨hj, rfl⟩ := List.getElem?_eq_some_iff.1 hr
  have e : l = l.take j ++ l[j] :: l.drop (j + 1) := by rw [List.getElem_cons_drop, List.take_append_drop]
  have e2 : l.set j ⟨l[j].a, l[j].bits, k⟩ = l.take j ++ ⟨l[j].a, l[j].bits, k⟩ :: l.drop (j + 1) := by rw [List.set_eq_take_append_cons_drop, if_pos hj]
  have ho := hl l[j] (List.getElem_mem hj)
  have hf : (rtsV (l.take j)).flatten.length = j * 50 := by
    rw [flat_length (k := 50) (fun o ho => by
      obtain ⟨r, hr, rfl⟩ := List.mem_map.1 ho
      exact RouteM.cells_length (hl r (List.mem_of_mem_take hr))), rtsV, List.length_map, List.length_take, Nat.min_eq_left (by omega)]
  generalize l[j] = r at e e2 ho ⊢
  rw [e2]
  conv => lhs; rw [e]
  have e3 : (rtsV (l.take j ++ r :: l.drop (j + 1))).flatten = ((rtsV (l.take j)).flatten ++ prefC r.a r.bits) ++ r.peer.map u8v ++ (rtsV (l.drop (j + 1))).flatten := by simp [rtsV, RouteM.cells]
  have e4 : (rtsV (l.take j ++ ⟨r.a, r.bits, k⟩ :: l.drop (j + 1))).flatten = ((rtsV (l.take j)).flatten ++ prefC r.a r.bits) ++ k.map u8v ++ (rtsV (l.drop (j + 1))).flatten := by simp [rtsV, RouteM.cells]
  rw [e3, e4]
  exact setL_mid3 _ _ _ _ _ (by rw [List.length_append, hf, prefC_length r.a ho.1]) (by simp [hk, ho.2.1])
theorem set_peer_ok {l : List RouteM} (hl : ∀ r ∈ l, r.ok) {j : Nat} {r : RouteM} (hr : l[j]? = some r) (k : List UInt8) (hk : k.length = 32) : ∀ q ∈ l.set j ⟨r.a, r.bits, k⟩, q.ok := fun q hq => by
  rcases List.mem_or_eq_of_mem_set hq with h | rfl
  · exact hl q h
  · have := hl r (List.mem_of_getElem? hr)
    exact ⟨this.1, hk, this.2.2⟩
/-- the row behind a store of a key in one of its routes -/
theorem own_set {w w' : World} {base g n cap : Nat} {l : List RouteM} (hl : ∀ r ∈ l, r.ok) (hn : l.length = n) (cur : List Value) (hcs : cur.length = cap * 50) (hnc : n ≤ cap) (hcm : cap ≤ maxLen) (htk : cur.take (n * 50) = (rtsV l).flatten) (hb : base ≤ g) {j : Nat} {r : RouteM} (hrj : l[j]? = some r) (k : List UInt8) (hk : k.length = 32)
    (hB : Blk w' g 37 (setL cur (j * 50 + 18) (k.map u8v))) (_hg : w.grownBy w' (some g)) :
    w'.ownsRow base 37 50 (.slice (some ⟨g, 0, none⟩) n cap) n (rtsV (l.set j ⟨r.a, r.bits, k⟩)).flatten := by
  have hj : j < l.length := (List.getElem?_eq_some_iff.1 hrj).1
  have hle : j * 50 + 18 + (k.map u8v).length ≤ n * 50 := by
    rw [List.length_map, hk]
    omega
  have hnm : n * 50 ≤ cur.length := by rw [hcs]; exact Nat.mul_le_mul_right _ hnc
  refine ⟨?_, .inr ⟨g, cap, (setL cur (j * 50 + 18) (k.map u8v)).toArray, rfl, hb, hB, hnc, hcm, ?_, ?_⟩⟩
  · rw [flat_length (k := 50) (fun o ho => by
      obtain ⟨r, hr, rfl⟩ := List.mem_map.1 ho
      exact RouteM.cells_length (set_peer_ok hl hrj k hk r hr)), rtsV, List.length_map, List.length_set, hn]
  · rw [List.size_toArray, ← hcs, setL]
    simp only [List.length_append, List.length_take, List.length_drop]
    omega
  · show (setL cur (j * 50 + 18) (k.map u8v)).take (n * 50) = _
    rw [take_setL _ _ _ _ hle hnm, htk]
    exact set_peer hl hrj k hk
end Go.Proofs.Ytnblofbbbkjhpaa
namespace Go.Proofs.Ytnblofbbbkjhpaa
open Go.RowKit

theorem wpList_eql_agg {P : Program} {w : World} {ops : Array Oper} {rest : List Oper} {o : Oper} {a : Act} {Q : Exit → Act → World → Prop} (hw : Region.wanted o (yielded ops a.tmps) = true) (t r : TypeId) (i j : Tmp) (ho : o.op = .binOp .eql t (.tmp i) (.tmp j) r) (u v : Array Value) (b : Bool)
    (hx : a.eval (.tmp i) = .agg u) (hy : a.eval (.tmp j) = .agg v) (hg : P.eqGuardType P.depth t = false) (he : (Op.equalIn 10000 t (.agg u) (.agg v)).run P w = .ok b w)
    (h : wpList P ops Q rest (a.put o.dst (.bool b)) w) : wpList P ops Q (o :: rest) a w :=
  wpList_step fun K hK => by
    rw [if_pos hw]
    have he2 : (Op.equalIn Op.maxDepth t (.agg u) (.agg v)).run P w = .ok b w := he
    have hr : (execOp a.eval o).run P w = .ok (.value (.bool b)) w := by
      unfold execOp
      simp only [ho, hx, hy, eqGuard]
      simp [binOp, Op.equal, he2, hg, Result.andThen]
    unfold Oper.wp
    rw [hr]
    exact hK _ _ h
end Go.Proofs.Ytnblofbbbkjhpaa
namespace Go.Proofs.Ytnblofbbbkjhpaa
open Go.RowKit

theorem run_cmp_agg {P : Program} (ρ : Operand → Value) (o : Oper) (t r : TypeId) (i j : Tmp) (neg : Bool) (ho : o.op = .binOp (if neg then .neq else .eql) t (.tmp i) (.tmp j) r) (u v : Array Value) (b : Bool) (w : World) (hx : ρ (.tmp i) = .agg u) (hy : ρ (.tmp j) = .agg v) (hg : P.eqGuardType P.depth t = false) (he : (Op.equalIn 10000 t (.agg u) (.agg v)).run P w = .ok b w) :
    (execOp ρ o).run P w = .ok (.value (.bool (if neg then !b else b))) w := by
  have he2 : (Op.equalIn Op.maxDepth t (.agg u) (.agg v)).run P w = .ok b w := he
  unfold execOp
  cases neg
  · rw [if_neg (by decide)] at ho
    simp only [ho, hx, hy, eqGuard]
    simp [binOp, Op.equal, he2, hg, Result.andThen]
  · rw [if_pos rfl] at ho
    simp only [ho, hx, hy, eqGuard]
    simp [binOp, Op.equal, he2, hg, Result.andThen]
theorem wpList_neq_agg {P : Program} {w : World} {ops : Array Oper} {rest : List Oper} {o : Oper} {a : Act} {Q : Exit → Act → World → Prop} (hw : Region.wanted o (yielded ops a.tmps) = true) (t r : TypeId) (i j : Tmp) (ho : o.op = .binOp .neq t (.tmp i) (.tmp j) r) (u v : Array Value) (b : Bool)
    (hx : a.eval (.tmp i) = .agg u) (hy : a.eval (.tmp j) = .agg v) (hg : P.eqGuardType P.depth t = false) (he : (Op.equalIn 10000 t (.agg u) (.agg v)).run P w = .ok b w)
    (h : wpList P ops Q rest (a.put o.dst (.bool (!b))) w) : wpList P ops Q (o :: rest) a w :=
  wpList_step fun K hK => by
    rw [if_pos hw]
    have hr := run_cmp_agg a.eval o t r i j true ho u v b w hx hy hg he
    unfold Oper.wp
    rw [hr]
    exact hK _ _ h
theorem yields_cmp_agg {P : Program} {ops : Array Oper} {S : World → Prop} {o : Oper} {a : Act} (neg : Bool) (hw : Region.wanted o (yielded ops a.tmps) = true) (t r : TypeId) (i j : Tmp) (ho : o.op = .binOp (if neg then .neq else .eql) t (.tmp i) (.tmp j) r) (u v : Array Value) (b : Bool)
    (hx : a.eval (.tmp i) = .agg u) (hy : a.eval (.tmp j) = .agg v) (hg : P.eqGuardType P.depth t = false) (he : ∀ w, (Op.equalIn 10000 t (.agg u) (.agg v)).run P w = .ok b w) : YieldsIf P ops S o (.bool (if neg then !b else b)) a :=
  .inl ⟨hw, fun w _ => run_cmp_agg a.eval o t r i j neg ho u v b w hx hy hg (he w)⟩
end Go.Proofs.Ytnblofbbbkjhpaa
namespace Go.Proofs.Ytnblofbbbkjhpaa
open Go.RowKit

theorem containsM_iff (a x : AddrM) (bits : Int) (hv : validM a bits = true) (hs : soundM x = true) (h6 : (x.six == a.six) = true) : containsM a bits x = true ↔ ∀ i : Nat, (i : Int) < bits → i < 128 → bitM x.ip i = bitM a.ip i := by
  rw [containsM, hv, hs, h6, Bool.true_and, Bool.true_and, Bool.true_and, List.all_eq_true]
  constructor
  · intro h i hi hlt
    have := h i (List.mem_range.2 hlt)
    rw [Bool.or_eq_true, decide_eq_true_iff, beq_iff_eq] at this
    rcases this with h2 | h2
    · omega
    · exact h2
  · intro h i hi
    rw [Bool.or_eq_true, decide_eq_true_iff, beq_iff_eq]
    by_cases h2 : bits ≤ (i : Int)
    · exact .inl h2
    · exact .inr (h i (by omega) (List.mem_range.1 hi))
end Go.Proofs.Ytnblofbbbkjhpaa
namespace Go.Proofs.Ytnblofbbbkjhpaa
open Go.RowKit

theorem AddrM.rd {w : World} {g : Nat} {t : TypeId} {a : AddrM} (h : Blk w g t a.cells) (ho : a.ok) : Rd w (g + 1) (some ⟨g, 1, none⟩) 16 a.ip :=
  ⟨ho, fun _ => ⟨g, 1, rfl, Nat.lt_succ_self _, fun j hj => by
    rw [h.cell (1 + j), AddrM.ip_cell a ho j (by rw [ho] at hj; exact hj), List.getD_eq_getElem?_getD, List.getElem?_eq_getElem hj]
    rfl⟩⟩
set_option maxRecDepth 100000 in
set_option maxHeartbeats 2000000 in
theorem refLess_any (a b : AddrM) (ha : a.ok) (hb : b.ok) (w : World) :
    Calls Try.prog 54 #[.agg a.cells.toArray, .agg b.cells.toArray] w fun e w' => e = .returned (.bool (lessM a b)) ∧ Below w.heap.size w w' := by
  obtain ⟨ca, hca⟩ : ∃ x, a.cells.toArray = x := ⟨_, rfl⟩
  obtain ⟨cb, hcb⟩ : ∃ x, b.cells.toArray = x := ⟨_, rfl⟩
  rw [hca, hcb]
  have HM := Lib.hid (show Mem w [blkE (w.heap.size + 1) 26 b.cells, blkE w.heap.size 26 a.cells] ((w.alloc (.cells ca 26)).alloc (.cells cb 26)) from ((Mem.nil w).alloc rfl 26 ca a.cells hca.symm).alloc (by simp) 26 cb b.cells hcb.symm)
  have HOA := Lib.hid ha
  have HOB := Lib.hid hb
  clear hca hcb ha hb
  go_enter Try.func54, Try.ntmps54
  go_upto_region 1 with fail
  generalize ((w.alloc (.cells ca 26)).alloc (.cells cb 26)) = w1 at HM ⊢
  have f1 := ((HM.out.blk 1 rfl).cell 0).trans (AddrM.six_cell a)
  have f2 := ((HM.out.blk 0 rfl).cell 0).trans (AddrM.six_cell b)
  by_cases h6 : a.six = b.six
  · have HE := Lib.hid (show lessM a b = Op.bytesLess a.ip b.ip by rw [lessM, if_pos h6])
    rw [h6] at f1
    have hne : (b.six != b.six) = false := by simp
    clear h6
    generalize b.six = sx at f1 f2 hne
    go_upto_region 3 with fail
    clear f1 f2 hne
    generalize w.heap.size = GA at HM ⊢
    refine wp_region_held_drew (S := fun W' => Mem w [blkE (GA + 1) 26 b.cells, blkE GA 26 a.cells] W') (by kernel_rfl) ((HM.out).drew) (fun hHeld => ?_)
    replace HM := Lib.hid HM.out.drew
    generalize w1.drew = wd1 at HM hHeld ⊢
    refine take_first (v := ?_) 0 rfl (by kernel_rfl) (by kernel_rfl) (by kernel_rfl) (fun _ _ _ h => h) (Or.inl ⟨by rfl, ?_⟩) (by assumption) ?_
    rotate_left
    · (intro w hSw; (try dsimp only at hSw); go_simp; try with_reducible rfl)
    (try simp only [Act.put, List.setIfInBounds_toArray, List.set_cons_zero, List.set_cons_succ])
    refine take_first (v := ?_) 1 rfl (by kernel_rfl) (by kernel_rfl) (by kernel_rfl) (fun _ _ _ h => h) (Or.inl ⟨by rfl, ?_⟩) (by assumption) ?_
    rotate_left
    · (intro w hSw; (try dsimp only at hSw); go_simp; try with_reducible rfl)
    (try simp only [Act.put, List.setIfInBounds_toArray, List.set_cons_zero, List.set_cons_succ])
    refine take_first (v := ?_) 2 rfl (by kernel_rfl) (by kernel_rfl) (by kernel_rfl) (fun _ _ _ h => h) (Or.inl ⟨by rfl, ?_⟩) (by assumption) ?_
    rotate_left
    · (intro w hSw; (try dsimp only at hSw); have cv : (convert 22 9 (.slice (some ⟨GA, 1, none⟩) 16 16)).run Try.prog w = .ok (.string ⟨a.ip.toArray⟩) w := run_string_of_rd (P := Try.prog) 22 9 5 16 Try.underlying22 Try.underlying5 Try.underlying9 (AddrM.rd (Mem.blk hSw 1 rfl) HOA.out); go_simp; try with_reducible rfl)
    (try simp only [Act.put, List.setIfInBounds_toArray, List.set_cons_zero, List.set_cons_succ])
    refine take_first (v := ?_) 3 rfl (by kernel_rfl) (by kernel_rfl) (by kernel_rfl) (fun _ _ _ h => h) (Or.inl ⟨by rfl, ?_⟩) (by assumption) ?_
    rotate_left
    · (intro w hSw; (try dsimp only at hSw); go_simp; try with_reducible rfl)
    (try simp only [Act.put, List.setIfInBounds_toArray, List.set_cons_zero, List.set_cons_succ])
    refine take_first (v := ?_) 4 rfl (by kernel_rfl) (by kernel_rfl) (by kernel_rfl) (fun _ _ _ h => h) (Or.inl ⟨by rfl, ?_⟩) (by assumption) ?_
    rotate_left
    · (intro w hSw; (try dsimp only at hSw); go_simp; try with_reducible rfl)
    (try simp only [Act.put, List.setIfInBounds_toArray, List.set_cons_zero, List.set_cons_succ])
    refine take_first (v := ?_) 5 rfl (by kernel_rfl) (by kernel_rfl) (by kernel_rfl) (fun _ _ _ h => h) (Or.inl ⟨by rfl, ?_⟩) (by assumption) ?_
    rotate_left
    · (intro w hSw; (try dsimp only at hSw); have cv : (convert 22 9 (.slice (some ⟨(GA + 1), 1, none⟩) 16 16)).run Try.prog w = .ok (.string ⟨b.ip.toArray⟩) w := run_string_of_rd (P := Try.prog) 22 9 5 16 Try.underlying22 Try.underlying5 Try.underlying9 (AddrM.rd (Mem.blk hSw 0 rfl) HOB.out); go_simp; try with_reducible rfl)
    (try simp only [Act.put, List.setIfInBounds_toArray, List.set_cons_zero, List.set_cons_succ])
    refine take_first (v := ?_) 6 rfl (by kernel_rfl) (by kernel_rfl) (by kernel_rfl) (fun _ _ _ h => h) (Or.inl ⟨by rfl, ?_⟩) (by assumption) ?_
    rotate_left
    · (intro w hSw; (try dsimp only at hSw); go_simp; try with_reducible rfl)
    (try simp only [Act.put, List.setIfInBounds_toArray, List.set_cons_zero, List.set_cons_succ])
    refine take_first (v := ?_) 7 rfl (by kernel_rfl) (by kernel_rfl) (by kernel_rfl) (fun _ _ _ h => h) (Or.inl ⟨by rfl, ?_⟩) (by assumption) ?_
    rotate_left
    · (intro w hSw; (try dsimp only at hSw); go_simp; try with_reducible rfl)
    (try simp only [Act.put, List.setIfInBounds_toArray, List.set_cons_zero, List.set_cons_succ])
    refine wpAnyH_done (by kernel_rfl) ?_ _
    have HB := Lib.hid HM.out.bel
    clear HM hHeld
    go_wp2
    go_ret
    exact ⟨by have h := HE.out; simp at h ⊢; exact h.symm, HB.out⟩
  · have HR := Lib.hid (show lessM a b = !a.six by rw [lessM, if_neg h6])
    generalize a.six = s1 at f1 h6 HR
    generalize b.six = s2 at f2 h6
    have hc : (s1 = true ∧ s2 = false) ∨ (s1 = false ∧ s2 = true) := by revert h6; cases s1 <;> cases s2 <;> simp
    clear h6
    rcases hc with ⟨rfl, rfl⟩ | ⟨rfl, rfl⟩
    · go_wp2
      go_ret
      exact ⟨by rw [HR.out]; rfl, HM.out.bel⟩
    · go_wp2
      go_ret
      exact ⟨by rw [HR.out]; rfl, HM.out.bel⟩
end Go.Proofs.Ytnblofbbbkjhpaa
namespace Go.Proofs.Ytnblofbbbkjhpaa
open Go.RowKit

theorem prefA_at {w : World} {g off : Nat} {a : AddrM} {bits : Int} (h : At w g off (prefC a bits)) : At w g off a.cells := fun j v hj => h j v (by
  rw [prefC, List.getElem?_append_left (List.getElem?_eq_some_iff.1 hj).1]
  exact hj)
theorem pref_bits_at {w : World} {g off : Nat} {a : AddrM} {bits : Int} (h : At w g off (prefC a bits)) (ho : a.ok) : w.cell? ⟨g, off + 17, none⟩ = some (.int .i64 bits) := h 17 _ (prefC_bits a ho bits)
set_option maxRecDepth 100000 in
set_option maxHeartbeats 4000000 in
theorem refBefore_any (a b : AddrM) (i j : Int) (ha : a.ok) (hb : b.ok) (w : World) :
    Calls Try.prog 39 #[.agg (prefC a i).toArray, .agg (prefC b j).toArray] w fun e w' => e = .returned (.bool (befM a i b j)) ∧ Below w.heap.size w w' := by
  have HL := Lib.hid (refLess_any a b ha hb)
  have HE := Lib.hid (addr_eqd a b ha hb)
  have HV := Lib.hid (show befM a i b j = if a = b then decide (i < j) else lessM a b from rfl)
  obtain ⟨ca, hca⟩ : ∃ z, a.cells.toArray = z := ⟨_, rfl⟩
  obtain ⟨cb, hcb⟩ : ∃ z, b.cells.toArray = z := ⟨_, rfl⟩
  obtain ⟨pa, hpa⟩ : ∃ z, (prefC a i).toArray = z := ⟨_, rfl⟩
  obtain ⟨pb, hpb⟩ : ∃ z, (prefC b j).toArray = z := ⟨_, rfl⟩
  rw [hca, hcb] at HL HE
  rw [hpa, hpb]
  have HUA := Lib.hid (addr_cellsOf a ha)
  have HUB := Lib.hid (addr_cellsOf b hb)
  have hm := ((Mem.nil w).alloc rfl 28 pa (prefC a i) hpa.symm).alloc (g := w.heap.size + 1) (by simp) 28 pb (prefC b j) hpb.symm
  have HM := Lib.hid hm
  have HCA := Lib.hid hca
  have HCB := Lib.hid hcb
  have HOA := Lib.hid ha
  have HOB := Lib.hid hb
  clear hca hcb hpa hpb hm ha hb
  go_enter Try.func39, Try.ntmps39
  go_upto_region 1 with fail
  generalize (w.alloc (.cells pa 28)).alloc (.cells pb 28) = w1 at HM ⊢
  by_cases hab : a = b
  · replace HV := Lib.hid (HV.out.trans (if_pos hab))
    rw [decide_eq_true hab] at HE
    have fi := pref_bits_at (HM.out.blk 1 rfl).all HOA.out
    have fj := pref_bits_at (HM.out.blk 0 rfl).all HOB.out
    clear hab
    go_wp2_with (first | (refine wpList_load_obj rfl 26 (.tmp 5) rfl w.heap.size 0 rfl a.cells (prefA_at (HM.out.blk 1 rfl).all) _ Try.underlying26 rfl HUA.out ?_; rw [HCA.out]) | (refine wpList_load_obj rfl 26 (.tmp 7) rfl (w.heap.size + 1) 0 rfl b.cells (prefA_at (HM.out.blk 0 rfl).all) _ Try.underlying26 rfl HUB.out ?_; rw [HCB.out]) | (refine wpList_neq_agg (by rfl) 26 26 6 8 rfl ca cb true rfl rfl addr_noguard (HE.out _) ?_))
    go_ret
    exact ⟨by rw [HV.out]; rfl, HM.out.bel⟩
  · replace HV := Lib.hid (HV.out.trans (if_neg hab))
    rw [decide_eq_false hab] at HE
    clear hab
    go_wp2_with (first | (refine wpList_load_obj rfl 26 (.tmp 5) rfl w.heap.size 0 rfl a.cells (prefA_at (HM.out.blk 1 rfl).all) _ Try.underlying26 rfl HUA.out ?_; rw [HCA.out]) | (refine wpList_load_obj rfl 26 (.tmp 7) rfl (w.heap.size + 1) 0 rfl b.cells (prefA_at (HM.out.blk 0 rfl).all) _ Try.underlying26 rfl HUB.out ?_; rw [HCB.out]) | (refine wpList_neq_agg (by rfl) 26 26 6 8 rfl ca cb false rfl rfl addr_noguard (HE.out _) ?_) | (refine wpList_load_obj rfl 26 (.tmp 10) rfl w.heap.size 0 rfl a.cells (prefA_at (HM.out.blk 1 rfl).all) _ Try.underlying26 rfl HUA.out ?_; rw [HCA.out]) | (refine wpList_load_obj rfl 26 (.tmp 12) rfl (w.heap.size + 1) 0 rfl b.cells (prefA_at (HM.out.blk 0 rfl).all) _ Try.underlying26 rfl HUB.out ?_; rw [HCB.out]))
    refine (HL.out _).mono ?_
    rintro e w2 ⟨rfl, hb⟩
    replace HM := Lib.hid (HM.out.below hb)
    clear hb
    go_wp2
    go_ret
    exact ⟨by rw [HV.out]; rfl, HM.out.bel⟩
end Go.Proofs.Ytnblofbbbkjhpaa
namespace Go.Proofs.Ytnblofbbbkjhpaa
open Go.RowKit

structure Low where
  P : World → Prop
  keep : ∀ W W' : World, Below W.heap.size W W' → P W → P W'
/-- bytes that a slice reads as -/
def rdL (A : Option Addr) (n : Nat) (l : List UInt8) : Low := ⟨fun W => Rd W W.heap.size A n l, fun _ _ hb h => (h.below hb).mono hb.size⟩
/-- a block -/
def blkL (g : Nat) (t : TypeId) (cs : List Value) : Low := ⟨fun W => Blk W g t cs, fun _ _ hb h => h.below hb h.lt⟩
/-- a row of bytes that was made above base -/
def ownL (base : Nat) (v : Value) (n : Nat) (xs : List Value) : Low := ⟨fun W => W.ownsRow base 5 1 v n xs, fun _ _ hb h => ⟨h.1, by
  rcases h.2 with h1 | ⟨g, cap, cur, hv, hbg, hg, hr⟩
  · exact .inl h1
  · exact .inr ⟨g, cap, cur, hv, hbg, (hb.block g (h.lt g (by rw [hv]; rfl)).2).trans hg, hr⟩⟩⟩
def Lows (w0 : World) (E : List Low) (W : World) : Prop := (∀ f ∈ E, f.P W) ∧ Below w0.heap.size w0 W
section
variable {w0 W W' : World} {E : List Low}
theorem Lows.nil (w0 : World) : Lows w0 [] w0 := ⟨fun f hf => absurd hf (by simp), Below.refl _ _⟩
theorem Lows.bel (h : Lows w0 E W) : Below w0.heap.size w0 W := h.2
theorem Lows.size (h : Lows w0 E W) : w0.heap.size ≤ W.heap.size := h.2.size
theorem Lows.below (h : Lows w0 E W) (hb : Below W.heap.size W W') : Lows w0 E W' := ⟨fun f hf => f.keep _ _ hb (h.1 f hf), h.2.trans (hb.mono h.2.size)⟩
theorem Lows.drew (h : Lows w0 E W) : Lows w0 E W.drew := h.below ((Below.refl _ _).drew)
theorem Lows.cons (h : Lows w0 E W) (f : Low) (hf : f.P W) : Lows w0 (f :: E) W :=
  ⟨fun g hg => by
    rcases List.mem_cons.1 hg with rfl | hg
    · exact hf
    · exact h.1 g hg, h.2⟩
theorem Lows.get (h : Lows w0 E W) (i : Nat) {f : Low} (he : E[i]? = some f) : f.P W := h.1 _ (List.mem_of_getElem? he)
theorem Lows.rd (h : Lows w0 E W) (i : Nat) {A : Option Addr} {n : Nat} {l : List UInt8} (he : E[i]? = some (rdL A n l)) : Rd W W.heap.size A n l := h.get i he
theorem Lows.blk (h : Lows w0 E W) (i : Nat) {g : Nat} {t : TypeId} {cs : List Value} (he : E[i]? = some (blkL g t cs)) : Blk W g t cs := h.get i he
theorem Lows.own (h : Lows w0 E W) (i : Nat) {base : Nat} {v : Value} {n : Nat} {xs : List Value} (he : E[i]? = some (ownL base v n xs)) : W.ownsRow base 5 1 v n xs := h.get i he
theorem Lows.tail (h : Lows w0 E W) (i : Nat) : Lows w0 (E.eraseIdx i) W := ⟨fun f hf => h.1 f (List.mem_of_mem_eraseIdx hf), h.2⟩
/-- a new block -/
theorem Lows.alloc (h : Lows w0 E W) (t : TypeId) (arr : Array Value) (cs : List Value) (ha : arr = cs.toArray) : Lows w0 (blkL W.heap.size t cs :: E) (W.alloc (.cells arr t)) := by
  subst ha
  exact (h.below ((Below.refl _ _).alloc (Nat.le_refl _) _)).cons (blkL _ _ _) (Blk.new W t cs)
/-- a block above is written -/
theorem Lows.grown (h : Lows w0 E W) {W2 : World} (hb : Below W.heap.size W W') {row : Option Nat} (hg : W'.grownBy W2 row) (hr : ∀ k, row = some k → W.heap.size ≤ k) : Lows w0 E W2 := h.below (hb.grown hg hb.size hr)
/-- a new block that is written at once -/
theorem Lows.stored (h : Lows w0 E W) {t : TypeId} {arr : Array Value} {cs : List Value} {W2 : World} (hg : (W.alloc (.cells arr t)).grownBy W2 (some W.heap.size)) (hb : Blk W2 W.heap.size t cs) : Lows w0 (blkL W.heap.size t cs :: E) W2 :=
  (h.grown ((Below.refl _ _).alloc (Nat.le_refl _) _) hg (by intro k hk; injection hk with hk; omega)).cons (blkL _ _ _) hb
end
end Go.Proofs.Ytnblofbbbkjhpaa
