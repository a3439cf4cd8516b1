/-
  Pieces of a list of routes. What InsertRoute lays: a route of its parts, a key that is replaced in a list. Equality of two structs under a guard, as an operation. Two objects are compared by == or !=, in a list of operations and in a drawn region. No function of the program is named here. When an address lies in a prefix. The contracts of the reference's Sound, bit, width, Valid, Contains and Less. The contract of the reference's before. What a walk keeps of what lies under the world's size, whoever made it: a list of facts that whatever is made above leaves alone. No statement is proved here.
-/
import Derived.Laws.ShiftsVarLaws
import Derived.Deep.DeepCutAuto
import Derived.Test.YtnblofbbbkjhpaaRoutesLookupB2
namespace Go.Proofs.Ytnblofbbbkjhpaa
open Go.RowKit

theorem routes_under : Try.prog.underlying 23 = some (.slice (Try.prog.elem 23)) := by kernel_rfl
theorem routes_size (w : World) : (sizeOf (Try.prog.elem 23)).run Try.prog w = .ok 50 w := by
  obtain ⟨i0, hi, _, hs, _⟩ := routeInfo
  have e : Try.prog.elem 23 = 37 := by kernel_rfl
  rw [e]
  simp [sizeOf, typeInfo, hi, hs]
set_option maxRecDepth 100000 in
theorem routes_hm (A : Option Addr) (n c j : Nat) (h3 : j ≤ c) (w : World) : (Instr.sliceAt 23 (.slice A n c) none (some (.int .i64 (j : Int))) (some (.int .i64 (j : Int)))).run Try.prog w = .ok (.slice (addrK A 0 j 50) j j) w := by
  rw [run_sliceAt_slice (P := Try.prog) (w := w) 23 _ _ _ _ routes_under, run_slice_hm (P := Try.prog) (w := w) 23 A n c routes_under .i64 .i64 j j (by omega) (by omega) (by omega), routes_size]
  simp only [Result.andThen, sliced, Int.toNat_natCast, Nat.sub_zero]
  rfl
set_option maxRecDepth 100000 in
theorem routes_l (A : Option Addr) (n c i : Nat) (h2 : i ≤ n) (w : World) : (Instr.sliceAt 23 (.slice A n c) (some (.int .i64 (i : Int))) none none).run Try.prog w = .ok (.slice (addrK A i c 50) (n - i) (c - i)) w := by
  rw [run_sliceAt_slice (P := Try.prog) (w := w) 23 _ _ _ _ routes_under, run_slice_l (P := Try.prog) (w := w) 23 A n c routes_under .i64 i (by omega) (by omega), routes_size]
  simp only [Result.andThen, sliced, Int.toNat_natCast]
  rfl
theorem addrK_zero {W : World} {B k n : Nat} {A : Option Addr} {os : List (List Value)} (h : RdRow W B A k n os) (j : Nat) (hj : j ≤ n) : RdRow W B (addrK A 0 j k) k j (os.take j) := by
  rcases Nat.eq_zero_or_pos j with h0 | h0
  · subst h0
    rw [List.take_zero]
    exact RdRow.nil
  · obtain ⟨b, off, rfl⟩ := h.addr (by omega)
    unfold addrK
    rw [if_neg (by omega), Option.map_some, Go.WideShapes.add_plain, Nat.zero_mul, Nat.add_zero]
    exact h.take j hj
theorem rtsV_take (l : List RouteM) (j : Nat) : (rtsV l).take j = rtsV (l.take j) := by rw [rtsV, rtsV, List.map_take]
theorem rtsV_drop (l : List RouteM) (j : Nat) : (rtsV l).drop j = rtsV (l.drop j) := by rw [rtsV, rtsV, List.map_drop]
theorem rtsV_one (l : List RouteM) : ∀ u ∈ (rtsV l).flatten, u.oneCell' = true := by
  intro u hu
  obtain ⟨o, ho, h⟩ := List.mem_flatten.1 hu
  obtain ⟨r, _, rfl⟩ := List.mem_map.1 ho
  exact route_one r u h
theorem rtsV_append (l m : List RouteM) : (rtsV l).flatten ++ (rtsV m).flatten = (rtsV (l ++ m)).flatten := by simp [rtsV]
/-- the place of a prefix -/
theorem aheadM_step (a : AddrM) (b : Int) : ∀ (l : List RouteM) (i : Nat), i ≤ aheadM a b l → ∀ r, l[i]? = some r → (befM a b r.a r.bits = false → i + 1 ≤ aheadM a b l) ∧ (befM a b r.a r.bits = true → aheadM a b l = i)
  | [], i, _, r, hr => by simp at hr
  | s :: l, 0, _, r, hr => by
    simp only [List.getElem?_cons_zero, Option.some.injEq] at hr
    subst hr
    unfold aheadM
    constructor
    · intro h
      rw [List.takeWhile_cons, h]
      simp
    · intro h
      rw [List.takeWhile_cons, h]
      simp
  | s :: l, i + 1, hi, r, hr => by
    have hb : befM a b s.a s.bits = false := by
      cases h : befM a b s.a s.bits with
      | false => rfl
      | true =>
        rw [aheadM, List.takeWhile_cons, h] at hi
        simp at hi
    have e : aheadM a b (s :: l) = aheadM a b l + 1 := by
      rw [aheadM, List.takeWhile_cons, hb]
      simp [aheadM]
    have := aheadM_step a b l i (by omega) r (by simpa using hr)
    exact ⟨fun h => by have := this.1 h; omega, fun h => by have := this.2 h; omega⟩
theorem aheadM_le (a : AddrM) (b : Int) (l : List RouteM) : aheadM a b l ≤ l.length := (List.takeWhile_sublist _).length_le
theorem findM_none {a : AddrM} {b : Int} {l : List RouteM} (h : ∀ (i : Nat) (r : RouteM), l[i]? = some r → RouteM.is a b r = false) : findM a b l = none := by
  rw [findM, List.findIdx?_eq_none_iff]
  intro x hx
  obtain ⟨i, hi, rfl⟩ := List.getElem_of_mem hx
  exact h i _ (List.getElem?_eq_getElem hi)
theorem findM_some {a : AddrM} {b : Int} {l : List RouteM} {i : Nat} {r : RouteM} (hr : l[i]? = some r) (h1 : RouteM.is a b r = true) (h : ∀ (j : Nat) (r : RouteM), j < i → l[j]? = some r → RouteM.is a b r = false) : findM a b l = some i := by
  obtain ⟨hi, rfl⟩ := List.getElem?_eq_some_iff.1 hr
  rw [findM, List.findIdx?_eq_some_iff_getElem]
  exact ⟨hi, h1, fun j hj => by simpa using h j _ hj (List.getElem?_eq_getElem (by omega))⟩
end Go.Proofs.Ytnblofbbbkjhpaa
namespace Go.Proofs.Ytnblofbbbkjhpaa
open Go.RowKit

theorem route_built (r : RouteM) (h : r.ok) : Try.prog.built 37 [(0, .agg (prefC r.a r.bits).toArray), (1, .agg (r.peer.map u8v).toArray)] = some r.cells.toArray := by
  rw [built_of 37 [18, 32] [prefC addr0 0, aeZ 32] (by kernel_rfl) #[(0, 18), (18, 32)] (fun parts => by kernel_rfl) (fun i h => by
    match i, h with
    | 0, _ => rfl
    | 1, _ => rfl) _ (fun p hp => by
    simp only [List.mem_cons, List.not_mem_nil, or_false] at hp
    rcases hp with rfl | rfl
    · simp [Value.cells, prefC_length r.a h.1]
    · simp [Value.cells, h.2.1])]
  simp [RouteM.cells, Value.cells]
theorem setL_mid3 (x y y' z : List Value) (off : Nat) (ho : off = x.length) (hy : y'.length = y.length) : setL (x ++ y ++ z) off y' = x ++ y' ++ z := by
  subst ho
  rw [setL, List.append_assoc x y z, List.take_left, hy, ← List.append_assoc, ← List.length_append, List.drop_left]
theorem take_setL (l y : List Value) (off m : Nat) (h : off + y.length ≤ m) (hm : m ≤ l.length) : (setL l off y).take m = setL (l.take m) off y := by
  have key : ∀ t d : List Value, off + y.length ≤ t.length → setL (t ++ d) off y = setL t off y ++ d := by
    intro t d ht
    have e1 : (t ++ d).take off = t.take off := List.take_append_of_le_length (by omega)
    have e2 : (t ++ d).drop (off + y.length) = t.drop (off + y.length) ++ d := List.drop_append_of_le_length ht
    rw [setL, setL, e1, e2, ← List.append_assoc]
  have h1 : (l.take m).length = m := by rw [List.length_take]; omega
  have e := key (l.take m) (l.drop m) (by omega)
  rw [List.take_append_drop] at e
  rw [e]
  exact List.take_left' (by
    rw [setL]
    simp only [List.length_append, List.length_take, List.length_drop]
    omega)
/-- a key is replaced -/
theorem set_peer {l : List RouteM} (hl : ∀ r ∈ l, r.ok) {j : Nat} {r : RouteM} (hr : l[j]? = some r) (k : List UInt8) (hk : k.length = 32) : setL (rtsV l).flatten (j * 50 + 18) (k.map u8v) = (rtsV (l.set j ⟨r.a, r.bits, k⟩)).flatten := by
  obtain ⟨hj, rfl⟩ := List.getElem?_eq_some_iff.1 hr
  have e : l = l.take j ++ l[j] :: l.drop (j + 1) := by rw [List.getElem_cons_drop, List.take_append_drop]
  have e2 : l.set j ⟨l[j].a, l[j].bits, k⟩ = l.take j ++ ⟨l[j].a, l[j].bits, k⟩ :: l.drop (j + 1) := by rw [List.set_eq_take_append_cons_drop, if_pos hj]
  have ho := hl l[j] (List.getElem_mem hj)
  have hf : (rtsV (l.take j)).flatten.length = j * 50 := by
    rw [flat_length (k := 50) (fun o ho => by
      obtain ⟨r, hr, rfl⟩ := List.mem_map.1 ho
      exact RouteM.cells_length (hl r (List.mem_of_mem_take hr))), rtsV, List.length_map, List.length_take, Nat.min_eq_left (by omega)]
  generalize l[j] = r at e e2 ho ⊢
  rw [e2]
  conv => lhs; rw [e]
  have e3 : (rtsV (l.take j ++ r :: l.drop (j + 1))).flatten = ((rtsV (l.take j)).flatten ++ prefC r.a r.bits) ++ r.peer.map u8v ++ (rtsV (l.drop (j + 1))).flatten := by simp [rtsV, RouteM.cells]
  have e4 : (rtsV (l.take j ++ ⟨r.a, r.bits, k⟩ :: l.drop (j + 1))).flatten = ((rtsV (l.take j)).flatten ++ prefC r.a r.bits) ++ k.map u8v ++ (rtsV (l.drop (j + 1))).flatten := by simp [rtsV, RouteM.cells]
  rw [e3, e4]
  exact setL_mid3 _ _ _ _ _ (by rw [List.length_append, hf, prefC_length r.a ho.1]) (by simp [hk, ho.2.1])
theorem set_peer_ok {l : List RouteM} (hl : ∀ r ∈ l, r.ok) {j : Nat} {r : RouteM} (hr : l[j]? = some r) (k : List UInt8) (hk : k.length = 32) : ∀ q ∈ l.set j ⟨r.a, r.bits, k⟩, q.ok := fun q hq => by
  rcases List.mem_or_eq_of_mem_set hq with h | rfl
  · exact hl q h
  · have := hl r (List.mem_of_getElem? hr)
    exact ⟨this.1, hk, this.2.2⟩
/-- the row behind a store of a key in one of its routes -/
theorem own_set {w w' : World} {base g n cap : Nat} {l : List RouteM} (hl : ∀ r ∈ l, r.ok) (hn : l.length = n) (cur : List Value) (hcs : cur.length = cap * 50) (hnc : n ≤ cap) (hcm : cap ≤ maxLen) (htk : cur.take (n * 50) = (rtsV l).flatten) (hb : base ≤ g) {j : Nat} {r : RouteM} (hrj : l[j]? = some r) (k : List UInt8) (hk : k.length = 32)
    (hB : Blk w' g 37 (setL cur (j * 50 + 18) (k.map u8v))) (_hg : w.grownBy w' (some g)) :
    w'.ownsRow base 37 50 (.slice (some ⟨g, 0, none⟩) n cap) n (rtsV (l.set j ⟨r.a, r.bits, k⟩)).flatten := by
  have hj : j < l.length := (List.getElem?_eq_some_iff.1 hrj).1
  have hle : j * 50 + 18 + (k.map u8v).length ≤ n * 50 := by
    rw [List.length_map, hk]
    omega
  have hnm : n * 50 ≤ cur.length := by rw [hcs]; exact Nat.mul_le_mul_right _ hnc
  refine ⟨?_, .inr ⟨g, cap, (setL cur (j * 50 + 18) (k.map u8v)).toArray, rfl, hb, hB, hnc, hcm, ?_, ?_⟩⟩
  · rw [flat_length (k := 50) (fun o ho => by
      obtain ⟨r, hr, rfl⟩ := List.mem_map.1 ho
      exact RouteM.cells_length (set_peer_ok hl hrj k hk r hr)), rtsV, List.length_map, List.length_set, hn]
  · rw [List.size_toArray, ← hcs, setL]
    simp only [List.length_append, List.length_take, List.length_drop]
    omega
  · show (setL cur (j * 50 + 18) (k.map u8v)).take (n * 50) = _
    rw [take_setL _ _ _ _ hle hnm, htk]
    exact set_peer hl hrj k hk
end Go.Proofs.Ytnblofbbbkjhpaa
namespace Go.Proofs.Ytnblofbbbkjhpaa
open Go.RowKit

theorem wpList_eql_agg {P : Program} {w : World} {ops : Array Oper} {rest : List Oper} {o : Oper} {a : Act} {Q : Exit → Act → World → Prop} (hw : Region.wanted o (yielded ops a.tmps) = true) (t r : TypeId) (i j : Tmp) (ho : o.op = .binOp .eql t (.tmp i) (.tmp j) r) (u v : Array Value) (b : Bool)
    (hx : a.eval (.tmp i) = .agg u) (hy : a.eval (.tmp j) = .agg v) (hg : P.eqGuardType P.depth t = false) (he : (Op.equalIn 10000 t (.agg u) (.agg v)).run P w = .ok b w)
    (h : wpList P ops Q rest (a.put o.dst (.bool b)) w) : wpList P ops Q (o :: rest) a w :=
  wpList_step fun K hK => by
    rw [if_pos hw]
    have he2 : (Op.equalIn Op.maxDepth t (.agg u) (.agg v)).run P w = .ok b w := he
    have hr : (execOp a.eval o).run P w = .ok (.value (.bool b)) w := by
      unfold execOp
      simp only [ho, hx, hy, eqGuard]
      simp [binOp, Op.equal, he2, hg, Result.andThen]
    unfold Oper.wp
    rw [hr]
    exact hK _ _ h
end Go.Proofs.Ytnblofbbbkjhpaa
namespace Go.Proofs.Ytnblofbbbkjhpaa
open Go.RowKit

theorem run_cmp_agg {P : Program} (ρ : Operand → Value) (o : Oper) (t r : TypeId) (i j : Tmp) (neg : Bool) (ho : o.op = .binOp (if neg then .neq else .eql) t (.tmp i) (.tmp j) r) (u v : Array Value) (b : Bool) (w : World) (hx : ρ (.tmp i) = .agg u) (hy : ρ (.tmp j) = .agg v) (hg : P.eqGuardType P.depth t = false) (he : (Op.equalIn 10000 t (.agg u) (.agg v)).run P w = .ok b w) :
    (execOp ρ o).run P w = .ok (.value (.bool (if neg then !b else b))) w := by
  have he2 : (Op.equalIn Op.maxDepth t (.agg u) (.agg v)).run P w = .ok b w := he
  unfold execOp
  cases neg
  · rw [if_neg (by decide)] at ho
    simp only [ho, hx, hy, eqGuard]
    simp [binOp, Op.equal, he2, hg, Result.andThen]
  · rw [if_pos rfl] at ho
    simp only [ho, hx, hy, eqGuard]
    simp [binOp, Op.equal, he2, hg, Result.andThen]
theorem wpList_neq_agg {P : Program} {w : World} {ops : Array Oper} {rest : List Oper} {o : Oper} {a : Act} {Q : Exit → Act → World → Prop} (hw : Region.wanted o (yielded ops a.tmps) = true) (t r : TypeId) (i j : Tmp) (ho : o.op = .binOp .neq t (.tmp i) (.tmp j) r) (u v : Array Value) (b : Bool)
    (hx : a.eval (.tmp i) = .agg u) (hy : a.eval (.tmp j) = .agg v) (hg : P.eqGuardType P.depth t = false) (he : (Op.equalIn 10000 t (.agg u) (.agg v)).run P w = .ok b w)
    (h : wpList P ops Q rest (a.put o.dst (.bool (!b))) w) : wpList P ops Q (o :: rest) a w :=
  wpList_step fun K hK => by
    rw [if_pos hw]
    have hr := run_cmp_agg a.eval o t r i j true ho u v b w hx hy hg he
    unfold Oper.wp
    rw [hr]
    exact hK _ _ h
theorem yields_cmp_agg {P : Program} {ops : Array Oper} {S : World → Prop} {o : Oper} {a : Act} (neg : Bool) (hw : Region.wanted o (yielded ops a.tmps) = true) (t r : TypeId) (i j : Tmp) (ho : o.op = .binOp (if neg then .neq else .eql) t (.tmp i) (.tmp j) r) (u v : Array Value) (b : Bool)
    (hx : a.eval (.tmp i) = .agg u) (hy : a.eval (.tmp j) = .agg v) (hg : P.eqGuardType P.depth t = false) (he : ∀ w, (Op.equalIn 10000 t (.agg u) (.agg v)).run P w = .ok b w) : YieldsIf P ops S o (.bool (if neg then !b else b)) a :=
  .inl ⟨hw, fun w _ => run_cmp_agg a.eval o t r i j neg ho u v b w hx hy hg (he w)⟩
end Go.Proofs.Ytnblofbbbkjhpaa
namespace Go.Proofs.Ytnblofbbbkjhpaa
open Go.RowKit

theorem containsM_iff (a x : AddrM) (bits : Int) (hv : validM a bits = true) (hs : soundM x = true) (h6 : (x.six == a.six) = true) : containsM a bits x = true ↔ ∀ i : Nat, (i : Int) < bits → i < 128 → bitM x.ip i = bitM a.ip i := by
  rw [containsM, hv, hs, h6, Bool.true_and, Bool.true_and, Bool.true_and, List.all_eq_true]
  constructor
  · intro h i hi hlt
    have := h i (List.mem_range.2 hlt)
    rw [Bool.or_eq_true, decide_eq_true_iff, beq_iff_eq] at this
    rcases this with h2 | h2
    · omega
    · exact h2
  · intro h i hi
    rw [Bool.or_eq_true, decide_eq_true_iff, beq_iff_eq]
    by_cases h2 : bits ≤ (i : Int)
    · exact .inl h2
    · exact .inr (h i (by omega) (List.mem_range.1 hi))
end Go.Proofs.Ytnblofbbbkjhpaa
namespace Go.Proofs.Ytnblofbbbkjhpaa
open Go.RowKit

set_option maxRecDepth 100000 in
set_option maxHeartbeats 8000000 in
theorem refContains_any (a : AddrM) (h : a.ok) (bits : Int) (hb1 : -9223372036854775808 ≤ bits) (hb2 : bits ≤ 9223372036854775807) (x : AddrM) (hx : x.ok) (w : World) :
    Calls Try.prog 28 #[.agg (prefC a bits).toArray, .agg x.cells.toArray] w fun e w' => e = .returned (.bool (containsM a bits x)) ∧ Below w.heap.size w w' := by
  have VC := fun W : World => refValid_any a h bits hb1 hb2 W
  have SC := fun W : World => refSound_any x hx W
  have BX := fun (i : Nat) (hi : i < 128) (W : World) => refBit_any x hx i hi W
  have BA := fun (i : Nat) (hi : i < 128) (W : World) => refBit_any a h i hi W
  obtain ⟨cp, hcp⟩ : ∃ c, (prefC a bits).toArray = c := ⟨_, rfl⟩
  obtain ⟨cx, hcx⟩ : ∃ c, x.cells.toArray = c := ⟨_, rfl⟩
  obtain ⟨ca, hca⟩ : ∃ c, a.cells.toArray = c := ⟨_, rfl⟩
  simp only [hcp] at VC
  simp only [hcx] at SC BX
  simp only [hca] at BA
  rw [hcp, hcx]
  have HM := Lib.hid (show Mem w [blkE (w.heap.size + 1) 26 x.cells, blkE w.heap.size 28 (prefC a bits)] ((w.alloc (.cells cp 28)).alloc (.cells cx 26)) from ((Mem.nil w).alloc rfl 28 cp (prefC a bits) hcp.symm).alloc (by simp) 26 cx x.cells hcx.symm)
  have HO := Lib.hid h
  have HOX := Lib.hid hx
  have HCA := Lib.hid hca
  have HCX := Lib.hid hcx
  have HCP := Lib.hid hcp
  have HBX := Lib.hid BX
  have HBA := Lib.hid BA
  obtain ⟨vd, hvd⟩ : ∃ q, validM a bits = q := ⟨_, rfl⟩
  obtain ⟨sd, hsd⟩ : ∃ q, soundM x = q := ⟨_, rfl⟩
  rw [hvd] at VC
  rw [hsd] at SC
  have HVC := Lib.hid VC
  have HSC := Lib.hid SC
  clear hcp hcx hca h hx BX BA VC SC hb1 hb2
  go_enter Try.func28, Try.ntmps28
  go_upto_region 1 with fail
  generalize ((w.alloc (.cells cp 28)).alloc (.cells cx 26)) = w1 at HM ⊢
  go_wp2_with (refine wpList_load_obj rfl 28 (.tmp 2) rfl w.heap.size 0 rfl (prefC a bits) (HM.out.blk 1 rfl).all _ Try.underlying28 rfl (pref_cellsOf a HO.out bits) ?_; rw [HCP.out])
  refine (HVC.out _).mono ?_
  rintro e w2 ⟨rfl, hb⟩
  replace HM := Lib.hid (HM.out.below hb)
  clear hb
  cases vd with
  | false =>
    have HR := Lib.hid (show containsM a bits x = false from by rw [containsM, hvd]; rfl)
    go_wp2
    go_ret
    exact ⟨by rw [HR.out]; rfl, HM.out.bel⟩
  | true =>
    have hbb := validM_bits a bits hvd
    go_wp2_with (refine wpList_load_obj_g (by rfl) 26 (.tmp 3) rfl (w.heap.size + 1) 0 rfl x.cells (HM.out.blk 0 rfl).all _ Try.underlying26 rfl (addr_cellsOf _ HOX.out) ?_; rw [HCX.out])
    refine (HSC.out _).mono ?_
    rintro e w3 ⟨rfl, hb⟩
    replace HM := Lib.hid (HM.out.below hb)
    clear hb
    cases sd with
    | false =>
      have HR := Lib.hid (show containsM a bits x = false from by rw [containsM, hsd]; simp)
      go_wp2
      go_ret
      exact ⟨by rw [HR.out]; rfl, HM.out.bel⟩
    | true =>
      have f1 := ((HM.out.blk 0 rfl).cell 0).trans (AddrM.six_cell x)
      have f2 := ((HM.out.blk 1 rfl).cell 0).trans (prefC_six a bits)
      by_cases h6 : x.six = a.six
      · have HV := Lib.hid (containsM_iff a x bits hvd hsd (by rw [h6]; simp))
        rw [h6] at f1
        have hne : (a.six != a.six) = false := by simp
        clear h6 hvd hsd
        obtain ⟨b, rfl⟩ : ∃ b : Nat, bits = (b : Int) := ⟨bits.toNat, by omega⟩
        generalize a.six = sx at f1 f2 hne
        go_upto_region 4 with fail
        clear f1 f2 hne
        go_loopw [5] (fun z wr => ∃ k : Nat, k ≤ b ∧ z = .int .i64 (k : Int) ∧ (∀ i, i < k → bitM x.ip i = bitM a.ip i) ∧ Mem w [blkE (w.heap.size + 1) 26 x.cells, blkE w.heap.size 28 (prefC a (b : Int))] wr) (fun z _ => b - (intOf z).toNat)
        case atStart => exact ⟨0, by omega, rfl, fun i h1 => absurd h1 (by omega), HM.out⟩
        case round =>
          clear HM
          obtain ⟨k, hk, rfl, hz, hM⟩ := hrel
          have HM := Lib.hid hM
          have HZ := Lib.hid hz
          clear hM hz
          have fb := (HM.out.blk 1 rfl).cell 17
          rw [prefC_bits a HO.out (b : Int)] at fb
          by_cases hlt0 : k < b
          · have dl : decide ((k : Int) < (b : Int)) = true := by simp; omega
            have hlt : (k : Int) < (b : Int) := by omega
            have HKX := Lib.hid (HBX.out k (by omega))
            have HKA := Lib.hid (HBA.out k (by omega))
            go_upto_region 6 with fail
            clear fb dl
            by_cases hq : bitM x.ip k = bitM a.ip k
            · have HNE := Lib.hid (show ((bitM x.ip k : Int) != (bitM a.ip k : Int)) = false by rw [hq]; simp)
              have HQ := Lib.hid hq
              clear hq
              refine wp_region_held_drew (S := fun W' => Mem w [blkE (w.heap.size + 1) 26 x.cells, blkE w.heap.size 28 (prefC a (b : Int))] W') (by kernel_rfl) ((HM.out).drew) (fun hHeld => ?_)
              replace HM := Lib.hid HM.out.drew
              generalize wr.drew = wd1 at HM hHeld ⊢
              refine take_first (v := .agg cx) 0 rfl (by kernel_rfl) (by kernel_rfl) (by kernel_rfl) (fun _ _ _ h => h) (by rw [← HCX.out]; exact yields_load_obj (by rfl) 26 (.tmp 3) rfl (w.heap.size + 1) 0 rfl x.cells (fun w' hb => (Mem.blk hb 0 rfl).all) _ Try.underlying26 rfl (addr_cellsOf _ HOX.out)) (by assumption) ?_
              (try simp only [Act.put, List.setIfInBounds_toArray, List.set_cons_zero, List.set_cons_succ])
              refine take_first (v := ?_) 1 rfl (by kernel_rfl) (by kernel_rfl) (by kernel_rfl) (fun _ _ _ h => h) (Or.inl ⟨by rfl, ?_⟩) (by assumption) ?_
              rotate_left
              · (intro w hSw; (try dsimp only at hSw); go_simp; try with_reducible rfl)
              (try simp only [Act.put, List.setIfInBounds_toArray, List.set_cons_zero, List.set_cons_succ])
              refine take_first (v := ?_) 3 rfl (by kernel_rfl) (by kernel_rfl) (by kernel_rfl) (fun _ _ _ h => h) (Or.inl ⟨by rfl, ?_⟩) (by assumption) ?_
              rotate_left
              · (intro w hSw; (try dsimp only at hSw); go_simp; try with_reducible rfl)
              (try simp only [Act.put, List.setIfInBounds_toArray, List.set_cons_zero, List.set_cons_succ])
              refine take_first (v := .agg ca) 4 rfl (by kernel_rfl) (by kernel_rfl) (by kernel_rfl) (fun _ _ _ h => h) (by rw [← HCA.out]; exact yields_load_obj (by rfl) 26 (.tmp 31) rfl w.heap.size 0 rfl a.cells (fun w' hb => by have h := (Mem.blk hb 1 rfl).sub 0 17; rw [prefC_addr a HO.out (b : Int)] at h; exact h) _ Try.underlying26 rfl (addr_cellsOf _ HO.out)) (by assumption) ?_
              (try simp only [Act.put, List.setIfInBounds_toArray, List.set_cons_zero, List.set_cons_succ])
              refine take_first (v := ?_) 5 rfl (by kernel_rfl) (by kernel_rfl) (by kernel_rfl) (fun _ _ _ h => h) (Or.inl ⟨by rfl, ?_⟩) (by assumption) ?_
              rotate_left
              · (intro w hSw; (try dsimp only at hSw); go_simp; try with_reducible rfl)
              (try simp only [Act.put, List.setIfInBounds_toArray, List.set_cons_zero, List.set_cons_succ])
              refine step_one 2 rfl (by kernel_rfl) (fun K hK => ?_)
              clear hHeld
              go_simp
              refine (HKX.out _).mono ?_
              rintro e wy2 ⟨rfl, hb⟩
              replace HM := Lib.hid (show Mem w [blkE (w.heap.size + 1) 26 x.cells, blkE w.heap.size 28 (prefC a (b : Int))] wy2 from HM.out.below hb)
              clear hb
              go_wp2_with fail
              refine hK.out _ _ (HM.out) (fun hHeld => ?_)
              clear hK K
              (try simp only [Act.put, List.setIfInBounds_toArray, List.set_cons_zero, List.set_cons_succ])
              refine step_one 6 rfl (by kernel_rfl) (fun K hK => ?_)
              clear hHeld
              go_simp
              refine (HKA.out _).mono ?_
              rintro e wy3 ⟨rfl, hb⟩
              replace HM := Lib.hid (show Mem w [blkE (w.heap.size + 1) 26 x.cells, blkE w.heap.size 28 (prefC a (b : Int))] wy3 from HM.out.below hb)
              clear hb
              go_wp2_with fail
              refine hK.out _ _ (HM.out) (fun hHeld => ?_)
              clear hK K
              (try simp only [Act.put, List.setIfInBounds_toArray, List.set_cons_zero, List.set_cons_succ])
              refine take_first (v := ?_) 7 rfl (by kernel_rfl) (by kernel_rfl) (by kernel_rfl) (fun _ _ _ h => h) (Or.inl ⟨by rfl, ?_⟩) (by assumption) ?_
              rotate_left
              · (intro w hSw; (try dsimp only at hSw); have hne := HNE.out; go_simp; try with_reducible rfl)
              (try simp only [Act.put, List.setIfInBounds_toArray, List.set_cons_zero, List.set_cons_succ])
              refine wpAnyH_done (by kernel_rfl) ?_ _
              clear hHeld
              revert wy3
              intro w3 HM
              go_wp2
              go_roundw
              case rel => exact ⟨k + 1, by omega, by go_num, (fun i h1 => by
                by_cases e : i = k
                · subst e; exact HQ.out
                · exact HZ.out i (by omega)), HM.out⟩
              case measure => simp [intOf]; omega
            · have HNE := Lib.hid (show ((bitM x.ip k : Int) != (bitM a.ip k : Int)) = true by simp; omega)
              have HR := Lib.hid (show containsM a (b : Int) x = false from by
                rw [Bool.eq_false_iff]
                intro hv
                exact hq (HV.out.1 hv k hlt (by omega)))
              clear hq
              refine wp_region_held_drew (S := fun W' => Mem w [blkE (w.heap.size + 1) 26 x.cells, blkE w.heap.size 28 (prefC a (b : Int))] W') (by kernel_rfl) ((HM.out).drew) (fun hHeld => ?_)
              replace HM := Lib.hid HM.out.drew
              generalize wr.drew = wd1 at HM hHeld ⊢
              refine take_first (v := .agg cx) 0 rfl (by kernel_rfl) (by kernel_rfl) (by kernel_rfl) (fun _ _ _ h => h) (by rw [← HCX.out]; exact yields_load_obj (by rfl) 26 (.tmp 3) rfl (w.heap.size + 1) 0 rfl x.cells (fun w' hb => (Mem.blk hb 0 rfl).all) _ Try.underlying26 rfl (addr_cellsOf _ HOX.out)) (by assumption) ?_
              (try simp only [Act.put, List.setIfInBounds_toArray, List.set_cons_zero, List.set_cons_succ])
              refine take_first (v := ?_) 1 rfl (by kernel_rfl) (by kernel_rfl) (by kernel_rfl) (fun _ _ _ h => h) (Or.inl ⟨by rfl, ?_⟩) (by assumption) ?_
              rotate_left
              · (intro w hSw; (try dsimp only at hSw); go_simp; try with_reducible rfl)
              (try simp only [Act.put, List.setIfInBounds_toArray, List.set_cons_zero, List.set_cons_succ])
              refine take_first (v := ?_) 3 rfl (by kernel_rfl) (by kernel_rfl) (by kernel_rfl) (fun _ _ _ h => h) (Or.inl ⟨by rfl, ?_⟩) (by assumption) ?_
              rotate_left
              · (intro w hSw; (try dsimp only at hSw); go_simp; try with_reducible rfl)
              (try simp only [Act.put, List.setIfInBounds_toArray, List.set_cons_zero, List.set_cons_succ])
              refine take_first (v := .agg ca) 4 rfl (by kernel_rfl) (by kernel_rfl) (by kernel_rfl) (fun _ _ _ h => h) (by rw [← HCA.out]; exact yields_load_obj (by rfl) 26 (.tmp 31) rfl w.heap.size 0 rfl a.cells (fun w' hb => by have h := (Mem.blk hb 1 rfl).sub 0 17; rw [prefC_addr a HO.out (b : Int)] at h; exact h) _ Try.underlying26 rfl (addr_cellsOf _ HO.out)) (by assumption) ?_
              (try simp only [Act.put, List.setIfInBounds_toArray, List.set_cons_zero, List.set_cons_succ])
              refine take_first (v := ?_) 5 rfl (by kernel_rfl) (by kernel_rfl) (by kernel_rfl) (fun _ _ _ h => h) (Or.inl ⟨by rfl, ?_⟩) (by assumption) ?_
              rotate_left
              · (intro w hSw; (try dsimp only at hSw); go_simp; try with_reducible rfl)
              (try simp only [Act.put, List.setIfInBounds_toArray, List.set_cons_zero, List.set_cons_succ])
              refine step_one 2 rfl (by kernel_rfl) (fun K hK => ?_)
              clear hHeld
              go_simp
              refine (HKX.out _).mono ?_
              rintro e wy2 ⟨rfl, hb⟩
              replace HM := Lib.hid (show Mem w [blkE (w.heap.size + 1) 26 x.cells, blkE w.heap.size 28 (prefC a (b : Int))] wy2 from HM.out.below hb)
              clear hb
              go_wp2_with fail
              refine hK.out _ _ (HM.out) (fun hHeld => ?_)
              clear hK K
              (try simp only [Act.put, List.setIfInBounds_toArray, List.set_cons_zero, List.set_cons_succ])
              refine step_one 6 rfl (by kernel_rfl) (fun K hK => ?_)
              clear hHeld
              go_simp
              refine (HKA.out _).mono ?_
              rintro e wy3 ⟨rfl, hb⟩
              replace HM := Lib.hid (show Mem w [blkE (w.heap.size + 1) 26 x.cells, blkE w.heap.size 28 (prefC a (b : Int))] wy3 from HM.out.below hb)
              clear hb
              go_wp2_with fail
              refine hK.out _ _ (HM.out) (fun hHeld => ?_)
              clear hK K
              (try simp only [Act.put, List.setIfInBounds_toArray, List.set_cons_zero, List.set_cons_succ])
              refine take_first (v := ?_) 7 rfl (by kernel_rfl) (by kernel_rfl) (by kernel_rfl) (fun _ _ _ h => h) (Or.inl ⟨by rfl, ?_⟩) (by assumption) ?_
              rotate_left
              · (intro w hSw; (try dsimp only at hSw); have hne := HNE.out; go_simp; try with_reducible rfl)
              (try simp only [Act.put, List.setIfInBounds_toArray, List.set_cons_zero, List.set_cons_succ])
              refine wpAnyH_done (by kernel_rfl) ?_ _
              clear hHeld
              revert wy3
              intro w3 HM
              go_wp2
              go_ret
              exact ⟨by rw [HR.out]; rfl, HM.out.bel⟩
          · obtain rfl : k = b := by omega
            have dl : decide ((k : Int) < (k : Int)) = false := by simp
            have HR := Lib.hid (show containsM a (k : Int) x = true from HV.out.2 (fun i h1 _ => HZ.out i (by omega)))
            go_wp2
            go_ret
            exact ⟨by rw [HR.out]; rfl, HM.out.bel⟩
      · have HR := Lib.hid (show containsM a bits x = false from by rw [containsM, show (x.six == a.six) = false by simpa using h6]; simp)
        clear hvd hsd
        generalize x.six = s1 at f1 h6
        generalize a.six = s2 at f2 h6
        have hc : (s1 = true ∧ s2 = false) ∨ (s1 = false ∧ s2 = true) := by revert h6; cases s1 <;> cases s2 <;> simp
        clear h6
        rcases hc with ⟨rfl, rfl⟩ | ⟨rfl, rfl⟩
        · go_wp2
          go_ret
          exact ⟨by rw [HR.out]; rfl, HM.out.bel⟩
        · go_wp2
          go_ret
          exact ⟨by rw [HR.out]; rfl, HM.out.bel⟩
theorem AddrM.rd {w : World} {g : Nat} {t : TypeId} {a : AddrM} (h : Blk w g t a.cells) (ho : a.ok) : Rd w (g + 1) (some ⟨g, 1, none⟩) 16 a.ip :=
  ⟨ho, fun _ => ⟨g, 1, rfl, Nat.lt_succ_self _, fun j hj => by
    rw [h.cell (1 + j), AddrM.ip_cell a ho j (by rw [ho] at hj; exact hj), List.getD_eq_getElem?_getD, List.getElem?_eq_getElem hj]
    rfl⟩⟩
set_option maxRecDepth 100000 in
set_option maxHeartbeats 2000000 in
theorem refLess_any (a b : AddrM) (ha : a.ok) (hb : b.ok) (w : World) :
    Calls Try.prog 54 #[.agg a.cells.toArray, .agg b.cells.toArray] w fun e w' => e = .returned (.bool (lessM a b)) ∧ Below w.heap.size w w' := by
  obtain ⟨ca, hca⟩ : ∃ x, a.cells.toArray = x := ⟨_, rfl⟩
  obtain ⟨cb, hcb⟩ : ∃ x, b.cells.toArray = x := ⟨_, rfl⟩
  rw [hca, hcb]
  have HM := Lib.hid (show Mem w [blkE (w.heap.size + 1) 26 b.cells, blkE w.heap.size 26 a.cells] ((w.alloc (.cells ca 26)).alloc (.cells cb 26)) from ((Mem.nil w).alloc rfl 26 ca a.cells hca.symm).alloc (by simp) 26 cb b.cells hcb.symm)
  have HOA := Lib.hid ha
  have HOB := Lib.hid hb
  clear hca hcb ha hb
  go_enter Try.func54, Try.ntmps54
  go_upto_region 1 with fail
  generalize ((w.alloc (.cells ca 26)).alloc (.cells cb 26)) = w1 at HM ⊢
  have f1 := ((HM.out.blk 1 rfl).cell 0).trans (AddrM.six_cell a)
  have f2 := ((HM.out.blk 0 rfl).cell 0).trans (AddrM.six_cell b)
  by_cases h6 : a.six = b.six
  · have HE := Lib.hid (show lessM a b = Op.bytesLess a.ip b.ip by rw [lessM, if_pos h6])
    rw [h6] at f1
    have hne : (b.six != b.six) = false := by simp
    clear h6
    generalize b.six = sx at f1 f2 hne
    go_upto_region 3 with fail
    clear f1 f2 hne
    generalize w.heap.size = GA at HM ⊢
    refine wp_region_held_drew (S := fun W' => Mem w [blkE (GA + 1) 26 b.cells, blkE GA 26 a.cells] W') (by kernel_rfl) ((HM.out).drew) (fun hHeld => ?_)
    replace HM := Lib.hid HM.out.drew
    generalize w1.drew = wd1 at HM hHeld ⊢
    refine take_first (v := ?_) 0 rfl (by kernel_rfl) (by kernel_rfl) (by kernel_rfl) (fun _ _ _ h => h) (Or.inl ⟨by rfl, ?_⟩) (by assumption) ?_
    rotate_left
    · (intro w hSw; (try dsimp only at hSw); go_simp; try with_reducible rfl)
    (try simp only [Act.put, List.setIfInBounds_toArray, List.set_cons_zero, List.set_cons_succ])
    refine take_first (v := ?_) 1 rfl (by kernel_rfl) (by kernel_rfl) (by kernel_rfl) (fun _ _ _ h => h) (Or.inl ⟨by rfl, ?_⟩) (by assumption) ?_
    rotate_left
    · (intro w hSw; (try dsimp only at hSw); go_simp; try with_reducible rfl)
    (try simp only [Act.put, List.setIfInBounds_toArray, List.set_cons_zero, List.set_cons_succ])
    refine take_first (v := ?_) 2 rfl (by kernel_rfl) (by kernel_rfl) (by kernel_rfl) (fun _ _ _ h => h) (Or.inl ⟨by rfl, ?_⟩) (by assumption) ?_
    rotate_left
    · (intro w hSw; (try dsimp only at hSw); have cv : (convert 22 9 (.slice (some ⟨GA, 1, none⟩) 16 16)).run Try.prog w = .ok (.string ⟨a.ip.toArray⟩) w := run_string_of_rd (P := Try.prog) 22 9 5 16 Try.underlying22 Try.underlying5 Try.underlying9 (AddrM.rd (Mem.blk hSw 1 rfl) HOA.out); go_simp; try with_reducible rfl)
    (try simp only [Act.put, List.setIfInBounds_toArray, List.set_cons_zero, List.set_cons_succ])
    refine take_first (v := ?_) 3 rfl (by kernel_rfl) (by kernel_rfl) (by kernel_rfl) (fun _ _ _ h => h) (Or.inl ⟨by rfl, ?_⟩) (by assumption) ?_
    rotate_left
    · (intro w hSw; (try dsimp only at hSw); go_simp; try with_reducible rfl)
    (try simp only [Act.put, List.setIfInBounds_toArray, List.set_cons_zero, List.set_cons_succ])
    refine take_first (v := ?_) 4 rfl (by kernel_rfl) (by kernel_rfl) (by kernel_rfl) (fun _ _ _ h => h) (Or.inl ⟨by rfl, ?_⟩) (by assumption) ?_
    rotate_left
    · (intro w hSw; (try dsimp only at hSw); go_simp; try with_reducible rfl)
    (try simp only [Act.put, List.setIfInBounds_toArray, List.set_cons_zero, List.set_cons_succ])
    refine take_first (v := ?_) 5 rfl (by kernel_rfl) (by kernel_rfl) (by kernel_rfl) (fun _ _ _ h => h) (Or.inl ⟨by rfl, ?_⟩) (by assumption) ?_
    rotate_left
    · (intro w hSw; (try dsimp only at hSw); have cv : (convert 22 9 (.slice (some ⟨(GA + 1), 1, none⟩) 16 16)).run Try.prog w = .ok (.string ⟨b.ip.toArray⟩) w := run_string_of_rd (P := Try.prog) 22 9 5 16 Try.underlying22 Try.underlying5 Try.underlying9 (AddrM.rd (Mem.blk hSw 0 rfl) HOB.out); go_simp; try with_reducible rfl)
    (try simp only [Act.put, List.setIfInBounds_toArray, List.set_cons_zero, List.set_cons_succ])
    refine take_first (v := ?_) 6 rfl (by kernel_rfl) (by kernel_rfl) (by kernel_rfl) (fun _ _ _ h => h) (Or.inl ⟨by rfl, ?_⟩) (by assumption) ?_
    rotate_left
    · (intro w hSw; (try dsimp only at hSw); go_simp; try with_reducible rfl)
    (try simp only [Act.put, List.setIfInBounds_toArray, List.set_cons_zero, List.set_cons_succ])
    refine take_first (v := ?_) 7 rfl (by kernel_rfl) (by kernel_rfl) (by kernel_rfl) (fun _ _ _ h => h) (Or.inl ⟨by rfl, ?_⟩) (by assumption) ?_
    rotate_left
    · (intro w hSw; (try dsimp only at hSw); go_simp; try with_reducible rfl)
    (try simp only [Act.put, List.setIfInBounds_toArray, List.set_cons_zero, List.set_cons_succ])
    refine wpAnyH_done (by kernel_rfl) ?_ _
    have HB := Lib.hid HM.out.bel
    clear HM hHeld
    go_wp2
    go_ret
    exact ⟨by have h := HE.out; simp at h ⊢; exact h.symm, HB.out⟩
  · have HR := Lib.hid (show lessM a b = !a.six by rw [lessM, if_neg h6])
    generalize a.six = s1 at f1 h6 HR
    generalize b.six = s2 at f2 h6
    have hc : (s1 = true ∧ s2 = false) ∨ (s1 = false ∧ s2 = true) := by revert h6; cases s1 <;> cases s2 <;> simp
    clear h6
    rcases hc with ⟨rfl, rfl⟩ | ⟨rfl, rfl⟩
    · go_wp2
      go_ret
      exact ⟨by rw [HR.out]; rfl, HM.out.bel⟩
    · go_wp2
      go_ret
      exact ⟨by rw [HR.out]; rfl, HM.out.bel⟩
end Go.Proofs.Ytnblofbbbkjhpaa
namespace Go.Proofs.Ytnblofbbbkjhpaa
open Go.RowKit

theorem prefA_at {w : World} {g off : Nat} {a : AddrM} {bits : Int} (h : At w g off (prefC a bits)) : At w g off a.cells := fun j v hj => h j v (by
  rw [prefC, List.getElem?_append_left (List.getElem?_eq_some_iff.1 hj).1]
  exact hj)
theorem pref_bits_at {w : World} {g off : Nat} {a : AddrM} {bits : Int} (h : At w g off (prefC a bits)) (ho : a.ok) : w.cell? ⟨g, off + 17, none⟩ = some (.int .i64 bits) := h 17 _ (prefC_bits a ho bits)
set_option maxRecDepth 100000 in
set_option maxHeartbeats 4000000 in
theorem refBefore_any (a b : AddrM) (i j : Int) (ha : a.ok) (hb : b.ok) (w : World) :
    Calls Try.prog 39 #[.agg (prefC a i).toArray, .agg (prefC b j).toArray] w fun e w' => e = .returned (.bool (befM a i b j)) ∧ Below w.heap.size w w' := by
  have HL := Lib.hid (refLess_any a b ha hb)
  have HE := Lib.hid (addr_eqd a b ha hb)
  have HV := Lib.hid (show befM a i b j = if a = b then decide (i < j) else lessM a b from rfl)
  obtain ⟨ca, hca⟩ : ∃ z, a.cells.toArray = z := ⟨_, rfl⟩
  obtain ⟨cb, hcb⟩ : ∃ z, b.cells.toArray = z := ⟨_, rfl⟩
  obtain ⟨pa, hpa⟩ : ∃ z, (prefC a i).toArray = z := ⟨_, rfl⟩
  obtain ⟨pb, hpb⟩ : ∃ z, (prefC b j).toArray = z := ⟨_, rfl⟩
  rw [hca, hcb] at HL HE
  rw [hpa, hpb]
  have HUA := Lib.hid (addr_cellsOf a ha)
  have HUB := Lib.hid (addr_cellsOf b hb)
  have hm := ((Mem.nil w).alloc rfl 28 pa (prefC a i) hpa.symm).alloc (g := w.heap.size + 1) (by simp) 28 pb (prefC b j) hpb.symm
  have HM := Lib.hid hm
  have HCA := Lib.hid hca
  have HCB := Lib.hid hcb
  have HOA := Lib.hid ha
  have HOB := Lib.hid hb
  clear hca hcb hpa hpb hm ha hb
  go_enter Try.func39, Try.ntmps39
  go_upto_region 1 with fail
  generalize (w.alloc (.cells pa 28)).alloc (.cells pb 28) = w1 at HM ⊢
  by_cases hab : a = b
  · replace HV := Lib.hid (HV.out.trans (if_pos hab))
    rw [decide_eq_true hab] at HE
    have fi := pref_bits_at (HM.out.blk 1 rfl).all HOA.out
    have fj := pref_bits_at (HM.out.blk 0 rfl).all HOB.out
    clear hab
    go_wp2_with (first | (refine wpList_load_obj rfl 26 (.tmp 5) rfl w.heap.size 0 rfl a.cells (prefA_at (HM.out.blk 1 rfl).all) _ Try.underlying26 rfl HUA.out ?_; rw [HCA.out]) | (refine wpList_load_obj rfl 26 (.tmp 7) rfl (w.heap.size + 1) 0 rfl b.cells (prefA_at (HM.out.blk 0 rfl).all) _ Try.underlying26 rfl HUB.out ?_; rw [HCB.out]) | (refine wpList_neq_agg (by rfl) 26 26 6 8 rfl ca cb true rfl rfl addr_noguard (HE.out _) ?_))
    go_ret
    exact ⟨by rw [HV.out]; rfl, HM.out.bel⟩
  · replace HV := Lib.hid (HV.out.trans (if_neg hab))
    rw [decide_eq_false hab] at HE
    clear hab
    go_wp2_with (first | (refine wpList_load_obj rfl 26 (.tmp 5) rfl w.heap.size 0 rfl a.cells (prefA_at (HM.out.blk 1 rfl).all) _ Try.underlying26 rfl HUA.out ?_; rw [HCA.out]) | (refine wpList_load_obj rfl 26 (.tmp 7) rfl (w.heap.size + 1) 0 rfl b.cells (prefA_at (HM.out.blk 0 rfl).all) _ Try.underlying26 rfl HUB.out ?_; rw [HCB.out]) | (refine wpList_neq_agg (by rfl) 26 26 6 8 rfl ca cb false rfl rfl addr_noguard (HE.out _) ?_) | (refine wpList_load_obj rfl 26 (.tmp 10) rfl w.heap.size 0 rfl a.cells (prefA_at (HM.out.blk 1 rfl).all) _ Try.underlying26 rfl HUA.out ?_; rw [HCA.out]) | (refine wpList_load_obj rfl 26 (.tmp 12) rfl (w.heap.size + 1) 0 rfl b.cells (prefA_at (HM.out.blk 0 rfl).all) _ Try.underlying26 rfl HUB.out ?_; rw [HCB.out]))
    refine (HL.out _).mono ?_
    rintro e w2 ⟨rfl, hb⟩
    replace HM := Lib.hid (HM.out.below hb)
    clear hb
    go_wp2
    go_ret
    exact ⟨by rw [HV.out]; rfl, HM.out.bel⟩
end Go.Proofs.Ytnblofbbbkjhpaa
namespace Go.Proofs.Ytnblofbbbkjhpaa
open Go.RowKit

structure Low where
  P : World → Prop
  keep : ∀ W W' : World, Below W.heap.size W W' → P W → P W'
/-- bytes that a slice reads as -/
def rdL (A : Option Addr) (n : Nat) (l : List UInt8) : Low := ⟨fun W => Rd W W.heap.size A n l, fun _ _ hb h => (h.below hb).mono hb.size⟩
/-- a block -/
def blkL (g : Nat) (t : TypeId) (cs : List Value) : Low := ⟨fun W => Blk W g t cs, fun _ _ hb h => h.below hb h.lt⟩
/-- a row of bytes that was made above base -/
def ownL (base : Nat) (v : Value) (n : Nat) (xs : List Value) : Low := ⟨fun W => W.ownsRow base 5 1 v n xs, fun _ _ hb h => ⟨h.1, by
  rcases h.2 with h1 | ⟨g, cap, cur, hv, hbg, hg, hr⟩
  · exact .inl h1
  · exact .inr ⟨g, cap, cur, hv, hbg, (hb.block g (h.lt g (by rw [hv]; rfl)).2).trans hg, hr⟩⟩⟩
def Lows (w0 : World) (E : List Low) (W : World) : Prop := (∀ f ∈ E, f.P W) ∧ Below w0.heap.size w0 W
section
variable {w0 W W' : World} {E : List Low}
theorem Lows.nil (w0 : World) : Lows w0 [] w0 := ⟨fun f hf => absurd hf (by simp), Below.refl _ _⟩
theorem Lows.bel (h : Lows w0 E W) : Below w0.heap.size w0 W := h.2
theorem Lows.size (h : Lows w0 E W) : w0.heap.size ≤ W.heap.size := h.2.size
theorem Lows.below (h : Lows w0 E W) (hb : Below W.heap.size W W') : Lows w0 E W' := ⟨fun f hf => f.keep _ _ hb (h.1 f hf), h.2.trans (hb.mono h.2.size)⟩
theorem Lows.drew (h : Lows w0 E W) : Lows w0 E W.drew := h.below ((Below.refl _ _).drew)
theorem Lows.cons (h : Lows w0 E W) (f : Low) (hf : f.P W) : Lows w0 (f :: E) W :=
  ⟨fun g hg => by
    rcases List.mem_cons.1 hg with rfl | hg
    · exact hf
    · exact h.1 g hg, h.2⟩
theorem Lows.get (h : Lows w0 E W) (i : Nat) {f : Low} (he : E[i]? = some f) : f.P W := h.1 _ (List.mem_of_getElem? he)
theorem Lows.rd (h : Lows w0 E W) (i : Nat) {A : Option Addr} {n : Nat} {l : List UInt8} (he : E[i]? = some (rdL A n l)) : Rd W W.heap.size A n l := h.get i he
theorem Lows.blk (h : Lows w0 E W) (i : Nat) {g : Nat} {t : TypeId} {cs : List Value} (he : E[i]? = some (blkL g t cs)) : Blk W g t cs := h.get i he
theorem Lows.own (h : Lows w0 E W) (i : Nat) {base : Nat} {v : Value} {n : Nat} {xs : List Value} (he : E[i]? = some (ownL base v n xs)) : W.ownsRow base 5 1 v n xs := h.get i he
theorem Lows.tail (h : Lows w0 E W) (i : Nat) : Lows w0 (E.eraseIdx i) W := ⟨fun f hf => h.1 f (List.mem_of_mem_eraseIdx hf), h.2⟩
/-- a new block -/
theorem Lows.alloc (h : Lows w0 E W) (t : TypeId) (arr : Array Value) (cs : List Value) (ha : arr = cs.toArray) : Lows w0 (blkL W.heap.size t cs :: E) (W.alloc (.cells arr t)) := by
  subst ha
  exact (h.below ((Below.refl _ _).alloc (Nat.le_refl _) _)).cons (blkL _ _ _) (Blk.new W t cs)
/-- a block above is written -/
theorem Lows.grown (h : Lows w0 E W) {W2 : World} (hb : Below W.heap.size W W') {row : Option Nat} (hg : W'.grownBy W2 row) (hr : ∀ k, row = some k → W.heap.size ≤ k) : Lows w0 E W2 := h.below (hb.grown hg hb.size hr)
/-- a new block that is written at once -/
theorem Lows.stored (h : Lows w0 E W) {t : TypeId} {arr : Array Value} {cs : List Value} {W2 : World} (hg : (W.alloc (.cells arr t)).grownBy W2 (some W.heap.size)) (hb : Blk W2 W.heap.size t cs) : Lows w0 (blkL W.heap.size t cs :: E) W2 :=
  (h.grown ((Below.refl _ _).alloc (Nat.le_refl _) _) hg (by intro k hk; injection hk with hk; omega)).cons (blkL _ _ _) hb
end
end Go.Proofs.Ytnblofbbbkjhpaa
