/-
  KdfParts returns true for every input, and each argument reads afterwards as it read before, the package-level variables that it comes to holding what the program's text lays in them: the given card, without a further condition.
-/
import Derived.Test.YtbochejgjmjieaaDoorMem
import Derived.ProofKit
import Derived.OpenShut
import Derived.LaidMore
import Derived.Stop.Joined
import Derived.MakeChecks
import Derived.Test.YtbochejgjmjieaaDoorBlC
import Derived.Test.YtbochejgjmjieaaDoorRows
import Derived.Test.YtbochejgjmjieaaDoorKdFill
import Derived.Laws.OwnMore
import Derived.Test.YtbochejgjmjieaaDoorKdParts
import Derived.Test.YtbochejgjmjieaaDoorBlProg
import Derived.Test.YtbochejgjmjieaaDoorCards
import Derived.Test.YtbochejgjmjieaaDoorTie
import Derived.LaidHandle
namespace Go.Proofs.YtbochejgjmjieaaDoor
open Go.RowKit Go.ChangeShapes Go.WideShapes Go.ChangeAt

theorem own : ownKnob Tryd.prog.godebug = none := by kernel_rfl
theorem laidOut : laidOutB Tryd.prog = true := by kernel_rfl

section
variable {H : Type} {enc : TypeId × Value → H} {P : Program} {W : World}

theorem open_bytes {r : Reach} {b0 : Nat} {t e : TypeId} {v : Value} {d : DataW H} {p : List MemPlace} (ht : P.underlying t = some (.slice e)) (he : P.underlying e = some (.int .u8)) (hc : P.cellsOf e = 1)
    (hv : Value.okWide P W r b0 t v) (h : DataW.Trod enc P W 0 (fun _ => true) true t v d p) :
    ∃ A len cap l, v = .slice A len cap ∧ len ≤ cap ∧ cap ≤ maxLen ∧ Rd W W.heap.size A len l := by
  obtain ⟨A, len, cap, rfl⟩ := okWide_slice ht hv
  obtain ⟨fuel, hf⟩ := h
  rcases open_ints ht he hc hf with ⟨hcs, _⟩ | ⟨x, l, c, zs, hcs, _, hl, hm, hz, _, hcell, hwz⟩
  · simp [Value.cells] at hcs
    obtain ⟨rfl, rfl, rfl⟩ := hcs
    exact ⟨none, 0, 0, [], rfl, Nat.le_refl _, by simp, Rd.nil _ _ _⟩
  · simp [Value.cells] at hcs
    obtain ⟨rfl, rfl, rfl⟩ := hcs
    simp only [if_true] at hz
    have hlen : ((zs.take len).map (fun z => UInt8.ofNat z.toNat)).length = len := by simp; omega
    refine ⟨some x, len, cap, (zs.take len).map (fun z => UInt8.ofNat z.toNat), rfl, hl, hm, hlen, fun hp => ?_⟩
    obtain ⟨b, off, spot⟩ := x
    have h0 := hcell 0 (by omega)
    have hspot : spot = none := by simpa [Addr.add] using World.cell?_spot h0
    subst hspot
    refine ⟨b, off, rfl, by have := World.block_lt_of_cell? W _ h0; simpa [Addr.add] using this, fun j hj => ?_⟩
    have hj' : j < zs.length := by omega
    have hcj := hcell j hj'
    rw [add_plain] at hcj
    have hw := bounds_u8 (hwz zs[j] (List.getElem_mem hj'))
    rw [hcj, List.getElem_map, List.getElem_take]
    have : zs.getD j 0 = zs[j] := by simp [List.getD, hj']
    rw [this, UInt8.toNat_ofNat', Nat.mod_eq_of_lt (by omega)]
    congr 2
    omega

theorem open_key {r : Reach} {b0 n : Nat} {t e : TypeId} {v : Value} {d : DataW H} {p : List MemPlace} (ht : P.underlying t = some (.array n e)) (he : P.underlying e = some (.int .u8)) (hc : P.cellsOf e = 1) (hct : P.cellsOf t = n)
    (hv : Value.okWide P W r b0 t v) (h : DataW.Trod enc P W 0 (fun _ => true) true t v d p) :
    ∃ l : List UInt8, v = .agg (l.map u8v).toArray ∧ l.length = n := by
  simp only [Value.okWide, ht] at hv
  obtain ⟨cs, rfl, hsz, _⟩ := hv
  obtain ⟨fuel, hf⟩ := h
  obtain ⟨xs, m, _, hx, hl, hn, hat⟩ := DataW.trod_array ht hf
  have each : ∀ i (hi : i < n), ∃ b : UInt8, cs[i]'(by omega) = u8v b := by
    intro i hi
    have h1 := hat i hi
    rw [hc, Nat.mul_one, List.getElem?_eq_getElem (by omega)] at h1
    obtain ⟨z, hz, _, hw⟩ := DataW.trod_int he h1
    have hb := bounds_u8 hw
    have hcl : (Value.cells (.agg cs)).toList = cs.toList := rfl
    have h1d : (cs.toList.drop i).take 1 = [cs[i]'(by omega)] := by
      rw [List.drop_eq_getElem_cons (by simp; omega)]
      simp
    rw [hcl, h1d] at hz
    simp only [List.cons.injEq, and_true] at hz
    refine ⟨UInt8.ofNat z.toNat, ?_⟩
    have hz' : cs[i]'(by omega) = .int .u8 z := hz
    rw [hz']
    unfold u8v
    rw [UInt8.toNat_ofNat', Nat.mod_eq_of_lt (by omega)]
    congr 1
    omega
  refine ⟨(List.range n).map fun i => if hi : i < n then (each i hi).choose else 0, ?_, by simp⟩
  congr 1
  refine Array.ext (by simp; omega) fun i h1 h2 => ?_
  have hi : i < n := by omega
  simp only [List.getElem_toArray, List.getElem_map, List.getElem_range, dif_pos hi]
  exact (each i hi).choose_spec
end
end Go.Proofs.YtbochejgjmjieaaDoor
namespace Go.Proofs.YtbochejgjmjieaaDoor
open Go.RowKit Go.ChangeShapes Go.WideShapes Go.ChangeAt

theorem laid_data {P : Program} {l : List (String × DataW Unit)} {W : World} (h : laidMetH P l W) : laidMet P (l.filter fun x => x.2.handleName?.isNone) W := by
  unfold laidMetH at h
  generalize hfl : (l.filter fun x => x.2.handleName?.isSome) = fl at h
  cases fl with
  | nil =>
    have e : (l.filter fun x => x.2.handleName?.isNone) = l := by
      rw [List.filter_eq_self]
      intro x hx
      have := (List.filter_eq_nil_iff.1 hfl) x hx
      cases hn : x.2.handleName? with
      | none => rfl
      | some s => rw [hn] at this; exact absurd rfl this
    rw [e]
    exact h
  | cons y ys => exact h.1
theorem laid_in {P : Program} {W : World} : ∀ {l : List (String × DataW Unit)} {ps : List MemPlace}, DataW.LaidVars P W l ps → ∀ {n : String} {d : DataW Unit}, (n, d) ∈ l →
    ∃ g t cs fuel p, P.globalNamed n = some g ∧ (P.globals[g]?).map (·.type) = some t ∧ W.var? P n = some cs ∧ DataW.trod (fun _ => ()) P W 0 (fun _ => true) false fuel t cs.toList = some (d, p) ∧ (0 < cs.size → MemPlace.cell g 0 ∈ ps)
  | [], _, _, _, _, hx => by cases hx
  | (n0, d0) :: r, ps, h, n, d, hx => by
    obtain ⟨g, t, cs, fuel, p, q, hg, ht, hv, hd, hr, hps⟩ := h
    rcases List.mem_cons.1 hx with e | hx'
    · obtain ⟨rfl, rfl⟩ := Prod.mk.injEq .. ▸ e
      refine ⟨g, t, cs, fuel, p, hg, ht, hv, hd, fun h0 => ?_⟩
      rw [hps]
      refine List.mem_append_left _ (List.mem_append_left _ ?_)
      unfold MemPlace.row
      exact List.mem_map.2 ⟨0, List.mem_range.2 h0, rfl⟩
    · obtain ⟨g', t', cs', fuel', p', h1, h2, h3, h4, h5⟩ := laid_in hr hx'
      refine ⟨g', t', cs', fuel', p', h1, h2, h3, h4, fun h0 => ?_⟩
      rw [hps]
      exact List.mem_append_right _ (h5 h0)
/-- a listed variable's block -/
theorem laid_blk {P : Program} {W : World} {l : List (String × DataW Unit)} (h : laidMetH P l W) {n : String} {d : DataW Unit} (hx : (n, d) ∈ l) (hn : d.handleName?.isNone = true) {g0 : Nat} {t0 : TypeId} (hg0 : P.globalNamed n = some g0) (ht0 : (P.globals[g0]?).map (·.type) = some t0) :
    ∃ (cs : List Value) (fuel : Nat) (p : List MemPlace), DataW.trod (fun _ => ()) P W 0 (fun _ => true) false fuel t0 cs = some (d, p) ∧ (0 < cs.length → ∃ t, Blk W g0 t cs) := by
  obtain ⟨ps, hl, _, hcell⟩ := laid_data h
  obtain ⟨g, t, cs, fuel, p, hg, ht, hv, hd, hp⟩ := laid_in hl (List.mem_filter.2 ⟨hx, hn⟩)
  obtain rfl := Option.some.inj (hg0.symm.trans hg)
  obtain rfl := Option.some.inj (ht0.symm.trans ht)
  refine ⟨cs.toList, fuel, p, hd, fun h0 => ?_⟩
  obtain ⟨⟨c, t, hc⟩, _⟩ := hcell g0 0 (hp (by simpa using h0))
  refine ⟨t, ?_⟩
  simp only [World.var?, hg, Option.bind_some, hc, Option.some.injEq] at hv
  subst hv
  exact hc
section
variable {H : Type} {enc : TypeId × Value → H} {P : Program} {w : World} {base : Nat} {sp : Nat → Bool} {held : Bool}
theorem laid_ints {fuel : Nat} {t e : TypeId} {n : Nat} {k : IntKind} {cs : List Value} {zs : List Int} {p : List MemPlace} (ht : P.underlying t = some (.array n e)) (he : P.underlying e = some (.int k)) (hc : P.cellsOf e = 1) (hct : P.cellsOf t = n)
    (h : DataW.trod enc P w base sp held fuel t cs = some (.agg (zs.map fun z => .lit (.int k z)), p)) : cs = zs.map fun z => .int k z := by
  obtain ⟨xs, m, _, hx, hl, hn, hat⟩ := DataW.trod_array ht h
  simp only [Prod.mk.injEq, DataW.agg.injEq] at hx
  have hzl : zs.length = n := by
    have := congrArg List.length hx.1
    simp only [List.length_map] at this
    omega
  apply List.ext_getElem?
  intro i
  by_cases hi : i < n
  · have h1 := hat i hi
    rw [hc, Nat.mul_one] at h1
    have hxi : xs[i]? = some (xs[i]'(by omega)) := List.getElem?_eq_getElem (by omega)
    rw [hxi] at h1
    obtain ⟨z, hz, hy, _⟩ := DataW.trod_int he h1
    have h2 : (zs.map fun z => (DataW.lit (.int k z) : DataW H))[i]? = (xs.map (·.1))[i]? := by rw [hx.1]
    rw [List.getElem?_map, List.getElem?_map, hxi, hy, List.getElem?_eq_getElem (show i < zs.length by omega)] at h2
    simp only [Option.map_some, Option.some.injEq, DataW.lit.injEq, Lit.int.injEq, true_and] at h2
    have h3 : cs[i]? = some (.int k z) := by
      have h4 := congrArg (fun l : List Value => l[0]?) hz
      simpa [List.getElem?_take, List.getElem?_drop] using h4
    rw [h3, List.getElem?_map, List.getElem?_eq_getElem (show i < zs.length by omega), ← h2]
    rfl
  · rw [List.getElem?_eq_none (by omega), List.getElem?_eq_none (by simp; omega)]
theorem chunks_flat (m : Nat) (cs : List Value) : ∀ k : Nat, ((List.range k).map fun i => (cs.drop (i * m)).take m).flatten = cs.take (k * m)
  | 0 => by simp
  | k + 1 => by
    rw [List.range_succ, List.map_append, List.flatten_append, chunks_flat m cs k, show (k + 1) * m = k * m + m by rw [Nat.succ_mul], List.take_add]
    simp
theorem laid_rows {fuel : Nat} {t e : TypeId} {n m : Nat} {cs : List Value} {ds : List (DataW H)} {p : List MemPlace} (ht : P.underlying t = some (.array n e)) (hce : P.cellsOf e = m) (hct : P.cellsOf t = n * m)
    (h : DataW.trod enc P w base sp held fuel t cs = some (.agg ds, p)) (rows : List (List Value)) (hlen : rows.length = n)
    (hr : ∀ (i : Nat) (c : List Value) (d : DataW H) (fuel : Nat) (q : List MemPlace), ds[i]? = some d → DataW.trod enc P w base sp held fuel e c = some (d, q) → rows[i]? = some c) : cs = rows.flatten := by
  obtain ⟨xs, f, _, hx, hl, hn, hat⟩ := DataW.trod_array ht h
  simp only [Prod.mk.injEq, DataW.agg.injEq] at hx
  have hcs : cs.length = n * m := by rw [hl, hct]
  have hrows : rows = (List.range n).map fun i => (cs.drop (i * m)).take m := by
    apply List.ext_getElem?
    intro i
    by_cases hi : i < n
    · have h1 := hat i hi
      rw [hce] at h1
      have hxi : xs[i]? = some (xs[i]'(by omega)) := List.getElem?_eq_getElem (by omega)
      rw [hxi] at h1
      have h2 : ds[i]? = some (xs[i]'(by omega)).1 := by rw [hx.1, List.getElem?_map, hxi]; rfl
      rw [hr i _ _ f _ h2 h1, List.getElem?_map, List.getElem?_range hi]
      rfl
    · rw [List.getElem?_eq_none (by omega), List.getElem?_eq_none (by simp; omega)]
  rw [hrows, chunks_flat, List.take_of_length_le (by omega)]
end
end Go.Proofs.YtbochejgjmjieaaDoor
namespace Go.Proofs.YtbochejgjmjieaaDoor
open Go.RowKit

set_option maxRecDepth 100000 in
theorem laid_initial_is : (Rows.laid_burrow_blake_initial : DataW Unit) = .agg ((ivW.map fun x => (x.toNat : Int)).map fun z => .lit (.int .u32 z)) := by kernel_rfl
set_option maxRecDepth 100000 in
theorem laid_perm_is : (Rows.laid_burrow_blake_permutations : DataW Unit) = .agg (ordT.map fun r => .agg ((r.map fun i : Nat => (i : Int)).map fun z => .lit (.int .u8 z))) := by kernel_rfl
theorem lvBlake_of {W : World} {l : List (String × DataW Unit)} (h : laidMetH Tryd.prog l W) (h1 : ("burrow/blake.initial", Rows.laid_burrow_blake_initial) ∈ l) (h2 : ("burrow/blake.permutations", Rows.laid_burrow_blake_permutations) ∈ l) : LvBlake W := by
  constructor
  · obtain ⟨cs, fuel, p, hd, hb⟩ := laid_blk h h1 (by kernel_rfl) (show Tryd.prog.globalNamed "burrow/blake.initial" = some 0 by kernel_rfl) (show (Tryd.prog.globals[0]?).map (·.type) = some 46 by kernel_rfl)
    rw [laid_initial_is] at hd
    have e := laid_ints Tryd.underlying46 Tryd.underlying44 (by kernel_rfl) (by kernel_rfl) hd
    subst e
    rw [List.map_map] at hb
    exact hb (by decide)
  · obtain ⟨cs, fuel, p, hd, hb⟩ := laid_blk h h2 (by kernel_rfl) (show Tryd.prog.globalNamed "burrow/blake.permutations" = some 1 by kernel_rfl) (show (Tryd.prog.globals[1]?).map (·.type) = some 67 by kernel_rfl)
    rw [laid_perm_is] at hd
    have e := laid_rows (m := 16) Tryd.underlying67 (by kernel_rfl) (by kernel_rfl) hd (ordT.map fun r => r.map fun i : Nat => .int .u8 (i : Int)) rfl (by
      intro i c d fuel q hdi ht
      rw [List.getElem?_map] at hdi
      cases hr : ordT[i]? with
      | none => rw [hr] at hdi; cases hdi
      | some r =>
        rw [hr, Option.map_some, Option.some.injEq] at hdi
        subst hdi
        rw [laid_ints Tryd.underlying66 Tryd.underlying5 (by kernel_rfl) (by kernel_rfl) ht, List.getElem?_map, hr, List.map_map]
        rfl)
    rw [show (ordT.map fun r => r.map fun i : Nat => Value.int .u8 (i : Int)).flatten = permV from rfl] at e
    subst e
    exact hb (Nat.lt_of_lt_of_eq (show 0 < 160 by decide) (show 160 = permV.length by kernel_rfl))
end Go.Proofs.YtbochejgjmjieaaDoor
namespace Go.Proofs.YtbochejgjmjieaaDoor
open Go.RowKit

/-- what the slice of keys holds when j of m keys are there -/
def keyL (t0 : List UInt8) (m j : Nat) : List UInt8 := (firstT t0 j).flatten ++ List.replicate (32 * (m - j)) 0
theorem firstT_flat (t0 : List UInt8) : ∀ j, (firstT t0 j).flatten.length = 32 * j
  | 0 => rfl
  | j + 1 => by
    rw [firstT_succ, List.flatten_append, List.length_append, firstT_flat t0 j]
    simp only [List.flatten_cons, List.flatten_nil, List.append_nil, tB_length]
    omega
theorem keyL_length (t0 : List UInt8) (m j : Nat) (h : j ≤ m) : (keyL t0 m j).length = 32 * m := by
  rw [keyL, List.length_append, firstT_flat, List.length_replicate]; omega
theorem keyL_put (t0 : List UInt8) (m j : Nat) : putL (keyL t0 m j) (32 * j) (tB t0 (j + 1)) = keyL t0 m (j + 1) := by
  have e := firstT_flat t0 j
  have h2 : (keyL t0 m j).drop (32 * j + 32) = List.replicate (32 * (m - (j + 1))) 0 := by
    rw [keyL, List.drop_append, e, List.drop_eq_nil_of_le (by omega), List.nil_append, List.drop_replicate]
    congr 1
    omega
  have h1 : (keyL t0 m j).take (32 * j) = (firstT t0 j).flatten := by
    rw [keyL, List.take_append_of_le_length (by omega), List.take_of_length_le (by omega)]
  rw [putL, tB_length, h1, h2, keyL, firstT_succ, List.flatten_append]
  simp
theorem keyL_at (t0 : List UInt8) (m j : Nat) : ((keyL t0 m (j + 1)).drop (32 * j)).take 32 = tB t0 (j + 1) := by
  have e := firstT_flat t0 j
  rw [keyL, firstT_succ, List.flatten_append, List.append_assoc, List.drop_append_of_le_length (by omega), List.drop_eq_nil_of_le (by omega), List.nil_append]
  simp only [List.flatten_cons, List.flatten_nil, List.append_nil]
  rw [List.take_append_of_le_length (by rw [tB_length]; omega), List.take_of_length_le (by rw [tB_length]; omega)]
theorem keyL_none (t0 : List UInt8) (m : Nat) : keyL t0 m 0 = List.replicate (32 * m) 0 := by simp [keyL, firstT]
theorem keyL_all (t0 : List UInt8) (m : Nat) : (keyL t0 m m).map u8v = keysV (firstT t0 m) := by
  rw [keyL, Nat.sub_self, Nat.mul_zero, List.replicate_zero, List.append_nil, keysV, List.map_flatten, List.flatMap_def]
theorem keysV_length (t0 : List UInt8) (m : Nat) : (keysV (firstT t0 m)).length = m * 32 := by
  rw [← keyL_all, List.length_map, keyL_length t0 m m (Nat.le_refl _), Nat.mul_comm]
theorem made_keys (n : Nat) : (madeCells (Value.agg (aeZ 32).toArray).cells (n * 32)).toList = (List.replicate (32 * n) (0 : UInt8)).map u8v := by
  apply List.ext_getElem
  · rw [Array.length_toList, size_madeCells, List.length_map, List.length_replicate, Nat.mul_comm]
  · intro i h1 h2
    have hi : i % 32 < 32 := Nat.mod_lt _ (by omega)
    have this : (aeZ 32).toArray[i % 32]! = Value.int .u8 0 := by
      rw [getElem!_pos _ _ (by simpa [aeZ] using hi)]
      rw [List.getElem_toArray]
      exact List.getElem_replicate _
    simp only [madeCells, Value.cells, Array.getElem_toList, Array.getElem_map, Array.getElem_range, List.getElem_map, List.getElem_replicate]
    rw [show (aeZ 32).toArray.size = 32 from rfl]
    exact this
theorem putL_map' (l xs : List UInt8) (off : Nat) : putL (l.map u8v) off (xs.map u8v) = (putL l off xs).map u8v := by
  rw [← putL_map]; rfl
/-- a store of a whole array into a slice of arrays -/
theorem run_storeVar_at {P : Program} (w : World) (g off : Nat) (t ty : TypeId) (old cs : List Value) (hg : Blk w g t old) (hi : (P.info? ty).map (·.size) = some cs.length) (ho : off + cs.length ≤ old.length) (h1 : ∀ v ∈ cs, v.oneCell' = true) :
    ∃ w', (storeVar ty ⟨g, off, none⟩ (.agg cs.toArray)).run P w = .ok () w' ∧ Blk w' g t (putL old off cs) ∧ w.grownBy w' (some g) := by
  have hst := run_storeCells_at P g off t cs 0 old.toArray w hg (by simpa using ho) h1
  rw [Nat.add_zero] at hst
  refine ⟨w.setRow g (old.toArray.toList.take off ++ cs ++ old.toArray.toList.drop (off + cs.length)).toArray, ?_, ?_, ⟨rfl, rfl, rfl, by simp, fun k _ hk => setRow_other w g k _ (fun e => hk (by simp [e]))⟩⟩
  · cases hq : P.info? ty with
    | none => simp [hq] at hi
    | some i =>
      have hs : cs.length = i.size := by simp [hq] at hi; omega
      simp [storeVar, sizeOf, typeInfo, hq, Value.cells, hs]
      simpa [hs] using hst
  · exact setRow_heap w g old.toArray _ t _ hg
theorem wpList_store_at {P : Program} {w : World} {ops : Array Oper} {rest : List Oper} {o : Oper} {a : Act} {Q : Exit → Act → World → Prop} (hgd : o.guard = none) (ty : TypeId) (x y : Operand) (ho : o.op = .store ty x y)
    (g off : Nat) (cs : List Value) (hx : a.eval x = .pointer (some ⟨g, off, none⟩)) (hy : a.eval y = .agg cs.toArray)
    (t : TypeId) (old : List Value) (hg : Blk w g t old) (hi : (P.info? ty).map (·.size) = some cs.length) (hold : off + cs.length ≤ old.length) (h1 : ∀ v ∈ cs, v.oneCell' = true)
    (h : ∀ w', Blk w' g t (putL old off cs) → w.grownBy w' (some g) → wpList P ops Q rest (a.put o.dst undef) w') : wpList P ops Q (o :: rest) a w := by
  refine wpList_plain hgd fun K hK => ?_
  obtain ⟨w', hrun, h2, h3⟩ := run_storeVar_at (P := P) w g off t ty old cs hg hi hold h1
  unfold Oper.wp execOp
  simp only [ho, hx, hy, Instr.storeAt, Instr.sureAddr, Sem.run_bind, Sem.run_pure, Result.andThen_ok, hrun]
  exact hK _ _ (h w' h2 h3)
theorem key_index (G m j : Nat) (h : j < m) (w : World) : (Instr.indexAt 27 (.slice (some ⟨G, 0, none⟩) m m) (.int .i64 (j : Int))).run Tryd.prog w = .ok (.pointer (some ⟨G, 32 * j, none⟩)) w := by
  obtain ⟨ik, hik, _, his, _⟩ := keyInfo
  have h0 : (0 : Int) ≤ (j : Int) := by omega
  simp [Instr.indexAt, asIntOf, run_underlying Tryd.underlying27, sizeOf, typeInfo, hik, his, h0, h, Go.WideShapes.add_plain, Nat.mul_comm]

set_option maxRecDepth 100000 in
set_option maxHeartbeats 16000000 in
theorem kdExpandC : KdExpandC := by
  intro Ak nk ck key hkc hkm hk3 Ai ni cin inp hic him hni n hn1 hn2 w hlv hrk hri
  by_cases h1 : n < 1
  · have hsb : expandB key inp n = [] := by rw [expandB, if_pos (.inl h1)]
    have s1 : decide (n < 1) = true := by simpa using h1
    rw [hsb]
    have HB := Lib.hid (Below.refl w.heap.size w)
    clear hsb hrk hri hlv
    go_enter Tryd.func9, Tryd.ntmps9
    go_wp2_with fail
    go_ret
    exact ⟨none, 0, rfl, World.ownsRow_nil _ _ _ _, HB.out⟩
  · by_cases h2 : 255 < n
    · have hsb : expandB key inp n = [] := by rw [expandB, if_pos (.inr h2)]
      have s1 : decide (n < 1) = false := by simpa using h1
      have s2 : decide (n > 255) = true := by simpa using h2
      rw [hsb]
      have HB := Lib.hid (Below.refl w.heap.size w)
      clear hsb hrk hri hlv
      go_enter Tryd.func9, Tryd.ntmps9
      go_wp2_with fail
      go_ret
      exact ⟨none, 0, rfl, World.ownsRow_nil _ _ _ _, HB.out⟩
    · obtain ⟨m, rfl⟩ : ∃ m : Nat, n = (m : Int) := ⟨n.toNat, by omega⟩
      have hsb : expandB key inp (m : Int) = firstT (hmacB key inp) m := by rw [expandB, if_neg (by omega)]; rfl
      have hlm : (firstT (hmacB key inp) m).length = m := by simp [firstT]
      rw [hsb, hlm]
      have m1 : 1 ≤ m := by omega
      have m2 : m ≤ 255 := by omega
      have s1 : decide ((m : Int) < 1) = false := by simpa using h1
      have s2 : decide ((m : Int) > 255) = false := by simpa using h2
      have HK := Lib.hid hrk
      have HI := Lib.hid hri
      have HLV := Lib.hid hlv
      have HM := Lib.hid (Mem.nil w)
      have HLT := Lib.hid (hmacB_length key inp)
      obtain ⟨t0, ht0⟩ : ∃ l, hmacB key inp = l := ⟨_, rfl⟩
      rw [ht0] at HLT ⊢
      have HT0 := Lib.hid ht0
      obtain ⟨ct0, hct0⟩ : ∃ c, (t0.map u8v).toArray = c := ⟨_, rfl⟩
      have HCT := Lib.hid hct0
      clear ht0 hct0 hsb hlm hrk hri h1 h2 hn1 hn2 hlv
      obtain ⟨ik, hik, hiz, his, hib⟩ := keyInfo
      have HKI := Lib.hid (And.intro hik (And.intro hiz (And.intro his hib)))
      clear hik hiz his hib
      go_enter Tryd.func9, Tryd.ntmps9
      go_wp2_with fail
      clear s1 s2
      replace HM := Lib.hid (show Mem w [blkE w.heap.size 22 [Value.slice Ai ni cin]] (w.alloc (.cells #[Value.slice Ai ni cin] 22)) from HM.out.alloc rfl 22 #[Value.slice Ai ni cin] [Value.slice Ai ni cin] rfl)
      generalize w.alloc (.cells #[Value.slice Ai ni cin] 22) = w1 at HM ⊢
      refine (kd_hmac_one kdHmacC Ak nk ck key hkc hkm hk3 w.heap.size 22 Ai ni cin inp hic him (by omega) _ (HLV.out.below HM.out.bel) (HM.out.arg HK.out) (HM.out.blk 0 rfl) (HM.out.arg HI.out)).mono ?_
      rintro e w2 ⟨rfl, hb⟩
      rw [HT0.out, HCT.out]
      replace HM := Lib.hid (show Mem w [] w2 from (HM.out.below hb).erase 0)
      clear hb HT0 HK HI
      have HA := Lib.hid (HM.out.alloc rfl 30 #[.int .u8 0, .int .u8 0, .int .u8 0, .int .u8 0, .int .u8 0, .int .u8 0, .int .u8 0, .int .u8 0, .int .u8 0, .int .u8 0, .int .u8 0, .int .u8 0, .int .u8 0, .int .u8 0, .int .u8 0, .int .u8 0, .int .u8 0, .int .u8 0, .int .u8 0, .int .u8 0, .int .u8 0, .int .u8 0, .int .u8 0, .int .u8 0, .int .u8 0, .int .u8 0, .int .u8 0, .int .u8 0, .int .u8 0, .int .u8 0, .int .u8 0, .int .u8 0] (aeZ 32) rfl)
      go_upto_region 4 with (refine wpList_store_blk rfl 30 (.tmp 7) (.tmp 20) rfl w2.heap.size (t0.map u8v) rfl (by show Value.agg ct0 = _; rw [HCT.out]) 30 (aeZ 32) (HA.out.blk 0 rfl) (cells32 t0 HLT.out) (by rw [List.length_map, HLT.out]; rfl) (u8v_one _) ?_; intro w3 hb3 hg3)
      replace HM := Lib.hid (show Mem w [blkE w2.heap.size 30 (t0.map u8v)] w3 from HA.out.put 0 rfl _ hg3 hb3)
      clear hb3 hg3 HA HCT
      generalize w2.heap.size = P0 at HM ⊢
      go_upto_region 5 with (refine wpList_make_full _ rfl (.tmp 21) (.tmp 21) 27 rfl w3.heap.size 30 ik _ 32 Tryd.underlying27 HKI.out.1 HKI.out.2.1 HKI.out.2.2.1 .i64 .i64 (m : Int) (m : Int) m rfl rfl rfl rfl (by rw [HKI.out.2.2.2]; omega) (by unfold maxLen; omega) (Nat.le_refl _) ?_; intro w4 ho4 hg4)
      have hb4 : Blk w4 w3.heap.size 30 ((keyL t0 m 0).map u8v) := by
        rw [keyL_none]
        rw [made_keys] at ho4
        rcases ho4.2 with ⟨_, h0⟩ | ⟨g, cap, cur, hv, _, hg, _, _, hsz, htk⟩
        · omega
        · simp only [Value.slice.injEq] at hv
          obtain ⟨e1, _, e2⟩ := hv
          injection e1 with e1
          injection e1 with e1
          subst e1
          subst e2
          rw [List.take_of_length_le (by rw [Array.length_toList, hsz]; exact Nat.le_refl _)] at htk
          rw [← htk, Blk, Array.toArray_toList]
          exact hg
      have hbel : Below w3.heap.size w3 w4 := (Below.refl _ w3).grown hg4 (Nat.le_refl _) (fun k hk => by cases hk)
      replace HM := Lib.hid (show Mem w [blkE w3.heap.size 30 ((keyL t0 m 0).map u8v), blkE P0 30 (t0.map u8v)] w4 from ⟨⟨hb4.lt, Nat.le_succ _, hb4, HM.out.1.keep (Nat.le_refl _) (fun k _ hk => hbel.block k hk)⟩, HM.out.2.trans (hbel.mono HM.out.size)⟩)
      clear ho4 hg4 hb4 hbel
      generalize w3.heap.size = G at HM ⊢
      go_wp2_with fail
      go_loopw [25, 9] (fun i vp wr => ∃ j : Nat, j ≤ m ∧ i = .int .i64 (j : Int) ∧ Mem w [blkE G 30 ((keyL t0 m j).map u8v), blkE P0 30 (t0.map u8v)] wr ∧ ∃ Al nl, vp = .slice Al nl nl ∧ nl ≤ 32 ∧ Rd wr wr.heap.size Al nl (tB t0 j)) (fun i _ _ => m - (intOf i).toNat)
      case atStart => exact ⟨0, by omega, rfl, HM.out, none, 0, rfl, by omega, Rd.nil _ _ _⟩
      case round =>
        clear HM
        obtain ⟨j, hj, rfl, hmj, Al, nl, rfl, hnl, hrl⟩ := hrel
        have HM := Lib.hid hmj
        have HL := Lib.hid hrl
        clear hmj hrl
        by_cases hlt : j < m
        · have dj : decide ((j : Int) < (m : Int)) = true := by simp; omega
          have hidx := key_index G m j hlt
          obtain ⟨Y, hY⟩ : ∃ y, UInt8.ofNat (j + 1) = y := ⟨_, rfl⟩
          have hYn : Y.toNat = j + 1 := by rw [← hY, UInt8.toNat_ofNat', Nat.mod_eq_of_lt (by omega)]
          have y1 : IntKind.u8.wrap ((j : Int) + 1) = (Y.toNat : Int) := by rw [IntKind.wrap_u8, hYn]; omega
          have y2 : ((j : Int) + 1) % 256 = (Y.toNat : Int) := by rw [hYn]; omega
          have HTN := Lib.hid (show tB t0 (j + 1) = hmacB t0 (tB t0 j ++ [Y]) by rw [tB, hY])
          clear hY hYn
          go_wp2_with fail
          clear y1 y2 dj
          have hM2 : Mem w [blkE (wr.heap.size + 1) 22 [Value.slice Al nl nl, .slice (some ⟨wr.heap.size, 0, none⟩) 1 1], blkE wr.heap.size 5 ([Y].map u8v), blkE G 30 ((keyL t0 m j).map u8v), blkE P0 30 (t0.map u8v)] ((wr.alloc (.cells #[.int .u8 (Y.toNat : Int)] 5)).alloc (.cells #[Value.slice Al nl nl, .slice (some ⟨wr.heap.size, 0, none⟩) 1 1] 22)) := (HM.out.alloc rfl 5 _ ([Y].map u8v) rfl).alloc (by simp) 22 _ _ rfl
          have HL2 := Lib.hid ((HL.out.below (((Below.refl wr.heap.size wr).alloc (Nat.le_refl _) (.cells #[.int .u8 (Y.toNat : Int)] 5)).alloc (by simp) (.cells #[Value.slice Al nl nl, .slice (some ⟨wr.heap.size, 0, none⟩) 1 1] 22))).mono (by simp; omega : wr.heap.size ≤ ((wr.alloc (.cells #[.int .u8 (Y.toNat : Int)] 5)).alloc (.cells #[Value.slice Al nl nl, .slice (some ⟨wr.heap.size, 0, none⟩) 1 1] 22)).heap.size))
          replace HM := Lib.hid hM2
          clear hM2 HL
          generalize ((wr.alloc (.cells #[.int .u8 (Y.toNat : Int)] 5)).alloc (.cells #[Value.slice Al nl nl, .slice (some ⟨wr.heap.size, 0, none⟩) 1 1] 22)) = wa at HM HL2 ⊢
          obtain ⟨tn, htn⟩ : ∃ l, tB t0 (j + 1) = l := ⟨_, rfl⟩
          have HLN := Lib.hid (show tn.length = 32 by rw [← htn]; exact tB_length t0 j)
          have HPUT := Lib.hid (show putL ((keyL t0 m j).map u8v) (32 * j) (tn.map u8v) = (keyL t0 m (j + 1)).map u8v by rw [← htn, putL_map', keyL_put])
          have HTE := Lib.hid htn
          rw [htn] at HTN
          clear htn
          obtain ⟨cn, hcn⟩ : ∃ c, (tn.map u8v).toArray = c := ⟨_, rfl⟩
          have HCN := Lib.hid hcn
          clear hcn
          refine (kd_hmac_two kdHmacC (some ⟨P0, 0, none⟩) 32 32 t0 (Nat.le_refl _) (by unfold maxLen; omega) (by omega) (wr.heap.size + 1) 22 Al nl nl (tB t0 j) (Nat.le_refl _) (by unfold maxLen; omega) (by omega) (some ⟨wr.heap.size, 0, none⟩) 1 1 [Y] (Nat.le_refl _) (by unfold maxLen; omega) (by omega) _ (HLV.out.below HM.out.bel) (blk_all (HM.out.blk 3 rfl) HLT.out) (HM.out.blk 0 rfl) HL2.out (blk_all (HM.out.blk 1 rfl) rfl)).mono ?_
          rintro e wb ⟨rfl, hb⟩
          rw [← HTN.out, HCN.out]
          replace HM := Lib.hid (show Mem w [blkE G 30 ((keyL t0 m j).map u8v), blkE P0 30 (t0.map u8v)] wb from ((HM.out.below hb).erase 0).erase 0)
          clear hb HL2 HTN
          go_upto_region 10 with (refine wpList_store_at rfl 30 (.tmp 38) (.tmp 37) rfl G (32 * j) (tn.map u8v) rfl (by show Value.agg cn = _; rw [HCN.out]) 30 ((keyL t0 m j).map u8v) (HM.out.blk 0 rfl) (cells32 tn HLN.out) (by rw [List.length_map, List.length_map, HLN.out, keyL_length t0 m j (by omega)]; omega) (u8v_one _) ?_; intro w5 hb5 hg5; rw [HPUT.out] at hb5)
          replace HM := Lib.hid (show Mem w [blkE G 30 ((keyL t0 m (j + 1)).map u8v), blkE P0 30 (t0.map u8v)] w5 from HM.out.put 0 rfl _ hg5 hb5)
          clear hb5 hg5 HPUT HCN
          have HF := Lib.hid (show Rd w5 w5.heap.size (some ⟨G, 32 * j, none⟩) 32 (tB t0 (j + 1)) from by
            have h := (HM.out.blk 0 rfl).rd (32 * j) 32 (by rw [keyL_length t0 m (j + 1) (by omega)]; omega)
            rw [keyL_at t0 m j] at h
            exact h.mono (HM.out.blk 0 rfl).lt)
          go_wp2
          go_roundw
          case rel => exact ⟨j + 1, by omega, by go_num, HM.out, _, 32, rfl, by omega, HF.out⟩
          case measure => simp [intOf]; omega
        · obtain rfl : j = m := by omega
          have dj : decide ((j : Int) < (j : Int)) = false := by simp
          have hlow := HM.out.1.low 0 _ rfl
          have hlow : w.heap.size ≤ G := hlow
          have hbk := HM.out.blk 0 rfl
          rw [keyL_all] at hbk
          have HF := Lib.hid (show wr.ownsRow w.heap.size 30 32 (.slice (some ⟨G, 0, none⟩) j j) j (keysV (firstT t0 j)) ∧ Below w.heap.size w wr from ⟨⟨keysV_length t0 j, .inr ⟨G, j, _, rfl, hlow, hbk, Nat.le_refl _, by unfold maxLen; omega, by simpa using keysV_length t0 j, by rw [List.take_of_length_le (by simpa using Nat.le_of_eq (keysV_length t0 j))]⟩⟩, HM.out.bel⟩)
          clear HM HL hbk
          go_wp2
          go_ret
          exact ⟨_, _, rfl, HF.out.1, HF.out.2⟩
end Go.Proofs.YtbochejgjmjieaaDoor
namespace Go.Proofs.YtbochejgjmjieaaDoor
open Go.RowKit

theorem kd_parts_walk_all (w : World) (hlv : LvKdf w) (Ak : Option Addr) (nk ck : Nat) (lk : List UInt8) (Ad : Option Addr) (nd cd : Nat) (ld : List UInt8) (ia : Nat) (hkc : nk ≤ ck) (hkm : ck ≤ maxLen) (hrk : Rd w w.heap.size Ak nk lk) (hdc : nd ≤ cd) (hdm : cd ≤ maxLen) (hrd : Rd w w.heap.size Ad nd ld) (hia : ia ≤ 255) :
    Calls Tryd.prog 4 #[.slice Ak nk ck, .slice Ad nd cd, .int .u8 (ia : Int)] w fun e w' => e = .returned (.bool true) ∧ Below w.heap.size w w' :=
  kd_parts_walk kdHmacC blHashC kdExpandC w hlv Ak nk ck lk Ad nd cd ld ia hkc hkm hrk hdc hdm hrd hia
end Go.Proofs.YtbochejgjmjieaaDoor
namespace Go.Proofs.YtbochejgjmjieaaDoor.kdfParts
open Go.ChangeShapes Go.WideShapes Go.ChangeAt Go.RowKit
open Go.ChangeMaps (open_string shut_string)

/-- the heap that the initialisers leave meets the condition -/
theorem door_met (os : Os) (args : Array Value) : laidMetH Tryd.prog Rows.kdfPartsRow.laid ((World.doorLaid Tryd.prog 400 os).forCall (fun _ _ => 0) ⟨#[], args, []⟩).memory :=
  laidMetH_of_parts3 (fuel := 8) (laidMet_of_run' 8 (by kernel_rfl) (by kernel_rfl)) (by kernel_rfl) (by kernel_rfl)

set_option linter.unusedVariables false
set_option maxRecDepth 100000 in
theorem lifted (os : Os) (started : os.Started) (H : Type) (enc : TypeId × Value → H) :
    ReturnsInHanded {} Tryd.checked os 4 .any (fun w args => (Rows.kdfPartsSpec.pre enc Tryd.prog Tryd.f4 [] false w args ∧ laidMetH Tryd.prog Rows.kdfPartsRow.laid w) ∧ sizedMet enc Tryd.prog Tryd.f4 (OpenSpec.ofChange Rows.kdfPartsSpec) false w args) (Rows.kdfPartsSpec.post enc Tryd.prog Tryd.f4 false true false false) := by
  refine returnsInHanded_of_change_and (C := Tryd.checked) (X := fun w _ => laidMetH Tryd.prog Rows.kdfPartsRow.laid w) (fun _ _ _ hh h => h.of_heap hh) own started (by kernel_rfl) Tryd.func4
    (ChangeSpec.witness_shaped (enc := enc) (C := Tryd.checked) (os := os) (X := fun w _ => laidMetH Tryd.prog Rows.kdfPartsRow.laid w) false (World.doorLaid Tryd.prog 400 os) #[.slice none 0 0, .slice none 0 0, .int .u8 0] 8 rfl (World.shaped_of_RefB (by kernel_rfl) (by kernel_rfl)) (by kernel_rfl) (by kernel_rfl) (by kernel_rfl) (door_met os _)) ?_
  intro W base args ds gs before hval0 hW _ _ hL _
  have hval : ∀ (j : Nat) t v, Tryd.f4.params[j]? = some t → args[j]? = some v → Value.okWide Tryd.prog W .any base t v := hval0
  have hW' := hW
  obtain ⟨p, q, hA0, hV, rfl, hfz, hnd⟩ := hW
  have hA : DataW.TrodAll enc Tryd.prog W 0 (fun _ => true) true Tryd.f4.params.toList args.toList ds p := hA0
  rw [Tryd.params4] at hA hval
  obtain ⟨v0, vs0, d0, ds0, p0, q0, hargs, rfl, rfl, h0, r0⟩ := trodAll_cons hA
  obtain ⟨v1, vs1, d1, ds1, p1, q1, rfl, rfl, rfl, h1, r1⟩ := trodAll_cons r0
  obtain ⟨v2, vs2, d2, ds2, p2, q2, rfl, rfl, rfl, h2, r2⟩ := trodAll_cons r1
  obtain ⟨rfl, rfl, rfl⟩ := trodAll_nil r2
  obtain rfl : args = #[v0, v1, v2] := by cases args; simp_all
  obtain ⟨rfl, rfl⟩ := trodVars_none hV
  have k0 := h0
  have lt0 : ∀ x ∈ p0, x.block < W.heap.size := by obtain ⟨m, hm⟩ := k0; exact DataW.trod_lt m _ _ _ hm
  obtain ⟨A0, len0, cap0, l0, rfl, hl0, hm0, hr0⟩ := open_bytes Tryd.underlying22 Tryd.underlying5 (by kernel_rfl) (hval 0 22 v0 rfl rfl) h0
  have k1 := h1
  have lt1 : ∀ x ∈ p1, x.block < W.heap.size := by obtain ⟨m, hm⟩ := k1; exact DataW.trod_lt m _ _ _ hm
  obtain ⟨A1, len1, cap1, l1, rfl, hl1, hm1, hr1⟩ := open_bytes Tryd.underlying22 Tryd.underlying5 (by kernel_rfl) (hval 1 22 v1 rfl rfl) h1
  obtain ⟨a2, rfl, rfl, rfl, w2⟩ := open_int Tryd.underlying5 (hval 2 5 v2 rfl rfl) h2
  obtain ⟨n2, rfl⟩ : ∃ n2 : Nat, a2 = (n2 : Int) := ⟨a2.toNat, by have := bounds_u8 w2; omega⟩
  clear hA0 hval0
  refine (kd_parts_walk_all W (lvBlake_of hL (.head _) (.tail _ (.head _))) A0 len0 cap0 l0 A1 len1 cap1 l1 n2 hl0 hm0 hr0 hl1 hm1 hr1 (by have := bounds_u8 w2; omega)).mono fun e W' ⟨he, bel⟩ => ?_
  subst he
  exact ⟨_, rfl, _, _, _, [], _, [], hW', trodAll_mk1 (shut_bool Tryd.underlying4 _), (trodAll_cons_mk (Below.trod laidOut (by kernel_rfl) (of_decide_eq_true (by kernel_rfl)) k0 bel lt0) (trodAll_cons_mk (Below.trod laidOut (by kernel_rfl) (of_decide_eq_true (by kernel_rfl)) k1 bel lt1) (trodAll_cons_mk (shut_int Tryd.underlying5 w2) trodAll_mk0))), rfl, bel.frame _, fun h => by cases h⟩

theorem over : Rows.kdfPartsRow.holds Tryd.pinned (OpenSpec.ofChange Rows.kdfPartsSpec) :=
  OpenClaim.holds_of_wide 4 Tryd.f4 rfl rfl rfl rfl rfl rfl rfl ⟨rfl, rfl, rfl, rfl, rfl⟩ rfl rfl rfl rfl rfl (by kernel_rfl) Tryd.func4 (by kernel_rfl)
    (of_decide_eq_true (by kernel_rfl)) (by unfold Func.isWrapper; first | (rw [if_pos (by decide +kernel)]; kernel_rfl) | (rw [if_neg (by decide +kernel)]; exact ⟨rfl, rfl⟩))
    (fun os started H enc _ => lifted os started H enc)

theorem proved : Rows.KdfPartsCardSaid :=
  Claim7.holds_tied_plain_at .later [] [.data, .data] true Rows.kdfPartsCard.stood.harness Rows.kdfPartsCard.stood.looks
    over (fun _ h => by cases h) (by kernel_rfl) (fun _ h => by cases h) kdfParts_row_tie rfl ⟨rfl, rfl⟩ (by kernel_rfl) (by kernel_rfl)
    (fun f fn hf hfn => by
      obtain rfl : f = 4 := Option.some.inj ((show Tryd.prog.funcNamed "burrow/burrowlaw07.KdfParts" = some 4 by kernel_rfl).symm.trans hf) |>.symm
      obtain rfl : fn = Tryd.f4 := (Option.some.inj (Tryd.func4.symm.trans hfn)).symm
      exact ⟨by kernel_rfl, fun j t ht => by
        rw [Tryd.params4] at ht
        have hm : t ∈ [22, 5] := by
          have h := Array.mem_of_getElem? ht
          simp at h
          simp
          omega
        have hall : ([22, 5].all fun u => !Tryd.prog.wantsStandIn u) = true := by kernel_rfl
        exact (show Tryd.prog.wantsStandIn t = false by simpa using List.all_eq_true.1 hall t hm)⟩)
    (by kernel_rfl)
#print axioms proved
end Go.Proofs.YtbochejgjmjieaaDoor.kdfParts
