/-
  What a row's condition on package-level variables gives: the blocks of listed arrays of numbers, one deep and two deep. No statement is proved here.
-/
import Derived.Test.YtellicmnopfkgaaDoorMem
import Derived.ProofKit
import Derived.LaidMore
import Derived.OpenShut
import Derived.Stop.Joined
import Derived.MakeChecks
namespace Go.Proofs.YtellicmnopfkgaaDoor
open Go.RowKit Go.ChangeShapes Go.WideShapes Go.ChangeAt

theorem laid_data {P : Program} {l : List (String × DataW Unit)} {W : World} (h : laidMetH P l W) : laidMet P (l.filter fun x => x.2.handleName?.isNone) W := by
  unfold laidMetH at h
  generalize hfl : (l.filter fun x => x.2.handleName?.isSome) = fl at h
  cases fl with
  | nil =>
    have e : (l.filter fun x => x.2.handleName?.isNone) = l := by
      rw [List.filter_eq_self]
      intro x hx
      have := (List.filter_eq_nil_iff.1 hfl) x hx
      cases hn : x.2.handleName? with
      | none => rfl
      | some s => rw [hn] at this; exact absurd rfl this
    rw [e]
    exact h
  | cons y ys => exact h.1
theorem laid_in {P : Program} {W : World} : ∀ {l : List (String × DataW Unit)} {ps : List MemPlace}, DataW.LaidVars P W l ps → ∀ {n : String} {d : DataW Unit}, (n, d) ∈ l →
    ∃ g t cs fuel p, P.globalNamed n = some g ∧ (P.globals[g]?).map (·.type) = some t ∧ W.var? P n = some cs ∧ DataW.trod (fun _ => ()) P W 0 (fun _ => true) false fuel t cs.toList = some (d, p) ∧ (0 < cs.size → MemPlace.cell g 0 ∈ ps)
  | [], _, _, _, _, hx => by cases hx
  | (n0, d0) :: r, ps, h, n, d, hx => by
    obtain ⟨g, t, cs, fuel, p, q, hg, ht, hv, hd, hr, hps⟩ := h
    rcases List.mem_cons.1 hx with e | hx'
    · obtain ⟨rfl, rfl⟩ := Prod.mk.injEq .. ▸ e
      refine ⟨g, t, cs, fuel, p, hg, ht, hv, hd, fun h0 => ?_⟩
      rw [hps]
      refine List.mem_append_left _ (List.mem_append_left _ ?_)
      unfold MemPlace.row
      exact List.mem_map.2 ⟨0, List.mem_range.2 h0, rfl⟩
    · obtain ⟨g', t', cs', fuel', p', h1, h2, h3, h4, h5⟩ := laid_in hr hx'
      refine ⟨g', t', cs', fuel', p', h1, h2, h3, h4, fun h0 => ?_⟩
      rw [hps]
      exact List.mem_append_right _ (h5 h0)
/-- a listed variable's block -/
theorem laid_blk {P : Program} {W : World} {l : List (String × DataW Unit)} (h : laidMetH P l W) {n : String} {d : DataW Unit} (hx : (n, d) ∈ l) (hn : d.handleName?.isNone = true) {g0 : Nat} {t0 : TypeId} (hg0 : P.globalNamed n = some g0) (ht0 : (P.globals[g0]?).map (·.type) = some t0) :
    ∃ (cs : List Value) (fuel : Nat) (p : List MemPlace), DataW.trod (fun _ => ()) P W 0 (fun _ => true) false fuel t0 cs = some (d, p) ∧ (0 < cs.length → ∃ t, Blk W g0 t cs) := by
  obtain ⟨ps, hl, _, hcell⟩ := laid_data h
  obtain ⟨g, t, cs, fuel, p, hg, ht, hv, hd, hp⟩ := laid_in hl (List.mem_filter.2 ⟨hx, hn⟩)
  obtain rfl := Option.some.inj (hg0.symm.trans hg)
  obtain rfl := Option.some.inj (ht0.symm.trans ht)
  refine ⟨cs.toList, fuel, p, hd, fun h0 => ?_⟩
  obtain ⟨⟨c, t, hc⟩, _⟩ := hcell g0 0 (hp (by simpa using h0))
  refine ⟨t, ?_⟩
  simp only [World.var?, hg, Option.bind_some, hc, Option.some.injEq] at hv
  subst hv
  exact hc
section
variable {H : Type} {enc : TypeId × Value → H} {P : Program} {w : World} {base : Nat} {sp : Nat → Bool} {held : Bool}
theorem laid_ints {fuel : Nat} {t e : TypeId} {n : Nat} {k : IntKind} {cs : List Value} {zs : List Int} {p : List MemPlace} (ht : P.underlying t = some (.array n e)) (he : P.underlying e = some (.int k)) (hc : P.cellsOf e = 1) (hct : P.cellsOf t = n)
    (h : DataW.trod enc P w base sp held fuel t cs = some (.agg (zs.map fun z => .lit (.int k z)), p)) : cs = zs.map fun z => .int k z := by
  obtain ⟨xs, m, _, hx, hl, hn, hat⟩ := DataW.trod_array ht h
  simp only [Prod.mk.injEq, DataW.agg.injEq] at hx
  have hzl : zs.length = n := by
    have := congrArg List.length hx.1
    simp only [List.length_map] at this
    omega
  apply List.ext_getElem?
  intro i
  by_cases hi : i < n
  · have h1 := hat i hi
    rw [hc, Nat.mul_one] at h1
    have hxi : xs[i]? = some (xs[i]'(by omega)) := List.getElem?_eq_getElem (by omega)
    rw [hxi] at h1
    obtain ⟨z, hz, hy, _⟩ := DataW.trod_int he h1
    have h2 : (zs.map fun z => (DataW.lit (.int k z) : DataW H))[i]? = (xs.map (·.1))[i]? := by rw [hx.1]
    rw [List.getElem?_map, List.getElem?_map, hxi, hy, List.getElem?_eq_getElem (show i < zs.length by omega)] at h2
    simp only [Option.map_some, Option.some.injEq, DataW.lit.injEq, Lit.int.injEq, true_and] at h2
    have h3 : cs[i]? = some (.int k z) := by
      have h4 := congrArg (fun l : List Value => l[0]?) hz
      simpa [List.getElem?_take, List.getElem?_drop] using h4
    rw [h3, List.getElem?_map, List.getElem?_eq_getElem (show i < zs.length by omega), ← h2]
    rfl
  · rw [List.getElem?_eq_none (by omega), List.getElem?_eq_none (by simp; omega)]
theorem chunks_flat (m : Nat) (cs : List Value) : ∀ k : Nat, ((List.range k).map fun i => (cs.drop (i * m)).take m).flatten = cs.take (k * m)
  | 0 => by simp
  | k + 1 => by
    rw [List.range_succ, List.map_append, List.flatten_append, chunks_flat m cs k, show (k + 1) * m = k * m + m by rw [Nat.succ_mul], List.take_add]
    simp
theorem laid_rows {fuel : Nat} {t e : TypeId} {n m : Nat} {cs : List Value} {ds : List (DataW H)} {p : List MemPlace} (ht : P.underlying t = some (.array n e)) (hce : P.cellsOf e = m) (hct : P.cellsOf t = n * m)
    (h : DataW.trod enc P w base sp held fuel t cs = some (.agg ds, p)) (rows : List (List Value)) (hlen : rows.length = n)
    (hr : ∀ (i : Nat) (c : List Value) (d : DataW H) (fuel : Nat) (q : List MemPlace), ds[i]? = some d → DataW.trod enc P w base sp held fuel e c = some (d, q) → rows[i]? = some c) : cs = rows.flatten := by
  obtain ⟨xs, f, _, hx, hl, hn, hat⟩ := DataW.trod_array ht h
  simp only [Prod.mk.injEq, DataW.agg.injEq] at hx
  have hcs : cs.length = n * m := by rw [hl, hct]
  have hrows : rows = (List.range n).map fun i => (cs.drop (i * m)).take m := by
    apply List.ext_getElem?
    intro i
    by_cases hi : i < n
    · have h1 := hat i hi
      rw [hce] at h1
      have hxi : xs[i]? = some (xs[i]'(by omega)) := List.getElem?_eq_getElem (by omega)
      rw [hxi] at h1
      have h2 : ds[i]? = some (xs[i]'(by omega)).1 := by rw [hx.1, List.getElem?_map, hxi]; rfl
      rw [hr i _ _ f _ h2 h1, List.getElem?_map, List.getElem?_range hi]
      rfl
    · rw [List.getElem?_eq_none (by omega), List.getElem?_eq_none (by simp; omega)]
  rw [hrows, chunks_flat, List.take_of_length_le (by omega)]
end
end Go.Proofs.YtellicmnopfkgaaDoor
