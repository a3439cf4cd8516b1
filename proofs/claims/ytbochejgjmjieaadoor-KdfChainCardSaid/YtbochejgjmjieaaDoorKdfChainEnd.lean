/-
  KdfChain returns true for every input, and each argument reads afterwards as it read before, the package-level variables that it comes to holding what the program's text lays in them: the given card, without a further condition.
-/
import Derived.Test.YtbochejgjmjieaaDoorMem
import Derived.ProofKit
import Derived.OpenShut
import Derived.LaidMore
import Derived.Stop.Joined
import Derived.MakeChecks
import Derived.Test.YtbochejgjmjieaaDoorBlC
import Derived.Test.YtbochejgjmjieaaDoorRows
import Derived.Test.YtbochejgjmjieaaDoorKdBegun
import Derived.Test.YtbochejgjmjieaaDoorCut
import Derived.Test.YtbochejgjmjieaaDoorCells32
import Derived.Test.YtbochejgjmjieaaDoorTwoOwn
import Derived.Test.YtbochejgjmjieaaDoorKdProg
import Derived.Test.YtbochejgjmjieaaDoorCards
import Derived.Test.YtbochejgjmjieaaDoorTie
import Derived.LaidHandle
namespace Go.Proofs.YtbochejgjmjieaaDoor
open Go.RowKit Go.ChangeShapes Go.WideShapes Go.ChangeAt

theorem own : ownKnob Tryd.prog.godebug = none := by kernel_rfl
theorem laidOut : laidOutB Tryd.prog = true := by kernel_rfl

section
variable {H : Type} {enc : TypeId × Value → H} {P : Program} {W : World}

theorem open_bytes {r : Reach} {b0 : Nat} {t e : TypeId} {v : Value} {d : DataW H} {p : List MemPlace} (ht : P.underlying t = some (.slice e)) (he : P.underlying e = some (.int .u8)) (hc : P.cellsOf e = 1)
    (hv : Value.okWide P W r b0 t v) (h : DataW.Trod enc P W 0 (fun _ => true) true t v d p) :
    ∃ A len cap l, v = .slice A len cap ∧ len ≤ cap ∧ cap ≤ maxLen ∧ Rd W W.heap.size A len l := by
  obtain ⟨A, len, cap, rfl⟩ := okWide_slice ht hv
  obtain ⟨fuel, hf⟩ := h
  rcases open_ints ht he hc hf with ⟨hcs, _⟩ | ⟨x, l, c, zs, hcs, _, hl, hm, hz, _, hcell, hwz⟩
  · simp [Value.cells] at hcs
    obtain ⟨rfl, rfl, rfl⟩ := hcs
    exact ⟨none, 0, 0, [], rfl, Nat.le_refl _, by simp, Rd.nil _ _ _⟩
  · simp [Value.cells] at hcs
    obtain ⟨rfl, rfl, rfl⟩ := hcs
    simp only [if_true] at hz
    have hlen : ((zs.take len).map (fun z => UInt8.ofNat z.toNat)).length = len := by simp; omega
    refine ⟨some x, len, cap, (zs.take len).map (fun z => UInt8.ofNat z.toNat), rfl, hl, hm, hlen, fun hp => ?_⟩
    obtain ⟨b, off, spot⟩ := x
    have h0 := hcell 0 (by omega)
    have hspot : spot = none := by simpa [Addr.add] using World.cell?_spot h0
    subst hspot
    refine ⟨b, off, rfl, by have := World.block_lt_of_cell? W _ h0; simpa [Addr.add] using this, fun j hj => ?_⟩
    have hj' : j < zs.length := by omega
    have hcj := hcell j hj'
    rw [add_plain] at hcj
    have hw := bounds_u8 (hwz zs[j] (List.getElem_mem hj'))
    rw [hcj, List.getElem_map, List.getElem_take]
    have : zs.getD j 0 = zs[j] := by simp [List.getD, hj']
    rw [this, UInt8.toNat_ofNat', Nat.mod_eq_of_lt (by omega)]
    congr 2
    omega

theorem open_key {r : Reach} {b0 n : Nat} {t e : TypeId} {v : Value} {d : DataW H} {p : List MemPlace} (ht : P.underlying t = some (.array n e)) (he : P.underlying e = some (.int .u8)) (hc : P.cellsOf e = 1) (hct : P.cellsOf t = n)
    (hv : Value.okWide P W r b0 t v) (h : DataW.Trod enc P W 0 (fun _ => true) true t v d p) :
    ∃ l : List UInt8, v = .agg (l.map u8v).toArray ∧ l.length = n := by
  simp only [Value.okWide, ht] at hv
  obtain ⟨cs, rfl, hsz, _⟩ := hv
  obtain ⟨fuel, hf⟩ := h
  obtain ⟨xs, m, _, hx, hl, hn, hat⟩ := DataW.trod_array ht hf
  have each : ∀ i (hi : i < n), ∃ b : UInt8, cs[i]'(by omega) = u8v b := by
    intro i hi
    have h1 := hat i hi
    rw [hc, Nat.mul_one, List.getElem?_eq_getElem (by omega)] at h1
    obtain ⟨z, hz, _, hw⟩ := DataW.trod_int he h1
    have hb := bounds_u8 hw
    have hcl : (Value.cells (.agg cs)).toList = cs.toList := rfl
    have h1d : (cs.toList.drop i).take 1 = [cs[i]'(by omega)] := by
      rw [List.drop_eq_getElem_cons (by simp; omega)]
      simp
    rw [hcl, h1d] at hz
    simp only [List.cons.injEq, and_true] at hz
    refine ⟨UInt8.ofNat z.toNat, ?_⟩
    have hz' : cs[i]'(by omega) = .int .u8 z := hz
    rw [hz']
    unfold u8v
    rw [UInt8.toNat_ofNat', Nat.mod_eq_of_lt (by omega)]
    congr 1
    omega
  refine ⟨(List.range n).map fun i => if hi : i < n then (each i hi).choose else 0, ?_, by simp⟩
  congr 1
  refine Array.ext (by simp; omega) fun i h1 h2 => ?_
  have hi : i < n := by omega
  simp only [List.getElem_toArray, List.getElem_map, List.getElem_range, dif_pos hi]
  exact (each i hi).choose_spec
end
end Go.Proofs.YtbochejgjmjieaaDoor
namespace Go.Proofs.YtbochejgjmjieaaDoor
open Go.RowKit Go.ChangeShapes Go.WideShapes Go.ChangeAt

theorem laid_data {P : Program} {l : List (String × DataW Unit)} {W : World} (h : laidMetH P l W) : laidMet P (l.filter fun x => x.2.handleName?.isNone) W := by
  unfold laidMetH at h
  generalize hfl : (l.filter fun x => x.2.handleName?.isSome) = fl at h
  cases fl with
  | nil =>
    have e : (l.filter fun x => x.2.handleName?.isNone) = l := by
      rw [List.filter_eq_self]
      intro x hx
      have := (List.filter_eq_nil_iff.1 hfl) x hx
      cases hn : x.2.handleName? with
      | none => rfl
      | some s => rw [hn] at this; exact absurd rfl this
    rw [e]
    exact h
  | cons y ys => exact h.1
theorem laid_in {P : Program} {W : World} : ∀ {l : List (String × DataW Unit)} {ps : List MemPlace}, DataW.LaidVars P W l ps → ∀ {n : String} {d : DataW Unit}, (n, d) ∈ l →
    ∃ g t cs fuel p, P.globalNamed n = some g ∧ (P.globals[g]?).map (·.type) = some t ∧ W.var? P n = some cs ∧ DataW.trod (fun _ => ()) P W 0 (fun _ => true) false fuel t cs.toList = some (d, p) ∧ (0 < cs.size → MemPlace.cell g 0 ∈ ps)
  | [], _, _, _, _, hx => by cases hx
  | (n0, d0) :: r, ps, h, n, d, hx => by
    obtain ⟨g, t, cs, fuel, p, q, hg, ht, hv, hd, hr, hps⟩ := h
    rcases List.mem_cons.1 hx with e | hx'
    · obtain ⟨rfl, rfl⟩ := Prod.mk.injEq .. ▸ e
      refine ⟨g, t, cs, fuel, p, hg, ht, hv, hd, fun h0 => ?_⟩
      rw [hps]
      refine List.mem_append_left _ (List.mem_append_left _ ?_)
      unfold MemPlace.row
      exact List.mem_map.2 ⟨0, List.mem_range.2 h0, rfl⟩
    · obtain ⟨g', t', cs', fuel', p', h1, h2, h3, h4, h5⟩ := laid_in hr hx'
      refine ⟨g', t', cs', fuel', p', h1, h2, h3, h4, fun h0 => ?_⟩
      rw [hps]
      exact List.mem_append_right _ (h5 h0)
/-- a listed variable's block -/
theorem laid_blk {P : Program} {W : World} {l : List (String × DataW Unit)} (h : laidMetH P l W) {n : String} {d : DataW Unit} (hx : (n, d) ∈ l) (hn : d.handleName?.isNone = true) {g0 : Nat} {t0 : TypeId} (hg0 : P.globalNamed n = some g0) (ht0 : (P.globals[g0]?).map (·.type) = some t0) :
    ∃ (cs : List Value) (fuel : Nat) (p : List MemPlace), DataW.trod (fun _ => ()) P W 0 (fun _ => true) false fuel t0 cs = some (d, p) ∧ (0 < cs.length → ∃ t, Blk W g0 t cs) := by
  obtain ⟨ps, hl, _, hcell⟩ := laid_data h
  obtain ⟨g, t, cs, fuel, p, hg, ht, hv, hd, hp⟩ := laid_in hl (List.mem_filter.2 ⟨hx, hn⟩)
  obtain rfl := Option.some.inj (hg0.symm.trans hg)
  obtain rfl := Option.some.inj (ht0.symm.trans ht)
  refine ⟨cs.toList, fuel, p, hd, fun h0 => ?_⟩
  obtain ⟨⟨c, t, hc⟩, _⟩ := hcell g0 0 (hp (by simpa using h0))
  refine ⟨t, ?_⟩
  simp only [World.var?, hg, Option.bind_some, hc, Option.some.injEq] at hv
  subst hv
  exact hc
section
variable {H : Type} {enc : TypeId × Value → H} {P : Program} {w : World} {base : Nat} {sp : Nat → Bool} {held : Bool}
theorem laid_ints {fuel : Nat} {t e : TypeId} {n : Nat} {k : IntKind} {cs : List Value} {zs : List Int} {p : List MemPlace} (ht : P.underlying t = some (.array n e)) (he : P.underlying e = some (.int k)) (hc : P.cellsOf e = 1) (hct : P.cellsOf t = n)
    (h : DataW.trod enc P w base sp held fuel t cs = some (.agg (zs.map fun z => .lit (.int k z)), p)) : cs = zs.map fun z => .int k z := by
  obtain ⟨xs, m, _, hx, hl, hn, hat⟩ := DataW.trod_array ht h
  simp only [Prod.mk.injEq, DataW.agg.injEq] at hx
  have hzl : zs.length = n := by
    have := congrArg List.length hx.1
    simp only [List.length_map] at this
    omega
  apply List.ext_getElem?
  intro i
  by_cases hi : i < n
  · have h1 := hat i hi
    rw [hc, Nat.mul_one] at h1
    have hxi : xs[i]? = some (xs[i]'(by omega)) := List.getElem?_eq_getElem (by omega)
    rw [hxi] at h1
    obtain ⟨z, hz, hy, _⟩ := DataW.trod_int he h1
    have h2 : (zs.map fun z => (DataW.lit (.int k z) : DataW H))[i]? = (xs.map (·.1))[i]? := by rw [hx.1]
    rw [List.getElem?_map, List.getElem?_map, hxi, hy, List.getElem?_eq_getElem (show i < zs.length by omega)] at h2
    simp only [Option.map_some, Option.some.injEq, DataW.lit.injEq, Lit.int.injEq, true_and] at h2
    have h3 : cs[i]? = some (.int k z) := by
      have h4 := congrArg (fun l : List Value => l[0]?) hz
      simpa [List.getElem?_take, List.getElem?_drop] using h4
    rw [h3, List.getElem?_map, List.getElem?_eq_getElem (show i < zs.length by omega), ← h2]
    rfl
  · rw [List.getElem?_eq_none (by omega), List.getElem?_eq_none (by simp; omega)]
theorem chunks_flat (m : Nat) (cs : List Value) : ∀ k : Nat, ((List.range k).map fun i => (cs.drop (i * m)).take m).flatten = cs.take (k * m)
  | 0 => by simp
  | k + 1 => by
    rw [List.range_succ, List.map_append, List.flatten_append, chunks_flat m cs k, show (k + 1) * m = k * m + m by rw [Nat.succ_mul], List.take_add]
    simp
theorem laid_rows {fuel : Nat} {t e : TypeId} {n m : Nat} {cs : List Value} {ds : List (DataW H)} {p : List MemPlace} (ht : P.underlying t = some (.array n e)) (hce : P.cellsOf e = m) (hct : P.cellsOf t = n * m)
    (h : DataW.trod enc P w base sp held fuel t cs = some (.agg ds, p)) (rows : List (List Value)) (hlen : rows.length = n)
    (hr : ∀ (i : Nat) (c : List Value) (d : DataW H) (fuel : Nat) (q : List MemPlace), ds[i]? = some d → DataW.trod enc P w base sp held fuel e c = some (d, q) → rows[i]? = some c) : cs = rows.flatten := by
  obtain ⟨xs, f, _, hx, hl, hn, hat⟩ := DataW.trod_array ht h
  simp only [Prod.mk.injEq, DataW.agg.injEq] at hx
  have hcs : cs.length = n * m := by rw [hl, hct]
  have hrows : rows = (List.range n).map fun i => (cs.drop (i * m)).take m := by
    apply List.ext_getElem?
    intro i
    by_cases hi : i < n
    · have h1 := hat i hi
      rw [hce] at h1
      have hxi : xs[i]? = some (xs[i]'(by omega)) := List.getElem?_eq_getElem (by omega)
      rw [hxi] at h1
      have h2 : ds[i]? = some (xs[i]'(by omega)).1 := by rw [hx.1, List.getElem?_map, hxi]; rfl
      rw [hr i _ _ f _ h2 h1, List.getElem?_map, List.getElem?_range hi]
      rfl
    · rw [List.getElem?_eq_none (by omega), List.getElem?_eq_none (by simp; omega)]
  rw [hrows, chunks_flat, List.take_of_length_le (by omega)]
end
end Go.Proofs.YtbochejgjmjieaaDoor
namespace Go.Proofs.YtbochejgjmjieaaDoor
open Go.RowKit

set_option maxRecDepth 100000 in
theorem laid_initial_is : (Rows.laid_burrow_blake_initial : DataW Unit) = .agg ((ivW.map fun x => (x.toNat : Int)).map fun z => .lit (.int .u32 z)) := by kernel_rfl
set_option maxRecDepth 100000 in
theorem laid_perm_is : (Rows.laid_burrow_blake_permutations : DataW Unit) = .agg (ordT.map fun r => .agg ((r.map fun i : Nat => (i : Int)).map fun z => .lit (.int .u8 z))) := by kernel_rfl
theorem lvBlake_of {W : World} {l : List (String × DataW Unit)} (h : laidMetH Tryd.prog l W) (h1 : ("burrow/blake.initial", Rows.laid_burrow_blake_initial) ∈ l) (h2 : ("burrow/blake.permutations", Rows.laid_burrow_blake_permutations) ∈ l) : LvBlake W := by
  constructor
  · obtain ⟨cs, fuel, p, hd, hb⟩ := laid_blk h h1 (by kernel_rfl) (show Tryd.prog.globalNamed "burrow/blake.initial" = some 0 by kernel_rfl) (show (Tryd.prog.globals[0]?).map (·.type) = some 46 by kernel_rfl)
    rw [laid_initial_is] at hd
    have e := laid_ints Tryd.underlying46 Tryd.underlying44 (by kernel_rfl) (by kernel_rfl) hd
    subst e
    rw [List.map_map] at hb
    exact hb (by decide)
  · obtain ⟨cs, fuel, p, hd, hb⟩ := laid_blk h h2 (by kernel_rfl) (show Tryd.prog.globalNamed "burrow/blake.permutations" = some 1 by kernel_rfl) (show (Tryd.prog.globals[1]?).map (·.type) = some 67 by kernel_rfl)
    rw [laid_perm_is] at hd
    have e := laid_rows (m := 16) Tryd.underlying67 (by kernel_rfl) (by kernel_rfl) hd (ordT.map fun r => r.map fun i : Nat => .int .u8 (i : Int)) rfl (by
      intro i c d fuel q hdi ht
      rw [List.getElem?_map] at hdi
      cases hr : ordT[i]? with
      | none => rw [hr] at hdi; cases hdi
      | some r =>
        rw [hr, Option.map_some, Option.some.injEq] at hdi
        subst hdi
        rw [laid_ints Tryd.underlying66 Tryd.underlying5 (by kernel_rfl) (by kernel_rfl) ht, List.getElem?_map, hr, List.map_map]
        rfl)
    rw [show (ordT.map fun r => r.map fun i : Nat => Value.int .u8 (i : Int)).flatten = permV from rfl] at e
    subst e
    exact hb (Nat.lt_of_lt_of_eq (show 0 < 160 by decide) (show 160 = permV.length by kernel_rfl))
end Go.Proofs.YtbochejgjmjieaaDoor
namespace Go.Proofs.YtbochejgjmjieaaDoor
open Go.RowKit

theorem mod_twice (x : Int) (n : Nat) (h1 : 1 ≤ n) : (x.tmod (n : Int) + (n : Int)).tmod (n : Int) = x % (n : Int) := by
  have hb : -(n : Int) < x.tmod n := Int.lt_tmod_of_pos x (by omega)
  rw [Int.tmod_eq_emod_of_nonneg (by omega)]
  have e : x.tmod (n : Int) + (n : Int) = x + (n : Int) * (1 - x.tdiv n) := by
    have h := Int.mul_tdiv_add_tmod x n
    rw [Int.mul_sub, Int.mul_one]
    omega
  rw [e, Int.add_mul_emod_self_left]
end Go.Proofs.YtbochejgjmjieaaDoor
namespace Go.Proofs.YtbochejgjmjieaaDoor
open Go.RowKit

set_option maxRecDepth 100000 in
theorem mod_any (x : Int) (n : Nat) (h1 : 1 ≤ n) (h2 : n ≤ 100000) (w : World) :
    Calls Tryd.prog 7 #[.int .i64 x, .int .i64 (n : Int)] w fun e w' => e = .returned (.int .i64 (x % (n : Int))) ∧ w = w' := by
  have d1 : decide ((n : Int) < 1) = false := by simp; omega
  have hn : ¬ (n : Int) = 0 := by omega
  have hm := mod_twice x n h1
  have b1 : -(n : Int) < x.tmod n := Int.lt_tmod_of_pos x (by omega)
  have b2 : x.tmod n < n := Int.tmod_lt_of_pos x (by omega)
  have hw : wrap64 (x.tmod (n : Int) + (n : Int)) = x.tmod (n : Int) + (n : Int) := IntWalk.wrap64_in _ (by omega)
  clear b1 b2
  go_enter Tryd.func7, Tryd.ntmps7
  go_wp2
  go_ret
  exact ⟨rfl, rfl⟩
end Go.Proofs.YtbochejgjmjieaaDoor
namespace Go.Proofs.YtbochejgjmjieaaDoor
open Go.RowKit

theorem RdKeys.mono {W : World} {B B' : Nat} {A : Option Addr} {n : Nat} {ks : List (List UInt8)} (h : RdKeys W B A n ks) (hb : B ≤ B') : RdKeys W B' A n ks :=
  ⟨h.1, h.2.1, fun hn => by
    obtain ⟨b, off, e, hlt, hc⟩ := h.2.2 hn
    exact ⟨b, off, e, by omega, hc⟩⟩
theorem expandB_keys (key inp : List UInt8) (n : Int) : ∀ k ∈ expandB key inp n, k.length = 32 := by
  unfold expandB
  split
  · intro k hk; cases hk
  · intro k hk
    obtain ⟨i, _, rfl⟩ := List.mem_map.1 hk
    exact tB_length _ _
theorem expandB_le (key inp : List UInt8) (n : Int) : (expandB key inp n).length ≤ 1000 := by
  unfold expandB
  split
  · simp
  · rw [List.length_map, List.length_range]; omega
theorem made_n (n : Nat) : (madeCells (Value.int IntKind.u8 0).cells (n * 1)).toList = (List.replicate n (0 : UInt8)).map u8v := by
  rw [show (Value.int IntKind.u8 0).cells = #[.int .u8 0] from rfl, toList_madeCells_one, Nat.mul_one, List.map_replicate]
  rfl

set_option maxRecDepth 100000 in
set_option maxHeartbeats 8000000 in
theorem kd_derives_walk (HH : KdHmacC) (HX : KdExpandC) (w : World) (hlv : LvKdf w) (Ak : Option Addr) (nk ck : Nat) (lk : List UInt8) (Aa : Option Addr) (na ca : Nat) (la : List UInt8) (Ab : Option Addr) (nb cb : Nat) (lb : List UInt8) (n : Int) (hkc : nk ≤ ck) (hkm : ck ≤ maxLen) (hrk : Rd w w.heap.size Ak nk lk) (hac : na ≤ ca) (ham : ca ≤ maxLen) (hra : Rd w w.heap.size Aa na la) (hbc : nb ≤ cb) (hbm : cb ≤ maxLen) (hrb : Rd w w.heap.size Ab nb lb) (_hn : -9223372036854775808 ≤ n ∧ n ≤ 9223372036854775807) :
    Calls Tryd.prog 3 #[.slice Ak nk ck, .slice Aa na ca, .slice Ab nb cb, .int .i64 n] w fun e w' => e = .returned (.bool true) ∧ Below w.heap.size w w' := by
  have HM := Lib.hid (Mem.nil w)
  have HK := Lib.hid hrk
  have HA := Lib.hid hra
  have HB := Lib.hid hrb
  have HHC := Lib.hid HH
  have HLV := Lib.hid hlv
  clear hlv
  have HXC := Lib.hid HX
  have HBG := Lib.hid (kd_begun_any HX)
  clear hrk hra hrb HH HX
  go_enter Tryd.func3, Tryd.ntmps3
  go_wp2_with fail
  refine (cut_any _ Ak nk ck 90 lk hkc hkm _ (HK.out.below HM.out.bel)).mono ?_
  rintro e wc ⟨rfl, hcut, rfl⟩
  clear hcut
  go_wp2_with fail
  refine (cut_any _ Aa na ca 80 la hac ham _ (HA.out.below HM.out.bel)).mono ?_
  rintro e wc ⟨rfl, hcut, rfl⟩
  clear hcut
  go_wp2_with fail
  refine (cut_any _ Ab nb cb 80 lb hbc hbm _ (HB.out.below HM.out.bel)).mono ?_
  rintro e wc ⟨rfl, hcut, rfl⟩
  clear hcut
  obtain ⟨kn, hkn⟩ : ∃ n, min nk 90 = n := ⟨_, rfl⟩
  obtain ⟨an, han⟩ : ∃ n, min na 80 = n := ⟨_, rfl⟩
  obtain ⟨bn, hbn⟩ : ∃ n, min nb 80 = n := ⟨_, rfl⟩
  have k1 : kn ≤ ck := by omega
  have k2 : kn ≤ 90 := by omega
  have a1 : an ≤ ca := by omega
  have a2 : an ≤ 80 := by omega
  have b1 : bn ≤ cb := by omega
  have b2 : bn ≤ 80 := by omega
  replace HK := Lib.hid (HK.out.take (m := kn) (by omega))
  replace HA := Lib.hid (HA.out.take (m := an) (by omega))
  replace HB := Lib.hid (HB.out.take (m := bn) (by omega))
  rw [hkn, han, hbn]
  clear hkn han hbn
  generalize lk.take kn = kl at HK
  generalize la.take an = la at HA
  generalize lb.take bn = lb at HB
  obtain ⟨i0, hi, hz0, hz1, hz2⟩ := info_parts Tryd.info5
  obtain ⟨wm, hmk, r1, r2⟩ := run_make_full (P := Tryd.prog) w w.heap.size 22 5 i0 (.int .u8 0) 1 Tryd.underlying22 hi hz0 hz1 .i64 .i64 65 (by rw [hz2]; omega) (by unfold maxLen; omega) (Nat.le_refl _)
  have hmk : (Instr.makeSlice 22 (.int .i64 65) (.int .i64 65)).run Tryd.prog w = .ok (.slice (some ⟨w.heap.size, 0, none⟩) 65 65) wm := hmk
  rw [made_n 65] at r1
  have hbm2 : Below w.heap.size w wm := (Below.refl _ w).grown r2 (Nat.le_refl _) (fun k hk => by cases hk)
  replace HM := Lib.hid (show Mem w [rdE w.heap.size wm.heap.size (some ⟨w.heap.size, 0, none⟩) 65 (List.replicate 65 0)] wm from HM.out.call hbm2 _ rfl rfl (RdIn.of_own r1))
  have HMK := Lib.hid (mod_any n 7 (by omega) (by omega))
  clear r1 r2 hbm2
  go_wp2_with fail
  refine (HMK.out _).mono ?_
  rintro e w1 ⟨rfl, rfl⟩
  go_wp2_with fail
  clear HMK hmk hi hz0 hz1 hz2
  replace HM := Lib.hid (HM.out.alloc rfl 3 #[.int .i64 (n % 7 - 1), .int .i64 256] [.int .i64 (n % 7 - 1), .int .i64 256] rfl)
  generalize wm.alloc (.cells #[.int .i64 (n % 7 - 1), .int .i64 256] 3) = w2 at HM ⊢
  generalize wm.heap.size = P at HM ⊢
  go_loopw [27] (fun i wr => ∃ q : Nat, q ≤ 2 ∧ i = .int .i64 (q : Int) ∧ Mem w [blkE P 3 [.int .i64 (n % 7 - 1), .int .i64 256], rdE w.heap.size P (some ⟨w.heap.size, 0, none⟩) 65 (List.replicate 65 0)] wr) (fun i _ => 2 - (intOf i).toNat)
  case atStart => exact ⟨0, by omega, rfl, HM.out⟩
  case round =>
    clear HM
    obtain ⟨q, hq, rfl, hM⟩ := hrel
    have HM := Lib.hid hM
    clear hM
    by_cases hlt : q < 2
    · have d1 : decide ((q : Int) < 2) = true := by simp; omega
      obtain ⟨z, hz1, hz2, hcz⟩ : ∃ z : Int, -9223372036854775808 ≤ z ∧ z ≤ 9223372036854775807 ∧ wr.cell? ⟨P, q, none⟩ = some (.int .i64 z) := by
        rcases (show q = 0 ∨ q = 1 by omega) with rfl | rfl
        · exact ⟨n % 7 - 1, by omega, by omega, by rw [Blk.cell (HM.out.blk 0 rfl)]; rfl⟩
        · exact ⟨256, by omega, by omega, by rw [Blk.cell (HM.out.blk 0 rfl)]; rfl⟩
      go_wp2_with fail
      refine (HXC.out Ak kn ck kl k1 hkm (by omega) Aa an ca la a1 ham (by omega) z hz1 hz2 _ (HLV.out.below HM.out.bel) (HM.out.arg HK.out) (HM.out.arg HA.out)).mono ?_
      rintro e w3 ⟨A1, c1, rfl, ho, hb⟩
      have HK1 := Lib.hid (RdKeys.of_own rfl (expandB_keys kl la z) ho)
      replace HM := Lib.hid (HM.out.below hb)
      clear ho hb hcz
      go_wp2_with fail
      refine (refExpand_any Ak kn ck kl k1 hkm (by omega) Aa an ca la (by omega) z _ (HM.out.arg HK.out) (HM.out.arg HA.out)).mono ?_
      rintro e w4 ⟨A2, c2, rfl, ho, hb⟩
      have HK2 := Lib.hid (RdKeys.of_own rfl (expandB_keys kl la z) ho)
      replace HK1 := Lib.hid ((HK1.out.below hb).mono hb.size)
      replace HM := Lib.hid (HM.out.below hb)
      clear ho hb
      go_wp2_with fail
      refine (same_keys_any A1 A2 _ c1 c2 (expandB kl la z) (expandB_le kl la z) _ HK1.out HK2.out).mono ?_
      rintro e w5 ⟨rfl, hb⟩
      replace HM := Lib.hid (HM.out.below hb)
      clear hb HK1 HK2
      go_wp2_with fail
      go_roundw
      case rel => exact ⟨q + 1, by omega, by go_num, HM.out⟩
      case measure => simp [intOf]; omega
    · obtain rfl : q = 2 := by omega
      replace HM := Lib.hid (show Mem w [rdE w.heap.size P (some ⟨w.heap.size, 0, none⟩) 65 (List.replicate 65 0)] wr from HM.out.erase 0)
      obtain ⟨h2, hh2⟩ : ∃ c, ((hmacB kl (la ++ lb)).map u8v).toArray = c := ⟨_, rfl⟩
      obtain ⟨h1, hh1⟩ : ∃ c, ((hmacB (List.replicate 65 0) la).map u8v).toArray = c := ⟨_, rfl⟩
      obtain ⟨h0, hh0⟩ : ∃ c, ((hmacB kl []).map u8v).toArray = c := ⟨_, rfl⟩
      have e1 := fun w' : World => run_key_same (hmacB kl (la ++ lb)) (hmacB_length _ _) w'
      have e2 := fun w' : World => run_key_same (hmacB (List.replicate 65 0) la) (hmacB_length _ _) w'
      have e3 := fun w' : World => run_key_same (hmacB kl []) (hmacB_length _ _) w'
      rw [hh2] at e1
      rw [hh1] at e2
      rw [hh0] at e3
      have HH2 := Lib.hid hh2
      have HH1 := Lib.hid hh1
      have HH0 := Lib.hid hh0
      clear hh2 hh1 hh0
      go_wp2_with fail
      replace HM := Lib.hid (show Mem w [blkE wr.heap.size 22 [Value.slice Aa an ca, Value.slice Ab bn cb], rdE w.heap.size P (some ⟨w.heap.size, 0, none⟩) 65 (List.replicate 65 0)] (wr.alloc (.cells #[Value.slice Aa an ca, Value.slice Ab bn cb] 22)) from HM.out.alloc rfl 22 #[Value.slice Aa an ca, Value.slice Ab bn cb] [Value.slice Aa an ca, Value.slice Ab bn cb] rfl)
      generalize wr.alloc (.cells #[Value.slice Aa an ca, Value.slice Ab bn cb] 22) = x1 at HM ⊢
      generalize wr.heap.size = Q1 at HM ⊢
      refine (kd_hmac_two HHC.out Ak kn ck kl k1 hkm (by omega) Q1 22 Aa an ca la a1 ham (by omega) Ab bn cb lb b1 hbm (by omega) _ (HLV.out.below HM.out.bel) (HM.out.arg HK.out) (HM.out.blk 0 rfl) (HM.out.arg HA.out) (HM.out.arg HB.out)).mono ?_
      rintro e x2 ⟨rfl, hb⟩
      rw [HH2.out]
      replace HM := Lib.hid (show Mem w [rdE w.heap.size P (some ⟨w.heap.size, 0, none⟩) 65 (List.replicate 65 0)] x2 from (HM.out.below hb).erase 0)
      clear hb
      go_wp2_with fail
      replace HM := Lib.hid (show Mem w [blkE x2.heap.size 22 [Value.slice Aa an ca, Value.slice Ab bn cb], rdE w.heap.size P (some ⟨w.heap.size, 0, none⟩) 65 (List.replicate 65 0)] (x2.alloc (.cells #[Value.slice Aa an ca, Value.slice Ab bn cb] 22)) from HM.out.alloc rfl 22 #[Value.slice Aa an ca, Value.slice Ab bn cb] [Value.slice Aa an ca, Value.slice Ab bn cb] rfl)
      generalize x2.alloc (.cells #[Value.slice Aa an ca, Value.slice Ab bn cb] 22) = x3 at HM ⊢
      generalize x2.heap.size = Q2 at HM ⊢
      refine (ref_hmac_two Ak kn ck kl k1 hkm (by omega) Q2 22 Aa Ab an ca bn cb la lb (by omega) (by omega) _ (HM.out.arg HK.out) (HM.out.blk 0 rfl) (HM.out.arg HA.out) (HM.out.arg HB.out)).mono ?_
      rintro e x4 ⟨rfl, hb⟩
      rw [HH2.out]
      replace HM := Lib.hid (show Mem w [rdE w.heap.size P (some ⟨w.heap.size, 0, none⟩) 65 (List.replicate 65 0)] x4 from (HM.out.below hb).erase 0)
      clear hb
      go_wp2_with fail
      replace HM := Lib.hid (show Mem w [blkE x4.heap.size 22 [Value.slice Aa an ca], rdE w.heap.size P (some ⟨w.heap.size, 0, none⟩) 65 (List.replicate 65 0)] (x4.alloc (.cells #[Value.slice Aa an ca] 22)) from HM.out.alloc rfl 22 #[Value.slice Aa an ca] [Value.slice Aa an ca] rfl)
      generalize x4.alloc (.cells #[Value.slice Aa an ca] 22) = x5 at HM ⊢
      generalize x4.heap.size = Q3 at HM ⊢
      refine (kd_hmac_one HHC.out (some ⟨w.heap.size, 0, none⟩) 65 65 (List.replicate 65 0) (Nat.le_refl _) (by unfold maxLen; omega) (by omega) Q3 22 Aa an ca la a1 ham (by omega) _ (HLV.out.below HM.out.bel) (HM.out.rd 1 rfl) (HM.out.blk 0 rfl) (HM.out.arg HA.out)).mono ?_
      rintro e x6 ⟨rfl, hb⟩
      rw [HH1.out]
      replace HM := Lib.hid (show Mem w [rdE w.heap.size P (some ⟨w.heap.size, 0, none⟩) 65 (List.replicate 65 0)] x6 from (HM.out.below hb).erase 0)
      clear hb
      go_wp2_with fail
      replace HM := Lib.hid (show Mem w [blkE x6.heap.size 22 [Value.slice Aa an ca], rdE w.heap.size P (some ⟨w.heap.size, 0, none⟩) 65 (List.replicate 65 0)] (x6.alloc (.cells #[Value.slice Aa an ca] 22)) from HM.out.alloc rfl 22 #[Value.slice Aa an ca] [Value.slice Aa an ca] rfl)
      generalize x6.alloc (.cells #[Value.slice Aa an ca] 22) = x7 at HM ⊢
      generalize x6.heap.size = Q4 at HM ⊢
      refine (ref_hmac_one (some ⟨w.heap.size, 0, none⟩) 65 65 (List.replicate 65 0) (Nat.le_refl _) (by unfold maxLen; omega) (by omega) Q4 22 Aa an ca la (by omega) _ (HM.out.rd 1 rfl) (HM.out.blk 0 rfl) (HM.out.arg HA.out)).mono ?_
      rintro e x8 ⟨rfl, hb⟩
      rw [HH1.out]
      replace HM := Lib.hid (show Mem w [rdE w.heap.size P (some ⟨w.heap.size, 0, none⟩) 65 (List.replicate 65 0)] x8 from (HM.out.below hb).erase 0)
      clear hb
      go_wp2_with fail
      refine (kd_hmac_none HHC.out Ak kn ck kl k1 hkm (by omega) _ (HLV.out.below HM.out.bel) (HM.out.arg HK.out)).mono ?_
      rintro e x9 ⟨rfl, hb⟩
      rw [HH0.out]
      replace HM := Lib.hid (show Mem w [rdE w.heap.size P (some ⟨w.heap.size, 0, none⟩) 65 (List.replicate 65 0)] x9 from HM.out.below hb)
      clear hb
      go_wp2_with fail
      refine (ref_hmac_none Ak kn ck kl k1 hkm (by omega) _ (HM.out.arg HK.out)).mono ?_
      rintro e x10 ⟨rfl, hb⟩
      rw [HH0.out]
      replace HM := Lib.hid (show Mem w [rdE w.heap.size P (some ⟨w.heap.size, 0, none⟩) 65 (List.replicate 65 0)] x10 from HM.out.below hb)
      clear hb
      go_wp2_with fail
      clear e1 e2 e3
      refine (HBG.out _ (HLV.out.below HM.out.bel)).mono ?_
      rintro e w13 ⟨rfl, hb⟩
      have HF := Lib.hid (HM.out.below hb).bel
      clear hb HM
      go_wp2_with fail
      go_ret
      exact ⟨rfl, HF.out⟩
end Go.Proofs.YtbochejgjmjieaaDoor
namespace Go.Proofs.YtbochejgjmjieaaDoor
open Go.RowKit

set_option maxRecDepth 100000 in
set_option maxHeartbeats 8000000 in
theorem kd_chain_walk (HH : KdHmacC) (HX : KdExpandC) (w : World) (hlv : LvKdf w) (Ak : Option Addr) (nk ck : Nat) (lk : List UInt8) (Ai : Option Addr) (ni ci : Nat) (li : List UInt8) (ia : Nat) (hkc : nk ≤ ck) (hkm : ck ≤ maxLen) (hrk : Rd w w.heap.size Ak nk lk) (hic : ni ≤ ci) (him : ci ≤ maxLen) (hri : Rd w w.heap.size Ai ni li) (hia : ia ≤ 255) :
    Calls Tryd.prog 5 #[.slice Ak nk ck, .slice Ai ni ci, .int .u8 (ia : Int)] w fun e w' => e = .returned (.bool true) ∧ Below w.heap.size w w' := by
  have HM := Lib.hid (Mem.nil w)
  have HK := Lib.hid hrk
  have HI := Lib.hid hri
  have HHC := Lib.hid HH
  have HLV := Lib.hid hlv
  clear hlv
  have HXC := Lib.hid HX
  have HBG := Lib.hid (kd_begun_any HX)
  clear hrk hri HH HX
  go_enter Tryd.func5, Tryd.ntmps5
  go_wp2_with fail
  refine (cut_any _ Ak nk ck 60 lk hkc hkm _ (HK.out.below HM.out.bel)).mono ?_
  rintro e wc ⟨rfl, hcut, rfl⟩
  clear hcut
  go_wp2_with fail
  refine (cut_any _ Ai ni ci 60 li hic him _ (HI.out.below HM.out.bel)).mono ?_
  rintro e wc ⟨rfl, hcut, rfl⟩
  clear hcut
  obtain ⟨kn, hkn⟩ : ∃ n, min nk 60 = n := ⟨_, rfl⟩
  obtain ⟨xn, hxn⟩ : ∃ n, min ni 60 = n := ⟨_, rfl⟩
  have k1 : kn ≤ ck := by omega
  have k2 : kn ≤ 60 := by omega
  have x1 : xn ≤ ci := by omega
  have x2 : xn ≤ 60 := by omega
  replace HK := Lib.hid (HK.out.take (m := kn) (by omega))
  replace HI := Lib.hid (HI.out.take (m := xn) (by omega))
  rw [hkn, hxn]
  clear hkn hxn
  generalize lk.take kn = kl at HK
  generalize li.take xn = xl at HI
  obtain ⟨m, hm⟩ : ∃ m, 1 + ia % 6 = m := ⟨_, rfl⟩
  have m1 : 1 ≤ m := by omega
  have m2 : m ≤ 6 := by omega
  have q1 : (1 : Int) + (ia : Int) % 6 = (m : Int) := by omega
  have q2 : IntKind.i64.wrap ((1 : Int) + (ia : Int) % 6) = (m : Int) := by rw [q1]; exact IntWalk.i64_in _ (by omega)
  go_wp2_with fail
  refine (HXC.out Ak kn ck kl k1 hkm (by omega) Ai xn ci xl x1 him (by omega) (m : Int) (by omega) (by omega) _ (HLV.out.below HM.out.bel) (HM.out.arg HK.out) (HM.out.arg HI.out)).mono ?_
  rintro e w1 ⟨A1, c1, rfl, ho, hb⟩
  have hex : expandB kl xl (m : Int) = firstT (hmacB kl xl) m := by rw [expandB, if_neg (by omega)]; rfl
  have hln : (expandB kl xl (m : Int)).length = m := by rw [hex, firstT, List.length_map, List.length_range]
  have HKE := Lib.hid (RdKeys.of_own rfl (expandB_keys kl xl m) ho)
  replace HM := Lib.hid (HM.out.below hb)
  rw [hln] at HKE ⊢
  rw [hex] at HKE
  clear ho hb hex hln
  go_wp2_with fail
  have HB1 := Lib.hid HM.out.bel
  replace HLV := Lib.hid (HLV.out.below HM.out.bel)
  replace HK := Lib.hid (HM.out.arg HK.out)
  replace HI := Lib.hid (HM.out.arg HI.out)
  clear HM
  have HM := Lib.hid (show Mem w1 [blkE w1.heap.size 22 [.slice Ai xn ci]] (w1.alloc (.cells #[.slice Ai xn ci] 22)) from (Mem.nil w1).alloc rfl 22 #[.slice Ai xn ci] [.slice Ai xn ci] rfl)
  generalize w1.alloc (.cells #[.slice Ai xn ci] 22) = w2 at HM ⊢
  generalize w1.heap.size = Q1 at HM ⊢
  refine (kd_hmac_one HHC.out Ak kn ck kl k1 hkm (by omega) Q1 22 Ai xn ci xl x1 him (by omega) _ (HLV.out.below HM.out.bel) (HM.out.arg HK.out) (HM.out.blk 0 rfl) (HM.out.arg HI.out)).mono ?_
  rintro e w3 ⟨rfl, hb⟩
  replace HM := Lib.hid (show Mem w1 [] w3 from (HM.out.below hb).erase 0)
  clear hb
  obtain ⟨t0, ht0⟩ : ∃ t, hmacB kl xl = t := ⟨_, rfl⟩
  have HLT := Lib.hid (show t0.length = 32 by rw [← ht0]; exact hmacB_length _ _)
  rw [ht0] at HKE ⊢
  clear ht0
  obtain ⟨ct, hct⟩ : ∃ c, (t0.map u8v).toArray = c := ⟨_, rfl⟩
  rw [hct]
  have HCT := Lib.hid hct
  clear hct
  have HA := Lib.hid (HM.out.alloc rfl 30 #[.int .u8 0, .int .u8 0, .int .u8 0, .int .u8 0, .int .u8 0, .int .u8 0, .int .u8 0, .int .u8 0, .int .u8 0, .int .u8 0, .int .u8 0, .int .u8 0, .int .u8 0, .int .u8 0, .int .u8 0, .int .u8 0, .int .u8 0, .int .u8 0, .int .u8 0, .int .u8 0, .int .u8 0, .int .u8 0, .int .u8 0, .int .u8 0, .int .u8 0, .int .u8 0, .int .u8 0, .int .u8 0, .int .u8 0, .int .u8 0, .int .u8 0, .int .u8 0] (aeZ 32) rfl)
  go_upto_region 2 with (refine wpList_store_blk rfl 30 (.tmp 10) (.tmp 28) rfl w3.heap.size (t0.map u8v) rfl (by show Value.agg ct = _; rw [HCT.out]) 30 (aeZ 32) (HA.out.blk 0 rfl) (cells32 t0 HLT.out) (by rw [List.length_map, HLT.out]; rfl) (u8v_one _) ?_; intro w4 hb4 hg4)
  replace HM := Lib.hid (show Mem w1 [blkE w3.heap.size 30 (t0.map u8v)] w4 from HA.out.put 0 rfl _ hg4 hb4)
  clear hb4 hg4 HA HCT
  generalize w3.heap.size = PT at HM ⊢
  go_wp2_with fail
  replace HM := Lib.hid (show Mem w1 [blkE PT 30 (t0.map u8v)] (w4.alloc (.cells #[] 5)) from (HM.out.alloc rfl 5 #[] [] rfl).erase 0)
  generalize w4.alloc (.cells #[] 5) = w5 at HM ⊢
  generalize w4.heap.size = PE at ⊢
  obtain ⟨i0, hi, hz0, hz1, hz2⟩ := info_parts Tryd.info5
  go_loopw [32, 11] (fun i vl wr => ∃ j : Nat, j ≤ m ∧ i = .int .i64 (j : Int) ∧ (∃ Al nl cl, vl = .slice Al nl cl ∧ nl ≤ cl ∧ cl ≤ maxLen ∧ nl ≤ 32 ∧ Rd wr wr.heap.size Al nl (tB t0 j)) ∧ Mem w1 [blkE PT 30 (t0.map u8v)] wr) (fun i _ _ => m - (intOf i).toNat)
  case atStart => exact ⟨0, by omega, rfl, ⟨_, 0, 0, rfl, by omega, by unfold maxLen; omega, by omega, ⟨rfl, fun h => absurd h (by omega)⟩⟩, HM.out⟩
  case round =>
    clear HM
    obtain ⟨j, hj, rfl, ⟨Al, nl, cl, rfl, hn1, hn2, hn3, hrl⟩, hM⟩ := hrel
    have HM := Lib.hid hM
    have HL := Lib.hid hrl
    clear hM hrl
    by_cases hlt : j < m
    · have d1 : decide ((j : Int) < (m : Int)) = true := by simp; omega
      obtain ⟨Y, hY⟩ : ∃ y, UInt8.ofNat (j + 1) = y := ⟨_, rfl⟩
      have hYn : Y.toNat = j + 1 := by rw [← hY, UInt8.toNat_ofNat', Nat.mod_eq_of_lt (by omega)]
      have y1 : IntKind.u8.wrap ((j : Int) + 1) = (Y.toNat : Int) := by rw [IntKind.wrap_u8, hYn]; omega
      have y2 : ((j : Int) + 1) % 256 = (Y.toNat : Int) := by rw [hYn]; omega
      have HTN := Lib.hid (show tB t0 (j + 1) = hmacB t0 (tB t0 j ++ [Y]) by rw [tB, hY])
      clear hY hYn
      go_wp2_with fail
      clear y1 y2
      have hbw : Below wr.heap.size wr ((wr.alloc (.cells #[.int .u8 (Y.toNat : Int)] 5)).alloc (.cells #[.slice Al nl cl, .slice (some ⟨wr.heap.size, 0, none⟩) 1 1] 22)) := ((Below.refl _ _).alloc (Nat.le_refl _) _).alloc (by simp) _
      have HL2 := Lib.hid ((HL.out.below hbw).mono hbw.size)
      replace HM := Lib.hid ((HM.out.alloc rfl 5 #[.int .u8 (Y.toNat : Int)] ([Y].map u8v) rfl).alloc rfl 22 #[.slice Al nl cl, .slice (some ⟨wr.heap.size, 0, none⟩) 1 1] [.slice Al nl cl, .slice (some ⟨wr.heap.size, 0, none⟩) 1 1] rfl)
      rw [show (wr.alloc (.cells #[.int .u8 (Y.toNat : Int)] 5)).heap.size = wr.heap.size + 1 by simp] at HM
      clear hbw HL
      generalize ((wr.alloc (.cells #[.int .u8 (Y.toNat : Int)] 5)).alloc (.cells #[.slice Al nl cl, .slice (some ⟨wr.heap.size, 0, none⟩) 1 1] 22)) = wa at HM HL2 ⊢
      obtain ⟨tn, htn⟩ : ∃ l, tB t0 (j + 1) = l := ⟨_, rfl⟩
      have HLN := Lib.hid (show tn.length = 32 by rw [← htn]; exact tB_length t0 j)
      have HTE := Lib.hid htn
      rw [htn] at HTN
      clear htn
      obtain ⟨cn, hcn⟩ : ∃ c, (tn.map u8v).toArray = c := ⟨_, rfl⟩
      have HCN := Lib.hid hcn
      have e1 := fun w' : World => run_key_same tn HLN.out w'
      rw [hcn] at e1
      clear hcn
      refine (kd_hmac_two HHC.out (some ⟨PT, 0, none⟩) 32 32 t0 (Nat.le_refl _) (by unfold maxLen; omega) (by omega) (wr.heap.size + 1) 22 Al nl cl (tB t0 j) hn1 hn2 (by omega) (some ⟨wr.heap.size, 0, none⟩) 1 1 [Y] (Nat.le_refl _) (by unfold maxLen; omega) (by omega) _ (HLV.out.below HM.out.bel) (blk_all (HM.out.blk 2 rfl) HLT.out) (HM.out.blk 0 rfl) HL2.out (blk_all (l := [Y]) (HM.out.blk 1 rfl) rfl)).mono ?_
      rintro e wb ⟨rfl, hb⟩
      rw [← HTN.out, HCN.out]
      replace HM := Lib.hid (show Mem w1 [blkE PT 30 (t0.map u8v)] wb from ((HM.out.below hb).erase 0).erase 0)
      clear hb HL2 HTN
      have HA := Lib.hid (HM.out.alloc rfl 30 #[.int .u8 0, .int .u8 0, .int .u8 0, .int .u8 0, .int .u8 0, .int .u8 0, .int .u8 0, .int .u8 0, .int .u8 0, .int .u8 0, .int .u8 0, .int .u8 0, .int .u8 0, .int .u8 0, .int .u8 0, .int .u8 0, .int .u8 0, .int .u8 0, .int .u8 0, .int .u8 0, .int .u8 0, .int .u8 0, .int .u8 0, .int .u8 0, .int .u8 0, .int .u8 0, .int .u8 0, .int .u8 0, .int .u8 0, .int .u8 0, .int .u8 0, .int .u8 0] (aeZ 32) rfl)
      go_upto_region 8 with (refine wpList_store_blk rfl 30 (.tmp 13) (.tmp 42) rfl wb.heap.size (tn.map u8v) rfl (by show Value.agg cn = _; rw [HCN.out]) 30 (aeZ 32) (HA.out.blk 0 rfl) (cells32 tn HLN.out) (by rw [List.length_map, HLN.out]; rfl) (u8v_one _) ?_; intro w6 hb6 hg6)
      replace HM := Lib.hid (show Mem w1 [blkE wb.heap.size 30 (tn.map u8v), blkE PT 30 (t0.map u8v)] w6 from HA.out.put 0 rfl _ hg6 hb6)
      clear hb6 hg6 HA
      generalize wb.heap.size = PY at HM ⊢
      obtain ⟨b, off, rfl, hbl, hc⟩ := HKE.out.2.2 (by omega)
      have hjl : j < (firstT t0 m).length := by rw [HKE.out.1]; exact hlt
      have hk : (firstT t0 m)[j] = tn := by rw [← HTE.out]; simp [firstT]
      have HLA := Lib.hid (show ∀ W, Below w6.heap.size w6 W → ∀ q v, (tn.map u8v)[q]? = some v → W.cell? ⟨b, off + j * 32 + q, none⟩ = some v from fun W hW q v hv => by
        rw [Nat.add_assoc]
        exact (World.cell?_of_block ((HM.out.bel.trans (hW.mono HM.out.size)).block b hbl)).trans (hc _ v (keysV_row _ HKE.out.2.1 j hjl q v (by rw [hk]; exact hv))))
      have HLB := Lib.hid (show ∀ W, Below w6.heap.size w6 W → Blk W PY 30 (tn.map u8v) from fun W hW => (HM.out.blk 0 rfl).below hW (HM.out.blk 0 rfl).lt)
      clear hk hc
      go_upto_region 9 with fail
      refine wp_region_held_drew (S := fun W' => Below w6.heap.size w6 W') (by kernel_rfl) ((Below.refl _ _).drew) (fun hHeld => ?_)
      replace HM := Lib.hid HM.out.drew
      generalize w6.drew = wd at HM hHeld ⊢
      refine take_first (v := ?_) 0 rfl (by kernel_rfl) (by kernel_rfl) (by kernel_rfl) (fun _ _ _ h => h) (Or.inl ⟨by rfl, ?_⟩) (by assumption) ?_
      rotate_left
      · (intro w hSw; (try dsimp only at hSw); go_simp; try with_reducible rfl)
      (try simp only [Act.put, List.setIfInBounds_toArray, List.set_cons_zero, List.set_cons_succ])
      refine take_first (v := ?_) 1 rfl (by kernel_rfl) (by kernel_rfl) (by kernel_rfl) (fun _ _ _ h => h) (Or.inl ⟨by rfl, ?_⟩) (by assumption) ?_
      rotate_left
      · (intro w hSw; (try dsimp only at hSw); go_simp; try with_reducible rfl)
      (try simp only [Act.put, List.setIfInBounds_toArray, List.set_cons_zero, List.set_cons_succ])
      refine take_first (v := ?_) 2 rfl (by kernel_rfl) (by kernel_rfl) (by kernel_rfl) (fun _ _ _ h => h) (Or.inl ⟨by rfl, ?_⟩) (by assumption) ?_
      rotate_left
      · (intro w hSw; (try dsimp only at hSw); go_simp; try with_reducible rfl)
      (try simp only [Act.put, List.setIfInBounds_toArray, List.set_cons_zero, List.set_cons_succ])
      refine take_first (v := .agg cn) 3 rfl (by kernel_rfl) (by kernel_rfl) (by kernel_rfl) (fun _ _ _ h => h) (by rw [← HCN.out]; exact yields_load_off (by rfl) 30 (.tmp 45) rfl b _ rfl _ (fun W hW => HLA.out W hW) 32 5 Tryd.underlying30 (cells32 _ HLN.out)) (by assumption) ?_
      (try simp only [Act.put, List.setIfInBounds_toArray, List.set_cons_zero, List.set_cons_succ])
      refine take_first (v := .agg cn) 4 rfl (by kernel_rfl) (by kernel_rfl) (by kernel_rfl) (fun _ _ _ h => h) (by rw [← HCN.out]; exact yields_load_blk (by rfl) 30 (.tmp 13) rfl PY rfl 30 _ (fun W hW => HLB.out W hW) 32 5 Tryd.underlying30 (cells32 _ HLN.out)) (by assumption) ?_
      (try simp only [Act.put, List.setIfInBounds_toArray, List.set_cons_zero, List.set_cons_succ])
      refine take_first (v := ?_) 5 rfl (by kernel_rfl) (by kernel_rfl) (by kernel_rfl) (fun _ _ _ h => h) (Or.inl ⟨by rfl, ?_⟩) (by assumption) ?_
      rotate_left
      · (intro w hSw; (try dsimp only at hSw); go_simp; try with_reducible rfl)
      (try simp only [Act.put, List.setIfInBounds_toArray, List.set_cons_zero, List.set_cons_succ])
      refine wpAnyH_done (by kernel_rfl) ?_ _
      go_upto_region 12 with (refine wpList_append_at _ rfl (.const (.slice none 0 0)) (.tmp 49) 22 rfl wd.heap.size 5 i0 (.int .u8 0) Tryd.underlying22 hi hz0 hz1 hz2 rfl (.slice none 0 0) 0 [] rfl (World.ownsRow_nil _ _ _ _) ⟨PY, 0, none⟩ 32 32 tn rfl (blk_all (HM.out.blk 0 rfl) HLN.out) (by omega) (Nat.le_refl _) ?_; intro v7 w7 ho7 hg7 _)
      obtain ⟨A7, c7, rfl, hc7, hm7⟩ : ∃ A c, v7 = .slice A 32 c ∧ 32 ≤ c ∧ c ≤ maxLen := by
        rcases ho7.2 with ⟨_, h⟩ | ⟨g, cap, cur, hv, _, _, hcap, hmx, _⟩
        · omega
        · exact ⟨_, cap, hv, hcap, hmx⟩
      have HR := Lib.hid (show Rd w7 w7.heap.size A7 32 (tB t0 (j + 1)) by rw [HTE.out]; exact Rd.of_own ho7)
      replace HM := Lib.hid (show Mem w1 [blkE PT 30 (t0.map u8v)] w7 from (HM.out.below ((Below.refl _ wd).grown hg7 (Nat.le_refl _) (fun k hk => by cases hk))).erase 0)
      clear ho7 hg7
      go_wp2_with fail
      go_roundw
      case rel => exact ⟨j + 1, by omega, by go_num, ⟨A7, 32, c7, rfl, hc7, hm7, by omega, HR.out⟩, HM.out⟩
      case measure => simp [intOf]; omega
    · obtain rfl : j = m := by omega
      have d1 : decide ((j : Int) < (j : Int)) = false := by simp
      have d2 : ((j : Int) == (j : Int)) = true := by simp
      go_wp2_with fail
      refine (HBG.out _ (HLV.out.below HM.out.bel)).mono ?_
      rintro e w13 ⟨rfl, hb⟩
      have HF := Lib.hid (HB1.out.trans ((HM.out.below hb).bel.mono HB1.out.size))
      clear hb HM
      go_wp2_with fail
      go_ret
      exact ⟨rfl, HF.out⟩
end Go.Proofs.YtbochejgjmjieaaDoor
namespace Go.Proofs.YtbochejgjmjieaaDoor
open Go.RowKit

theorem kd_chain_walk_all (w : World) (hlv : LvKdf w) (Ak : Option Addr) (nk ck : Nat) (lk : List UInt8) (Ai : Option Addr) (ni ci : Nat) (li : List UInt8) (ia : Nat) (hkc : nk ≤ ck) (hkm : ck ≤ maxLen) (hrk : Rd w w.heap.size Ak nk lk) (hic : ni ≤ ci) (him : ci ≤ maxLen) (hri : Rd w w.heap.size Ai ni li) (hia : ia ≤ 255) :
    Calls Tryd.prog 5 #[.slice Ak nk ck, .slice Ai ni ci, .int .u8 (ia : Int)] w fun e w' => e = .returned (.bool true) ∧ Below w.heap.size w w' :=
  kd_chain_walk kdHmacC kdExpandC w hlv Ak nk ck lk Ai ni ci li ia hkc hkm hrk hic him hri hia
end Go.Proofs.YtbochejgjmjieaaDoor
namespace Go.Proofs.YtbochejgjmjieaaDoor.kdfChain
open Go.ChangeShapes Go.WideShapes Go.ChangeAt Go.RowKit
open Go.ChangeMaps (open_string shut_string)

/-- the heap that the initialisers leave meets the condition -/
theorem door_met (os : Os) (args : Array Value) : laidMetH Tryd.prog Rows.kdfChainRow.laid ((World.doorLaid Tryd.prog 400 os).forCall (fun _ _ => 0) ⟨#[], args, []⟩).memory :=
  laidMetH_of_parts3 (fuel := 8) (laidMet_of_run' 8 (by kernel_rfl) (by kernel_rfl)) (by kernel_rfl) (by kernel_rfl)

set_option linter.unusedVariables false
set_option maxRecDepth 100000 in
theorem lifted (os : Os) (started : os.Started) (H : Type) (enc : TypeId × Value → H) :
    ReturnsInHanded {} Tryd.checked os 5 .any (fun w args => (Rows.kdfChainSpec.pre enc Tryd.prog Tryd.f5 [] false w args ∧ laidMetH Tryd.prog Rows.kdfChainRow.laid w) ∧ sizedMet enc Tryd.prog Tryd.f5 (OpenSpec.ofChange Rows.kdfChainSpec) false w args) (Rows.kdfChainSpec.post enc Tryd.prog Tryd.f5 false true false false) := by
  refine returnsInHanded_of_change_and (C := Tryd.checked) (X := fun w _ => laidMetH Tryd.prog Rows.kdfChainRow.laid w) (fun _ _ _ hh h => h.of_heap hh) own started (by kernel_rfl) Tryd.func5
    (ChangeSpec.witness_shaped (enc := enc) (C := Tryd.checked) (os := os) (X := fun w _ => laidMetH Tryd.prog Rows.kdfChainRow.laid w) false (World.doorLaid Tryd.prog 400 os) #[.slice none 0 0, .slice none 0 0, .int .u8 0] 8 rfl (World.shaped_of_RefB (by kernel_rfl) (by kernel_rfl)) (by kernel_rfl) (by kernel_rfl) (by kernel_rfl) (door_met os _)) ?_
  intro W base args ds gs before hval0 hW _ _ hL _
  have hval : ∀ (j : Nat) t v, Tryd.f5.params[j]? = some t → args[j]? = some v → Value.okWide Tryd.prog W .any base t v := hval0
  have hW' := hW
  obtain ⟨p, q, hA0, hV, rfl, hfz, hnd⟩ := hW
  have hA : DataW.TrodAll enc Tryd.prog W 0 (fun _ => true) true Tryd.f5.params.toList args.toList ds p := hA0
  rw [Tryd.params5] at hA hval
  obtain ⟨v0, vs0, d0, ds0, p0, q0, hargs, rfl, rfl, h0, r0⟩ := trodAll_cons hA
  obtain ⟨v1, vs1, d1, ds1, p1, q1, rfl, rfl, rfl, h1, r1⟩ := trodAll_cons r0
  obtain ⟨v2, vs2, d2, ds2, p2, q2, rfl, rfl, rfl, h2, r2⟩ := trodAll_cons r1
  obtain ⟨rfl, rfl, rfl⟩ := trodAll_nil r2
  obtain rfl : args = #[v0, v1, v2] := by cases args; simp_all
  obtain ⟨rfl, rfl⟩ := trodVars_none hV
  have k0 := h0
  have lt0 : ∀ x ∈ p0, x.block < W.heap.size := by obtain ⟨m, hm⟩ := k0; exact DataW.trod_lt m _ _ _ hm
  obtain ⟨A0, len0, cap0, l0, rfl, hl0, hm0, hr0⟩ := open_bytes Tryd.underlying22 Tryd.underlying5 (by kernel_rfl) (hval 0 22 v0 rfl rfl) h0
  have k1 := h1
  have lt1 : ∀ x ∈ p1, x.block < W.heap.size := by obtain ⟨m, hm⟩ := k1; exact DataW.trod_lt m _ _ _ hm
  obtain ⟨A1, len1, cap1, l1, rfl, hl1, hm1, hr1⟩ := open_bytes Tryd.underlying22 Tryd.underlying5 (by kernel_rfl) (hval 1 22 v1 rfl rfl) h1
  obtain ⟨a2, rfl, rfl, rfl, w2⟩ := open_int Tryd.underlying5 (hval 2 5 v2 rfl rfl) h2
  obtain ⟨n2, rfl⟩ : ∃ n2 : Nat, a2 = (n2 : Int) := ⟨a2.toNat, by have := bounds_u8 w2; omega⟩
  clear hA0 hval0
  refine (kd_chain_walk_all W (lvBlake_of hL (.head _) (.tail _ (.head _))) A0 len0 cap0 l0 A1 len1 cap1 l1 n2 hl0 hm0 hr0 hl1 hm1 hr1 (by have := bounds_u8 w2; omega)).mono fun e W' ⟨he, bel⟩ => ?_
  subst he
  exact ⟨_, rfl, _, _, _, [], _, [], hW', trodAll_mk1 (shut_bool Tryd.underlying4 _), (trodAll_cons_mk (Below.trod laidOut (by kernel_rfl) (of_decide_eq_true (by kernel_rfl)) k0 bel lt0) (trodAll_cons_mk (Below.trod laidOut (by kernel_rfl) (of_decide_eq_true (by kernel_rfl)) k1 bel lt1) (trodAll_cons_mk (shut_int Tryd.underlying5 w2) trodAll_mk0))), rfl, bel.frame _, fun h => by cases h⟩

theorem over : Rows.kdfChainRow.holds Tryd.pinned (OpenSpec.ofChange Rows.kdfChainSpec) :=
  OpenClaim.holds_of_wide 5 Tryd.f5 rfl rfl rfl rfl rfl rfl rfl ⟨rfl, rfl, rfl, rfl, rfl⟩ rfl rfl rfl rfl rfl (by kernel_rfl) Tryd.func5 (by kernel_rfl)
    (of_decide_eq_true (by kernel_rfl)) (by unfold Func.isWrapper; first | (rw [if_pos (by decide +kernel)]; kernel_rfl) | (rw [if_neg (by decide +kernel)]; exact ⟨rfl, rfl⟩))
    (fun os started H enc _ => lifted os started H enc)

theorem proved : Rows.KdfChainCardSaid :=
  Claim7.holds_tied_plain_at .later [] [.data, .data] true Rows.kdfChainCard.stood.harness Rows.kdfChainCard.stood.looks
    over (fun _ h => by cases h) (by kernel_rfl) (fun _ h => by cases h) kdfChain_row_tie rfl ⟨rfl, rfl⟩ (by kernel_rfl) (by kernel_rfl)
    (fun f fn hf hfn => by
      obtain rfl : f = 5 := Option.some.inj ((show Tryd.prog.funcNamed "burrow/burrowlaw07.KdfChain" = some 5 by kernel_rfl).symm.trans hf) |>.symm
      obtain rfl : fn = Tryd.f5 := (Option.some.inj (Tryd.func5.symm.trans hfn)).symm
      exact ⟨by kernel_rfl, fun j t ht => by
        rw [Tryd.params5] at ht
        have hm : t ∈ [22, 5] := by
          have h := Array.mem_of_getElem? ht
          simp at h
          simp
          omega
        have hall : ([22, 5].all fun u => !Tryd.prog.wantsStandIn u) = true := by kernel_rfl
        exact (show Tryd.prog.wantsStandIn t = false by simpa using List.all_eq_true.1 hall t hm)⟩)
    (by kernel_rfl)
#print axioms proved
end Go.Proofs.YtbochejgjmjieaaDoor.kdfChain
