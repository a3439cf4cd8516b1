/-
  The contracts of the reference's sound, bit, width, Valid. The mathematics of routes: what the functions of layer 14 return. No function of the program is named here. Equality of two structs, as an operation. An address is found equal to itself. Equality of keys, prefixes and routes. Lists of routes and of prefixes that lie in memory. No function of the program is named here. What the laws of routes ask of the program, by a function's number. Rows of keys: a slice built of one key, and the append of one key to a row of the call's own. Rows of objects: pieces of them, and the append of a row of objects to another one. No function of the program is named here. Words for lists of routes that grow by append. Pieces of a list of routes. What InsertRoute lays: a route of its parts, a key that is replaced in a list. Equality of two structs under a guard, as an operation. Two objects are compared by == or !=, in a list of operations and in a drawn region. No function of the program is named here. No statement is proved here.
-/
import Derived.Laws.ShiftsVarLaws
import Derived.Deep.DeepCutAuto
import Derived.RegionTactic
import Derived.BigRegion
import Derived.Laws.BitsAllLaws
import Derived.Deep.QuietTactic
import Derived.BigQuiet
import Derived.Maps.AppendAt
import Derived.Laws.AppendOwnNone
import Derived.Test.YtnblofbbbkjhpaaRoutesRemovesB1
namespace Go.Proofs.Ytnblofbbbkjhpaa
open Go.RowKit

theorem AddrM.six_cell (a : AddrM) : a.cells[0]? = some (.bool a.six) := rfl
/-- a prefix -/
def prefC (a : AddrM) (bits : Int) : List Value := a.cells ++ [.int .i64 bits]
theorem prefC_length (a : AddrM) (h : a.ok) (bits : Int) : (prefC a bits).length = 18 := by rw [prefC, List.length_append, AddrM.cells_length h]; rfl
theorem prefC_addr (a : AddrM) (h : a.ok) (bits : Int) : ((prefC a bits).drop 0).take 17 = a.cells := by rw [prefC, List.drop_zero, ← AddrM.cells_length h, List.take_left]
theorem prefC_bits (a : AddrM) (h : a.ok) (bits : Int) : (prefC a bits)[17]? = some (.int .i64 bits) := by
  rw [prefC, List.getElem?_append_right (by rw [AddrM.cells_length h]; omega), AddrM.cells_length h]; rfl
theorem soundM_four (a : AddrM) (h : a.ok) (h6 : a.six = false) : soundM a = true ↔ ∀ j, j < 12 → a.ip.getD (4 + j) 0 = 0 := by
  have hl : a.ip.length = 16 := h
  rw [soundM, h6, Bool.false_or, List.all_eq_true]
  constructor
  · intro hx j hj
    have := hx (a.ip[4 + j]'(by omega)) (List.mem_drop_iff_getElem.2 ⟨j, by omega, rfl⟩)
    rw [List.getD_eq_getElem?_getD, List.getElem?_eq_getElem (by omega)]
    simpa using this
  · intro hx x hm
    obtain ⟨j, hj, rfl⟩ := List.mem_drop_iff_getElem.1 hm
    have := hx j (by omega)
    rw [List.getD_eq_getElem?_getD, List.getElem?_eq_getElem (by omega)] at this
    simpa using this

set_option maxRecDepth 100000 in
set_option maxHeartbeats 2000000 in
theorem refSound_any (a : AddrM) (h : a.ok) (w : World) :
    Calls Try.prog 47 #[.agg a.cells.toArray] w fun e w' => e = .returned (.bool (soundM a)) ∧ Below w.heap.size w w' := by
  obtain ⟨ca, hca⟩ : ∃ c, a.cells.toArray = c := ⟨_, rfl⟩
  rw [hca]
  have HM := Lib.hid (show Mem w [blkE w.heap.size 26 a.cells] (w.alloc (.cells ca 26)) from (Mem.nil w).alloc rfl 26 ca a.cells hca.symm)
  have HO := Lib.hid h
  obtain ⟨sx, hsx⟩ : ∃ q, a.six = q := ⟨_, rfl⟩
  have HS := Lib.hid hsx
  clear hca h hsx
  go_enter Try.func47, Try.ntmps47
  go_upto_region 1 with fail
  generalize w.alloc (.cells ca 26) = w1 at HM ⊢
  go_wp2_with fail
  go_loopw [8] (fun z wr => ∃ j : Nat, j ≤ 12 ∧ z = .int .i64 (j : Int) ∧ (sx = false → ∀ i, i < j → a.ip.getD (4 + i) 0 = 0) ∧ Mem w [blkE w.heap.size 26 a.cells] wr) (fun z _ => 12 - (intOf z).toNat)
  case atStart => exact ⟨0, by omega, rfl, fun _ i hi => absurd hi (by omega), HM.out⟩
  case round =>
    clear HM
    obtain ⟨j, hj, rfl, hz, hM⟩ := hrel
    have HM := Lib.hid hM
    have HZ := Lib.hid hz
    clear hM hz
    by_cases hlt : j < 12
    · have fx := ((HM.out.blk 0 rfl).cell (1 + (4 + j))).trans (AddrM.ip_cell a HO.out (4 + j) (by omega))
      rw [show 1 + (4 + j) = 5 + j by omega] at fx
      have f6 := ((HM.out.blk 0 rfl).cell 0).trans (AddrM.six_cell a)
      rw [HS.out] at f6
      obtain ⟨x, hx⟩ : ∃ x, a.ip.getD (4 + j) 0 = x := ⟨_, rfl⟩
      rw [hx] at fx
      have HX := Lib.hid hx
      clear hx
      have dl : decide ((j : Int) < 12) = true := by simp; omega
      cases sx with
      | true =>
        go_wp2
        go_roundw
        case rel => exact ⟨j + 1, by omega, by go_num, (fun h => by cases h), HM.out⟩
        case measure => simp [intOf]; omega
      | false =>
        by_cases hx0 : x = 0
        · have hne : ((x.toNat : Int) != 0) = false := by subst hx0; rfl
          have HX0 := Lib.hid hx0
          clear hx0
          go_wp2
          go_roundw
          case rel => exact ⟨j + 1, by omega, by go_num, (fun _ i hi => by
            by_cases e : i = j
            · subst e; rw [HX.out, HX0.out]
            · exact HZ.out rfl i (by omega)), HM.out⟩
          case measure => simp [intOf]; omega
        · have hne : ((x.toNat : Int) != 0) = true := by
            have : x.toNat ≠ 0 := fun e => hx0 (UInt8.toNat.inj e)
            simp; omega
          have HR := Lib.hid (show soundM a = false from by
            rw [Bool.eq_false_iff]
            intro hs
            have := (soundM_four a HO.out HS.out).1 hs j hlt
            rw [HX.out] at this
            exact hx0 this)
          clear hx0
          go_wp2
          go_ret
          exact ⟨by rw [HR.out]; rfl, HM.out.bel⟩
    · obtain rfl : j = 12 := by omega
      have HR := Lib.hid (show soundM a = true from by
        cases hq : sx with
        | true => rw [soundM, HS.out, hq]; rfl
        | false => exact (soundM_four a HO.out (by rw [HS.out, hq])).2 (HZ.out hq))
      (try rw [show ((12 : Nat) : Int) = 12 from rfl])
      go_wp2
      go_ret
      exact ⟨by rw [HR.out]; rfl, HM.out.bel⟩
set_option maxRecDepth 100000 in
set_option maxHeartbeats 2000000 in
theorem refBit_any (a : AddrM) (h : a.ok) (i : Nat) (hi : i < 128) (w : World) :
    Calls Try.prog 48 #[.agg a.cells.toArray, .int .i64 (i : Int)] w fun e w' => e = .returned (.int .u8 (bitM a.ip i : Int)) ∧ Below w.heap.size w w' := by
  obtain ⟨ca, hca⟩ : ∃ c, a.cells.toArray = c := ⟨_, rfl⟩
  rw [hca]
  have HM := Lib.hid (show Mem w [blkE w.heap.size 26 a.cells] (w.alloc (.cells ca 26)) from (Mem.nil w).alloc rfl 26 ca a.cells hca.symm)
  have HO := Lib.hid h
  have hb : bitM a.ip i = (a.ip.getD (i / 8) 0).toNat / 2 ^ (7 - i % 8) % 2 := rfl
  have hk8 : i / 8 < 16 := by omega
  clear hca h
  go_enter Try.func48, Try.ntmps48
  go_upto_region 1 with fail
  generalize w.alloc (.cells ca 26) = w1 at HM ⊢
  have fx := ((HM.out.blk 0 rfl).cell (1 + i / 8)).trans (AddrM.ip_cell a HO.out (i / 8) hk8)
  generalize a.ip.getD (i / 8) 0 = x at fx hb
  have hq : (i : Int) / 8 = ((i / 8 : Nat) : Int) := by omega
  have hr : (i : Int) % 8 = ((i % 8 : Nat) : Int) := by omega
  obtain ⟨k, hk⟩ : ∃ k, i / 8 = k := ⟨_, rfl⟩
  obtain ⟨m, hm⟩ : ∃ m, i % 8 = m := ⟨_, rfl⟩
  rw [hk] at fx hq hk8
  rw [hm] at hr hb
  have hm8 : m < 8 := by omega
  obtain ⟨t, ht⟩ : ∃ t, 7 - m = t := ⟨_, rfl⟩
  rw [ht] at hb
  have hw7 : IntKind.i64.wrap (7 - (m : Int)) = (t : Int) := by rw [IntWalk.i64_in _ (by omega)]; omega
  have bk : (k : Int) < 16 := by omega
  have hmin : min t 8 = t := by omega
  obtain ⟨v, hv⟩ : ∃ v, x.toNat / 2 ^ t = v := ⟨_, rfl⟩
  rw [hv] at hb
  have hvl : v < 256 := by rw [← hv]; exact Nat.lt_of_le_of_lt (Nat.div_le_self _ _) x.toNat_lt
  have he : (x.toNat : Int) / 2 ^ t = (v : Int) := by rw [← hv, Int.natCast_ediv, Int.natCast_pow]; rfl
  have hand : bits BinOp.and IntKind.u8 (v : Int) 1 = ((v % 2 : Nat) : Int) := by
    have h := u8_and_nat v 1 hvl (by omega)
    rw [show ((1 : Nat) : Int) = 1 from rfl] at h
    rw [h, Nat.and_one_is_mod]
  generalize v % 2 = r at hand hb
  have HB := Lib.hid hb
  clear hb hv ht hk hm hvl hm8
  go_wp2
  go_ret
  exact ⟨by rw [HB.out]; rfl, HM.out.bel⟩
set_option maxRecDepth 100000 in
theorem refWidth_any (a : AddrM) (w : World) :
    Calls Try.prog 53 #[.agg a.cells.toArray] w fun e w' => e = .returned (.int .i64 (widthM a : Int)) ∧ Below w.heap.size w w' := by
  obtain ⟨ca, hca⟩ : ∃ c, a.cells.toArray = c := ⟨_, rfl⟩
  rw [hca]
  have HM := Lib.hid (show Mem w [blkE w.heap.size 26 a.cells] (w.alloc (.cells ca 26)) from (Mem.nil w).alloc rfl 26 ca a.cells hca.symm)
  obtain ⟨sx, hsx⟩ : ∃ q, a.six = q := ⟨_, rfl⟩
  have HW := Lib.hid (show widthM a = if sx then 128 else 32 by rw [widthM, hsx])
  clear hca
  go_enter Try.func53, Try.ntmps53
  go_upto_region 1 with fail
  generalize w.alloc (.cells ca 26) = w1 at HM ⊢
  have f6 := ((HM.out.blk 0 rfl).cell 0).trans (AddrM.six_cell a)
  rw [hsx] at f6
  cases sx with
  | true =>
    go_wp2
    go_ret
    exact ⟨by rw [HW.out]; rfl, HM.out.bel⟩
  | false =>
    go_wp2
    go_ret
    exact ⟨by rw [HW.out]; rfl, HM.out.bel⟩
theorem validM_iff (a : AddrM) (bits : Int) (hs : soundM a = true) (h0 : 0 ≤ bits) (h1 : bits ≤ (widthM a : Int)) : validM a bits = true ↔ ∀ i : Nat, bits ≤ (i : Int) → i < 128 → bitM a.ip i = 0 := by
  rw [validM, hs, decide_eq_true h0, decide_eq_true h1, Bool.true_and, Bool.true_and, Bool.true_and, List.all_eq_true]
  constructor
  · intro h i hi hlt
    have := h i (List.mem_range.2 hlt)
    rw [Bool.or_eq_true, decide_eq_true_iff, beq_iff_eq] at this
    rcases this with h2 | h2
    · omega
    · exact h2
  · intro h i hi
    rw [Bool.or_eq_true, decide_eq_true_iff, beq_iff_eq]
    by_cases h2 : (i : Int) < bits
    · exact .inl h2
    · exact .inr (h i (by omega) (List.mem_range.1 hi))
theorem widthM_le (a : AddrM) : widthM a = 32 ∨ widthM a = 128 := by unfold widthM; split <;> simp
set_option maxRecDepth 100000 in
set_option maxHeartbeats 4000000 in
theorem refValid_any (a : AddrM) (h : a.ok) (bits : Int) (_hb1 : -9223372036854775808 ≤ bits) (_hb2 : bits ≤ 9223372036854775807) (w : World) :
    Calls Try.prog 38 #[.agg (prefC a bits).toArray] w fun e w' => e = .returned (.bool (validM a bits)) ∧ Below w.heap.size w w' := by
  obtain ⟨cp, hcp⟩ : ∃ c, (prefC a bits).toArray = c := ⟨_, rfl⟩
  rw [hcp]
  have HM := Lib.hid (show Mem w [blkE w.heap.size 28 (prefC a bits)] (w.alloc (.cells cp 28)) from (Mem.nil w).alloc rfl 28 cp (prefC a bits) hcp.symm)
  have HO := Lib.hid h
  have SN := fun W : World => refSound_any a h W
  have WD := fun W : World => refWidth_any a W
  have BT := fun (i : Nat) (hi : i < 128) (W : World) => refBit_any a h i hi W
  obtain ⟨ca, hca⟩ : ∃ c, a.cells.toArray = c := ⟨_, rfl⟩
  simp only [hca] at SN WD BT
  have HCA := Lib.hid hca
  have HBT := Lib.hid BT
  have hwl := widthM_le a
  obtain ⟨sd, hsd⟩ : ∃ q, soundM a = q := ⟨_, rfl⟩
  rw [hsd] at SN
  have HSN := Lib.hid SN
  have HWD := Lib.hid WD
  clear hcp h hca SN WD BT
  go_enter Try.func38, Try.ntmps38
  go_upto_region 1 with fail
  generalize w.alloc (.cells cp 28) = w1 at HM ⊢
  cases sd with
  | false =>
    have HR := Lib.hid (show validM a bits = false from by rw [validM, hsd]; rfl)
    refine wp_region_held_drew (S := fun W' => Mem w [blkE w.heap.size 28 (prefC a bits)] W') (by kernel_rfl) ((HM.out).drew) (fun hHeld => ?_)
    replace HM := Lib.hid HM.out.drew
    generalize w1.drew = wd1 at HM hHeld ⊢
    refine take_first (v := ?_) 0 rfl (by kernel_rfl) (by kernel_rfl) (by kernel_rfl) (fun _ _ _ h => h) (Or.inl ⟨by rfl, ?_⟩) (by assumption) ?_
    rotate_left
    · (intro w hSw; (try dsimp only at hSw); go_simp; try with_reducible rfl)
    (try simp only [Act.put, List.setIfInBounds_toArray, List.set_cons_zero, List.set_cons_succ])
    refine take_first (v := .agg ca) 1 rfl (by kernel_rfl) (by kernel_rfl) (by kernel_rfl) (fun _ _ _ h => h) (by rw [← HCA.out]; exact yields_load_obj (by rfl) 26 (.tmp 4) rfl w.heap.size 0 rfl a.cells (fun w' hb => by have h := (Mem.blk hb 0 rfl).sub 0 17; rw [prefC_addr a HO.out bits] at h; exact h) _ Try.underlying26 rfl (addr_cellsOf _ HO.out)) (by assumption) ?_
    (try simp only [Act.put, List.setIfInBounds_toArray, List.set_cons_zero, List.set_cons_succ])
    refine step_one 2 rfl (by kernel_rfl) (fun K hK => ?_)
    clear hHeld
    go_simp
    refine (HSN.out _).mono ?_
    rintro e wy2 ⟨rfl, hb⟩
    replace HM := Lib.hid (show Mem w [blkE w.heap.size 28 (prefC a bits)] wy2 from HM.out.below hb)
    clear hb
    go_wp2_with fail
    refine hK.out _ _ (HM.out) (fun hHeld => ?_)
    clear hK K
    (try simp only [Act.put, List.setIfInBounds_toArray, List.set_cons_zero, List.set_cons_succ])
    refine take_first (v := ?_) 3 rfl (by kernel_rfl) (by kernel_rfl) (by kernel_rfl) (fun _ _ _ h => h) (Or.inl ⟨by rfl, ?_⟩) (by assumption) ?_
    rotate_left
    · (intro w hSw; (try dsimp only at hSw); go_simp; try with_reducible rfl)
    (try simp only [Act.put, List.setIfInBounds_toArray, List.set_cons_zero, List.set_cons_succ])
    refine take_first (v := ?_) 4 rfl (by kernel_rfl) (by kernel_rfl) (by kernel_rfl) (fun _ _ _ h => h) (Or.inl ⟨by rfl, ?_⟩) (by assumption) ?_
    rotate_left
    · (intro w hSw; (try dsimp only at hSw); go_simp; try with_reducible rfl)
    (try simp only [Act.put, List.setIfInBounds_toArray, List.set_cons_zero, List.set_cons_succ])
    refine take_first (v := undef) 5 rfl (by kernel_rfl) (by kernel_rfl) (by kernel_rfl) (fun _ _ _ h => h) (Or.inr ⟨by rfl, rfl⟩) (by assumption) ?_
    (try simp only [Act.put, List.setIfInBounds_toArray, List.set_cons_zero, List.set_cons_succ])
    refine take_first (v := undef) 6 rfl (by kernel_rfl) (by kernel_rfl) (by kernel_rfl) (fun _ _ _ h => h) (Or.inr ⟨by rfl, rfl⟩) (by assumption) ?_
    (try simp only [Act.put, List.setIfInBounds_toArray, List.set_cons_zero, List.set_cons_succ])
    refine take_first (v := undef) 7 rfl (by kernel_rfl) (by kernel_rfl) (by kernel_rfl) (fun _ _ _ h => h) (Or.inr ⟨by rfl, rfl⟩) (by assumption) ?_
    (try simp only [Act.put, List.setIfInBounds_toArray, List.set_cons_zero, List.set_cons_succ])
    refine take_first (v := ?_) 8 rfl (by kernel_rfl) (by kernel_rfl) (by kernel_rfl) (fun _ _ _ h => h) (Or.inl ⟨by rfl, ?_⟩) (by assumption) ?_
    rotate_left
    · (intro w hSw; (try dsimp only at hSw); go_simp; try with_reducible rfl)
    (try simp only [Act.put, List.setIfInBounds_toArray, List.set_cons_zero, List.set_cons_succ])
    refine take_first (v := ?_) 9 rfl (by kernel_rfl) (by kernel_rfl) (by kernel_rfl) (fun _ _ _ h => h) (Or.inl ⟨by rfl, ?_⟩) (by assumption) ?_
    rotate_left
    · (intro w hSw; (try dsimp only at hSw); go_simp; try with_reducible rfl)
    (try simp only [Act.put, List.setIfInBounds_toArray, List.set_cons_zero, List.set_cons_succ])
    refine take_first (v := undef) 10 rfl (by kernel_rfl) (by kernel_rfl) (by kernel_rfl) (fun _ _ _ h => h) (Or.inr ⟨by rfl, rfl⟩) (by assumption) ?_
    (try simp only [Act.put, List.setIfInBounds_toArray, List.set_cons_zero, List.set_cons_succ])
    refine take_first (v := undef) 11 rfl (by kernel_rfl) (by kernel_rfl) (by kernel_rfl) (fun _ _ _ h => h) (Or.inr ⟨by rfl, rfl⟩) (by assumption) ?_
    (try simp only [Act.put, List.setIfInBounds_toArray, List.set_cons_zero, List.set_cons_succ])
    refine take_first (v := undef) 12 rfl (by kernel_rfl) (by kernel_rfl) (by kernel_rfl) (fun _ _ _ h => h) (Or.inr ⟨by rfl, rfl⟩) (by assumption) ?_
    (try simp only [Act.put, List.setIfInBounds_toArray, List.set_cons_zero, List.set_cons_succ])
    refine take_first (v := undef) 13 rfl (by kernel_rfl) (by kernel_rfl) (by kernel_rfl) (fun _ _ _ h => h) (Or.inr ⟨by rfl, rfl⟩) (by assumption) ?_
    (try simp only [Act.put, List.setIfInBounds_toArray, List.set_cons_zero, List.set_cons_succ])
    refine take_first (v := undef) 14 rfl (by kernel_rfl) (by kernel_rfl) (by kernel_rfl) (fun _ _ _ h => h) (Or.inr ⟨by rfl, rfl⟩) (by assumption) ?_
    (try simp only [Act.put, List.setIfInBounds_toArray, List.set_cons_zero, List.set_cons_succ])
    refine take_first (v := undef) 15 rfl (by kernel_rfl) (by kernel_rfl) (by kernel_rfl) (fun _ _ _ h => h) (Or.inr ⟨by rfl, rfl⟩) (by assumption) ?_
    (try simp only [Act.put, List.setIfInBounds_toArray, List.set_cons_zero, List.set_cons_succ])
    refine take_first (v := ?_) 16 rfl (by kernel_rfl) (by kernel_rfl) (by kernel_rfl) (fun _ _ _ h => h) (Or.inl ⟨by rfl, ?_⟩) (by assumption) ?_
    rotate_left
    · (intro w hSw; (try dsimp only at hSw); go_simp; try with_reducible rfl)
    (try simp only [Act.put, List.setIfInBounds_toArray, List.set_cons_zero, List.set_cons_succ])
    refine wpAnyH_done (by kernel_rfl) ?_ _
    clear hHeld
    go_wp2
    go_ret
    exact ⟨by rw [HR.out]; rfl, HM.out.bel⟩
  | true =>
    by_cases h0 : bits < 0
    · have HR := Lib.hid (show validM a bits = false from by rw [validM, hsd, decide_eq_false (by omega)]; rfl)
      have HD0 := Lib.hid (show decide (bits < 0) = true by simp; omega)
      refine wp_region_held_drew (S := fun W' => Mem w [blkE w.heap.size 28 (prefC a bits)] W') (by kernel_rfl) ((HM.out).drew) (fun hHeld => ?_)
      replace HM := Lib.hid HM.out.drew
      generalize w1.drew = wd1 at HM hHeld ⊢
      refine take_first (v := ?_) 0 rfl (by kernel_rfl) (by kernel_rfl) (by kernel_rfl) (fun _ _ _ h => h) (Or.inl ⟨by rfl, ?_⟩) (by assumption) ?_
      rotate_left
      · (intro w hSw; (try dsimp only at hSw); go_simp; try with_reducible rfl)
      (try simp only [Act.put, List.setIfInBounds_toArray, List.set_cons_zero, List.set_cons_succ])
      refine take_first (v := .agg ca) 1 rfl (by kernel_rfl) (by kernel_rfl) (by kernel_rfl) (fun _ _ _ h => h) (by rw [← HCA.out]; exact yields_load_obj (by rfl) 26 (.tmp 4) rfl w.heap.size 0 rfl a.cells (fun w' hb => by have h := (Mem.blk hb 0 rfl).sub 0 17; rw [prefC_addr a HO.out bits] at h; exact h) _ Try.underlying26 rfl (addr_cellsOf _ HO.out)) (by assumption) ?_
      (try simp only [Act.put, List.setIfInBounds_toArray, List.set_cons_zero, List.set_cons_succ])
      refine step_one 2 rfl (by kernel_rfl) (fun K hK => ?_)
      clear hHeld
      go_simp
      refine (HSN.out _).mono ?_
      rintro e wy2 ⟨rfl, hb⟩
      replace HM := Lib.hid (show Mem w [blkE w.heap.size 28 (prefC a bits)] wy2 from HM.out.below hb)
      clear hb
      go_wp2_with fail
      refine hK.out _ _ (HM.out) (fun hHeld => ?_)
      clear hK K
      (try simp only [Act.put, List.setIfInBounds_toArray, List.set_cons_zero, List.set_cons_succ])
      refine take_first (v := ?_) 3 rfl (by kernel_rfl) (by kernel_rfl) (by kernel_rfl) (fun _ _ _ h => h) (Or.inl ⟨by rfl, ?_⟩) (by assumption) ?_
      rotate_left
      · (intro w hSw; (try dsimp only at hSw); go_simp; try with_reducible rfl)
      (try simp only [Act.put, List.setIfInBounds_toArray, List.set_cons_zero, List.set_cons_succ])
      refine take_first (v := ?_) 4 rfl (by kernel_rfl) (by kernel_rfl) (by kernel_rfl) (fun _ _ _ h => h) (Or.inl ⟨by rfl, ?_⟩) (by assumption) ?_
      rotate_left
      · (intro w hSw; (try dsimp only at hSw); go_simp; try with_reducible rfl)
      (try simp only [Act.put, List.setIfInBounds_toArray, List.set_cons_zero, List.set_cons_succ])
      refine take_first (v := ?_) 5 rfl (by kernel_rfl) (by kernel_rfl) (by kernel_rfl) (fun _ _ _ h => h) (Or.inl ⟨by rfl, ?_⟩) (by assumption) ?_
      rotate_left
      · (intro w hSw; (try dsimp only at hSw); go_simp; try with_reducible rfl)
      (try simp only [Act.put, List.setIfInBounds_toArray, List.set_cons_zero, List.set_cons_succ])
      refine take_first (v := ?_) 6 rfl (by kernel_rfl) (by kernel_rfl) (by kernel_rfl) (fun _ _ _ h => h) (Or.inl ⟨by rfl, ?_⟩) (by assumption) ?_
      rotate_left
      · (intro w hSw; (try dsimp only at hSw); have fb := (Mem.blk hSw 0 rfl).cell 17; rw [prefC_bits a HO.out bits] at fb; go_simp; try with_reducible rfl)
      (try simp only [Act.put, List.setIfInBounds_toArray, List.set_cons_zero, List.set_cons_succ])
      refine take_first (v := ?_) 7 rfl (by kernel_rfl) (by kernel_rfl) (by kernel_rfl) (fun _ _ _ h => h) (Or.inl ⟨by rfl, ?_⟩) (by assumption) ?_
      rotate_left
      · (intro w hSw; (try dsimp only at hSw); have d0 := HD0.out; go_simp; try with_reducible rfl)
      (try simp only [Act.put, List.setIfInBounds_toArray, List.set_cons_zero, List.set_cons_succ])
      refine take_first (v := ?_) 8 rfl (by kernel_rfl) (by kernel_rfl) (by kernel_rfl) (fun _ _ _ h => h) (Or.inl ⟨by rfl, ?_⟩) (by assumption) ?_
      rotate_left
      · (intro w hSw; (try dsimp only at hSw); go_simp; try with_reducible rfl)
      (try simp only [Act.put, List.setIfInBounds_toArray, List.set_cons_zero, List.set_cons_succ])
      refine take_first (v := ?_) 9 rfl (by kernel_rfl) (by kernel_rfl) (by kernel_rfl) (fun _ _ _ h => h) (Or.inl ⟨by rfl, ?_⟩) (by assumption) ?_
      rotate_left
      · (intro w hSw; (try dsimp only at hSw); go_simp; try with_reducible rfl)
      (try simp only [Act.put, List.setIfInBounds_toArray, List.set_cons_zero, List.set_cons_succ])
      refine take_first (v := undef) 10 rfl (by kernel_rfl) (by kernel_rfl) (by kernel_rfl) (fun _ _ _ h => h) (Or.inr ⟨by rfl, rfl⟩) (by assumption) ?_
      (try simp only [Act.put, List.setIfInBounds_toArray, List.set_cons_zero, List.set_cons_succ])
      refine take_first (v := undef) 11 rfl (by kernel_rfl) (by kernel_rfl) (by kernel_rfl) (fun _ _ _ h => h) (Or.inr ⟨by rfl, rfl⟩) (by assumption) ?_
      (try simp only [Act.put, List.setIfInBounds_toArray, List.set_cons_zero, List.set_cons_succ])
      refine take_first (v := undef) 12 rfl (by kernel_rfl) (by kernel_rfl) (by kernel_rfl) (fun _ _ _ h => h) (Or.inr ⟨by rfl, rfl⟩) (by assumption) ?_
      (try simp only [Act.put, List.setIfInBounds_toArray, List.set_cons_zero, List.set_cons_succ])
      refine take_first (v := undef) 13 rfl (by kernel_rfl) (by kernel_rfl) (by kernel_rfl) (fun _ _ _ h => h) (Or.inr ⟨by rfl, rfl⟩) (by assumption) ?_
      (try simp only [Act.put, List.setIfInBounds_toArray, List.set_cons_zero, List.set_cons_succ])
      refine take_first (v := undef) 14 rfl (by kernel_rfl) (by kernel_rfl) (by kernel_rfl) (fun _ _ _ h => h) (Or.inr ⟨by rfl, rfl⟩) (by assumption) ?_
      (try simp only [Act.put, List.setIfInBounds_toArray, List.set_cons_zero, List.set_cons_succ])
      refine take_first (v := undef) 15 rfl (by kernel_rfl) (by kernel_rfl) (by kernel_rfl) (fun _ _ _ h => h) (Or.inr ⟨by rfl, rfl⟩) (by assumption) ?_
      (try simp only [Act.put, List.setIfInBounds_toArray, List.set_cons_zero, List.set_cons_succ])
      refine take_first (v := ?_) 16 rfl (by kernel_rfl) (by kernel_rfl) (by kernel_rfl) (fun _ _ _ h => h) (Or.inl ⟨by rfl, ?_⟩) (by assumption) ?_
      rotate_left
      · (intro w hSw; (try dsimp only at hSw); go_simp; try with_reducible rfl)
      (try simp only [Act.put, List.setIfInBounds_toArray, List.set_cons_zero, List.set_cons_succ])
      refine wpAnyH_done (by kernel_rfl) ?_ _
      clear hHeld
      go_wp2
      go_ret
      exact ⟨by rw [HR.out]; rfl, HM.out.bel⟩
    have HD0 := Lib.hid (show decide (bits < 0) = false by simp; omega)
    obtain ⟨wd, hwd⟩ : ∃ q, widthM a = q := ⟨_, rfl⟩
    have hwd2 := HWD.out
    simp only [hwd] at hwd2
    replace HWD := Lib.hid hwd2
    clear hwd2
    by_cases h1 : (wd : Int) < bits
    · have HR := Lib.hid (show validM a bits = false from by rw [validM, hsd, hwd, decide_eq_true (by omega), decide_eq_false (by omega)]; rfl)
      have HD1 := Lib.hid (show decide (bits > (wd : Int)) = true by simp; omega)
      refine wp_region_held_drew (S := fun W' => Mem w [blkE w.heap.size 28 (prefC a bits)] W') (by kernel_rfl) ((HM.out).drew) (fun hHeld => ?_)
      replace HM := Lib.hid HM.out.drew
      generalize w1.drew = wd1 at HM hHeld ⊢
      refine take_first (v := ?_) 0 rfl (by kernel_rfl) (by kernel_rfl) (by kernel_rfl) (fun _ _ _ h => h) (Or.inl ⟨by rfl, ?_⟩) (by assumption) ?_
      rotate_left
      · (intro w hSw; (try dsimp only at hSw); go_simp; try with_reducible rfl)
      (try simp only [Act.put, List.setIfInBounds_toArray, List.set_cons_zero, List.set_cons_succ])
      refine take_first (v := .agg ca) 1 rfl (by kernel_rfl) (by kernel_rfl) (by kernel_rfl) (fun _ _ _ h => h) (by rw [← HCA.out]; exact yields_load_obj (by rfl) 26 (.tmp 4) rfl w.heap.size 0 rfl a.cells (fun w' hb => by have h := (Mem.blk hb 0 rfl).sub 0 17; rw [prefC_addr a HO.out bits] at h; exact h) _ Try.underlying26 rfl (addr_cellsOf _ HO.out)) (by assumption) ?_
      (try simp only [Act.put, List.setIfInBounds_toArray, List.set_cons_zero, List.set_cons_succ])
      refine step_one 2 rfl (by kernel_rfl) (fun K hK => ?_)
      clear hHeld
      go_simp
      refine (HSN.out _).mono ?_
      rintro e wy2 ⟨rfl, hb⟩
      replace HM := Lib.hid (show Mem w [blkE w.heap.size 28 (prefC a bits)] wy2 from HM.out.below hb)
      clear hb
      go_wp2_with fail
      refine hK.out _ _ (HM.out) (fun hHeld => ?_)
      clear hK K
      (try simp only [Act.put, List.setIfInBounds_toArray, List.set_cons_zero, List.set_cons_succ])
      refine take_first (v := ?_) 3 rfl (by kernel_rfl) (by kernel_rfl) (by kernel_rfl) (fun _ _ _ h => h) (Or.inl ⟨by rfl, ?_⟩) (by assumption) ?_
      rotate_left
      · (intro w hSw; (try dsimp only at hSw); go_simp; try with_reducible rfl)
      (try simp only [Act.put, List.setIfInBounds_toArray, List.set_cons_zero, List.set_cons_succ])
      refine take_first (v := ?_) 4 rfl (by kernel_rfl) (by kernel_rfl) (by kernel_rfl) (fun _ _ _ h => h) (Or.inl ⟨by rfl, ?_⟩) (by assumption) ?_
      rotate_left
      · (intro w hSw; (try dsimp only at hSw); go_simp; try with_reducible rfl)
      (try simp only [Act.put, List.setIfInBounds_toArray, List.set_cons_zero, List.set_cons_succ])
      refine take_first (v := ?_) 5 rfl (by kernel_rfl) (by kernel_rfl) (by kernel_rfl) (fun _ _ _ h => h) (Or.inl ⟨by rfl, ?_⟩) (by assumption) ?_
      rotate_left
      · (intro w hSw; (try dsimp only at hSw); go_simp; try with_reducible rfl)
      (try simp only [Act.put, List.setIfInBounds_toArray, List.set_cons_zero, List.set_cons_succ])
      refine take_first (v := ?_) 6 rfl (by kernel_rfl) (by kernel_rfl) (by kernel_rfl) (fun _ _ _ h => h) (Or.inl ⟨by rfl, ?_⟩) (by assumption) ?_
      rotate_left
      · (intro w hSw; (try dsimp only at hSw); have fb := (Mem.blk hSw 0 rfl).cell 17; rw [prefC_bits a HO.out bits] at fb; go_simp; try with_reducible rfl)
      (try simp only [Act.put, List.setIfInBounds_toArray, List.set_cons_zero, List.set_cons_succ])
      refine take_first (v := ?_) 7 rfl (by kernel_rfl) (by kernel_rfl) (by kernel_rfl) (fun _ _ _ h => h) (Or.inl ⟨by rfl, ?_⟩) (by assumption) ?_
      rotate_left
      · (intro w hSw; (try dsimp only at hSw); have d0 := HD0.out; go_simp; try with_reducible rfl)
      (try simp only [Act.put, List.setIfInBounds_toArray, List.set_cons_zero, List.set_cons_succ])
      refine take_first (v := ?_) 8 rfl (by kernel_rfl) (by kernel_rfl) (by kernel_rfl) (fun _ _ _ h => h) (Or.inl ⟨by rfl, ?_⟩) (by assumption) ?_
      rotate_left
      · (intro w hSw; (try dsimp only at hSw); go_simp; try with_reducible rfl)
      (try simp only [Act.put, List.setIfInBounds_toArray, List.set_cons_zero, List.set_cons_succ])
      refine take_first (v := ?_) 9 rfl (by kernel_rfl) (by kernel_rfl) (by kernel_rfl) (fun _ _ _ h => h) (Or.inl ⟨by rfl, ?_⟩) (by assumption) ?_
      rotate_left
      · (intro w hSw; (try dsimp only at hSw); go_simp; try with_reducible rfl)
      (try simp only [Act.put, List.setIfInBounds_toArray, List.set_cons_zero, List.set_cons_succ])
      refine take_first (v := ?_) 10 rfl (by kernel_rfl) (by kernel_rfl) (by kernel_rfl) (fun _ _ _ h => h) (Or.inl ⟨by rfl, ?_⟩) (by assumption) ?_
      rotate_left
      · (intro w hSw; (try dsimp only at hSw); go_simp; try with_reducible rfl)
      (try simp only [Act.put, List.setIfInBounds_toArray, List.set_cons_zero, List.set_cons_succ])
      refine take_first (v := ?_) 11 rfl (by kernel_rfl) (by kernel_rfl) (by kernel_rfl) (fun _ _ _ h => h) (Or.inl ⟨by rfl, ?_⟩) (by assumption) ?_
      rotate_left
      · (intro w hSw; (try dsimp only at hSw); have fb := (Mem.blk hSw 0 rfl).cell 17; rw [prefC_bits a HO.out bits] at fb; go_simp; try with_reducible rfl)
      (try simp only [Act.put, List.setIfInBounds_toArray, List.set_cons_zero, List.set_cons_succ])
      refine take_first (v := ?_) 12 rfl (by kernel_rfl) (by kernel_rfl) (by kernel_rfl) (fun _ _ _ h => h) (Or.inl ⟨by rfl, ?_⟩) (by assumption) ?_
      rotate_left
      · (intro w hSw; (try dsimp only at hSw); go_simp; try with_reducible rfl)
      (try simp only [Act.put, List.setIfInBounds_toArray, List.set_cons_zero, List.set_cons_succ])
      refine take_first (v := .agg ca) 13 rfl (by kernel_rfl) (by kernel_rfl) (by kernel_rfl) (fun _ _ _ h => h) (by rw [← HCA.out]; exact yields_load_obj (by rfl) 26 (.tmp 16) rfl w.heap.size 0 rfl a.cells (fun w' hb => by have h := (Mem.blk hb 0 rfl).sub 0 17; rw [prefC_addr a HO.out bits] at h; exact h) _ Try.underlying26 rfl (addr_cellsOf _ HO.out)) (by assumption) ?_
      (try simp only [Act.put, List.setIfInBounds_toArray, List.set_cons_zero, List.set_cons_succ])
      refine step_one 14 rfl (by kernel_rfl) (fun K hK => ?_)
      clear hHeld
      go_simp
      refine (HWD.out _).mono ?_
      rintro e wy3 ⟨rfl, hb⟩
      replace HM := Lib.hid (show Mem w [blkE w.heap.size 28 (prefC a bits)] wy3 from HM.out.below hb)
      clear hb
      go_wp2_with fail
      refine hK.out _ _ (HM.out) (fun hHeld => ?_)
      clear hK K
      (try simp only [Act.put, List.setIfInBounds_toArray, List.set_cons_zero, List.set_cons_succ])
      refine take_first (v := ?_) 15 rfl (by kernel_rfl) (by kernel_rfl) (by kernel_rfl) (fun _ _ _ h => h) (Or.inl ⟨by rfl, ?_⟩) (by assumption) ?_
      rotate_left
      · (intro w hSw; (try dsimp only at hSw); have d1 := HD1.out; go_simp; try with_reducible rfl)
      (try simp only [Act.put, List.setIfInBounds_toArray, List.set_cons_zero, List.set_cons_succ])
      refine take_first (v := ?_) 16 rfl (by kernel_rfl) (by kernel_rfl) (by kernel_rfl) (fun _ _ _ h => h) (Or.inl ⟨by rfl, ?_⟩) (by assumption) ?_
      rotate_left
      · (intro w hSw; (try dsimp only at hSw); go_simp; try with_reducible rfl)
      (try simp only [Act.put, List.setIfInBounds_toArray, List.set_cons_zero, List.set_cons_succ])
      refine wpAnyH_done (by kernel_rfl) ?_ _
      clear hHeld
      go_wp2
      go_ret
      exact ⟨by rw [HR.out]; rfl, HM.out.bel⟩
    have HD1 := Lib.hid (show decide (bits > (wd : Int)) = false by simp; omega)
    have HV := Lib.hid (validM_iff a bits hsd (by omega) (by rw [hwd]; omega))
    have hb128 : bits ≤ 128 := by omega
    refine wp_region_held_drew (S := fun W' => Mem w [blkE w.heap.size 28 (prefC a bits)] W') (by kernel_rfl) ((HM.out).drew) (fun hHeld => ?_)
    replace HM := Lib.hid HM.out.drew
    generalize w1.drew = wd1 at HM hHeld ⊢
    refine take_first (v := ?_) 0 rfl (by kernel_rfl) (by kernel_rfl) (by kernel_rfl) (fun _ _ _ h => h) (Or.inl ⟨by rfl, ?_⟩) (by assumption) ?_
    rotate_left
    · (intro w hSw; (try dsimp only at hSw); go_simp; try with_reducible rfl)
    (try simp only [Act.put, List.setIfInBounds_toArray, List.set_cons_zero, List.set_cons_succ])
    refine take_first (v := .agg ca) 1 rfl (by kernel_rfl) (by kernel_rfl) (by kernel_rfl) (fun _ _ _ h => h) (by rw [← HCA.out]; exact yields_load_obj (by rfl) 26 (.tmp 4) rfl w.heap.size 0 rfl a.cells (fun w' hb => by have h := (Mem.blk hb 0 rfl).sub 0 17; rw [prefC_addr a HO.out bits] at h; exact h) _ Try.underlying26 rfl (addr_cellsOf _ HO.out)) (by assumption) ?_
    (try simp only [Act.put, List.setIfInBounds_toArray, List.set_cons_zero, List.set_cons_succ])
    refine step_one 2 rfl (by kernel_rfl) (fun K hK => ?_)
    clear hHeld
    go_simp
    refine (HSN.out _).mono ?_
    rintro e wy2 ⟨rfl, hb⟩
    replace HM := Lib.hid (show Mem w [blkE w.heap.size 28 (prefC a bits)] wy2 from HM.out.below hb)
    clear hb
    go_wp2_with fail
    refine hK.out _ _ (HM.out) (fun hHeld => ?_)
    clear hK K
    (try simp only [Act.put, List.setIfInBounds_toArray, List.set_cons_zero, List.set_cons_succ])
    refine take_first (v := ?_) 3 rfl (by kernel_rfl) (by kernel_rfl) (by kernel_rfl) (fun _ _ _ h => h) (Or.inl ⟨by rfl, ?_⟩) (by assumption) ?_
    rotate_left
    · (intro w hSw; (try dsimp only at hSw); go_simp; try with_reducible rfl)
    (try simp only [Act.put, List.setIfInBounds_toArray, List.set_cons_zero, List.set_cons_succ])
    refine take_first (v := ?_) 4 rfl (by kernel_rfl) (by kernel_rfl) (by kernel_rfl) (fun _ _ _ h => h) (Or.inl ⟨by rfl, ?_⟩) (by assumption) ?_
    rotate_left
    · (intro w hSw; (try dsimp only at hSw); go_simp; try with_reducible rfl)
    (try simp only [Act.put, List.setIfInBounds_toArray, List.set_cons_zero, List.set_cons_succ])
    refine take_first (v := ?_) 5 rfl (by kernel_rfl) (by kernel_rfl) (by kernel_rfl) (fun _ _ _ h => h) (Or.inl ⟨by rfl, ?_⟩) (by assumption) ?_
    rotate_left
    · (intro w hSw; (try dsimp only at hSw); go_simp; try with_reducible rfl)
    (try simp only [Act.put, List.setIfInBounds_toArray, List.set_cons_zero, List.set_cons_succ])
    refine take_first (v := ?_) 6 rfl (by kernel_rfl) (by kernel_rfl) (by kernel_rfl) (fun _ _ _ h => h) (Or.inl ⟨by rfl, ?_⟩) (by assumption) ?_
    rotate_left
    · (intro w hSw; (try dsimp only at hSw); have fb := (Mem.blk hSw 0 rfl).cell 17; rw [prefC_bits a HO.out bits] at fb; go_simp; try with_reducible rfl)
    (try simp only [Act.put, List.setIfInBounds_toArray, List.set_cons_zero, List.set_cons_succ])
    refine take_first (v := ?_) 7 rfl (by kernel_rfl) (by kernel_rfl) (by kernel_rfl) (fun _ _ _ h => h) (Or.inl ⟨by rfl, ?_⟩) (by assumption) ?_
    rotate_left
    · (intro w hSw; (try dsimp only at hSw); have d0 := HD0.out; go_simp; try with_reducible rfl)
    (try simp only [Act.put, List.setIfInBounds_toArray, List.set_cons_zero, List.set_cons_succ])
    refine take_first (v := ?_) 8 rfl (by kernel_rfl) (by kernel_rfl) (by kernel_rfl) (fun _ _ _ h => h) (Or.inl ⟨by rfl, ?_⟩) (by assumption) ?_
    rotate_left
    · (intro w hSw; (try dsimp only at hSw); go_simp; try with_reducible rfl)
    (try simp only [Act.put, List.setIfInBounds_toArray, List.set_cons_zero, List.set_cons_succ])
    refine take_first (v := ?_) 9 rfl (by kernel_rfl) (by kernel_rfl) (by kernel_rfl) (fun _ _ _ h => h) (Or.inl ⟨by rfl, ?_⟩) (by assumption) ?_
    rotate_left
    · (intro w hSw; (try dsimp only at hSw); go_simp; try with_reducible rfl)
    (try simp only [Act.put, List.setIfInBounds_toArray, List.set_cons_zero, List.set_cons_succ])
    refine take_first (v := ?_) 10 rfl (by kernel_rfl) (by kernel_rfl) (by kernel_rfl) (fun _ _ _ h => h) (Or.inl ⟨by rfl, ?_⟩) (by assumption) ?_
    rotate_left
    · (intro w hSw; (try dsimp only at hSw); go_simp; try with_reducible rfl)
    (try simp only [Act.put, List.setIfInBounds_toArray, List.set_cons_zero, List.set_cons_succ])
    refine take_first (v := ?_) 11 rfl (by kernel_rfl) (by kernel_rfl) (by kernel_rfl) (fun _ _ _ h => h) (Or.inl ⟨by rfl, ?_⟩) (by assumption) ?_
    rotate_left
    · (intro w hSw; (try dsimp only at hSw); have fb := (Mem.blk hSw 0 rfl).cell 17; rw [prefC_bits a HO.out bits] at fb; go_simp; try with_reducible rfl)
    (try simp only [Act.put, List.setIfInBounds_toArray, List.set_cons_zero, List.set_cons_succ])
    refine take_first (v := ?_) 12 rfl (by kernel_rfl) (by kernel_rfl) (by kernel_rfl) (fun _ _ _ h => h) (Or.inl ⟨by rfl, ?_⟩) (by assumption) ?_
    rotate_left
    · (intro w hSw; (try dsimp only at hSw); go_simp; try with_reducible rfl)
    (try simp only [Act.put, List.setIfInBounds_toArray, List.set_cons_zero, List.set_cons_succ])
    refine take_first (v := .agg ca) 13 rfl (by kernel_rfl) (by kernel_rfl) (by kernel_rfl) (fun _ _ _ h => h) (by rw [← HCA.out]; exact yields_load_obj (by rfl) 26 (.tmp 16) rfl w.heap.size 0 rfl a.cells (fun w' hb => by have h := (Mem.blk hb 0 rfl).sub 0 17; rw [prefC_addr a HO.out bits] at h; exact h) _ Try.underlying26 rfl (addr_cellsOf _ HO.out)) (by assumption) ?_
    (try simp only [Act.put, List.setIfInBounds_toArray, List.set_cons_zero, List.set_cons_succ])
    refine step_one 14 rfl (by kernel_rfl) (fun K hK => ?_)
    clear hHeld
    go_simp
    refine (HWD.out _).mono ?_
    rintro e wy3 ⟨rfl, hb⟩
    replace HM := Lib.hid (show Mem w [blkE w.heap.size 28 (prefC a bits)] wy3 from HM.out.below hb)
    clear hb
    go_wp2_with fail
    refine hK.out _ _ (HM.out) (fun hHeld => ?_)
    clear hK K
    (try simp only [Act.put, List.setIfInBounds_toArray, List.set_cons_zero, List.set_cons_succ])
    refine take_first (v := ?_) 15 rfl (by kernel_rfl) (by kernel_rfl) (by kernel_rfl) (fun _ _ _ h => h) (Or.inl ⟨by rfl, ?_⟩) (by assumption) ?_
    rotate_left
    · (intro w hSw; (try dsimp only at hSw); have d1 := HD1.out; go_simp; try with_reducible rfl)
    (try simp only [Act.put, List.setIfInBounds_toArray, List.set_cons_zero, List.set_cons_succ])
    refine take_first (v := ?_) 16 rfl (by kernel_rfl) (by kernel_rfl) (by kernel_rfl) (fun _ _ _ h => h) (Or.inl ⟨by rfl, ?_⟩) (by assumption) ?_
    rotate_left
    · (intro w hSw; (try dsimp only at hSw); go_simp; try with_reducible rfl)
    (try simp only [Act.put, List.setIfInBounds_toArray, List.set_cons_zero, List.set_cons_succ])
    refine wpAnyH_done (by kernel_rfl) ?_ _
    clear hHeld
    revert wy3
    intro w2 HM
    obtain ⟨b, rfl⟩ : ∃ b : Nat, bits = (b : Int) := ⟨bits.toNat, by omega⟩
    have fb := (HM.out.blk 0 rfl).cell 17
    rw [prefC_bits a HO.out (b : Int)] at fb
    go_upto_region 4 with fail
    clear fb
    go_loopw [3] (fun z wr => ∃ k : Nat, b ≤ k ∧ k ≤ 128 ∧ z = .int .i64 (k : Int) ∧ (∀ i, b ≤ i → i < k → bitM a.ip i = 0) ∧ Mem w [blkE w.heap.size 28 (prefC a (b : Int))] wr) (fun z _ => 128 - (intOf z).toNat)
    case atStart => exact ⟨b, by omega, by omega, rfl, fun i h1 h2 => absurd h1 (by omega), HM.out⟩
    case round =>
      clear HM
      obtain ⟨k, hbk, hk, rfl, hz, hM⟩ := hrel
      have HM := Lib.hid hM
      have HZ := Lib.hid hz
      clear hM hz
      by_cases hlt : k < 128
      · have dl : decide ((k : Int) < 128) = true := by simp; omega
        have HK := Lib.hid (HBT.out k hlt)
        obtain ⟨q, hq⟩ : ∃ q, bitM a.ip k = q := ⟨_, rfl⟩
        have hk2 := HK.out
        simp only [hq] at hk2
        replace HK := Lib.hid hk2
        clear hk2
        go_wp2_with (refine wpList_load_obj rfl 26 (.tmp 27) rfl w.heap.size 0 rfl a.cells (by have h := (Mem.blk HM.out 0 rfl).sub 0 17; rw [prefC_addr a HO.out (b : Int)] at h; exact h) _ Try.underlying26 rfl (addr_cellsOf _ HO.out) ?_; rw [HCA.out])
        refine (HK.out _).mono ?_
        rintro e w3 ⟨rfl, hb⟩
        replace HM := Lib.hid (HM.out.below hb)
        clear hb
        by_cases hq0 : q = 0
        · have hne : ((q : Int) != 0) = false := by subst hq0; rfl
          have HQ := Lib.hid (show bitM a.ip k = 0 by rw [hq, hq0])
          clear hq hq0
          go_wp2
          go_roundw
          case rel => exact ⟨k + 1, by omega, by omega, by go_num, (fun i h1 h2 => by
            by_cases e : i = k
            · subst e; exact HQ.out
            · exact HZ.out i h1 (by omega)), HM.out⟩
          case measure => simp [intOf]; omega
        · have hne : ((q : Int) != 0) = true := by simp; omega
          have HR := Lib.hid (show validM a (b : Int) = false from by
            rw [Bool.eq_false_iff]
            intro hv
            have := HV.out.1 hv k (by omega) hlt
            omega)
          clear hq hq0
          go_wp2
          go_ret
          exact ⟨by rw [HR.out]; rfl, HM.out.bel⟩
      · obtain rfl : k = 128 := by omega
        have HR := Lib.hid (show validM a (b : Int) = true from HV.out.2 (fun (i : Nat) h1 h2 => HZ.out i (by omega) h2))
        (try rw [show ((128 : Nat) : Int) = 128 from rfl])
        go_wp2
        go_ret
        exact ⟨by rw [HR.out]; rfl, HM.out.bel⟩
theorem pref_cellsOf (a : AddrM) (h : a.ok) (bits : Int) : (Try.prog.info? 28).map (·.size) = some (prefC a bits).length := by
  rw [prefC_length a h]; kernel_rfl
end Go.Proofs.Ytnblofbbbkjhpaa
namespace Go.Proofs.Ytnblofbbbkjhpaa
open Go.RowKit

/-- a route: the address and the bits of its prefix, and its peer -/
structure RouteM where
  a : AddrM
  bits : Int
  peer : List UInt8
def inI64 (x : Int) : Prop := -9223372036854775808 ≤ x ∧ x ≤ 9223372036854775807
def RouteM.ok (r : RouteM) : Prop := r.a.ok ∧ r.peer.length = 32 ∧ inI64 r.bits
def RouteM.cells (r : RouteM) : List Value := prefC r.a r.bits ++ r.peer.map u8v
theorem RouteM.cells_length {r : RouteM} (h : r.ok) : r.cells.length = 50 := by
  rw [RouteM.cells, List.length_append, prefC_length r.a h.1, List.length_map, h.2.1]
/-- one prefix comes before another one -/
def befM (a : AddrM) (i : Int) (b : AddrM) (j : Int) : Bool := if a = b then decide (i < j) else lessM a b
def RouteM.is (a : AddrM) (b : Int) (r : RouteM) : Bool := decide (r.a = a ∧ r.bits = b)
/-- the place of the first route with this prefix -/
def findM (a : AddrM) (b : Int) (l : List RouteM) : Option Nat := l.findIdx? (RouteM.is a b)
/-- how many routes stand ahead of the place of this prefix -/
def aheadM (a : AddrM) (b : Int) (l : List RouteM) : Nat := (l.takeWhile fun r => !befM a b r.a r.bits).length
def insM (l : List RouteM) (a : AddrM) (b : Int) (k : List UInt8) : List RouteM × Nat :=
  if validM a b = false then ([], 1) else
  match findM a b l with
  | some i => (l.set i ⟨a, b, k⟩, 0)
  | none => if 16 ≤ l.length then ([], 12) else (l.take (aheadM a b l) ++ ⟨a, b, k⟩ :: l.drop (aheadM a b l), 0)
def remM (l : List RouteM) (a : AddrM) (b : Int) : List RouteM := l.filter fun r => !RouteM.is a b r
def remPeerM (l : List RouteM) (k : List UInt8) : List RouteM := l.filter fun r => decide (r.peer ≠ k)
def ofM (l : List RouteM) (k : List UInt8) : List (AddrM × Int) := (l.filter fun r => decide (r.peer = k)).map fun r => (r.a, r.bits)
/-- the route at a place is valid and comes behind the one ahead of it -/
def stepM (l : List RouteM) (i : Nat) : Bool := match l[i]? with
  | none => true
  | some r => validM r.a r.bits && (match i with
    | 0 => true
    | k + 1 => match l[k]? with
      | none => true
      | some q => befM q.a q.bits r.a r.bits)
theorem stepM_zero {l : List RouteM} {r : RouteM} (h : l[0]? = some r) : stepM l 0 = validM r.a r.bits := by
  unfold stepM
  rw [h]
  simp
theorem stepM_succ {l : List RouteM} {k : Nat} {q r : RouteM} (hq : l[k]? = some q) (h : l[k + 1]? = some r) : stepM l (k + 1) = (validM r.a r.bits && befM q.a q.bits r.a r.bits) := by
  unfold stepM
  rw [h]
  show (validM r.a r.bits && match l[k]? with | none => true | some q => befM q.a q.bits r.a r.bits) = _
  rw [hq]
theorem stepM_bad {l : List RouteM} {k : Nat} {r : RouteM} (h : l[k]? = some r) (hv : validM r.a r.bits = false) : stepM l k = false := by
  unfold stepM
  rw [h]
  simp [hv]
/-- the routes are valid, each comes before the next one -/
def chainM (l : List RouteM) : Bool := (List.range l.length).all (stepM l)
theorem chainM_good {l : List RouteM} (h : ∀ i, i < l.length → stepM l i = true) : chainM l = true := List.all_eq_true.2 fun i hi => h i (List.mem_range.1 hi)
theorem chainM_bad {l : List RouteM} {i : Nat} (hi : i < l.length) (h : stepM l i = false) : chainM l = false := by
  cases hc : chainM l with
  | false => rfl
  | true => rw [List.all_eq_true.1 hc i (List.mem_range.2 hi)] at h; cases h
def validRoutesM (l : List RouteM) : Bool := chainM l && decide (l.length ≤ 16)
/-- the place of the route with the longest prefix that contains an address, in the first routes -/
def bestTo (l : List RouteM) (x : AddrM) : Nat → Option Nat
  | 0 => none
  | j + 1 => match l[j]? with
    | none => bestTo l x j
    | some r => if containsM r.a r.bits x = false then bestTo l x j else match bestTo l x j with
      | none => some j
      | some k => match l[k]? with
        | none => some j
        | some q => if q.bits < r.bits then some j else some k
theorem bestTo_no {l : List RouteM} {x : AddrM} {j : Nat} {r : RouteM} (hr : l[j]? = some r) (hc : containsM r.a r.bits x = false) : bestTo l x (j + 1) = bestTo l x j := by
  rw [bestTo, hr]
  exact if_pos hc
theorem bestTo_first {l : List RouteM} {x : AddrM} {j : Nat} {r : RouteM} (hr : l[j]? = some r) (hc : containsM r.a r.bits x = true) (hb : bestTo l x j = none) : bestTo l x (j + 1) = some j := by
  rw [bestTo, hr, hb]
  exact if_neg (by rw [hc]; simp)
theorem bestTo_more {l : List RouteM} {x : AddrM} {j k : Nat} {q r : RouteM} (hr : l[j]? = some r) (hc : containsM r.a r.bits x = true) (hb : bestTo l x j = some k) (hq : l[k]? = some q) : bestTo l x (j + 1) = if q.bits < r.bits then some j else some k := by
  rw [bestTo, hr, hb]
  refine (if_neg (by rw [hc]; simp)).trans ?_
  show (match l[k]? with | none => some j | some q => if q.bits < r.bits then some j else some k) = _
  rw [hq]
theorem bestTo_lt {l : List RouteM} {x : AddrM} : ∀ {j k : Nat}, bestTo l x j = some k → k < j
  | 0, k, h => by cases h
  | j + 1, k, h => by
    rw [bestTo] at h
    split at h
    · exact Nat.lt_succ_of_lt (bestTo_lt h)
    · split at h
      · exact Nat.lt_succ_of_lt (bestTo_lt h)
      · split at h
        · injection h with h; omega
        · rename_i q he
          have := bestTo_lt he
          split at h
          · injection h with h; omega
          · split at h <;> (injection h with h; omega)
def lookM (l : List RouteM) (x : AddrM) : List UInt8 × Bool := match bestTo l x l.length with
  | none => (List.replicate 32 0, false)
  | some i => match l[i]? with
    | none => (List.replicate 32 0, false)
    | some r => (r.peer, true)
end Go.Proofs.Ytnblofbbbkjhpaa
namespace Go.Proofs.Ytnblofbbbkjhpaa
open Go.RowKit

theorem run_eql_agg {P : Program} (ρ : Operand → Value) (o : Oper) (t r : TypeId) (i j : Tmp) (ho : o.op = .binOp .eql t (.tmp i) (.tmp j) r) (u v : Array Value) (b : Bool) (w : World) (hx : ρ (.tmp i) = .agg u) (hy : ρ (.tmp j) = .agg v) (hg : P.eqGuardType P.depth t = false) (he : (Op.equalIn 10000 t (.agg u) (.agg v)).run P w = .ok b w) :
    (execOp ρ o).run P w = .ok (.value (.bool b)) w := by
  have he2 : (Op.equalIn Op.maxDepth t (.agg u) (.agg v)).run P w = .ok b w := he
  unfold execOp
  simp only [ho, hx, hy, eqGuard]
  simp [binOp, Op.equal, he2, hg, Result.andThen]
end Go.Proofs.Ytnblofbbbkjhpaa
namespace Go.Proofs.Ytnblofbbbkjhpaa
open Go.RowKit

theorem addr_noguard : Try.prog.eqGuardType Try.prog.depth 26 = false := by kernel_rfl
theorem addr_lits (D : Nat) (a : AddrM) (h : a.ok) : LitsAt Try.prog (D + 3) 26 a.cells := by
  refine lits_struct Try.underlying26 a.cells ?_ (by simp) ?_
  · rw [AddrM.cells_length h]; kernel_rfl
  · intro f hf
    simp only [List.mem_cons, List.not_mem_nil, or_false] at hf
    rcases hf with rfl | rfl
    · have e : (a.cells.drop 0).take (Try.prog.cellsOf 4) = [.bool a.six] := by
        rw [show Try.prog.cellsOf 4 = 1 by kernel_rfl]; rfl
      exact e ▸ lits_bool Try.underlying4 a.six
    · have e : (a.cells.drop 1).take (Try.prog.cellsOf 24) = a.ip.map u8v := by
        rw [show Try.prog.cellsOf 24 = 16 by kernel_rfl, AddrM.cells, List.drop_succ_cons, List.drop_zero, List.take_of_length_le (by rw [List.length_map, h]; omega)]
      exact e ▸ lits_bytes Try.underlying24 Try.underlying5 (by kernel_rfl) a.ip h (by kernel_rfl)
end Go.Proofs.Ytnblofbbbkjhpaa
namespace Go.Proofs.Ytnblofbbbkjhpaa
open Go.RowKit

theorem u8v_inj {x y : List UInt8} : x.map u8v = y.map u8v ↔ x = y := by
  refine List.map_inj_right (fun a b hab => ?_)
  have : ((a.toNat : Nat) : Int) = (b.toNat : Int) := by simpa [u8v] using hab
  exact UInt8.toNat.inj (by omega)
theorem addr_inj {a b : AddrM} : a.cells = b.cells ↔ a = b := by
  refine ⟨fun h => ?_, fun h => by rw [h]⟩
  cases a; cases b
  simp only [AddrM.cells, List.cons.injEq] at h
  obtain ⟨h1, h2⟩ := h
  injection h1 with h1
  rw [u8v_inj] at h2
  rw [h1, h2]
theorem prefC_inj {a b : AddrM} {i j : Int} (ha : a.ok) (hb : b.ok) : prefC a i = prefC b j ↔ a = b ∧ i = j := by
  refine ⟨fun h => ?_, fun h => by rw [h.1, h.2]⟩
  rw [prefC, prefC] at h
  have h1 := List.append_inj h (by rw [AddrM.cells_length ha, AddrM.cells_length hb])
  refine ⟨addr_inj.1 h1.1, ?_⟩
  have h2 := h1.2
  simp only [List.cons.injEq, Value.int.injEq, and_true, true_and] at h2
  exact h2
theorem route_inj {r s : RouteM} (hr : r.ok) (hs : s.ok) : r.cells = s.cells ↔ r = s := by
  refine ⟨fun h => ?_, fun h => by rw [h]⟩
  rw [RouteM.cells, RouteM.cells] at h
  have h1 := List.append_inj h (by rw [prefC_length r.a hr.1, prefC_length s.a hs.1])
  have h2 := (prefC_inj hr.1 hs.1).1 h1.1
  have h3 := u8v_inj.1 h1.2
  cases r; cases s
  simp_all
theorem key_lits (D : Nat) (k : List UInt8) (h : k.length = 32) : LitsAt Try.prog (D + 2) 30 (k.map u8v) :=
  lits_bytes Try.underlying30 Try.underlying5 (by kernel_rfl) k h (by kernel_rfl)
theorem pref_lits (D : Nat) (a : AddrM) (h : a.ok) (q : Int) (hq : inI64 q) : LitsAt Try.prog (D + 4) 28 (prefC a q) := by
  refine lits_struct Try.underlying28 (prefC a q) ?_ (by simp) ?_
  · rw [prefC_length a h q]; kernel_rfl
  · intro f hf
    simp only [List.mem_cons, List.not_mem_nil, or_false] at hf
    rcases hf with rfl | rfl
    · have e : ((prefC a q).drop 0).take (Try.prog.cellsOf 26) = a.cells := by
        rw [show Try.prog.cellsOf 26 = 17 by kernel_rfl]
        exact prefC_addr a h q
      exact e ▸ addr_lits D _ h
    · have e : ((prefC a q).drop 17).take (Try.prog.cellsOf 3) = [.int .i64 q] := by
        rw [show Try.prog.cellsOf 3 = 1 by kernel_rfl, prefC, List.drop_left' (AddrM.cells_length h)]; rfl
      exact e ▸ lits_int Try.underlying3 _ ⟨by simp [IntKind.min, IntKind.signed, IntKind.bits]; exact hq.1, by simp [IntKind.max, IntKind.signed, IntKind.bits]; exact hq.2⟩
theorem route_lits (r : RouteM) (h : r.ok) : LitsAt Try.prog 5 37 r.cells := by
  refine lits_struct Try.underlying37 r.cells ?_ (by simp) ?_
  · rw [RouteM.cells_length h]; kernel_rfl
  · intro f hf
    simp only [List.mem_cons, List.not_mem_nil, or_false] at hf
    rcases hf with rfl | rfl
    · have e : (r.cells.drop 0).take (Try.prog.cellsOf 28) = prefC r.a r.bits := by
        rw [show Try.prog.cellsOf 28 = 18 by kernel_rfl, List.drop_zero, RouteM.cells, List.take_left' (prefC_length r.a h.1 _)]
      exact e ▸ pref_lits 0 r.a h.1 _ h.2.2
    · have e : (r.cells.drop 18).take (Try.prog.cellsOf 30) = r.peer.map u8v := by
        rw [show Try.prog.cellsOf 30 = 32 by kernel_rfl, RouteM.cells, List.drop_left' (prefC_length r.a h.1 _), List.take_of_length_le (by rw [List.length_map, h.2.1]; exact Nat.le_refl _)]
      exact e ▸ key_lits 2 r.peer h.2.1
theorem key_eq (k l : List UInt8) (hk : k.length = 32) (hl : l.length = 32) (w : World) : (Op.equalIn 10000 30 (.agg (k.map u8v).toArray) (.agg (l.map u8v).toArray)).run Try.prog w = .ok (decide (k = l)) w :=
  eq_obj 5 3 30 (by omega) (by kernel_rfl) (by kernel_rfl) (k.map u8v) (l.map u8v) (key_lits 1 k hk) (key_lits 1 l hl) _ Try.underlying30 rfl (by rw [List.length_map, hk]; kernel_rfl) (by rw [List.length_map, hl]; kernel_rfl) _ (by rw [decide_eq_true_iff, u8v_inj]) w
theorem addr_eqd (a b : AddrM) (ha : a.ok) (hb : b.ok) (w : World) : (Op.equalIn 10000 26 (.agg a.cells.toArray) (.agg b.cells.toArray)).run Try.prog w = .ok (decide (a = b)) w :=
  eq_obj 6 3 26 (by omega) (by kernel_rfl) (by kernel_rfl) a.cells b.cells (addr_lits 0 a ha) (addr_lits 0 b hb) _ Try.underlying26 rfl (by rw [AddrM.cells_length ha]; kernel_rfl) (by rw [AddrM.cells_length hb]; kernel_rfl) _ (by rw [decide_eq_true_iff, addr_inj]) w
theorem pref_eqd (a b : AddrM) (i j : Int) (ha : a.ok) (hb : b.ok) (hi : inI64 i) (hj : inI64 j) (w : World) : (Op.equalIn 10000 28 (.agg (prefC a i).toArray) (.agg (prefC b j).toArray)).run Try.prog w = .ok (decide (a = b ∧ i = j)) w :=
  eq_obj 7 4 28 (by omega) (by kernel_rfl) (by kernel_rfl) (prefC a i) (prefC b j) (pref_lits 0 a ha i hi) (pref_lits 0 b hb j hj) _ Try.underlying28 rfl (by rw [prefC_length a ha]; kernel_rfl) (by rw [prefC_length b hb]; kernel_rfl) _ (by rw [decide_eq_true_iff, prefC_inj ha hb]) w
theorem route_eqd (r s : RouteM) (hr : r.ok) (hs : s.ok) (w : World) (b : Bool) (hb : b = true ↔ r = s) : (Op.equalIn 10000 37 (.agg r.cells.toArray) (.agg s.cells.toArray)).run Try.prog w = .ok b w :=
  eq_obj 8 5 37 (by omega) (by kernel_rfl) (by kernel_rfl) r.cells s.cells (route_lits r hr) (route_lits s hs) _ Try.underlying37 rfl (by rw [RouteM.cells_length hr]; kernel_rfl) (by rw [RouteM.cells_length hs]; kernel_rfl) _ (by rw [hb, route_inj hr hs]) w
theorem key_noguard : Try.prog.eqGuardType Try.prog.depth 30 = false := by kernel_rfl
theorem prefix_noguard : Try.prog.eqGuardType Try.prog.depth 28 = false := by kernel_rfl
theorem route_noguard : Try.prog.eqGuardType Try.prog.depth 37 = false := by kernel_rfl
end Go.Proofs.Ytnblofbbbkjhpaa
namespace Go.Proofs.Ytnblofbbbkjhpaa
open Go.RowKit

def rtsV (l : List RouteM) : List (List Value) := l.map RouteM.cells
def pfsV (l : List (AddrM × Int)) : List (List Value) := l.map fun p => prefC p.1 p.2
def okP (p : AddrM × Int) : Prop := p.1.ok ∧ inI64 p.2
/-- routes that lie one after the other below B -/
def RtRd (W : World) (B : Nat) (A : Option Addr) (n : Nat) (l : List RouteM) : Prop := RdRow W B A 50 n (rtsV l) ∧ ∀ r ∈ l, r.ok
def PfRd (W : World) (B : Nat) (A : Option Addr) (n : Nat) (l : List (AddrM × Int)) : Prop := RdRow W B A 18 n (pfsV l) ∧ ∀ p ∈ l, okP p
theorem RtRd.len {W : World} {B n : Nat} {A : Option Addr} {l : List RouteM} (h : RtRd W B A n l) : l.length = n := by
  have := h.1.1
  simpa [rtsV] using this
theorem PfRd.len {W : World} {B n : Nat} {A : Option Addr} {l : List (AddrM × Int)} (h : PfRd W B A n l) : l.length = n := by
  have := h.1.1
  simpa [pfsV] using this
theorem RtRd.below {w W : World} {B n : Nat} {A : Option Addr} {l : List RouteM} (h : RtRd w B A n l) (hb : Below B w W) : RtRd W B A n l := ⟨h.1.below hb, h.2⟩
theorem PfRd.below {w W : World} {B n : Nat} {A : Option Addr} {l : List (AddrM × Int)} (h : PfRd w B A n l) (hb : Below B w W) : PfRd W B A n l := ⟨h.1.below hb, h.2⟩
theorem RtRd.mono {W : World} {B C n : Nat} {A : Option Addr} {l : List RouteM} (h : RtRd W B A n l) (hc : B ≤ C) : RtRd W C A n l := ⟨h.1.mono hc, h.2⟩
theorem PfRd.mono {W : World} {B C n : Nat} {A : Option Addr} {l : List (AddrM × Int)} (h : PfRd W B A n l) (hc : B ≤ C) : PfRd W C A n l := ⟨h.1.mono hc, h.2⟩
theorem RtRd.nil {W : World} {B : Nat} {A : Option Addr} : RtRd W B A 0 [] := ⟨RdRow.nil, by simp⟩
theorem PfRd.nil {W : World} {B : Nat} {A : Option Addr} : PfRd W B A 0 [] := ⟨RdRow.nil, by simp⟩
theorem RtRd.at {W : World} {B n b off : Nat} {l : List RouteM} (h : RtRd W B (some ⟨b, off, none⟩) n l) (i : Nat) (r : RouteM) (hi : l[i]? = some r) : b < B ∧ At W b (off + i * 50) r.cells :=
  h.1.at i r.cells (by rw [rtsV, List.getElem?_map, hi]; rfl)
theorem PfRd.at {W : World} {B n b off : Nat} {l : List (AddrM × Int)} (h : PfRd W B (some ⟨b, off, none⟩) n l) (i : Nat) (p : AddrM × Int) (hi : l[i]? = some p) : b < B ∧ At W b (off + i * 18) (prefC p.1 p.2) :=
  h.1.at i (prefC p.1 p.2) (by rw [pfsV, List.getElem?_map, hi]; rfl)
theorem RtRd.ok {W : World} {B n : Nat} {A : Option Addr} {l : List RouteM} (h : RtRd W B A n l) {i : Nat} {r : RouteM} (hi : l[i]? = some r) : r.ok := h.2 r (List.mem_of_getElem? hi)
theorem PfRd.ok {W : World} {B n : Nat} {A : Option Addr} {l : List (AddrM × Int)} (h : PfRd W B A n l) {i : Nat} {p : AddrM × Int} (hi : l[i]? = some p) : okP p := h.2 p (List.mem_of_getElem? hi)
theorem RtRd.of_own {W : World} {B n c : Nat} {e : TypeId} {A : Option Addr} {l : List RouteM} (hn : l.length = n) (hk : ∀ r ∈ l, r.ok) (h : W.ownsRow B e 50 (.slice A n c) n (rtsV l).flatten) : RtRd W W.heap.size A n l :=
  ⟨RdRow.of_own (by simpa [rtsV] using hn) (fun o ho => by
    obtain ⟨r, hr, rfl⟩ := List.mem_map.1 ho
    exact RouteM.cells_length (hk r hr)) h, hk⟩
theorem PfRd.of_own {W : World} {B n c : Nat} {e : TypeId} {A : Option Addr} {l : List (AddrM × Int)} (hn : l.length = n) (hk : ∀ p ∈ l, okP p) (h : W.ownsRow B e 18 (.slice A n c) n (pfsV l).flatten) : PfRd W W.heap.size A n l :=
  ⟨RdRow.of_own (by simpa [pfsV] using hn) (fun o ho => by
    obtain ⟨p, hp, rfl⟩ := List.mem_map.1 ho
    exact prefC_length p.1 (hk p hp).1 p.2) h, hk⟩
theorem At.mono {w W : World} {b off B : Nat} {cs : List Value} (h : At w b off cs) (hb : Below B w W) (hlt : b < B) : At W b off cs := fun j v hv => (World.cell?_of_block (hb.block b hlt)).trans (h j v hv)
theorem route_pref {w : World} {g off : Nat} {r : RouteM} (h : At w g off r.cells) : At w g off (prefC r.a r.bits) := fun j v hj => h j v (by
  rw [RouteM.cells, List.getElem?_append_left (List.getElem?_eq_some_iff.1 hj).1]
  exact hj)
theorem route_peer {w : World} {g off : Nat} {r : RouteM} (h : At w g off r.cells) (ho : r.ok) : At w g (off + 18) (r.peer.map u8v) := fun j v hj => by
  rw [Nat.add_assoc]
  exact h (18 + j) v (by
    rw [RouteM.cells, List.getElem?_append_right (by rw [prefC_length r.a ho.1]; omega), prefC_length r.a ho.1, Nat.add_sub_cancel_left]
    exact hj)
theorem route_cellsOf (r : RouteM) (h : r.ok) : (Try.prog.info? 37).map (·.size) = some r.cells.length := by
  rw [RouteM.cells_length h]; kernel_rfl
theorem pref_cellsOf' (a : AddrM) (h : a.ok) (i : Int) : (Try.prog.info? 28).map (·.size) = some (prefC a i).length := by
  rw [prefC_length a h]; kernel_rfl
theorem key_cellsOf (k : List UInt8) (h : k.length = 32) : (Try.prog.info? 30).map (·.size) = some (k.map u8v).length := by
  rw [List.length_map, h]; kernel_rfl
end Go.Proofs.Ytnblofbbbkjhpaa
namespace Go.Proofs.Ytnblofbbbkjhpaa
open Go.RowKit

/-- routes, with room for no more than the machine allows -/
def RtArg (w : World) (A : Option Addr) (n c : Nat) (l : List RouteM) : Prop := n ≤ 100 ∧ n ≤ c ∧ c ≤ maxLen ∧ RtRd w w.heap.size A n l
def RtOut (w w' : World) (v : Value) (l : List RouteM) : Prop := ∃ A c, v = .slice A l.length c ∧ l.length ≤ c ∧ c ≤ maxLen ∧ RtRd w' w'.heap.size A l.length l ∧ Below w.heap.size w w'
def RtInsC (F : Nat) : Prop := ∀ (A : Option Addr) (n c : Nat) (l : List RouteM) (a : AddrM) (bits : Int) (k : List UInt8) (w : World), a.ok → inI64 bits → k.length = 32 → RtArg w A n c l →
  Calls Try.prog F #[.slice A n c, .agg (prefC a bits).toArray, .agg (k.map u8v).toArray] w fun e w' => ∃ v, e = .returned (.tuple #[v, .int .i64 ((insM l a bits k).2 : Int)]) ∧ RtOut w w' v (insM l a bits k).1
def RtRemC (F : Nat) : Prop := ∀ (A : Option Addr) (n c : Nat) (l : List RouteM) (a : AddrM) (bits : Int) (w : World), a.ok → inI64 bits → RtArg w A n c l →
  Calls Try.prog F #[.slice A n c, .agg (prefC a bits).toArray] w fun e w' => ∃ v, e = .returned v ∧ RtOut w w' v (remM l a bits)
def RtRemPC (F : Nat) : Prop := ∀ (A : Option Addr) (n c : Nat) (l : List RouteM) (k : List UInt8) (w : World), k.length = 32 → RtArg w A n c l →
  Calls Try.prog F #[.slice A n c, .agg (k.map u8v).toArray] w fun e w' => ∃ v, e = .returned v ∧ RtOut w w' v (remPeerM l k)
def RtOfC (F : Nat) : Prop := ∀ (A : Option Addr) (n c : Nat) (l : List RouteM) (k : List UInt8) (w : World), k.length = 32 → RtArg w A n c l →
  Calls Try.prog F #[.slice A n c, .agg (k.map u8v).toArray] w fun e w' => ∃ A' c', e = .returned (.slice A' (ofM l k).length c') ∧ PfRd w' w'.heap.size A' (ofM l k).length (ofM l k) ∧ Below w.heap.size w w'
def RtValidC (F : Nat) : Prop := ∀ (A : Option Addr) (n c : Nat) (l : List RouteM) (w : World), RtArg w A n c l →
  Calls Try.prog F #[.slice A n c] w fun e w' => e = .returned (.bool (validRoutesM l)) ∧ Below w.heap.size w w'
def RtLookC (F : Nat) : Prop := ∀ (A : Option Addr) (n c : Nat) (l : List RouteM) (x : AddrM) (w : World), x.ok → RtArg w A n c l →
  Calls Try.prog F #[.slice A n c, .agg x.cells.toArray] w fun e w' => e = .returned (.tuple #[.agg ((lookM l x).1.map u8v).toArray, .bool (lookM l x).2]) ∧ Below w.heap.size w w'
end Go.Proofs.Ytnblofbbbkjhpaa
namespace Go.Proofs.Ytnblofbbbkjhpaa
open Go.RowKit

theorem fill_one (n : Nat) (base a : Array Value) (hb : base.size = n) (ha : a.size = n) :
    Instr.fill (fun i => some (i * n, n)) base [(0, .agg a)] = some a := by
  have hA : (a.zipIdx.foldl (fun cs (x : Value × Nat) => cs.setIfInBounds (0 * n + x.2) x.1) base).toList = base.toList.take (0 * n) ++ a.toList ++ base.toList.drop (0 * n + a.size) := by
    have := foldl_set_list (0 * n) a.toList 0 base (by simp; omega)
    rw [← Array.foldl_toList]
    simpa using this
  refine (if_neg (two_tests (fun hne => hne ha) (fun hlt : 0 * n + a.size > base.size => by omega))).trans ?_
  refine congrArg some (Array.ext' (hA.trans ?_))
  have e0 : List.drop (0 * n + a.size) base.toList = [] := List.drop_eq_nil_of_le (by simp; omega)
  rw [e0]
  simp
theorem step_buildOne {P : Program} {w : World} {ops : Array Oper} {o : Oper} {act : Act} {K : Act → World → Prop} {Q : Exit → Act → World → Prop} {E : Prop} (hgd : o.guard = none) (ty e : TypeId) (x : Operand) (ho : o.op = .buildSlice ty 1 #[(0, x)])
    (a : Array Value) (hx : act.eval x = .agg a) (n : Nat) (hu : P.underlying ty = some (.slice e)) (i : TypeInfo) (hi : P.info? e = some i) (hs : i.size = n) (z : Value) (hz : i.zero = some z) (hn0 : 0 < n) (hn1 : n ≤ 1000) (ha : a.size = n)
    (h : K (act.put o.dst (.slice (some ⟨w.heap.size, 0, none⟩) 1 1)) (w.alloc (.cells a e))) : if Region.wanted o (yielded ops act.tmps) = true then Oper.wp P o act w K Q else E := by
  have hw : Region.wanted o (yielded ops act.tmps) = true := by simp [Region.wanted, hgd]
  rw [if_pos hw]
  unfold Oper.wp execOp
  have hf := fun z : Array Value => fill_one n ((Array.range n).map (z[· % z.size]!)) a (by simp) ha
  have h24 : ¬ n > 2 ^ 24 := by omega
  have h20 : ¬ n = 0 := by omega
  simp only [ho, Instr.buildSlice, Sem.run_bind, run_underlying hu, sizeOf, zeroValue, typeInfo, Result.andThen_ok]
  simp [hi, hs, hz, hf, h24, h20, newRow, hx]
  exact h
end Go.Proofs.Ytnblofbbbkjhpaa
namespace Go.Proofs.Ytnblofbbbkjhpaa
open Go.RowKit

/-- the address behind i objects of k cells, as the model keeps it -/
def addrK (A : Option Addr) (i c k : Nat) : Option Addr := if c = i then A else A.map (·.add (i * k))
theorem RdRow.behind {W : World} {B k n : Nat} {A : Option Addr} {os : List (List Value)} (h : RdRow W B A k n os) (i c : Nat) (hi : i ≤ n) (hc : n ≤ c) : RdRow W B (addrK A i c k) k (n - i) (os.drop i) := by
  unfold addrK
  rcases Nat.eq_zero_or_pos (n - i) with h0 | h0
  · rw [h0, List.drop_of_length_le (by have := h.1; omega)]
    exact RdRow.nil
  · obtain ⟨b, off, rfl⟩ := h.addr (by omega)
    rw [if_neg (by omega), Option.map_some, Go.WideShapes.add_plain]
    exact h.drop i hi
theorem RdRow.src {W : World} {B k n : Nat} {os : List (List Value)} {ad : Addr} (h : RdRow W B (some ad) k n os) : ∀ j u, os.flatten[j]? = some u → W.cell? (ad.add j) = some u := by
  intro j u hj
  rcases Nat.eq_zero_or_pos n with h0 | h0
  · have : os = [] := List.eq_nil_of_length_eq_zero (by rw [h.1, h0])
    subst this
    simp at hj
  · obtain ⟨b, off, e, _, hc⟩ := h.2.2 h0
    injection e with e
    subst e
    rw [Go.WideShapes.add_plain]
    exact hc j u hj
theorem RdRow.len {W : World} {B k n : Nat} {A : Option Addr} {os : List (List Value)} (h : RdRow W B A k n os) : os.flatten.length = n * k := by rw [flat_length h.2.1, h.1]
theorem run_append_rows_none {P : Program} {w : World} (base : Nat) (t ty e : TypeId) (i : TypeInfo) (size : Nat) (ht : P.underlying t = some (.slice e)) (hi : P.info? e = some i)
    (v : Value) (n c : Nat) (xs : List Value) (hown : w.ownsRow base e size v n xs) :
    (Builtin.append_ #[t, t] ty #[v, .slice none 0 c]).run P w = .ok v w := by
  rcases hown.2 with ⟨rfl, rfl⟩ | ⟨g, cap, cur, rfl, _, _, hnc, _⟩
  · simp [Builtin.append_, run_underlying ht, sizeOf, typeInfo, hi, Builtin.lenOf, Builtin.firstCells]
  · simp [Builtin.append_, run_underlying ht, sizeOf, typeInfo, hi, Builtin.lenOf, Builtin.firstCells, hnc, storeCells]
/-- a row of objects appended to a row of the call's own -/
theorem run_append_rows {P : Program} (w : World) (base : Nat) (t ty e : TypeId) (i : TypeInfo) (z : Value) (size bytes : Nat) (ht : P.underlying t = some (.slice e)) (hi : P.info? e = some i) (hz : i.zero = some z)
    (hsize : i.size = size) (hby : i.bytes = bytes) (hzs : z.cells.size = size) (hsz : 0 < size) (v : Value) (n : Nat) (xs : List Value) (hown : w.ownsRow base e size v n xs)
    (B : Nat) (A : Option Addr) (m c : Nat) (os : List (List Value)) (hr : RdRow w B A size m os) (h1 : ∀ u ∈ os.flatten, u.oneCell' = true) (h63 : n + m ≤ maxLen) (hbytes : (n + m) * bytes ≤ 140737488355328) (hbase : base ≤ w.heap.size) :
    ∃ v' w', (Builtin.append_ #[t, t] ty #[v, .slice A m c]).run P w = .ok v' w' ∧ w'.ownsRow base e size v' (n + m) (xs ++ os.flatten) ∧ w.grownBy w' v.ownBlock ∧ (v'.ownBlock = v.ownBlock ∨ v'.ownBlock = some w.heap.size) := by
  cases A with
  | some ad =>
    obtain ⟨v', w', hrun, r1, r2, _, r4⟩ := run_append_own_at (P := P) w base t ty e i z size bytes ht hi hz hsize hby hzs hsz v n xs hown ad m c os.flatten hr.len hr.src h1 h63 hbytes hbase
    exact ⟨v', w', hrun, r1, r2, r4⟩
  | none =>
    have hm : m = 0 := by
      rcases Nat.eq_zero_or_pos m with h | h
      · exact h
      · obtain ⟨_, _, e⟩ := hr.addr h
        cases e
    subst hm
    have ho : os = [] := List.eq_nil_of_length_eq_zero hr.1
    subst ho
    exact ⟨v, w, run_append_rows_none base t ty e i size ht hi v n c xs hown, by simpa using hown, ⟨rfl, rfl, rfl, Nat.le_refl _, fun _ _ _ => rfl⟩, .inl rfl⟩
/-- a row of objects appended to one that has no room: a new row -/
theorem run_append_full {P : Program} (w : World) (t ty e : TypeId) (i : TypeInfo) (z : Value) (size bytes : Nat) (ht : P.underlying t = some (.slice e)) (hi : P.info? e = some i) (hz : i.zero = some z)
    (hsize : i.size = size) (hby : i.bytes = bytes) (hzs : z.cells.size = size) (B : Nat) (A : Option Addr) (n c : Nat) (hcn : n = 0 ∧ A = none ∧ c = 0 ∨ c = n ∧ A ≠ none) (os : List (List Value)) (hr : RdRow w B A size n os)
    (B' : Nat) (A' : Option Addr) (m c' : Nat) (hm : 0 < m) (os' : List (List Value)) (hr' : RdRow w B' A' size m os') (h63 : n + m ≤ maxLen) (hbytes : (n + m) * bytes ≤ 140737488355328) :
    ∃ v' w', (Builtin.append_ #[t, t] ty #[.slice A n c, .slice A' m c']).run P w = .ok v' w' ∧ w'.ownsRow w.heap.size e size v' (n + m) (os.flatten ++ os'.flatten) ∧ Below w.heap.size w w' := by
  subst hsize
  subst hby
  obtain ⟨b', off', rfl⟩ := hr'.addr hm
  have hlen : (os.flatten ++ os'.flatten).length = (n + m) * i.size := by rw [List.length_append, hr.len, hr'.len, Nat.add_mul]
  have grown : ∀ (old : Nat), old < n + m →
      (w.drew.alloc (.cells (os.flatten.toArray ++ os'.flatten.toArray ++ Builtin.zeroCells z.cells (grownCap w (n + m) old e - (n + m))) e)).ownsRow w.heap.size e i.size
        (.slice (some ⟨w.heap.size, 0, none⟩) (n + m) (grownCap w (n + m) old e)) (n + m) (os.flatten ++ os'.flatten) ∧
      Below w.heap.size w (w.drew.alloc (.cells (os.flatten.toArray ++ os'.flatten.toArray ++ Builtin.zeroCells z.cells (grownCap w (n + m) old e - (n + m))) e)) := by
    intro old ho
    have hge := grownCap_ge w (n + m) old e
    have hcm : grownCap w (n + m) old e ≤ maxLen := grownCap_le_maxLen w (n + m) old e h63
    refine ⟨⟨hlen, .inr ⟨w.heap.size, _, _, rfl, Nat.le_refl _, heap_alloc_new w.drew _, hge, hcm, ?_, ?_⟩⟩, (Below.refl _ _).drew.alloc (Nat.le_refl _) _⟩
    · simp only [Array.size_append, List.size_toArray, size_zeroCells, hzs, hr.len, hr'.len, ← Nat.add_mul]
      congr 1
      omega
    · simp only [Array.toList_append, List.append_assoc]
      rw [← List.append_assoc, ← hlen]
      exact List.take_left
  rcases hcn with ⟨rfl, rfl, rfl⟩ | ⟨rfl, hA⟩
  · have ho : os = [] := List.eq_nil_of_length_eq_zero hr.1
    subst ho
    have hru := run_append_nil (P := P) w t ty e i z ht hi hz ⟨b', off', none⟩ m c' os'.flatten hr'.len hr'.src hm (by simp only [maxLen] at h63; omega) (by have hb := hbytes; simp only [Nat.zero_add] at hb; omega)
    have hgr := grown 0 (by omega)
    simp only [Nat.zero_add, List.flatten_nil, List.nil_append, Array.empty_append] at hgr ⊢
    exact ⟨_, _, hru, hgr.1, hgr.2⟩
  · cases A with
    | none => exact absurd rfl hA
    | some ad =>
      have hru := run_append_grow (P := P) w t ty e i z ht hi hz ad c c os.flatten hr.len hr.src ⟨b', off', none⟩ m c' os'.flatten hr'.len hr'.src (by omega) (by simp only [maxLen] at h63; omega) (growslice_fits (by omega) hbytes)
      have hgr := grown c (by omega)
      exact ⟨_, _, hru, hgr.1, hgr.2⟩
theorem wpList_append_rows {P : Program} (w : World) {ops : Array Oper} {rest : List Oper} {o : Oper} {a : Act} {Q : Exit → Act → World → Prop} (hgd : o.guard = none) (s x : Operand) (t : TypeId)
    (ho : o.op = .call { callee := .builtin .append, args := #[s, x], argTypes := #[t, t] })
    (base : Nat) (e : TypeId) (i : TypeInfo) (z : Value) (size bytes : Nat) (ht : P.underlying t = some (.slice e)) (hi : P.info? e = some i) (hz : i.zero = some z) (hsize : i.size = size) (hby : i.bytes = bytes) (hzs : z.cells.size = size) (hsz : 0 < size)
    (v : Value) (n : Nat) (xs : List Value) (hs : a.eval s = v) (hown : w.ownsRow base e size v n xs) (B : Nat) (A : Option Addr) (m c : Nat) (os : List (List Value)) (hx : a.eval x = .slice A m c) (hr : RdRow w B A size m os) (h1 : ∀ u ∈ os.flatten, u.oneCell' = true)
    (h63 : n + m ≤ maxLen) (hbytes : (n + m) * bytes ≤ 140737488355328) (hbase : base ≤ w.heap.size)
    (h : ∀ v' w', w'.ownsRow base e size v' (n + m) (xs ++ os.flatten) → w.grownBy w' v.ownBlock → (v'.ownBlock = v.ownBlock ∨ v'.ownBlock = some w.heap.size) → wpList P ops Q rest (a.put o.dst v') w') : wpList P ops Q (o :: rest) a w := by
  refine wpList_plain hgd fun K hK => ?_
  obtain ⟨v', w', hrun, h2, h3, h4⟩ := run_append_rows (P := P) w base t o.type e i z size bytes ht hi hz hsize hby hzs hsz v n xs hown B A m c os hr h1 h63 hbytes hbase
  unfold Oper.wp execOp
  simp only [ho, resolve, invoke, builtin, Sem.run_bind, Sem.run_pure, Result.andThen_ok, List.map_toArray, List.map_cons, List.map_nil, hs, hx, hrun]
  exact hK _ _ (h v' w' h2 h3 h4)
theorem step_append_rows {P : Program} (w : World) {ops : Array Oper} {o : Oper} {a : Act} {K : Act → World → Prop} {Q : Exit → Act → World → Prop} {E : Prop} (hgd : o.guard = none) (s x : Operand) (t : TypeId)
    (ho : o.op = .call { callee := .builtin .append, args := #[s, x], argTypes := #[t, t] })
    (base : Nat) (e : TypeId) (i : TypeInfo) (z : Value) (size bytes : Nat) (ht : P.underlying t = some (.slice e)) (hi : P.info? e = some i) (hz : i.zero = some z) (hsize : i.size = size) (hby : i.bytes = bytes) (hzs : z.cells.size = size) (hsz : 0 < size)
    (v : Value) (n : Nat) (xs : List Value) (hs : a.eval s = v) (hown : w.ownsRow base e size v n xs) (B : Nat) (A : Option Addr) (m c : Nat) (os : List (List Value)) (hx : a.eval x = .slice A m c) (hr : RdRow w B A size m os) (h1 : ∀ u ∈ os.flatten, u.oneCell' = true)
    (h63 : n + m ≤ maxLen) (hbytes : (n + m) * bytes ≤ 140737488355328) (hbase : base ≤ w.heap.size)
    (h : ∀ v' w', w'.ownsRow base e size v' (n + m) (xs ++ os.flatten) → w.grownBy w' v.ownBlock → (v'.ownBlock = v.ownBlock ∨ v'.ownBlock = some w.heap.size) → K (a.put o.dst v') w') : if Region.wanted o (yielded ops a.tmps) = true then Oper.wp P o a w K Q else E := by
  rw [if_pos (by simp [Region.wanted, hgd])]
  obtain ⟨v', w', hrun, h2, h3, h4⟩ := run_append_rows (P := P) w base t o.type e i z size bytes ht hi hz hsize hby hzs hsz v n xs hown B A m c os hr h1 h63 hbytes hbase
  unfold Oper.wp execOp
  simp only [ho, resolve, invoke, builtin, Sem.run_bind, Sem.run_pure, Result.andThen_ok, List.map_toArray, List.map_cons, List.map_nil, hs, hx, hrun]
  exact h v' w' h2 h3 h4
theorem step_append_full {P : Program} (w : World) {ops : Array Oper} {o : Oper} {act : Act} {K : Act → World → Prop} {Q : Exit → Act → World → Prop} {E : Prop} (hgd : o.guard = none) (s x : Operand) (t : TypeId)
    (ho : o.op = .call { callee := .builtin .append, args := #[s, x], argTypes := #[t, t] })
    (e : TypeId) (i : TypeInfo) (z : Value) (size bytes : Nat) (ht : P.underlying t = some (.slice e)) (hi : P.info? e = some i) (hz : i.zero = some z) (hsize : i.size = size) (hby : i.bytes = bytes) (hzs : z.cells.size = size)
    (B : Nat) (A : Option Addr) (n c : Nat) (hs : act.eval s = .slice A n c) (hcn : n = 0 ∧ A = none ∧ c = 0 ∨ c = n ∧ A ≠ none) (os : List (List Value)) (hr : RdRow w B A size n os)
    (B' : Nat) (A' : Option Addr) (m c' : Nat) (hx : act.eval x = .slice A' m c') (hm : 0 < m) (os' : List (List Value)) (hr' : RdRow w B' A' size m os') (h63 : n + m ≤ maxLen) (hbytes : (n + m) * bytes ≤ 140737488355328)
    (h : ∀ v' w', w'.ownsRow w.heap.size e size v' (n + m) (os.flatten ++ os'.flatten) → Below w.heap.size w w' → K (act.put o.dst v') w') : if Region.wanted o (yielded ops act.tmps) = true then Oper.wp P o act w K Q else E := by
  rw [if_pos (by simp [Region.wanted, hgd])]
  obtain ⟨v', w', hrun, h2, h3⟩ := run_append_full (P := P) w t o.type e i z size bytes ht hi hz hsize hby hzs B A n c hcn os hr B' A' m c' hm os' hr' h63 hbytes
  unfold Oper.wp execOp
  simp only [ho, resolve, invoke, builtin, Sem.run_bind, Sem.run_pure, Result.andThen_ok, List.map_toArray, List.map_cons, List.map_nil, hs, hx, hrun]
  exact h v' w' h2 h3
end Go.Proofs.Ytnblofbbbkjhpaa
namespace Go.Proofs.Ytnblofbbbkjhpaa
open Go.RowKit

theorem wpList_buildOne {P : Program} {w : World} {ops : Array Oper} {rest : List Oper} {o : Oper} {act : Act} {Q : Exit → Act → World → Prop} (hgd : o.guard = none) (ty e : TypeId) (x : Operand) (ho : o.op = .buildSlice ty 1 #[(0, x)])
    (a : Array Value) (hx : act.eval x = .agg a) (n : Nat) (hu : P.underlying ty = some (.slice e)) (i : TypeInfo) (hi : P.info? e = some i) (hs : i.size = n) (z : Value) (hz : i.zero = some z) (hn0 : 0 < n) (hn1 : n ≤ 1000) (ha : a.size = n)
    (h : wpList P ops Q rest (act.put o.dst (.slice (some ⟨w.heap.size, 0, none⟩) 1 1)) (w.alloc (.cells a e))) : wpList P ops Q (o :: rest) act w :=
  wpList_step fun _ hK => step_buildOne hgd ty e x ho a hx n hu i hi hs z hz hn0 hn1 ha (hK _ _ h)
def routeZ : List Value := prefC addr0 0 ++ aeZ 32
theorem routeZ_length : routeZ.length = 50 := by decide
theorem routeInfo : ∃ i, Try.prog.info? 37 = some i ∧ i.zero = some (.agg routeZ.toArray) ∧ i.size = 50 ∧ i.bytes = 64 := by
  have h : (Try.prog.info? 37).map (fun i => (i.zero, i.size, i.bytes)) = some (some (.agg routeZ.toArray), 50, 64) := by kernel_rfl
  cases hi : Try.prog.info? 37 with
  | none => rw [hi] at h; cases h
  | some i =>
    rw [hi] at h
    simp only [Option.map_some, Option.some.injEq, Prod.mk.injEq] at h
    exact ⟨i, rfl, h.1, h.2.1, h.2.2⟩
theorem prefInfo : ∃ i, Try.prog.info? 28 = some i ∧ i.zero = some (.agg (prefC addr0 0).toArray) ∧ i.size = 18 ∧ i.bytes = 32 := by
  have h : (Try.prog.info? 28).map (fun i => (i.zero, i.size, i.bytes)) = some (some (.agg (prefC addr0 0).toArray), 18, 32) := by kernel_rfl
  cases hi : Try.prog.info? 28 with
  | none => rw [hi] at h; cases h
  | some i =>
    rw [hi] at h
    simp only [Option.map_some, Option.some.injEq, Prod.mk.injEq] at h
    exact ⟨i, rfl, h.1, h.2.1, h.2.2⟩
theorem pref_oneR (a : AddrM) (b : Int) : ∀ v ∈ prefC a b, v.oneCell' = true := by
  intro v hv
  rw [prefC, AddrM.cells] at hv
  simp only [List.cons_append, List.mem_cons, List.mem_append, List.mem_map, List.not_mem_nil, or_false] at hv
  rcases hv with rfl | ⟨x, _, rfl⟩ | rfl <;> rfl
theorem route_one (r : RouteM) : ∀ v ∈ r.cells, v.oneCell' = true := by
  intro v hv
  rw [RouteM.cells, List.mem_append, List.mem_map] at hv
  rcases hv with h | ⟨x, _, rfl⟩
  · exact pref_oneR _ _ v h
  · rfl
theorem setL_all (old cs : List Value) (h : cs.length = old.length) : setL old 0 cs = cs := by
  rw [setL, List.take_zero, List.nil_append, Nat.zero_add, h, List.drop_length, List.append_nil]
theorem pfsV_snoc (l : List (AddrM × Int)) (p : AddrM × Int) : (pfsV (l ++ [p])).flatten = (pfsV l).flatten ++ prefC p.1 p.2 := by simp [pfsV]
theorem take_snoc {α : Type} {l : List α} {j : Nat} {r : α} (h : l[j]? = some r) : l.take (j + 1) = l.take j ++ [r] := by rw [List.take_add_one, h]; rfl
theorem ofM_snoc (l : List RouteM) (r : RouteM) (k : List UInt8) : ofM (l ++ [r]) k = ofM l k ++ (if r.peer = k then [(r.a, r.bits)] else []) := by
  rw [ofM, ofM, List.filter_append, List.map_append]
  by_cases h : r.peer = k <;> simp [h]
theorem remM_ok {l : List RouteM} (h : ∀ r ∈ l, r.ok) (a : AddrM) (b : Int) : ∀ r ∈ remM l a b, r.ok := fun r hr => h r (List.mem_filter.1 hr).1
theorem remPeerM_ok {l : List RouteM} (h : ∀ r ∈ l, r.ok) (k : List UInt8) : ∀ r ∈ remPeerM l k, r.ok := fun r hr => h r (List.mem_filter.1 hr).1
theorem ofM_ok {l : List RouteM} (h : ∀ r ∈ l, r.ok) (k : List UInt8) : ∀ p ∈ ofM l k, okP p := fun p hp => by
  obtain ⟨r, hr, rfl⟩ := List.mem_map.1 hp
  have := h r (List.mem_filter.1 hr).1
  exact ⟨this.1, this.2.2⟩
theorem ofM_le (l : List RouteM) (k : List UInt8) : (ofM l k).length ≤ l.length := by
  rw [ofM, List.length_map]
  exact List.length_filter_le _ _
/-- an object in a block that was just laid and then written: all that was there ahead is as it was -/
theorem below_fresh {w w' : World} {o : Obj} (hg : (w.alloc o).grownBy w' (some w.heap.size)) : Below w.heap.size w w' :=
  ((Below.refl w.heap.size w).alloc (Nat.le_refl _) o).grown hg (by simp) (fun k hk => by injection hk with hk; omega)
end Go.Proofs.Ytnblofbbbkjhpaa
namespace Go.Proofs.Ytnblofbbbkjhpaa
open Go.RowKit

theorem routes_under : Try.prog.underlying 23 = some (.slice (Try.prog.elem 23)) := by kernel_rfl
theorem routes_size (w : World) : (sizeOf (Try.prog.elem 23)).run Try.prog w = .ok 50 w := by
  obtain ⟨i0, hi, _, hs, _⟩ := routeInfo
  have e : Try.prog.elem 23 = 37 := by kernel_rfl
  rw [e]
  simp [sizeOf, typeInfo, hi, hs]
set_option maxRecDepth 100000 in
theorem routes_hm (A : Option Addr) (n c j : Nat) (h3 : j ≤ c) (w : World) : (Instr.sliceAt 23 (.slice A n c) none (some (.int .i64 (j : Int))) (some (.int .i64 (j : Int)))).run Try.prog w = .ok (.slice (addrK A 0 j 50) j j) w := by
  rw [run_sliceAt_slice (P := Try.prog) (w := w) 23 _ _ _ _ routes_under, run_slice_hm (P := Try.prog) (w := w) 23 A n c routes_under .i64 .i64 j j (by omega) (by omega) (by omega), routes_size]
  simp only [Result.andThen, sliced, Int.toNat_natCast, Nat.sub_zero]
  rfl
set_option maxRecDepth 100000 in
theorem routes_l (A : Option Addr) (n c i : Nat) (h2 : i ≤ n) (w : World) : (Instr.sliceAt 23 (.slice A n c) (some (.int .i64 (i : Int))) none none).run Try.prog w = .ok (.slice (addrK A i c 50) (n - i) (c - i)) w := by
  rw [run_sliceAt_slice (P := Try.prog) (w := w) 23 _ _ _ _ routes_under, run_slice_l (P := Try.prog) (w := w) 23 A n c routes_under .i64 i (by omega) (by omega), routes_size]
  simp only [Result.andThen, sliced, Int.toNat_natCast]
  rfl
theorem addrK_zero {W : World} {B k n : Nat} {A : Option Addr} {os : List (List Value)} (h : RdRow W B A k n os) (j : Nat) (hj : j ≤ n) : RdRow W B (addrK A 0 j k) k j (os.take j) := by
  rcases Nat.eq_zero_or_pos j with h0 | h0
  · subst h0
    rw [List.take_zero]
    exact RdRow.nil
  · obtain ⟨b, off, rfl⟩ := h.addr (by omega)
    unfold addrK
    rw [if_neg (by omega), Option.map_some, Go.WideShapes.add_plain, Nat.zero_mul, Nat.add_zero]
    exact h.take j hj
theorem rtsV_take (l : List RouteM) (j : Nat) : (rtsV l).take j = rtsV (l.take j) := by rw [rtsV, rtsV, List.map_take]
theorem rtsV_drop (l : List RouteM) (j : Nat) : (rtsV l).drop j = rtsV (l.drop j) := by rw [rtsV, rtsV, List.map_drop]
theorem rtsV_one (l : List RouteM) : ∀ u ∈ (rtsV l).flatten, u.oneCell' = true := by
  intro u hu
  obtain ⟨o, ho, h⟩ := List.mem_flatten.1 hu
  obtain ⟨r, _, rfl⟩ := List.mem_map.1 ho
  exact route_one r u h
theorem rtsV_append (l m : List RouteM) : (rtsV l).flatten ++ (rtsV m).flatten = (rtsV (l ++ m)).flatten := by simp [rtsV]
/-- the place of a prefix -/
theorem aheadM_step (a : AddrM) (b : Int) : ∀ (l : List RouteM) (i : Nat), i ≤ aheadM a b l → ∀ r, l[i]? = some r → (befM a b r.a r.bits = false → i + 1 ≤ aheadM a b l) ∧ (befM a b r.a r.bits = true → aheadM a b l = i)
  | [], i, _, r, hr => by simp at hr
  | s :: l, 0, _, r, hr => by
    simp only [List.getElem?_cons_zero, Option.some.injEq] at hr
    subst hr
    unfold aheadM
    constructor
    · intro h
      rw [List.takeWhile_cons, h]
      simp
    · intro h
      rw [List.takeWhile_cons, h]
      simp
  | s :: l, i + 1, hi, r, hr => by
    have hb : befM a b s.a s.bits = false := by
      cases h : befM a b s.a s.bits with
      | false => rfl
      | true =>
        rw [aheadM, List.takeWhile_cons, h] at hi
        simp at hi
    have e : aheadM a b (s :: l) = aheadM a b l + 1 := by
      rw [aheadM, List.takeWhile_cons, hb]
      simp [aheadM]
    have := aheadM_step a b l i (by omega) r (by simpa using hr)
    exact ⟨fun h => by have := this.1 h; omega, fun h => by have := this.2 h; omega⟩
theorem aheadM_le (a : AddrM) (b : Int) (l : List RouteM) : aheadM a b l ≤ l.length := (List.takeWhile_sublist _).length_le
theorem findM_none {a : AddrM} {b : Int} {l : List RouteM} (h : ∀ (i : Nat) (r : RouteM), l[i]? = some r → RouteM.is a b r = false) : findM a b l = none := by
  rw [findM, List.findIdx?_eq_none_iff]
  intro x hx
  obtain ⟨i, hi, rfl⟩ := List.getElem_of_mem hx
  exact h i _ (List.getElem?_eq_getElem hi)
theorem findM_some {a : AddrM} {b : Int} {l : List RouteM} {i : Nat} {r : RouteM} (hr : l[i]? = some r) (h1 : RouteM.is a b r = true) (h : ∀ (j : Nat) (r : RouteM), j < i → l[j]? = some r → RouteM.is a b r = false) : findM a b l = some i := by
  obtain ⟨hi, rfl⟩ := List.getElem?_eq_some_iff.1 hr
  rw [findM, List.findIdx?_eq_some_iff_getElem]
  exact ⟨hi, h1, fun j hj => by simpa using h j _ hj (List.getElem?_eq_getElem (by omega))⟩
end Go.Proofs.Ytnblofbbbkjhpaa
namespace Go.Proofs.Ytnblofbbbkjhpaa
open Go.RowKit

theorem route_built (r : RouteM) (h : r.ok) : Try.prog.built 37 [(0, .agg (prefC r.a r.bits).toArray), (1, .agg (r.peer.map u8v).toArray)] = some r.cells.toArray := by
  rw [built_of 37 [18, 32] [prefC addr0 0, aeZ 32] (by kernel_rfl) #[(0, 18), (18, 32)] (fun parts => by kernel_rfl) (fun i h => by
    match i, h with
    | 0, _ => rfl
    | 1, _ => rfl) _ (fun p hp => by
    simp only [List.mem_cons, List.not_mem_nil, or_false] at hp
    rcases hp with rfl | rfl
    · simp [Value.cells, prefC_length r.a h.1]
    · simp [Value.cells, h.2.1])]
  simp [RouteM.cells, Value.cells]
theorem setL_mid3 (x y y' z : List Value) (off : Nat) (ho : off = x.length) (hy : y'.length = y.length) : setL (x ++ y ++ z) off y' = x ++ y' ++ z := by
  subst ho
  rw [setL, List.append_assoc x y z, List.take_left, hy, ← List.append_assoc, ← List.length_append, List.drop_left]
theorem take_setL (l y : List Value) (off m : Nat) (h : off + y.length ≤ m) (hm : m ≤ l.length) : (setL l off y).take m = setL (l.take m) off y := by
  have key : ∀ t d : List Value, off + y.length ≤ t.length → setL (t ++ d) off y = setL t off y ++ d := by
    intro t d ht
    have e1 : (t ++ d).take off = t.take off := List.take_append_of_le_length (by omega)
    have e2 : (t ++ d).drop (off + y.length) = t.drop (off + y.length) ++ d := List.drop_append_of_le_length ht
    rw [setL, setL, e1, e2, ← List.append_assoc]
  have h1 : (l.take m).length = m := by rw [List.length_take]; omega
  have e := key (l.take m) (l.drop m) (by omega)
  rw [List.take_append_drop] at e
  rw [e]
  exact List.take_left' (by
    rw [setL]
    simp only [List.length_append, List.length_take, List.length_drop]
    omega)
/-- a key is replaced -/
theorem set_peer {l : List RouteM} (hl : ∀ r ∈ l, r.ok) {j : Nat} {r : RouteM} (hr : l[j]? = some r) (k : List UInt8) (hk : k.length = 32) : setL (rtsV l).flatten (j * 50 + 18) (k.map u8v) = (rtsV (l.set j ⟨r.a, r.bits, k⟩)).flatten := by
  obtain ⟨hj, rfl⟩ := List.getElem?_eq_some_iff.1 hr
  have e : l = l.take j ++ l[j] :: l.drop (j + 1) := by rw [List.getElem_cons_drop, List.take_append_drop]
  have e2 : l.set j ⟨l[j].a, l[j].bits, k⟩ = l.take j ++ ⟨l[j].a, l[j].bits, k⟩ :: l.drop (j + 1) := by rw [List.set_eq_take_append_cons_drop, if_pos hj]
  have ho := hl l[j] (List.getElem_mem hj)
  have hf : (rtsV (l.take j)).flatten.length = j * 50 := by
    rw [flat_length (k := 50) (fun o ho => by
      obtain ⟨r, hr, rfl⟩ := List.mem_map.1 ho
      exact RouteM.cells_length (hl r (List.mem_of_mem_take hr))), rtsV, List.length_map, List.length_take, Nat.min_eq_left (by omega)]
  generalize l[j] = r at e e2 ho ⊢
  rw [e2]
  conv => lhs; rw [e]
  have e3 : (rtsV (l.take j ++ r :: l.drop (j + 1))).flatten = ((rtsV (l.take j)).flatten ++ prefC r.a r.bits) ++ r.peer.map u8v ++ (rtsV (l.drop (j + 1))).flatten := by simp [rtsV, RouteM.cells]
  have e4 : (rtsV (l.take j ++ ⟨r.a, r.bits, k⟩ :: l.drop (j + 1))).flatten = ((rtsV (l.take j)).flatten ++ prefC r.a r.bits) ++ k.map u8v ++ (rtsV (l.drop (j + 1))).flatten := by simp [rtsV, RouteM.cells]
  rw [e3, e4]
  exact setL_mid3 _ _ _ _ _ (by rw [List.length_append, hf, prefC_length r.a ho.1]) (by simp [hk, ho.2.1])
theorem set_peer_ok {l : List RouteM} (hl : ∀ r ∈ l, r.ok) {j : Nat} {r : RouteM} (hr : l[j]? = some r) (k : List UInt8) (hk : k.length = 32) : ∀ q ∈ l.set j ⟨r.a, r.bits, k⟩, q.ok := fun q hq => by
  rcases List.mem_or_eq_of_mem_set hq with h | rfl
  · exact hl q h
  · have := hl r (List.mem_of_getElem? hr)
    exact ⟨this.1, hk, this.2.2⟩
/-- the row behind a store of a key in one of its routes -/
theorem own_set {w w' : World} {base g n cap : Nat} {l : List RouteM} (hl : ∀ r ∈ l, r.ok) (hn : l.length = n) (cur : List Value) (hcs : cur.length = cap * 50) (hnc : n ≤ cap) (hcm : cap ≤ maxLen) (htk : cur.take (n * 50) = (rtsV l).flatten) (hb : base ≤ g) {j : Nat} {r : RouteM} (hrj : l[j]? = some r) (k : List UInt8) (hk : k.length = 32)
    (hB : Blk w' g 37 (setL cur (j * 50 + 18) (k.map u8v))) (_hg : w.grownBy w' (some g)) :
    w'.ownsRow base 37 50 (.slice (some ⟨g, 0, none⟩) n cap) n (rtsV (l.set j ⟨r.a, r.bits, k⟩)).flatten := by
  have hj : j < l.length := (List.getElem?_eq_some_iff.1 hrj).1
  have hle : j * 50 + 18 + (k.map u8v).length ≤ n * 50 := by
    rw [List.length_map, hk]
    omega
  have hnm : n * 50 ≤ cur.length := by rw [hcs]; exact Nat.mul_le_mul_right _ hnc
  refine ⟨?_, .inr ⟨g, cap, (setL cur (j * 50 + 18) (k.map u8v)).toArray, rfl, hb, hB, hnc, hcm, ?_, ?_⟩⟩
  · rw [flat_length (k := 50) (fun o ho => by
      obtain ⟨r, hr, rfl⟩ := List.mem_map.1 ho
      exact RouteM.cells_length (set_peer_ok hl hrj k hk r hr)), rtsV, List.length_map, List.length_set, hn]
  · rw [List.size_toArray, ← hcs, setL]
    simp only [List.length_append, List.length_take, List.length_drop]
    omega
  · show (setL cur (j * 50 + 18) (k.map u8v)).take (n * 50) = _
    rw [take_setL _ _ _ _ hle hnm, htk]
    exact set_peer hl hrj k hk
end Go.Proofs.Ytnblofbbbkjhpaa
namespace Go.Proofs.Ytnblofbbbkjhpaa
open Go.RowKit

theorem wpList_eql_agg {P : Program} {w : World} {ops : Array Oper} {rest : List Oper} {o : Oper} {a : Act} {Q : Exit → Act → World → Prop} (hw : Region.wanted o (yielded ops a.tmps) = true) (t r : TypeId) (i j : Tmp) (ho : o.op = .binOp .eql t (.tmp i) (.tmp j) r) (u v : Array Value) (b : Bool)
    (hx : a.eval (.tmp i) = .agg u) (hy : a.eval (.tmp j) = .agg v) (hg : P.eqGuardType P.depth t = false) (he : (Op.equalIn 10000 t (.agg u) (.agg v)).run P w = .ok b w)
    (h : wpList P ops Q rest (a.put o.dst (.bool b)) w) : wpList P ops Q (o :: rest) a w :=
  wpList_step fun K hK => by
    rw [if_pos hw]
    have he2 : (Op.equalIn Op.maxDepth t (.agg u) (.agg v)).run P w = .ok b w := he
    have hr : (execOp a.eval o).run P w = .ok (.value (.bool b)) w := by
      unfold execOp
      simp only [ho, hx, hy, eqGuard]
      simp [binOp, Op.equal, he2, hg, Result.andThen]
    unfold Oper.wp
    rw [hr]
    exact hK _ _ h
end Go.Proofs.Ytnblofbbbkjhpaa
namespace Go.Proofs.Ytnblofbbbkjhpaa
open Go.RowKit

theorem run_cmp_agg {P : Program} (ρ : Operand → Value) (o : Oper) (t r : TypeId) (i j : Tmp) (neg : Bool) (ho : o.op = .binOp (if neg then .neq else .eql) t (.tmp i) (.tmp j) r) (u v : Array Value) (b : Bool) (w : World) (hx : ρ (.tmp i) = .agg u) (hy : ρ (.tmp j) = .agg v) (hg : P.eqGuardType P.depth t = false) (he : (Op.equalIn 10000 t (.agg u) (.agg v)).run P w = .ok b w) :
    (execOp ρ o).run P w = .ok (.value (.bool (if neg then !b else b))) w := by
  have he2 : (Op.equalIn Op.maxDepth t (.agg u) (.agg v)).run P w = .ok b w := he
  unfold execOp
  cases neg
  · rw [if_neg (by decide)] at ho
    simp only [ho, hx, hy, eqGuard]
    simp [binOp, Op.equal, he2, hg, Result.andThen]
  · rw [if_pos rfl] at ho
    simp only [ho, hx, hy, eqGuard]
    simp [binOp, Op.equal, he2, hg, Result.andThen]
theorem wpList_neq_agg {P : Program} {w : World} {ops : Array Oper} {rest : List Oper} {o : Oper} {a : Act} {Q : Exit → Act → World → Prop} (hw : Region.wanted o (yielded ops a.tmps) = true) (t r : TypeId) (i j : Tmp) (ho : o.op = .binOp .neq t (.tmp i) (.tmp j) r) (u v : Array Value) (b : Bool)
    (hx : a.eval (.tmp i) = .agg u) (hy : a.eval (.tmp j) = .agg v) (hg : P.eqGuardType P.depth t = false) (he : (Op.equalIn 10000 t (.agg u) (.agg v)).run P w = .ok b w)
    (h : wpList P ops Q rest (a.put o.dst (.bool (!b))) w) : wpList P ops Q (o :: rest) a w :=
  wpList_step fun K hK => by
    rw [if_pos hw]
    have hr := run_cmp_agg a.eval o t r i j true ho u v b w hx hy hg he
    unfold Oper.wp
    rw [hr]
    exact hK _ _ h
theorem yields_cmp_agg {P : Program} {ops : Array Oper} {S : World → Prop} {o : Oper} {a : Act} (neg : Bool) (hw : Region.wanted o (yielded ops a.tmps) = true) (t r : TypeId) (i j : Tmp) (ho : o.op = .binOp (if neg then .neq else .eql) t (.tmp i) (.tmp j) r) (u v : Array Value) (b : Bool)
    (hx : a.eval (.tmp i) = .agg u) (hy : a.eval (.tmp j) = .agg v) (hg : P.eqGuardType P.depth t = false) (he : ∀ w, (Op.equalIn 10000 t (.agg u) (.agg v)).run P w = .ok b w) : YieldsIf P ops S o (.bool (if neg then !b else b)) a :=
  .inl ⟨hw, fun w _ => run_cmp_agg a.eval o t r i j neg ho u v b w hx hy hg (he w)⟩
end Go.Proofs.Ytnblofbbbkjhpaa
