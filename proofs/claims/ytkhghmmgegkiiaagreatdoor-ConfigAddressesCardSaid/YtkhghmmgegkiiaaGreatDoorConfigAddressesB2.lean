/-
  The contracts of the reference's sound, bit, width, Valid. How the cells of a prefix are opened. What a row's condition on package-level variables gives: the blocks of listed arrays of numbers, one deep and two deep. What the package-level variables of the library hold that the functions of layer 13 come to. The library's package-level variables that layer 13 comes to, out of a row's condition. A row that lists variables, its walk being given the world's shape too. Plain mathematics of keys in base64, with no program in sight: what a text stands for, and that text and key give each other back. The mathematics of the texts of addresses, endpoints and prefixes. No function of the program is named here. The contract of the reference's Decimal. The contracts of burrowcase.Short and of the reference's Digit. No statement is proved here.
-/
import Derived.Laws.ShiftsVarLaws
import Derived.Deep.DeepCutAuto
import Derived.RegionTactic
import Derived.BigRegion
import Derived.Laws.BitsAllLaws
import Derived.Deep.QuietTactic
import Derived.BigQuiet
import Derived.ProofKit
import Derived.LaidMore
import Derived.OpenShut
import Derived.Stop.Joined
import Derived.MakeChecks
import Derived.Lib.LaidTab
import Derived.Lib.ItoaNum
import Derived.Shelf.Vars
import Derived.Test.YtkhghmmgegkiiaaGreatDoorRows
import Derived.Handed
import Derived.LaidLaws
import Derived.Lib.Bytealg
import Derived.Laws.Concat
import Derived.Outline
import Derived.Lib.SmallJoins
import Derived.Lib.Strings
import Derived.Deep.RegionLaw
import Derived.Maps.AppendAt
import Derived.Test.YtkhghmmgegkiiaaGreatDoorConfigAddressesB1
namespace Go.Proofs.YtkhghmmgegkiiaaGreatDoor
open Go.RowKit

theorem AddrM.six_cell (a : AddrM) : a.cells[0]? = some (.bool a.six) := rfl
/-- a prefix -/
def prefC (a : AddrM) (bits : Int) : List Value := a.cells ++ [.int .i64 bits]
theorem prefC_length (a : AddrM) (h : a.ok) (bits : Int) : (prefC a bits).length = 18 := by rw [prefC, List.length_append, AddrM.cells_length h]; rfl
theorem prefC_addr (a : AddrM) (h : a.ok) (bits : Int) : ((prefC a bits).drop 0).take 17 = a.cells := by rw [prefC, List.drop_zero, ← AddrM.cells_length h, List.take_left]
theorem prefC_bits (a : AddrM) (h : a.ok) (bits : Int) : (prefC a bits)[17]? = some (.int .i64 bits) := by
  rw [prefC, List.getElem?_append_right (by rw [AddrM.cells_length h]; omega), AddrM.cells_length h]; rfl
theorem soundM_four (a : AddrM) (h : a.ok) (h6 : a.six = false) : soundM a = true ↔ ∀ j, j < 12 → a.ip.getD (4 + j) 0 = 0 := by
  have hl : a.ip.length = 16 := h
  rw [soundM, h6, Bool.false_or, List.all_eq_true]
  constructor
  · intro hx j hj
    have := hx (a.ip[4 + j]'(by omega)) (List.mem_drop_iff_getElem.2 ⟨j, by omega, rfl⟩)
    rw [List.getD_eq_getElem?_getD, List.getElem?_eq_getElem (by omega)]
    simpa using this
  · intro hx x hm
    obtain ⟨j, hj, rfl⟩ := List.mem_drop_iff_getElem.1 hm
    have := hx j (by omega)
    rw [List.getD_eq_getElem?_getD, List.getElem?_eq_getElem (by omega)] at this
    simpa using this

set_option maxRecDepth 100000 in
set_option maxHeartbeats 2000000 in
theorem refSound_any (a : AddrM) (h : a.ok) (w : World) :
    Calls Tryz.prog 38 #[.agg a.cells.toArray] w fun e w' => e = .returned (.bool (soundM a)) ∧ Below w.heap.size w w' := by
  obtain ⟨ca, hca⟩ : ∃ c, a.cells.toArray = c := ⟨_, rfl⟩
  rw [hca]
  have HM := Lib.hid (show Mem w [blkE w.heap.size 25 a.cells] (w.alloc (.cells ca 25)) from (Mem.nil w).alloc rfl 25 ca a.cells hca.symm)
  have HO := Lib.hid h
  obtain ⟨sx, hsx⟩ : ∃ q, a.six = q := ⟨_, rfl⟩
  have HS := Lib.hid hsx
  clear hca h hsx
  go_enter Tryz.func38, Tryz.ntmps38
  go_upto_region 1 with fail
  generalize w.alloc (.cells ca 25) = w1 at HM ⊢
  go_wp2_with fail
  go_loopw [8] (fun z wr => ∃ j : Nat, j ≤ 12 ∧ z = .int .i64 (j : Int) ∧ (sx = false → ∀ i, i < j → a.ip.getD (4 + i) 0 = 0) ∧ Mem w [blkE w.heap.size 25 a.cells] wr) (fun z _ => 12 - (intOf z).toNat)
  case atStart => exact ⟨0, by omega, rfl, fun _ i hi => absurd hi (by omega), HM.out⟩
  case round =>
    clear HM
    obtain ⟨j, hj, rfl, hz, hM⟩ := hrel
    have HM := Lib.hid hM
    have HZ := Lib.hid hz
    clear hM hz
    by_cases hlt : j < 12
    · have fx := ((HM.out.blk 0 rfl).cell (1 + (4 + j))).trans (AddrM.ip_cell a HO.out (4 + j) (by omega))
      rw [show 1 + (4 + j) = 5 + j by omega] at fx
      have f6 := ((HM.out.blk 0 rfl).cell 0).trans (AddrM.six_cell a)
      rw [HS.out] at f6
      obtain ⟨x, hx⟩ : ∃ x, a.ip.getD (4 + j) 0 = x := ⟨_, rfl⟩
      rw [hx] at fx
      have HX := Lib.hid hx
      clear hx
      have dl : decide ((j : Int) < 12) = true := by simp; omega
      cases sx with
      | true =>
        go_wp2
        go_roundw
        case rel => exact ⟨j + 1, by omega, by go_num, (fun h => by cases h), HM.out⟩
        case measure => simp [intOf]; omega
      | false =>
        by_cases hx0 : x = 0
        · have hne : ((x.toNat : Int) != 0) = false := by subst hx0; rfl
          have HX0 := Lib.hid hx0
          clear hx0
          go_wp2
          go_roundw
          case rel => exact ⟨j + 1, by omega, by go_num, (fun _ i hi => by
            by_cases e : i = j
            · subst e; rw [HX.out, HX0.out]
            · exact HZ.out rfl i (by omega)), HM.out⟩
          case measure => simp [intOf]; omega
        · have hne : ((x.toNat : Int) != 0) = true := by
            have : x.toNat ≠ 0 := fun e => hx0 (UInt8.toNat.inj e)
            simp; omega
          have HR := Lib.hid (show soundM a = false from by
            rw [Bool.eq_false_iff]
            intro hs
            have := (soundM_four a HO.out HS.out).1 hs j hlt
            rw [HX.out] at this
            exact hx0 this)
          clear hx0
          go_wp2
          go_ret
          exact ⟨by rw [HR.out]; rfl, HM.out.bel⟩
    · obtain rfl : j = 12 := by omega
      have HR := Lib.hid (show soundM a = true from by
        cases hq : sx with
        | true => rw [soundM, HS.out, hq]; rfl
        | false => exact (soundM_four a HO.out (by rw [HS.out, hq])).2 (HZ.out hq))
      (try rw [show ((12 : Nat) : Int) = 12 from rfl])
      go_wp2
      go_ret
      exact ⟨by rw [HR.out]; rfl, HM.out.bel⟩
set_option maxRecDepth 100000 in
set_option maxHeartbeats 2000000 in
theorem refBit_any (a : AddrM) (h : a.ok) (i : Nat) (hi : i < 128) (w : World) :
    Calls Tryz.prog 76 #[.agg a.cells.toArray, .int .i64 (i : Int)] w fun e w' => e = .returned (.int .u8 (bitM a.ip i : Int)) ∧ Below w.heap.size w w' := by
  obtain ⟨ca, hca⟩ : ∃ c, a.cells.toArray = c := ⟨_, rfl⟩
  rw [hca]
  have HM := Lib.hid (show Mem w [blkE w.heap.size 25 a.cells] (w.alloc (.cells ca 25)) from (Mem.nil w).alloc rfl 25 ca a.cells hca.symm)
  have HO := Lib.hid h
  have hb : bitM a.ip i = (a.ip.getD (i / 8) 0).toNat / 2 ^ (7 - i % 8) % 2 := rfl
  have hk8 : i / 8 < 16 := by omega
  clear hca h
  go_enter Tryz.func76, Tryz.ntmps76
  go_upto_region 1 with fail
  generalize w.alloc (.cells ca 25) = w1 at HM ⊢
  have fx := ((HM.out.blk 0 rfl).cell (1 + i / 8)).trans (AddrM.ip_cell a HO.out (i / 8) hk8)
  generalize a.ip.getD (i / 8) 0 = x at fx hb
  have hq : (i : Int) / 8 = ((i / 8 : Nat) : Int) := by omega
  have hr : (i : Int) % 8 = ((i % 8 : Nat) : Int) := by omega
  obtain ⟨k, hk⟩ : ∃ k, i / 8 = k := ⟨_, rfl⟩
  obtain ⟨m, hm⟩ : ∃ m, i % 8 = m := ⟨_, rfl⟩
  rw [hk] at fx hq hk8
  rw [hm] at hr hb
  have hm8 : m < 8 := by omega
  obtain ⟨t, ht⟩ : ∃ t, 7 - m = t := ⟨_, rfl⟩
  rw [ht] at hb
  have hw7 : IntKind.i64.wrap (7 - (m : Int)) = (t : Int) := by rw [IntWalk.i64_in _ (by omega)]; omega
  have bk : (k : Int) < 16 := by omega
  have hmin : min t 8 = t := by omega
  obtain ⟨v, hv⟩ : ∃ v, x.toNat / 2 ^ t = v := ⟨_, rfl⟩
  rw [hv] at hb
  have hvl : v < 256 := by rw [← hv]; exact Nat.lt_of_le_of_lt (Nat.div_le_self _ _) x.toNat_lt
  have he : (x.toNat : Int) / 2 ^ t = (v : Int) := by rw [← hv, Int.natCast_ediv, Int.natCast_pow]; rfl
  have hand : bits BinOp.and IntKind.u8 (v : Int) 1 = ((v % 2 : Nat) : Int) := by
    have h := u8_and_nat v 1 hvl (by omega)
    rw [show ((1 : Nat) : Int) = 1 from rfl] at h
    rw [h, Nat.and_one_is_mod]
  generalize v % 2 = r at hand hb
  have HB := Lib.hid hb
  clear hb hv ht hk hm hvl hm8
  go_wp2
  go_ret
  exact ⟨by rw [HB.out]; rfl, HM.out.bel⟩
set_option maxRecDepth 100000 in
theorem refWidth_any (a : AddrM) (w : World) :
    Calls Tryz.prog 75 #[.agg a.cells.toArray] w fun e w' => e = .returned (.int .i64 (widthM a : Int)) ∧ Below w.heap.size w w' := by
  obtain ⟨ca, hca⟩ : ∃ c, a.cells.toArray = c := ⟨_, rfl⟩
  rw [hca]
  have HM := Lib.hid (show Mem w [blkE w.heap.size 25 a.cells] (w.alloc (.cells ca 25)) from (Mem.nil w).alloc rfl 25 ca a.cells hca.symm)
  obtain ⟨sx, hsx⟩ : ∃ q, a.six = q := ⟨_, rfl⟩
  have HW := Lib.hid (show widthM a = if sx then 128 else 32 by rw [widthM, hsx])
  clear hca
  go_enter Tryz.func75, Tryz.ntmps75
  go_upto_region 1 with fail
  generalize w.alloc (.cells ca 25) = w1 at HM ⊢
  have f6 := ((HM.out.blk 0 rfl).cell 0).trans (AddrM.six_cell a)
  rw [hsx] at f6
  cases sx with
  | true =>
    go_wp2
    go_ret
    exact ⟨by rw [HW.out]; rfl, HM.out.bel⟩
  | false =>
    go_wp2
    go_ret
    exact ⟨by rw [HW.out]; rfl, HM.out.bel⟩
theorem validM_iff (a : AddrM) (bits : Int) (hs : soundM a = true) (h0 : 0 ≤ bits) (h1 : bits ≤ (widthM a : Int)) : validM a bits = true ↔ ∀ i : Nat, bits ≤ (i : Int) → i < 128 → bitM a.ip i = 0 := by
  rw [validM, hs, decide_eq_true h0, decide_eq_true h1, Bool.true_and, Bool.true_and, Bool.true_and, List.all_eq_true]
  constructor
  · intro h i hi hlt
    have := h i (List.mem_range.2 hlt)
    rw [Bool.or_eq_true, decide_eq_true_iff, beq_iff_eq] at this
    rcases this with h2 | h2
    · omega
    · exact h2
  · intro h i hi
    rw [Bool.or_eq_true, decide_eq_true_iff, beq_iff_eq]
    by_cases h2 : (i : Int) < bits
    · exact .inl h2
    · exact .inr (h i (by omega) (List.mem_range.1 hi))
theorem widthM_le (a : AddrM) : widthM a = 32 ∨ widthM a = 128 := by unfold widthM; split <;> simp
set_option maxRecDepth 100000 in
set_option maxHeartbeats 4000000 in
theorem refValid_any (a : AddrM) (h : a.ok) (bits : Int) (_hb1 : -9223372036854775808 ≤ bits) (_hb2 : bits ≤ 9223372036854775807) (w : World) :
    Calls Tryz.prog 41 #[.agg (prefC a bits).toArray] w fun e w' => e = .returned (.bool (validM a bits)) ∧ Below w.heap.size w w' := by
  obtain ⟨cp, hcp⟩ : ∃ c, (prefC a bits).toArray = c := ⟨_, rfl⟩
  rw [hcp]
  have HM := Lib.hid (show Mem w [blkE w.heap.size 29 (prefC a bits)] (w.alloc (.cells cp 29)) from (Mem.nil w).alloc rfl 29 cp (prefC a bits) hcp.symm)
  have HO := Lib.hid h
  have SN := fun W : World => refSound_any a h W
  have WD := fun W : World => refWidth_any a W
  have BT := fun (i : Nat) (hi : i < 128) (W : World) => refBit_any a h i hi W
  obtain ⟨ca, hca⟩ : ∃ c, a.cells.toArray = c := ⟨_, rfl⟩
  simp only [hca] at SN WD BT
  have HCA := Lib.hid hca
  have HBT := Lib.hid BT
  have hwl := widthM_le a
  obtain ⟨sd, hsd⟩ : ∃ q, soundM a = q := ⟨_, rfl⟩
  rw [hsd] at SN
  have HSN := Lib.hid SN
  have HWD := Lib.hid WD
  clear hcp h hca SN WD BT
  go_enter Tryz.func41, Tryz.ntmps41
  go_upto_region 1 with fail
  generalize w.alloc (.cells cp 29) = w1 at HM ⊢
  cases sd with
  | false =>
    have HR := Lib.hid (show validM a bits = false from by rw [validM, hsd]; rfl)
    refine wp_region_held_drew (S := fun W' => Mem w [blkE w.heap.size 29 (prefC a bits)] W') (by kernel_rfl) ((HM.out).drew) (fun hHeld => ?_)
    replace HM := Lib.hid HM.out.drew
    generalize w1.drew = wd1 at HM hHeld ⊢
    refine take_first (v := ?_) 0 rfl (by kernel_rfl) (by kernel_rfl) (by kernel_rfl) (fun _ _ _ h => h) (Or.inl ⟨by rfl, ?_⟩) (by assumption) ?_
    rotate_left
    · (intro w hSw; (try dsimp only at hSw); go_simp; try with_reducible rfl)
    (try simp only [Act.put, List.setIfInBounds_toArray, List.set_cons_zero, List.set_cons_succ])
    refine take_first (v := .agg ca) 1 rfl (by kernel_rfl) (by kernel_rfl) (by kernel_rfl) (fun _ _ _ h => h) (by rw [← HCA.out]; exact yields_load_obj (by rfl) 25 (.tmp 4) rfl w.heap.size 0 rfl a.cells (fun w' hb => by have h := (Mem.blk hb 0 rfl).sub 0 17; rw [prefC_addr a HO.out bits] at h; exact h) _ Tryz.underlying25 rfl (addr_cellsOf _ HO.out)) (by assumption) ?_
    (try simp only [Act.put, List.setIfInBounds_toArray, List.set_cons_zero, List.set_cons_succ])
    refine step_one 2 rfl (by kernel_rfl) (fun K hK => ?_)
    clear hHeld
    go_simp
    refine (HSN.out _).mono ?_
    rintro e wy2 ⟨rfl, hb⟩
    replace HM := Lib.hid (show Mem w [blkE w.heap.size 29 (prefC a bits)] wy2 from HM.out.below hb)
    clear hb
    go_wp2_with fail
    refine hK.out _ _ (HM.out) (fun hHeld => ?_)
    clear hK K
    (try simp only [Act.put, List.setIfInBounds_toArray, List.set_cons_zero, List.set_cons_succ])
    refine take_first (v := ?_) 3 rfl (by kernel_rfl) (by kernel_rfl) (by kernel_rfl) (fun _ _ _ h => h) (Or.inl ⟨by rfl, ?_⟩) (by assumption) ?_
    rotate_left
    · (intro w hSw; (try dsimp only at hSw); go_simp; try with_reducible rfl)
    (try simp only [Act.put, List.setIfInBounds_toArray, List.set_cons_zero, List.set_cons_succ])
    refine take_first (v := ?_) 4 rfl (by kernel_rfl) (by kernel_rfl) (by kernel_rfl) (fun _ _ _ h => h) (Or.inl ⟨by rfl, ?_⟩) (by assumption) ?_
    rotate_left
    · (intro w hSw; (try dsimp only at hSw); go_simp; try with_reducible rfl)
    (try simp only [Act.put, List.setIfInBounds_toArray, List.set_cons_zero, List.set_cons_succ])
    refine take_first (v := undef) 5 rfl (by kernel_rfl) (by kernel_rfl) (by kernel_rfl) (fun _ _ _ h => h) (Or.inr ⟨by rfl, rfl⟩) (by assumption) ?_
    (try simp only [Act.put, List.setIfInBounds_toArray, List.set_cons_zero, List.set_cons_succ])
    refine take_first (v := undef) 6 rfl (by kernel_rfl) (by kernel_rfl) (by kernel_rfl) (fun _ _ _ h => h) (Or.inr ⟨by rfl, rfl⟩) (by assumption) ?_
    (try simp only [Act.put, List.setIfInBounds_toArray, List.set_cons_zero, List.set_cons_succ])
    refine take_first (v := undef) 7 rfl (by kernel_rfl) (by kernel_rfl) (by kernel_rfl) (fun _ _ _ h => h) (Or.inr ⟨by rfl, rfl⟩) (by assumption) ?_
    (try simp only [Act.put, List.setIfInBounds_toArray, List.set_cons_zero, List.set_cons_succ])
    refine take_first (v := ?_) 8 rfl (by kernel_rfl) (by kernel_rfl) (by kernel_rfl) (fun _ _ _ h => h) (Or.inl ⟨by rfl, ?_⟩) (by assumption) ?_
    rotate_left
    · (intro w hSw; (try dsimp only at hSw); go_simp; try with_reducible rfl)
    (try simp only [Act.put, List.setIfInBounds_toArray, List.set_cons_zero, List.set_cons_succ])
    refine take_first (v := ?_) 9 rfl (by kernel_rfl) (by kernel_rfl) (by kernel_rfl) (fun _ _ _ h => h) (Or.inl ⟨by rfl, ?_⟩) (by assumption) ?_
    rotate_left
    · (intro w hSw; (try dsimp only at hSw); go_simp; try with_reducible rfl)
    (try simp only [Act.put, List.setIfInBounds_toArray, List.set_cons_zero, List.set_cons_succ])
    refine take_first (v := undef) 10 rfl (by kernel_rfl) (by kernel_rfl) (by kernel_rfl) (fun _ _ _ h => h) (Or.inr ⟨by rfl, rfl⟩) (by assumption) ?_
    (try simp only [Act.put, List.setIfInBounds_toArray, List.set_cons_zero, List.set_cons_succ])
    refine take_first (v := undef) 11 rfl (by kernel_rfl) (by kernel_rfl) (by kernel_rfl) (fun _ _ _ h => h) (Or.inr ⟨by rfl, rfl⟩) (by assumption) ?_
    (try simp only [Act.put, List.setIfInBounds_toArray, List.set_cons_zero, List.set_cons_succ])
    refine take_first (v := undef) 12 rfl (by kernel_rfl) (by kernel_rfl) (by kernel_rfl) (fun _ _ _ h => h) (Or.inr ⟨by rfl, rfl⟩) (by assumption) ?_
    (try simp only [Act.put, List.setIfInBounds_toArray, List.set_cons_zero, List.set_cons_succ])
    refine take_first (v := undef) 13 rfl (by kernel_rfl) (by kernel_rfl) (by kernel_rfl) (fun _ _ _ h => h) (Or.inr ⟨by rfl, rfl⟩) (by assumption) ?_
    (try simp only [Act.put, List.setIfInBounds_toArray, List.set_cons_zero, List.set_cons_succ])
    refine take_first (v := undef) 14 rfl (by kernel_rfl) (by kernel_rfl) (by kernel_rfl) (fun _ _ _ h => h) (Or.inr ⟨by rfl, rfl⟩) (by assumption) ?_
    (try simp only [Act.put, List.setIfInBounds_toArray, List.set_cons_zero, List.set_cons_succ])
    refine take_first (v := undef) 15 rfl (by kernel_rfl) (by kernel_rfl) (by kernel_rfl) (fun _ _ _ h => h) (Or.inr ⟨by rfl, rfl⟩) (by assumption) ?_
    (try simp only [Act.put, List.setIfInBounds_toArray, List.set_cons_zero, List.set_cons_succ])
    refine take_first (v := ?_) 16 rfl (by kernel_rfl) (by kernel_rfl) (by kernel_rfl) (fun _ _ _ h => h) (Or.inl ⟨by rfl, ?_⟩) (by assumption) ?_
    rotate_left
    · (intro w hSw; (try dsimp only at hSw); go_simp; try with_reducible rfl)
    (try simp only [Act.put, List.setIfInBounds_toArray, List.set_cons_zero, List.set_cons_succ])
    refine wpAnyH_done (by kernel_rfl) ?_ _
    clear hHeld
    go_wp2
    go_ret
    exact ⟨by rw [HR.out]; rfl, HM.out.bel⟩
  | true =>
    by_cases h0 : bits < 0
    · have HR := Lib.hid (show validM a bits = false from by rw [validM, hsd, decide_eq_false (by omega)]; rfl)
      have HD0 := Lib.hid (show decide (bits < 0) = true by simp; omega)
      refine wp_region_held_drew (S := fun W' => Mem w [blkE w.heap.size 29 (prefC a bits)] W') (by kernel_rfl) ((HM.out).drew) (fun hHeld => ?_)
      replace HM := Lib.hid HM.out.drew
      generalize w1.drew = wd1 at HM hHeld ⊢
      refine take_first (v := ?_) 0 rfl (by kernel_rfl) (by kernel_rfl) (by kernel_rfl) (fun _ _ _ h => h) (Or.inl ⟨by rfl, ?_⟩) (by assumption) ?_
      rotate_left
      · (intro w hSw; (try dsimp only at hSw); go_simp; try with_reducible rfl)
      (try simp only [Act.put, List.setIfInBounds_toArray, List.set_cons_zero, List.set_cons_succ])
      refine take_first (v := .agg ca) 1 rfl (by kernel_rfl) (by kernel_rfl) (by kernel_rfl) (fun _ _ _ h => h) (by rw [← HCA.out]; exact yields_load_obj (by rfl) 25 (.tmp 4) rfl w.heap.size 0 rfl a.cells (fun w' hb => by have h := (Mem.blk hb 0 rfl).sub 0 17; rw [prefC_addr a HO.out bits] at h; exact h) _ Tryz.underlying25 rfl (addr_cellsOf _ HO.out)) (by assumption) ?_
      (try simp only [Act.put, List.setIfInBounds_toArray, List.set_cons_zero, List.set_cons_succ])
      refine step_one 2 rfl (by kernel_rfl) (fun K hK => ?_)
      clear hHeld
      go_simp
      refine (HSN.out _).mono ?_
      rintro e wy2 ⟨rfl, hb⟩
      replace HM := Lib.hid (show Mem w [blkE w.heap.size 29 (prefC a bits)] wy2 from HM.out.below hb)
      clear hb
      go_wp2_with fail
      refine hK.out _ _ (HM.out) (fun hHeld => ?_)
      clear hK K
      (try simp only [Act.put, List.setIfInBounds_toArray, List.set_cons_zero, List.set_cons_succ])
      refine take_first (v := ?_) 3 rfl (by kernel_rfl) (by kernel_rfl) (by kernel_rfl) (fun _ _ _ h => h) (Or.inl ⟨by rfl, ?_⟩) (by assumption) ?_
      rotate_left
      · (intro w hSw; (try dsimp only at hSw); go_simp; try with_reducible rfl)
      (try simp only [Act.put, List.setIfInBounds_toArray, List.set_cons_zero, List.set_cons_succ])
      refine take_first (v := ?_) 4 rfl (by kernel_rfl) (by kernel_rfl) (by kernel_rfl) (fun _ _ _ h => h) (Or.inl ⟨by rfl, ?_⟩) (by assumption) ?_
      rotate_left
      · (intro w hSw; (try dsimp only at hSw); go_simp; try with_reducible rfl)
      (try simp only [Act.put, List.setIfInBounds_toArray, List.set_cons_zero, List.set_cons_succ])
      refine take_first (v := ?_) 5 rfl (by kernel_rfl) (by kernel_rfl) (by kernel_rfl) (fun _ _ _ h => h) (Or.inl ⟨by rfl, ?_⟩) (by assumption) ?_
      rotate_left
      · (intro w hSw; (try dsimp only at hSw); go_simp; try with_reducible rfl)
      (try simp only [Act.put, List.setIfInBounds_toArray, List.set_cons_zero, List.set_cons_succ])
      refine take_first (v := ?_) 6 rfl (by kernel_rfl) (by kernel_rfl) (by kernel_rfl) (fun _ _ _ h => h) (Or.inl ⟨by rfl, ?_⟩) (by assumption) ?_
      rotate_left
      · (intro w hSw; (try dsimp only at hSw); have fb := (Mem.blk hSw 0 rfl).cell 17; rw [prefC_bits a HO.out bits] at fb; go_simp; try with_reducible rfl)
      (try simp only [Act.put, List.setIfInBounds_toArray, List.set_cons_zero, List.set_cons_succ])
      refine take_first (v := ?_) 7 rfl (by kernel_rfl) (by kernel_rfl) (by kernel_rfl) (fun _ _ _ h => h) (Or.inl ⟨by rfl, ?_⟩) (by assumption) ?_
      rotate_left
      · (intro w hSw; (try dsimp only at hSw); have d0 := HD0.out; go_simp; try with_reducible rfl)
      (try simp only [Act.put, List.setIfInBounds_toArray, List.set_cons_zero, List.set_cons_succ])
      refine take_first (v := ?_) 8 rfl (by kernel_rfl) (by kernel_rfl) (by kernel_rfl) (fun _ _ _ h => h) (Or.inl ⟨by rfl, ?_⟩) (by assumption) ?_
      rotate_left
      · (intro w hSw; (try dsimp only at hSw); go_simp; try with_reducible rfl)
      (try simp only [Act.put, List.setIfInBounds_toArray, List.set_cons_zero, List.set_cons_succ])
      refine take_first (v := ?_) 9 rfl (by kernel_rfl) (by kernel_rfl) (by kernel_rfl) (fun _ _ _ h => h) (Or.inl ⟨by rfl, ?_⟩) (by assumption) ?_
      rotate_left
      · (intro w hSw; (try dsimp only at hSw); go_simp; try with_reducible rfl)
      (try simp only [Act.put, List.setIfInBounds_toArray, List.set_cons_zero, List.set_cons_succ])
      refine take_first (v := undef) 10 rfl (by kernel_rfl) (by kernel_rfl) (by kernel_rfl) (fun _ _ _ h => h) (Or.inr ⟨by rfl, rfl⟩) (by assumption) ?_
      (try simp only [Act.put, List.setIfInBounds_toArray, List.set_cons_zero, List.set_cons_succ])
      refine take_first (v := undef) 11 rfl (by kernel_rfl) (by kernel_rfl) (by kernel_rfl) (fun _ _ _ h => h) (Or.inr ⟨by rfl, rfl⟩) (by assumption) ?_
      (try simp only [Act.put, List.setIfInBounds_toArray, List.set_cons_zero, List.set_cons_succ])
      refine take_first (v := undef) 12 rfl (by kernel_rfl) (by kernel_rfl) (by kernel_rfl) (fun _ _ _ h => h) (Or.inr ⟨by rfl, rfl⟩) (by assumption) ?_
      (try simp only [Act.put, List.setIfInBounds_toArray, List.set_cons_zero, List.set_cons_succ])
      refine take_first (v := undef) 13 rfl (by kernel_rfl) (by kernel_rfl) (by kernel_rfl) (fun _ _ _ h => h) (Or.inr ⟨by rfl, rfl⟩) (by assumption) ?_
      (try simp only [Act.put, List.setIfInBounds_toArray, List.set_cons_zero, List.set_cons_succ])
      refine take_first (v := undef) 14 rfl (by kernel_rfl) (by kernel_rfl) (by kernel_rfl) (fun _ _ _ h => h) (Or.inr ⟨by rfl, rfl⟩) (by assumption) ?_
      (try simp only [Act.put, List.setIfInBounds_toArray, List.set_cons_zero, List.set_cons_succ])
      refine take_first (v := undef) 15 rfl (by kernel_rfl) (by kernel_rfl) (by kernel_rfl) (fun _ _ _ h => h) (Or.inr ⟨by rfl, rfl⟩) (by assumption) ?_
      (try simp only [Act.put, List.setIfInBounds_toArray, List.set_cons_zero, List.set_cons_succ])
      refine take_first (v := ?_) 16 rfl (by kernel_rfl) (by kernel_rfl) (by kernel_rfl) (fun _ _ _ h => h) (Or.inl ⟨by rfl, ?_⟩) (by assumption) ?_
      rotate_left
      · (intro w hSw; (try dsimp only at hSw); go_simp; try with_reducible rfl)
      (try simp only [Act.put, List.setIfInBounds_toArray, List.set_cons_zero, List.set_cons_succ])
      refine wpAnyH_done (by kernel_rfl) ?_ _
      clear hHeld
      go_wp2
      go_ret
      exact ⟨by rw [HR.out]; rfl, HM.out.bel⟩
    have HD0 := Lib.hid (show decide (bits < 0) = false by simp; omega)
    obtain ⟨wd, hwd⟩ : ∃ q, widthM a = q := ⟨_, rfl⟩
    have hwd2 := HWD.out
    simp only [hwd] at hwd2
    replace HWD := Lib.hid hwd2
    clear hwd2
    by_cases h1 : (wd : Int) < bits
    · have HR := Lib.hid (show validM a bits = false from by rw [validM, hsd, hwd, decide_eq_true (by omega), decide_eq_false (by omega)]; rfl)
      have HD1 := Lib.hid (show decide (bits > (wd : Int)) = true by simp; omega)
      refine wp_region_held_drew (S := fun W' => Mem w [blkE w.heap.size 29 (prefC a bits)] W') (by kernel_rfl) ((HM.out).drew) (fun hHeld => ?_)
      replace HM := Lib.hid HM.out.drew
      generalize w1.drew = wd1 at HM hHeld ⊢
      refine take_first (v := ?_) 0 rfl (by kernel_rfl) (by kernel_rfl) (by kernel_rfl) (fun _ _ _ h => h) (Or.inl ⟨by rfl, ?_⟩) (by assumption) ?_
      rotate_left
      · (intro w hSw; (try dsimp only at hSw); go_simp; try with_reducible rfl)
      (try simp only [Act.put, List.setIfInBounds_toArray, List.set_cons_zero, List.set_cons_succ])
      refine take_first (v := .agg ca) 1 rfl (by kernel_rfl) (by kernel_rfl) (by kernel_rfl) (fun _ _ _ h => h) (by rw [← HCA.out]; exact yields_load_obj (by rfl) 25 (.tmp 4) rfl w.heap.size 0 rfl a.cells (fun w' hb => by have h := (Mem.blk hb 0 rfl).sub 0 17; rw [prefC_addr a HO.out bits] at h; exact h) _ Tryz.underlying25 rfl (addr_cellsOf _ HO.out)) (by assumption) ?_
      (try simp only [Act.put, List.setIfInBounds_toArray, List.set_cons_zero, List.set_cons_succ])
      refine step_one 2 rfl (by kernel_rfl) (fun K hK => ?_)
      clear hHeld
      go_simp
      refine (HSN.out _).mono ?_
      rintro e wy2 ⟨rfl, hb⟩
      replace HM := Lib.hid (show Mem w [blkE w.heap.size 29 (prefC a bits)] wy2 from HM.out.below hb)
      clear hb
      go_wp2_with fail
      refine hK.out _ _ (HM.out) (fun hHeld => ?_)
      clear hK K
      (try simp only [Act.put, List.setIfInBounds_toArray, List.set_cons_zero, List.set_cons_succ])
      refine take_first (v := ?_) 3 rfl (by kernel_rfl) (by kernel_rfl) (by kernel_rfl) (fun _ _ _ h => h) (Or.inl ⟨by rfl, ?_⟩) (by assumption) ?_
      rotate_left
      · (intro w hSw; (try dsimp only at hSw); go_simp; try with_reducible rfl)
      (try simp only [Act.put, List.setIfInBounds_toArray, List.set_cons_zero, List.set_cons_succ])
      refine take_first (v := ?_) 4 rfl (by kernel_rfl) (by kernel_rfl) (by kernel_rfl) (fun _ _ _ h => h) (Or.inl ⟨by rfl, ?_⟩) (by assumption) ?_
      rotate_left
      · (intro w hSw; (try dsimp only at hSw); go_simp; try with_reducible rfl)
      (try simp only [Act.put, List.setIfInBounds_toArray, List.set_cons_zero, List.set_cons_succ])
      refine take_first (v := ?_) 5 rfl (by kernel_rfl) (by kernel_rfl) (by kernel_rfl) (fun _ _ _ h => h) (Or.inl ⟨by rfl, ?_⟩) (by assumption) ?_
      rotate_left
      · (intro w hSw; (try dsimp only at hSw); go_simp; try with_reducible rfl)
      (try simp only [Act.put, List.setIfInBounds_toArray, List.set_cons_zero, List.set_cons_succ])
      refine take_first (v := ?_) 6 rfl (by kernel_rfl) (by kernel_rfl) (by kernel_rfl) (fun _ _ _ h => h) (Or.inl ⟨by rfl, ?_⟩) (by assumption) ?_
      rotate_left
      · (intro w hSw; (try dsimp only at hSw); have fb := (Mem.blk hSw 0 rfl).cell 17; rw [prefC_bits a HO.out bits] at fb; go_simp; try with_reducible rfl)
      (try simp only [Act.put, List.setIfInBounds_toArray, List.set_cons_zero, List.set_cons_succ])
      refine take_first (v := ?_) 7 rfl (by kernel_rfl) (by kernel_rfl) (by kernel_rfl) (fun _ _ _ h => h) (Or.inl ⟨by rfl, ?_⟩) (by assumption) ?_
      rotate_left
      · (intro w hSw; (try dsimp only at hSw); have d0 := HD0.out; go_simp; try with_reducible rfl)
      (try simp only [Act.put, List.setIfInBounds_toArray, List.set_cons_zero, List.set_cons_succ])
      refine take_first (v := ?_) 8 rfl (by kernel_rfl) (by kernel_rfl) (by kernel_rfl) (fun _ _ _ h => h) (Or.inl ⟨by rfl, ?_⟩) (by assumption) ?_
      rotate_left
      · (intro w hSw; (try dsimp only at hSw); go_simp; try with_reducible rfl)
      (try simp only [Act.put, List.setIfInBounds_toArray, List.set_cons_zero, List.set_cons_succ])
      refine take_first (v := ?_) 9 rfl (by kernel_rfl) (by kernel_rfl) (by kernel_rfl) (fun _ _ _ h => h) (Or.inl ⟨by rfl, ?_⟩) (by assumption) ?_
      rotate_left
      · (intro w hSw; (try dsimp only at hSw); go_simp; try with_reducible rfl)
      (try simp only [Act.put, List.setIfInBounds_toArray, List.set_cons_zero, List.set_cons_succ])
      refine take_first (v := ?_) 10 rfl (by kernel_rfl) (by kernel_rfl) (by kernel_rfl) (fun _ _ _ h => h) (Or.inl ⟨by rfl, ?_⟩) (by assumption) ?_
      rotate_left
      · (intro w hSw; (try dsimp only at hSw); go_simp; try with_reducible rfl)
      (try simp only [Act.put, List.setIfInBounds_toArray, List.set_cons_zero, List.set_cons_succ])
      refine take_first (v := ?_) 11 rfl (by kernel_rfl) (by kernel_rfl) (by kernel_rfl) (fun _ _ _ h => h) (Or.inl ⟨by rfl, ?_⟩) (by assumption) ?_
      rotate_left
      · (intro w hSw; (try dsimp only at hSw); have fb := (Mem.blk hSw 0 rfl).cell 17; rw [prefC_bits a HO.out bits] at fb; go_simp; try with_reducible rfl)
      (try simp only [Act.put, List.setIfInBounds_toArray, List.set_cons_zero, List.set_cons_succ])
      refine take_first (v := ?_) 12 rfl (by kernel_rfl) (by kernel_rfl) (by kernel_rfl) (fun _ _ _ h => h) (Or.inl ⟨by rfl, ?_⟩) (by assumption) ?_
      rotate_left
      · (intro w hSw; (try dsimp only at hSw); go_simp; try with_reducible rfl)
      (try simp only [Act.put, List.setIfInBounds_toArray, List.set_cons_zero, List.set_cons_succ])
      refine take_first (v := .agg ca) 13 rfl (by kernel_rfl) (by kernel_rfl) (by kernel_rfl) (fun _ _ _ h => h) (by rw [← HCA.out]; exact yields_load_obj (by rfl) 25 (.tmp 16) rfl w.heap.size 0 rfl a.cells (fun w' hb => by have h := (Mem.blk hb 0 rfl).sub 0 17; rw [prefC_addr a HO.out bits] at h; exact h) _ Tryz.underlying25 rfl (addr_cellsOf _ HO.out)) (by assumption) ?_
      (try simp only [Act.put, List.setIfInBounds_toArray, List.set_cons_zero, List.set_cons_succ])
      refine step_one 14 rfl (by kernel_rfl) (fun K hK => ?_)
      clear hHeld
      go_simp
      refine (HWD.out _).mono ?_
      rintro e wy3 ⟨rfl, hb⟩
      replace HM := Lib.hid (show Mem w [blkE w.heap.size 29 (prefC a bits)] wy3 from HM.out.below hb)
      clear hb
      go_wp2_with fail
      refine hK.out _ _ (HM.out) (fun hHeld => ?_)
      clear hK K
      (try simp only [Act.put, List.setIfInBounds_toArray, List.set_cons_zero, List.set_cons_succ])
      refine take_first (v := ?_) 15 rfl (by kernel_rfl) (by kernel_rfl) (by kernel_rfl) (fun _ _ _ h => h) (Or.inl ⟨by rfl, ?_⟩) (by assumption) ?_
      rotate_left
      · (intro w hSw; (try dsimp only at hSw); have d1 := HD1.out; go_simp; try with_reducible rfl)
      (try simp only [Act.put, List.setIfInBounds_toArray, List.set_cons_zero, List.set_cons_succ])
      refine take_first (v := ?_) 16 rfl (by kernel_rfl) (by kernel_rfl) (by kernel_rfl) (fun _ _ _ h => h) (Or.inl ⟨by rfl, ?_⟩) (by assumption) ?_
      rotate_left
      · (intro w hSw; (try dsimp only at hSw); go_simp; try with_reducible rfl)
      (try simp only [Act.put, List.setIfInBounds_toArray, List.set_cons_zero, List.set_cons_succ])
      refine wpAnyH_done (by kernel_rfl) ?_ _
      clear hHeld
      go_wp2
      go_ret
      exact ⟨by rw [HR.out]; rfl, HM.out.bel⟩
    have HD1 := Lib.hid (show decide (bits > (wd : Int)) = false by simp; omega)
    have HV := Lib.hid (validM_iff a bits hsd (by omega) (by rw [hwd]; omega))
    have hb128 : bits ≤ 128 := by omega
    refine wp_region_held_drew (S := fun W' => Mem w [blkE w.heap.size 29 (prefC a bits)] W') (by kernel_rfl) ((HM.out).drew) (fun hHeld => ?_)
    replace HM := Lib.hid HM.out.drew
    generalize w1.drew = wd1 at HM hHeld ⊢
    refine take_first (v := ?_) 0 rfl (by kernel_rfl) (by kernel_rfl) (by kernel_rfl) (fun _ _ _ h => h) (Or.inl ⟨by rfl, ?_⟩) (by assumption) ?_
    rotate_left
    · (intro w hSw; (try dsimp only at hSw); go_simp; try with_reducible rfl)
    (try simp only [Act.put, List.setIfInBounds_toArray, List.set_cons_zero, List.set_cons_succ])
    refine take_first (v := .agg ca) 1 rfl (by kernel_rfl) (by kernel_rfl) (by kernel_rfl) (fun _ _ _ h => h) (by rw [← HCA.out]; exact yields_load_obj (by rfl) 25 (.tmp 4) rfl w.heap.size 0 rfl a.cells (fun w' hb => by have h := (Mem.blk hb 0 rfl).sub 0 17; rw [prefC_addr a HO.out bits] at h; exact h) _ Tryz.underlying25 rfl (addr_cellsOf _ HO.out)) (by assumption) ?_
    (try simp only [Act.put, List.setIfInBounds_toArray, List.set_cons_zero, List.set_cons_succ])
    refine step_one 2 rfl (by kernel_rfl) (fun K hK => ?_)
    clear hHeld
    go_simp
    refine (HSN.out _).mono ?_
    rintro e wy2 ⟨rfl, hb⟩
    replace HM := Lib.hid (show Mem w [blkE w.heap.size 29 (prefC a bits)] wy2 from HM.out.below hb)
    clear hb
    go_wp2_with fail
    refine hK.out _ _ (HM.out) (fun hHeld => ?_)
    clear hK K
    (try simp only [Act.put, List.setIfInBounds_toArray, List.set_cons_zero, List.set_cons_succ])
    refine take_first (v := ?_) 3 rfl (by kernel_rfl) (by kernel_rfl) (by kernel_rfl) (fun _ _ _ h => h) (Or.inl ⟨by rfl, ?_⟩) (by assumption) ?_
    rotate_left
    · (intro w hSw; (try dsimp only at hSw); go_simp; try with_reducible rfl)
    (try simp only [Act.put, List.setIfInBounds_toArray, List.set_cons_zero, List.set_cons_succ])
    refine take_first (v := ?_) 4 rfl (by kernel_rfl) (by kernel_rfl) (by kernel_rfl) (fun _ _ _ h => h) (Or.inl ⟨by rfl, ?_⟩) (by assumption) ?_
    rotate_left
    · (intro w hSw; (try dsimp only at hSw); go_simp; try with_reducible rfl)
    (try simp only [Act.put, List.setIfInBounds_toArray, List.set_cons_zero, List.set_cons_succ])
    refine take_first (v := ?_) 5 rfl (by kernel_rfl) (by kernel_rfl) (by kernel_rfl) (fun _ _ _ h => h) (Or.inl ⟨by rfl, ?_⟩) (by assumption) ?_
    rotate_left
    · (intro w hSw; (try dsimp only at hSw); go_simp; try with_reducible rfl)
    (try simp only [Act.put, List.setIfInBounds_toArray, List.set_cons_zero, List.set_cons_succ])
    refine take_first (v := ?_) 6 rfl (by kernel_rfl) (by kernel_rfl) (by kernel_rfl) (fun _ _ _ h => h) (Or.inl ⟨by rfl, ?_⟩) (by assumption) ?_
    rotate_left
    · (intro w hSw; (try dsimp only at hSw); have fb := (Mem.blk hSw 0 rfl).cell 17; rw [prefC_bits a HO.out bits] at fb; go_simp; try with_reducible rfl)
    (try simp only [Act.put, List.setIfInBounds_toArray, List.set_cons_zero, List.set_cons_succ])
    refine take_first (v := ?_) 7 rfl (by kernel_rfl) (by kernel_rfl) (by kernel_rfl) (fun _ _ _ h => h) (Or.inl ⟨by rfl, ?_⟩) (by assumption) ?_
    rotate_left
    · (intro w hSw; (try dsimp only at hSw); have d0 := HD0.out; go_simp; try with_reducible rfl)
    (try simp only [Act.put, List.setIfInBounds_toArray, List.set_cons_zero, List.set_cons_succ])
    refine take_first (v := ?_) 8 rfl (by kernel_rfl) (by kernel_rfl) (by kernel_rfl) (fun _ _ _ h => h) (Or.inl ⟨by rfl, ?_⟩) (by assumption) ?_
    rotate_left
    · (intro w hSw; (try dsimp only at hSw); go_simp; try with_reducible rfl)
    (try simp only [Act.put, List.setIfInBounds_toArray, List.set_cons_zero, List.set_cons_succ])
    refine take_first (v := ?_) 9 rfl (by kernel_rfl) (by kernel_rfl) (by kernel_rfl) (fun _ _ _ h => h) (Or.inl ⟨by rfl, ?_⟩) (by assumption) ?_
    rotate_left
    · (intro w hSw; (try dsimp only at hSw); go_simp; try with_reducible rfl)
    (try simp only [Act.put, List.setIfInBounds_toArray, List.set_cons_zero, List.set_cons_succ])
    refine take_first (v := ?_) 10 rfl (by kernel_rfl) (by kernel_rfl) (by kernel_rfl) (fun _ _ _ h => h) (Or.inl ⟨by rfl, ?_⟩) (by assumption) ?_
    rotate_left
    · (intro w hSw; (try dsimp only at hSw); go_simp; try with_reducible rfl)
    (try simp only [Act.put, List.setIfInBounds_toArray, List.set_cons_zero, List.set_cons_succ])
    refine take_first (v := ?_) 11 rfl (by kernel_rfl) (by kernel_rfl) (by kernel_rfl) (fun _ _ _ h => h) (Or.inl ⟨by rfl, ?_⟩) (by assumption) ?_
    rotate_left
    · (intro w hSw; (try dsimp only at hSw); have fb := (Mem.blk hSw 0 rfl).cell 17; rw [prefC_bits a HO.out bits] at fb; go_simp; try with_reducible rfl)
    (try simp only [Act.put, List.setIfInBounds_toArray, List.set_cons_zero, List.set_cons_succ])
    refine take_first (v := ?_) 12 rfl (by kernel_rfl) (by kernel_rfl) (by kernel_rfl) (fun _ _ _ h => h) (Or.inl ⟨by rfl, ?_⟩) (by assumption) ?_
    rotate_left
    · (intro w hSw; (try dsimp only at hSw); go_simp; try with_reducible rfl)
    (try simp only [Act.put, List.setIfInBounds_toArray, List.set_cons_zero, List.set_cons_succ])
    refine take_first (v := .agg ca) 13 rfl (by kernel_rfl) (by kernel_rfl) (by kernel_rfl) (fun _ _ _ h => h) (by rw [← HCA.out]; exact yields_load_obj (by rfl) 25 (.tmp 16) rfl w.heap.size 0 rfl a.cells (fun w' hb => by have h := (Mem.blk hb 0 rfl).sub 0 17; rw [prefC_addr a HO.out bits] at h; exact h) _ Tryz.underlying25 rfl (addr_cellsOf _ HO.out)) (by assumption) ?_
    (try simp only [Act.put, List.setIfInBounds_toArray, List.set_cons_zero, List.set_cons_succ])
    refine step_one 14 rfl (by kernel_rfl) (fun K hK => ?_)
    clear hHeld
    go_simp
    refine (HWD.out _).mono ?_
    rintro e wy3 ⟨rfl, hb⟩
    replace HM := Lib.hid (show Mem w [blkE w.heap.size 29 (prefC a bits)] wy3 from HM.out.below hb)
    clear hb
    go_wp2_with fail
    refine hK.out _ _ (HM.out) (fun hHeld => ?_)
    clear hK K
    (try simp only [Act.put, List.setIfInBounds_toArray, List.set_cons_zero, List.set_cons_succ])
    refine take_first (v := ?_) 15 rfl (by kernel_rfl) (by kernel_rfl) (by kernel_rfl) (fun _ _ _ h => h) (Or.inl ⟨by rfl, ?_⟩) (by assumption) ?_
    rotate_left
    · (intro w hSw; (try dsimp only at hSw); have d1 := HD1.out; go_simp; try with_reducible rfl)
    (try simp only [Act.put, List.setIfInBounds_toArray, List.set_cons_zero, List.set_cons_succ])
    refine take_first (v := ?_) 16 rfl (by kernel_rfl) (by kernel_rfl) (by kernel_rfl) (fun _ _ _ h => h) (Or.inl ⟨by rfl, ?_⟩) (by assumption) ?_
    rotate_left
    · (intro w hSw; (try dsimp only at hSw); go_simp; try with_reducible rfl)
    (try simp only [Act.put, List.setIfInBounds_toArray, List.set_cons_zero, List.set_cons_succ])
    refine wpAnyH_done (by kernel_rfl) ?_ _
    clear hHeld
    revert wy3
    intro w2 HM
    obtain ⟨b, rfl⟩ : ∃ b : Nat, bits = (b : Int) := ⟨bits.toNat, by omega⟩
    have fb := (HM.out.blk 0 rfl).cell 17
    rw [prefC_bits a HO.out (b : Int)] at fb
    go_upto_region 4 with fail
    clear fb
    go_loopw [3] (fun z wr => ∃ k : Nat, b ≤ k ∧ k ≤ 128 ∧ z = .int .i64 (k : Int) ∧ (∀ i, b ≤ i → i < k → bitM a.ip i = 0) ∧ Mem w [blkE w.heap.size 29 (prefC a (b : Int))] wr) (fun z _ => 128 - (intOf z).toNat)
    case atStart => exact ⟨b, by omega, by omega, rfl, fun i h1 h2 => absurd h1 (by omega), HM.out⟩
    case round =>
      clear HM
      obtain ⟨k, hbk, hk, rfl, hz, hM⟩ := hrel
      have HM := Lib.hid hM
      have HZ := Lib.hid hz
      clear hM hz
      by_cases hlt : k < 128
      · have dl : decide ((k : Int) < 128) = true := by simp; omega
        have HK := Lib.hid (HBT.out k hlt)
        obtain ⟨q, hq⟩ : ∃ q, bitM a.ip k = q := ⟨_, rfl⟩
        have hk2 := HK.out
        simp only [hq] at hk2
        replace HK := Lib.hid hk2
        clear hk2
        go_wp2_with (refine wpList_load_obj rfl 25 (.tmp 27) rfl w.heap.size 0 rfl a.cells (by have h := (Mem.blk HM.out 0 rfl).sub 0 17; rw [prefC_addr a HO.out (b : Int)] at h; exact h) _ Tryz.underlying25 rfl (addr_cellsOf _ HO.out) ?_; rw [HCA.out])
        refine (HK.out _).mono ?_
        rintro e w3 ⟨rfl, hb⟩
        replace HM := Lib.hid (HM.out.below hb)
        clear hb
        by_cases hq0 : q = 0
        · have hne : ((q : Int) != 0) = false := by subst hq0; rfl
          have HQ := Lib.hid (show bitM a.ip k = 0 by rw [hq, hq0])
          clear hq hq0
          go_wp2
          go_roundw
          case rel => exact ⟨k + 1, by omega, by omega, by go_num, (fun i h1 h2 => by
            by_cases e : i = k
            · subst e; exact HQ.out
            · exact HZ.out i h1 (by omega)), HM.out⟩
          case measure => simp [intOf]; omega
        · have hne : ((q : Int) != 0) = true := by simp; omega
          have HR := Lib.hid (show validM a (b : Int) = false from by
            rw [Bool.eq_false_iff]
            intro hv
            have := HV.out.1 hv k (by omega) hlt
            omega)
          clear hq hq0
          go_wp2
          go_ret
          exact ⟨by rw [HR.out]; rfl, HM.out.bel⟩
      · obtain rfl : k = 128 := by omega
        have HR := Lib.hid (show validM a (b : Int) = true from HV.out.2 (fun (i : Nat) h1 h2 => HZ.out i (by omega) h2))
        (try rw [show ((128 : Nat) : Int) = 128 from rfl])
        go_wp2
        go_ret
        exact ⟨by rw [HR.out]; rfl, HM.out.bel⟩
theorem validM_bits (a : AddrM) (bits : Int) (h : validM a bits = true) : 0 ≤ bits ∧ bits ≤ 128 := by
  rw [validM, Bool.and_eq_true, Bool.and_eq_true, Bool.and_eq_true, decide_eq_true_iff, decide_eq_true_iff] at h
  have := widthM_le a
  omega
theorem pref_cellsOf (a : AddrM) (h : a.ok) (bits : Int) : (Tryz.prog.info? 29).map (·.size) = some (prefC a bits).length := by
  rw [prefC_length a h]; kernel_rfl
end Go.Proofs.YtkhghmmgegkiiaaGreatDoor
namespace Go.Proofs.YtkhghmmgegkiiaaGreatDoor
open Go.RowKit Go.ChangeShapes Go.WideShapes Go.ChangeAt

set_option maxRecDepth 100000 in
theorem open_prefix {H : Type} {enc : TypeId × Value → H} {W : World} {r : Reach} {b0 : Nat} {v : Value} {d : DataW H} {p : List MemPlace} (hv : Value.okWide Tryz.prog W r b0 29 v) (h : DataW.Trod enc Tryz.prog W 0 (fun _ => true) true 29 v d p) : ∃ (a : AddrM) (bits : Int), v = .agg (prefC a bits).toArray ∧ a.ok ∧ -9223372036854775808 ≤ bits ∧ bits ≤ 9223372036854775807 := by
  simp only [Value.okWide, Tryz.underlying29] at hv
  obtain ⟨cs, rfl, hsz, _⟩ := hv
  obtain ⟨fuel, hf⟩ := h
  have hcl : (Value.cells (.agg cs)).toList = cs.toList := rfl
  rw [hcl] at hf
  obtain ⟨hl, hfl⟩ := field_cells Tryz.underlying29 hf
  obtain ⟨n0, y0, h0⟩ := hfl 0 25 0 17 rfl (by kernel_rfl)
  obtain ⟨n1, y1, h1⟩ := hfl 1 3 17 1 rfl (by kernel_rfl)
  obtain ⟨a, ha, hok⟩ := addr_cells_of h0
  obtain ⟨bits, hb, hb1, hb2⟩ := i64_cells Tryz.underlying3 h1
  have e2 : Tryz.prog.cellsOf 29 = 18 := by kernel_rfl
  rw [e2] at hl
  refine ⟨a, bits, ?_, hok, hb1, hb2⟩
  have e3 : cs.toList = prefC a bits := by
    rw [seg_two cs.toList 17 1 hl, ha, hb]
    rfl
  rw [← e3]
end Go.Proofs.YtkhghmmgegkiiaaGreatDoor
namespace Go.Proofs.YtkhghmmgegkiiaaGreatDoor
open Go.RowKit Go.ChangeShapes Go.WideShapes Go.ChangeAt

theorem laid_data {P : Program} {l : List (String × DataW Unit)} {W : World} (h : laidMetH P l W) : laidMet P (l.filter fun x => x.2.handleName?.isNone) W := by
  unfold laidMetH at h
  generalize hfl : (l.filter fun x => x.2.handleName?.isSome) = fl at h
  cases fl with
  | nil =>
    have e : (l.filter fun x => x.2.handleName?.isNone) = l := by
      rw [List.filter_eq_self]
      intro x hx
      have := (List.filter_eq_nil_iff.1 hfl) x hx
      cases hn : x.2.handleName? with
      | none => rfl
      | some s => rw [hn] at this; exact absurd rfl this
    rw [e]
    exact h
  | cons y ys => exact h.1
theorem laid_in {P : Program} {W : World} : ∀ {l : List (String × DataW Unit)} {ps : List MemPlace}, DataW.LaidVars P W l ps → ∀ {n : String} {d : DataW Unit}, (n, d) ∈ l →
    ∃ g t cs fuel p, P.globalNamed n = some g ∧ (P.globals[g]?).map (·.type) = some t ∧ W.var? P n = some cs ∧ DataW.trod (fun _ => ()) P W 0 (fun _ => true) false fuel t cs.toList = some (d, p) ∧ (0 < cs.size → MemPlace.cell g 0 ∈ ps)
  | [], _, _, _, _, hx => by cases hx
  | (n0, d0) :: r, ps, h, n, d, hx => by
    obtain ⟨g, t, cs, fuel, p, q, hg, ht, hv, hd, hr, hps⟩ := h
    rcases List.mem_cons.1 hx with e | hx'
    · obtain ⟨rfl, rfl⟩ := Prod.mk.injEq .. ▸ e
      refine ⟨g, t, cs, fuel, p, hg, ht, hv, hd, fun h0 => ?_⟩
      rw [hps]
      refine List.mem_append_left _ (List.mem_append_left _ ?_)
      unfold MemPlace.row
      exact List.mem_map.2 ⟨0, List.mem_range.2 h0, rfl⟩
    · obtain ⟨g', t', cs', fuel', p', h1, h2, h3, h4, h5⟩ := laid_in hr hx'
      refine ⟨g', t', cs', fuel', p', h1, h2, h3, h4, fun h0 => ?_⟩
      rw [hps]
      exact List.mem_append_right _ (h5 h0)
/-- a listed variable's block -/
theorem laid_blk {P : Program} {W : World} {l : List (String × DataW Unit)} (h : laidMetH P l W) {n : String} {d : DataW Unit} (hx : (n, d) ∈ l) (hn : d.handleName?.isNone = true) {g0 : Nat} {t0 : TypeId} (hg0 : P.globalNamed n = some g0) (ht0 : (P.globals[g0]?).map (·.type) = some t0) :
    ∃ (cs : List Value) (fuel : Nat) (p : List MemPlace), DataW.trod (fun _ => ()) P W 0 (fun _ => true) false fuel t0 cs = some (d, p) ∧ (0 < cs.length → ∃ t, Blk W g0 t cs) := by
  obtain ⟨ps, hl, _, hcell⟩ := laid_data h
  obtain ⟨g, t, cs, fuel, p, hg, ht, hv, hd, hp⟩ := laid_in hl (List.mem_filter.2 ⟨hx, hn⟩)
  obtain rfl := Option.some.inj (hg0.symm.trans hg)
  obtain rfl := Option.some.inj (ht0.symm.trans ht)
  refine ⟨cs.toList, fuel, p, hd, fun h0 => ?_⟩
  obtain ⟨⟨c, t, hc⟩, _⟩ := hcell g0 0 (hp (by simpa using h0))
  refine ⟨t, ?_⟩
  simp only [World.var?, hg, Option.bind_some, hc, Option.some.injEq] at hv
  subst hv
  exact hc
section
variable {H : Type} {enc : TypeId × Value → H} {P : Program} {w : World} {base : Nat} {sp : Nat → Bool} {held : Bool}
theorem laid_ints {fuel : Nat} {t e : TypeId} {n : Nat} {k : IntKind} {cs : List Value} {zs : List Int} {p : List MemPlace} (ht : P.underlying t = some (.array n e)) (he : P.underlying e = some (.int k)) (hc : P.cellsOf e = 1) (hct : P.cellsOf t = n)
    (h : DataW.trod enc P w base sp held fuel t cs = some (.agg (zs.map fun z => .lit (.int k z)), p)) : cs = zs.map fun z => .int k z := by
  obtain ⟨xs, m, _, hx, hl, hn, hat⟩ := DataW.trod_array ht h
  simp only [Prod.mk.injEq, DataW.agg.injEq] at hx
  have hzl : zs.length = n := by
    have := congrArg List.length hx.1
    simp only [List.length_map] at this
    omega
  apply List.ext_getElem?
  intro i
  by_cases hi : i < n
  · have h1 := hat i hi
    rw [hc, Nat.mul_one] at h1
    have hxi : xs[i]? = some (xs[i]'(by omega)) := List.getElem?_eq_getElem (by omega)
    rw [hxi] at h1
    obtain ⟨z, hz, hy, _⟩ := DataW.trod_int he h1
    have h2 : (zs.map fun z => (DataW.lit (.int k z) : DataW H))[i]? = (xs.map (·.1))[i]? := by rw [hx.1]
    rw [List.getElem?_map, List.getElem?_map, hxi, hy, List.getElem?_eq_getElem (show i < zs.length by omega)] at h2
    simp only [Option.map_some, Option.some.injEq, DataW.lit.injEq, Lit.int.injEq, true_and] at h2
    have h3 : cs[i]? = some (.int k z) := by
      have h4 := congrArg (fun l : List Value => l[0]?) hz
      simpa [List.getElem?_take, List.getElem?_drop] using h4
    rw [h3, List.getElem?_map, List.getElem?_eq_getElem (show i < zs.length by omega), ← h2]
    rfl
  · rw [List.getElem?_eq_none (by omega), List.getElem?_eq_none (by simp; omega)]
end
end Go.Proofs.YtkhghmmgegkiiaaGreatDoor
namespace Go.Proofs.YtkhghmmgegkiiaaGreatDoor
open Go.RowKit

/-- the powers of ten, the table of trailing zeros at 16, the error of a number's form, the greatest length of bytealg -/
def LvCf (w : World) : Prop :=
  Lib.TabIs Tryz.prog w "internal/strconv.uint64pow10" .u64 Lib.pow10Tab ∧
  w.cell? ⟨7, 15, none⟩ = some (.int .u8 4) ∧
  (∃ tp p, w.var? Tryz.prog "strconv.ErrSyntax" = some #[.iface tp p]) ∧
  ∃ m, w.cell? ⟨0, 0, none⟩ = some (.int .i64 m)
theorem var_below {P : Program} {w w' : World} {n : String} {cs : Array Value} (h : w.var? P n = some cs) (hb : Below w.heap.size w w') : w'.var? P n = some cs := by
  unfold World.var? at h ⊢
  cases hg : P.globalNamed n with
  | none => rw [hg] at h; cases h
  | some g =>
    rw [hg] at h
    simp only [Option.bind_some] at h ⊢
    cases hx : w.heap[g]? with
    | none => rw [hx] at h; cases h
    | some o =>
      rw [hb.block g (Array.getElem?_eq_some_iff.1 hx).1, hx]
      rw [hx] at h
      exact h
theorem cell_below {w w' : World} {a : Addr} {v : Value} (h : w.cell? a = some v) (hb : Below w.heap.size w w') : w'.cell? a = some v := by
  refine (hb.cell ?_).trans h
  unfold World.cell? at h
  cases hx : w.heap[a.block]? with
  | none => simp [hx] at h
  | some o => exact (Array.getElem?_eq_some_iff.1 hx).1
theorem LvCf.below {w w' : World} (h : LvCf w) (hb : Below w.heap.size w w') : LvCf w' := by
  obtain ⟨h1, h2, ⟨tp, p, h3⟩, m, h4⟩ := h
  exact ⟨var_below h1 hb, cell_below h2 hb, ⟨tp, p, var_below h3 hb⟩, m, cell_below h4 hb⟩
end Go.Proofs.YtkhghmmgegkiiaaGreatDoor
namespace Go.Proofs.YtkhghmmgegkiiaaGreatDoor
open Go.RowKit

def laidL : List (String × DataW Unit) := [("math/bits.deBruijn32tab", Rows.laid_math_bits_deBruijn32tab), ("math/bits.deBruijn64tab", Rows.laid_math_bits_deBruijn64tab), ("internal/strconv.uint64pow10", Rows.laid_internal_strconv_uint64pow10), ("unicode/utf8.acceptRanges", Rows.laid_unicode_utf8_acceptRanges), ("strconv.ErrRange", Rows.laid_strconv_ErrRange), ("strconv.ErrSyntax", Rows.laid_strconv_ErrSyntax), ("unicode/utf8.first", Rows.laid_unicode_utf8_first)]
def db64 : List Int := [0, 1, 56, 2, 57, 49, 28, 3, 61, 58, 42, 50, 38, 29, 17, 4, 62, 47, 59, 36, 45, 43, 51, 22, 53, 39, 33, 30, 24, 18, 12, 5, 63, 55, 48, 27, 60, 41, 37, 16, 46, 35, 44, 21, 52, 32, 23, 11, 54, 26, 40, 15, 34, 20, 31, 10, 25, 14, 19, 9, 13, 8, 7, 6]
set_option maxRecDepth 100000 in
theorem laid_db_is : (Rows.laid_math_bits_deBruijn64tab : DataW Unit) = .agg (db64.map fun z => .lit (.int .u8 z)) := by kernel_rfl
set_option maxRecDepth 100000 in
theorem laid_pow_is : (Rows.laid_internal_strconv_uint64pow10 : DataW Unit) = .agg (Lib.pow10Tab.map fun z => .lit (.int .u64 z)) := by kernel_rfl
/-- a listed variable, as it is looked up by its name -/
theorem laid_var {P : Program} {W : World} {l : List (String × DataW Unit)} (h : laidMetH P l W) {n : String} {d : DataW Unit} (hx : (n, d) ∈ l) (hn : d.handleName?.isNone = true) {g0 : Nat} {t0 : TypeId} (hg0 : P.globalNamed n = some g0) (ht0 : (P.globals[g0]?).map (·.type) = some t0) :
    ∃ (cs : Array Value) (fuel : Nat) (p : List MemPlace), W.var? P n = some cs ∧ DataW.trod (fun _ => ()) P W 0 (fun _ => true) false fuel t0 cs.toList = some (d, p) := by
  obtain ⟨ps, hl, _, _⟩ := laid_data h
  obtain ⟨g, t, cs, fuel, p, hg, ht, hv, hd, _⟩ := laid_in hl (List.mem_filter.2 ⟨hx, hn⟩)
  obtain rfl := Option.some.inj (hg0.symm.trans hg)
  obtain rfl := Option.some.inj (ht0.symm.trans ht)
  exact ⟨cs, fuel, p, hv, hd⟩
theorem lvCf_of {W : World} (h : laidMetH Tryz.prog laidL W) (hs : W.ShapedOpen Tryz.prog) : LvCf W := by
  refine ⟨?_, ?_, ?_, cell_of_shapedOpen_int (t := 3) (zero := #[.int .i64 0]) hs (of_decide_eq_true (by kernel_rfl)) (by kernel_rfl) rfl (by kernel_rfl) (by kernel_rfl) Tryz.underlying3⟩
  · obtain ⟨cs, fuel, p, hv, hd⟩ := laid_var h (.tail _ (.tail _ (.head _))) (by kernel_rfl) (show Tryz.prog.globalNamed "internal/strconv.uint64pow10" = some 1 by kernel_rfl) (show (Tryz.prog.globals[1]?).map (·.type) = some 192 by kernel_rfl)
    rw [laid_pow_is] at hd
    have e := laid_ints Tryz.underlying192 Tryz.underlying119 (by kernel_rfl) (by kernel_rfl) hd
    rw [Lib.TabIs, hv, ← e]
  · obtain ⟨cs, fuel, p, hd, hb⟩ := laid_blk h (.tail _ (.head _)) (by kernel_rfl) (show Tryz.prog.globalNamed "math/bits.deBruijn64tab" = some 7 by kernel_rfl) (show (Tryz.prog.globals[7]?).map (·.type) = some 222 by kernel_rfl)
    rw [laid_db_is] at hd
    have e := laid_ints Tryz.underlying222 Tryz.underlying5 (by kernel_rfl) (by kernel_rfl) hd
    subst e
    obtain ⟨t, hb⟩ := hb (by decide)
    exact hb.cell 15
  · obtain ⟨cs, fuel, p, hv, hd⟩ := laid_var h (.tail _ (.tail _ (.tail _ (.tail _ (.tail _ (.head _)))))) (by kernel_rfl) (show Tryz.prog.globalNamed "strconv.ErrSyntax" = some 2 by kernel_rfl) (show (Tryz.prog.globals[2]?).map (·.type) = some 128 by kernel_rfl)
    obtain ⟨f1, u, v, e, _, _⟩ := iface_of_trod Tryz.underlying128 hd
    refine ⟨u, v, ?_⟩
    rw [hv]
    exact congrArg some (Array.toList_inj.1 e)
end Go.Proofs.YtkhghmmgegkiiaaGreatDoor
namespace Go.Proofs.YtkhghmmgegkiiaaGreatDoor
open Go.RowKit

theorem returns_shaped {H : Type} {enc : TypeId × Value → H} {a : Assume} {C : Checked} {os : Os} {f : FuncId} {fn : Func} {s : ChangeSpec} {conds : List PathCond} {apart fresh handsOn again : Bool} {X : World → Array Value → Prop}
    (hX : ∀ (w w' : World) (args : Array Value), w.heap = w'.heap → X w args → X w' args)
    (own : ownKnob C.prog.godebug = none) (started : os.Started) (noInit : C.prog.inits.idxOf? f = none) (hfn : C.prog.funcs[f]? = some fn)
    (witness : ∃ (w : World) (tape : Tape) (i : Input), w.os = os ∧ (w.forCall tape i).Shaped C.prog ∧ i.vars = [] ∧ Input.okWide C.prog (w.forCall tape i) .any w.heap.size f i ∧
      ((s.pre enc C.prog fn conds apart (w.forCall tape i).memory i.args ∧ X (w.forCall tape i).memory i.args) ∧ sizedMet enc C.prog fn (OpenSpec.ofChange s) apart (w.forCall tape i).memory i.args) ∧ a.holds C.prog (lone (Frame.enter C.prog f i.args .normal) [] (w.forCall tape i)))
    (walk : ∀ (W : World) (base : Nat) (args : Array Value) (ds gs : List (DataW H)) (before : List MemPlace), W.ShapedOpen C.prog →
      (∀ (j : Nat) t v, fn.params[j]? = some t → args[j]? = some v → Value.okWide C.prog W .any base t v) →
      DataW.Whole enc C.prog fn.params.toList s.vars apart W args.toList ds gs before → X W args →
      Calls C.prog f args W fun e W' => ∃ v, e = .returned v ∧ s.post enc C.prog fn apart fresh handsOn again W args v W') :
    ReturnsInHanded a C os f .any (fun w args => (s.pre enc C.prog fn conds apart w args ∧ X w args) ∧ sizedMet enc C.prog fn (OpenSpec.ofChange s) apart w args) (s.post enc C.prog fn apart fresh handsOn again) := by
  refine returnsInHanded_of_calls own started noInit witness ?_
  intro w tape i _ hsh _ hok hpre _
  obtain ⟨_, _, _, fn2, hfn2, _, _, _, _, hval⟩ := hok
  obtain rfl : fn2 = fn := Option.some.inj (hfn2.symm.trans hfn)
  obtain ⟨⟨⟨ds, gs, before, hw, _⟩, hx⟩, _⟩ := hpre
  refine (walk (w.forCall tape i) w.heap.size i.args ds gs before hsh hval (DataW.Whole.of_heap (w' := w.forCall tape i) (by rfl) hw) (hX _ _ _ (by rfl) hx)).mono ?_
  rintro e W' ⟨v, rfl, hp⟩
  exact ChangeSpec.post_blind hp
end Go.Proofs.YtkhghmmgegkiiaaGreatDoor
namespace Go.Proofs.YtkhghmmgegkiiaaGreatDoor

/-- the value of a hexadecimal digit; 16 if it is none -/
def hexVal (c : UInt8) : Nat := if 48 ≤ c.toNat ∧ c.toNat ≤ 57 then c.toNat - 48 else if 97 ≤ c.toNat ∧ c.toNat ≤ 102 then c.toNat - 87 else if 65 ≤ c.toNat ∧ c.toNat ≤ 70 then c.toNat - 55 else 16
def hexOk (c : UInt8) : Bool := decide (hexVal c < 16)
def hexV (c : UInt8) : Nat := if hexVal c < 16 then hexVal c else 0
theorem hexV_lt (c : UInt8) : hexV c < 16 := by unfold hexV; split <;> omega
def pairB (s : List UInt8) (i : Nat) : UInt8 := UInt8.ofNat (hexV (s.getD (2 * i) 0) * 16 + hexV (s.getD (2 * i + 1) 0))
def pairs (s : List UInt8) (n : Nat) : List UInt8 := (List.range n).map (pairB s)
theorem pairs_length (s : List UInt8) (n : Nat) : (pairs s n).length = n := by simp [pairs]
theorem pairs_succ (s : List UInt8) (n : Nat) : pairs s (n + 1) = pairs s n ++ [pairB s n] := by simp [pairs, List.range_succ]
def parseH (s : List UInt8) : Option (List UInt8) := if s.length % 2 = 0 ∧ s.all hexOk = true then some (pairs s (s.length / 2)) else none
/-- a row of n bytes whose first j are read, the others 0 -/
def pairRow (s : List UInt8) (n j : Nat) : List UInt8 := pairs s j ++ List.replicate (n - j) 0
theorem pairRow_zero (s : List UInt8) (n : Nat) : pairRow s n 0 = List.replicate n 0 := by simp [pairRow, pairs]
theorem pairRow_end (s : List UInt8) (n : Nat) : pairRow s n n = pairs s n := by simp [pairRow]
theorem pairRow_set (s : List UInt8) (n j : Nat) (h : j < n) : (pairRow s n j).set j (pairB s j) = pairRow s n (j + 1) := by
  unfold pairRow
  rw [List.set_append_right _ _ (by rw [pairs_length]; exact Nat.le_refl _), pairs_length, Nat.sub_self, pairs_succ, show n - j = (n - (j + 1)) + 1 from by omega, List.replicate_succ, List.set_cons_zero, List.append_assoc]
  rfl
/-- the value of a character; -1 if it is none of base64 -/
def b64V (c : UInt8) : Int := Lib.indexByte b64T c
def grpN (l : List UInt8) : Nat := l.foldl (fun n c => n * 64 + (b64V c).toNat) 0
def bytes3 (n : Nat) : List UInt8 := (littleL n 3).reverse
/-- lists of three, one behind the other -/
def flat3 (f : Nat → List UInt8) (m : Nat) : List UInt8 := ((List.range m).map f).flatten
def grp (D : List UInt8) (g : Nat) : List UInt8 := (D.drop (g * 4)).take 4
def fill (D : List UInt8) (m : Nat) : List UInt8 := flat3 (fun i => bytes3 (grpN (grp D i))) m
theorem six (a b c d : Nat) (hb : b < 64) (hc : c < 64) (hd : d < 64) (ha : a < 64) :
    (((a * 64 + b) * 64 + c) * 64 + d) / 2 ^ (6 * (3 - 0)) % 64 = a ∧ (((a * 64 + b) * 64 + c) * 64 + d) / 2 ^ (6 * (3 - 1)) % 64 = b ∧ (((a * 64 + b) * 64 + c) * 64 + d) / 2 ^ (6 * (3 - 2)) % 64 = c ∧ (((a * 64 + b) * 64 + c) * 64 + d) / 2 ^ (6 * (3 - 3)) % 64 = d := by
  simp only [show 6 * (3 - 0) = 18 from rfl, show 6 * (3 - 1) = 12 from rfl, show 6 * (3 - 2) = 6 from rfl, show 6 * (3 - 3) = 0 from rfl]
  omega

end Go.Proofs.YtkhghmmgegkiiaaGreatDoor
namespace Go.Proofs.YtkhghmmgegkiiaaGreatDoor
open Go.RowKit

/-- a number in decimal -/
def decT (n : Nat) : List UInt8 := if n < 10 then [UInt8.ofNat (48 + n)] else decT (n / 10) ++ [UInt8.ofNat (48 + n % 10)]
termination_by n
decreasing_by omega
/-- a number in hexadecimal -/
def hexT (n : Nat) : List UInt8 := if n < 16 then [hexD n] else hexT (n / 16) ++ [hexD (n % 16)]
termination_by n
decreasing_by omega
def isDig (c : UInt8) : Bool := decide (48 ≤ c.toNat ∧ c.toNat ≤ 57)
def numV (l : List UInt8) : Nat := l.foldl (fun n c => 10 * n + (c.toNat - 48)) 0
/-- the number of a decimal text -/
def numP (l : List UInt8) (most : Nat) : Nat × Bool := if (l.length ≠ 0 ∧ l.length ≤ most ∧ ¬(1 < l.length ∧ l.getD 0 0 = 48)) ∧ l.all isDig = true then (numV l, true) else (0, false)
def hexN (l : List UInt8) : Nat := l.foldl (fun n c => 16 * n + hexVal c) 0
def hxsOk (l : List UInt8) : Bool := decide (1 ≤ l.length ∧ l.length ≤ 4) && l.all fun c => decide (hexVal c ≤ 15)
/-- a text divided at a byte -/
def splitB (c : UInt8) : List UInt8 → List (List UInt8)
  | [] => [[]]
  | x :: r => if x = c then [] :: splitB c r else match splitB c r with
    | h :: t => (x :: h) :: t
    | [] => [[x]]
def joinT (c : UInt8) : List (List UInt8) → List UInt8
  | [] => []
  | [a] => a
  | a :: b :: r => a ++ c :: joinT c (b :: r)
def fourOk (s : List UInt8) : Bool := (numP s 3).2 && decide ((numP s 3).1 ≤ 255)
/-- the address of the parts of a text -/
def fourP (ls : List (List UInt8)) : AddrM × Nat := if ls.all fourOk = true then (⟨false, (ls.map fun s => UInt8.ofNat (numP s 3).1) ++ List.replicate 12 0⟩, 0) else (addr0, 5)
def sixP (ls : List (List UInt8)) : AddrM × Nat := if ls.all hxsOk = true then (⟨true, ls.flatMap fun s => [UInt8.ofNat (hexN s / 256), UInt8.ofNat (hexN s % 256)]⟩, 0) else (addr0, 5)
/-- the address of a text, or the error -/
def addrP (l : List UInt8) : AddrM × Nat :=
  if (splitB 46 l).length = 4 then fourP (splitB 46 l) else if (splitB 58 l).length = 8 then sixP (splitB 58 l) else (addr0, 5)
def groupV (a : AddrM) (i : Nat) : Nat := 256 * (a.ip.getD (2 * i) 0).toNat + (a.ip.getD (2 * i + 1) 0).toNat
/-- the text of an address -/
def addrT (a : AddrM) : List UInt8 :=
  if soundM a = false then [] else if a.six then joinT 58 ((List.range 8).map fun i => hexT (groupV a i)) else joinT 46 ((List.range 4).map fun i => decT (a.ip.getD i 0).toNat)
/-- the text of an endpoint, of a prefix -/
def endT (a : AddrM) (port : Int) : List UInt8 :=
  if addrT a = [] ∨ port < 1 ∨ 65535 < port then [] else (if a.six then 91 :: (addrT a ++ [93]) else addrT a) ++ 58 :: decT port.toNat
def prefT (a : AddrM) (bits : Int) : List UInt8 := if validM a bits = false then [] else addrT a ++ 47 :: decT bits.toNat
/-- the place behind the last colon, 0 if there is none -/
def lastC (l : List UInt8) : Nat := (l.foldl (fun (p : Nat × Nat) c => (p.1 + 1, if c = 58 then p.1 + 1 else p.2)) (0, 0)).2
def brack (h : List UInt8) : Bool := decide (2 ≤ h.length ∧ h.getD 0 0 = 91 ∧ h.getD (h.length - 1) 0 = 93)
/-- the endpoint of a text, or the error -/
def endP (l : List UInt8) : (AddrM × Nat) × Nat :=
  let q := lastC l
  if q < 2 then ((addr0, 0), 5) else
  let host := l.take (q - 1)
  let inner := if brack host then (host.drop 1).take (host.length - 2) else host
  let n := numP (l.drop q) 5
  if (addrP inner).2 ≠ 0 ∨ (addrP inner).1.six ≠ brack host ∨ n.2 = false ∨ n.1 < 1 ∨ 65535 < n.1 then ((addr0, 0), 5) else (((addrP inner).1, n.1), 0)
/-- the prefix of a text, or the error -/
def prefP (l : List UInt8) : (AddrM × Nat) × Nat :=
  let s := splitB 47 l
  if s.length ≠ 2 then ((addr0, 0), 5) else
  let r := addrP (s.getD 0 [])
  let n := numP (s.getD 1 []) 3
  if r.2 ≠ 0 ∨ n.2 = false ∨ validM r.1 (n.1 : Int) = false then ((addr0, 0), 5) else ((r.1, n.1), 0)

/-! numbers -/
theorem ofNat_dig (d : Nat) (h : d < 10) : (UInt8.ofNat (48 + d)).toNat = 48 + d := by rw [UInt8.toNat_ofNat']; omega
theorem decT_small {n : Nat} (h : n < 10) : decT n = [UInt8.ofNat (48 + n)] := by rw [decT, if_pos h]
theorem decT_big {n : Nat} (h : ¬ n < 10) : decT n = decT (n / 10) ++ [UInt8.ofNat (48 + n % 10)] := by rw [decT, if_neg h]
theorem numV_snoc (l : List UInt8) (c : UInt8) : numV (l ++ [c]) = 10 * numV l + (c.toNat - 48) := by simp [numV, List.foldl_append]
theorem decT_len (n k : Nat) (h1 : 1 ≤ k) (h : n < 10 ^ k) : (decT n).length ≤ k := by
  induction k generalizing n with
  | zero => omega
  | succ k ih =>
    by_cases hs : n < 10
    · rw [decT_small hs]; simp
    · rw [decT_big hs, List.length_append]
      have hk : 1 ≤ k := by
        rcases Nat.eq_zero_or_pos k with rfl | hp
        · simp at h; omega
        · exact hp
      have := ih (n / 10) hk (by rw [Nat.pow_succ] at h; omega)
      simp only [List.length_cons, List.length_nil]
      omega
theorem hexT_small {n : Nat} (h : n < 16) : hexT n = [hexD n] := by rw [hexT, if_pos h]
theorem hexT_big {n : Nat} (h : ¬ n < 16) : hexT n = hexT (n / 16) ++ [hexD (n % 16)] := by rw [hexT, if_neg h]
theorem hexN_snoc (l : List UInt8) (c : UInt8) : hexN (l ++ [c]) = 16 * hexN l + hexVal c := by simp [hexN, List.foldl_append]
theorem hexT_len (n k : Nat) (h1 : 1 ≤ k) (h : n < 16 ^ k) : (hexT n).length ≤ k := by
  induction k generalizing n with
  | zero => omega
  | succ k ih =>
    by_cases hs : n < 16
    · rw [hexT_small hs]; simp
    · rw [hexT_big hs, List.length_append]
      have hk : 1 ≤ k := by
        rcases Nat.eq_zero_or_pos k with rfl | hp
        · simp at h; omega
        · exact hp
      have := ih (n / 16) hk (by rw [Nat.pow_succ] at h; omega)
      simp only [List.length_cons, List.length_nil]
      omega
theorem split_ne (c : UInt8) (l : List UInt8) : splitB c l ≠ [] := by
  cases l with
  | nil => simp [splitB]
  | cons x r =>
    rw [splitB]
    split
    · simp
    · split <;> simp
theorem split_len (c : UInt8) (l : List UInt8) : (splitB c l).length ≤ l.length + 1 := by
  induction l with
  | nil => simp [splitB]
  | cons x r ih =>
    rw [splitB]
    split
    · simp only [List.length_cons]; omega
    · split
      · rename_i h t hs
        rw [hs] at ih
        simp only [List.length_cons] at ih ⊢
        omega
      · simp
theorem split_part (c : UInt8) (l : List UInt8) : ∀ a ∈ splitB c l, a.length ≤ l.length := by
  induction l with
  | nil => intro a ha; simp [splitB] at ha; simp [ha]
  | cons x r ih =>
    intro a ha
    rw [splitB] at ha
    split at ha
    · rcases List.mem_cons.1 ha with rfl | h
      · simp
      · exact Nat.le_trans (ih a h) (by simp)
    · split at ha
      · rename_i h t hs
        rcases List.mem_cons.1 ha with rfl | h'
        · have := ih h (by rw [hs]; simp)
          simp only [List.length_cons]; omega
        · exact Nat.le_trans (ih a (by rw [hs]; exact List.mem_cons_of_mem _ h')) (by simp)
      · simp only [List.mem_singleton] at ha
        simp [ha]
theorem split_none {c : UInt8} {l : List UInt8} (h : c ∉ l) : splitB c l = [l] := by
  induction l with
  | nil => rfl
  | cons x r ih =>
    have hx : x ≠ c := fun e => h (by simp [e])
    rw [splitB, if_neg hx, ih (fun hm => h (List.mem_cons_of_mem _ hm))]
theorem split_at {c : UInt8} {a : List UInt8} (h : c ∉ a) (r : List UInt8) : splitB c (a ++ c :: r) = a :: splitB c r := by
  induction a with
  | nil => rw [List.nil_append, splitB, if_pos rfl]
  | cons x a ih =>
    have hx : x ≠ c := fun e => h (by simp [e])
    rw [List.cons_append, splitB, if_neg hx, ih (fun hm => h (List.mem_cons_of_mem _ hm))]
/-- a text divided up to its next byte -/
theorem split_snoc (c x : UInt8) (l : List UInt8) : splitB c (l ++ [x]) = if x = c then splitB c l ++ [[]] else (splitB c l).dropLast ++ [((splitB c l).getLast (split_ne c l)) ++ [x]] := by
  induction l with
  | nil =>
    by_cases h : x = c
    · simp [splitB, h]
    · simp [splitB, h]
  | cons y r ih =>
    by_cases hy : y = c
    · subst hy
      rw [List.cons_append, splitB, if_pos rfl, ih]
      by_cases h : x = y
      · simp only [h, if_true, splitB, List.cons_append]
      · simp only [h, if_false]
        have e : splitB y (y :: r) = [] :: splitB y r := by rw [splitB, if_pos rfl]
        simp only [e, List.dropLast_cons_of_ne_nil (split_ne y r), List.cons_append, List.getLast_cons (split_ne y r)]
    · obtain ⟨hd, tl, hs⟩ : ∃ hd tl, splitB c r = hd :: tl := by
        cases hq : splitB c r with
        | nil => exact absurd hq (split_ne c r)
        | cons a b => exact ⟨a, b, rfl⟩
      have e : splitB c (y :: r) = (y :: hd) :: tl := by rw [splitB, if_neg hy, hs]
      rw [List.cons_append, splitB, if_neg hy, ih]
      by_cases h : x = c
      · simp only [h, if_true, e, hs, List.cons_append]
      · simp only [h, if_false, e, hs]
        cases tl with
        | nil => simp
        | cons t ts => simp
end Go.Proofs.YtkhghmmgegkiiaaGreatDoor
namespace Go.Proofs.YtkhghmmgegkiiaaGreatDoor
open Go.RowKit

/-- one byte as a text -/
theorem one_text (W : World) (x : UInt8) : (convert 22 9 (.slice (some ⟨W.heap.size, 0, none⟩) 1 1)).run Tryz.prog (W.alloc (.cells #[.int .u8 (x.toNat : Int)] 5)) = .ok (.string ⟨#[x]⟩) (W.alloc (.cells #[.int .u8 (x.toNat : Int)] 5)) :=
  run_string_of_rd (P := Tryz.prog) (l := [x]) 22 9 5 1 Tryz.underlying22 Tryz.underlying5 Tryz.underlying9 (Rd.mono (blk_all (l := [x]) (Blk.new W 5 [.int .u8 (x.toNat : Int)]) rfl) (Nat.le_refl _))
theorem blk_text {W : World} {g : Nat} {x : UInt8} (h : Blk W g 5 [.int .u8 (x.toNat : Int)]) : (convert 22 9 (.slice (some ⟨g, 0, none⟩) 1 1)).run Tryz.prog W = .ok (.string ⟨#[x]⟩) W :=
  run_string_of_rd (P := Tryz.prog) (l := [x]) 22 9 5 1 Tryz.underlying22 Tryz.underlying5 Tryz.underlying9 (blk_all (l := [x]) h rfl)
theorem add_text (x y : List UInt8) (hx : x.length ≤ 1000000) (hy : y.length ≤ 1000000) (W : World) : (Op.stringOp .add ⟨x.toArray⟩ ⟨y.toArray⟩).run Tryz.prog W = .ok (.string ⟨(x ++ y).toArray⟩) W :=
  run_string_add_lists W x y (by omega) (by omega)
theorem decT_short (n : Nat) (h : n < 9223372036854775808) : (decT n).length ≤ 19 := decT_len n 19 (by omega) (by omega)
set_option maxRecDepth 100000 in
set_option maxHeartbeats 1000000 in
theorem refDecimal_any (n : Nat) (hn : n < 9223372036854775808) (w : World) :
    Calls Tryz.prog 39 #[.int .i64 (n : Int)] w fun e w' => e = .returned (.string ⟨(decT n).toArray⟩) ∧ Below w.heap.size w w' := by
  induction n using Nat.strongRecOn generalizing w with
  | ind n ih =>
    obtain ⟨x, hx⟩ : ∃ x, UInt8.ofNat (48 + n % 10) = x := ⟨_, rfl⟩
    have hxn : x.toNat = 48 + n % 10 := by rw [← hx]; exact ofNat_dig _ (Nat.mod_lt n (by omega))
    by_cases h : n < 10
    · have hd : decT n = [x] := by rw [decT_small h, ← hx, Nat.mod_eq_of_lt h]
      rw [hd]
      have hw : IntKind.u8.wrap (48 + (n : Int)) = (x.toNat : Int) := by rw [hxn, IntKind.wrap_u8']; omega
      have hw2 : IntKind.i64.wrap (48 + (n : Int)) = 48 + (n : Int) := IntWalk.i64_in _ (by omega)
      have hlt : (n : Int) < 10 := by omega
      have kc := one_text
      clear hd hx hxn ih hn h
      go_enter Tryz.func39, Tryz.ntmps39
      go_wp2
      go_ret
      exact ⟨rfl, (Below.refl _ _).alloc (Nat.le_refl _) _⟩
    · have hd : decT n = decT (n / 10) ++ [x] := by rw [decT_big h, hx]
      rw [hd]
      have hl := decT_short (n / 10) (by omega)
      have IH := Lib.hid (ih (n / 10) (by omega) (by omega))
      obtain ⟨l, hll⟩ : ∃ z, decT (n / 10) = z := ⟨_, rfl⟩
      rw [hll] at IH hl ⊢
      have HAD := Lib.hid (fun W => add_text l [x] (by omega) (by simp) W)
      obtain ⟨r, hr⟩ : ∃ z, n % 10 = z := ⟨_, rfl⟩
      have htm : (n : Int).tmod 10 = (r : Int) := by rw [← hr]; exact Int.ofNat_tmod n 10
      have hw : IntKind.u8.wrap (48 + (r : Int)) = (x.toNat : Int) := by rw [hxn, hr, IntKind.wrap_u8']; omega
      have hw2 : IntKind.i64.wrap (48 + (r : Int)) = 48 + (r : Int) := IntWalk.i64_in _ (by omega)
      have hq : (n : Int) / 10 = ((n / 10 : Nat) : Int) := by omega
      have hge : ¬ (n : Int) < 10 := by omega
      have hn0 : (0 : Int) ≤ (n : Int) := by omega
      obtain ⟨q, hqq⟩ : ∃ z, n / 10 = z := ⟨_, rfl⟩
      rw [hqq] at hq IH
      have hwq : IntKind.i64.wrap (q : Int) = (q : Int) := IntWalk.i64_in _ (by omega)
      have HM := Lib.hid (Mem.nil w)
      clear hd hx hxn hr ih hn h hll hqq hl
      go_enter Tryz.func39, Tryz.ntmps39
      go_upto_region 3 with fail
      refine wp_region_held_drew (S := fun W' => Mem w [] W') (by kernel_rfl) ((HM.out).drew) (fun hHeld => ?_)
      replace HM := Lib.hid HM.out.drew
      generalize w.drew = wd1 at HM hHeld ⊢
      refine take_first (v := ?_) 0 rfl (by kernel_rfl) (by kernel_rfl) (by kernel_rfl) (fun _ _ _ h => h) (Or.inl ⟨by rfl, ?_⟩) (by assumption) ?_
      rotate_left
      · (intro w hSw; (try dsimp only at hSw); go_simp; try with_reducible rfl)
      (try simp only [Act.put, List.setIfInBounds_toArray, List.set_cons_zero, List.set_cons_succ])
      refine take_first (v := ?_) 1 rfl (by kernel_rfl) (by kernel_rfl) (by kernel_rfl) (fun _ _ _ h => h) (Or.inl ⟨by rfl, ?_⟩) (by assumption) ?_
      rotate_left
      · (intro w hSw; (try dsimp only at hSw); go_simp; try with_reducible rfl)
      (try simp only [Act.put, List.setIfInBounds_toArray, List.set_cons_zero, List.set_cons_succ])
      refine take_first (v := ?_) 3 rfl (by kernel_rfl) (by kernel_rfl) (by kernel_rfl) (fun _ _ _ h => h) (Or.inl ⟨by rfl, ?_⟩) (by assumption) ?_
      rotate_left
      · (intro w hSw; (try dsimp only at hSw); go_simp; try with_reducible rfl)
      (try simp only [Act.put, List.setIfInBounds_toArray, List.set_cons_zero, List.set_cons_succ])
      refine take_first (v := ?_) 4 rfl (by kernel_rfl) (by kernel_rfl) (by kernel_rfl) (fun _ _ _ h => h) (Or.inl ⟨by rfl, ?_⟩) (by assumption) ?_
      rotate_left
      · (intro w hSw; (try dsimp only at hSw); go_simp; try with_reducible rfl)
      (try simp only [Act.put, List.setIfInBounds_toArray, List.set_cons_zero, List.set_cons_succ])
      refine take_first (v := ?_) 5 rfl (by kernel_rfl) (by kernel_rfl) (by kernel_rfl) (fun _ _ _ h => h) (Or.inl ⟨by rfl, ?_⟩) (by assumption) ?_
      rotate_left
      · (intro w hSw; (try dsimp only at hSw); go_simp; try with_reducible rfl)
      (try simp only [Act.put, List.setIfInBounds_toArray, List.set_cons_zero, List.set_cons_succ])
      refine take_first (v := ?_) 6 rfl (by kernel_rfl) (by kernel_rfl) (by kernel_rfl) (fun _ _ _ h => h) (Or.inl ⟨by rfl, ?_⟩) (by assumption) ?_
      rotate_left
      · (intro w hSw; (try dsimp only at hSw); go_simp; try with_reducible rfl)
      (try simp only [Act.put, List.setIfInBounds_toArray, List.set_cons_zero, List.set_cons_succ])
      refine step_two 2 7 rfl rfl (by kernel_rfl) (fun K hK => ?_) (fun K hK => ?_)
      · clear hHeld
        go_simp
        refine (IH.out _).mono ?_
        rintro e wy2 ⟨rfl, hb⟩
        replace HM := Lib.hid (show Mem w [] wy2 from HM.out.below hb)
        clear hb
        go_wp2_with fail
        refine hK.out _ _ (HM.out) (fun hHeld => ?_)
        clear hK K
        (try simp only [Act.put, List.setIfInBounds_toArray, List.set_cons_zero, List.set_cons_succ])
        refine step_one 7 rfl (by kernel_rfl) (fun K hK => ?_)
        clear hHeld
        go_simp
        replace HM := Lib.hid (show Mem w [blkE wy2.heap.size 5 ([.int .u8 (x.toNat : Int)])] (wy2.alloc (.cells #[.int .u8 (x.toNat : Int)] 5)) from HM.out.alloc rfl 5 #[.int .u8 (x.toNat : Int)] ([.int .u8 (x.toNat : Int)]) rfl)
        generalize wy2.alloc (.cells #[.int .u8 (x.toNat : Int)] 5) = wy3 at HM ⊢
        generalize wy2.heap.size = GB at HM ⊢
        refine hK.out _ _ ((HM.out.erase 0)) (fun hHeld => ?_)
        clear hK K
        (try simp only [Act.put, List.setIfInBounds_toArray, List.set_cons_zero, List.set_cons_succ])
        refine wpAnyH_stronger (T := fun W' => Mem w [blkE GB 5 ([.int .u8 (x.toNat : Int)])] W') (fun _ h' => h'.erase 0) _ _ _ _ ?_
        replace hHeld := HM.out
        refine take_first (v := ?_) 8 rfl (by kernel_rfl) (by kernel_rfl) (by kernel_rfl) (fun _ _ _ h => h) (Or.inl ⟨by rfl, ?_⟩) (by assumption) ?_
        rotate_left
        · (intro w hSw; (try dsimp only at hSw); have hc := blk_text (Mem.blk hSw 0 rfl); go_simp; try with_reducible rfl)
        (try simp only [Act.put, List.setIfInBounds_toArray, List.set_cons_zero, List.set_cons_succ])
        refine take_first (v := ?_) 9 rfl (by kernel_rfl) (by kernel_rfl) (by kernel_rfl) (fun _ _ _ h => h) (Or.inl ⟨by rfl, ?_⟩) (by assumption) ?_
        rotate_left
        · (intro w hSw; (try dsimp only at hSw); have ha := HAD.out w; go_simp; try with_reducible rfl)
        (try simp only [Act.put, List.setIfInBounds_toArray, List.set_cons_zero, List.set_cons_succ])
        refine take_first (v := ?_) 10 rfl (by kernel_rfl) (by kernel_rfl) (by kernel_rfl) (fun _ _ _ h => h) (Or.inl ⟨by rfl, ?_⟩) (by assumption) ?_
        rotate_left
        · (intro w hSw; (try dsimp only at hSw); go_simp; try with_reducible rfl)
        (try simp only [Act.put, List.setIfInBounds_toArray, List.set_cons_zero, List.set_cons_succ])
        refine wpAnyH_done (by kernel_rfl) ?_ _
        clear hHeld
        go_wp2
        go_ret
        exact ⟨rfl, HM.out.bel⟩
      · clear hHeld
        go_simp
        replace HM := Lib.hid (show Mem w [blkE wd1.heap.size 5 ([.int .u8 (x.toNat : Int)])] (wd1.alloc (.cells #[.int .u8 (x.toNat : Int)] 5)) from HM.out.alloc rfl 5 #[.int .u8 (x.toNat : Int)] ([.int .u8 (x.toNat : Int)]) rfl)
        generalize wd1.alloc (.cells #[.int .u8 (x.toNat : Int)] 5) = wy2 at HM ⊢
        generalize wd1.heap.size = GB at HM ⊢
        refine hK.out _ _ ((HM.out.erase 0)) (fun hHeld => ?_)
        clear hK K
        (try simp only [Act.put, List.setIfInBounds_toArray, List.set_cons_zero, List.set_cons_succ])
        refine wpAnyH_stronger (T := fun W' => Mem w [blkE GB 5 ([.int .u8 (x.toNat : Int)])] W') (fun _ h' => h'.erase 0) _ _ _ _ ?_
        replace hHeld := HM.out
        refine take_first (v := ?_) 8 rfl (by kernel_rfl) (by kernel_rfl) (by kernel_rfl) (fun _ _ _ h => h) (Or.inl ⟨by rfl, ?_⟩) (by assumption) ?_
        rotate_left
        · (intro w hSw; (try dsimp only at hSw); have hc := blk_text (Mem.blk hSw 0 rfl); go_simp; try with_reducible rfl)
        (try simp only [Act.put, List.setIfInBounds_toArray, List.set_cons_zero, List.set_cons_succ])
        refine step_one 2 rfl (by kernel_rfl) (fun K hK => ?_)
        clear hHeld
        go_simp
        refine (IH.out _).mono ?_
        rintro e wy3 ⟨rfl, hb⟩
        replace HM := Lib.hid (show Mem w [blkE GB 5 ([.int .u8 (x.toNat : Int)])] wy3 from HM.out.below hb)
        clear hb
        go_wp2_with fail
        refine hK.out _ _ (HM.out) (fun hHeld => ?_)
        clear hK K
        (try simp only [Act.put, List.setIfInBounds_toArray, List.set_cons_zero, List.set_cons_succ])
        refine take_first (v := ?_) 9 rfl (by kernel_rfl) (by kernel_rfl) (by kernel_rfl) (fun _ _ _ h => h) (Or.inl ⟨by rfl, ?_⟩) (by assumption) ?_
        rotate_left
        · (intro w hSw; (try dsimp only at hSw); have ha := HAD.out w; go_simp; try with_reducible rfl)
        (try simp only [Act.put, List.setIfInBounds_toArray, List.set_cons_zero, List.set_cons_succ])
        refine take_first (v := ?_) 10 rfl (by kernel_rfl) (by kernel_rfl) (by kernel_rfl) (fun _ _ _ h => h) (Or.inl ⟨by rfl, ?_⟩) (by assumption) ?_
        rotate_left
        · (intro w hSw; (try dsimp only at hSw); go_simp; try with_reducible rfl)
        (try simp only [Act.put, List.setIfInBounds_toArray, List.set_cons_zero, List.set_cons_succ])
        refine wpAnyH_done (by kernel_rfl) ?_ _
        clear hHeld
        go_wp2
        go_ret
        exact ⟨rfl, HM.out.bel⟩
end Go.Proofs.YtkhghmmgegkiiaaGreatDoor
namespace Go.Proofs.YtkhghmmgegkiiaaGreatDoor
open Go.RowKit

theorem ret_string {a b : ByteArray} (h : a.data.toList = b.data.toList) : Ending.returned (.string a) = .returned (.string b) := by rw [Go.WideShapes.bytes_inj h]

theorem short_any (l : List UInt8) (m : Nat) (hl : l.length ≤ maxLen) (hm : m ≤ 1000000) (w : World) :
    Calls Tryz.prog 12 #[.string ⟨l.toArray⟩, .int .i64 m] w fun e w' => e = .returned (.string ⟨(l.take m).toArray⟩) ∧ w = w' := by
  obtain ⟨S, hS⟩ : ∃ S : ByteArray, ⟨l.toArray⟩ = S := ⟨_, rfl⟩
  have hsz : S.size = l.length := by rw [← hS]; simp [ByteArray.size]
  rw [hS]
  have HS := Lib.hid hS
  have HZ := Lib.hid hsz
  have b2 : S.size ≤ 9223372036854775807 := by unfold maxLen at hl; omega
  by_cases hc : S.size ≤ m
  · clear hS hsz hl
    go_enter Tryz.func12, Tryz.ntmps12
    go_wp2
    go_ret
    exact ⟨ret_string (by rw [← HS.out]; have := HZ.out; simp; rw [List.take_of_length_le (by omega)]), rfl⟩
  · clear hS hsz hl
    go_enter Tryz.func12, Tryz.ntmps12
    go_wp2
    go_ret
    exact ⟨ret_string (by rw [Lib.extract_data, ← HS.out]; simp), rfl⟩

theorem hexCut (k : Nat) (L H : Int) (h : L = (k : Int) ∧ H = (k : Int) + 1 ∧ k < 16) : ByteArray.extract (ByteArray.mk #[48, 49, 50, 51, 52, 53, 54, 55, 56, 57, 97, 98, 99, 100, 101, 102]) L.toNat H.toNat = ⟨#[hexD k]⟩ := by
  obtain ⟨rfl, rfl, hk⟩ := h
  have : ∀ d : Fin 16, ByteArray.extract (ByteArray.mk #[48, 49, 50, 51, 52, 53, 54, 55, 56, 57, 97, 98, 99, 100, 101, 102]) d.val (d.val + 1) = ⟨#[hexD d.val]⟩ := by decide +kernel
  rw [Int.toNat_natCast, show ((k : Int) + 1).toNat = k + 1 from by omega]
  exact this ⟨k, hk⟩
/-- the reference's value of a hexadecimal digit -/
theorem digit_any (c : UInt8) (w : World) :
    Calls Tryz.prog 113 #[.int .u8 (c.toNat : Int)] w fun e w' => e = .returned (.int .i64 (hexVal c : Nat)) ∧ w = w' := by
  have hb := c.toNat_lt
  by_cases h1 : 48 ≤ c.toNat ∧ c.toNat ≤ 57
  · have hv : hexVal c = c.toNat - 48 := by unfold hexVal; rw [if_pos h1]
    rw [hv]
    obtain ⟨a1, a2⟩ := h1
    clear hv
    go_enter Tryz.func113, Tryz.ntmps113
    go_wp2
    go_ret
    exact ⟨ret_int (by omega), rfl⟩
  by_cases h2 : 97 ≤ c.toNat ∧ c.toNat ≤ 102
  · have hv : hexVal c = c.toNat - 87 := by unfold hexVal; rw [if_neg h1, if_pos h2]
    rw [hv]
    obtain ⟨a1, a2⟩ := h2
    have a3 : ¬ c.toNat ≤ 57 := by omega
    clear hv h1
    go_enter Tryz.func113, Tryz.ntmps113
    go_wp2
    go_ret
    exact ⟨ret_int (by omega), rfl⟩
  by_cases h3 : 65 ≤ c.toNat ∧ c.toNat ≤ 70
  · have hv : hexVal c = c.toNat - 55 := by unfold hexVal; rw [if_neg h1, if_neg h2, if_pos h3]
    rw [hv]
    obtain ⟨a1, a2⟩ := h3
    have a3 : ¬ c.toNat ≤ 57 := by omega
    have a4 : ¬ 97 ≤ c.toNat := by omega
    clear hv h1 h2
    go_enter Tryz.func113, Tryz.ntmps113
    go_wp2
    go_ret
    exact ⟨ret_int (by omega), rfl⟩
  · have hv : hexVal c = 16 := by unfold hexVal; rw [if_neg h1, if_neg h2, if_neg h3]
    rw [hv]
    clear hv
    rcases (by omega : c.toNat < 48 ∨ (57 < c.toNat ∧ c.toNat < 65) ∨ (70 < c.toNat ∧ c.toNat < 97) ∨ 102 < c.toNat) with g | ⟨g, g'⟩ | ⟨g, g'⟩ | g
    all_goals
      clear h1 h2 h3
      go_enter Tryz.func113, Tryz.ntmps113
      go_wp2
      go_ret
      exact ⟨rfl, rfl⟩
end Go.Proofs.YtkhghmmgegkiiaaGreatDoor
