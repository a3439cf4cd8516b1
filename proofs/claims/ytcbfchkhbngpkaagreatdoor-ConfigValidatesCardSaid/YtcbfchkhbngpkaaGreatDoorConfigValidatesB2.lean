/-
  The contracts of the reference's sound, bit, width, Valid. How the cells of a prefix are opened. Numbers of 64 bits. How the cells of a prefix are opened. The cells of an endpoint. How the cells of an endpoint are opened. Plain mathematics of keys in base64, with no program in sight: what a text stands for, and that text and key give each other back. The mathematics of the texts of addresses, endpoints and prefixes. No function of the program is named here. Addresses, endpoints and prefixes are recovered from their texts. No function of the program is named here. Whether two addresses are equal can be decided. No function of the program is named here. The mathematics of routes: what the functions of layer 14 return. No function of the program is named here. The mathematics of configurations: their cells, and what a text of lines stands for. A map from texts to bools that a call makes, as the list of the texts that it holds. No function of the program is named here. An object that lies in memory, later. Lists of prefixes that lie in memory. A slice built of one part, and the append of one part to a row of the call's own. Rows of objects: pieces of them, and the append of a row of objects to another one. No function of the program is named here. Words for lists of structs that grow by append. Words for lists of objects of one size that a slice holds: the first one for which a predicate holds, a place that is written, a predicate that is handed on. No function of the program is named here. append of a slice, and of a made one (zeros), onto a row of bytes of the call's own. The parser's state in memory. The cells of a prefix or an endpoint are single values. Rows of prefixes: the zero prefix, single cells, one more prefix. Rows of keys: a slice built of one key, and the append of one key to a row of the call's own. Configurations that lie in memory; two rows that grow in turn. No statement is proved here.
-/
import Derived.Laws.ShiftsVarLaws
import Derived.Deep.DeepCutAuto
import Derived.RegionTactic
import Derived.BigRegion
import Derived.Laws.BitsAllLaws
import Derived.Deep.QuietTactic
import Derived.BigQuiet
import Derived.Lib.Bytealg
import Derived.Lib.SlTrimSet
import Derived.Lib.IndexMore
import Derived.Maps.OwnOps
import Derived.Maps.OwnSet
import Derived.StringKeys
import Derived.Maps.AppendAt
import Derived.Laws.AppendOwnNone
import Derived.Lib.AppendZerosOnto
import Derived.Test.YtcbfchkhbngpkaaGreatDoorConfigValidatesB1
namespace Go.Proofs.YtcbfchkhbngpkaaGreatDoor
open Go.RowKit

theorem AddrM.six_cell (a : AddrM) : a.cells[0]? = some (.bool a.six) := rfl
/-- a prefix -/
def prefC (a : AddrM) (bits : Int) : List Value := a.cells ++ [.int .i64 bits]
theorem prefC_length (a : AddrM) (h : a.ok) (bits : Int) : (prefC a bits).length = 18 := by rw [prefC, List.length_append, AddrM.cells_length h]; rfl
theorem prefC_addr (a : AddrM) (h : a.ok) (bits : Int) : ((prefC a bits).drop 0).take 17 = a.cells := by rw [prefC, List.drop_zero, ← AddrM.cells_length h, List.take_left]
theorem prefC_bits (a : AddrM) (h : a.ok) (bits : Int) : (prefC a bits)[17]? = some (.int .i64 bits) := by
  rw [prefC, List.getElem?_append_right (by rw [AddrM.cells_length h]; omega), AddrM.cells_length h]; rfl
theorem soundM_four (a : AddrM) (h : a.ok) (h6 : a.six = false) : soundM a = true ↔ ∀ j, j < 12 → a.ip.getD (4 + j) 0 = 0 := by
  have hl : a.ip.length = 16 := h
  rw [soundM, h6, Bool.false_or, List.all_eq_true]
  constructor
  · intro hx j hj
    have := hx (a.ip[4 + j]'(by omega)) (List.mem_drop_iff_getElem.2 ⟨j, by omega, rfl⟩)
    rw [List.getD_eq_getElem?_getD, List.getElem?_eq_getElem (by omega)]
    simpa using this
  · intro hx x hm
    obtain ⟨j, hj, rfl⟩ := List.mem_drop_iff_getElem.1 hm
    have := hx j (by omega)
    rw [List.getD_eq_getElem?_getD, List.getElem?_eq_getElem (by omega)] at this
    simpa using this

set_option maxRecDepth 100000 in
set_option maxHeartbeats 2000000 in
theorem refSound_any (a : AddrM) (h : a.ok) (w : World) :
    Calls Tryz.prog 77 #[.agg a.cells.toArray] w fun e w' => e = .returned (.bool (soundM a)) ∧ Below w.heap.size w w' := by
  obtain ⟨ca, hca⟩ : ∃ c, a.cells.toArray = c := ⟨_, rfl⟩
  rw [hca]
  have HM := Lib.hid (show Mem w [blkE w.heap.size 53 a.cells] (w.alloc (.cells ca 53)) from (Mem.nil w).alloc rfl 53 ca a.cells hca.symm)
  have HO := Lib.hid h
  obtain ⟨sx, hsx⟩ : ∃ q, a.six = q := ⟨_, rfl⟩
  have HS := Lib.hid hsx
  clear hca h hsx
  go_enter Tryz.func77, Tryz.ntmps77
  go_upto_region 1 with fail
  generalize w.alloc (.cells ca 53) = w1 at HM ⊢
  go_wp2_with fail
  go_loopw [8] (fun z wr => ∃ j : Nat, j ≤ 12 ∧ z = .int .i64 (j : Int) ∧ (sx = false → ∀ i, i < j → a.ip.getD (4 + i) 0 = 0) ∧ Mem w [blkE w.heap.size 53 a.cells] wr) (fun z _ => 12 - (intOf z).toNat)
  case atStart => exact ⟨0, by omega, rfl, fun _ i hi => absurd hi (by omega), HM.out⟩
  case round =>
    clear HM
    obtain ⟨j, hj, rfl, hz, hM⟩ := hrel
    have HM := Lib.hid hM
    have HZ := Lib.hid hz
    clear hM hz
    by_cases hlt : j < 12
    · have fx := ((HM.out.blk 0 rfl).cell (1 + (4 + j))).trans (AddrM.ip_cell a HO.out (4 + j) (by omega))
      rw [show 1 + (4 + j) = 5 + j by omega] at fx
      have f6 := ((HM.out.blk 0 rfl).cell 0).trans (AddrM.six_cell a)
      rw [HS.out] at f6
      obtain ⟨x, hx⟩ : ∃ x, a.ip.getD (4 + j) 0 = x := ⟨_, rfl⟩
      rw [hx] at fx
      have HX := Lib.hid hx
      clear hx
      have dl : decide ((j : Int) < 12) = true := by simp; omega
      cases sx with
      | true =>
        go_wp2
        go_roundw
        case rel => exact ⟨j + 1, by omega, by go_num, (fun h => by cases h), HM.out⟩
        case measure => simp [intOf]; omega
      | false =>
        by_cases hx0 : x = 0
        · have hne : ((x.toNat : Int) != 0) = false := by subst hx0; rfl
          have HX0 := Lib.hid hx0
          clear hx0
          go_wp2
          go_roundw
          case rel => exact ⟨j + 1, by omega, by go_num, (fun _ i hi => by
            by_cases e : i = j
            · subst e; rw [HX.out, HX0.out]
            · exact HZ.out rfl i (by omega)), HM.out⟩
          case measure => simp [intOf]; omega
        · have hne : ((x.toNat : Int) != 0) = true := by
            have : x.toNat ≠ 0 := fun e => hx0 (UInt8.toNat.inj e)
            simp; omega
          have HR := Lib.hid (show soundM a = false from by
            rw [Bool.eq_false_iff]
            intro hs
            have := (soundM_four a HO.out HS.out).1 hs j hlt
            rw [HX.out] at this
            exact hx0 this)
          clear hx0
          go_wp2
          go_ret
          exact ⟨by rw [HR.out]; rfl, HM.out.bel⟩
    · obtain rfl : j = 12 := by omega
      have HR := Lib.hid (show soundM a = true from by
        cases hq : sx with
        | true => rw [soundM, HS.out, hq]; rfl
        | false => exact (soundM_four a HO.out (by rw [HS.out, hq])).2 (HZ.out hq))
      (try rw [show ((12 : Nat) : Int) = 12 from rfl])
      go_wp2
      go_ret
      exact ⟨by rw [HR.out]; rfl, HM.out.bel⟩
set_option maxRecDepth 100000 in
set_option maxHeartbeats 2000000 in
theorem refBit_any (a : AddrM) (h : a.ok) (i : Nat) (hi : i < 128) (w : World) :
    Calls Tryz.prog 80 #[.agg a.cells.toArray, .int .i64 (i : Int)] w fun e w' => e = .returned (.int .u8 (bitM a.ip i : Int)) ∧ Below w.heap.size w w' := by
  obtain ⟨ca, hca⟩ : ∃ c, a.cells.toArray = c := ⟨_, rfl⟩
  rw [hca]
  have HM := Lib.hid (show Mem w [blkE w.heap.size 53 a.cells] (w.alloc (.cells ca 53)) from (Mem.nil w).alloc rfl 53 ca a.cells hca.symm)
  have HO := Lib.hid h
  have hb : bitM a.ip i = (a.ip.getD (i / 8) 0).toNat / 2 ^ (7 - i % 8) % 2 := rfl
  have hk8 : i / 8 < 16 := by omega
  clear hca h
  go_enter Tryz.func80, Tryz.ntmps80
  go_upto_region 1 with fail
  generalize w.alloc (.cells ca 53) = w1 at HM ⊢
  have fx := ((HM.out.blk 0 rfl).cell (1 + i / 8)).trans (AddrM.ip_cell a HO.out (i / 8) hk8)
  generalize a.ip.getD (i / 8) 0 = x at fx hb
  have hq : (i : Int) / 8 = ((i / 8 : Nat) : Int) := by omega
  have hr : (i : Int) % 8 = ((i % 8 : Nat) : Int) := by omega
  obtain ⟨k, hk⟩ : ∃ k, i / 8 = k := ⟨_, rfl⟩
  obtain ⟨m, hm⟩ : ∃ m, i % 8 = m := ⟨_, rfl⟩
  rw [hk] at fx hq hk8
  rw [hm] at hr hb
  have hm8 : m < 8 := by omega
  obtain ⟨t, ht⟩ : ∃ t, 7 - m = t := ⟨_, rfl⟩
  rw [ht] at hb
  have hw7 : IntKind.i64.wrap (7 - (m : Int)) = (t : Int) := by rw [IntWalk.i64_in _ (by omega)]; omega
  have bk : (k : Int) < 16 := by omega
  have hmin : min t 8 = t := by omega
  obtain ⟨v, hv⟩ : ∃ v, x.toNat / 2 ^ t = v := ⟨_, rfl⟩
  rw [hv] at hb
  have hvl : v < 256 := by rw [← hv]; exact Nat.lt_of_le_of_lt (Nat.div_le_self _ _) x.toNat_lt
  have he : (x.toNat : Int) / 2 ^ t = (v : Int) := by rw [← hv, Int.natCast_ediv, Int.natCast_pow]; rfl
  have hand : bits BinOp.and IntKind.u8 (v : Int) 1 = ((v % 2 : Nat) : Int) := by
    have h := u8_and_nat v 1 hvl (by omega)
    rw [show ((1 : Nat) : Int) = 1 from rfl] at h
    rw [h, Nat.and_one_is_mod]
  generalize v % 2 = r at hand hb
  have HB := Lib.hid hb
  clear hb hv ht hk hm hvl hm8
  go_wp2
  go_ret
  exact ⟨by rw [HB.out]; rfl, HM.out.bel⟩
set_option maxRecDepth 100000 in
theorem refWidth_any (a : AddrM) (w : World) :
    Calls Tryz.prog 79 #[.agg a.cells.toArray] w fun e w' => e = .returned (.int .i64 (widthM a : Int)) ∧ Below w.heap.size w w' := by
  obtain ⟨ca, hca⟩ : ∃ c, a.cells.toArray = c := ⟨_, rfl⟩
  rw [hca]
  have HM := Lib.hid (show Mem w [blkE w.heap.size 53 a.cells] (w.alloc (.cells ca 53)) from (Mem.nil w).alloc rfl 53 ca a.cells hca.symm)
  obtain ⟨sx, hsx⟩ : ∃ q, a.six = q := ⟨_, rfl⟩
  have HW := Lib.hid (show widthM a = if sx then 128 else 32 by rw [widthM, hsx])
  clear hca
  go_enter Tryz.func79, Tryz.ntmps79
  go_upto_region 1 with fail
  generalize w.alloc (.cells ca 53) = w1 at HM ⊢
  have f6 := ((HM.out.blk 0 rfl).cell 0).trans (AddrM.six_cell a)
  rw [hsx] at f6
  cases sx with
  | true =>
    go_wp2
    go_ret
    exact ⟨by rw [HW.out]; rfl, HM.out.bel⟩
  | false =>
    go_wp2
    go_ret
    exact ⟨by rw [HW.out]; rfl, HM.out.bel⟩
theorem validM_iff (a : AddrM) (bits : Int) (hs : soundM a = true) (h0 : 0 ≤ bits) (h1 : bits ≤ (widthM a : Int)) : validM a bits = true ↔ ∀ i : Nat, bits ≤ (i : Int) → i < 128 → bitM a.ip i = 0 := by
  rw [validM, hs, decide_eq_true h0, decide_eq_true h1, Bool.true_and, Bool.true_and, Bool.true_and, List.all_eq_true]
  constructor
  · intro h i hi hlt
    have := h i (List.mem_range.2 hlt)
    rw [Bool.or_eq_true, decide_eq_true_iff, beq_iff_eq] at this
    rcases this with h2 | h2
    · omega
    · exact h2
  · intro h i hi
    rw [Bool.or_eq_true, decide_eq_true_iff, beq_iff_eq]
    by_cases h2 : (i : Int) < bits
    · exact .inl h2
    · exact .inr (h i (by omega) (List.mem_range.1 hi))
theorem widthM_le (a : AddrM) : widthM a = 32 ∨ widthM a = 128 := by unfold widthM; split <;> simp
set_option maxRecDepth 100000 in
set_option maxHeartbeats 4000000 in
theorem refValid_any (a : AddrM) (h : a.ok) (bits : Int) (_hb1 : -9223372036854775808 ≤ bits) (_hb2 : bits ≤ 9223372036854775807) (w : World) :
    Calls Tryz.prog 56 #[.agg (prefC a bits).toArray] w fun e w' => e = .returned (.bool (validM a bits)) ∧ Below w.heap.size w w' := by
  obtain ⟨cp, hcp⟩ : ∃ c, (prefC a bits).toArray = c := ⟨_, rfl⟩
  rw [hcp]
  have HM := Lib.hid (show Mem w [blkE w.heap.size 60 (prefC a bits)] (w.alloc (.cells cp 60)) from (Mem.nil w).alloc rfl 60 cp (prefC a bits) hcp.symm)
  have HO := Lib.hid h
  have SN := fun W : World => refSound_any a h W
  have WD := fun W : World => refWidth_any a W
  have BT := fun (i : Nat) (hi : i < 128) (W : World) => refBit_any a h i hi W
  obtain ⟨ca, hca⟩ : ∃ c, a.cells.toArray = c := ⟨_, rfl⟩
  simp only [hca] at SN WD BT
  have HCA := Lib.hid hca
  have HBT := Lib.hid BT
  have hwl := widthM_le a
  obtain ⟨sd, hsd⟩ : ∃ q, soundM a = q := ⟨_, rfl⟩
  rw [hsd] at SN
  have HSN := Lib.hid SN
  have HWD := Lib.hid WD
  clear hcp h hca SN WD BT
  go_enter Tryz.func56, Tryz.ntmps56
  go_upto_region 1 with fail
  generalize w.alloc (.cells cp 60) = w1 at HM ⊢
  cases sd with
  | false =>
    have HR := Lib.hid (show validM a bits = false from by rw [validM, hsd]; rfl)
    refine wp_region_held_drew (S := fun W' => Mem w [blkE w.heap.size 60 (prefC a bits)] W') (by kernel_rfl) ((HM.out).drew) (fun hHeld => ?_)
    replace HM := Lib.hid HM.out.drew
    generalize w1.drew = wd1 at HM hHeld ⊢
    refine take_first (v := ?_) 0 rfl (by kernel_rfl) (by kernel_rfl) (by kernel_rfl) (fun _ _ _ h => h) (Or.inl ⟨by rfl, ?_⟩) (by assumption) ?_
    rotate_left
    · (intro w hSw; (try dsimp only at hSw); go_simp; try with_reducible rfl)
    (try simp only [Act.put, List.setIfInBounds_toArray, List.set_cons_zero, List.set_cons_succ])
    refine take_first (v := .agg ca) 1 rfl (by kernel_rfl) (by kernel_rfl) (by kernel_rfl) (fun _ _ _ h => h) (by rw [← HCA.out]; exact yields_load_obj (by rfl) 53 (.tmp 4) rfl w.heap.size 0 rfl a.cells (fun w' hb => by have h := (Mem.blk hb 0 rfl).sub 0 17; rw [prefC_addr a HO.out bits] at h; exact h) _ Tryz.underlying53 rfl (addr_cellsOf _ HO.out)) (by assumption) ?_
    (try simp only [Act.put, List.setIfInBounds_toArray, List.set_cons_zero, List.set_cons_succ])
    refine step_one 2 rfl (by kernel_rfl) (fun K hK => ?_)
    clear hHeld
    go_simp
    refine (HSN.out _).mono ?_
    rintro e wy2 ⟨rfl, hb⟩
    replace HM := Lib.hid (show Mem w [blkE w.heap.size 60 (prefC a bits)] wy2 from HM.out.below hb)
    clear hb
    go_wp2_with fail
    refine hK.out _ _ (HM.out) (fun hHeld => ?_)
    clear hK K
    (try simp only [Act.put, List.setIfInBounds_toArray, List.set_cons_zero, List.set_cons_succ])
    refine take_first (v := ?_) 3 rfl (by kernel_rfl) (by kernel_rfl) (by kernel_rfl) (fun _ _ _ h => h) (Or.inl ⟨by rfl, ?_⟩) (by assumption) ?_
    rotate_left
    · (intro w hSw; (try dsimp only at hSw); go_simp; try with_reducible rfl)
    (try simp only [Act.put, List.setIfInBounds_toArray, List.set_cons_zero, List.set_cons_succ])
    refine take_first (v := ?_) 4 rfl (by kernel_rfl) (by kernel_rfl) (by kernel_rfl) (fun _ _ _ h => h) (Or.inl ⟨by rfl, ?_⟩) (by assumption) ?_
    rotate_left
    · (intro w hSw; (try dsimp only at hSw); go_simp; try with_reducible rfl)
    (try simp only [Act.put, List.setIfInBounds_toArray, List.set_cons_zero, List.set_cons_succ])
    refine take_first (v := undef) 5 rfl (by kernel_rfl) (by kernel_rfl) (by kernel_rfl) (fun _ _ _ h => h) (Or.inr ⟨by rfl, rfl⟩) (by assumption) ?_
    (try simp only [Act.put, List.setIfInBounds_toArray, List.set_cons_zero, List.set_cons_succ])
    refine take_first (v := undef) 6 rfl (by kernel_rfl) (by kernel_rfl) (by kernel_rfl) (fun _ _ _ h => h) (Or.inr ⟨by rfl, rfl⟩) (by assumption) ?_
    (try simp only [Act.put, List.setIfInBounds_toArray, List.set_cons_zero, List.set_cons_succ])
    refine take_first (v := undef) 7 rfl (by kernel_rfl) (by kernel_rfl) (by kernel_rfl) (fun _ _ _ h => h) (Or.inr ⟨by rfl, rfl⟩) (by assumption) ?_
    (try simp only [Act.put, List.setIfInBounds_toArray, List.set_cons_zero, List.set_cons_succ])
    refine take_first (v := ?_) 8 rfl (by kernel_rfl) (by kernel_rfl) (by kernel_rfl) (fun _ _ _ h => h) (Or.inl ⟨by rfl, ?_⟩) (by assumption) ?_
    rotate_left
    · (intro w hSw; (try dsimp only at hSw); go_simp; try with_reducible rfl)
    (try simp only [Act.put, List.setIfInBounds_toArray, List.set_cons_zero, List.set_cons_succ])
    refine take_first (v := ?_) 9 rfl (by kernel_rfl) (by kernel_rfl) (by kernel_rfl) (fun _ _ _ h => h) (Or.inl ⟨by rfl, ?_⟩) (by assumption) ?_
    rotate_left
    · (intro w hSw; (try dsimp only at hSw); go_simp; try with_reducible rfl)
    (try simp only [Act.put, List.setIfInBounds_toArray, List.set_cons_zero, List.set_cons_succ])
    refine take_first (v := undef) 10 rfl (by kernel_rfl) (by kernel_rfl) (by kernel_rfl) (fun _ _ _ h => h) (Or.inr ⟨by rfl, rfl⟩) (by assumption) ?_
    (try simp only [Act.put, List.setIfInBounds_toArray, List.set_cons_zero, List.set_cons_succ])
    refine take_first (v := undef) 11 rfl (by kernel_rfl) (by kernel_rfl) (by kernel_rfl) (fun _ _ _ h => h) (Or.inr ⟨by rfl, rfl⟩) (by assumption) ?_
    (try simp only [Act.put, List.setIfInBounds_toArray, List.set_cons_zero, List.set_cons_succ])
    refine take_first (v := undef) 12 rfl (by kernel_rfl) (by kernel_rfl) (by kernel_rfl) (fun _ _ _ h => h) (Or.inr ⟨by rfl, rfl⟩) (by assumption) ?_
    (try simp only [Act.put, List.setIfInBounds_toArray, List.set_cons_zero, List.set_cons_succ])
    refine take_first (v := undef) 13 rfl (by kernel_rfl) (by kernel_rfl) (by kernel_rfl) (fun _ _ _ h => h) (Or.inr ⟨by rfl, rfl⟩) (by assumption) ?_
    (try simp only [Act.put, List.setIfInBounds_toArray, List.set_cons_zero, List.set_cons_succ])
    refine take_first (v := undef) 14 rfl (by kernel_rfl) (by kernel_rfl) (by kernel_rfl) (fun _ _ _ h => h) (Or.inr ⟨by rfl, rfl⟩) (by assumption) ?_
    (try simp only [Act.put, List.setIfInBounds_toArray, List.set_cons_zero, List.set_cons_succ])
    refine take_first (v := undef) 15 rfl (by kernel_rfl) (by kernel_rfl) (by kernel_rfl) (fun _ _ _ h => h) (Or.inr ⟨by rfl, rfl⟩) (by assumption) ?_
    (try simp only [Act.put, List.setIfInBounds_toArray, List.set_cons_zero, List.set_cons_succ])
    refine take_first (v := ?_) 16 rfl (by kernel_rfl) (by kernel_rfl) (by kernel_rfl) (fun _ _ _ h => h) (Or.inl ⟨by rfl, ?_⟩) (by assumption) ?_
    rotate_left
    · (intro w hSw; (try dsimp only at hSw); go_simp; try with_reducible rfl)
    (try simp only [Act.put, List.setIfInBounds_toArray, List.set_cons_zero, List.set_cons_succ])
    refine wpAnyH_done (by kernel_rfl) ?_ _
    clear hHeld
    go_wp2
    go_ret
    exact ⟨by rw [HR.out]; rfl, HM.out.bel⟩
  | true =>
    by_cases h0 : bits < 0
    · have HR := Lib.hid (show validM a bits = false from by rw [validM, hsd, decide_eq_false (by omega)]; rfl)
      have HD0 := Lib.hid (show decide (bits < 0) = true by simp; omega)
      refine wp_region_held_drew (S := fun W' => Mem w [blkE w.heap.size 60 (prefC a bits)] W') (by kernel_rfl) ((HM.out).drew) (fun hHeld => ?_)
      replace HM := Lib.hid HM.out.drew
      generalize w1.drew = wd1 at HM hHeld ⊢
      refine take_first (v := ?_) 0 rfl (by kernel_rfl) (by kernel_rfl) (by kernel_rfl) (fun _ _ _ h => h) (Or.inl ⟨by rfl, ?_⟩) (by assumption) ?_
      rotate_left
      · (intro w hSw; (try dsimp only at hSw); go_simp; try with_reducible rfl)
      (try simp only [Act.put, List.setIfInBounds_toArray, List.set_cons_zero, List.set_cons_succ])
      refine take_first (v := .agg ca) 1 rfl (by kernel_rfl) (by kernel_rfl) (by kernel_rfl) (fun _ _ _ h => h) (by rw [← HCA.out]; exact yields_load_obj (by rfl) 53 (.tmp 4) rfl w.heap.size 0 rfl a.cells (fun w' hb => by have h := (Mem.blk hb 0 rfl).sub 0 17; rw [prefC_addr a HO.out bits] at h; exact h) _ Tryz.underlying53 rfl (addr_cellsOf _ HO.out)) (by assumption) ?_
      (try simp only [Act.put, List.setIfInBounds_toArray, List.set_cons_zero, List.set_cons_succ])
      refine step_one 2 rfl (by kernel_rfl) (fun K hK => ?_)
      clear hHeld
      go_simp
      refine (HSN.out _).mono ?_
      rintro e wy2 ⟨rfl, hb⟩
      replace HM := Lib.hid (show Mem w [blkE w.heap.size 60 (prefC a bits)] wy2 from HM.out.below hb)
      clear hb
      go_wp2_with fail
      refine hK.out _ _ (HM.out) (fun hHeld => ?_)
      clear hK K
      (try simp only [Act.put, List.setIfInBounds_toArray, List.set_cons_zero, List.set_cons_succ])
      refine take_first (v := ?_) 3 rfl (by kernel_rfl) (by kernel_rfl) (by kernel_rfl) (fun _ _ _ h => h) (Or.inl ⟨by rfl, ?_⟩) (by assumption) ?_
      rotate_left
      · (intro w hSw; (try dsimp only at hSw); go_simp; try with_reducible rfl)
      (try simp only [Act.put, List.setIfInBounds_toArray, List.set_cons_zero, List.set_cons_succ])
      refine take_first (v := ?_) 4 rfl (by kernel_rfl) (by kernel_rfl) (by kernel_rfl) (fun _ _ _ h => h) (Or.inl ⟨by rfl, ?_⟩) (by assumption) ?_
      rotate_left
      · (intro w hSw; (try dsimp only at hSw); go_simp; try with_reducible rfl)
      (try simp only [Act.put, List.setIfInBounds_toArray, List.set_cons_zero, List.set_cons_succ])
      refine take_first (v := ?_) 5 rfl (by kernel_rfl) (by kernel_rfl) (by kernel_rfl) (fun _ _ _ h => h) (Or.inl ⟨by rfl, ?_⟩) (by assumption) ?_
      rotate_left
      · (intro w hSw; (try dsimp only at hSw); go_simp; try with_reducible rfl)
      (try simp only [Act.put, List.setIfInBounds_toArray, List.set_cons_zero, List.set_cons_succ])
      refine take_first (v := ?_) 6 rfl (by kernel_rfl) (by kernel_rfl) (by kernel_rfl) (fun _ _ _ h => h) (Or.inl ⟨by rfl, ?_⟩) (by assumption) ?_
      rotate_left
      · (intro w hSw; (try dsimp only at hSw); have fb := (Mem.blk hSw 0 rfl).cell 17; rw [prefC_bits a HO.out bits] at fb; go_simp; try with_reducible rfl)
      (try simp only [Act.put, List.setIfInBounds_toArray, List.set_cons_zero, List.set_cons_succ])
      refine take_first (v := ?_) 7 rfl (by kernel_rfl) (by kernel_rfl) (by kernel_rfl) (fun _ _ _ h => h) (Or.inl ⟨by rfl, ?_⟩) (by assumption) ?_
      rotate_left
      · (intro w hSw; (try dsimp only at hSw); have d0 := HD0.out; go_simp; try with_reducible rfl)
      (try simp only [Act.put, List.setIfInBounds_toArray, List.set_cons_zero, List.set_cons_succ])
      refine take_first (v := ?_) 8 rfl (by kernel_rfl) (by kernel_rfl) (by kernel_rfl) (fun _ _ _ h => h) (Or.inl ⟨by rfl, ?_⟩) (by assumption) ?_
      rotate_left
      · (intro w hSw; (try dsimp only at hSw); go_simp; try with_reducible rfl)
      (try simp only [Act.put, List.setIfInBounds_toArray, List.set_cons_zero, List.set_cons_succ])
      refine take_first (v := ?_) 9 rfl (by kernel_rfl) (by kernel_rfl) (by kernel_rfl) (fun _ _ _ h => h) (Or.inl ⟨by rfl, ?_⟩) (by assumption) ?_
      rotate_left
      · (intro w hSw; (try dsimp only at hSw); go_simp; try with_reducible rfl)
      (try simp only [Act.put, List.setIfInBounds_toArray, List.set_cons_zero, List.set_cons_succ])
      refine take_first (v := undef) 10 rfl (by kernel_rfl) (by kernel_rfl) (by kernel_rfl) (fun _ _ _ h => h) (Or.inr ⟨by rfl, rfl⟩) (by assumption) ?_
      (try simp only [Act.put, List.setIfInBounds_toArray, List.set_cons_zero, List.set_cons_succ])
      refine take_first (v := undef) 11 rfl (by kernel_rfl) (by kernel_rfl) (by kernel_rfl) (fun _ _ _ h => h) (Or.inr ⟨by rfl, rfl⟩) (by assumption) ?_
      (try simp only [Act.put, List.setIfInBounds_toArray, List.set_cons_zero, List.set_cons_succ])
      refine take_first (v := undef) 12 rfl (by kernel_rfl) (by kernel_rfl) (by kernel_rfl) (fun _ _ _ h => h) (Or.inr ⟨by rfl, rfl⟩) (by assumption) ?_
      (try simp only [Act.put, List.setIfInBounds_toArray, List.set_cons_zero, List.set_cons_succ])
      refine take_first (v := undef) 13 rfl (by kernel_rfl) (by kernel_rfl) (by kernel_rfl) (fun _ _ _ h => h) (Or.inr ⟨by rfl, rfl⟩) (by assumption) ?_
      (try simp only [Act.put, List.setIfInBounds_toArray, List.set_cons_zero, List.set_cons_succ])
      refine take_first (v := undef) 14 rfl (by kernel_rfl) (by kernel_rfl) (by kernel_rfl) (fun _ _ _ h => h) (Or.inr ⟨by rfl, rfl⟩) (by assumption) ?_
      (try simp only [Act.put, List.setIfInBounds_toArray, List.set_cons_zero, List.set_cons_succ])
      refine take_first (v := undef) 15 rfl (by kernel_rfl) (by kernel_rfl) (by kernel_rfl) (fun _ _ _ h => h) (Or.inr ⟨by rfl, rfl⟩) (by assumption) ?_
      (try simp only [Act.put, List.setIfInBounds_toArray, List.set_cons_zero, List.set_cons_succ])
      refine take_first (v := ?_) 16 rfl (by kernel_rfl) (by kernel_rfl) (by kernel_rfl) (fun _ _ _ h => h) (Or.inl ⟨by rfl, ?_⟩) (by assumption) ?_
      rotate_left
      · (intro w hSw; (try dsimp only at hSw); go_simp; try with_reducible rfl)
      (try simp only [Act.put, List.setIfInBounds_toArray, List.set_cons_zero, List.set_cons_succ])
      refine wpAnyH_done (by kernel_rfl) ?_ _
      clear hHeld
      go_wp2
      go_ret
      exact ⟨by rw [HR.out]; rfl, HM.out.bel⟩
    have HD0 := Lib.hid (show decide (bits < 0) = false by simp; omega)
    obtain ⟨wd, hwd⟩ : ∃ q, widthM a = q := ⟨_, rfl⟩
    have hwd2 := HWD.out
    simp only [hwd] at hwd2
    replace HWD := Lib.hid hwd2
    clear hwd2
    by_cases h1 : (wd : Int) < bits
    · have HR := Lib.hid (show validM a bits = false from by rw [validM, hsd, hwd, decide_eq_true (by omega), decide_eq_false (by omega)]; rfl)
      have HD1 := Lib.hid (show decide (bits > (wd : Int)) = true by simp; omega)
      refine wp_region_held_drew (S := fun W' => Mem w [blkE w.heap.size 60 (prefC a bits)] W') (by kernel_rfl) ((HM.out).drew) (fun hHeld => ?_)
      replace HM := Lib.hid HM.out.drew
      generalize w1.drew = wd1 at HM hHeld ⊢
      refine take_first (v := ?_) 0 rfl (by kernel_rfl) (by kernel_rfl) (by kernel_rfl) (fun _ _ _ h => h) (Or.inl ⟨by rfl, ?_⟩) (by assumption) ?_
      rotate_left
      · (intro w hSw; (try dsimp only at hSw); go_simp; try with_reducible rfl)
      (try simp only [Act.put, List.setIfInBounds_toArray, List.set_cons_zero, List.set_cons_succ])
      refine take_first (v := .agg ca) 1 rfl (by kernel_rfl) (by kernel_rfl) (by kernel_rfl) (fun _ _ _ h => h) (by rw [← HCA.out]; exact yields_load_obj (by rfl) 53 (.tmp 4) rfl w.heap.size 0 rfl a.cells (fun w' hb => by have h := (Mem.blk hb 0 rfl).sub 0 17; rw [prefC_addr a HO.out bits] at h; exact h) _ Tryz.underlying53 rfl (addr_cellsOf _ HO.out)) (by assumption) ?_
      (try simp only [Act.put, List.setIfInBounds_toArray, List.set_cons_zero, List.set_cons_succ])
      refine step_one 2 rfl (by kernel_rfl) (fun K hK => ?_)
      clear hHeld
      go_simp
      refine (HSN.out _).mono ?_
      rintro e wy2 ⟨rfl, hb⟩
      replace HM := Lib.hid (show Mem w [blkE w.heap.size 60 (prefC a bits)] wy2 from HM.out.below hb)
      clear hb
      go_wp2_with fail
      refine hK.out _ _ (HM.out) (fun hHeld => ?_)
      clear hK K
      (try simp only [Act.put, List.setIfInBounds_toArray, List.set_cons_zero, List.set_cons_succ])
      refine take_first (v := ?_) 3 rfl (by kernel_rfl) (by kernel_rfl) (by kernel_rfl) (fun _ _ _ h => h) (Or.inl ⟨by rfl, ?_⟩) (by assumption) ?_
      rotate_left
      · (intro w hSw; (try dsimp only at hSw); go_simp; try with_reducible rfl)
      (try simp only [Act.put, List.setIfInBounds_toArray, List.set_cons_zero, List.set_cons_succ])
      refine take_first (v := ?_) 4 rfl (by kernel_rfl) (by kernel_rfl) (by kernel_rfl) (fun _ _ _ h => h) (Or.inl ⟨by rfl, ?_⟩) (by assumption) ?_
      rotate_left
      · (intro w hSw; (try dsimp only at hSw); go_simp; try with_reducible rfl)
      (try simp only [Act.put, List.setIfInBounds_toArray, List.set_cons_zero, List.set_cons_succ])
      refine take_first (v := ?_) 5 rfl (by kernel_rfl) (by kernel_rfl) (by kernel_rfl) (fun _ _ _ h => h) (Or.inl ⟨by rfl, ?_⟩) (by assumption) ?_
      rotate_left
      · (intro w hSw; (try dsimp only at hSw); go_simp; try with_reducible rfl)
      (try simp only [Act.put, List.setIfInBounds_toArray, List.set_cons_zero, List.set_cons_succ])
      refine take_first (v := ?_) 6 rfl (by kernel_rfl) (by kernel_rfl) (by kernel_rfl) (fun _ _ _ h => h) (Or.inl ⟨by rfl, ?_⟩) (by assumption) ?_
      rotate_left
      · (intro w hSw; (try dsimp only at hSw); have fb := (Mem.blk hSw 0 rfl).cell 17; rw [prefC_bits a HO.out bits] at fb; go_simp; try with_reducible rfl)
      (try simp only [Act.put, List.setIfInBounds_toArray, List.set_cons_zero, List.set_cons_succ])
      refine take_first (v := ?_) 7 rfl (by kernel_rfl) (by kernel_rfl) (by kernel_rfl) (fun _ _ _ h => h) (Or.inl ⟨by rfl, ?_⟩) (by assumption) ?_
      rotate_left
      · (intro w hSw; (try dsimp only at hSw); have d0 := HD0.out; go_simp; try with_reducible rfl)
      (try simp only [Act.put, List.setIfInBounds_toArray, List.set_cons_zero, List.set_cons_succ])
      refine take_first (v := ?_) 8 rfl (by kernel_rfl) (by kernel_rfl) (by kernel_rfl) (fun _ _ _ h => h) (Or.inl ⟨by rfl, ?_⟩) (by assumption) ?_
      rotate_left
      · (intro w hSw; (try dsimp only at hSw); go_simp; try with_reducible rfl)
      (try simp only [Act.put, List.setIfInBounds_toArray, List.set_cons_zero, List.set_cons_succ])
      refine take_first (v := ?_) 9 rfl (by kernel_rfl) (by kernel_rfl) (by kernel_rfl) (fun _ _ _ h => h) (Or.inl ⟨by rfl, ?_⟩) (by assumption) ?_
      rotate_left
      · (intro w hSw; (try dsimp only at hSw); go_simp; try with_reducible rfl)
      (try simp only [Act.put, List.setIfInBounds_toArray, List.set_cons_zero, List.set_cons_succ])
      refine take_first (v := ?_) 10 rfl (by kernel_rfl) (by kernel_rfl) (by kernel_rfl) (fun _ _ _ h => h) (Or.inl ⟨by rfl, ?_⟩) (by assumption) ?_
      rotate_left
      · (intro w hSw; (try dsimp only at hSw); go_simp; try with_reducible rfl)
      (try simp only [Act.put, List.setIfInBounds_toArray, List.set_cons_zero, List.set_cons_succ])
      refine take_first (v := ?_) 11 rfl (by kernel_rfl) (by kernel_rfl) (by kernel_rfl) (fun _ _ _ h => h) (Or.inl ⟨by rfl, ?_⟩) (by assumption) ?_
      rotate_left
      · (intro w hSw; (try dsimp only at hSw); have fb := (Mem.blk hSw 0 rfl).cell 17; rw [prefC_bits a HO.out bits] at fb; go_simp; try with_reducible rfl)
      (try simp only [Act.put, List.setIfInBounds_toArray, List.set_cons_zero, List.set_cons_succ])
      refine take_first (v := ?_) 12 rfl (by kernel_rfl) (by kernel_rfl) (by kernel_rfl) (fun _ _ _ h => h) (Or.inl ⟨by rfl, ?_⟩) (by assumption) ?_
      rotate_left
      · (intro w hSw; (try dsimp only at hSw); go_simp; try with_reducible rfl)
      (try simp only [Act.put, List.setIfInBounds_toArray, List.set_cons_zero, List.set_cons_succ])
      refine take_first (v := .agg ca) 13 rfl (by kernel_rfl) (by kernel_rfl) (by kernel_rfl) (fun _ _ _ h => h) (by rw [← HCA.out]; exact yields_load_obj (by rfl) 53 (.tmp 16) rfl w.heap.size 0 rfl a.cells (fun w' hb => by have h := (Mem.blk hb 0 rfl).sub 0 17; rw [prefC_addr a HO.out bits] at h; exact h) _ Tryz.underlying53 rfl (addr_cellsOf _ HO.out)) (by assumption) ?_
      (try simp only [Act.put, List.setIfInBounds_toArray, List.set_cons_zero, List.set_cons_succ])
      refine step_one 14 rfl (by kernel_rfl) (fun K hK => ?_)
      clear hHeld
      go_simp
      refine (HWD.out _).mono ?_
      rintro e wy3 ⟨rfl, hb⟩
      replace HM := Lib.hid (show Mem w [blkE w.heap.size 60 (prefC a bits)] wy3 from HM.out.below hb)
      clear hb
      go_wp2_with fail
      refine hK.out _ _ (HM.out) (fun hHeld => ?_)
      clear hK K
      (try simp only [Act.put, List.setIfInBounds_toArray, List.set_cons_zero, List.set_cons_succ])
      refine take_first (v := ?_) 15 rfl (by kernel_rfl) (by kernel_rfl) (by kernel_rfl) (fun _ _ _ h => h) (Or.inl ⟨by rfl, ?_⟩) (by assumption) ?_
      rotate_left
      · (intro w hSw; (try dsimp only at hSw); have d1 := HD1.out; go_simp; try with_reducible rfl)
      (try simp only [Act.put, List.setIfInBounds_toArray, List.set_cons_zero, List.set_cons_succ])
      refine take_first (v := ?_) 16 rfl (by kernel_rfl) (by kernel_rfl) (by kernel_rfl) (fun _ _ _ h => h) (Or.inl ⟨by rfl, ?_⟩) (by assumption) ?_
      rotate_left
      · (intro w hSw; (try dsimp only at hSw); go_simp; try with_reducible rfl)
      (try simp only [Act.put, List.setIfInBounds_toArray, List.set_cons_zero, List.set_cons_succ])
      refine wpAnyH_done (by kernel_rfl) ?_ _
      clear hHeld
      go_wp2
      go_ret
      exact ⟨by rw [HR.out]; rfl, HM.out.bel⟩
    have HD1 := Lib.hid (show decide (bits > (wd : Int)) = false by simp; omega)
    have HV := Lib.hid (validM_iff a bits hsd (by omega) (by rw [hwd]; omega))
    have hb128 : bits ≤ 128 := by omega
    refine wp_region_held_drew (S := fun W' => Mem w [blkE w.heap.size 60 (prefC a bits)] W') (by kernel_rfl) ((HM.out).drew) (fun hHeld => ?_)
    replace HM := Lib.hid HM.out.drew
    generalize w1.drew = wd1 at HM hHeld ⊢
    refine take_first (v := ?_) 0 rfl (by kernel_rfl) (by kernel_rfl) (by kernel_rfl) (fun _ _ _ h => h) (Or.inl ⟨by rfl, ?_⟩) (by assumption) ?_
    rotate_left
    · (intro w hSw; (try dsimp only at hSw); go_simp; try with_reducible rfl)
    (try simp only [Act.put, List.setIfInBounds_toArray, List.set_cons_zero, List.set_cons_succ])
    refine take_first (v := .agg ca) 1 rfl (by kernel_rfl) (by kernel_rfl) (by kernel_rfl) (fun _ _ _ h => h) (by rw [← HCA.out]; exact yields_load_obj (by rfl) 53 (.tmp 4) rfl w.heap.size 0 rfl a.cells (fun w' hb => by have h := (Mem.blk hb 0 rfl).sub 0 17; rw [prefC_addr a HO.out bits] at h; exact h) _ Tryz.underlying53 rfl (addr_cellsOf _ HO.out)) (by assumption) ?_
    (try simp only [Act.put, List.setIfInBounds_toArray, List.set_cons_zero, List.set_cons_succ])
    refine step_one 2 rfl (by kernel_rfl) (fun K hK => ?_)
    clear hHeld
    go_simp
    refine (HSN.out _).mono ?_
    rintro e wy2 ⟨rfl, hb⟩
    replace HM := Lib.hid (show Mem w [blkE w.heap.size 60 (prefC a bits)] wy2 from HM.out.below hb)
    clear hb
    go_wp2_with fail
    refine hK.out _ _ (HM.out) (fun hHeld => ?_)
    clear hK K
    (try simp only [Act.put, List.setIfInBounds_toArray, List.set_cons_zero, List.set_cons_succ])
    refine take_first (v := ?_) 3 rfl (by kernel_rfl) (by kernel_rfl) (by kernel_rfl) (fun _ _ _ h => h) (Or.inl ⟨by rfl, ?_⟩) (by assumption) ?_
    rotate_left
    · (intro w hSw; (try dsimp only at hSw); go_simp; try with_reducible rfl)
    (try simp only [Act.put, List.setIfInBounds_toArray, List.set_cons_zero, List.set_cons_succ])
    refine take_first (v := ?_) 4 rfl (by kernel_rfl) (by kernel_rfl) (by kernel_rfl) (fun _ _ _ h => h) (Or.inl ⟨by rfl, ?_⟩) (by assumption) ?_
    rotate_left
    · (intro w hSw; (try dsimp only at hSw); go_simp; try with_reducible rfl)
    (try simp only [Act.put, List.setIfInBounds_toArray, List.set_cons_zero, List.set_cons_succ])
    refine take_first (v := ?_) 5 rfl (by kernel_rfl) (by kernel_rfl) (by kernel_rfl) (fun _ _ _ h => h) (Or.inl ⟨by rfl, ?_⟩) (by assumption) ?_
    rotate_left
    · (intro w hSw; (try dsimp only at hSw); go_simp; try with_reducible rfl)
    (try simp only [Act.put, List.setIfInBounds_toArray, List.set_cons_zero, List.set_cons_succ])
    refine take_first (v := ?_) 6 rfl (by kernel_rfl) (by kernel_rfl) (by kernel_rfl) (fun _ _ _ h => h) (Or.inl ⟨by rfl, ?_⟩) (by assumption) ?_
    rotate_left
    · (intro w hSw; (try dsimp only at hSw); have fb := (Mem.blk hSw 0 rfl).cell 17; rw [prefC_bits a HO.out bits] at fb; go_simp; try with_reducible rfl)
    (try simp only [Act.put, List.setIfInBounds_toArray, List.set_cons_zero, List.set_cons_succ])
    refine take_first (v := ?_) 7 rfl (by kernel_rfl) (by kernel_rfl) (by kernel_rfl) (fun _ _ _ h => h) (Or.inl ⟨by rfl, ?_⟩) (by assumption) ?_
    rotate_left
    · (intro w hSw; (try dsimp only at hSw); have d0 := HD0.out; go_simp; try with_reducible rfl)
    (try simp only [Act.put, List.setIfInBounds_toArray, List.set_cons_zero, List.set_cons_succ])
    refine take_first (v := ?_) 8 rfl (by kernel_rfl) (by kernel_rfl) (by kernel_rfl) (fun _ _ _ h => h) (Or.inl ⟨by rfl, ?_⟩) (by assumption) ?_
    rotate_left
    · (intro w hSw; (try dsimp only at hSw); go_simp; try with_reducible rfl)
    (try simp only [Act.put, List.setIfInBounds_toArray, List.set_cons_zero, List.set_cons_succ])
    refine take_first (v := ?_) 9 rfl (by kernel_rfl) (by kernel_rfl) (by kernel_rfl) (fun _ _ _ h => h) (Or.inl ⟨by rfl, ?_⟩) (by assumption) ?_
    rotate_left
    · (intro w hSw; (try dsimp only at hSw); go_simp; try with_reducible rfl)
    (try simp only [Act.put, List.setIfInBounds_toArray, List.set_cons_zero, List.set_cons_succ])
    refine take_first (v := ?_) 10 rfl (by kernel_rfl) (by kernel_rfl) (by kernel_rfl) (fun _ _ _ h => h) (Or.inl ⟨by rfl, ?_⟩) (by assumption) ?_
    rotate_left
    · (intro w hSw; (try dsimp only at hSw); go_simp; try with_reducible rfl)
    (try simp only [Act.put, List.setIfInBounds_toArray, List.set_cons_zero, List.set_cons_succ])
    refine take_first (v := ?_) 11 rfl (by kernel_rfl) (by kernel_rfl) (by kernel_rfl) (fun _ _ _ h => h) (Or.inl ⟨by rfl, ?_⟩) (by assumption) ?_
    rotate_left
    · (intro w hSw; (try dsimp only at hSw); have fb := (Mem.blk hSw 0 rfl).cell 17; rw [prefC_bits a HO.out bits] at fb; go_simp; try with_reducible rfl)
    (try simp only [Act.put, List.setIfInBounds_toArray, List.set_cons_zero, List.set_cons_succ])
    refine take_first (v := ?_) 12 rfl (by kernel_rfl) (by kernel_rfl) (by kernel_rfl) (fun _ _ _ h => h) (Or.inl ⟨by rfl, ?_⟩) (by assumption) ?_
    rotate_left
    · (intro w hSw; (try dsimp only at hSw); go_simp; try with_reducible rfl)
    (try simp only [Act.put, List.setIfInBounds_toArray, List.set_cons_zero, List.set_cons_succ])
    refine take_first (v := .agg ca) 13 rfl (by kernel_rfl) (by kernel_rfl) (by kernel_rfl) (fun _ _ _ h => h) (by rw [← HCA.out]; exact yields_load_obj (by rfl) 53 (.tmp 16) rfl w.heap.size 0 rfl a.cells (fun w' hb => by have h := (Mem.blk hb 0 rfl).sub 0 17; rw [prefC_addr a HO.out bits] at h; exact h) _ Tryz.underlying53 rfl (addr_cellsOf _ HO.out)) (by assumption) ?_
    (try simp only [Act.put, List.setIfInBounds_toArray, List.set_cons_zero, List.set_cons_succ])
    refine step_one 14 rfl (by kernel_rfl) (fun K hK => ?_)
    clear hHeld
    go_simp
    refine (HWD.out _).mono ?_
    rintro e wy3 ⟨rfl, hb⟩
    replace HM := Lib.hid (show Mem w [blkE w.heap.size 60 (prefC a bits)] wy3 from HM.out.below hb)
    clear hb
    go_wp2_with fail
    refine hK.out _ _ (HM.out) (fun hHeld => ?_)
    clear hK K
    (try simp only [Act.put, List.setIfInBounds_toArray, List.set_cons_zero, List.set_cons_succ])
    refine take_first (v := ?_) 15 rfl (by kernel_rfl) (by kernel_rfl) (by kernel_rfl) (fun _ _ _ h => h) (Or.inl ⟨by rfl, ?_⟩) (by assumption) ?_
    rotate_left
    · (intro w hSw; (try dsimp only at hSw); have d1 := HD1.out; go_simp; try with_reducible rfl)
    (try simp only [Act.put, List.setIfInBounds_toArray, List.set_cons_zero, List.set_cons_succ])
    refine take_first (v := ?_) 16 rfl (by kernel_rfl) (by kernel_rfl) (by kernel_rfl) (fun _ _ _ h => h) (Or.inl ⟨by rfl, ?_⟩) (by assumption) ?_
    rotate_left
    · (intro w hSw; (try dsimp only at hSw); go_simp; try with_reducible rfl)
    (try simp only [Act.put, List.setIfInBounds_toArray, List.set_cons_zero, List.set_cons_succ])
    refine wpAnyH_done (by kernel_rfl) ?_ _
    clear hHeld
    revert wy3
    intro w2 HM
    obtain ⟨b, rfl⟩ : ∃ b : Nat, bits = (b : Int) := ⟨bits.toNat, by omega⟩
    have fb := (HM.out.blk 0 rfl).cell 17
    rw [prefC_bits a HO.out (b : Int)] at fb
    go_upto_region 4 with fail
    clear fb
    go_loopw [3] (fun z wr => ∃ k : Nat, b ≤ k ∧ k ≤ 128 ∧ z = .int .i64 (k : Int) ∧ (∀ i, b ≤ i → i < k → bitM a.ip i = 0) ∧ Mem w [blkE w.heap.size 60 (prefC a (b : Int))] wr) (fun z _ => 128 - (intOf z).toNat)
    case atStart => exact ⟨b, by omega, by omega, rfl, fun i h1 h2 => absurd h1 (by omega), HM.out⟩
    case round =>
      clear HM
      obtain ⟨k, hbk, hk, rfl, hz, hM⟩ := hrel
      have HM := Lib.hid hM
      have HZ := Lib.hid hz
      clear hM hz
      by_cases hlt : k < 128
      · have dl : decide ((k : Int) < 128) = true := by simp; omega
        have HK := Lib.hid (HBT.out k hlt)
        obtain ⟨q, hq⟩ : ∃ q, bitM a.ip k = q := ⟨_, rfl⟩
        have hk2 := HK.out
        simp only [hq] at hk2
        replace HK := Lib.hid hk2
        clear hk2
        go_wp2_with (refine wpList_load_obj rfl 53 (.tmp 27) rfl w.heap.size 0 rfl a.cells (by have h := (Mem.blk HM.out 0 rfl).sub 0 17; rw [prefC_addr a HO.out (b : Int)] at h; exact h) _ Tryz.underlying53 rfl (addr_cellsOf _ HO.out) ?_; rw [HCA.out])
        refine (HK.out _).mono ?_
        rintro e w3 ⟨rfl, hb⟩
        replace HM := Lib.hid (HM.out.below hb)
        clear hb
        by_cases hq0 : q = 0
        · have hne : ((q : Int) != 0) = false := by subst hq0; rfl
          have HQ := Lib.hid (show bitM a.ip k = 0 by rw [hq, hq0])
          clear hq hq0
          go_wp2
          go_roundw
          case rel => exact ⟨k + 1, by omega, by omega, by go_num, (fun i h1 h2 => by
            by_cases e : i = k
            · subst e; exact HQ.out
            · exact HZ.out i h1 (by omega)), HM.out⟩
          case measure => simp [intOf]; omega
        · have hne : ((q : Int) != 0) = true := by simp; omega
          have HR := Lib.hid (show validM a (b : Int) = false from by
            rw [Bool.eq_false_iff]
            intro hv
            have := HV.out.1 hv k (by omega) hlt
            omega)
          clear hq hq0
          go_wp2
          go_ret
          exact ⟨by rw [HR.out]; rfl, HM.out.bel⟩
      · obtain rfl : k = 128 := by omega
        have HR := Lib.hid (show validM a (b : Int) = true from HV.out.2 (fun (i : Nat) h1 h2 => HZ.out i (by omega) h2))
        (try rw [show ((128 : Nat) : Int) = 128 from rfl])
        go_wp2
        go_ret
        exact ⟨by rw [HR.out]; rfl, HM.out.bel⟩
theorem validM_bits (a : AddrM) (bits : Int) (h : validM a bits = true) : 0 ≤ bits ∧ bits ≤ 128 := by
  rw [validM, Bool.and_eq_true, Bool.and_eq_true, Bool.and_eq_true, decide_eq_true_iff, decide_eq_true_iff] at h
  have := widthM_le a
  omega
theorem pref_cellsOf (a : AddrM) (h : a.ok) (bits : Int) : (Tryz.prog.info? 60).map (·.size) = some (prefC a bits).length := by
  rw [prefC_length a h]; kernel_rfl
end Go.Proofs.YtcbfchkhbngpkaaGreatDoor
namespace Go.Proofs.YtcbfchkhbngpkaaGreatDoor
open Go.RowKit Go.ChangeShapes Go.WideShapes Go.ChangeAt

end Go.Proofs.YtcbfchkhbngpkaaGreatDoor
namespace Go.Proofs.YtcbfchkhbngpkaaGreatDoor
open Go.RowKit

def inI64 (x : Int) : Prop := -9223372036854775808 ≤ x ∧ x ≤ 9223372036854775807
end Go.Proofs.YtcbfchkhbngpkaaGreatDoor
namespace Go.Proofs.YtcbfchkhbngpkaaGreatDoor
open Go.RowKit Go.ChangeShapes Go.WideShapes Go.ChangeAt

set_option maxRecDepth 100000 in
theorem pref_cells_of {H : Type} {enc : TypeId × Value → H} {W : World} {fuel : Nat} {cs : List Value} {x : DataW H × List MemPlace} (h : DataW.trod enc Tryz.prog W 0 (fun _ => true) true fuel 60 cs = some x) : ∃ (a : AddrM) (bits : Int), cs = prefC a bits ∧ a.ok ∧ inI64 bits := by
  obtain ⟨hl, hfl⟩ := field_cells Tryz.underlying60 h
  obtain ⟨n0, y0, h0⟩ := hfl 0 53 0 17 rfl (by kernel_rfl)
  obtain ⟨n1, y1, h1⟩ := hfl 1 3 17 1 rfl (by kernel_rfl)
  obtain ⟨a, ha, hok⟩ := addr_cells_of h0
  obtain ⟨bits, hb, hb1, hb2⟩ := i64_cells Tryz.underlying3 h1
  have e2 : Tryz.prog.cellsOf 60 = 18 := by kernel_rfl
  rw [e2] at hl
  refine ⟨a, bits, ?_, hok, hb1, hb2⟩
  rw [seg_two cs 17 1 hl, ha, hb]
  rfl
end Go.Proofs.YtcbfchkhbngpkaaGreatDoor
namespace Go.Proofs.YtcbfchkhbngpkaaGreatDoor
open Go.RowKit

end Go.Proofs.YtcbfchkhbngpkaaGreatDoor
namespace Go.Proofs.YtcbfchkhbngpkaaGreatDoor
open Go.RowKit Go.ChangeShapes Go.WideShapes Go.ChangeAt

end Go.Proofs.YtcbfchkhbngpkaaGreatDoor
namespace Go.Proofs.YtcbfchkhbngpkaaGreatDoor

/-- the value of a hexadecimal digit; 16 if it is none -/
def hexVal (c : UInt8) : Nat := if 48 ≤ c.toNat ∧ c.toNat ≤ 57 then c.toNat - 48 else if 97 ≤ c.toNat ∧ c.toNat ≤ 102 then c.toNat - 87 else if 65 ≤ c.toNat ∧ c.toNat ≤ 70 then c.toNat - 55 else 16
def hexOk (c : UInt8) : Bool := decide (hexVal c < 16)
def hexV (c : UInt8) : Nat := if hexVal c < 16 then hexVal c else 0
theorem hexV_lt (c : UInt8) : hexV c < 16 := by unfold hexV; split <;> omega
def pairB (s : List UInt8) (i : Nat) : UInt8 := UInt8.ofNat (hexV (s.getD (2 * i) 0) * 16 + hexV (s.getD (2 * i + 1) 0))
def pairs (s : List UInt8) (n : Nat) : List UInt8 := (List.range n).map (pairB s)
theorem pairs_length (s : List UInt8) (n : Nat) : (pairs s n).length = n := by simp [pairs]
theorem pairs_succ (s : List UInt8) (n : Nat) : pairs s (n + 1) = pairs s n ++ [pairB s n] := by simp [pairs, List.range_succ]
def parseH (s : List UInt8) : Option (List UInt8) := if s.length % 2 = 0 ∧ s.all hexOk = true then some (pairs s (s.length / 2)) else none
/-- a row of n bytes whose first j are read, the others 0 -/
def pairRow (s : List UInt8) (n j : Nat) : List UInt8 := pairs s j ++ List.replicate (n - j) 0
theorem pairRow_zero (s : List UInt8) (n : Nat) : pairRow s n 0 = List.replicate n 0 := by simp [pairRow, pairs]
theorem pairRow_end (s : List UInt8) (n : Nat) : pairRow s n n = pairs s n := by simp [pairRow]
theorem pairRow_set (s : List UInt8) (n j : Nat) (h : j < n) : (pairRow s n j).set j (pairB s j) = pairRow s n (j + 1) := by
  unfold pairRow
  rw [List.set_append_right _ _ (by rw [pairs_length]; exact Nat.le_refl _), pairs_length, Nat.sub_self, pairs_succ, show n - j = (n - (j + 1)) + 1 from by omega, List.replicate_succ, List.set_cons_zero, List.append_assoc]
  rfl
/-- the value of a character; -1 if it is none of base64 -/
def b64V (c : UInt8) : Int := Lib.indexByte b64T c
def valid (c : UInt8) : Bool := decide (0 ≤ b64V c)
def grpN (l : List UInt8) : Nat := l.foldl (fun n c => n * 64 + (b64V c).toNat) 0
def bytes3 (n : Nat) : List UInt8 := (littleL n 3).reverse
/-- lists of three, one behind the other -/
def flat3 (f : Nat → List UInt8) (m : Nat) : List UInt8 := ((List.range m).map f).flatten
def grp (D : List UInt8) (g : Nat) : List UInt8 := (D.drop (g * 4)).take 4
def fill (D : List UInt8) (m : Nat) : List UInt8 := flat3 (fun i => bytes3 (grpN (grp D i))) m
theorem six (a b c d : Nat) (hb : b < 64) (hc : c < 64) (hd : d < 64) (ha : a < 64) :
    (((a * 64 + b) * 64 + c) * 64 + d) / 2 ^ (6 * (3 - 0)) % 64 = a ∧ (((a * 64 + b) * 64 + c) * 64 + d) / 2 ^ (6 * (3 - 1)) % 64 = b ∧ (((a * 64 + b) * 64 + c) * 64 + d) / 2 ^ (6 * (3 - 2)) % 64 = c ∧ (((a * 64 + b) * 64 + c) * 64 + d) / 2 ^ (6 * (3 - 3)) % 64 = d := by
  simp only [show 6 * (3 - 0) = 18 from rfl, show 6 * (3 - 1) = 12 from rfl, show 6 * (3 - 2) = 6 from rfl, show 6 * (3 - 3) = 0 from rfl]
  omega

theorem sext_lt (K : List UInt8) (i : Nat) : sext K i < 64 := Nat.mod_lt _ (by omega)
end Go.Proofs.YtcbfchkhbngpkaaGreatDoor
namespace Go.Proofs.YtcbfchkhbngpkaaGreatDoor
open Go.RowKit

/-- a number in decimal -/
def decT (n : Nat) : List UInt8 := if n < 10 then [UInt8.ofNat (48 + n)] else decT (n / 10) ++ [UInt8.ofNat (48 + n % 10)]
termination_by n
decreasing_by omega
/-- a number in hexadecimal -/
def hexT (n : Nat) : List UInt8 := if n < 16 then [hexD n] else hexT (n / 16) ++ [hexD (n % 16)]
termination_by n
decreasing_by omega
def isDig (c : UInt8) : Bool := decide (48 ≤ c.toNat ∧ c.toNat ≤ 57)
def numV (l : List UInt8) : Nat := l.foldl (fun n c => 10 * n + (c.toNat - 48)) 0
/-- the number of a decimal text -/
def numP (l : List UInt8) (most : Nat) : Nat × Bool := if (l.length ≠ 0 ∧ l.length ≤ most ∧ ¬(1 < l.length ∧ l.getD 0 0 = 48)) ∧ l.all isDig = true then (numV l, true) else (0, false)
def hexN (l : List UInt8) : Nat := l.foldl (fun n c => 16 * n + hexVal c) 0
def hxsOk (l : List UInt8) : Bool := decide (1 ≤ l.length ∧ l.length ≤ 4) && l.all fun c => decide (hexVal c ≤ 15)
/-- a text divided at a byte -/
def splitB (c : UInt8) : List UInt8 → List (List UInt8)
  | [] => [[]]
  | x :: r => if x = c then [] :: splitB c r else match splitB c r with
    | h :: t => (x :: h) :: t
    | [] => [[x]]
def joinT (c : UInt8) : List (List UInt8) → List UInt8
  | [] => []
  | [a] => a
  | a :: b :: r => a ++ c :: joinT c (b :: r)
def fourOk (s : List UInt8) : Bool := (numP s 3).2 && decide ((numP s 3).1 ≤ 255)
/-- the address of the parts of a text -/
def fourP (ls : List (List UInt8)) : AddrM × Nat := if ls.all fourOk = true then (⟨false, (ls.map fun s => UInt8.ofNat (numP s 3).1) ++ List.replicate 12 0⟩, 0) else (addr0, 5)
def sixP (ls : List (List UInt8)) : AddrM × Nat := if ls.all hxsOk = true then (⟨true, ls.flatMap fun s => [UInt8.ofNat (hexN s / 256), UInt8.ofNat (hexN s % 256)]⟩, 0) else (addr0, 5)
/-- the address of a text, or the error -/
def addrP (l : List UInt8) : AddrM × Nat :=
  if (splitB 46 l).length = 4 then fourP (splitB 46 l) else if (splitB 58 l).length = 8 then sixP (splitB 58 l) else (addr0, 5)
def groupV (a : AddrM) (i : Nat) : Nat := 256 * (a.ip.getD (2 * i) 0).toNat + (a.ip.getD (2 * i + 1) 0).toNat
/-- the text of an address -/
def addrT (a : AddrM) : List UInt8 :=
  if soundM a = false then [] else if a.six then joinT 58 ((List.range 8).map fun i => hexT (groupV a i)) else joinT 46 ((List.range 4).map fun i => decT (a.ip.getD i 0).toNat)
/-- the text of an endpoint, of a prefix -/
def endT (a : AddrM) (port : Int) : List UInt8 :=
  if addrT a = [] ∨ port < 1 ∨ 65535 < port then [] else (if a.six then 91 :: (addrT a ++ [93]) else addrT a) ++ 58 :: decT port.toNat
def prefT (a : AddrM) (bits : Int) : List UInt8 := if validM a bits = false then [] else addrT a ++ 47 :: decT bits.toNat
/-- the prefix of a text, or the error -/
def prefP (l : List UInt8) : (AddrM × Nat) × Nat :=
  let s := splitB 47 l
  if s.length ≠ 2 then ((addr0, 0), 5) else
  let r := addrP (s.getD 0 [])
  let n := numP (s.getD 1 []) 3
  if r.2 ≠ 0 ∨ n.2 = false ∨ validM r.1 (n.1 : Int) = false then ((addr0, 0), 5) else ((r.1, n.1), 0)

/-! numbers -/
theorem ofNat_dig (d : Nat) (h : d < 10) : (UInt8.ofNat (48 + d)).toNat = 48 + d := by rw [UInt8.toNat_ofNat']; omega
theorem decT_small {n : Nat} (h : n < 10) : decT n = [UInt8.ofNat (48 + n)] := by rw [decT, if_pos h]
theorem decT_big {n : Nat} (h : ¬ n < 10) : decT n = decT (n / 10) ++ [UInt8.ofNat (48 + n % 10)] := by rw [decT, if_neg h]
theorem numV_snoc (l : List UInt8) (c : UInt8) : numV (l ++ [c]) = 10 * numV l + (c.toNat - 48) := by simp [numV, List.foldl_append]
theorem decT_len (n k : Nat) (h1 : 1 ≤ k) (h : n < 10 ^ k) : (decT n).length ≤ k := by
  induction k generalizing n with
  | zero => omega
  | succ k ih =>
    by_cases hs : n < 10
    · rw [decT_small hs]; simp
    · rw [decT_big hs, List.length_append]
      have hk : 1 ≤ k := by
        rcases Nat.eq_zero_or_pos k with rfl | hp
        · simp at h; omega
        · exact hp
      have := ih (n / 10) hk (by rw [Nat.pow_succ] at h; omega)
      simp only [List.length_cons, List.length_nil]
      omega
theorem hexT_small {n : Nat} (h : n < 16) : hexT n = [hexD n] := by rw [hexT, if_pos h]
theorem hexT_big {n : Nat} (h : ¬ n < 16) : hexT n = hexT (n / 16) ++ [hexD (n % 16)] := by rw [hexT, if_neg h]
theorem hexT_len (n k : Nat) (h1 : 1 ≤ k) (h : n < 16 ^ k) : (hexT n).length ≤ k := by
  induction k generalizing n with
  | zero => omega
  | succ k ih =>
    by_cases hs : n < 16
    · rw [hexT_small hs]; simp
    · rw [hexT_big hs, List.length_append]
      have hk : 1 ≤ k := by
        rcases Nat.eq_zero_or_pos k with rfl | hp
        · simp at h; omega
        · exact hp
      have := ih (n / 16) hk (by rw [Nat.pow_succ] at h; omega)
      simp only [List.length_cons, List.length_nil]
      omega
theorem split_ne (c : UInt8) (l : List UInt8) : splitB c l ≠ [] := by
  cases l with
  | nil => simp [splitB]
  | cons x r =>
    rw [splitB]
    split
    · simp
    · split <;> simp
theorem split_len (c : UInt8) (l : List UInt8) : (splitB c l).length ≤ l.length + 1 := by
  induction l with
  | nil => simp [splitB]
  | cons x r ih =>
    rw [splitB]
    split
    · simp only [List.length_cons]; omega
    · split
      · rename_i h t hs
        rw [hs] at ih
        simp only [List.length_cons] at ih ⊢
        omega
      · simp
theorem split_none {c : UInt8} {l : List UInt8} (h : c ∉ l) : splitB c l = [l] := by
  induction l with
  | nil => rfl
  | cons x r ih =>
    have hx : x ≠ c := fun e => h (by simp [e])
    rw [splitB, if_neg hx, ih (fun hm => h (List.mem_cons_of_mem _ hm))]
theorem split_at {c : UInt8} {a : List UInt8} (h : c ∉ a) (r : List UInt8) : splitB c (a ++ c :: r) = a :: splitB c r := by
  induction a with
  | nil => rw [List.nil_append, splitB, if_pos rfl]
  | cons x a ih =>
    have hx : x ≠ c := fun e => h (by simp [e])
    rw [List.cons_append, splitB, if_neg hx, ih (fun hm => h (List.mem_cons_of_mem _ hm))]
end Go.Proofs.YtcbfchkhbngpkaaGreatDoor
namespace Go.Proofs.YtcbfchkhbngpkaaGreatDoor
open Go.RowKit

theorem snoc_ind {α : Type} {p : List α → Prop} (h0 : p []) (h1 : ∀ l x, p l → p (l ++ [x])) (l : List α) : p l := by
  have h : ∀ m : List α, p m.reverse := fun m => by
    induction m with
    | nil => exact h0
    | cons x r ih => rw [List.reverse_cons]; exact h1 _ _ ih
  have h2 := h l.reverse
  rwa [List.reverse_reverse] at h2
theorem group_lt (a : AddrM) (i : Nat) : groupV a i < 65536 := by
  have h1 := (a.ip.getD (2 * i) 0).toNat_lt
  have h2 := (a.ip.getD (2 * i + 1) 0).toNat_lt
  unfold groupV
  omega
theorem range8 : List.range 8 = [0, 1, 2, 3, 4, 5, 6, 7] := rfl
theorem range4 : List.range 4 = [0, 1, 2, 3] := rfl
theorem join_ne {c : UInt8} {a b : List UInt8} {r : List (List UInt8)} : joinT c (a :: b :: r) ≠ [] := by
  rw [joinT]; simp
theorem addrT_ne {a : AddrM} (hs : soundM a = true) : addrT a ≠ [] := by
  rw [addrT, if_neg (by rw [hs]; decide)]
  split
  · rw [range8]; exact join_ne
  · rw [range4]; exact join_ne
end Go.Proofs.YtcbfchkhbngpkaaGreatDoor
namespace Go.Proofs.YtcbfchkhbngpkaaGreatDoor
open Go.RowKit

instance : DecidableEq AddrM := fun a b =>
  if h : a.six = b.six ∧ a.ip = b.ip then .isTrue (by cases a; cases b; simp_all) else .isFalse (fun e => h ⟨by rw [e], by rw [e]⟩)
end Go.Proofs.YtcbfchkhbngpkaaGreatDoor
namespace Go.Proofs.YtcbfchkhbngpkaaGreatDoor
open Go.RowKit

/-- a route: the address and the bits of its prefix, and its peer -/
structure RouteM where
  a : AddrM
  bits : Int
  peer : List UInt8
def RouteM.ok (r : RouteM) : Prop := r.a.ok ∧ r.peer.length = 32 ∧ inI64 r.bits
def RouteM.cells (r : RouteM) : List Value := prefC r.a r.bits ++ r.peer.map u8v
theorem RouteM.cells_length {r : RouteM} (h : r.ok) : r.cells.length = 50 := by
  rw [RouteM.cells, List.length_append, prefC_length r.a h.1, List.length_map, h.2.1]
def RouteM.is (a : AddrM) (b : Int) (r : RouteM) : Bool := decide (r.a = a ∧ r.bits = b)
end Go.Proofs.YtcbfchkhbngpkaaGreatDoor
namespace Go.Proofs.YtcbfchkhbngpkaaGreatDoor
open Go.RowKit

structure PeerM where
  pub : List UInt8
  sha : List UInt8
  hasE : Bool
  ea : AddrM
  ep : Int
  keep : Int
  al : List (AddrM × Int)
structure ConfM where
  priv : List UInt8
  port : Int
  peers : List PeerM
def peer0 : PeerM := ⟨List.replicate 32 0, List.replicate 32 0, false, addr0, 0, 0, []⟩
def tIface : List UInt8 := [91, 73, 110, 116, 101, 114, 102, 97, 99, 101, 93]
def tPeer : List UInt8 := [91, 80, 101, 101, 114, 93]
def tPriv : List UInt8 := [80, 114, 105, 118, 97, 116, 101, 75, 101, 121]
def tPort : List UInt8 := [76, 105, 115, 116, 101, 110, 80, 111, 114, 116]
def tPub : List UInt8 := [80, 117, 98, 108, 105, 99, 75, 101, 121]
def tSha : List UInt8 := [80, 114, 101, 115, 104, 97, 114, 101, 100, 75, 101, 121]
def tEnd : List UInt8 := [69, 110, 100, 112, 111, 105, 110, 116]
def tKeep : List UInt8 := [80, 101, 114, 115, 105, 115, 116, 101, 110, 116, 75, 101, 101, 112, 97, 108, 105, 118, 101]
def tAll : List UInt8 := [65, 108, 108, 111, 119, 101, 100, 73, 80, 115]
/-- what has been read: the configuration, and the names of the last section -/
structure PsM where
  conf : ConfM
  seen : Option (List (List UInt8))
def PeerM.ok (p : PeerM) : Prop := p.pub.length = 32 ∧ p.sha.length = 32 ∧ p.ea.ok ∧ inI64 p.ep ∧ inI64 p.keep ∧ ∀ q ∈ p.al, q.1.ok ∧ inI64 q.2
def ConfM.ok (c : ConfM) : Prop := c.priv.length = 32 ∧ inI64 c.port ∧ ∀ p ∈ c.peers, p.ok
theorem peer0_ok : peer0.ok := ⟨by simp [peer0], by simp [peer0], addr0_ok, ⟨by decide, by decide⟩, ⟨by decide, by decide⟩, by simp [peer0]⟩
def PeerM.cells (p : PeerM) (v : Value) : List Value := p.pub.map u8v ++ (p.sha.map u8v ++ (.bool p.hasE :: (prefC p.ea p.ep ++ [.int .i64 p.keep, v])))
def ConfM.cells (c : ConfM) (v : Value) : List Value := c.priv.map u8v ++ [.int .i64 c.port, v]
theorem PeerM.cells_length {p : PeerM} (h : p.ok) (v : Value) : (p.cells v).length = 85 := by
  simp only [PeerM.cells, List.length_append, List.length_map, List.length_cons, List.length_nil, prefC_length p.ea h.2.2.1, h.1, h.2.1]
theorem ConfM.cells_length {c : ConfM} (h : c.ok) (v : Value) : (c.cells v).length = 34 := by
  simp only [ConfM.cells, List.length_append, List.length_map, List.length_cons, List.length_nil, h.1]
/-! ### what Validate asks -/
def allP (c : ConfM) : List (AddrM × Int) := c.peers.flatMap fun p => p.al
def rightE (p : PeerM) : Bool := if p.hasE then !(endT p.ea p.ep).isEmpty else decide (p.ea = addr0 ∧ p.ep = 0)
def rightK (n : Int) : Bool := n == 0 || (decide (1000 ≤ n) && decide (n ≤ 1073741824))
def rightP (p : PeerM) : Bool := rightE p && rightK p.keep && p.al.all fun q => validM q.1 q.2
def hasN {α : Type} (eq : α → α → Bool) (l : List α) (x : α) (n : Nat) : Bool := (List.range n).any fun i => l[i]?.any fun z => eq x z
/-- an element is equal to one ahead of it -/
def repM {α : Type} (eq : α → α → Bool) (l : List α) : Bool := (List.range l.length).any fun i => l[i]?.any fun x => hasN eq (l.take i) x i
def eqK (a b : List UInt8) : Bool := decide (a = b)
def eqP (a b : AddrM × Int) : Bool := decide (a.1 = b.1 ∧ a.2 = b.2)
def validE (c : ConfM) : Nat :=
  if 8 < c.peers.length ∨ 16 < (allP c).length then 12
  else if c.port < 0 ∨ 65535 < c.port ∨ c.peers.all rightP = false then 1
  else if repM eqK (c.peers.map PeerM.pub) = true ∨ repM eqP (allP c) = true then 19
  else 0
end Go.Proofs.YtcbfchkhbngpkaaGreatDoor
namespace Go.Proofs.YtcbfchkhbngpkaaGreatDoor
open Go.RowKit Go.Maps

/-- what the map reads as -/
def namesV (S : List (List UInt8)) : DataW Unit := S.foldr (fun (c : List UInt8) (D : DataW Unit) => DataW.put D (.string c) (.lit (.bool true))) (.map [])
/-- block b is the map of the texts of S -/
def NamesAt (P : Program) (k e : TypeId) (W : World) (b n : Nat) (S : List (List UInt8)) : Prop := W.ownsMap P k (plainElem P e) b n (namesV S)
theorem NamesAt.lt {P : Program} {k e : TypeId} {W : World} {b n : Nat} {S : List (List UInt8)} (h : NamesAt P k e W b n S) : b < W.heap.size := World.ownsMap.lt h
theorem NamesAt.kept {P : Program} {k e : TypeId} {W W' : World} {b n : Nat} {S : List (List UInt8)} (h : NamesAt P k e W b n S) (hb : W'.heap[b]? = W.heap[b]?) : NamesAt P k e W' b n S := by
  obtain ⟨es, clock, h1, h2⟩ := h
  exact ⟨es, clock, hb.trans h1, h2⟩
end Go.Proofs.YtcbfchkhbngpkaaGreatDoor
namespace Go.Proofs.YtcbfchkhbngpkaaGreatDoor
open Go.RowKit

theorem At.mono {w W : World} {b off B : Nat} {cs : List Value} (h : At w b off cs) (hb : Below B w W) (hlt : b < B) : At W b off cs := fun j v hv => (World.cell?_of_block (hb.block b hlt)).trans (h j v hv)
end Go.Proofs.YtcbfchkhbngpkaaGreatDoor
namespace Go.Proofs.YtcbfchkhbngpkaaGreatDoor
open Go.RowKit

def pfsV (l : List (AddrM × Int)) : List (List Value) := l.map fun p => prefC p.1 p.2
def okP (p : AddrM × Int) : Prop := p.1.ok ∧ inI64 p.2
def PfRd (W : World) (B : Nat) (A : Option Addr) (n : Nat) (l : List (AddrM × Int)) : Prop := RdRow W B A 18 n (pfsV l) ∧ ∀ p ∈ l, okP p
theorem PfRd.len {W : World} {B n : Nat} {A : Option Addr} {l : List (AddrM × Int)} (h : PfRd W B A n l) : l.length = n := by
  have := h.1.1
  simpa [pfsV] using this
theorem PfRd.below {w W : World} {B n : Nat} {A : Option Addr} {l : List (AddrM × Int)} (h : PfRd w B A n l) (hb : Below B w W) : PfRd W B A n l := ⟨h.1.below hb, h.2⟩
theorem PfRd.mono {W : World} {B C n : Nat} {A : Option Addr} {l : List (AddrM × Int)} (h : PfRd W B A n l) (hc : B ≤ C) : PfRd W C A n l := ⟨h.1.mono hc, h.2⟩
theorem PfRd.nil {W : World} {B : Nat} {A : Option Addr} : PfRd W B A 0 [] := ⟨RdRow.nil, by simp⟩
theorem PfRd.at {W : World} {B n b off : Nat} {l : List (AddrM × Int)} (h : PfRd W B (some ⟨b, off, none⟩) n l) (i : Nat) (p : AddrM × Int) (hi : l[i]? = some p) : b < B ∧ At W b (off + i * 18) (prefC p.1 p.2) :=
  h.1.at i (prefC p.1 p.2) (by rw [pfsV, List.getElem?_map, hi]; rfl)
theorem PfRd.ok {W : World} {B n : Nat} {A : Option Addr} {l : List (AddrM × Int)} (h : PfRd W B A n l) {i : Nat} {p : AddrM × Int} (hi : l[i]? = some p) : okP p := h.2 p (List.mem_of_getElem? hi)
theorem PfRd.of_own {W : World} {B n c : Nat} {e : TypeId} {A : Option Addr} {l : List (AddrM × Int)} (hn : l.length = n) (hk : ∀ p ∈ l, okP p) (h : W.ownsRow B e 18 (.slice A n c) n (pfsV l).flatten) : PfRd W W.heap.size A n l :=
  ⟨RdRow.of_own (by simpa [pfsV] using hn) (fun o ho => by
    obtain ⟨p, hp, rfl⟩ := List.mem_map.1 ho
    exact prefC_length p.1 (hk p hp).1 p.2) h, hk⟩
theorem pref_cellsOf' (a : AddrM) (h : a.ok) (i : Int) : (Tryz.prog.info? 60).map (·.size) = some (prefC a i).length := by
  rw [prefC_length a h]; kernel_rfl
end Go.Proofs.YtcbfchkhbngpkaaGreatDoor
namespace Go.Proofs.YtcbfchkhbngpkaaGreatDoor
open Go.RowKit

theorem fill_one (n : Nat) (base a : Array Value) (hb : base.size = n) (ha : a.size = n) :
    Instr.fill (fun i => some (i * n, n)) base [(0, .agg a)] = some a := by
  have hA : (a.zipIdx.foldl (fun cs (x : Value × Nat) => cs.setIfInBounds (0 * n + x.2) x.1) base).toList = base.toList.take (0 * n) ++ a.toList ++ base.toList.drop (0 * n + a.size) := by
    have := foldl_set_list (0 * n) a.toList 0 base (by simp; omega)
    rw [← Array.foldl_toList]
    simpa using this
  refine (if_neg (two_tests (fun hne => hne ha) (fun hlt : 0 * n + a.size > base.size => by omega))).trans ?_
  refine congrArg some (Array.ext' (hA.trans ?_))
  have e0 : List.drop (0 * n + a.size) base.toList = [] := List.drop_eq_nil_of_le (by simp; omega)
  rw [e0]
  simp
theorem step_buildOne {P : Program} {w : World} {ops : Array Oper} {o : Oper} {act : Act} {K : Act → World → Prop} {Q : Exit → Act → World → Prop} {E : Prop} (hgd : o.guard = none) (ty e : TypeId) (x : Operand) (ho : o.op = .buildSlice ty 1 #[(0, x)])
    (a : Array Value) (hx : act.eval x = .agg a) (n : Nat) (hu : P.underlying ty = some (.slice e)) (i : TypeInfo) (hi : P.info? e = some i) (hs : i.size = n) (z : Value) (hz : i.zero = some z) (hn0 : 0 < n) (hn1 : n ≤ 1000) (ha : a.size = n)
    (h : K (act.put o.dst (.slice (some ⟨w.heap.size, 0, none⟩) 1 1)) (w.alloc (.cells a e))) : if Region.wanted o (yielded ops act.tmps) = true then Oper.wp P o act w K Q else E := by
  have hw : Region.wanted o (yielded ops act.tmps) = true := by simp [Region.wanted, hgd]
  rw [if_pos hw]
  unfold Oper.wp execOp
  have hf := fun z : Array Value => fill_one n ((Array.range n).map (z[· % z.size]!)) a (by simp) ha
  have h24 : ¬ n > 2 ^ 24 := by omega
  have h20 : ¬ n = 0 := by omega
  simp only [ho, Instr.buildSlice, Sem.run_bind, run_underlying hu, sizeOf, zeroValue, typeInfo, Result.andThen_ok]
  simp [hi, hs, hz, hf, h24, h20, newRow, hx]
  exact h
end Go.Proofs.YtcbfchkhbngpkaaGreatDoor
namespace Go.Proofs.YtcbfchkhbngpkaaGreatDoor
open Go.RowKit

/-- the address behind i objects of k cells, as the model keeps it -/
def addrK (A : Option Addr) (i c k : Nat) : Option Addr := if c = i then A else A.map (·.add (i * k))
theorem RdRow.behind {W : World} {B k n : Nat} {A : Option Addr} {os : List (List Value)} (h : RdRow W B A k n os) (i c : Nat) (hi : i ≤ n) (hc : n ≤ c) : RdRow W B (addrK A i c k) k (n - i) (os.drop i) := by
  unfold addrK
  rcases Nat.eq_zero_or_pos (n - i) with h0 | h0
  · rw [h0, List.drop_of_length_le (by have := h.1; omega)]
    exact RdRow.nil
  · obtain ⟨b, off, rfl⟩ := h.addr (by omega)
    rw [if_neg (by omega), Option.map_some, Go.WideShapes.add_plain]
    exact h.drop i hi
theorem RdRow.src {W : World} {B k n : Nat} {os : List (List Value)} {ad : Addr} (h : RdRow W B (some ad) k n os) : ∀ j u, os.flatten[j]? = some u → W.cell? (ad.add j) = some u := by
  intro j u hj
  rcases Nat.eq_zero_or_pos n with h0 | h0
  · have : os = [] := List.eq_nil_of_length_eq_zero (by rw [h.1, h0])
    subst this
    simp at hj
  · obtain ⟨b, off, e, _, hc⟩ := h.2.2 h0
    injection e with e
    subst e
    rw [Go.WideShapes.add_plain]
    exact hc j u hj
theorem RdRow.len {W : World} {B k n : Nat} {A : Option Addr} {os : List (List Value)} (h : RdRow W B A k n os) : os.flatten.length = n * k := by rw [flat_length h.2.1, h.1]
theorem run_append_rows_none {P : Program} {w : World} (base : Nat) (t ty e : TypeId) (i : TypeInfo) (size : Nat) (ht : P.underlying t = some (.slice e)) (hi : P.info? e = some i)
    (v : Value) (n c : Nat) (xs : List Value) (hown : w.ownsRow base e size v n xs) :
    (Builtin.append_ #[t, t] ty #[v, .slice none 0 c]).run P w = .ok v w := by
  rcases hown.2 with ⟨rfl, rfl⟩ | ⟨g, cap, cur, rfl, _, _, hnc, _⟩
  · simp [Builtin.append_, run_underlying ht, sizeOf, typeInfo, hi, Builtin.lenOf, Builtin.firstCells]
  · simp [Builtin.append_, run_underlying ht, sizeOf, typeInfo, hi, Builtin.lenOf, Builtin.firstCells, hnc, storeCells]
/-- a row of objects appended to a row of the call's own -/
theorem run_append_rows {P : Program} (w : World) (base : Nat) (t ty e : TypeId) (i : TypeInfo) (z : Value) (size bytes : Nat) (ht : P.underlying t = some (.slice e)) (hi : P.info? e = some i) (hz : i.zero = some z)
    (hsize : i.size = size) (hby : i.bytes = bytes) (hzs : z.cells.size = size) (hsz : 0 < size) (v : Value) (n : Nat) (xs : List Value) (hown : w.ownsRow base e size v n xs)
    (B : Nat) (A : Option Addr) (m c : Nat) (os : List (List Value)) (hr : RdRow w B A size m os) (h1 : ∀ u ∈ os.flatten, u.oneCell' = true) (h63 : n + m ≤ maxLen) (hbytes : (n + m) * bytes ≤ 140737488355328) (hbase : base ≤ w.heap.size) :
    ∃ v' w', (Builtin.append_ #[t, t] ty #[v, .slice A m c]).run P w = .ok v' w' ∧ w'.ownsRow base e size v' (n + m) (xs ++ os.flatten) ∧ w.grownBy w' v.ownBlock ∧ (v'.ownBlock = v.ownBlock ∨ v'.ownBlock = some w.heap.size) := by
  cases A with
  | some ad =>
    obtain ⟨v', w', hrun, r1, r2, _, r4⟩ := run_append_own_at (P := P) w base t ty e i z size bytes ht hi hz hsize hby hzs hsz v n xs hown ad m c os.flatten hr.len hr.src h1 h63 hbytes hbase
    exact ⟨v', w', hrun, r1, r2, r4⟩
  | none =>
    have hm : m = 0 := by
      rcases Nat.eq_zero_or_pos m with h | h
      · exact h
      · obtain ⟨_, _, e⟩ := hr.addr h
        cases e
    subst hm
    have ho : os = [] := List.eq_nil_of_length_eq_zero hr.1
    subst ho
    exact ⟨v, w, run_append_rows_none base t ty e i size ht hi v n c xs hown, by simpa using hown, ⟨rfl, rfl, rfl, Nat.le_refl _, fun _ _ _ => rfl⟩, .inl rfl⟩
theorem wpList_append_rows {P : Program} (w : World) {ops : Array Oper} {rest : List Oper} {o : Oper} {a : Act} {Q : Exit → Act → World → Prop} (hgd : o.guard = none) (s x : Operand) (t : TypeId)
    (ho : o.op = .call { callee := .builtin .append, args := #[s, x], argTypes := #[t, t] })
    (base : Nat) (e : TypeId) (i : TypeInfo) (z : Value) (size bytes : Nat) (ht : P.underlying t = some (.slice e)) (hi : P.info? e = some i) (hz : i.zero = some z) (hsize : i.size = size) (hby : i.bytes = bytes) (hzs : z.cells.size = size) (hsz : 0 < size)
    (v : Value) (n : Nat) (xs : List Value) (hs : a.eval s = v) (hown : w.ownsRow base e size v n xs) (B : Nat) (A : Option Addr) (m c : Nat) (os : List (List Value)) (hx : a.eval x = .slice A m c) (hr : RdRow w B A size m os) (h1 : ∀ u ∈ os.flatten, u.oneCell' = true)
    (h63 : n + m ≤ maxLen) (hbytes : (n + m) * bytes ≤ 140737488355328) (hbase : base ≤ w.heap.size)
    (h : ∀ v' w', w'.ownsRow base e size v' (n + m) (xs ++ os.flatten) → w.grownBy w' v.ownBlock → (v'.ownBlock = v.ownBlock ∨ v'.ownBlock = some w.heap.size) → wpList P ops Q rest (a.put o.dst v') w') : wpList P ops Q (o :: rest) a w := by
  refine wpList_plain hgd fun K hK => ?_
  obtain ⟨v', w', hrun, h2, h3, h4⟩ := run_append_rows (P := P) w base t o.type e i z size bytes ht hi hz hsize hby hzs hsz v n xs hown B A m c os hr h1 h63 hbytes hbase
  unfold Oper.wp execOp
  simp only [ho, resolve, invoke, builtin, Sem.run_bind, Sem.run_pure, Result.andThen_ok, List.map_toArray, List.map_cons, List.map_nil, hs, hx, hrun]
  exact hK _ _ (h v' w' h2 h3 h4)
theorem step_append_rows {P : Program} (w : World) {ops : Array Oper} {o : Oper} {a : Act} {K : Act → World → Prop} {Q : Exit → Act → World → Prop} {E : Prop} (hgd : o.guard = none) (s x : Operand) (t : TypeId)
    (ho : o.op = .call { callee := .builtin .append, args := #[s, x], argTypes := #[t, t] })
    (base : Nat) (e : TypeId) (i : TypeInfo) (z : Value) (size bytes : Nat) (ht : P.underlying t = some (.slice e)) (hi : P.info? e = some i) (hz : i.zero = some z) (hsize : i.size = size) (hby : i.bytes = bytes) (hzs : z.cells.size = size) (hsz : 0 < size)
    (v : Value) (n : Nat) (xs : List Value) (hs : a.eval s = v) (hown : w.ownsRow base e size v n xs) (B : Nat) (A : Option Addr) (m c : Nat) (os : List (List Value)) (hx : a.eval x = .slice A m c) (hr : RdRow w B A size m os) (h1 : ∀ u ∈ os.flatten, u.oneCell' = true)
    (h63 : n + m ≤ maxLen) (hbytes : (n + m) * bytes ≤ 140737488355328) (hbase : base ≤ w.heap.size)
    (h : ∀ v' w', w'.ownsRow base e size v' (n + m) (xs ++ os.flatten) → w.grownBy w' v.ownBlock → (v'.ownBlock = v.ownBlock ∨ v'.ownBlock = some w.heap.size) → K (a.put o.dst v') w') : if Region.wanted o (yielded ops a.tmps) = true then Oper.wp P o a w K Q else E := by
  rw [if_pos (by simp [Region.wanted, hgd])]
  obtain ⟨v', w', hrun, h2, h3, h4⟩ := run_append_rows (P := P) w base t o.type e i z size bytes ht hi hz hsize hby hzs hsz v n xs hown B A m c os hr h1 h63 hbytes hbase
  unfold Oper.wp execOp
  simp only [ho, resolve, invoke, builtin, Sem.run_bind, Sem.run_pure, Result.andThen_ok, List.map_toArray, List.map_cons, List.map_nil, hs, hx, hrun]
  exact h v' w' h2 h3 h4
end Go.Proofs.YtcbfchkhbngpkaaGreatDoor
namespace Go.Proofs.YtcbfchkhbngpkaaGreatDoor
open Go.RowKit

theorem wpList_buildOne {P : Program} {w : World} {ops : Array Oper} {rest : List Oper} {o : Oper} {act : Act} {Q : Exit → Act → World → Prop} (hgd : o.guard = none) (ty e : TypeId) (x : Operand) (ho : o.op = .buildSlice ty 1 #[(0, x)])
    (a : Array Value) (hx : act.eval x = .agg a) (n : Nat) (hu : P.underlying ty = some (.slice e)) (i : TypeInfo) (hi : P.info? e = some i) (hs : i.size = n) (z : Value) (hz : i.zero = some z) (hn0 : 0 < n) (hn1 : n ≤ 1000) (ha : a.size = n)
    (h : wpList P ops Q rest (act.put o.dst (.slice (some ⟨w.heap.size, 0, none⟩) 1 1)) (w.alloc (.cells a e))) : wpList P ops Q (o :: rest) act w :=
  wpList_step fun _ hK => step_buildOne hgd ty e x ho a hx n hu i hi hs z hz hn0 hn1 ha (hK _ _ h)
theorem setL_all (old cs : List Value) (h : cs.length = old.length) : setL old 0 cs = cs := by
  rw [setL, List.take_zero, List.nil_append, Nat.zero_add, h, List.drop_length, List.append_nil]
theorem take_snoc {α : Type} {l : List α} {j : Nat} {r : α} (h : l[j]? = some r) : l.take (j + 1) = l.take j ++ [r] := by rw [List.take_add_one, h]; rfl
/-- an object in a block that was just laid and then written: all that was there ahead is as it was -/
theorem below_fresh {w w' : World} {o : Obj} (hg : (w.alloc o).grownBy w' (some w.heap.size)) : Below w.heap.size w w' :=
  ((Below.refl w.heap.size w).alloc (Nat.le_refl _) o).grown hg (by simp) (fun k hk => by injection hk with hk; omega)
end Go.Proofs.YtcbfchkhbngpkaaGreatDoor
namespace Go.Proofs.YtcbfchkhbngpkaaGreatDoor
open Go.RowKit

/-- what is asked of a predicate that is handed on, in every world in which what lies below B is as it was -/
def PredB (P : Program) (F : Nat) (lb : Array Value) (p : List Value → Bool) (B : Nat) (w : World) (os : List (List Value)) : Prop :=
  ∀ o ∈ os, ∀ W, Below B w W → Calls P F (#[.agg o.toArray] ++ lb) W fun e W' => e = .returned (.bool (p o)) ∧ Below W.heap.size W W'
theorem PredB.later {P : Program} {F : Nat} {lb : Array Value} {p : List Value → Bool} {B : Nat} {w w1 : World} {os : List (List Value)} (h : PredB P F lb p B w os) (hb : Below B w w1) : PredB P F lb p B w1 os :=
  fun o ho W hW => h o ho W (hb.trans hW)
theorem blk_at {w : World} {g : Nat} {t : TypeId} {k i : Nat} {cs : List (List Value)} {rest o : List Value} (h : Blk w g t (cs.flatten ++ rest)) (hk : ∀ o ∈ cs, o.length = k) (ho : cs[i]? = some o) : At w g (i * k) o := by
  intro j v hj
  rw [h.cell, List.getElem?_append_left]
  · exact flat_at hk i o ho j v hj
  · exact (List.getElem?_eq_some_iff.1 (flat_at hk i o ho j v hj)).1
theorem blk_row {w : World} {g : Nat} {t : TypeId} {k n : Nat} {cs : List (List Value)} {rest : List Value} (h : Blk w g t (cs.flatten ++ rest)) (hk : ∀ o ∈ cs, o.length = k) (hn : cs.length = n) : RdRow w w.heap.size (some ⟨g, 0, none⟩) k n cs :=
  ⟨hn, hk, fun _ => ⟨g, 0, rfl, h.lt, fun j v hj => by
    rw [h.cell, Nat.zero_add, List.getElem?_append_left (List.getElem?_eq_some_iff.1 hj).1]
    exact hj⟩⟩
theorem own_sliceK {w : World} {base e k n : Nat} {v : Value} {xs : List Value} (h : w.ownsRow base e k v n xs) : ∃ A c, v = .slice A n c ∧ n ≤ c ∧ c ≤ maxLen ∧ ∀ ad, A = some ad → base ≤ ad.block := by
  rcases h.2 with ⟨rfl, rfl⟩ | ⟨g, cap, cur, rfl, hb, _, hn, hm, _⟩
  · exact ⟨none, 0, rfl, Nat.le_refl _, by unfold maxLen; omega, fun _ h => by cases h⟩
  · exact ⟨_, _, rfl, hn, hm, fun ad h => by injection h with h; subst h; exact hb⟩
theorem addrK_zero_some (b off c k : Nat) : addrK (some ⟨b, off, none⟩) 0 c k = some ⟨b, off, none⟩ := by
  unfold addrK
  split
  · rfl
  · rw [Option.map_some, Go.WideShapes.add_plain, Nat.zero_mul, Nat.add_zero]
theorem RdRow.ahead {W : World} {B k n : Nat} {A : Option Addr} {os : List (List Value)} (h : RdRow W B A k n os) (i c : Nat) (hi : i ≤ n) : RdRow W B (addrK A 0 c k) k i (os.take i) := by
  rcases Nat.eq_zero_or_pos i with h0 | h0
  · subst h0
    rw [List.take_zero]
    exact RdRow.nil
  · obtain ⟨b, off, rfl⟩ := h.addr (by omega)
    rw [addrK_zero_some]
    exact h.take i hi
end Go.Proofs.YtcbfchkhbngpkaaGreatDoor
namespace Go.Proofs.YtcbfchkhbngpkaaGreatDoor
open Go.RowKit

/-- min of two numbers, by a name for what it gives -/
theorem wpList_min_int {P : Program} {w : World} {ops : Array Oper} {rest : List Oper} {o : Oper} {a : Act} {Q : Exit → Act → World → Prop} (hgd : o.guard = none) (x y : Operand) (ts : Array TypeId) (ho : o.op = .call { callee := .builtin .min, args := #[x, y], argTypes := ts })
    (u v m : Int) (hx : a.eval x = .int .i64 u) (hy : a.eval y = .int .i64 v) (hm : min u v = m) (h : wpList P ops Q rest (a.put o.dst (.int .i64 m)) w) : wpList P ops Q (o :: rest) a w :=
  wpList_plain hgd fun K hK => by
    have hr : (Builtin.min_ ts o.type #[.int .i64 u, .int .i64 v]).run P w = .ok (.int .i64 m) w := by
      subst hm
      by_cases huv : u ≤ v
      · rw [Int.min_eq_left huv]
        simp [Builtin.min_, Builtin.min2]
        try omega
      · rw [Int.min_eq_right (by omega)]
        simp [Builtin.min_, Builtin.min2]
        try omega
    unfold Oper.wp execOp
    simp only [ho, resolve, invoke, builtin, Sem.run_bind, Sem.run_pure, Result.andThen_ok, List.map_toArray, List.map_cons, List.map_nil, hx, hy, hr]
    exact hK _ _ h
end Go.Proofs.YtcbfchkhbngpkaaGreatDoor
namespace Go.Proofs.YtcbfchkhbngpkaaGreatDoor
open Go.RowKit

/-- all blocks but one are as they were -/
def KeptBut (W W' : World) (g : Nat) : Prop := W.heap.size ≤ W'.heap.size ∧ ∀ k, k < W.heap.size → k ≠ g → W'.heap[k]? = W.heap[k]?
theorem KeptBut.of_grown {W W' : World} {g : Nat} (h : W.grownBy W' (some g)) : KeptBut W W' g := ⟨h.size, fun k hk hne => h.block k hk (by intro e; injection e with e; exact hne e)⟩
theorem KeptBut.of_set {W : World} {g j : Nat} {v : Value} : KeptBut W (W.setCell ⟨g, j, none⟩ v) g := ⟨by simp, fun k _ hne => Below.heap_setCell _ _ _ _ hne⟩
theorem KeptBut.below {W W' W2 : World} {g : Nat} (h : KeptBut W W' g) (hb : Below W'.heap.size W' W2) : KeptBut W W2 g := ⟨Nat.le_trans h.1 hb.size, fun k hk hne => (hb.block k (Nat.lt_of_lt_of_le hk h.1)).trans (h.2 k hk hne)⟩
theorem own_lt {W : World} {base size n : Nat} {e : TypeId} {v : Value} {xs : List Value} (h : W.ownsRow base e size v n xs) {k : Nat} (hk : v.ownBlock = some k) : base ≤ k ∧ k < W.heap.size := by
  rcases h.2 with ⟨rfl, _⟩ | ⟨g, cap, cur, rfl, hb, hg, _⟩
  · cases hk
  · injection hk with hk
    subst hk
    exact ⟨hb, (Array.getElem?_eq_some_iff.1 hg).1⟩
theorem own_kept {W W' : World} {base size n : Nat} {e : TypeId} {v : Value} {xs : List Value} (h : W.ownsRow base e size v n xs) (hk : ∀ k, v.ownBlock = some k → W'.heap[k]? = W.heap[k]?) : W'.ownsRow base e size v n xs :=
  ⟨h.1, by
    rcases h.2 with h1 | ⟨g, cap, cur, hv, hbg, hg, hr⟩
    · exact .inl h1
    · exact .inr ⟨g, cap, cur, hv, hbg, (hk g (by rw [hv]; rfl)).trans hg, hr⟩⟩
def peersV (ps : List PeerM) (vs : List Value) : List (List Value) := List.zipWith PeerM.cells ps vs
/-- the peers and their prefixes, each list in a block of its own -/
def PeersAt (base : Nat) (W : World) (Bs : List Nat) (v : Value) (ps : List PeerM) : Prop :=
  ∃ vs : List Value, vs.length = ps.length ∧ W.ownsRow base 57 85 v ps.length (peersV ps vs).flatten ∧ (∀ (i : Nat) (p : PeerM) (x : Value), ps[i]? = some p → vs[i]? = some x → W.ownsRow base 60 18 x p.al.length (pfsV p.al).flatten) ∧ (v :: vs).filterMap Value.ownBlock = Bs
theorem PeersAt.nil (base : Nat) (W : World) : PeersAt base W [] (.slice none 0 0) [] := ⟨[], rfl, ⟨rfl, .inl ⟨rfl, rfl⟩⟩, by simp, rfl⟩
theorem PeersAt.mem {base : Nat} {W : World} {Bs : List Nat} {v : Value} {ps : List PeerM} (h : PeersAt base W Bs v ps) : ∀ k ∈ Bs, base ≤ k ∧ k < W.heap.size := by
  obtain ⟨vs, hl, h1, h2, rfl⟩ := h
  intro k hk
  obtain ⟨x, hx, hxk⟩ := List.mem_filterMap.1 hk
  rcases List.mem_cons.1 hx with rfl | hx
  · exact own_lt h1 hxk
  · obtain ⟨i, hi, rfl⟩ := List.getElem_of_mem hx
    exact own_lt (h2 i _ _ (List.getElem?_eq_getElem (by omega)) (List.getElem?_eq_getElem hi)) hxk
theorem PeersAt.kept {base : Nat} {W W' : World} {Bs : List Nat} {v : Value} {ps : List PeerM} (h : PeersAt base W Bs v ps) (hk : ∀ k ∈ Bs, W'.heap[k]? = W.heap[k]?) : PeersAt base W' Bs v ps := by
  obtain ⟨vs, hl, h1, h2, rfl⟩ := h
  refine ⟨vs, hl, own_kept h1 fun k e => hk k (List.mem_filterMap.2 ⟨v, List.mem_cons_self .., e⟩), fun i p x hp hx => own_kept (h2 i p x hp hx) fun k e => hk k (List.mem_filterMap.2 ⟨x, List.mem_cons_of_mem _ (List.mem_of_getElem? hx), e⟩), rfl⟩
/-- the names of the section: m lines were read -/
def SeenAt (base gp m : Nat) (Bs : List Nat) (W : World) (mv : Value) : Option (List (List UInt8)) → Prop
  | none => mv = .map none
  | some S => ∃ gm, mv = .map (some gm) ∧ base ≤ gm ∧ gm ≠ gp ∧ gm ∉ Bs ∧ S.length ≤ m ∧ NamesAt Tryz.prog 9 4 W gm S.length S
theorem SeenAt.kept {base gp m : Nat} {Bs : List Nat} {W W' : World} {mv : Value} {o : Option (List (List UInt8))} (h : SeenAt base gp m Bs W mv o) (hk : ∀ k, k < W.heap.size → k ≠ gp → k ∉ Bs → W'.heap[k]? = W.heap[k]?) : SeenAt base gp m Bs W' mv o := by
  cases o with
  | none => exact h
  | some S =>
    obtain ⟨gm, h1, h2, h3, h4, h5, h6⟩ := h
    exact ⟨gm, h1, h2, h3, h4, h5, h6.kept (hk gm h6.lt h3 h4)⟩
theorem SeenAt.mono {base gp m m' : Nat} {Bs : List Nat} {W : World} {mv : Value} {o : Option (List (List UInt8))} (h : SeenAt base gp m Bs W mv o) (hm : m ≤ m') : SeenAt base gp m' Bs W mv o := by
  cases o with
  | none => exact h
  | some S =>
    obtain ⟨gm, h1, h2, h3, h4, h5, h6⟩ := h
    exact ⟨gm, h1, h2, h3, h4, Nat.le_trans h5 hm, h6⟩
def psC (c : ConfM) (line : Nat) (mv v : Value) : List Value := c.cells v ++ [.int .i64 (line : Int), mv]
structure PsAt (base gp m : Nat) (W : World) (s : PsM) (line : Nat) (mv v : Value) (Bs : List Nat) : Prop where
  ok : s.conf.ok
  low : base ≤ gp
  nd : Bs.Nodup
  nin : gp ∉ Bs
  blk : Blk W gp 83 (psC s.conf line mv v)
  peers : PeersAt base W Bs v s.conf.peers
  seen : SeenAt base gp m Bs W mv s.seen
def PsA (base gp m : Nat) (W : World) (s : PsM) (line : Nat) : Prop := ∃ mv v Bs, PsAt base gp m W s line mv v Bs
section
variable {base gp m : Nat} {W W' : World} {s : PsM} {line : Nat} {mv v : Value} {Bs : List Nat}
theorem PsAt.all (h : PsAt base gp m W s line mv v Bs) (hk : ∀ k, k < W.heap.size → W'.heap[k]? = W.heap[k]?) : PsAt base gp m W' s line mv v Bs :=
  ⟨h.ok, h.low, h.nd, h.nin, by
    have := h.blk
    unfold Blk at this ⊢
    rw [hk gp h.blk.lt]
    exact this, h.peers.kept fun k hb => hk k (h.peers.mem k hb).2, h.seen.kept fun k h1 _ _ => hk k h1⟩
theorem PsAt.below (h : PsAt base gp m W s line mv v Bs) (hb : Below W.heap.size W W') : PsAt base gp m W' s line mv v Bs := h.all fun k hk => hb.block k hk
theorem PsA.below (h : PsA base gp m W s line) (hb : Below W.heap.size W W') : PsA base gp m W' s line := by
  obtain ⟨mv, v, Bs, h⟩ := h
  exact ⟨mv, v, Bs, h.below hb⟩
/-- the parser's own block is written -/
theorem PsAt.put (h : PsAt base gp m W s line mv v Bs) (hk : KeptBut W W' gp) {c : ConfM} {line' : Nat} (hc : c.ok) (hp : c.peers = s.conf.peers) (hb : Blk W' gp 83 (psC c line' mv v)) : PsAt base gp m W' ⟨c, s.seen⟩ line' mv v Bs :=
  ⟨hc, h.low, h.nd, h.nin, hb, by rw [hp]; exact h.peers.kept fun k hb => hk.2 k (h.peers.mem k hb).2 (fun e => h.nin (e ▸ hb)), h.seen.kept fun k h1 h2 _ => hk.2 k h1 h2⟩
end
/-- the slice of the peers has as many as there are -/
theorem PsAt.slice {base gp m : Nat} {W : World} {s : PsM} {line : Nat} {mv v : Value} {Bs : List Nat} (h : PsAt base gp m W s line mv v Bs) : ∃ A c, v = .slice A s.conf.peers.length c ∧ s.conf.peers.length ≤ c ∧ c ≤ maxLen := by
  obtain ⟨vs, _, h1, _⟩ := h.peers
  rcases h1.2 with ⟨h2, h3⟩ | ⟨g, cap, cur, h2, _, _, h3, h4, _⟩
  · exact ⟨none, 0, by rw [h2, h3], by omega, Nat.zero_le _⟩
  · exact ⟨_, cap, h2, h3, h4⟩
end Go.Proofs.YtcbfchkhbngpkaaGreatDoor
namespace Go.Proofs.YtcbfchkhbngpkaaGreatDoor
open Go.RowKit

theorem prefC_one (a : AddrM) (bits : Int) : ∀ v ∈ prefC a bits, v.oneCell' = true := by
  intro v hv
  rw [prefC, List.mem_append, List.mem_singleton] at hv
  rcases hv with hv | rfl
  · exact a.one v hv
  · rfl
end Go.Proofs.YtcbfchkhbngpkaaGreatDoor
namespace Go.Proofs.YtcbfchkhbngpkaaGreatDoor
open Go.RowKit

theorem prefInfo : ∃ i, Tryz.prog.info? 60 = some i ∧ i.zero = some (.agg (prefC addr0 0).toArray) ∧ i.size = 18 ∧ i.bytes = 32 := by
  have h : (Tryz.prog.info? 60).map (fun i => (i.zero, i.size, i.bytes)) = some (some (.agg (prefC addr0 0).toArray), 18, 32) := by kernel_rfl
  cases hi : Tryz.prog.info? 60 with
  | none => rw [hi] at h; cases h
  | some i =>
    rw [hi] at h
    simp only [Option.map_some, Option.some.injEq, Prod.mk.injEq] at h
    exact ⟨i, rfl, h.1, h.2.1, h.2.2⟩
theorem pref_oneR (a : AddrM) (b : Int) : ∀ v ∈ prefC a b, v.oneCell' = true := by
  intro v hv
  rw [prefC, AddrM.cells] at hv
  simp only [List.cons_append, List.mem_cons, List.mem_append, List.mem_map, List.not_mem_nil, or_false] at hv
  rcases hv with rfl | ⟨x, _, rfl⟩ | rfl <;> rfl
theorem pfsV_snoc (l : List (AddrM × Int)) (p : AddrM × Int) : (pfsV (l ++ [p])).flatten = (pfsV l).flatten ++ prefC p.1 p.2 := by simp [pfsV]
end Go.Proofs.YtcbfchkhbngpkaaGreatDoor
namespace Go.Proofs.YtcbfchkhbngpkaaGreatDoor
open Go.RowKit

theorem keyInfo : ∃ i, Tryz.prog.info? 24 = some i ∧ i.zero = some (.agg (aeZ 32).toArray) ∧ i.size = 32 ∧ i.bytes = 32 := by
  have h : (Tryz.prog.info? 24).map (fun i => (i.zero, i.size, i.bytes)) = some (some (.agg (aeZ 32).toArray), 32, 32) := by kernel_rfl
  cases hi : Tryz.prog.info? 24 with
  | none => rw [hi] at h; cases h
  | some i =>
    rw [hi] at h
    simp only [Option.map_some, Option.some.injEq, Prod.mk.injEq] at h
    exact ⟨i, rfl, h.1, h.2.1, h.2.2⟩
end Go.Proofs.YtcbfchkhbngpkaaGreatDoor
namespace Go.Proofs.YtcbfchkhbngpkaaGreatDoor
open Go.RowKit

/-- peers that lie one after the other below B, each with its prefixes -/
def PeRd (W : World) (B : Nat) (A : Option Addr) (n : Nat) (ps : List PeerM) : Prop :=
  ∃ vs : List Value, vs.length = ps.length ∧ RdRow W B A 85 n (peersV ps vs) ∧ (∀ p ∈ ps, p.ok) ∧ ∀ (i : Nat) (p : PeerM) (x : Value), ps[i]? = some p → vs[i]? = some x → ∃ A' c, x = .slice A' p.al.length c ∧ p.al.length ≤ c ∧ c ≤ maxLen ∧ PfRd W B A' p.al.length p.al
theorem peersV_len (ps : List PeerM) (vs : List Value) (h : vs.length = ps.length) : (peersV ps vs).length = ps.length := by rw [peersV, List.length_zipWith, h, Nat.min_self]
theorem peersV_at {ps : List PeerM} {vs : List Value} {i : Nat} {p : PeerM} {x : Value} (hp : ps[i]? = some p) (hx : vs[i]? = some x) : (peersV ps vs)[i]? = some (p.cells x) := by rw [peersV, List.getElem?_zipWith, hp, hx]
theorem PeRd.below {w W : World} {B n : Nat} {A : Option Addr} {ps : List PeerM} (h : PeRd w B A n ps) (hb : Below B w W) : PeRd W B A n ps := by
  obtain ⟨vs, h1, h2, h3, h4⟩ := h
  exact ⟨vs, h1, h2.below hb, h3, fun i p x hp hx => by
    obtain ⟨A', c, e, e1, e2, hr⟩ := h4 i p x hp hx
    exact ⟨A', c, e, e1, e2, hr.below hb⟩⟩
theorem PeRd.mono {W : World} {B C n : Nat} {A : Option Addr} {ps : List PeerM} (h : PeRd W B A n ps) (hc : B ≤ C) : PeRd W C A n ps := by
  obtain ⟨vs, h1, h2, h3, h4⟩ := h
  exact ⟨vs, h1, h2.mono hc, h3, fun i p x hp hx => by
    obtain ⟨A', c, e, e1, e2, hr⟩ := h4 i p x hp hx
    exact ⟨A', c, e, e1, e2, hr.mono hc⟩⟩
theorem PeRd.len {W : World} {B n : Nat} {A : Option Addr} {ps : List PeerM} (h : PeRd W B A n ps) : ps.length = n := by
  obtain ⟨vs, h1, h2, _⟩ := h
  rw [← h2.1, peersV_len ps vs h1]
theorem PeRd.nil {W : World} {B : Nat} {A : Option Addr} : PeRd W B A 0 [] := ⟨[], rfl, RdRow.nil, by simp, by simp⟩
theorem PeRd.addr {W : World} {B n : Nat} {A : Option Addr} {ps : List PeerM} (h : PeRd W B A n ps) (h0 : 0 < n) : ∃ b off, A = some ⟨b, off, none⟩ := by
  obtain ⟨vs, _, h2, _⟩ := h
  exact h2.addr h0
theorem PeRd.at {W : World} {B n b off : Nat} {ps : List PeerM} (h : PeRd W B (some ⟨b, off, none⟩) n ps) (i : Nat) (p : PeerM) (hi : ps[i]? = some p) : p.ok ∧ ∃ A' c, p.al.length ≤ c ∧ c ≤ maxLen ∧ PfRd W B A' p.al.length p.al ∧ b < B ∧ At W b (off + i * 85) (p.cells (.slice A' p.al.length c)) := by
  obtain ⟨vs, h1, h2, h3, h4⟩ := h
  have hlt := (List.getElem?_eq_some_iff.1 hi).1
  have hx : vs[i]? = some vs[i] := List.getElem?_eq_getElem (by omega)
  obtain ⟨A', c, e, e1, e2, hr⟩ := h4 i p _ hi hx
  rw [e] at hx
  have hat := h2.at i _ (peersV_at hi hx)
  exact ⟨h3 p (List.mem_of_getElem? hi), A', c, e1, e2, hr, hat.1, hat.2⟩
/-- peers in rows of the call's own can be read -/
theorem PeersAt.rd {base : Nat} {W : World} {Bs : List Nat} {A : Option Addr} {c n : Nat} {ps : List PeerM} (h : PeersAt base W Bs (.slice A n c) ps) (hn : ps.length = n) (hk : ∀ p ∈ ps, p.ok) : PeRd W W.heap.size A n ps := by
  obtain ⟨vs, hl, h1, h2, _⟩ := h
  rw [hn] at h1
  refine ⟨vs, hl, RdRow.of_own (by rw [peersV_len ps vs hl, hn]) (fun o ho => ?_) h1, hk, fun i p x hp hx => ?_⟩
  · obtain ⟨i, hi, rfl⟩ := List.getElem_of_mem ho
    rw [peersV_len ps vs hl] at hi
    have e := peersV_at (List.getElem?_eq_getElem hi) (List.getElem?_eq_getElem (by omega : i < vs.length))
    rw [List.getElem?_eq_getElem (by rw [peersV_len ps vs hl]; exact hi)] at e
    injection e with e
    rw [e]
    exact PeerM.cells_length (hk _ (List.getElem_mem hi)) _
  · have h3 := h2 i p x hp hx
    have hpk := (hk p (List.mem_of_getElem? hp)).2.2.2.2.2
    rcases h3.2 with ⟨rfl, h0⟩ | ⟨g, cap, cur, rfl, _, _, hnc, hcm, _⟩
    · refine ⟨none, 0, by rw [h0], by omega, Nat.zero_le _, ?_⟩
      have he : p.al = [] := List.length_eq_zero_iff.1 h0
      rw [he]
      exact PfRd.nil
    · exact ⟨_, cap, rfl, hnc, hcm, PfRd.of_own rfl hpk h3⟩
/-- two rows of the call's own that do not share a block -/
def TwoR (base : Nat) (e1 : TypeId) (k1 : Nat) (v1 : Value) (n1 : Nat) (xs1 : List Value) (e2 : TypeId) (k2 : Nat) (v2 : Value) (n2 : Nat) (xs2 : List Value) (W : World) : Prop :=
  W.ownsRow base e1 k1 v1 n1 xs1 ∧ W.ownsRow base e2 k2 v2 n2 xs2 ∧ ∀ k, v1.ownBlock = some k → v2.ownBlock ≠ some k
section
variable {base : Nat} {e1 e2 : TypeId} {k1 k2 n1 n2 : Nat} {v1 v2 : Value} {xs1 xs2 : List Value} {W W' : World}
theorem TwoR.below (h : TwoR base e1 k1 v1 n1 xs1 e2 k2 v2 n2 xs2 W) (hb : Below W.heap.size W W') : TwoR base e1 k1 v1 n1 xs1 e2 k2 v2 n2 xs2 W' :=
  ⟨own_kept h.1 fun k e => hb.block k (own_lt h.1 e).2, own_kept h.2.1 fun k e => hb.block k (own_lt h.2.1 e).2, h.2.2⟩
theorem TwoR.first (h : TwoR base e1 k1 v1 n1 xs1 e2 k2 v2 n2 xs2 W) {u : Value} {m : Nat} {ys : List Value} (ho : W'.ownsRow base e1 k1 u m ys) (hg : W.grownBy W' v1.ownBlock) (hb : u.ownBlock = v1.ownBlock ∨ u.ownBlock = some W.heap.size) : TwoR base e1 k1 u m ys e2 k2 v2 n2 xs2 W' := by
  refine ⟨ho, own_kept h.2.1 fun k e => hg.block k (own_lt h.2.1 e).2 (fun e2 => h.2.2 k e2.symm e), fun b hu hv => ?_⟩
  rcases hb with e | e
  · exact h.2.2 b (e ▸ hu) hv
  · have := (own_lt h.2.1 hv).2
    rw [e] at hu
    injection hu with hu
    omega
theorem TwoR.swap (h : TwoR base e1 k1 v1 n1 xs1 e2 k2 v2 n2 xs2 W) : TwoR base e2 k2 v2 n2 xs2 e1 k1 v1 n1 xs1 W := ⟨h.2.1, h.1, fun k h1 h2 => h.2.2 k h2 h1⟩
theorem TwoR.grown (h : TwoR base e1 k1 v1 n1 xs1 e2 k2 v2 n2 xs2 W) {w0 : World} (hb : Below w0.heap.size w0 W) (hw : w0.heap.size ≤ base) (hg : W.grownBy W' v1.ownBlock) : Below w0.heap.size w0 W' :=
  hb.grown hg hb.size fun _ e => Nat.le_trans hw (own_lt h.1 e).1
end
end Go.Proofs.YtcbfchkhbngpkaaGreatDoor
