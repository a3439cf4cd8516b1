/-
  The contracts of the reference's Sound, bit, width, Valid, Contains and Less. No statement is proved here.
-/
import Derived.Test.YtdpdalkeafkhkaaInRef
import Derived.Laws.ShiftsVarLaws
namespace Go.Proofs.Ytdpdalkeafkhkaa
open Go.RowKit

theorem AddrM.six_cell (a : AddrM) : a.cells[0]? = some (.bool a.six) := rfl
theorem AddrM.ip_cell (a : AddrM) (h : a.ok) (j : Nat) (hj : j < 16) : a.cells[1 + j]? = some (.int .u8 ((a.ip.getD j 0).toNat : Int)) := by
  have hl : j < a.ip.length := by rw [h]; exact hj
  rw [AddrM.cells, Nat.add_comm, List.getElem?_cons_succ, List.getElem?_map, List.getElem?_eq_getElem hl, List.getD_eq_getElem?_getD, List.getElem?_eq_getElem hl]
  rfl
/-- a prefix -/
def prefC (a : AddrM) (bits : Int) : List Value := a.cells ++ [.int .i64 bits]
theorem prefC_length (a : AddrM) (h : a.ok) (bits : Int) : (prefC a bits).length = 18 := by rw [prefC, List.length_append, AddrM.cells_length h]; rfl
theorem prefC_addr (a : AddrM) (h : a.ok) (bits : Int) : ((prefC a bits).drop 0).take 17 = a.cells := by rw [prefC, List.drop_zero, ← AddrM.cells_length h, List.take_left]
theorem prefC_bits (a : AddrM) (h : a.ok) (bits : Int) : (prefC a bits)[17]? = some (.int .i64 bits) := by
  rw [prefC, List.getElem?_append_right (by rw [AddrM.cells_length h]; omega), AddrM.cells_length h]; rfl
theorem prefC_six (a : AddrM) (bits : Int) : (prefC a bits)[0]? = some (.bool a.six) := rfl
theorem soundM_four (a : AddrM) (h : a.ok) (h6 : a.six = false) : soundM a = true ↔ ∀ j, j < 12 → a.ip.getD (4 + j) 0 = 0 := by
  have hl : a.ip.length = 16 := h
  rw [soundM, h6, Bool.false_or, List.all_eq_true]
  constructor
  · intro hx j hj
    have := hx (a.ip[4 + j]'(by omega)) (List.mem_drop_iff_getElem.2 ⟨j, by omega, rfl⟩)
    rw [List.getD_eq_getElem?_getD, List.getElem?_eq_getElem (by omega)]
    simpa using this
  · intro hx x hm
    obtain ⟨j, hj, rfl⟩ := List.mem_drop_iff_getElem.1 hm
    have := hx j (by omega)
    rw [List.getD_eq_getElem?_getD, List.getElem?_eq_getElem (by omega)] at this
    simpa using this

set_option maxRecDepth 100000 in
set_option maxHeartbeats 2000000 in
theorem refSound_any (a : AddrM) (h : a.ok) (w : World) :
    Calls Try.prog 36 #[.agg a.cells.toArray] w fun e w' => e = .returned (.bool (soundM a)) ∧ Below w.heap.size w w' := by
  obtain ⟨ca, hca⟩ : ∃ c, a.cells.toArray = c := ⟨_, rfl⟩
  rw [hca]
  have HM := Lib.hid (show Mem w [blkE w.heap.size 29 a.cells] (w.alloc (.cells ca 29)) from (Mem.nil w).alloc rfl 29 ca a.cells hca.symm)
  have HO := Lib.hid h
  obtain ⟨sx, hsx⟩ : ∃ q, a.six = q := ⟨_, rfl⟩
  have HS := Lib.hid hsx
  clear hca h hsx
  go_enter Try.func36, Try.ntmps36
  go_upto_region 1 with fail
  generalize w.alloc (.cells ca 29) = w1 at HM ⊢
  go_wp2_with fail
  go_loopw [8] (fun z wr => ∃ j : Nat, j ≤ 12 ∧ z = .int .i64 (j : Int) ∧ (sx = false → ∀ i, i < j → a.ip.getD (4 + i) 0 = 0) ∧ Mem w [blkE w.heap.size 29 a.cells] wr) (fun z _ => 12 - (intOf z).toNat)
  case atStart => exact ⟨0, by omega, rfl, fun _ i hi => absurd hi (by omega), HM.out⟩
  case round =>
    clear HM
    obtain ⟨j, hj, rfl, hz, hM⟩ := hrel
    have HM := Lib.hid hM
    have HZ := Lib.hid hz
    clear hM hz
    by_cases hlt : j < 12
    · have fx := ((HM.out.blk 0 rfl).cell (1 + (4 + j))).trans (AddrM.ip_cell a HO.out (4 + j) (by omega))
      rw [show 1 + (4 + j) = 5 + j by omega] at fx
      have f6 := ((HM.out.blk 0 rfl).cell 0).trans (AddrM.six_cell a)
      rw [HS.out] at f6
      obtain ⟨x, hx⟩ : ∃ x, a.ip.getD (4 + j) 0 = x := ⟨_, rfl⟩
      rw [hx] at fx
      have HX := Lib.hid hx
      clear hx
      have dl : decide ((j : Int) < 12) = true := by simp; omega
      cases sx with
      | true =>
        go_wp2
        go_roundw
        case rel => exact ⟨j + 1, by omega, by go_num, (fun h => by cases h), HM.out⟩
        case measure => simp [intOf]; omega
      | false =>
        by_cases hx0 : x = 0
        · have hne : ((x.toNat : Int) != 0) = false := by subst hx0; rfl
          have HX0 := Lib.hid hx0
          clear hx0
          go_wp2
          go_roundw
          case rel => exact ⟨j + 1, by omega, by go_num, (fun _ i hi => by
            by_cases e : i = j
            · subst e; rw [HX.out, HX0.out]
            · exact HZ.out rfl i (by omega)), HM.out⟩
          case measure => simp [intOf]; omega
        · have hne : ((x.toNat : Int) != 0) = true := by
            have : x.toNat ≠ 0 := fun e => hx0 (UInt8.toNat.inj e)
            simp; omega
          have HR := Lib.hid (show soundM a = false from by
            rw [Bool.eq_false_iff]
            intro hs
            have := (soundM_four a HO.out HS.out).1 hs j hlt
            rw [HX.out] at this
            exact hx0 this)
          clear hx0
          go_wp2
          go_ret
          exact ⟨by rw [HR.out]; rfl, HM.out.bel⟩
    · obtain rfl : j = 12 := by omega
      have HR := Lib.hid (show soundM a = true from by
        cases hq : sx with
        | true => rw [soundM, HS.out, hq]; rfl
        | false => exact (soundM_four a HO.out (by rw [HS.out, hq])).2 (HZ.out hq))
      (try rw [show ((12 : Nat) : Int) = 12 from rfl])
      go_wp2
      go_ret
      exact ⟨by rw [HR.out]; rfl, HM.out.bel⟩
set_option maxRecDepth 100000 in
set_option maxHeartbeats 2000000 in
theorem refBit_any (a : AddrM) (h : a.ok) (i : Nat) (hi : i < 128) (w : World) :
    Calls Try.prog 37 #[.agg a.cells.toArray, .int .i64 (i : Int)] w fun e w' => e = .returned (.int .u8 (bitM a.ip i : Int)) ∧ Below w.heap.size w w' := by
  obtain ⟨ca, hca⟩ : ∃ c, a.cells.toArray = c := ⟨_, rfl⟩
  rw [hca]
  have HM := Lib.hid (show Mem w [blkE w.heap.size 29 a.cells] (w.alloc (.cells ca 29)) from (Mem.nil w).alloc rfl 29 ca a.cells hca.symm)
  have HO := Lib.hid h
  have hb : bitM a.ip i = (a.ip.getD (i / 8) 0).toNat / 2 ^ (7 - i % 8) % 2 := rfl
  have hk8 : i / 8 < 16 := by omega
  clear hca h
  go_enter Try.func37, Try.ntmps37
  go_upto_region 1 with fail
  generalize w.alloc (.cells ca 29) = w1 at HM ⊢
  have fx := ((HM.out.blk 0 rfl).cell (1 + i / 8)).trans (AddrM.ip_cell a HO.out (i / 8) hk8)
  generalize a.ip.getD (i / 8) 0 = x at fx hb
  have hq : (i : Int) / 8 = ((i / 8 : Nat) : Int) := by omega
  have hr : (i : Int) % 8 = ((i % 8 : Nat) : Int) := by omega
  obtain ⟨k, hk⟩ : ∃ k, i / 8 = k := ⟨_, rfl⟩
  obtain ⟨m, hm⟩ : ∃ m, i % 8 = m := ⟨_, rfl⟩
  rw [hk] at fx hq hk8
  rw [hm] at hr hb
  have hm8 : m < 8 := by omega
  obtain ⟨t, ht⟩ : ∃ t, 7 - m = t := ⟨_, rfl⟩
  rw [ht] at hb
  have hw7 : IntKind.i64.wrap (7 - (m : Int)) = (t : Int) := by rw [IntWalk.i64_in _ (by omega)]; omega
  have bk : (k : Int) < 16 := by omega
  have hmin : min t 8 = t := by omega
  obtain ⟨v, hv⟩ : ∃ v, x.toNat / 2 ^ t = v := ⟨_, rfl⟩
  rw [hv] at hb
  have hvl : v < 256 := by rw [← hv]; exact Nat.lt_of_le_of_lt (Nat.div_le_self _ _) x.toNat_lt
  have he : (x.toNat : Int) / 2 ^ t = (v : Int) := by rw [← hv, Int.natCast_ediv, Int.natCast_pow]; rfl
  have hand : bits BinOp.and IntKind.u8 (v : Int) 1 = ((v % 2 : Nat) : Int) := by
    have h := u8_and_nat v 1 hvl (by omega)
    rw [show ((1 : Nat) : Int) = 1 from rfl] at h
    rw [h, Nat.and_one_is_mod]
  generalize v % 2 = r at hand hb
  have HB := Lib.hid hb
  clear hb hv ht hk hm hvl hm8
  go_wp2
  go_ret
  exact ⟨by rw [HB.out]; rfl, HM.out.bel⟩
set_option maxRecDepth 100000 in
theorem refWidth_any (a : AddrM) (w : World) :
    Calls Try.prog 39 #[.agg a.cells.toArray] w fun e w' => e = .returned (.int .i64 (widthM a : Int)) ∧ Below w.heap.size w w' := by
  obtain ⟨ca, hca⟩ : ∃ c, a.cells.toArray = c := ⟨_, rfl⟩
  rw [hca]
  have HM := Lib.hid (show Mem w [blkE w.heap.size 29 a.cells] (w.alloc (.cells ca 29)) from (Mem.nil w).alloc rfl 29 ca a.cells hca.symm)
  obtain ⟨sx, hsx⟩ : ∃ q, a.six = q := ⟨_, rfl⟩
  have HW := Lib.hid (show widthM a = if sx then 128 else 32 by rw [widthM, hsx])
  clear hca
  go_enter Try.func39, Try.ntmps39
  go_upto_region 1 with fail
  generalize w.alloc (.cells ca 29) = w1 at HM ⊢
  have f6 := ((HM.out.blk 0 rfl).cell 0).trans (AddrM.six_cell a)
  rw [hsx] at f6
  cases sx with
  | true =>
    go_wp2
    go_ret
    exact ⟨by rw [HW.out]; rfl, HM.out.bel⟩
  | false =>
    go_wp2
    go_ret
    exact ⟨by rw [HW.out]; rfl, HM.out.bel⟩
theorem validM_iff (a : AddrM) (bits : Int) (hs : soundM a = true) (h0 : 0 ≤ bits) (h1 : bits ≤ (widthM a : Int)) : validM a bits = true ↔ ∀ i : Nat, bits ≤ (i : Int) → i < 128 → bitM a.ip i = 0 := by
  rw [validM, hs, decide_eq_true h0, decide_eq_true h1, Bool.true_and, Bool.true_and, Bool.true_and, List.all_eq_true]
  constructor
  · intro h i hi hlt
    have := h i (List.mem_range.2 hlt)
    rw [Bool.or_eq_true, decide_eq_true_iff, beq_iff_eq] at this
    rcases this with h2 | h2
    · omega
    · exact h2
  · intro h i hi
    rw [Bool.or_eq_true, decide_eq_true_iff, beq_iff_eq]
    by_cases h2 : (i : Int) < bits
    · exact .inl h2
    · exact .inr (h i (by omega) (List.mem_range.1 hi))
theorem widthM_le (a : AddrM) : widthM a = 32 ∨ widthM a = 128 := by unfold widthM; split <;> simp
set_option maxRecDepth 100000 in
set_option maxHeartbeats 4000000 in
theorem refValid_any (a : AddrM) (h : a.ok) (bits : Int) (_hb1 : -9223372036854775808 ≤ bits) (_hb2 : bits ≤ 9223372036854775807) (w : World) :
    Calls Try.prog 22 #[.agg (prefC a bits).toArray] w fun e w' => e = .returned (.bool (validM a bits)) ∧ Below w.heap.size w w' := by
  obtain ⟨cp, hcp⟩ : ∃ c, (prefC a bits).toArray = c := ⟨_, rfl⟩
  rw [hcp]
  have HM := Lib.hid (show Mem w [blkE w.heap.size 42 (prefC a bits)] (w.alloc (.cells cp 42)) from (Mem.nil w).alloc rfl 42 cp (prefC a bits) hcp.symm)
  have HO := Lib.hid h
  have SN := fun W : World => refSound_any a h W
  have WD := fun W : World => refWidth_any a W
  have BT := fun (i : Nat) (hi : i < 128) (W : World) => refBit_any a h i hi W
  obtain ⟨ca, hca⟩ : ∃ c, a.cells.toArray = c := ⟨_, rfl⟩
  simp only [hca] at SN WD BT
  have HCA := Lib.hid hca
  have HBT := Lib.hid BT
  have hwl := widthM_le a
  obtain ⟨sd, hsd⟩ : ∃ q, soundM a = q := ⟨_, rfl⟩
  rw [hsd] at SN
  have HSN := Lib.hid SN
  have HWD := Lib.hid WD
  clear hcp h hca SN WD BT
  go_enter Try.func22, Try.ntmps22
  go_upto_region 1 with fail
  generalize w.alloc (.cells cp 42) = w1 at HM ⊢
  cases sd with
  | false =>
    have HR := Lib.hid (show validM a bits = false from by rw [validM, hsd]; rfl)
    refine wp_region_held_drew (S := fun W' => Mem w [blkE w.heap.size 42 (prefC a bits)] W') (by kernel_rfl) ((HM.out).drew) (fun hHeld => ?_)
    replace HM := Lib.hid HM.out.drew
    generalize w1.drew = wd1 at HM hHeld ⊢
    refine take_first (v := ?_) 0 rfl (by kernel_rfl) (by kernel_rfl) (by kernel_rfl) (fun _ _ _ h => h) (Or.inl ⟨by rfl, ?_⟩) (by assumption) ?_
    rotate_left
    · (intro w hSw; (try dsimp only at hSw); go_simp; try with_reducible rfl)
    (try simp only [Act.put, List.setIfInBounds_toArray, List.set_cons_zero, List.set_cons_succ])
    refine take_first (v := .agg ca) 1 rfl (by kernel_rfl) (by kernel_rfl) (by kernel_rfl) (fun _ _ _ h => h) (by rw [← HCA.out]; exact yields_load_obj (by rfl) 29 (.tmp 4) rfl w.heap.size 0 rfl a.cells (fun w' hb => by have h := (Mem.blk hb 0 rfl).sub 0 17; rw [prefC_addr a HO.out bits] at h; exact h) _ Try.underlying29 rfl (addr_cellsOf _ HO.out)) (by assumption) ?_
    (try simp only [Act.put, List.setIfInBounds_toArray, List.set_cons_zero, List.set_cons_succ])
    refine step_one 2 rfl (by kernel_rfl) (fun K hK => ?_)
    clear hHeld
    go_simp
    refine (HSN.out _).mono ?_
    rintro e wy2 ⟨rfl, hb⟩
    replace HM := Lib.hid (show Mem w [blkE w.heap.size 42 (prefC a bits)] wy2 from HM.out.below hb)
    clear hb
    go_wp2_with fail
    refine hK.out _ _ (HM.out) (fun hHeld => ?_)
    clear hK K
    (try simp only [Act.put, List.setIfInBounds_toArray, List.set_cons_zero, List.set_cons_succ])
    refine take_first (v := ?_) 3 rfl (by kernel_rfl) (by kernel_rfl) (by kernel_rfl) (fun _ _ _ h => h) (Or.inl ⟨by rfl, ?_⟩) (by assumption) ?_
    rotate_left
    · (intro w hSw; (try dsimp only at hSw); go_simp; try with_reducible rfl)
    (try simp only [Act.put, List.setIfInBounds_toArray, List.set_cons_zero, List.set_cons_succ])
    refine take_first (v := ?_) 4 rfl (by kernel_rfl) (by kernel_rfl) (by kernel_rfl) (fun _ _ _ h => h) (Or.inl ⟨by rfl, ?_⟩) (by assumption) ?_
    rotate_left
    · (intro w hSw; (try dsimp only at hSw); go_simp; try with_reducible rfl)
    (try simp only [Act.put, List.setIfInBounds_toArray, List.set_cons_zero, List.set_cons_succ])
    refine take_first (v := undef) 5 rfl (by kernel_rfl) (by kernel_rfl) (by kernel_rfl) (fun _ _ _ h => h) (Or.inr ⟨by rfl, rfl⟩) (by assumption) ?_
    (try simp only [Act.put, List.setIfInBounds_toArray, List.set_cons_zero, List.set_cons_succ])
    refine take_first (v := undef) 6 rfl (by kernel_rfl) (by kernel_rfl) (by kernel_rfl) (fun _ _ _ h => h) (Or.inr ⟨by rfl, rfl⟩) (by assumption) ?_
    (try simp only [Act.put, List.setIfInBounds_toArray, List.set_cons_zero, List.set_cons_succ])
    refine take_first (v := undef) 7 rfl (by kernel_rfl) (by kernel_rfl) (by kernel_rfl) (fun _ _ _ h => h) (Or.inr ⟨by rfl, rfl⟩) (by assumption) ?_
    (try simp only [Act.put, List.setIfInBounds_toArray, List.set_cons_zero, List.set_cons_succ])
    refine take_first (v := ?_) 8 rfl (by kernel_rfl) (by kernel_rfl) (by kernel_rfl) (fun _ _ _ h => h) (Or.inl ⟨by rfl, ?_⟩) (by assumption) ?_
    rotate_left
    · (intro w hSw; (try dsimp only at hSw); go_simp; try with_reducible rfl)
    (try simp only [Act.put, List.setIfInBounds_toArray, List.set_cons_zero, List.set_cons_succ])
    refine take_first (v := ?_) 9 rfl (by kernel_rfl) (by kernel_rfl) (by kernel_rfl) (fun _ _ _ h => h) (Or.inl ⟨by rfl, ?_⟩) (by assumption) ?_
    rotate_left
    · (intro w hSw; (try dsimp only at hSw); go_simp; try with_reducible rfl)
    (try simp only [Act.put, List.setIfInBounds_toArray, List.set_cons_zero, List.set_cons_succ])
    refine take_first (v := undef) 10 rfl (by kernel_rfl) (by kernel_rfl) (by kernel_rfl) (fun _ _ _ h => h) (Or.inr ⟨by rfl, rfl⟩) (by assumption) ?_
    (try simp only [Act.put, List.setIfInBounds_toArray, List.set_cons_zero, List.set_cons_succ])
    refine take_first (v := undef) 11 rfl (by kernel_rfl) (by kernel_rfl) (by kernel_rfl) (fun _ _ _ h => h) (Or.inr ⟨by rfl, rfl⟩) (by assumption) ?_
    (try simp only [Act.put, List.setIfInBounds_toArray, List.set_cons_zero, List.set_cons_succ])
    refine take_first (v := undef) 12 rfl (by kernel_rfl) (by kernel_rfl) (by kernel_rfl) (fun _ _ _ h => h) (Or.inr ⟨by rfl, rfl⟩) (by assumption) ?_
    (try simp only [Act.put, List.setIfInBounds_toArray, List.set_cons_zero, List.set_cons_succ])
    refine take_first (v := undef) 13 rfl (by kernel_rfl) (by kernel_rfl) (by kernel_rfl) (fun _ _ _ h => h) (Or.inr ⟨by rfl, rfl⟩) (by assumption) ?_
    (try simp only [Act.put, List.setIfInBounds_toArray, List.set_cons_zero, List.set_cons_succ])
    refine take_first (v := undef) 14 rfl (by kernel_rfl) (by kernel_rfl) (by kernel_rfl) (fun _ _ _ h => h) (Or.inr ⟨by rfl, rfl⟩) (by assumption) ?_
    (try simp only [Act.put, List.setIfInBounds_toArray, List.set_cons_zero, List.set_cons_succ])
    refine take_first (v := undef) 15 rfl (by kernel_rfl) (by kernel_rfl) (by kernel_rfl) (fun _ _ _ h => h) (Or.inr ⟨by rfl, rfl⟩) (by assumption) ?_
    (try simp only [Act.put, List.setIfInBounds_toArray, List.set_cons_zero, List.set_cons_succ])
    refine take_first (v := ?_) 16 rfl (by kernel_rfl) (by kernel_rfl) (by kernel_rfl) (fun _ _ _ h => h) (Or.inl ⟨by rfl, ?_⟩) (by assumption) ?_
    rotate_left
    · (intro w hSw; (try dsimp only at hSw); go_simp; try with_reducible rfl)
    (try simp only [Act.put, List.setIfInBounds_toArray, List.set_cons_zero, List.set_cons_succ])
    refine wpAnyH_done (by kernel_rfl) ?_ _
    clear hHeld
    go_wp2
    go_ret
    exact ⟨by rw [HR.out]; rfl, HM.out.bel⟩
  | true =>
    by_cases h0 : bits < 0
    · have HR := Lib.hid (show validM a bits = false from by rw [validM, hsd, decide_eq_false (by omega)]; rfl)
      have HD0 := Lib.hid (show decide (bits < 0) = true by simp; omega)
      refine wp_region_held_drew (S := fun W' => Mem w [blkE w.heap.size 42 (prefC a bits)] W') (by kernel_rfl) ((HM.out).drew) (fun hHeld => ?_)
      replace HM := Lib.hid HM.out.drew
      generalize w1.drew = wd1 at HM hHeld ⊢
      refine take_first (v := ?_) 0 rfl (by kernel_rfl) (by kernel_rfl) (by kernel_rfl) (fun _ _ _ h => h) (Or.inl ⟨by rfl, ?_⟩) (by assumption) ?_
      rotate_left
      · (intro w hSw; (try dsimp only at hSw); go_simp; try with_reducible rfl)
      (try simp only [Act.put, List.setIfInBounds_toArray, List.set_cons_zero, List.set_cons_succ])
      refine take_first (v := .agg ca) 1 rfl (by kernel_rfl) (by kernel_rfl) (by kernel_rfl) (fun _ _ _ h => h) (by rw [← HCA.out]; exact yields_load_obj (by rfl) 29 (.tmp 4) rfl w.heap.size 0 rfl a.cells (fun w' hb => by have h := (Mem.blk hb 0 rfl).sub 0 17; rw [prefC_addr a HO.out bits] at h; exact h) _ Try.underlying29 rfl (addr_cellsOf _ HO.out)) (by assumption) ?_
      (try simp only [Act.put, List.setIfInBounds_toArray, List.set_cons_zero, List.set_cons_succ])
      refine step_one 2 rfl (by kernel_rfl) (fun K hK => ?_)
      clear hHeld
      go_simp
      refine (HSN.out _).mono ?_
      rintro e wy2 ⟨rfl, hb⟩
      replace HM := Lib.hid (show Mem w [blkE w.heap.size 42 (prefC a bits)] wy2 from HM.out.below hb)
      clear hb
      go_wp2_with fail
      refine hK.out _ _ (HM.out) (fun hHeld => ?_)
      clear hK K
      (try simp only [Act.put, List.setIfInBounds_toArray, List.set_cons_zero, List.set_cons_succ])
      refine take_first (v := ?_) 3 rfl (by kernel_rfl) (by kernel_rfl) (by kernel_rfl) (fun _ _ _ h => h) (Or.inl ⟨by rfl, ?_⟩) (by assumption) ?_
      rotate_left
      · (intro w hSw; (try dsimp only at hSw); go_simp; try with_reducible rfl)
      (try simp only [Act.put, List.setIfInBounds_toArray, List.set_cons_zero, List.set_cons_succ])
      refine take_first (v := ?_) 4 rfl (by kernel_rfl) (by kernel_rfl) (by kernel_rfl) (fun _ _ _ h => h) (Or.inl ⟨by rfl, ?_⟩) (by assumption) ?_
      rotate_left
      · (intro w hSw; (try dsimp only at hSw); go_simp; try with_reducible rfl)
      (try simp only [Act.put, List.setIfInBounds_toArray, List.set_cons_zero, List.set_cons_succ])
      refine take_first (v := ?_) 5 rfl (by kernel_rfl) (by kernel_rfl) (by kernel_rfl) (fun _ _ _ h => h) (Or.inl ⟨by rfl, ?_⟩) (by assumption) ?_
      rotate_left
      · (intro w hSw; (try dsimp only at hSw); go_simp; try with_reducible rfl)
      (try simp only [Act.put, List.setIfInBounds_toArray, List.set_cons_zero, List.set_cons_succ])
      refine take_first (v := ?_) 6 rfl (by kernel_rfl) (by kernel_rfl) (by kernel_rfl) (fun _ _ _ h => h) (Or.inl ⟨by rfl, ?_⟩) (by assumption) ?_
      rotate_left
      · (intro w hSw; (try dsimp only at hSw); have fb := (Mem.blk hSw 0 rfl).cell 17; rw [prefC_bits a HO.out bits] at fb; go_simp; try with_reducible rfl)
      (try simp only [Act.put, List.setIfInBounds_toArray, List.set_cons_zero, List.set_cons_succ])
      refine take_first (v := ?_) 7 rfl (by kernel_rfl) (by kernel_rfl) (by kernel_rfl) (fun _ _ _ h => h) (Or.inl ⟨by rfl, ?_⟩) (by assumption) ?_
      rotate_left
      · (intro w hSw; (try dsimp only at hSw); have d0 := HD0.out; go_simp; try with_reducible rfl)
      (try simp only [Act.put, List.setIfInBounds_toArray, List.set_cons_zero, List.set_cons_succ])
      refine take_first (v := ?_) 8 rfl (by kernel_rfl) (by kernel_rfl) (by kernel_rfl) (fun _ _ _ h => h) (Or.inl ⟨by rfl, ?_⟩) (by assumption) ?_
      rotate_left
      · (intro w hSw; (try dsimp only at hSw); go_simp; try with_reducible rfl)
      (try simp only [Act.put, List.setIfInBounds_toArray, List.set_cons_zero, List.set_cons_succ])
      refine take_first (v := ?_) 9 rfl (by kernel_rfl) (by kernel_rfl) (by kernel_rfl) (fun _ _ _ h => h) (Or.inl ⟨by rfl, ?_⟩) (by assumption) ?_
      rotate_left
      · (intro w hSw; (try dsimp only at hSw); go_simp; try with_reducible rfl)
      (try simp only [Act.put, List.setIfInBounds_toArray, List.set_cons_zero, List.set_cons_succ])
      refine take_first (v := undef) 10 rfl (by kernel_rfl) (by kernel_rfl) (by kernel_rfl) (fun _ _ _ h => h) (Or.inr ⟨by rfl, rfl⟩) (by assumption) ?_
      (try simp only [Act.put, List.setIfInBounds_toArray, List.set_cons_zero, List.set_cons_succ])
      refine take_first (v := undef) 11 rfl (by kernel_rfl) (by kernel_rfl) (by kernel_rfl) (fun _ _ _ h => h) (Or.inr ⟨by rfl, rfl⟩) (by assumption) ?_
      (try simp only [Act.put, List.setIfInBounds_toArray, List.set_cons_zero, List.set_cons_succ])
      refine take_first (v := undef) 12 rfl (by kernel_rfl) (by kernel_rfl) (by kernel_rfl) (fun _ _ _ h => h) (Or.inr ⟨by rfl, rfl⟩) (by assumption) ?_
      (try simp only [Act.put, List.setIfInBounds_toArray, List.set_cons_zero, List.set_cons_succ])
      refine take_first (v := undef) 13 rfl (by kernel_rfl) (by kernel_rfl) (by kernel_rfl) (fun _ _ _ h => h) (Or.inr ⟨by rfl, rfl⟩) (by assumption) ?_
      (try simp only [Act.put, List.setIfInBounds_toArray, List.set_cons_zero, List.set_cons_succ])
      refine take_first (v := undef) 14 rfl (by kernel_rfl) (by kernel_rfl) (by kernel_rfl) (fun _ _ _ h => h) (Or.inr ⟨by rfl, rfl⟩) (by assumption) ?_
      (try simp only [Act.put, List.setIfInBounds_toArray, List.set_cons_zero, List.set_cons_succ])
      refine take_first (v := undef) 15 rfl (by kernel_rfl) (by kernel_rfl) (by kernel_rfl) (fun _ _ _ h => h) (Or.inr ⟨by rfl, rfl⟩) (by assumption) ?_
      (try simp only [Act.put, List.setIfInBounds_toArray, List.set_cons_zero, List.set_cons_succ])
      refine take_first (v := ?_) 16 rfl (by kernel_rfl) (by kernel_rfl) (by kernel_rfl) (fun _ _ _ h => h) (Or.inl ⟨by rfl, ?_⟩) (by assumption) ?_
      rotate_left
      · (intro w hSw; (try dsimp only at hSw); go_simp; try with_reducible rfl)
      (try simp only [Act.put, List.setIfInBounds_toArray, List.set_cons_zero, List.set_cons_succ])
      refine wpAnyH_done (by kernel_rfl) ?_ _
      clear hHeld
      go_wp2
      go_ret
      exact ⟨by rw [HR.out]; rfl, HM.out.bel⟩
    have HD0 := Lib.hid (show decide (bits < 0) = false by simp; omega)
    obtain ⟨wd, hwd⟩ : ∃ q, widthM a = q := ⟨_, rfl⟩
    have hwd2 := HWD.out
    simp only [hwd] at hwd2
    replace HWD := Lib.hid hwd2
    clear hwd2
    by_cases h1 : (wd : Int) < bits
    · have HR := Lib.hid (show validM a bits = false from by rw [validM, hsd, hwd, decide_eq_true (by omega), decide_eq_false (by omega)]; rfl)
      have HD1 := Lib.hid (show decide (bits > (wd : Int)) = true by simp; omega)
      refine wp_region_held_drew (S := fun W' => Mem w [blkE w.heap.size 42 (prefC a bits)] W') (by kernel_rfl) ((HM.out).drew) (fun hHeld => ?_)
      replace HM := Lib.hid HM.out.drew
      generalize w1.drew = wd1 at HM hHeld ⊢
      refine take_first (v := ?_) 0 rfl (by kernel_rfl) (by kernel_rfl) (by kernel_rfl) (fun _ _ _ h => h) (Or.inl ⟨by rfl, ?_⟩) (by assumption) ?_
      rotate_left
      · (intro w hSw; (try dsimp only at hSw); go_simp; try with_reducible rfl)
      (try simp only [Act.put, List.setIfInBounds_toArray, List.set_cons_zero, List.set_cons_succ])
      refine take_first (v := .agg ca) 1 rfl (by kernel_rfl) (by kernel_rfl) (by kernel_rfl) (fun _ _ _ h => h) (by rw [← HCA.out]; exact yields_load_obj (by rfl) 29 (.tmp 4) rfl w.heap.size 0 rfl a.cells (fun w' hb => by have h := (Mem.blk hb 0 rfl).sub 0 17; rw [prefC_addr a HO.out bits] at h; exact h) _ Try.underlying29 rfl (addr_cellsOf _ HO.out)) (by assumption) ?_
      (try simp only [Act.put, List.setIfInBounds_toArray, List.set_cons_zero, List.set_cons_succ])
      refine step_one 2 rfl (by kernel_rfl) (fun K hK => ?_)
      clear hHeld
      go_simp
      refine (HSN.out _).mono ?_
      rintro e wy2 ⟨rfl, hb⟩
      replace HM := Lib.hid (show Mem w [blkE w.heap.size 42 (prefC a bits)] wy2 from HM.out.below hb)
      clear hb
      go_wp2_with fail
      refine hK.out _ _ (HM.out) (fun hHeld => ?_)
      clear hK K
      (try simp only [Act.put, List.setIfInBounds_toArray, List.set_cons_zero, List.set_cons_succ])
      refine take_first (v := ?_) 3 rfl (by kernel_rfl) (by kernel_rfl) (by kernel_rfl) (fun _ _ _ h => h) (Or.inl ⟨by rfl, ?_⟩) (by assumption) ?_
      rotate_left
      · (intro w hSw; (try dsimp only at hSw); go_simp; try with_reducible rfl)
      (try simp only [Act.put, List.setIfInBounds_toArray, List.set_cons_zero, List.set_cons_succ])
      refine take_first (v := ?_) 4 rfl (by kernel_rfl) (by kernel_rfl) (by kernel_rfl) (fun _ _ _ h => h) (Or.inl ⟨by rfl, ?_⟩) (by assumption) ?_
      rotate_left
      · (intro w hSw; (try dsimp only at hSw); go_simp; try with_reducible rfl)
      (try simp only [Act.put, List.setIfInBounds_toArray, List.set_cons_zero, List.set_cons_succ])
      refine take_first (v := ?_) 5 rfl (by kernel_rfl) (by kernel_rfl) (by kernel_rfl) (fun _ _ _ h => h) (Or.inl ⟨by rfl, ?_⟩) (by assumption) ?_
      rotate_left
      · (intro w hSw; (try dsimp only at hSw); go_simp; try with_reducible rfl)
      (try simp only [Act.put, List.setIfInBounds_toArray, List.set_cons_zero, List.set_cons_succ])
      refine take_first (v := ?_) 6 rfl (by kernel_rfl) (by kernel_rfl) (by kernel_rfl) (fun _ _ _ h => h) (Or.inl ⟨by rfl, ?_⟩) (by assumption) ?_
      rotate_left
      · (intro w hSw; (try dsimp only at hSw); have fb := (Mem.blk hSw 0 rfl).cell 17; rw [prefC_bits a HO.out bits] at fb; go_simp; try with_reducible rfl)
      (try simp only [Act.put, List.setIfInBounds_toArray, List.set_cons_zero, List.set_cons_succ])
      refine take_first (v := ?_) 7 rfl (by kernel_rfl) (by kernel_rfl) (by kernel_rfl) (fun _ _ _ h => h) (Or.inl ⟨by rfl, ?_⟩) (by assumption) ?_
      rotate_left
      · (intro w hSw; (try dsimp only at hSw); have d0 := HD0.out; go_simp; try with_reducible rfl)
      (try simp only [Act.put, List.setIfInBounds_toArray, List.set_cons_zero, List.set_cons_succ])
      refine take_first (v := ?_) 8 rfl (by kernel_rfl) (by kernel_rfl) (by kernel_rfl) (fun _ _ _ h => h) (Or.inl ⟨by rfl, ?_⟩) (by assumption) ?_
      rotate_left
      · (intro w hSw; (try dsimp only at hSw); go_simp; try with_reducible rfl)
      (try simp only [Act.put, List.setIfInBounds_toArray, List.set_cons_zero, List.set_cons_succ])
      refine take_first (v := ?_) 9 rfl (by kernel_rfl) (by kernel_rfl) (by kernel_rfl) (fun _ _ _ h => h) (Or.inl ⟨by rfl, ?_⟩) (by assumption) ?_
      rotate_left
      · (intro w hSw; (try dsimp only at hSw); go_simp; try with_reducible rfl)
      (try simp only [Act.put, List.setIfInBounds_toArray, List.set_cons_zero, List.set_cons_succ])
      refine take_first (v := ?_) 10 rfl (by kernel_rfl) (by kernel_rfl) (by kernel_rfl) (fun _ _ _ h => h) (Or.inl ⟨by rfl, ?_⟩) (by assumption) ?_
      rotate_left
      · (intro w hSw; (try dsimp only at hSw); go_simp; try with_reducible rfl)
      (try simp only [Act.put, List.setIfInBounds_toArray, List.set_cons_zero, List.set_cons_succ])
      refine take_first (v := ?_) 11 rfl (by kernel_rfl) (by kernel_rfl) (by kernel_rfl) (fun _ _ _ h => h) (Or.inl ⟨by rfl, ?_⟩) (by assumption) ?_
      rotate_left
      · (intro w hSw; (try dsimp only at hSw); have fb := (Mem.blk hSw 0 rfl).cell 17; rw [prefC_bits a HO.out bits] at fb; go_simp; try with_reducible rfl)
      (try simp only [Act.put, List.setIfInBounds_toArray, List.set_cons_zero, List.set_cons_succ])
      refine take_first (v := ?_) 12 rfl (by kernel_rfl) (by kernel_rfl) (by kernel_rfl) (fun _ _ _ h => h) (Or.inl ⟨by rfl, ?_⟩) (by assumption) ?_
      rotate_left
      · (intro w hSw; (try dsimp only at hSw); go_simp; try with_reducible rfl)
      (try simp only [Act.put, List.setIfInBounds_toArray, List.set_cons_zero, List.set_cons_succ])
      refine take_first (v := .agg ca) 13 rfl (by kernel_rfl) (by kernel_rfl) (by kernel_rfl) (fun _ _ _ h => h) (by rw [← HCA.out]; exact yields_load_obj (by rfl) 29 (.tmp 16) rfl w.heap.size 0 rfl a.cells (fun w' hb => by have h := (Mem.blk hb 0 rfl).sub 0 17; rw [prefC_addr a HO.out bits] at h; exact h) _ Try.underlying29 rfl (addr_cellsOf _ HO.out)) (by assumption) ?_
      (try simp only [Act.put, List.setIfInBounds_toArray, List.set_cons_zero, List.set_cons_succ])
      refine step_one 14 rfl (by kernel_rfl) (fun K hK => ?_)
      clear hHeld
      go_simp
      refine (HWD.out _).mono ?_
      rintro e wy3 ⟨rfl, hb⟩
      replace HM := Lib.hid (show Mem w [blkE w.heap.size 42 (prefC a bits)] wy3 from HM.out.below hb)
      clear hb
      go_wp2_with fail
      refine hK.out _ _ (HM.out) (fun hHeld => ?_)
      clear hK K
      (try simp only [Act.put, List.setIfInBounds_toArray, List.set_cons_zero, List.set_cons_succ])
      refine take_first (v := ?_) 15 rfl (by kernel_rfl) (by kernel_rfl) (by kernel_rfl) (fun _ _ _ h => h) (Or.inl ⟨by rfl, ?_⟩) (by assumption) ?_
      rotate_left
      · (intro w hSw; (try dsimp only at hSw); have d1 := HD1.out; go_simp; try with_reducible rfl)
      (try simp only [Act.put, List.setIfInBounds_toArray, List.set_cons_zero, List.set_cons_succ])
      refine take_first (v := ?_) 16 rfl (by kernel_rfl) (by kernel_rfl) (by kernel_rfl) (fun _ _ _ h => h) (Or.inl ⟨by rfl, ?_⟩) (by assumption) ?_
      rotate_left
      · (intro w hSw; (try dsimp only at hSw); go_simp; try with_reducible rfl)
      (try simp only [Act.put, List.setIfInBounds_toArray, List.set_cons_zero, List.set_cons_succ])
      refine wpAnyH_done (by kernel_rfl) ?_ _
      clear hHeld
      go_wp2
      go_ret
      exact ⟨by rw [HR.out]; rfl, HM.out.bel⟩
    have HD1 := Lib.hid (show decide (bits > (wd : Int)) = false by simp; omega)
    have HV := Lib.hid (validM_iff a bits hsd (by omega) (by rw [hwd]; omega))
    have hb128 : bits ≤ 128 := by omega
    refine wp_region_held_drew (S := fun W' => Mem w [blkE w.heap.size 42 (prefC a bits)] W') (by kernel_rfl) ((HM.out).drew) (fun hHeld => ?_)
    replace HM := Lib.hid HM.out.drew
    generalize w1.drew = wd1 at HM hHeld ⊢
    refine take_first (v := ?_) 0 rfl (by kernel_rfl) (by kernel_rfl) (by kernel_rfl) (fun _ _ _ h => h) (Or.inl ⟨by rfl, ?_⟩) (by assumption) ?_
    rotate_left
    · (intro w hSw; (try dsimp only at hSw); go_simp; try with_reducible rfl)
    (try simp only [Act.put, List.setIfInBounds_toArray, List.set_cons_zero, List.set_cons_succ])
    refine take_first (v := .agg ca) 1 rfl (by kernel_rfl) (by kernel_rfl) (by kernel_rfl) (fun _ _ _ h => h) (by rw [← HCA.out]; exact yields_load_obj (by rfl) 29 (.tmp 4) rfl w.heap.size 0 rfl a.cells (fun w' hb => by have h := (Mem.blk hb 0 rfl).sub 0 17; rw [prefC_addr a HO.out bits] at h; exact h) _ Try.underlying29 rfl (addr_cellsOf _ HO.out)) (by assumption) ?_
    (try simp only [Act.put, List.setIfInBounds_toArray, List.set_cons_zero, List.set_cons_succ])
    refine step_one 2 rfl (by kernel_rfl) (fun K hK => ?_)
    clear hHeld
    go_simp
    refine (HSN.out _).mono ?_
    rintro e wy2 ⟨rfl, hb⟩
    replace HM := Lib.hid (show Mem w [blkE w.heap.size 42 (prefC a bits)] wy2 from HM.out.below hb)
    clear hb
    go_wp2_with fail
    refine hK.out _ _ (HM.out) (fun hHeld => ?_)
    clear hK K
    (try simp only [Act.put, List.setIfInBounds_toArray, List.set_cons_zero, List.set_cons_succ])
    refine take_first (v := ?_) 3 rfl (by kernel_rfl) (by kernel_rfl) (by kernel_rfl) (fun _ _ _ h => h) (Or.inl ⟨by rfl, ?_⟩) (by assumption) ?_
    rotate_left
    · (intro w hSw; (try dsimp only at hSw); go_simp; try with_reducible rfl)
    (try simp only [Act.put, List.setIfInBounds_toArray, List.set_cons_zero, List.set_cons_succ])
    refine take_first (v := ?_) 4 rfl (by kernel_rfl) (by kernel_rfl) (by kernel_rfl) (fun _ _ _ h => h) (Or.inl ⟨by rfl, ?_⟩) (by assumption) ?_
    rotate_left
    · (intro w hSw; (try dsimp only at hSw); go_simp; try with_reducible rfl)
    (try simp only [Act.put, List.setIfInBounds_toArray, List.set_cons_zero, List.set_cons_succ])
    refine take_first (v := ?_) 5 rfl (by kernel_rfl) (by kernel_rfl) (by kernel_rfl) (fun _ _ _ h => h) (Or.inl ⟨by rfl, ?_⟩) (by assumption) ?_
    rotate_left
    · (intro w hSw; (try dsimp only at hSw); go_simp; try with_reducible rfl)
    (try simp only [Act.put, List.setIfInBounds_toArray, List.set_cons_zero, List.set_cons_succ])
    refine take_first (v := ?_) 6 rfl (by kernel_rfl) (by kernel_rfl) (by kernel_rfl) (fun _ _ _ h => h) (Or.inl ⟨by rfl, ?_⟩) (by assumption) ?_
    rotate_left
    · (intro w hSw; (try dsimp only at hSw); have fb := (Mem.blk hSw 0 rfl).cell 17; rw [prefC_bits a HO.out bits] at fb; go_simp; try with_reducible rfl)
    (try simp only [Act.put, List.setIfInBounds_toArray, List.set_cons_zero, List.set_cons_succ])
    refine take_first (v := ?_) 7 rfl (by kernel_rfl) (by kernel_rfl) (by kernel_rfl) (fun _ _ _ h => h) (Or.inl ⟨by rfl, ?_⟩) (by assumption) ?_
    rotate_left
    · (intro w hSw; (try dsimp only at hSw); have d0 := HD0.out; go_simp; try with_reducible rfl)
    (try simp only [Act.put, List.setIfInBounds_toArray, List.set_cons_zero, List.set_cons_succ])
    refine take_first (v := ?_) 8 rfl (by kernel_rfl) (by kernel_rfl) (by kernel_rfl) (fun _ _ _ h => h) (Or.inl ⟨by rfl, ?_⟩) (by assumption) ?_
    rotate_left
    · (intro w hSw; (try dsimp only at hSw); go_simp; try with_reducible rfl)
    (try simp only [Act.put, List.setIfInBounds_toArray, List.set_cons_zero, List.set_cons_succ])
    refine take_first (v := ?_) 9 rfl (by kernel_rfl) (by kernel_rfl) (by kernel_rfl) (fun _ _ _ h => h) (Or.inl ⟨by rfl, ?_⟩) (by assumption) ?_
    rotate_left
    · (intro w hSw; (try dsimp only at hSw); go_simp; try with_reducible rfl)
    (try simp only [Act.put, List.setIfInBounds_toArray, List.set_cons_zero, List.set_cons_succ])
    refine take_first (v := ?_) 10 rfl (by kernel_rfl) (by kernel_rfl) (by kernel_rfl) (fun _ _ _ h => h) (Or.inl ⟨by rfl, ?_⟩) (by assumption) ?_
    rotate_left
    · (intro w hSw; (try dsimp only at hSw); go_simp; try with_reducible rfl)
    (try simp only [Act.put, List.setIfInBounds_toArray, List.set_cons_zero, List.set_cons_succ])
    refine take_first (v := ?_) 11 rfl (by kernel_rfl) (by kernel_rfl) (by kernel_rfl) (fun _ _ _ h => h) (Or.inl ⟨by rfl, ?_⟩) (by assumption) ?_
    rotate_left
    · (intro w hSw; (try dsimp only at hSw); have fb := (Mem.blk hSw 0 rfl).cell 17; rw [prefC_bits a HO.out bits] at fb; go_simp; try with_reducible rfl)
    (try simp only [Act.put, List.setIfInBounds_toArray, List.set_cons_zero, List.set_cons_succ])
    refine take_first (v := ?_) 12 rfl (by kernel_rfl) (by kernel_rfl) (by kernel_rfl) (fun _ _ _ h => h) (Or.inl ⟨by rfl, ?_⟩) (by assumption) ?_
    rotate_left
    · (intro w hSw; (try dsimp only at hSw); go_simp; try with_reducible rfl)
    (try simp only [Act.put, List.setIfInBounds_toArray, List.set_cons_zero, List.set_cons_succ])
    refine take_first (v := .agg ca) 13 rfl (by kernel_rfl) (by kernel_rfl) (by kernel_rfl) (fun _ _ _ h => h) (by rw [← HCA.out]; exact yields_load_obj (by rfl) 29 (.tmp 16) rfl w.heap.size 0 rfl a.cells (fun w' hb => by have h := (Mem.blk hb 0 rfl).sub 0 17; rw [prefC_addr a HO.out bits] at h; exact h) _ Try.underlying29 rfl (addr_cellsOf _ HO.out)) (by assumption) ?_
    (try simp only [Act.put, List.setIfInBounds_toArray, List.set_cons_zero, List.set_cons_succ])
    refine step_one 14 rfl (by kernel_rfl) (fun K hK => ?_)
    clear hHeld
    go_simp
    refine (HWD.out _).mono ?_
    rintro e wy3 ⟨rfl, hb⟩
    replace HM := Lib.hid (show Mem w [blkE w.heap.size 42 (prefC a bits)] wy3 from HM.out.below hb)
    clear hb
    go_wp2_with fail
    refine hK.out _ _ (HM.out) (fun hHeld => ?_)
    clear hK K
    (try simp only [Act.put, List.setIfInBounds_toArray, List.set_cons_zero, List.set_cons_succ])
    refine take_first (v := ?_) 15 rfl (by kernel_rfl) (by kernel_rfl) (by kernel_rfl) (fun _ _ _ h => h) (Or.inl ⟨by rfl, ?_⟩) (by assumption) ?_
    rotate_left
    · (intro w hSw; (try dsimp only at hSw); have d1 := HD1.out; go_simp; try with_reducible rfl)
    (try simp only [Act.put, List.setIfInBounds_toArray, List.set_cons_zero, List.set_cons_succ])
    refine take_first (v := ?_) 16 rfl (by kernel_rfl) (by kernel_rfl) (by kernel_rfl) (fun _ _ _ h => h) (Or.inl ⟨by rfl, ?_⟩) (by assumption) ?_
    rotate_left
    · (intro w hSw; (try dsimp only at hSw); go_simp; try with_reducible rfl)
    (try simp only [Act.put, List.setIfInBounds_toArray, List.set_cons_zero, List.set_cons_succ])
    refine wpAnyH_done (by kernel_rfl) ?_ _
    clear hHeld
    revert wy3
    intro w2 HM
    obtain ⟨b, rfl⟩ : ∃ b : Nat, bits = (b : Int) := ⟨bits.toNat, by omega⟩
    have fb := (HM.out.blk 0 rfl).cell 17
    rw [prefC_bits a HO.out (b : Int)] at fb
    go_upto_region 4 with fail
    clear fb
    go_loopw [3] (fun z wr => ∃ k : Nat, b ≤ k ∧ k ≤ 128 ∧ z = .int .i64 (k : Int) ∧ (∀ i, b ≤ i → i < k → bitM a.ip i = 0) ∧ Mem w [blkE w.heap.size 42 (prefC a (b : Int))] wr) (fun z _ => 128 - (intOf z).toNat)
    case atStart => exact ⟨b, by omega, by omega, rfl, fun i h1 h2 => absurd h1 (by omega), HM.out⟩
    case round =>
      clear HM
      obtain ⟨k, hbk, hk, rfl, hz, hM⟩ := hrel
      have HM := Lib.hid hM
      have HZ := Lib.hid hz
      clear hM hz
      by_cases hlt : k < 128
      · have dl : decide ((k : Int) < 128) = true := by simp; omega
        have HK := Lib.hid (HBT.out k hlt)
        obtain ⟨q, hq⟩ : ∃ q, bitM a.ip k = q := ⟨_, rfl⟩
        have hk2 := HK.out
        simp only [hq] at hk2
        replace HK := Lib.hid hk2
        clear hk2
        go_wp2_with (refine wpList_load_obj rfl 29 (.tmp 27) rfl w.heap.size 0 rfl a.cells (by have h := (Mem.blk HM.out 0 rfl).sub 0 17; rw [prefC_addr a HO.out (b : Int)] at h; exact h) _ Try.underlying29 rfl (addr_cellsOf _ HO.out) ?_; rw [HCA.out])
        refine (HK.out _).mono ?_
        rintro e w3 ⟨rfl, hb⟩
        replace HM := Lib.hid (HM.out.below hb)
        clear hb
        by_cases hq0 : q = 0
        · have hne : ((q : Int) != 0) = false := by subst hq0; rfl
          have HQ := Lib.hid (show bitM a.ip k = 0 by rw [hq, hq0])
          clear hq hq0
          go_wp2
          go_roundw
          case rel => exact ⟨k + 1, by omega, by omega, by go_num, (fun i h1 h2 => by
            by_cases e : i = k
            · subst e; exact HQ.out
            · exact HZ.out i h1 (by omega)), HM.out⟩
          case measure => simp [intOf]; omega
        · have hne : ((q : Int) != 0) = true := by simp; omega
          have HR := Lib.hid (show validM a (b : Int) = false from by
            rw [Bool.eq_false_iff]
            intro hv
            have := HV.out.1 hv k (by omega) hlt
            omega)
          clear hq hq0
          go_wp2
          go_ret
          exact ⟨by rw [HR.out]; rfl, HM.out.bel⟩
      · obtain rfl : k = 128 := by omega
        have HR := Lib.hid (show validM a (b : Int) = true from HV.out.2 (fun (i : Nat) h1 h2 => HZ.out i (by omega) h2))
        (try rw [show ((128 : Nat) : Int) = 128 from rfl])
        go_wp2
        go_ret
        exact ⟨by rw [HR.out]; rfl, HM.out.bel⟩
theorem containsM_iff (a x : AddrM) (bits : Int) (hv : validM a bits = true) (hs : soundM x = true) (h6 : (x.six == a.six) = true) : containsM a bits x = true ↔ ∀ i : Nat, (i : Int) < bits → i < 128 → bitM x.ip i = bitM a.ip i := by
  rw [containsM, hv, hs, h6, Bool.true_and, Bool.true_and, Bool.true_and, List.all_eq_true]
  constructor
  · intro h i hi hlt
    have := h i (List.mem_range.2 hlt)
    rw [Bool.or_eq_true, decide_eq_true_iff, beq_iff_eq] at this
    rcases this with h2 | h2
    · omega
    · exact h2
  · intro h i hi
    rw [Bool.or_eq_true, decide_eq_true_iff, beq_iff_eq]
    by_cases h2 : bits ≤ (i : Int)
    · exact .inl h2
    · exact .inr (h i (by omega) (List.mem_range.1 hi))
theorem validM_bits (a : AddrM) (bits : Int) (h : validM a bits = true) : 0 ≤ bits ∧ bits ≤ 128 := by
  rw [validM, Bool.and_eq_true, Bool.and_eq_true, Bool.and_eq_true, decide_eq_true_iff, decide_eq_true_iff] at h
  have := widthM_le a
  omega
theorem pref_cellsOf (a : AddrM) (h : a.ok) (bits : Int) : (Try.prog.info? 42).map (·.size) = some (prefC a bits).length := by
  rw [prefC_length a h]; kernel_rfl
set_option maxRecDepth 100000 in
set_option maxHeartbeats 8000000 in
theorem refContains_any (a : AddrM) (h : a.ok) (bits : Int) (hb1 : -9223372036854775808 ≤ bits) (hb2 : bits ≤ 9223372036854775807) (x : AddrM) (hx : x.ok) (w : World) :
    Calls Try.prog 20 #[.agg (prefC a bits).toArray, .agg x.cells.toArray] w fun e w' => e = .returned (.bool (containsM a bits x)) ∧ Below w.heap.size w w' := by
  have VC := fun W : World => refValid_any a h bits hb1 hb2 W
  have SC := fun W : World => refSound_any x hx W
  have BX := fun (i : Nat) (hi : i < 128) (W : World) => refBit_any x hx i hi W
  have BA := fun (i : Nat) (hi : i < 128) (W : World) => refBit_any a h i hi W
  obtain ⟨cp, hcp⟩ : ∃ c, (prefC a bits).toArray = c := ⟨_, rfl⟩
  obtain ⟨cx, hcx⟩ : ∃ c, x.cells.toArray = c := ⟨_, rfl⟩
  obtain ⟨ca, hca⟩ : ∃ c, a.cells.toArray = c := ⟨_, rfl⟩
  simp only [hcp] at VC
  simp only [hcx] at SC BX
  simp only [hca] at BA
  rw [hcp, hcx]
  have HM := Lib.hid (show Mem w [blkE (w.heap.size + 1) 29 x.cells, blkE w.heap.size 42 (prefC a bits)] ((w.alloc (.cells cp 42)).alloc (.cells cx 29)) from ((Mem.nil w).alloc rfl 42 cp (prefC a bits) hcp.symm).alloc (by simp) 29 cx x.cells hcx.symm)
  have HO := Lib.hid h
  have HOX := Lib.hid hx
  have HCA := Lib.hid hca
  have HCX := Lib.hid hcx
  have HCP := Lib.hid hcp
  have HBX := Lib.hid BX
  have HBA := Lib.hid BA
  obtain ⟨vd, hvd⟩ : ∃ q, validM a bits = q := ⟨_, rfl⟩
  obtain ⟨sd, hsd⟩ : ∃ q, soundM x = q := ⟨_, rfl⟩
  rw [hvd] at VC
  rw [hsd] at SC
  have HVC := Lib.hid VC
  have HSC := Lib.hid SC
  clear hcp hcx hca h hx BX BA VC SC hb1 hb2
  go_enter Try.func20, Try.ntmps20
  go_upto_region 1 with fail
  generalize ((w.alloc (.cells cp 42)).alloc (.cells cx 29)) = w1 at HM ⊢
  go_wp2_with (refine wpList_load_obj rfl 42 (.tmp 2) rfl w.heap.size 0 rfl (prefC a bits) (HM.out.blk 1 rfl).all _ Try.underlying42 rfl (pref_cellsOf a HO.out bits) ?_; rw [HCP.out])
  refine (HVC.out _).mono ?_
  rintro e w2 ⟨rfl, hb⟩
  replace HM := Lib.hid (HM.out.below hb)
  clear hb
  cases vd with
  | false =>
    have HR := Lib.hid (show containsM a bits x = false from by rw [containsM, hvd]; rfl)
    go_wp2
    go_ret
    exact ⟨by rw [HR.out]; rfl, HM.out.bel⟩
  | true =>
    have hbb := validM_bits a bits hvd
    go_wp2_with (refine wpList_load_obj_g (by rfl) 29 (.tmp 3) rfl (w.heap.size + 1) 0 rfl x.cells (HM.out.blk 0 rfl).all _ Try.underlying29 rfl (addr_cellsOf _ HOX.out) ?_; rw [HCX.out])
    refine (HSC.out _).mono ?_
    rintro e w3 ⟨rfl, hb⟩
    replace HM := Lib.hid (HM.out.below hb)
    clear hb
    cases sd with
    | false =>
      have HR := Lib.hid (show containsM a bits x = false from by rw [containsM, hsd]; simp)
      go_wp2
      go_ret
      exact ⟨by rw [HR.out]; rfl, HM.out.bel⟩
    | true =>
      have f1 := ((HM.out.blk 0 rfl).cell 0).trans (AddrM.six_cell x)
      have f2 := ((HM.out.blk 1 rfl).cell 0).trans (prefC_six a bits)
      by_cases h6 : x.six = a.six
      · have HV := Lib.hid (containsM_iff a x bits hvd hsd (by rw [h6]; simp))
        rw [h6] at f1
        have hne : (a.six != a.six) = false := by simp
        clear h6 hvd hsd
        obtain ⟨b, rfl⟩ : ∃ b : Nat, bits = (b : Int) := ⟨bits.toNat, by omega⟩
        generalize a.six = sx at f1 f2 hne
        go_upto_region 4 with fail
        clear f1 f2 hne
        go_loopw [5] (fun z wr => ∃ k : Nat, k ≤ b ∧ z = .int .i64 (k : Int) ∧ (∀ i, i < k → bitM x.ip i = bitM a.ip i) ∧ Mem w [blkE (w.heap.size + 1) 29 x.cells, blkE w.heap.size 42 (prefC a (b : Int))] wr) (fun z _ => b - (intOf z).toNat)
        case atStart => exact ⟨0, by omega, rfl, fun i h1 => absurd h1 (by omega), HM.out⟩
        case round =>
          clear HM
          obtain ⟨k, hk, rfl, hz, hM⟩ := hrel
          have HM := Lib.hid hM
          have HZ := Lib.hid hz
          clear hM hz
          have fb := (HM.out.blk 1 rfl).cell 17
          rw [prefC_bits a HO.out (b : Int)] at fb
          by_cases hlt0 : k < b
          · have dl : decide ((k : Int) < (b : Int)) = true := by simp; omega
            have hlt : (k : Int) < (b : Int) := by omega
            have HKX := Lib.hid (HBX.out k (by omega))
            have HKA := Lib.hid (HBA.out k (by omega))
            go_upto_region 6 with fail
            clear fb dl
            by_cases hq : bitM x.ip k = bitM a.ip k
            · have HNE := Lib.hid (show ((bitM x.ip k : Int) != (bitM a.ip k : Int)) = false by rw [hq]; simp)
              have HQ := Lib.hid hq
              clear hq
              refine wp_region_held_drew (S := fun W' => Mem w [blkE (w.heap.size + 1) 29 x.cells, blkE w.heap.size 42 (prefC a (b : Int))] W') (by kernel_rfl) ((HM.out).drew) (fun hHeld => ?_)
              replace HM := Lib.hid HM.out.drew
              generalize wr.drew = wd1 at HM hHeld ⊢
              refine take_first (v := .agg cx) 0 rfl (by kernel_rfl) (by kernel_rfl) (by kernel_rfl) (fun _ _ _ h => h) (by rw [← HCX.out]; exact yields_load_obj (by rfl) 29 (.tmp 3) rfl (w.heap.size + 1) 0 rfl x.cells (fun w' hb => (Mem.blk hb 0 rfl).all) _ Try.underlying29 rfl (addr_cellsOf _ HOX.out)) (by assumption) ?_
              (try simp only [Act.put, List.setIfInBounds_toArray, List.set_cons_zero, List.set_cons_succ])
              refine take_first (v := ?_) 1 rfl (by kernel_rfl) (by kernel_rfl) (by kernel_rfl) (fun _ _ _ h => h) (Or.inl ⟨by rfl, ?_⟩) (by assumption) ?_
              rotate_left
              · (intro w hSw; (try dsimp only at hSw); go_simp; try with_reducible rfl)
              (try simp only [Act.put, List.setIfInBounds_toArray, List.set_cons_zero, List.set_cons_succ])
              refine take_first (v := ?_) 3 rfl (by kernel_rfl) (by kernel_rfl) (by kernel_rfl) (fun _ _ _ h => h) (Or.inl ⟨by rfl, ?_⟩) (by assumption) ?_
              rotate_left
              · (intro w hSw; (try dsimp only at hSw); go_simp; try with_reducible rfl)
              (try simp only [Act.put, List.setIfInBounds_toArray, List.set_cons_zero, List.set_cons_succ])
              refine take_first (v := .agg ca) 4 rfl (by kernel_rfl) (by kernel_rfl) (by kernel_rfl) (fun _ _ _ h => h) (by rw [← HCA.out]; exact yields_load_obj (by rfl) 29 (.tmp 31) rfl w.heap.size 0 rfl a.cells (fun w' hb => by have h := (Mem.blk hb 1 rfl).sub 0 17; rw [prefC_addr a HO.out (b : Int)] at h; exact h) _ Try.underlying29 rfl (addr_cellsOf _ HO.out)) (by assumption) ?_
              (try simp only [Act.put, List.setIfInBounds_toArray, List.set_cons_zero, List.set_cons_succ])
              refine take_first (v := ?_) 5 rfl (by kernel_rfl) (by kernel_rfl) (by kernel_rfl) (fun _ _ _ h => h) (Or.inl ⟨by rfl, ?_⟩) (by assumption) ?_
              rotate_left
              · (intro w hSw; (try dsimp only at hSw); go_simp; try with_reducible rfl)
              (try simp only [Act.put, List.setIfInBounds_toArray, List.set_cons_zero, List.set_cons_succ])
              refine step_one 2 rfl (by kernel_rfl) (fun K hK => ?_)
              clear hHeld
              go_simp
              refine (HKX.out _).mono ?_
              rintro e wy2 ⟨rfl, hb⟩
              replace HM := Lib.hid (show Mem w [blkE (w.heap.size + 1) 29 x.cells, blkE w.heap.size 42 (prefC a (b : Int))] wy2 from HM.out.below hb)
              clear hb
              go_wp2_with fail
              refine hK.out _ _ (HM.out) (fun hHeld => ?_)
              clear hK K
              (try simp only [Act.put, List.setIfInBounds_toArray, List.set_cons_zero, List.set_cons_succ])
              refine step_one 6 rfl (by kernel_rfl) (fun K hK => ?_)
              clear hHeld
              go_simp
              refine (HKA.out _).mono ?_
              rintro e wy3 ⟨rfl, hb⟩
              replace HM := Lib.hid (show Mem w [blkE (w.heap.size + 1) 29 x.cells, blkE w.heap.size 42 (prefC a (b : Int))] wy3 from HM.out.below hb)
              clear hb
              go_wp2_with fail
              refine hK.out _ _ (HM.out) (fun hHeld => ?_)
              clear hK K
              (try simp only [Act.put, List.setIfInBounds_toArray, List.set_cons_zero, List.set_cons_succ])
              refine take_first (v := ?_) 7 rfl (by kernel_rfl) (by kernel_rfl) (by kernel_rfl) (fun _ _ _ h => h) (Or.inl ⟨by rfl, ?_⟩) (by assumption) ?_
              rotate_left
              · (intro w hSw; (try dsimp only at hSw); have hne := HNE.out; go_simp; try with_reducible rfl)
              (try simp only [Act.put, List.setIfInBounds_toArray, List.set_cons_zero, List.set_cons_succ])
              refine wpAnyH_done (by kernel_rfl) ?_ _
              clear hHeld
              revert wy3
              intro w3 HM
              go_wp2
              go_roundw
              case rel => exact ⟨k + 1, by omega, by go_num, (fun i h1 => by
                by_cases e : i = k
                · subst e; exact HQ.out
                · exact HZ.out i (by omega)), HM.out⟩
              case measure => simp [intOf]; omega
            · have HNE := Lib.hid (show ((bitM x.ip k : Int) != (bitM a.ip k : Int)) = true by simp; omega)
              have HR := Lib.hid (show containsM a (b : Int) x = false from by
                rw [Bool.eq_false_iff]
                intro hv
                exact hq (HV.out.1 hv k hlt (by omega)))
              clear hq
              refine wp_region_held_drew (S := fun W' => Mem w [blkE (w.heap.size + 1) 29 x.cells, blkE w.heap.size 42 (prefC a (b : Int))] W') (by kernel_rfl) ((HM.out).drew) (fun hHeld => ?_)
              replace HM := Lib.hid HM.out.drew
              generalize wr.drew = wd1 at HM hHeld ⊢
              refine take_first (v := .agg cx) 0 rfl (by kernel_rfl) (by kernel_rfl) (by kernel_rfl) (fun _ _ _ h => h) (by rw [← HCX.out]; exact yields_load_obj (by rfl) 29 (.tmp 3) rfl (w.heap.size + 1) 0 rfl x.cells (fun w' hb => (Mem.blk hb 0 rfl).all) _ Try.underlying29 rfl (addr_cellsOf _ HOX.out)) (by assumption) ?_
              (try simp only [Act.put, List.setIfInBounds_toArray, List.set_cons_zero, List.set_cons_succ])
              refine take_first (v := ?_) 1 rfl (by kernel_rfl) (by kernel_rfl) (by kernel_rfl) (fun _ _ _ h => h) (Or.inl ⟨by rfl, ?_⟩) (by assumption) ?_
              rotate_left
              · (intro w hSw; (try dsimp only at hSw); go_simp; try with_reducible rfl)
              (try simp only [Act.put, List.setIfInBounds_toArray, List.set_cons_zero, List.set_cons_succ])
              refine take_first (v := ?_) 3 rfl (by kernel_rfl) (by kernel_rfl) (by kernel_rfl) (fun _ _ _ h => h) (Or.inl ⟨by rfl, ?_⟩) (by assumption) ?_
              rotate_left
              · (intro w hSw; (try dsimp only at hSw); go_simp; try with_reducible rfl)
              (try simp only [Act.put, List.setIfInBounds_toArray, List.set_cons_zero, List.set_cons_succ])
              refine take_first (v := .agg ca) 4 rfl (by kernel_rfl) (by kernel_rfl) (by kernel_rfl) (fun _ _ _ h => h) (by rw [← HCA.out]; exact yields_load_obj (by rfl) 29 (.tmp 31) rfl w.heap.size 0 rfl a.cells (fun w' hb => by have h := (Mem.blk hb 1 rfl).sub 0 17; rw [prefC_addr a HO.out (b : Int)] at h; exact h) _ Try.underlying29 rfl (addr_cellsOf _ HO.out)) (by assumption) ?_
              (try simp only [Act.put, List.setIfInBounds_toArray, List.set_cons_zero, List.set_cons_succ])
              refine take_first (v := ?_) 5 rfl (by kernel_rfl) (by kernel_rfl) (by kernel_rfl) (fun _ _ _ h => h) (Or.inl ⟨by rfl, ?_⟩) (by assumption) ?_
              rotate_left
              · (intro w hSw; (try dsimp only at hSw); go_simp; try with_reducible rfl)
              (try simp only [Act.put, List.setIfInBounds_toArray, List.set_cons_zero, List.set_cons_succ])
              refine step_one 2 rfl (by kernel_rfl) (fun K hK => ?_)
              clear hHeld
              go_simp
              refine (HKX.out _).mono ?_
              rintro e wy2 ⟨rfl, hb⟩
              replace HM := Lib.hid (show Mem w [blkE (w.heap.size + 1) 29 x.cells, blkE w.heap.size 42 (prefC a (b : Int))] wy2 from HM.out.below hb)
              clear hb
              go_wp2_with fail
              refine hK.out _ _ (HM.out) (fun hHeld => ?_)
              clear hK K
              (try simp only [Act.put, List.setIfInBounds_toArray, List.set_cons_zero, List.set_cons_succ])
              refine step_one 6 rfl (by kernel_rfl) (fun K hK => ?_)
              clear hHeld
              go_simp
              refine (HKA.out _).mono ?_
              rintro e wy3 ⟨rfl, hb⟩
              replace HM := Lib.hid (show Mem w [blkE (w.heap.size + 1) 29 x.cells, blkE w.heap.size 42 (prefC a (b : Int))] wy3 from HM.out.below hb)
              clear hb
              go_wp2_with fail
              refine hK.out _ _ (HM.out) (fun hHeld => ?_)
              clear hK K
              (try simp only [Act.put, List.setIfInBounds_toArray, List.set_cons_zero, List.set_cons_succ])
              refine take_first (v := ?_) 7 rfl (by kernel_rfl) (by kernel_rfl) (by kernel_rfl) (fun _ _ _ h => h) (Or.inl ⟨by rfl, ?_⟩) (by assumption) ?_
              rotate_left
              · (intro w hSw; (try dsimp only at hSw); have hne := HNE.out; go_simp; try with_reducible rfl)
              (try simp only [Act.put, List.setIfInBounds_toArray, List.set_cons_zero, List.set_cons_succ])
              refine wpAnyH_done (by kernel_rfl) ?_ _
              clear hHeld
              revert wy3
              intro w3 HM
              go_wp2
              go_ret
              exact ⟨by rw [HR.out]; rfl, HM.out.bel⟩
          · obtain rfl : k = b := by omega
            have dl : decide ((k : Int) < (k : Int)) = false := by simp
            have HR := Lib.hid (show containsM a (k : Int) x = true from HV.out.2 (fun i h1 _ => HZ.out i (by omega)))
            go_wp2
            go_ret
            exact ⟨by rw [HR.out]; rfl, HM.out.bel⟩
      · have HR := Lib.hid (show containsM a bits x = false from by rw [containsM, show (x.six == a.six) = false by simpa using h6]; simp)
        clear hvd hsd
        generalize x.six = s1 at f1 h6
        generalize a.six = s2 at f2 h6
        have hc : (s1 = true ∧ s2 = false) ∨ (s1 = false ∧ s2 = true) := by revert h6; cases s1 <;> cases s2 <;> simp
        clear h6
        rcases hc with ⟨rfl, rfl⟩ | ⟨rfl, rfl⟩
        · go_wp2
          go_ret
          exact ⟨by rw [HR.out]; rfl, HM.out.bel⟩
        · go_wp2
          go_ret
          exact ⟨by rw [HR.out]; rfl, HM.out.bel⟩
theorem AddrM.rd {w : World} {g : Nat} {t : TypeId} {a : AddrM} (h : Blk w g t a.cells) (ho : a.ok) : Rd w (g + 1) (some ⟨g, 1, none⟩) 16 a.ip :=
  ⟨ho, fun _ => ⟨g, 1, rfl, Nat.lt_succ_self _, fun j hj => by
    rw [h.cell (1 + j), AddrM.ip_cell a ho j (by rw [ho] at hj; exact hj), List.getD_eq_getElem?_getD, List.getElem?_eq_getElem hj]
    rfl⟩⟩
set_option maxRecDepth 100000 in
set_option maxHeartbeats 2000000 in
theorem refLess_any (a b : AddrM) (ha : a.ok) (hb : b.ok) (w : World) :
    Calls Try.prog 24 #[.agg a.cells.toArray, .agg b.cells.toArray] w fun e w' => e = .returned (.bool (lessM a b)) ∧ Below w.heap.size w w' := by
  obtain ⟨ca, hca⟩ : ∃ x, a.cells.toArray = x := ⟨_, rfl⟩
  obtain ⟨cb, hcb⟩ : ∃ x, b.cells.toArray = x := ⟨_, rfl⟩
  rw [hca, hcb]
  have HM := Lib.hid (show Mem w [blkE (w.heap.size + 1) 29 b.cells, blkE w.heap.size 29 a.cells] ((w.alloc (.cells ca 29)).alloc (.cells cb 29)) from ((Mem.nil w).alloc rfl 29 ca a.cells hca.symm).alloc (by simp) 29 cb b.cells hcb.symm)
  have HOA := Lib.hid ha
  have HOB := Lib.hid hb
  clear hca hcb ha hb
  go_enter Try.func24, Try.ntmps24
  go_upto_region 1 with fail
  generalize ((w.alloc (.cells ca 29)).alloc (.cells cb 29)) = w1 at HM ⊢
  have f1 := ((HM.out.blk 1 rfl).cell 0).trans (AddrM.six_cell a)
  have f2 := ((HM.out.blk 0 rfl).cell 0).trans (AddrM.six_cell b)
  by_cases h6 : a.six = b.six
  · have HE := Lib.hid (show lessM a b = Op.bytesLess a.ip b.ip by rw [lessM, if_pos h6])
    rw [h6] at f1
    have hne : (b.six != b.six) = false := by simp
    clear h6
    generalize b.six = sx at f1 f2 hne
    go_upto_region 3 with fail
    clear f1 f2 hne
    generalize w.heap.size = GA at HM ⊢
    refine wp_region_held_drew (S := fun W' => Mem w [blkE (GA + 1) 29 b.cells, blkE GA 29 a.cells] W') (by kernel_rfl) ((HM.out).drew) (fun hHeld => ?_)
    replace HM := Lib.hid HM.out.drew
    generalize w1.drew = wd1 at HM hHeld ⊢
    refine take_first (v := ?_) 0 rfl (by kernel_rfl) (by kernel_rfl) (by kernel_rfl) (fun _ _ _ h => h) (Or.inl ⟨by rfl, ?_⟩) (by assumption) ?_
    rotate_left
    · (intro w hSw; (try dsimp only at hSw); go_simp; try with_reducible rfl)
    (try simp only [Act.put, List.setIfInBounds_toArray, List.set_cons_zero, List.set_cons_succ])
    refine take_first (v := ?_) 1 rfl (by kernel_rfl) (by kernel_rfl) (by kernel_rfl) (fun _ _ _ h => h) (Or.inl ⟨by rfl, ?_⟩) (by assumption) ?_
    rotate_left
    · (intro w hSw; (try dsimp only at hSw); go_simp; try with_reducible rfl)
    (try simp only [Act.put, List.setIfInBounds_toArray, List.set_cons_zero, List.set_cons_succ])
    refine take_first (v := ?_) 2 rfl (by kernel_rfl) (by kernel_rfl) (by kernel_rfl) (fun _ _ _ h => h) (Or.inl ⟨by rfl, ?_⟩) (by assumption) ?_
    rotate_left
    · (intro w hSw; (try dsimp only at hSw); have cv : (convert 22 9 (.slice (some ⟨GA, 1, none⟩) 16 16)).run Try.prog w = .ok (.string ⟨a.ip.toArray⟩) w := run_string_of_rd (P := Try.prog) 22 9 5 16 Try.underlying22 Try.underlying5 Try.underlying9 (AddrM.rd (Mem.blk hSw 1 rfl) HOA.out); go_simp; try with_reducible rfl)
    (try simp only [Act.put, List.setIfInBounds_toArray, List.set_cons_zero, List.set_cons_succ])
    refine take_first (v := ?_) 3 rfl (by kernel_rfl) (by kernel_rfl) (by kernel_rfl) (fun _ _ _ h => h) (Or.inl ⟨by rfl, ?_⟩) (by assumption) ?_
    rotate_left
    · (intro w hSw; (try dsimp only at hSw); go_simp; try with_reducible rfl)
    (try simp only [Act.put, List.setIfInBounds_toArray, List.set_cons_zero, List.set_cons_succ])
    refine take_first (v := ?_) 4 rfl (by kernel_rfl) (by kernel_rfl) (by kernel_rfl) (fun _ _ _ h => h) (Or.inl ⟨by rfl, ?_⟩) (by assumption) ?_
    rotate_left
    · (intro w hSw; (try dsimp only at hSw); go_simp; try with_reducible rfl)
    (try simp only [Act.put, List.setIfInBounds_toArray, List.set_cons_zero, List.set_cons_succ])
    refine take_first (v := ?_) 5 rfl (by kernel_rfl) (by kernel_rfl) (by kernel_rfl) (fun _ _ _ h => h) (Or.inl ⟨by rfl, ?_⟩) (by assumption) ?_
    rotate_left
    · (intro w hSw; (try dsimp only at hSw); have cv : (convert 22 9 (.slice (some ⟨(GA + 1), 1, none⟩) 16 16)).run Try.prog w = .ok (.string ⟨b.ip.toArray⟩) w := run_string_of_rd (P := Try.prog) 22 9 5 16 Try.underlying22 Try.underlying5 Try.underlying9 (AddrM.rd (Mem.blk hSw 0 rfl) HOB.out); go_simp; try with_reducible rfl)
    (try simp only [Act.put, List.setIfInBounds_toArray, List.set_cons_zero, List.set_cons_succ])
    refine take_first (v := ?_) 6 rfl (by kernel_rfl) (by kernel_rfl) (by kernel_rfl) (fun _ _ _ h => h) (Or.inl ⟨by rfl, ?_⟩) (by assumption) ?_
    rotate_left
    · (intro w hSw; (try dsimp only at hSw); go_simp; try with_reducible rfl)
    (try simp only [Act.put, List.setIfInBounds_toArray, List.set_cons_zero, List.set_cons_succ])
    refine take_first (v := ?_) 7 rfl (by kernel_rfl) (by kernel_rfl) (by kernel_rfl) (fun _ _ _ h => h) (Or.inl ⟨by rfl, ?_⟩) (by assumption) ?_
    rotate_left
    · (intro w hSw; (try dsimp only at hSw); go_simp; try with_reducible rfl)
    (try simp only [Act.put, List.setIfInBounds_toArray, List.set_cons_zero, List.set_cons_succ])
    refine wpAnyH_done (by kernel_rfl) ?_ _
    have HB := Lib.hid HM.out.bel
    clear HM hHeld
    go_wp2
    go_ret
    exact ⟨by have h := HE.out; simp at h ⊢; exact h.symm, HB.out⟩
  · have HR := Lib.hid (show lessM a b = !a.six by rw [lessM, if_neg h6])
    generalize a.six = s1 at f1 h6 HR
    generalize b.six = s2 at f2 h6
    have hc : (s1 = true ∧ s2 = false) ∨ (s1 = false ∧ s2 = true) := by revert h6; cases s1 <;> cases s2 <;> simp
    clear h6
    rcases hc with ⟨rfl, rfl⟩ | ⟨rfl, rfl⟩
    · go_wp2
      go_ret
      exact ⟨by rw [HR.out]; rfl, HM.out.bel⟩
    · go_wp2
      go_ret
      exact ⟨by rw [HR.out]; rfl, HM.out.bel⟩
end Go.Proofs.Ytdpdalkeafkhkaa
