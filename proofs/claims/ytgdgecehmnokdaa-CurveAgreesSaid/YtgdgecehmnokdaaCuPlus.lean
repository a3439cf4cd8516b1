/-
  The contracts of the reference's plus and minus.
-/
import Derived.Test.YtgdgecehmnokdaaCuCar
namespace Go.Proofs.Ytgdgecehmnokdaa
open Go.RowKit

def addL (a b : List Int) : List Int := List.zipWith (· + ·) a b
theorem addL_length (a b : List Int) (ha : a.length = 16) (hb : b.length = 16) : (addL a b).length = 16 := by simp [addL, ha, hb]
theorem addL_val : ∀ a b : List Int, a.length = b.length → Cu.valL (addL a b) = Cu.valL a + Cu.valL b
  | [], [], _ => rfl
  | x :: a, y :: b, h => by
    have := addL_val a b (by simpa using h)
    simp only [addL, List.zipWith_cons_cons, Cu.valL] at this ⊢
    rw [this]
    omega
  | [], _ :: _, h => by simp at h
  | _ :: _, [], h => by simp at h
theorem addL_get (a b : List Int) (ha : a.length = 16) (hb : b.length = 16) (i : Nat) (hi : i < 16) : (addL a b).getD i 0 = a.getD i 0 + b.getD i 0 := by
  simp [addL, List.getD, ha, hb, hi]
theorem addL_within (M N : Int) (a b : List Int) (ha : Within M a) (hb : Within N b) : Within (M + N) (addL a b) := by
  intro x hx
  obtain ⟨i, hi, rfl⟩ := List.mem_iff_getElem.1 hx
  simp only [addL, List.length_zipWith] at hi
  simp only [addL, List.getElem_zipWith]
  have h1 := ha (a[i]) (List.getElem_mem (by omega))
  have h2 := hb (b[i]) (List.getElem_mem (by omega))
  omega
/-- the first j places as they are behind the loop -/
def addLJ (a b : List Int) (j : Nat) : List Int := (addL a b).take j ++ a.drop j
theorem addLJ_step (a b : List Int) (ha : a.length = 16) (hb : b.length = 16) (j : Nat) (hj : j < 16) : (addLJ a b j).set j (a.getD j 0 + b.getD j 0) = addLJ a b (j + 1) := by
  have hl := addL_length a b ha hb
  rw [← addL_get a b ha hb j hj, addLJ, addLJ, List.set_append_right _ _ (by rw [List.length_take]; omega), List.length_take, Nat.min_eq_left (by omega), Nat.sub_self,
    List.drop_eq_getElem_cons (by omega), List.set_cons_zero, List.take_succ_eq_append_getElem (by omega), List.append_assoc]
  simp [hl, hj]

set_option maxRecDepth 100000 in
theorem ref_plus_any (a b : List Int) (ha : a.length = 16) (hb : b.length = 16) (wa : Within 1099511627776 a) (wb : Within 1099511627776 b) (w : World) :
    Calls Try.prog 32 #[.agg (a.map i64v).toArray, .agg (b.map i64v).toArray] w fun e w' => e = .returned (.agg ((addL a b).map i64v).toArray) ∧ Below w.heap.size w w' := by
  obtain ⟨ca, hca⟩ : ∃ c, (a.map i64v).toArray = c := ⟨_, rfl⟩
  obtain ⟨cb, hcb⟩ : ∃ c, (b.map i64v).toArray = c := ⟨_, rfl⟩
  rw [hca, hcb]
  have HL := Lib.hid (And.intro ha (And.intro hb (And.intro wa wb)))
  have HM := Lib.hid (show Mem w [blkE (w.heap.size + 1 + 1) 38 (zd 16), blkE (w.heap.size + 1) 38 (b.map i64v), blkE w.heap.size 38 (a.map i64v)] (((w.alloc (.cells ca 38)).alloc (.cells cb 38)).alloc (.cells #[.int .i64 0, .int .i64 0, .int .i64 0, .int .i64 0, .int .i64 0, .int .i64 0, .int .i64 0, .int .i64 0, .int .i64 0, .int .i64 0, .int .i64 0, .int .i64 0, .int .i64 0, .int .i64 0, .int .i64 0, .int .i64 0] 38)) from (((Mem.nil w).alloc rfl 38 ca (a.map i64v) hca.symm).alloc (by simp) 38 cb (b.map i64v) hcb.symm).alloc (by simp) 38 #[.int .i64 0, .int .i64 0, .int .i64 0, .int .i64 0, .int .i64 0, .int .i64 0, .int .i64 0, .int .i64 0, .int .i64 0, .int .i64 0, .int .i64 0, .int .i64 0, .int .i64 0, .int .i64 0, .int .i64 0, .int .i64 0] (zd 16) rfl)
  clear ha hb wa wb hca hcb
  go_enter Try.func32, Try.ntmps32
  go_upto_region 1 with fail
  generalize (((w.alloc (.cells ca 38)).alloc (.cells cb 38)).alloc (.cells #[.int .i64 0, .int .i64 0, .int .i64 0, .int .i64 0, .int .i64 0, .int .i64 0, .int .i64 0, .int .i64 0, .int .i64 0, .int .i64 0, .int .i64 0, .int .i64 0, .int .i64 0, .int .i64 0, .int .i64 0, .int .i64 0] 38)) = w1 at HM ⊢
  go_wp2_with fail
  go_loopw [6, 5] (fun i _ wr => ∃ j : Nat, j ≤ 16 ∧ i = .int .i64 (j : Int) ∧ Mem w [blkE (w.heap.size + 1 + 1) 38 (zd 16), blkE (w.heap.size + 1) 38 (b.map i64v), blkE w.heap.size 38 ((addLJ a b j).map i64v)] wr) (fun i _ _ => 16 - (intOf i).toNat)
  case atStart => exact ⟨0, by omega, rfl, by simpa [addLJ] using HM.out⟩
  case round =>
    clear HM
    obtain ⟨j, hj, rfl, hM⟩ := hrel
    have HM := Lib.hid hM
    clear hM
    by_cases hlt : j < 16
    · have hl := addL_length a b HL.out.1 HL.out.2.1
      have g0 : (addLJ a b j).getD j 0 = a.getD j 0 := by
        rw [addLJ, List.getD_eq_getElem?_getD, List.getElem?_append_right (by rw [List.length_take]; omega), List.length_take, Nat.min_eq_left (by omega), Nat.sub_self, List.getElem?_drop, Nat.add_zero, ← List.getD_eq_getElem?_getD]
      have fx := (HM.out.blk 2 rfl).dig j (by simp [addLJ, hl, HL.out.1]; omega)
      rw [g0] at fx
      have zx := (HM.out.blk 2 rfl).frozen j
      have fy := (HM.out.blk 1 rfl).dig j (by have := HL.out.2.1; omega)
      have bx := HL.out.2.2.1.getD j (by have := HL.out.1; omega)
      have by_ := HL.out.2.2.2.getD j (by have := HL.out.2.1; omega)
      have hset := addLJ_step a b HL.out.1 HL.out.2.1 j hlt
      have hset2 : ((addLJ a b j).map i64v).set j (.int .i64 (a.getD j 0 + b.getD j 0)) = (addLJ a b (j + 1)).map i64v := by rw [← hset, List.map_set]; rfl
      have HN := Lib.hid (show ∀ W, Mem w [blkE (w.heap.size + 1 + 1) 38 (zd 16), blkE (w.heap.size + 1) 38 (b.map i64v), blkE w.heap.size 38 ((addLJ a b j).map i64v)] W → Mem w [blkE (w.heap.size + 1 + 1) 38 (zd 16), blkE (w.heap.size + 1) 38 (b.map i64v), blkE w.heap.size 38 ((addLJ a b (j + 1)).map i64v)] (W.setCell ⟨w.heap.size, j, none⟩ (.int .i64 (a.getD j 0 + b.getD j 0))) from fun W hW => by have h := hW.setCell 2 rfl j (.int .i64 (a.getD j 0 + b.getD j 0)); rw [hset2] at h; exact h)
      clear hset hset2 g0 hl
      generalize a.getD j 0 = x at *
      generalize b.getD j 0 = y at *
      have hw1 : IntKind.i64.wrap (x + y) = x + y := IntWalk.i64_in _ (by omega)
      go_upto_region 4 with fail
      go_region
      clear fx zx fy hw1
      replace HM := Lib.hid (HN.out _ HM.out.drew)
      clear HN
      go_wp2_with fail
      go_roundw
      case rel => exact ⟨j + 1, by omega, by go_num, HM.out⟩
      case measure => simp [intOf]; omega
    · obtain rfl : j = 16 := by omega
      have HLz := Lib.hid (addL_length a b HL.out.1 HL.out.2.1)
      rw [show addLJ a b 16 = addL a b by rw [addLJ, List.take_of_length_le (by rw [HLz.out]; omega), List.drop_of_length_le (by have := HL.out.1; omega), List.append_nil]] at HM
      obtain ⟨lz, hlz⟩ : ∃ z, addL a b = z := ⟨_, rfl⟩
      rw [hlz] at HM HLz
      have HSZ := Lib.hid hlz
      clear hlz
      obtain ⟨cz, hcz⟩ : ∃ c, (lz.map i64v).toArray = c := ⟨_, rfl⟩
      have HCZ := Lib.hid hcz
      clear hcz
      go_wp2_with (first | (refine wpList_load_blk rfl 38 (.tmp 2) rfl w.heap.size rfl 38 (lz.map i64v) (HM.out.blk 2 rfl) 16 2 Try.underlying38 (cu_cells lz HLz.out) ?_; rw [HCZ.out]) | (refine wpList_store_blk rfl 38 (.tmp 4) (.tmp 18) rfl (w.heap.size + 1 + 1) (lz.map i64v) rfl (by show Value.agg cz = _; rw [HCZ.out]) 38 (zd 16) (HM.out.blk 0 rfl) (cu_cells lz HLz.out) (by rw [List.length_map, HLz.out]; rfl) (i64v_one _) ?_; intro w9 hb9 hg9))
      exact bodyPost_ret (results_blk rfl _ _ (w.heap.size + 1 + 1) 38 (lz.map i64v) 16 2 rfl hb9 Try.underlying38 (cu_cells lz HLz.out)) rfl ⟨by rw [HSZ.out], (HM.out.put 0 rfl _ hg9 hb9).bel⟩

def subL (a b : List Int) : List Int := List.zipWith (· - ·) a b
theorem subL_length (a b : List Int) (ha : a.length = 16) (hb : b.length = 16) : (subL a b).length = 16 := by simp [subL, ha, hb]
theorem subL_val : ∀ a b : List Int, a.length = b.length → Cu.valL (subL a b) = Cu.valL a - Cu.valL b
  | [], [], _ => rfl
  | x :: a, y :: b, h => by
    have := subL_val a b (by simpa using h)
    simp only [subL, List.zipWith_cons_cons, Cu.valL] at this ⊢
    rw [this]
    omega
  | [], _ :: _, h => by simp at h
  | _ :: _, [], h => by simp at h
theorem subL_get (a b : List Int) (ha : a.length = 16) (hb : b.length = 16) (i : Nat) (hi : i < 16) : (subL a b).getD i 0 = a.getD i 0 - b.getD i 0 := by
  simp [subL, List.getD, ha, hb, hi]
theorem subL_within (M N : Int) (a b : List Int) (ha : Within M a) (hb : Within N b) : Within (M + N) (subL a b) := by
  intro x hx
  obtain ⟨i, hi, rfl⟩ := List.mem_iff_getElem.1 hx
  simp only [subL, List.length_zipWith] at hi
  simp only [subL, List.getElem_zipWith]
  have h1 := ha (a[i]) (List.getElem_mem (by omega))
  have h2 := hb (b[i]) (List.getElem_mem (by omega))
  omega
/-- the first j places as they are behind the loop -/
def subLJ (a b : List Int) (j : Nat) : List Int := (subL a b).take j ++ a.drop j
theorem subLJ_step (a b : List Int) (ha : a.length = 16) (hb : b.length = 16) (j : Nat) (hj : j < 16) : (subLJ a b j).set j (a.getD j 0 - b.getD j 0) = subLJ a b (j + 1) := by
  have hl := subL_length a b ha hb
  rw [← subL_get a b ha hb j hj, subLJ, subLJ, List.set_append_right _ _ (by rw [List.length_take]; omega), List.length_take, Nat.min_eq_left (by omega), Nat.sub_self,
    List.drop_eq_getElem_cons (by omega), List.set_cons_zero, List.take_succ_eq_append_getElem (by omega), List.append_assoc]
  simp [hl, hj]

set_option maxRecDepth 100000 in
theorem ref_minus_any (a b : List Int) (ha : a.length = 16) (hb : b.length = 16) (wa : Within 1099511627776 a) (wb : Within 1099511627776 b) (w : World) :
    Calls Try.prog 33 #[.agg (a.map i64v).toArray, .agg (b.map i64v).toArray] w fun e w' => e = .returned (.agg ((subL a b).map i64v).toArray) ∧ Below w.heap.size w w' := by
  obtain ⟨ca, hca⟩ : ∃ c, (a.map i64v).toArray = c := ⟨_, rfl⟩
  obtain ⟨cb, hcb⟩ : ∃ c, (b.map i64v).toArray = c := ⟨_, rfl⟩
  rw [hca, hcb]
  have HL := Lib.hid (And.intro ha (And.intro hb (And.intro wa wb)))
  have HM := Lib.hid (show Mem w [blkE (w.heap.size + 1 + 1) 38 (zd 16), blkE (w.heap.size + 1) 38 (b.map i64v), blkE w.heap.size 38 (a.map i64v)] (((w.alloc (.cells ca 38)).alloc (.cells cb 38)).alloc (.cells #[.int .i64 0, .int .i64 0, .int .i64 0, .int .i64 0, .int .i64 0, .int .i64 0, .int .i64 0, .int .i64 0, .int .i64 0, .int .i64 0, .int .i64 0, .int .i64 0, .int .i64 0, .int .i64 0, .int .i64 0, .int .i64 0] 38)) from (((Mem.nil w).alloc rfl 38 ca (a.map i64v) hca.symm).alloc (by simp) 38 cb (b.map i64v) hcb.symm).alloc (by simp) 38 #[.int .i64 0, .int .i64 0, .int .i64 0, .int .i64 0, .int .i64 0, .int .i64 0, .int .i64 0, .int .i64 0, .int .i64 0, .int .i64 0, .int .i64 0, .int .i64 0, .int .i64 0, .int .i64 0, .int .i64 0, .int .i64 0] (zd 16) rfl)
  clear ha hb wa wb hca hcb
  go_enter Try.func33, Try.ntmps33
  go_upto_region 1 with fail
  generalize (((w.alloc (.cells ca 38)).alloc (.cells cb 38)).alloc (.cells #[.int .i64 0, .int .i64 0, .int .i64 0, .int .i64 0, .int .i64 0, .int .i64 0, .int .i64 0, .int .i64 0, .int .i64 0, .int .i64 0, .int .i64 0, .int .i64 0, .int .i64 0, .int .i64 0, .int .i64 0, .int .i64 0] 38)) = w1 at HM ⊢
  go_wp2_with fail
  go_loopw [6, 5] (fun i _ wr => ∃ j : Nat, j ≤ 16 ∧ i = .int .i64 (j : Int) ∧ Mem w [blkE (w.heap.size + 1 + 1) 38 (zd 16), blkE (w.heap.size + 1) 38 (b.map i64v), blkE w.heap.size 38 ((subLJ a b j).map i64v)] wr) (fun i _ _ => 16 - (intOf i).toNat)
  case atStart => exact ⟨0, by omega, rfl, by simpa [subLJ] using HM.out⟩
  case round =>
    clear HM
    obtain ⟨j, hj, rfl, hM⟩ := hrel
    have HM := Lib.hid hM
    clear hM
    by_cases hlt : j < 16
    · have hl := subL_length a b HL.out.1 HL.out.2.1
      have g0 : (subLJ a b j).getD j 0 = a.getD j 0 := by
        rw [subLJ, List.getD_eq_getElem?_getD, List.getElem?_append_right (by rw [List.length_take]; omega), List.length_take, Nat.min_eq_left (by omega), Nat.sub_self, List.getElem?_drop, Nat.add_zero, ← List.getD_eq_getElem?_getD]
      have fx := (HM.out.blk 2 rfl).dig j (by simp [subLJ, hl, HL.out.1]; omega)
      rw [g0] at fx
      have zx := (HM.out.blk 2 rfl).frozen j
      have fy := (HM.out.blk 1 rfl).dig j (by have := HL.out.2.1; omega)
      have bx := HL.out.2.2.1.getD j (by have := HL.out.1; omega)
      have by_ := HL.out.2.2.2.getD j (by have := HL.out.2.1; omega)
      have hset := subLJ_step a b HL.out.1 HL.out.2.1 j hlt
      have hset2 : ((subLJ a b j).map i64v).set j (.int .i64 (a.getD j 0 - b.getD j 0)) = (subLJ a b (j + 1)).map i64v := by rw [← hset, List.map_set]; rfl
      have HN := Lib.hid (show ∀ W, Mem w [blkE (w.heap.size + 1 + 1) 38 (zd 16), blkE (w.heap.size + 1) 38 (b.map i64v), blkE w.heap.size 38 ((subLJ a b j).map i64v)] W → Mem w [blkE (w.heap.size + 1 + 1) 38 (zd 16), blkE (w.heap.size + 1) 38 (b.map i64v), blkE w.heap.size 38 ((subLJ a b (j + 1)).map i64v)] (W.setCell ⟨w.heap.size, j, none⟩ (.int .i64 (a.getD j 0 - b.getD j 0))) from fun W hW => by have h := hW.setCell 2 rfl j (.int .i64 (a.getD j 0 - b.getD j 0)); rw [hset2] at h; exact h)
      clear hset hset2 g0 hl
      generalize a.getD j 0 = x at *
      generalize b.getD j 0 = y at *
      have hw1 : IntKind.i64.wrap (x - y) = x - y := IntWalk.i64_in _ (by omega)
      go_upto_region 4 with fail
      go_region
      clear fx zx fy hw1
      replace HM := Lib.hid (HN.out _ HM.out.drew)
      clear HN
      go_wp2_with fail
      go_roundw
      case rel => exact ⟨j + 1, by omega, by go_num, HM.out⟩
      case measure => simp [intOf]; omega
    · obtain rfl : j = 16 := by omega
      have HLz := Lib.hid (subL_length a b HL.out.1 HL.out.2.1)
      rw [show subLJ a b 16 = subL a b by rw [subLJ, List.take_of_length_le (by rw [HLz.out]; omega), List.drop_of_length_le (by have := HL.out.1; omega), List.append_nil]] at HM
      obtain ⟨lz, hlz⟩ : ∃ z, subL a b = z := ⟨_, rfl⟩
      rw [hlz] at HM HLz
      have HSZ := Lib.hid hlz
      clear hlz
      obtain ⟨cz, hcz⟩ : ∃ c, (lz.map i64v).toArray = c := ⟨_, rfl⟩
      have HCZ := Lib.hid hcz
      clear hcz
      go_wp2_with (first | (refine wpList_load_blk rfl 38 (.tmp 2) rfl w.heap.size rfl 38 (lz.map i64v) (HM.out.blk 2 rfl) 16 2 Try.underlying38 (cu_cells lz HLz.out) ?_; rw [HCZ.out]) | (refine wpList_store_blk rfl 38 (.tmp 4) (.tmp 18) rfl (w.heap.size + 1 + 1) (lz.map i64v) rfl (by show Value.agg cz = _; rw [HCZ.out]) 38 (zd 16) (HM.out.blk 0 rfl) (cu_cells lz HLz.out) (by rw [List.length_map, HLz.out]; rfl) (i64v_one _) ?_; intro w9 hb9 hg9))
      exact bodyPost_ret (results_blk rfl _ _ (w.heap.size + 1 + 1) 38 (lz.map i64v) 16 2 rfl hb9 Try.underlying38 (cu_cells lz HLz.out)) rfl ⟨by rw [HSZ.out], (HM.out.put 0 rfl _ hg9 hb9).bel⟩

end Go.Proofs.Ytgdgecehmnokdaa
