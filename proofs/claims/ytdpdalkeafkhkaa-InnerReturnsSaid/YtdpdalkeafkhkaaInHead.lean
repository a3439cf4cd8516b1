/-
  The contracts of inner's readFour and readSix. No statement is proved here.
-/
import Derived.Test.YtdpdalkeafkhkaaInPref
import Derived.Test.YtdpdalkeafkhkaaRdBig
namespace Go.Proofs.Ytdpdalkeafkhkaa
open Go.RowKit

/-! what the header says -/
def headFour (l : List UInt8) : InfoM × Nat := if l.length < 20 then (info0, 2) else if (l.getD 0 0).toNat % 16 < 5 ∨ twoB l 2 < 4 * ((l.getD 0 0).toNat % 16) then (info0, 5) else (infoB l false, 0)
def headSix (l : List UInt8) : InfoM × Nat := if l.length < 40 then (info0, 2) else (infoB l true, 0)
def headB (l : List UInt8) : InfoM × Nat := if l.length = 0 then (info0, 2) else if 2016 < l.length then (info0, 3) else if (l.getD 0 0).toNat / 16 = 4 then headFour l else if (l.getD 0 0).toNat / 16 = 6 then headSix l else (info0, 4)
theorem headFour_ok (l : List UInt8) : (headFour l).1.ok ∧ (headFour l).2 ≤ 5 := by
  unfold headFour
  split
  · exact ⟨info0_ok, by simp⟩
  split
  · exact ⟨info0_ok, by simp⟩
  exact ⟨infoB_ok l _ (by omega) (by simp), by simp⟩
theorem headSix_ok (l : List UInt8) : (headSix l).1.ok ∧ (headSix l).2 ≤ 5 := by
  unfold headSix
  split
  · exact ⟨info0_ok, by simp⟩
  exact ⟨infoB_ok l _ (by omega) (by intro _; omega), by simp⟩
theorem headB_ok (l : List UInt8) : (headB l).1.ok ∧ (headB l).2 ≤ 5 := by
  unfold headB
  split
  · exact ⟨info0_ok, by simp⟩
  split
  · exact ⟨info0_ok, by simp⟩
  split
  · exact headFour_ok l
  split
  · exact headSix_ok l
  exact ⟨info0_ok, by simp⟩
theorem checkB_head (l : List UInt8) : checkB l = if (headB l).2 ≠ 0 then (info0, (headB l).2) else if l.length < (headB l).1.len then (info0, 2) else if 2000 < (headB l).1.len then (info0, 3) else ((headB l).1, 0) := by
  by_cases h0 : l.length = 0
  · rw [checkB_none l h0, headB, if_pos h0]; rfl
  by_cases h1 : 2016 < l.length
  · rw [checkB_long l h0 h1, headB, if_neg h0, if_pos h1]; rfl
  by_cases h4 : (l.getD 0 0).toNat / 16 = 4
  · rw [checkB_four l h0 h1 h4, headB, if_neg h0, if_neg h1, if_pos h4, headFour]
    by_cases h20 : l.length < 20
    · rw [if_pos h20, if_pos h20]; rfl
    rw [if_neg h20, if_neg h20]
    by_cases h5 : (l.getD 0 0).toNat % 16 < 5 ∨ twoB l 2 < 4 * ((l.getD 0 0).toNat % 16)
    · rw [if_pos h5, if_pos h5]; rfl
    rw [if_neg h5, if_neg h5]; rfl
  by_cases h6 : (l.getD 0 0).toNat / 16 = 6
  · rw [checkB_six l h0 h1 h6, headB, if_neg h0, if_neg h1, if_neg h4, if_pos h6, headSix]
    by_cases h40 : l.length < 40
    · rw [if_pos h40, if_pos h40]; rfl
    rw [if_neg h40, if_neg h40]; rfl
  · rw [checkB_type l h0 h1 h4 h6, headB, if_neg h0, if_neg h1, if_neg h4, if_neg h6]; rfl
set_option maxRecDepth 100000 in
theorem two_any (A : Option Addr) (c : Nat) (l : List UInt8) (w : World) (hr : Rd w w.heap.size A 2 l) :
    Calls Try.prog 46 #[.slice A 2 c] w fun e w' => e = .returned (.int .u64 (twoB l 0 : Int)) ∧ Below w.heap.size w w' := by
  obtain ⟨x, y, rfl⟩ : ∃ x y, l = [x, y] := by
    match l, hr.1 with
    | [x, y], _ => exact ⟨x, y, rfl⟩
  have hnb : numB [x, y] % 18446744073709551616 = twoB [x, y] 0 := by
    have h1 := x.toNat_lt
    have h2 := y.toNat_lt
    have ht : twoB [x, y] 0 = 256 * x.toNat + y.toNat := rfl
    rw [ht]
    simp [numB, numL]
    omega
  have RC := readBig_any w.heap.size A 2 c [x, y] (by omega) w hr
  rw [hnb] at RC
  exact RC.mono fun e w' h => ⟨h.1, h.2 ▸ Below.refl _ _⟩
set_option maxRecDepth 100000 in
set_option maxHeartbeats 8000000 in
theorem readFour_any (A : Option Addr) (n c : Nat) (l : List UInt8) (hnc : n ≤ c) (hn0 : n ≠ 0) (hn : n ≤ 100000) (w : World) (hr : Rd w w.heap.size A n l) :
    Calls Try.prog 41 #[.slice A n c] w fun e w' => e = .returned (.tuple #[.agg (headFour l).1.cells.toArray, .int .i64 ((headFour l).2 : Int)]) ∧ Below w.heap.size w w' := by
  have HM := Lib.hid (show Mem w [blkE w.heap.size 31 info0.cells] (w.alloc (.cells #[.bool false, .int .u8 0, .int .u8 0, .int .u8 0, .int .u8 0, .int .u8 0, .int .u8 0, .int .u8 0, .int .u8 0, .int .u8 0, .int .u8 0, .int .u8 0, .int .u8 0, .int .u8 0, .int .u8 0, .int .u8 0, .int .u8 0, .bool false, .int .u8 0, .int .u8 0, .int .u8 0, .int .u8 0, .int .u8 0, .int .u8 0, .int .u8 0, .int .u8 0, .int .u8 0, .int .u8 0, .int .u8 0, .int .u8 0, .int .u8 0, .int .u8 0, .int .u8 0, .int .u8 0, .int .i64 0] 31)) from (Mem.nil w).alloc rfl 31 #[.bool false, .int .u8 0, .int .u8 0, .int .u8 0, .int .u8 0, .int .u8 0, .int .u8 0, .int .u8 0, .int .u8 0, .int .u8 0, .int .u8 0, .int .u8 0, .int .u8 0, .int .u8 0, .int .u8 0, .int .u8 0, .int .u8 0, .bool false, .int .u8 0, .int .u8 0, .int .u8 0, .int .u8 0, .int .u8 0, .int .u8 0, .int .u8 0, .int .u8 0, .int .u8 0, .int .u8 0, .int .u8 0, .int .u8 0, .int .u8 0, .int .u8 0, .int .u8 0, .int .u8 0, .int .i64 0] info0.cells rfl)
  have HK := Lib.hid hr
  have hl := hr.1
  have HIL := Lib.hid (info_cellsOf info0 info0_ok)
  clear hr
  obtain ⟨b, off, rfl, hb0, _⟩ := HK.out.at_ (by omega)
  go_enter Try.func41, Try.ntmps41
  go_upto_region 1 with fail
  generalize w.alloc (.cells #[.bool false, .int .u8 0, .int .u8 0, .int .u8 0, .int .u8 0, .int .u8 0, .int .u8 0, .int .u8 0, .int .u8 0, .int .u8 0, .int .u8 0, .int .u8 0, .int .u8 0, .int .u8 0, .int .u8 0, .int .u8 0, .int .u8 0, .bool false, .int .u8 0, .int .u8 0, .int .u8 0, .int .u8 0, .int .u8 0, .int .u8 0, .int .u8 0, .int .u8 0, .int .u8 0, .int .u8 0, .int .u8 0, .int .u8 0, .int .u8 0, .int .u8 0, .int .u8 0, .int .u8 0, .int .i64 0] 31) = w1 at HM ⊢
  by_cases h20 : n < 20
  · have t20 : decide ((n : Int) < 20) = true := by simp; omega
    have HE := Lib.hid (show headFour l = (info0, 2) from by rw [headFour, if_pos (by omega)])
    go_wp2_with (refine wpList_store_blk rfl 31 (.tmp 2) (.tmp 9) rfl w.heap.size info0.cells rfl rfl 31 info0.cells (HM.out.blk 0 rfl) HIL.out rfl (InfoM.one _) ?_; intro w9 hb9 hg9)
    exact bodyPost_ret (results_obj_tmp rfl _ _ w.heap.size 31 info0.cells _ rfl hb9 Try.underlying31 rfl HIL.out) rfl ⟨by rw [HE.out]; rfl, (HM.out.put 0 rfl _ hg9 hb9).bel⟩
  have t20 : decide ((n : Int) < 20) = false := by simp; omega
  have fx := (HM.out.arg HK.out).byt 0 (by omega)
  rw [Nat.add_zero] at fx
  obtain ⟨X, hX⟩ : ∃ x, l.getD 0 0 = x := ⟨_, rfl⟩
  rw [hX] at fx
  obtain ⟨hh, hhh⟩ : ∃ v, X.toNat % 16 = v := ⟨_, rfl⟩
  have hand : bits BinOp.and IntKind.u8 (X.toNat : Int) 15 = (hh : Int) := by
    have e := u8_and_nat X.toNat 15 X.toNat_lt (by omega)
    rw [show ((15 : Nat) : Int) = 15 from rfl] at e
    rw [e, ← hhh, show (15 : Nat) = 2 ^ 4 - 1 from rfl, Nat.and_two_pow_sub_one_eq_mod]
  have hh16 : hh < 16 := by omega
  obtain ⟨h4, hh4⟩ : ∃ v, 4 * hh = v := ⟨_, rfl⟩
  have hm1 : IntKind.i64.wrap ((hh : Int) * 4) = (h4 : Int) := by rw [IntKind.wrap_i64]; omega
  have hm2 : (hh : Int) * 4 = (h4 : Int) := by omega
  have hm3 : IntKind.i64.wrap (h4 : Int) = (h4 : Int) := by rw [IntKind.wrap_i64]; omega
  have hm4 : IntKind.i64.wrap (hh : Int) = (hh : Int) := by rw [IntKind.wrap_i64]; omega
  have HH := Lib.hid (And.intro hX (And.intro hhh hh4))
  clear hX hhh
  go_upto_region 4 with fail
  clear t20 fx hand hm1 hm2 hm3 hm4
  have hs3 : ∀ w' : World, (Instr.sliceAt 22 (.slice (some ⟨b, off, none⟩) n c) (some (.int .i64 2)) (some (.int .i64 4)) none).run Try.prog w' = .ok (.slice (addrOf (some ⟨b, off, none⟩) 2 c) 2 (c - 2)) w' := fun w' => slice_lh (some ⟨b, off, none⟩) n c 2 4 (by omega) (by omega) hnc w'
  have hr3 : Rd w w.heap.size (addrOf (some ⟨b, off, none⟩) 2 c) 2 (cutB l 2 4) := (HK.out.behind 2 c (by omega) hnc).take (by omega)
  generalize addrOf (some ⟨b, off, none⟩) 2 c = A3 at hs3 hr3
  have HS3 := Lib.hid hs3
  have HR3 := Lib.hid hr3
  have hk3 := fun (w' : World) (h : Rd w' w'.heap.size A3 2 (cutB l 2 4)) => two_any A3 (c - 2) (cutB l 2 4) w' h
  simp only [twoB_cut l 2 (by omega : 2 + 2 ≤ l.length)] at hk3
  have HKK3 := Lib.hid hk3
  clear hs3 hr3 hk3
  obtain ⟨q, hq⟩ : ∃ q, twoB l 2 = q := ⟨_, rfl⟩
  have hql := twoB_lt l 2
  rw [hq] at hql
  have HQ := Lib.hid hq
  have hw1 : IntKind.i64.wrap (q : Int) = (q : Int) := by rw [IntKind.wrap_i64]; omega
  have hk3 := HKK3.out
  simp only [hq] at hk3
  replace HKK3 := Lib.hid hk3
  have s3 := HS3.out
  clear hk3 hq
  go_wp2_with fail
  refine (HKK3.out _ (HM.out.arg HR3.out)).mono ?_
  rintro e w2 ⟨rfl, hb⟩
  replace HM := Lib.hid (HM.out.below hb)
  clear hb s3
  go_upto_region 5 with fail
  clear hw1
  by_cases h5 : hh < 5 ∨ q < 4 * hh
  · have HE := Lib.hid (show headFour l = (info0, 5) from by rw [headFour, if_neg (by omega), if_pos (by rw [HH.out.1, HH.out.2.1, HQ.out]; exact h5)])
    by_cases g5 : hh < 5
    · have t5 : decide ((h4 : Int) < 20) = true := by simp; omega
      go_wp2_with (refine wpList_store_blk rfl 31 (.tmp 2) (.tmp 27) rfl w.heap.size info0.cells rfl rfl 31 info0.cells (HM.out.blk 0 rfl) HIL.out rfl (InfoM.one _) ?_; intro w9 hb9 hg9)
      exact bodyPost_ret (results_obj_tmp rfl _ _ w.heap.size 31 info0.cells _ rfl hb9 Try.underlying31 rfl HIL.out) rfl ⟨by rw [HE.out]; rfl, (HM.out.put 0 rfl _ hg9 hb9).bel⟩
    · have t5 : decide ((h4 : Int) < 20) = false := by simp; omega
      have t6 : decide ((h4 : Int) > (q : Int)) = true := by simp; omega
      go_wp2_with (refine wpList_store_blk rfl 31 (.tmp 2) (.tmp 27) rfl w.heap.size info0.cells rfl rfl 31 info0.cells (HM.out.blk 0 rfl) HIL.out rfl (InfoM.one _) ?_; intro w9 hb9 hg9)
      exact bodyPost_ret (results_obj_tmp rfl _ _ w.heap.size 31 info0.cells _ rfl hb9 Try.underlying31 rfl HIL.out) rfl ⟨by rw [HE.out]; rfl, (HM.out.put 0 rfl _ hg9 hb9).bel⟩
  have t5 : decide ((h4 : Int) < 20) = false := by simp; omega
  have t6 : decide ((h4 : Int) > (q : Int)) = false := by simp; omega
  have HE := Lib.hid (show headFour l = (infoB l false, 0) from by rw [headFour, if_neg (by omega), if_neg (by rw [HH.out.1, HH.out.2.1, HQ.out]; exact h5)])
  go_upto_region 7 with fail
  clear t5 t6
  have hs1 : ∀ w' : World, (Instr.sliceAt 22 (.slice (some ⟨b, off, none⟩) n c) (some (.int .i64 12)) (some (.int .i64 16)) none).run Try.prog w' = .ok (.slice (addrOf (some ⟨b, off, none⟩) 12 c) 4 (c - 12)) w' := fun w' => slice_lh (some ⟨b, off, none⟩) n c 12 16 (by omega) (by omega) hnc w'
  have hr1 : Rd w w.heap.size (addrOf (some ⟨b, off, none⟩) 12 c) 4 (cutB l 12 16) := (HK.out.behind 12 c (by omega) hnc).take (by omega)
  generalize addrOf (some ⟨b, off, none⟩) 12 c = A1 at hs1 hr1
  have HS1 := Lib.hid hs1
  have HR1 := Lib.hid hr1
  have hk1 := fun (w' : World) (h : Rd w' w'.heap.size A1 4 (cutB l 12 16)) => address_any A1 4 (c - 12) (cutB l 12 16) (.inl rfl) false rfl w' h
  have ho1 := addrB_ok (cutB l 12 16) (by rw [cutB_length l 12 16 (by omega) (by omega)]; omega)
  obtain ⟨c1, hc1⟩ : ∃ x, (addrB (cutB l 12 16)).cells.toArray = x := ⟨_, rfl⟩
  simp only [hc1] at hk1
  have HKK1 := Lib.hid hk1
  clear hs1 hr1 hk1
  have hs2 : ∀ w' : World, (Instr.sliceAt 22 (.slice (some ⟨b, off, none⟩) n c) (some (.int .i64 16)) (some (.int .i64 20)) none).run Try.prog w' = .ok (.slice (addrOf (some ⟨b, off, none⟩) 16 c) 4 (c - 16)) w' := fun w' => slice_lh (some ⟨b, off, none⟩) n c 16 20 (by omega) (by omega) hnc w'
  have hr2 : Rd w w.heap.size (addrOf (some ⟨b, off, none⟩) 16 c) 4 (cutB l 16 20) := (HK.out.behind 16 c (by omega) hnc).take (by omega)
  generalize addrOf (some ⟨b, off, none⟩) 16 c = A2 at hs2 hr2
  have HS2 := Lib.hid hs2
  have HR2 := Lib.hid hr2
  have hk2 := fun (w' : World) (h : Rd w' w'.heap.size A2 4 (cutB l 16 20)) => address_any A2 4 (c - 16) (cutB l 16 20) (.inl rfl) false rfl w' h
  have ho2 := addrB_ok (cutB l 16 20) (by rw [cutB_length l 16 20 (by omega) (by omega)]; omega)
  obtain ⟨c2, hc2⟩ : ∃ x, (addrB (cutB l 16 20)).cells.toArray = x := ⟨_, rfl⟩
  simp only [hc2] at hk2
  have HKK2 := Lib.hid hk2
  clear hs2 hr2 hk2
  have hb0 := info_built (addrB (cutB l 12 16)) (addrB (cutB l 16 20)) ho1 ho2 (twoB l 2)
  have HO := Lib.hid (infoB_ok l false (by omega) (by simp))
  obtain ⟨ci, hci⟩ : ∃ x, (infoB l false).cells.toArray = x := ⟨_, rfl⟩
  rw [hc1, hc2, show (InfoM.mk (addrB (cutB l 12 16)) (addrB (cutB l 16 20)) (twoB l 2)).cells.toArray = ci from hci] at hb0
  rw [HQ.out] at hb0
  have HB := Lib.hid hb0
  have HCI := Lib.hid hci
  clear hb0 hci hc1 hc2 ho1 ho2
  refine wp_region_held_drew (S := fun W' => Mem w [] W') (by kernel_rfl) (((HM.out.erase 0)).drew) (fun hHeld => ?_)
  replace HM := Lib.hid HM.out.drew
  generalize w2.drew = wd1 at HM hHeld ⊢
  refine take_first (v := ?_) 0 rfl (by kernel_rfl) (by kernel_rfl) (by kernel_rfl) (fun _ _ _ h => h) (Or.inl ⟨by rfl, ?_⟩) (by assumption) ?_
  rotate_left
  · (intro w hSw; (try dsimp only at hSw); go_simp; try with_reducible rfl)
  (try simp only [Act.put, List.setIfInBounds_toArray, List.set_cons_zero, List.set_cons_succ])
  refine take_first (v := ?_) 1 rfl (by kernel_rfl) (by kernel_rfl) (by kernel_rfl) (fun _ _ _ h => h) (Or.inl ⟨by rfl, ?_⟩) (by assumption) ?_
  rotate_left
  · (intro w hSw; (try dsimp only at hSw); have s := HS1.out w; go_simp; try with_reducible rfl)
  (try simp only [Act.put, List.setIfInBounds_toArray, List.set_cons_zero, List.set_cons_succ])
  refine take_first (v := ?_) 3 rfl (by kernel_rfl) (by kernel_rfl) (by kernel_rfl) (fun _ _ _ h => h) (Or.inl ⟨by rfl, ?_⟩) (by assumption) ?_
  rotate_left
  · (intro w hSw; (try dsimp only at hSw); go_simp; try with_reducible rfl)
  (try simp only [Act.put, List.setIfInBounds_toArray, List.set_cons_zero, List.set_cons_succ])
  refine take_first (v := ?_) 4 rfl (by kernel_rfl) (by kernel_rfl) (by kernel_rfl) (fun _ _ _ h => h) (Or.inl ⟨by rfl, ?_⟩) (by assumption) ?_
  rotate_left
  · (intro w hSw; (try dsimp only at hSw); have s := HS2.out w; go_simp; try with_reducible rfl)
  (try simp only [Act.put, List.setIfInBounds_toArray, List.set_cons_zero, List.set_cons_succ])
  refine take_first (v := ?_) 6 rfl (by kernel_rfl) (by kernel_rfl) (by kernel_rfl) (fun _ _ _ h => h) (Or.inl ⟨by rfl, ?_⟩) (by assumption) ?_
  rotate_left
  · (intro w hSw; (try dsimp only at hSw); go_simp; try with_reducible rfl)
  (try simp only [Act.put, List.setIfInBounds_toArray, List.set_cons_zero, List.set_cons_succ])
  refine step_one 2 rfl (by kernel_rfl) (fun K hK => ?_)
  clear hHeld
  go_simp
  refine (HKK1.out _ (HM.out.arg HR1.out)).mono ?_
  rintro e wy2 ⟨rfl, hb⟩
  replace HM := Lib.hid (show Mem w [blkE w.heap.size 31 info0.cells] wy2 from HM.out.below hb)
  clear hb
  go_wp2_with fail
  refine hK.out _ _ ((HM.out.erase 0)) (fun hHeld => ?_)
  clear hK K
  (try simp only [Act.put, List.setIfInBounds_toArray, List.set_cons_zero, List.set_cons_succ])
  refine step_one 5 rfl (by kernel_rfl) (fun K hK => ?_)
  clear hHeld
  go_simp
  refine (HKK2.out _ (HM.out.arg HR2.out)).mono ?_
  rintro e wy3 ⟨rfl, hb⟩
  replace HM := Lib.hid (show Mem w [blkE w.heap.size 31 info0.cells] wy3 from HM.out.below hb)
  clear hb
  go_wp2_with fail
  refine hK.out _ _ ((HM.out.erase 0)) (fun hHeld => ?_)
  clear hK K
  (try simp only [Act.put, List.setIfInBounds_toArray, List.set_cons_zero, List.set_cons_succ])
  refine take_first (v := .agg ci) 7 rfl (by kernel_rfl) (by kernel_rfl) (by kernel_rfl) (fun _ _ _ h => h) (yields_build_obj (by rfl) 31 [(0, .tmp 30), (1, .tmp 33), (2, .tmp 34)] rfl ci HB.out) (by assumption) ?_
  (try simp only [Act.put, List.setIfInBounds_toArray, List.set_cons_zero, List.set_cons_succ])
  refine step_one 8 rfl (by kernel_rfl) (fun K hK => ?_)
  clear hHeld
  refine step_store_blk _ rfl 31 (.tmp 2) (.tmp 35) rfl w.heap.size (infoB l false).cells rfl (by show Value.agg ci = _; rw [HCI.out]) 31 info0.cells (HM.out.blk 0 rfl) (info_cellsOf _ HO.out) (by rw [InfoM.cells_length HO.out]; rfl) (InfoM.one _) ?_
  intro wy4 hb hg
  replace HM := Lib.hid (show Mem w [blkE w.heap.size 31 (infoB l false).cells] wy4 from HM.out.put 0 rfl _ hg hb)
  clear hb hg
  refine hK.out _ _ ((HM.out.erase 0)) (fun hHeld => ?_)
  clear hK K
  (try simp only [Act.put])
  refine take_first (v := ?_) 9 rfl (by kernel_rfl) (by kernel_rfl) (by kernel_rfl) (fun _ _ _ h => h) (Or.inl ⟨by rfl, ?_⟩) (by assumption) ?_
  rotate_left
  · (intro w hSw; (try dsimp only at hSw); go_simp; try with_reducible rfl)
  (try simp only [Act.put, List.setIfInBounds_toArray, List.set_cons_zero, List.set_cons_succ])
  refine wpAnyH_done (by kernel_rfl) ?_ _
  clear hHeld
  go_wp2
  exact bodyPost_ret (results_obj_tmp rfl _ _ w.heap.size 31 (infoB l false).cells _ rfl (HM.out.blk 0 rfl) Try.underlying31 rfl (info_cellsOf _ HO.out)) rfl ⟨by rw [HE.out]; rfl, HM.out.bel⟩
set_option maxRecDepth 100000 in
set_option maxHeartbeats 8000000 in
theorem readSix_any (A : Option Addr) (n c : Nat) (l : List UInt8) (hnc : n ≤ c) (hn0 : n ≠ 0) (hn : n ≤ 100000) (w : World) (hr : Rd w w.heap.size A n l) :
    Calls Try.prog 42 #[.slice A n c] w fun e w' => e = .returned (.tuple #[.agg (headSix l).1.cells.toArray, .int .i64 ((headSix l).2 : Int)]) ∧ Below w.heap.size w w' := by
  have HM := Lib.hid (show Mem w [blkE w.heap.size 31 info0.cells] (w.alloc (.cells #[.bool false, .int .u8 0, .int .u8 0, .int .u8 0, .int .u8 0, .int .u8 0, .int .u8 0, .int .u8 0, .int .u8 0, .int .u8 0, .int .u8 0, .int .u8 0, .int .u8 0, .int .u8 0, .int .u8 0, .int .u8 0, .int .u8 0, .bool false, .int .u8 0, .int .u8 0, .int .u8 0, .int .u8 0, .int .u8 0, .int .u8 0, .int .u8 0, .int .u8 0, .int .u8 0, .int .u8 0, .int .u8 0, .int .u8 0, .int .u8 0, .int .u8 0, .int .u8 0, .int .u8 0, .int .i64 0] 31)) from (Mem.nil w).alloc rfl 31 #[.bool false, .int .u8 0, .int .u8 0, .int .u8 0, .int .u8 0, .int .u8 0, .int .u8 0, .int .u8 0, .int .u8 0, .int .u8 0, .int .u8 0, .int .u8 0, .int .u8 0, .int .u8 0, .int .u8 0, .int .u8 0, .int .u8 0, .bool false, .int .u8 0, .int .u8 0, .int .u8 0, .int .u8 0, .int .u8 0, .int .u8 0, .int .u8 0, .int .u8 0, .int .u8 0, .int .u8 0, .int .u8 0, .int .u8 0, .int .u8 0, .int .u8 0, .int .u8 0, .int .u8 0, .int .i64 0] info0.cells rfl)
  have HK := Lib.hid hr
  have hl := hr.1
  have HIL := Lib.hid (info_cellsOf info0 info0_ok)
  clear hr
  obtain ⟨b, off, rfl, hb0, _⟩ := HK.out.at_ (by omega)
  go_enter Try.func42, Try.ntmps42
  go_upto_region 1 with fail
  generalize w.alloc (.cells #[.bool false, .int .u8 0, .int .u8 0, .int .u8 0, .int .u8 0, .int .u8 0, .int .u8 0, .int .u8 0, .int .u8 0, .int .u8 0, .int .u8 0, .int .u8 0, .int .u8 0, .int .u8 0, .int .u8 0, .int .u8 0, .int .u8 0, .bool false, .int .u8 0, .int .u8 0, .int .u8 0, .int .u8 0, .int .u8 0, .int .u8 0, .int .u8 0, .int .u8 0, .int .u8 0, .int .u8 0, .int .u8 0, .int .u8 0, .int .u8 0, .int .u8 0, .int .u8 0, .int .u8 0, .int .i64 0] 31) = w1 at HM ⊢
  by_cases h40 : n < 40
  · have t20 : decide ((n : Int) < 40) = true := by simp; omega
    have HE := Lib.hid (show headSix l = (info0, 2) from by rw [headSix, if_pos (by omega)])
    go_wp2_with (refine wpList_store_blk rfl 31 (.tmp 2) (.tmp 7) rfl w.heap.size info0.cells rfl rfl 31 info0.cells (HM.out.blk 0 rfl) HIL.out rfl (InfoM.one _) ?_; intro w9 hb9 hg9)
    exact bodyPost_ret (results_obj_tmp rfl _ _ w.heap.size 31 info0.cells _ rfl hb9 Try.underlying31 rfl HIL.out) rfl ⟨by rw [HE.out]; rfl, (HM.out.put 0 rfl _ hg9 hb9).bel⟩
  have t20 : decide ((n : Int) < 40) = false := by simp; omega
  have HE := Lib.hid (show headSix l = (infoB l true, 0) from by rw [headSix, if_neg (by omega)])
  go_upto_region 3 with fail
  clear t20
  have hs1 : ∀ w' : World, (Instr.sliceAt 22 (.slice (some ⟨b, off, none⟩) n c) (some (.int .i64 8)) (some (.int .i64 24)) none).run Try.prog w' = .ok (.slice (addrOf (some ⟨b, off, none⟩) 8 c) 16 (c - 8)) w' := fun w' => slice_lh (some ⟨b, off, none⟩) n c 8 24 (by omega) (by omega) hnc w'
  have hr1 : Rd w w.heap.size (addrOf (some ⟨b, off, none⟩) 8 c) 16 (cutB l 8 24) := (HK.out.behind 8 c (by omega) hnc).take (by omega)
  generalize addrOf (some ⟨b, off, none⟩) 8 c = A1 at hs1 hr1
  have HS1 := Lib.hid hs1
  have HR1 := Lib.hid hr1
  have hk1 := fun (w' : World) (h : Rd w' w'.heap.size A1 16 (cutB l 8 24)) => address_any A1 16 (c - 8) (cutB l 8 24) (.inr rfl) true rfl w' h
  have ho1 := addrB_ok (cutB l 8 24) (by rw [cutB_length l 8 24 (by omega) (by omega)]; omega)
  obtain ⟨c1, hc1⟩ : ∃ x, (addrB (cutB l 8 24)).cells.toArray = x := ⟨_, rfl⟩
  simp only [hc1] at hk1
  have HKK1 := Lib.hid hk1
  clear hs1 hr1 hk1
  have hs2 : ∀ w' : World, (Instr.sliceAt 22 (.slice (some ⟨b, off, none⟩) n c) (some (.int .i64 24)) (some (.int .i64 40)) none).run Try.prog w' = .ok (.slice (addrOf (some ⟨b, off, none⟩) 24 c) 16 (c - 24)) w' := fun w' => slice_lh (some ⟨b, off, none⟩) n c 24 40 (by omega) (by omega) hnc w'
  have hr2 : Rd w w.heap.size (addrOf (some ⟨b, off, none⟩) 24 c) 16 (cutB l 24 40) := (HK.out.behind 24 c (by omega) hnc).take (by omega)
  generalize addrOf (some ⟨b, off, none⟩) 24 c = A2 at hs2 hr2
  have HS2 := Lib.hid hs2
  have HR2 := Lib.hid hr2
  have hk2 := fun (w' : World) (h : Rd w' w'.heap.size A2 16 (cutB l 24 40)) => address_any A2 16 (c - 24) (cutB l 24 40) (.inr rfl) true rfl w' h
  have ho2 := addrB_ok (cutB l 24 40) (by rw [cutB_length l 24 40 (by omega) (by omega)]; omega)
  obtain ⟨c2, hc2⟩ : ∃ x, (addrB (cutB l 24 40)).cells.toArray = x := ⟨_, rfl⟩
  simp only [hc2] at hk2
  have HKK2 := Lib.hid hk2
  clear hs2 hr2 hk2
  have hs3 : ∀ w' : World, (Instr.sliceAt 22 (.slice (some ⟨b, off, none⟩) n c) (some (.int .i64 4)) (some (.int .i64 6)) none).run Try.prog w' = .ok (.slice (addrOf (some ⟨b, off, none⟩) 4 c) 2 (c - 4)) w' := fun w' => slice_lh (some ⟨b, off, none⟩) n c 4 6 (by omega) (by omega) hnc w'
  have hr3 : Rd w w.heap.size (addrOf (some ⟨b, off, none⟩) 4 c) 2 (cutB l 4 6) := (HK.out.behind 4 c (by omega) hnc).take (by omega)
  generalize addrOf (some ⟨b, off, none⟩) 4 c = A3 at hs3 hr3
  have HS3 := Lib.hid hs3
  have HR3 := Lib.hid hr3
  have hk3 := fun (w' : World) (h : Rd w' w'.heap.size A3 2 (cutB l 4 6)) => two_any A3 (c - 4) (cutB l 4 6) w' h
  simp only [twoB_cut l 4 (by omega : 4 + 2 ≤ l.length)] at hk3
  have HKK3 := Lib.hid hk3
  clear hs3 hr3 hk3
  have hb0 := info_built (addrB (cutB l 8 24)) (addrB (cutB l 24 40)) ho1 ho2 (40 + twoB l 4)
  have HO := Lib.hid (infoB_ok l true (by omega) (by omega))
  obtain ⟨ci, hci⟩ : ∃ x, (infoB l true).cells.toArray = x := ⟨_, rfl⟩
  rw [hc1, hc2, show (InfoM.mk (addrB (cutB l 8 24)) (addrB (cutB l 24 40)) (40 + twoB l 4)).cells.toArray = ci from hci] at hb0
  obtain ⟨t6, ht6⟩ : ∃ t, twoB l 4 = t := ⟨_, rfl⟩
  obtain ⟨q6, hq6⟩ : ∃ t, 40 + t6 = t := ⟨_, rfl⟩
  have hk3 := HKK3.out
  rw [ht6, hq6] at hb0
  simp only [ht6] at hk3
  have HKT := Lib.hid hk3
  have HB := Lib.hid hb0
  have HCI := Lib.hid hci
  have HW6 := Lib.hid (show IntKind.i64.wrap (q6 : Int) = (q6 : Int) ∧ 40 + (t6 : Int) = (q6 : Int) ∧ IntKind.i64.wrap (t6 : Int) = (t6 : Int) from by have := twoB_lt l 4; exact ⟨by rw [IntKind.wrap_i64]; omega, by omega, by rw [IntKind.wrap_i64]; omega⟩)
  clear hk3 hb0 hci ht6 hq6 hc1 hc2 ho1 ho2 HKK3
  refine wp_region_held_drew (S := fun W' => Mem w [] W') (by kernel_rfl) (((HM.out.erase 0)).drew) (fun hHeld => ?_)
  replace HM := Lib.hid HM.out.drew
  generalize w1.drew = wd1 at HM hHeld ⊢
  refine take_first (v := ?_) 0 rfl (by kernel_rfl) (by kernel_rfl) (by kernel_rfl) (fun _ _ _ h => h) (Or.inl ⟨by rfl, ?_⟩) (by assumption) ?_
  rotate_left
  · (intro w hSw; (try dsimp only at hSw); go_simp; try with_reducible rfl)
  (try simp only [Act.put, List.setIfInBounds_toArray, List.set_cons_zero, List.set_cons_succ])
  refine take_first (v := ?_) 1 rfl (by kernel_rfl) (by kernel_rfl) (by kernel_rfl) (fun _ _ _ h => h) (Or.inl ⟨by rfl, ?_⟩) (by assumption) ?_
  rotate_left
  · (intro w hSw; (try dsimp only at hSw); have s := HS1.out w; go_simp; try with_reducible rfl)
  (try simp only [Act.put, List.setIfInBounds_toArray, List.set_cons_zero, List.set_cons_succ])
  refine take_first (v := ?_) 3 rfl (by kernel_rfl) (by kernel_rfl) (by kernel_rfl) (fun _ _ _ h => h) (Or.inl ⟨by rfl, ?_⟩) (by assumption) ?_
  rotate_left
  · (intro w hSw; (try dsimp only at hSw); go_simp; try with_reducible rfl)
  (try simp only [Act.put, List.setIfInBounds_toArray, List.set_cons_zero, List.set_cons_succ])
  refine take_first (v := ?_) 4 rfl (by kernel_rfl) (by kernel_rfl) (by kernel_rfl) (fun _ _ _ h => h) (Or.inl ⟨by rfl, ?_⟩) (by assumption) ?_
  rotate_left
  · (intro w hSw; (try dsimp only at hSw); have s := HS2.out w; go_simp; try with_reducible rfl)
  (try simp only [Act.put, List.setIfInBounds_toArray, List.set_cons_zero, List.set_cons_succ])
  refine take_first (v := ?_) 6 rfl (by kernel_rfl) (by kernel_rfl) (by kernel_rfl) (fun _ _ _ h => h) (Or.inl ⟨by rfl, ?_⟩) (by assumption) ?_
  rotate_left
  · (intro w hSw; (try dsimp only at hSw); go_simp; try with_reducible rfl)
  (try simp only [Act.put, List.setIfInBounds_toArray, List.set_cons_zero, List.set_cons_succ])
  refine take_first (v := ?_) 7 rfl (by kernel_rfl) (by kernel_rfl) (by kernel_rfl) (fun _ _ _ h => h) (Or.inl ⟨by rfl, ?_⟩) (by assumption) ?_
  rotate_left
  · (intro w hSw; (try dsimp only at hSw); have s := HS3.out w; go_simp; try with_reducible rfl)
  (try simp only [Act.put, List.setIfInBounds_toArray, List.set_cons_zero, List.set_cons_succ])
  refine step_one 2 rfl (by kernel_rfl) (fun K hK => ?_)
  clear hHeld
  go_simp
  refine (HKK1.out _ (HM.out.arg HR1.out)).mono ?_
  rintro e wy2 ⟨rfl, hb⟩
  replace HM := Lib.hid (show Mem w [blkE w.heap.size 31 info0.cells] wy2 from HM.out.below hb)
  clear hb
  go_wp2_with fail
  refine hK.out _ _ ((HM.out.erase 0)) (fun hHeld => ?_)
  clear hK K
  (try simp only [Act.put, List.setIfInBounds_toArray, List.set_cons_zero, List.set_cons_succ])
  refine step_one 5 rfl (by kernel_rfl) (fun K hK => ?_)
  clear hHeld
  go_simp
  refine (HKK2.out _ (HM.out.arg HR2.out)).mono ?_
  rintro e wy3 ⟨rfl, hb⟩
  replace HM := Lib.hid (show Mem w [blkE w.heap.size 31 info0.cells] wy3 from HM.out.below hb)
  clear hb
  go_wp2_with fail
  refine hK.out _ _ ((HM.out.erase 0)) (fun hHeld => ?_)
  clear hK K
  (try simp only [Act.put, List.setIfInBounds_toArray, List.set_cons_zero, List.set_cons_succ])
  refine step_one 8 rfl (by kernel_rfl) (fun K hK => ?_)
  clear hHeld
  go_simp
  refine (HKT.out _ (HM.out.arg HR3.out)).mono ?_
  rintro e wy4 ⟨rfl, hb⟩
  replace HM := Lib.hid (show Mem w [blkE w.heap.size 31 info0.cells] wy4 from HM.out.below hb)
  clear hb
  go_wp2_with fail
  refine hK.out _ _ ((HM.out.erase 0)) (fun hHeld => ?_)
  clear hK K
  (try simp only [Act.put, List.setIfInBounds_toArray, List.set_cons_zero, List.set_cons_succ])
  refine take_first (v := ?_) 9 rfl (by kernel_rfl) (by kernel_rfl) (by kernel_rfl) (fun _ _ _ h => h) (Or.inl ⟨by rfl, ?_⟩) (by assumption) ?_
  rotate_left
  · (intro w hSw; (try dsimp only at hSw); have e0 := HW6.out.2.2; go_simp; try with_reducible rfl)
  (try simp only [Act.put, List.setIfInBounds_toArray, List.set_cons_zero, List.set_cons_succ])
  refine take_first (v := ?_) 10 rfl (by kernel_rfl) (by kernel_rfl) (by kernel_rfl) (fun _ _ _ h => h) (Or.inl ⟨by rfl, ?_⟩) (by assumption) ?_
  rotate_left
  · (intro w hSw; (try dsimp only at hSw); have e1 := HW6.out.1; have e2 := HW6.out.2.1; go_simp; try with_reducible rfl)
  (try simp only [Act.put, List.setIfInBounds_toArray, List.set_cons_zero, List.set_cons_succ])
  refine take_first (v := .agg ci) 11 rfl (by kernel_rfl) (by kernel_rfl) (by kernel_rfl) (fun _ _ _ h => h) (yields_build_obj (by rfl) 31 [(0, .tmp 10), (1, .tmp 13), (2, .tmp 18)] rfl ci HB.out) (by assumption) ?_
  (try simp only [Act.put, List.setIfInBounds_toArray, List.set_cons_zero, List.set_cons_succ])
  refine step_one 12 rfl (by kernel_rfl) (fun K hK => ?_)
  clear hHeld
  refine step_store_blk _ rfl 31 (.tmp 2) (.tmp 19) rfl w.heap.size (infoB l true).cells rfl (by show Value.agg ci = _; rw [HCI.out]) 31 info0.cells (HM.out.blk 0 rfl) (info_cellsOf _ HO.out) (by rw [InfoM.cells_length HO.out]; rfl) (InfoM.one _) ?_
  intro wy5 hb hg
  replace HM := Lib.hid (show Mem w [blkE w.heap.size 31 (infoB l true).cells] wy5 from HM.out.put 0 rfl _ hg hb)
  clear hb hg
  refine hK.out _ _ ((HM.out.erase 0)) (fun hHeld => ?_)
  clear hK K
  (try simp only [Act.put])
  refine take_first (v := ?_) 13 rfl (by kernel_rfl) (by kernel_rfl) (by kernel_rfl) (fun _ _ _ h => h) (Or.inl ⟨by rfl, ?_⟩) (by assumption) ?_
  rotate_left
  · (intro w hSw; (try dsimp only at hSw); go_simp; try with_reducible rfl)
  (try simp only [Act.put, List.setIfInBounds_toArray, List.set_cons_zero, List.set_cons_succ])
  refine wpAnyH_done (by kernel_rfl) ?_ _
  clear hHeld
  go_wp2
  exact bodyPost_ret (results_obj_tmp rfl _ _ w.heap.size 31 (infoB l true).cells _ rfl (HM.out.blk 0 rfl) Try.underlying31 rfl (info_cellsOf _ HO.out)) rfl ⟨by rw [HE.out]; rfl, HM.out.bel⟩
end Go.Proofs.Ytdpdalkeafkhkaa
