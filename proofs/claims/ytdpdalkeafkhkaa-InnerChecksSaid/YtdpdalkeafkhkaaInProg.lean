/-
  The contracts of inner's Check, Pad and Trim, and all six that are asked. No statement is proved here.
-/
import Derived.Test.YtdpdalkeafkhkaaInHead
import Derived.Test.YtdpdalkeafkhkaaInC
import Derived.Test.YtdpdalkeafkhkaaCopyRd
import Derived.Test.YtdpdalkeafkhkaaCodes2
import Derived.Test.YtdpdalkeafkhkaaInPacket
import Derived.Test.YtdpdalkeafkhkaaAppZ
import Derived.Maps.AppendAt
import Derived.Laws.Cover3
namespace Go.Proofs.Ytdpdalkeafkhkaa
open Go.RowKit

set_option maxRecDepth 100000 in
set_option maxHeartbeats 8000000 in
theorem readHeader_any (A : Option Addr) (n c : Nat) (l : List UInt8) (hnc : n ≤ c) (hn : n ≤ 100000) (w : World) (hr : Rd w w.heap.size A n l) :
    Calls Try.prog 28 #[.slice A n c] w fun e w' => e = .returned (.tuple #[.agg (headB l).1.cells.toArray, .int .i64 ((headB l).2 : Int)]) ∧ Below w.heap.size w w' := by
  have HM := Lib.hid (show Mem w [blkE w.heap.size 31 info0.cells] (w.alloc (.cells #[.bool false, .int .u8 0, .int .u8 0, .int .u8 0, .int .u8 0, .int .u8 0, .int .u8 0, .int .u8 0, .int .u8 0, .int .u8 0, .int .u8 0, .int .u8 0, .int .u8 0, .int .u8 0, .int .u8 0, .int .u8 0, .int .u8 0, .bool false, .int .u8 0, .int .u8 0, .int .u8 0, .int .u8 0, .int .u8 0, .int .u8 0, .int .u8 0, .int .u8 0, .int .u8 0, .int .u8 0, .int .u8 0, .int .u8 0, .int .u8 0, .int .u8 0, .int .u8 0, .int .u8 0, .int .i64 0] 31)) from (Mem.nil w).alloc rfl 31 #[.bool false, .int .u8 0, .int .u8 0, .int .u8 0, .int .u8 0, .int .u8 0, .int .u8 0, .int .u8 0, .int .u8 0, .int .u8 0, .int .u8 0, .int .u8 0, .int .u8 0, .int .u8 0, .int .u8 0, .int .u8 0, .int .u8 0, .bool false, .int .u8 0, .int .u8 0, .int .u8 0, .int .u8 0, .int .u8 0, .int .u8 0, .int .u8 0, .int .u8 0, .int .u8 0, .int .u8 0, .int .u8 0, .int .u8 0, .int .u8 0, .int .u8 0, .int .u8 0, .int .u8 0, .int .i64 0] info0.cells rfl)
  have HK := Lib.hid hr
  have hl := hr.1
  have HIL := Lib.hid (info_cellsOf info0 info0_ok)
  clear hr
  by_cases h0 : n = 0
  · subst h0
    have HE := Lib.hid (show headB l = (info0, 2) from by rw [headB, if_pos hl])
    go_enter Try.func28, Try.ntmps28
    go_upto_region 1 with fail
    generalize w.alloc (.cells #[.bool false, .int .u8 0, .int .u8 0, .int .u8 0, .int .u8 0, .int .u8 0, .int .u8 0, .int .u8 0, .int .u8 0, .int .u8 0, .int .u8 0, .int .u8 0, .int .u8 0, .int .u8 0, .int .u8 0, .int .u8 0, .int .u8 0, .bool false, .int .u8 0, .int .u8 0, .int .u8 0, .int .u8 0, .int .u8 0, .int .u8 0, .int .u8 0, .int .u8 0, .int .u8 0, .int .u8 0, .int .u8 0, .int .u8 0, .int .u8 0, .int .u8 0, .int .u8 0, .int .u8 0, .int .i64 0] 31) = w1 at HM ⊢
    go_wp2_with (refine wpList_store_blk rfl 31 (.tmp 2) (.tmp 8) rfl w.heap.size info0.cells rfl rfl 31 info0.cells (HM.out.blk 0 rfl) HIL.out rfl (InfoM.one _) ?_; intro w9 hb9 hg9)
    exact bodyPost_ret (results_obj_tmp rfl _ _ w.heap.size 31 info0.cells _ rfl hb9 Try.underlying31 rfl HIL.out) rfl ⟨by rw [HE.out]; rfl, (HM.out.put 0 rfl _ hg9 hb9).bel⟩
  obtain ⟨b, off, rfl, hb0, _⟩ := HK.out.at_ (by omega)
  have d0 : ((n : Int) == 0) = false := by rw [beq_eq_false_iff_ne]; omega
  by_cases h1 : 2016 < n
  · have HE := Lib.hid (show headB l = (info0, 3) from by rw [headB, if_neg (by omega), if_pos (by omega)])
    have s1 : decide ((n : Int) > 2016) = true := by simp; omega
    go_enter Try.func28, Try.ntmps28
    go_upto_region 1 with fail
    generalize w.alloc (.cells #[.bool false, .int .u8 0, .int .u8 0, .int .u8 0, .int .u8 0, .int .u8 0, .int .u8 0, .int .u8 0, .int .u8 0, .int .u8 0, .int .u8 0, .int .u8 0, .int .u8 0, .int .u8 0, .int .u8 0, .int .u8 0, .int .u8 0, .bool false, .int .u8 0, .int .u8 0, .int .u8 0, .int .u8 0, .int .u8 0, .int .u8 0, .int .u8 0, .int .u8 0, .int .u8 0, .int .u8 0, .int .u8 0, .int .u8 0, .int .u8 0, .int .u8 0, .int .u8 0, .int .u8 0, .int .i64 0] 31) = w1 at HM ⊢
    go_wp2_with (refine wpList_store_blk rfl 31 (.tmp 2) (.tmp 13) rfl w.heap.size info0.cells rfl rfl 31 info0.cells (HM.out.blk 0 rfl) HIL.out rfl (InfoM.one _) ?_; intro w9 hb9 hg9)
    exact bodyPost_ret (results_obj_tmp rfl _ _ w.heap.size 31 info0.cells _ rfl hb9 Try.underlying31 rfl HIL.out) rfl ⟨by rw [HE.out]; rfl, (HM.out.put 0 rfl _ hg9 hb9).bel⟩
  have s1 : decide ((n : Int) > 2016) = false := by simp; omega
  obtain ⟨X, hX⟩ : ∃ x, l.getD 0 0 = x := ⟨_, rfl⟩
  by_cases v4 : X.toNat / 16 = 4
  · have hh : headB l = headFour l := by rw [headB, if_neg (by omega), if_neg (by omega), hX, if_pos v4]
    have hcc := fun (W : World) (hR : Rd W W.heap.size (some ⟨b, off, none⟩) n l) => readFour_any (some ⟨b, off, none⟩) n c l hnc h0 hn W hR
    have hok := (headFour_ok l).1
    rw [hh]
    generalize headFour l = pp at hcc hok ⊢
    obtain ⟨ii, ee⟩ := pp
    obtain ⟨ci, hci⟩ : ∃ x, ii.cells.toArray = x := ⟨_, rfl⟩
    simp only [hci] at hcc hok ⊢
    have HKC := Lib.hid hcc
    have HO := Lib.hid hok
    have HCI := Lib.hid hci
    clear hcc hok hci hh
    go_enter Try.func28, Try.ntmps28
    go_upto_region 1 with fail
    generalize w.alloc (.cells #[.bool false, .int .u8 0, .int .u8 0, .int .u8 0, .int .u8 0, .int .u8 0, .int .u8 0, .int .u8 0, .int .u8 0, .int .u8 0, .int .u8 0, .int .u8 0, .int .u8 0, .int .u8 0, .int .u8 0, .int .u8 0, .int .u8 0, .bool false, .int .u8 0, .int .u8 0, .int .u8 0, .int .u8 0, .int .u8 0, .int .u8 0, .int .u8 0, .int .u8 0, .int .u8 0, .int .u8 0, .int .u8 0, .int .u8 0, .int .u8 0, .int .u8 0, .int .u8 0, .int .u8 0, .int .i64 0] 31) = w1 at HM ⊢
    have fx := (HM.out.arg HK.out).byt 0 (by omega)
    rw [Nat.add_zero, hX] at fx
    clear hX
    have hVi : (X.toNat : Int) / 16 = 4 := by omega
    go_upto_region 7 with fail
    clear fx hVi d0 s1
    go_wp2_with fail
    refine (HKC.out _ (HM.out.arg HK.out)).mono ?_
    rintro e w2 ⟨rfl, hb⟩
    replace HM := Lib.hid (HM.out.below hb)
    clear hb HKC
    go_wp2_with (refine wpList_store_blk rfl 31 (.tmp 2) (.tmp 22) rfl w.heap.size ii.cells rfl (by show Value.agg ci = _; rw [HCI.out]) 31 info0.cells (HM.out.blk 0 rfl) (info_cellsOf _ HO.out) (by rw [InfoM.cells_length HO.out]; rfl) (InfoM.one _) ?_; intro w9 hb9 hg9)
    exact bodyPost_ret (results_obj_tmp rfl _ _ w.heap.size 31 ii.cells _ rfl hb9 Try.underlying31 rfl (info_cellsOf _ HO.out)) rfl ⟨by rw [HCI.out]; rfl, (HM.out.put 0 rfl _ hg9 hb9).bel⟩
  by_cases v6 : X.toNat / 16 = 6
  · have hh : headB l = headSix l := by rw [headB, if_neg (by omega), if_neg (by omega), hX, if_neg v4, if_pos v6]
    have hcc := fun (W : World) (hR : Rd W W.heap.size (some ⟨b, off, none⟩) n l) => readSix_any (some ⟨b, off, none⟩) n c l hnc h0 hn W hR
    have hok := (headSix_ok l).1
    rw [hh]
    generalize headSix l = pp at hcc hok ⊢
    obtain ⟨ii, ee⟩ := pp
    obtain ⟨ci, hci⟩ : ∃ x, ii.cells.toArray = x := ⟨_, rfl⟩
    simp only [hci] at hcc hok ⊢
    have HKC := Lib.hid hcc
    have HO := Lib.hid hok
    have HCI := Lib.hid hci
    clear hcc hok hci hh
    go_enter Try.func28, Try.ntmps28
    go_upto_region 1 with fail
    generalize w.alloc (.cells #[.bool false, .int .u8 0, .int .u8 0, .int .u8 0, .int .u8 0, .int .u8 0, .int .u8 0, .int .u8 0, .int .u8 0, .int .u8 0, .int .u8 0, .int .u8 0, .int .u8 0, .int .u8 0, .int .u8 0, .int .u8 0, .int .u8 0, .bool false, .int .u8 0, .int .u8 0, .int .u8 0, .int .u8 0, .int .u8 0, .int .u8 0, .int .u8 0, .int .u8 0, .int .u8 0, .int .u8 0, .int .u8 0, .int .u8 0, .int .u8 0, .int .u8 0, .int .u8 0, .int .u8 0, .int .i64 0] 31) = w1 at HM ⊢
    have fx := (HM.out.arg HK.out).byt 0 (by omega)
    rw [Nat.add_zero, hX] at fx
    clear hX
    have hVi : (X.toNat : Int) / 16 = 6 := by omega
    go_upto_region 9 with fail
    clear fx hVi d0 s1
    go_wp2_with fail
    refine (HKC.out _ (HM.out.arg HK.out)).mono ?_
    rintro e w2 ⟨rfl, hb⟩
    replace HM := Lib.hid (HM.out.below hb)
    clear hb HKC
    go_wp2_with (refine wpList_store_blk rfl 31 (.tmp 2) (.tmp 28) rfl w.heap.size ii.cells rfl (by show Value.agg ci = _; rw [HCI.out]) 31 info0.cells (HM.out.blk 0 rfl) (info_cellsOf _ HO.out) (by rw [InfoM.cells_length HO.out]; rfl) (InfoM.one _) ?_; intro w9 hb9 hg9)
    exact bodyPost_ret (results_obj_tmp rfl _ _ w.heap.size 31 ii.cells _ rfl hb9 Try.underlying31 rfl (info_cellsOf _ HO.out)) rfl ⟨by rw [HCI.out]; rfl, (HM.out.put 0 rfl _ hg9 hb9).bel⟩
  have HE := Lib.hid (show headB l = (info0, 4) from by rw [headB, if_neg (by omega), if_neg (by omega), hX, if_neg v4, if_neg v6])
  go_enter Try.func28, Try.ntmps28
  go_upto_region 1 with fail
  generalize w.alloc (.cells #[.bool false, .int .u8 0, .int .u8 0, .int .u8 0, .int .u8 0, .int .u8 0, .int .u8 0, .int .u8 0, .int .u8 0, .int .u8 0, .int .u8 0, .int .u8 0, .int .u8 0, .int .u8 0, .int .u8 0, .int .u8 0, .int .u8 0, .bool false, .int .u8 0, .int .u8 0, .int .u8 0, .int .u8 0, .int .u8 0, .int .u8 0, .int .u8 0, .int .u8 0, .int .u8 0, .int .u8 0, .int .u8 0, .int .u8 0, .int .u8 0, .int .u8 0, .int .u8 0, .int .u8 0, .int .i64 0] 31) = w1 at HM ⊢
  have fx := (HM.out.arg HK.out).byt 0 (by omega)
  rw [Nat.add_zero, hX] at fx
  clear hX
  obtain ⟨V, hV⟩ : ∃ v, X.toNat / 16 = v := ⟨_, rfl⟩
  have hVi : (X.toNat : Int) / 16 = (V : Int) := by omega
  have n4 : ((V : Int) == 4) = false := by rw [beq_eq_false_iff_ne]; omega
  have n6 : ((V : Int) == 6) = false := by rw [beq_eq_false_iff_ne]; omega
  clear hV v4 v6
  go_wp2_with (refine wpList_store_blk rfl 31 (.tmp 2) (.tmp 30) rfl w.heap.size info0.cells rfl rfl 31 info0.cells (HM.out.blk 0 rfl) HIL.out rfl (InfoM.one _) ?_; intro w9 hb9 hg9)
  exact bodyPost_ret (results_obj_tmp rfl _ _ w.heap.size 31 info0.cells _ rfl hb9 Try.underlying31 rfl HIL.out) rfl ⟨by rw [HE.out]; rfl, (HM.out.put 0 rfl _ hg9 hb9).bel⟩
set_option maxRecDepth 100000 in
set_option maxHeartbeats 8000000 in
theorem inCheckC : InCheckC := by
  intro A n c l hnc _ hn w hr
  have HM := Lib.hid (show Mem w [blkE w.heap.size 31 info0.cells] (w.alloc (.cells #[.bool false, .int .u8 0, .int .u8 0, .int .u8 0, .int .u8 0, .int .u8 0, .int .u8 0, .int .u8 0, .int .u8 0, .int .u8 0, .int .u8 0, .int .u8 0, .int .u8 0, .int .u8 0, .int .u8 0, .int .u8 0, .int .u8 0, .bool false, .int .u8 0, .int .u8 0, .int .u8 0, .int .u8 0, .int .u8 0, .int .u8 0, .int .u8 0, .int .u8 0, .int .u8 0, .int .u8 0, .int .u8 0, .int .u8 0, .int .u8 0, .int .u8 0, .int .u8 0, .int .u8 0, .int .i64 0] 31)) from (Mem.nil w).alloc rfl 31 #[.bool false, .int .u8 0, .int .u8 0, .int .u8 0, .int .u8 0, .int .u8 0, .int .u8 0, .int .u8 0, .int .u8 0, .int .u8 0, .int .u8 0, .int .u8 0, .int .u8 0, .int .u8 0, .int .u8 0, .int .u8 0, .int .u8 0, .bool false, .int .u8 0, .int .u8 0, .int .u8 0, .int .u8 0, .int .u8 0, .int .u8 0, .int .u8 0, .int .u8 0, .int .u8 0, .int .u8 0, .int .u8 0, .int .u8 0, .int .u8 0, .int .u8 0, .int .u8 0, .int .u8 0, .int .i64 0] info0.cells rfl)
  have HK := Lib.hid hr
  have hl := hr.1
  have HIL := Lib.hid (info_cellsOf info0 info0_ok)
  clear hr
  have hcc := fun (W : World) (hR : Rd W W.heap.size A n l) => readHeader_any A n c l hnc hn W hR
  have hok := (headB_ok l).1
  have hh := checkB_head l
  generalize headB l = pp at hcc hok hh
  obtain ⟨ii, ee⟩ := pp
  obtain ⟨ci, hci⟩ : ∃ x, ii.cells.toArray = x := ⟨_, rfl⟩
  simp only [hci] at hcc hok hh
  have HKC := Lib.hid hcc
  have HO := Lib.hid hok
  have HCI := Lib.hid hci
  have HH := Lib.hid hh
  clear hcc hok hci hh
  go_enter Try.func9, Try.ntmps9
  go_upto_region 1 with fail
  generalize w.alloc (.cells #[.bool false, .int .u8 0, .int .u8 0, .int .u8 0, .int .u8 0, .int .u8 0, .int .u8 0, .int .u8 0, .int .u8 0, .int .u8 0, .int .u8 0, .int .u8 0, .int .u8 0, .int .u8 0, .int .u8 0, .int .u8 0, .int .u8 0, .bool false, .int .u8 0, .int .u8 0, .int .u8 0, .int .u8 0, .int .u8 0, .int .u8 0, .int .u8 0, .int .u8 0, .int .u8 0, .int .u8 0, .int .u8 0, .int .u8 0, .int .u8 0, .int .u8 0, .int .u8 0, .int .u8 0, .int .i64 0] 31) = w1 at HM ⊢
  go_wp2_with fail
  refine (HKC.out _ (HM.out.arg HK.out)).mono ?_
  rintro e w2 ⟨rfl, hb⟩
  replace HM := Lib.hid (HM.out.below hb)
  clear hb HKC
  have HA := Lib.hid (show Mem w [blkE w2.heap.size 31 info0.cells, blkE w.heap.size 31 info0.cells] (w2.alloc (.cells #[.bool false, .int .u8 0, .int .u8 0, .int .u8 0, .int .u8 0, .int .u8 0, .int .u8 0, .int .u8 0, .int .u8 0, .int .u8 0, .int .u8 0, .int .u8 0, .int .u8 0, .int .u8 0, .int .u8 0, .int .u8 0, .int .u8 0, .bool false, .int .u8 0, .int .u8 0, .int .u8 0, .int .u8 0, .int .u8 0, .int .u8 0, .int .u8 0, .int .u8 0, .int .u8 0, .int .u8 0, .int .u8 0, .int .u8 0, .int .u8 0, .int .u8 0, .int .u8 0, .int .u8 0, .int .i64 0] 31)) from HM.out.alloc rfl 31 #[.bool false, .int .u8 0, .int .u8 0, .int .u8 0, .int .u8 0, .int .u8 0, .int .u8 0, .int .u8 0, .int .u8 0, .int .u8 0, .int .u8 0, .int .u8 0, .int .u8 0, .int .u8 0, .int .u8 0, .int .u8 0, .int .u8 0, .bool false, .int .u8 0, .int .u8 0, .int .u8 0, .int .u8 0, .int .u8 0, .int .u8 0, .int .u8 0, .int .u8 0, .int .u8 0, .int .u8 0, .int .u8 0, .int .u8 0, .int .u8 0, .int .u8 0, .int .u8 0, .int .u8 0, .int .i64 0] info0.cells rfl)
  go_upto_region 2 with (refine wpList_store_blk rfl 31 (.tmp 4) (.tmp 9) rfl w2.heap.size ii.cells rfl (by show Value.agg ci = _; rw [HCI.out]) 31 info0.cells (HA.out.blk 0 rfl) (info_cellsOf _ HO.out) (by rw [InfoM.cells_length HO.out]; rfl) (InfoM.one _) ?_; intro w3 hb9 hg9)
  (try simp only [Act.put])
  replace HM := Lib.hid (show Mem w [blkE w2.heap.size 31 ii.cells, blkE w.heap.size 31 info0.cells] w3 from HA.out.put 0 rfl _ hg9 hb9)
  clear HA hb9 hg9
  generalize w2.heap.size = P4 at HM ⊢
  by_cases he : ee = 0
  · subst he
    have fl := ((HM.out.blk 0 rfl).cell 34).trans (InfoM.len_cell ii HO.out)
    have hle := HO.out.2.2
    obtain ⟨q, hq⟩ : ∃ q, ii.len = q := ⟨_, rfl⟩
    rw [hq] at fl hle
    have HQ := Lib.hid hq
    clear hq
    by_cases h6 : n < q
    · have t7 : decide ((q : Int) > (n : Int)) = true := by simp; omega
      have HE := Lib.hid (show checkB l = (info0, 2) from by rw [HH.out, if_neg (by simp), if_pos (by rw [HQ.out, hl]; exact h6)])
      go_wp2_with (refine wpList_store_blk rfl 31 (.tmp 2) (.tmp 22) rfl w.heap.size info0.cells rfl rfl 31 info0.cells (HM.out.blk 1 rfl) HIL.out rfl (InfoM.one _) ?_; intro w9 hb9 hg9)
      exact bodyPost_ret (results_obj_tmp rfl _ _ w.heap.size 31 info0.cells _ rfl hb9 Try.underlying31 rfl HIL.out) rfl ⟨by rw [HE.out]; rfl, (HM.out.put 1 rfl _ hg9 hb9).bel⟩
    have t7 : decide ((q : Int) > (n : Int)) = false := by simp; omega
    by_cases h7 : 2000 < q
    · have t8 : decide ((q : Int) > 2000) = true := by simp; omega
      have HE := Lib.hid (show checkB l = (info0, 3) from by rw [HH.out, if_neg (by simp), if_neg (by rw [HQ.out, hl]; exact h6), if_pos (by rw [HQ.out]; exact h7)])
      go_wp2_with (refine wpList_store_blk rfl 31 (.tmp 2) (.tmp 27) rfl w.heap.size info0.cells rfl rfl 31 info0.cells (HM.out.blk 1 rfl) HIL.out rfl (InfoM.one _) ?_; intro w9 hb9 hg9)
      exact bodyPost_ret (results_obj_tmp rfl _ _ w.heap.size 31 info0.cells _ rfl hb9 Try.underlying31 rfl HIL.out) rfl ⟨by rw [HE.out]; rfl, (HM.out.put 1 rfl _ hg9 hb9).bel⟩
    have t8 : decide ((q : Int) > 2000) = false := by simp; omega
    have HE := Lib.hid (show checkB l = (ii, 0) from by rw [HH.out, if_neg (by simp), if_neg (by rw [HQ.out, hl]; exact h6), if_neg (by rw [HQ.out]; exact h7)])
    go_upto_region 8 with fail
    go_wp2_with (first | (refine wpList_load_obj rfl 31 (.tmp 4) rfl P4 0 rfl ii.cells (HM.out.blk 0 rfl).all _ Try.underlying31 rfl (info_cellsOf _ HO.out) ?_; rw [HCI.out]) | (refine wpList_store_blk rfl 31 (.tmp 2) (.tmp 28) rfl w.heap.size ii.cells rfl (by show Value.agg ci = _; rw [HCI.out]) 31 info0.cells (HM.out.blk 1 rfl) (info_cellsOf _ HO.out) (by rw [InfoM.cells_length HO.out]; rfl) (InfoM.one _) ?_; intro w9 hb9 hg9))
    exact bodyPost_ret (results_obj_tmp rfl _ _ w.heap.size 31 ii.cells _ rfl hb9 Try.underlying31 rfl (info_cellsOf _ HO.out)) rfl ⟨by rw [HE.out]; rfl, (HM.out.put 1 rfl _ hg9 hb9).bel⟩
  · have hne : ((ee : Int) != 0) = true := by simp; omega
    have HE := Lib.hid (show checkB l = (info0, ee) from by rw [HH.out, if_pos (by simpa using he)])
    go_wp2_with (refine wpList_store_blk rfl 31 (.tmp 2) (.tmp 14) rfl w.heap.size info0.cells rfl rfl 31 info0.cells (HM.out.blk 1 rfl) HIL.out rfl (InfoM.one _) ?_; intro w9 hb9 hg9)
    exact bodyPost_ret (results_obj_tmp rfl _ _ w.heap.size 31 info0.cells _ rfl hb9 Try.underlying31 rfl HIL.out) rfl ⟨by rw [HE.out]; rfl, (HM.out.put 1 rfl _ hg9 hb9).bel⟩
theorem padB_put (n m : Nat) (l : List UInt8) (hl : l.length = n) (hm : m = (n + 15) / 16 * 16) : putL (List.replicate m (0 : UInt8)) 0 l = padB l := by
  rw [putL, padB, List.take_zero, List.nil_append, List.drop_replicate, Nat.zero_add, hl]
  congr 2
  omega
theorem padB_length (l : List UInt8) : (padB l).length = (l.length + 15) / 16 * 16 := by
  rw [padB, List.length_append, List.length_replicate]; omega
set_option maxRecDepth 100000 in
set_option maxHeartbeats 8000000 in
theorem inPadC : InPadC := by
  intro A n c l hnc _ hn w hr
  obtain ⟨i0, hi, hz0, hz1, hz2⟩ := info_parts Try.info5
  have hl := hr.1
  have HK := Lib.hid hr
  have hpl := padB_length l
  obtain ⟨d, hd⟩ : ∃ d, (n + 15) / 16 = d := ⟨_, rfl⟩
  obtain ⟨m, hm⟩ : ∃ m, d * 16 = m := ⟨_, rfl⟩
  rw [hl, hd, hm] at hpl
  have hpp := padB_put n m l hl (by rw [hd, hm])
  have hw1 : IntKind.i64.wrap ((n : Int) + 16) = (n : Int) + 16 := by rw [IntKind.wrap_i64]; omega
  have hw2 : IntKind.i64.wrap ((n : Int) + 16 - 1) = (n : Int) + 16 - 1 := by rw [IntKind.wrap_i64]; omega
  have hw3 : ((n : Int) + 16 - 1) / 16 = (d : Int) := by omega
  have hw5 : IntKind.i64.wrap ((d : Int) * 16) = (m : Int) := by rw [IntKind.wrap_i64]; omega
  have hw6 : (d : Int) * 16 = (m : Int) := by omega
  have hw7 : IntKind.i64.wrap (m : Int) = (m : Int) := by rw [IntKind.wrap_i64]; omega
  have hmn : n ≤ m := by omega
  have hml : m ≤ 200000 := by omega
  generalize padB l = pl at hpl hpp ⊢
  have HPP := Lib.hid hpp
  have HPL := Lib.hid hpl
  clear hd hm hpp hpl hr hl
  go_enter Try.func13, Try.ntmps13
  go_upto_region 3 with (refine wpList_make_full _ rfl (.tmp 11) (.tmp 11) 22 rfl w.heap.size 5 i0 (.int .u8 0) 1 Try.underlying22 hi hz0 hz1 .i64 .i64 m m m rfl rfl rfl rfl (by rw [hz2]; omega) (by unfold maxLen; omega) (Nat.le_refl _) ?_; intro w1 hown1 hg1)
  rw [show (Value.int IntKind.u8 0).cells = #[.int .u8 0] from rfl, toList_madeCells_one, Nat.mul_one] at hown1
  have hP0 := row_blk hown1
  rw [show List.replicate m (Value.int .u8 0) = ((List.replicate m (0 : UInt8)).map u8v) by rw [List.map_replicate]; rfl] at hP0
  have HM := Lib.hid (show Mem w [blkE w.heap.size 5 ((List.replicate m (0 : UInt8)).map u8v)] w1 from (Mem.nil w).made (Below.grown (Below.refl _ _) hg1 (Nat.le_refl _) (by simp)) hP0)
  clear hown1 hg1 hP0 hw1 hw2 hw3 hw5 hw6 hw7
  generalize w.heap.size = P at HM ⊢
  go_upto_region 4 with (refine wpList_copy_rd _ rfl (.tmp 13) (.tmp 14) 22 22 rfl 5 Try.underlying22 (by kernel_rfl) P m m A n c rfl rfl (List.replicate m 0) 5 (HM.out.blk 0 rfl) _ l (HM.out.arg HK.out) hmn (by rw [List.length_replicate]; omega) ?_; intro w2 hb hg)
  rw [HPP.out] at hb
  replace HM := Lib.hid (show Mem w [blkE P 5 (pl.map u8v)] w2 from HM.out.put 0 rfl _ hg hb)
  clear hb hg
  go_wp2
  go_ret
  exact ⟨some ⟨P, 0, none⟩, m, by rw [HPL.out]; rfl, by rw [HPL.out]; exact Nat.le_refl _, by unfold maxLen; omega, blk_all (HM.out.blk 0 rfl) rfl, HM.out.bel⟩
theorem eql_nil (A : Option Addr) (n c : Nat) (w : World) : (binOp .eql 22 (.slice A n c) (.slice none 0 0)).run Try.prog w = .ok (.bool A.isNone) w := by
  have h := run_equal_slice_nil (P := Try.prog) w 22 5 A n c Try.underlying22
  simp [binOp, h, Result.andThen]
set_option maxRecDepth 100000 in
set_option maxHeartbeats 8000000 in
theorem clone_any (A : Option Addr) (n c : Nat) (l : List UInt8) (hn : n ≤ 1000000) (w : World) (hr : Rd w w.heap.size A n l) :
    Calls Try.prog 31 #[.slice A n c] w fun e w' => ∃ A' c', e = .returned (.slice A' n c') ∧ Rd w' w'.heap.size A' n l ∧ Below w.heap.size w w' := by
  obtain ⟨i0, hi, hz0, hz1, hz2⟩ := info_parts Try.info5
  have HR := Lib.hid hr
  cases A with
  | none =>
    have hn0 : n = 0 := by
      rcases Nat.eq_zero_or_pos n with h | h
      · exact h
      · obtain ⟨b, off, e, _⟩ := hr.at_ h
        cases e
    subst hn0
    clear hr
    have hen := eql_nil none 0 c
    simp only [Option.isNone_none] at hen
    go_enter Try.func31, Try.ntmps31
    go_wp2
    go_ret
    exact ⟨none, 0, rfl, HR.out, Below.refl _ _⟩
  | some ad =>
    have HB := Lib.hid (show Mem w [blkE w.heap.size 5 []] (w.alloc (.cells #[] 5)) from (Mem.nil w).alloc rfl 5 #[] [] rfl)
    have hown0 := World.ownsRow_lit (base := w.heap.size) (e := 5) (size := 1) w #[] 0 (Nat.le_refl _) (by simp) rfl
    have HO := Lib.hid hown0
    clear hr hown0
    have hen := eql_nil (some ad) n c
    simp only [Option.isNone_some] at hen
    go_enter Try.func31, Try.ntmps31
    go_wp2_with (refine wpList_append_rd _ rfl (.tmp 5) (.tmp 6) 22 rfl w.heap.size 5 i0 (.int .u8 0) Try.underlying22 hi hz0 hz1 hz2 rfl (.slice (some ⟨w.heap.size, 0, none⟩) 0 0) 0 [] rfl HO.out _ _ n c l rfl (HB.out.arg HR.out) (by omega) (by simp) ?_; intro v1 w3 hown1 hg1)
    rw [Nat.zero_add, List.nil_append] at hown1
    obtain ⟨A5, c5, rfl, _⟩ := own_slice hown1
    have HF := Lib.hid (HB.out.bel.grown hg1 HB.out.bel.size (fun k hk => own_from HO.out k hk))
    go_ret
    exact ⟨A5, ⟨c5, rfl⟩, Rd.of_own hown1, HF.out⟩
set_option maxRecDepth 100000 in
set_option maxHeartbeats 4000000 in
theorem inTrimC : InTrimC := by
  intro A n c l hnc _hcm hn w hr
  have CC := inCheckC A n c l hnc _hcm hn w hr
  have hok := (checkB_ok l).1
  have hle := (checkB_ok l).2.2
  have ht : trimB l = if (checkB l).2 = 0 then (l.take (checkB l).1.len, 0) else ([], (checkB l).2) := rfl
  have h20 : (checkB l).2 = 0 → 0 < n := by
    intro h
    rcases Nat.eq_zero_or_pos n with h0 | h0
    · rw [checkB_none l (hr.1.trans h0)] at h
      cases h
    · exact h0
  generalize hci : (checkB l).1 = ii at CC hok hle ht
  generalize (checkB l).2 = ee at CC hle ht h20
  clear hci
  have HIO := Lib.hid hok
  have HIL := Lib.hid (info_cellsOf ii hok)
  obtain ⟨ci, hci⟩ : ∃ x, ii.cells.toArray = x := ⟨_, rfl⟩
  rw [hci] at CC
  have HCI := Lib.hid hci
  have HKC := Lib.hid CC
  have HR := Lib.hid hr
  have HLN := Lib.hid hr.1
  clear CC hok hci hr
  obtain ⟨tl, htl⟩ : ∃ t, trimB l = t := ⟨_, rfl⟩
  rw [htl] at ht ⊢
  have HT := Lib.hid ht
  clear ht htl
  go_enter Try.func11, Try.ntmps11
  go_upto_region 1 with fail
  go_wp2_with fail
  refine HKC.out.mono ?_
  rintro e w1 ⟨rfl, hb⟩
  have HM := Lib.hid (show Mem w [] w1 from (Mem.nil w).below hb)
  clear hb HKC
  have HA := Lib.hid (show Mem w [blkE w1.heap.size 31 info0.cells] (w1.alloc (.cells #[.bool false, .int .u8 0, .int .u8 0, .int .u8 0, .int .u8 0, .int .u8 0, .int .u8 0, .int .u8 0, .int .u8 0, .int .u8 0, .int .u8 0, .int .u8 0, .int .u8 0, .int .u8 0, .int .u8 0, .int .u8 0, .int .u8 0, .bool false, .int .u8 0, .int .u8 0, .int .u8 0, .int .u8 0, .int .u8 0, .int .u8 0, .int .u8 0, .int .u8 0, .int .u8 0, .int .u8 0, .int .u8 0, .int .u8 0, .int .u8 0, .int .u8 0, .int .u8 0, .int .u8 0, .int .i64 0] 31)) from HM.out.alloc rfl 31 #[.bool false, .int .u8 0, .int .u8 0, .int .u8 0, .int .u8 0, .int .u8 0, .int .u8 0, .int .u8 0, .int .u8 0, .int .u8 0, .int .u8 0, .int .u8 0, .int .u8 0, .int .u8 0, .int .u8 0, .int .u8 0, .int .u8 0, .bool false, .int .u8 0, .int .u8 0, .int .u8 0, .int .u8 0, .int .u8 0, .int .u8 0, .int .u8 0, .int .u8 0, .int .u8 0, .int .u8 0, .int .u8 0, .int .u8 0, .int .u8 0, .int .u8 0, .int .u8 0, .int .u8 0, .int .i64 0] info0.cells rfl)
  go_upto_region 2 with (refine wpList_store_blk rfl 31 (.tmp 4) (.tmp 9) rfl w1.heap.size ii.cells rfl (by show Value.agg ci = _; rw [HCI.out]) 31 info0.cells (HA.out.blk 0 rfl) HIL.out (by rw [InfoM.cells_length HIO.out]; rfl) (InfoM.one _) ?_; intro w2 hb9 hg9)
  (try simp only [Act.put])
  replace HM := Lib.hid (show Mem w [blkE w1.heap.size 31 ii.cells] w2 from HA.out.put 0 rfl _ hg9 hb9)
  clear HA hb9 hg9
  generalize w1.heap.size = P4 at HM ⊢
  by_cases he : ee = 0
  · subst he
    have hle2 := hle rfl
    have HL := Lib.hid (show tl = (l.take ii.len, 0) from HT.out)
    obtain ⟨b, off, rfl, _, _⟩ := HR.out.at_ (h20 rfl)
    have fl := ((HM.out.blk 0 rfl).cell 34).trans (InfoM.len_cell ii HIO.out)
    obtain ⟨q, hq⟩ : ∃ q, ii.len = q := ⟨_, rfl⟩
    rw [hq] at hle2 HL fl
    have hqn : q ≤ n := by have := HLN.out; omega
    have hqi : (q : Int) ≤ (c : Int) := by omega
    have hsl : ∀ w' : World, (Instr.sliceAt 22 (.slice (some ⟨b, off, none⟩) n c) none (some (.int .i64 (q : Int))) none).run Try.prog w' = .ok (.slice (some ⟨b, off, none⟩) q c) w' := fun w' => slice_h _ ⟨b, off, rfl⟩ n c q (by omega) w'
    have HRQ := Lib.hid ((HR.out.take hqn).mono (Nat.le_refl _))
    have htl : (l.take q).length = q := by rw [List.length_take]; have := HLN.out; omega
    have HTL := Lib.hid htl
    clear hle hq htl hle2
    go_wp2_with fail
    refine (clone_any (some ⟨b, off, none⟩) q c (l.take q) (by omega) w2 (HM.out.arg HRQ.out)).mono ?_
    rintro e w3 ⟨A5, c5, rfl, hr5, hb5⟩
    have HF := Lib.hid (And.intro hr5 (HM.out.below hb5).bel)
    clear hr5 hb5
    go_wp2
    exact bodyPost_ret (results_tmp2 rfl _ _ _) rfl ⟨A5, c5, by rw [HL.out]; simp only [HTL.out]; rfl, by rw [HL.out]; simp only [HTL.out]; exact HF.out.1, HF.out.2⟩
  · have hne : ((ee : Int) != 0) = true := by simp; omega
    have HL := Lib.hid (show tl = ([], ee) from by rw [HT.out, if_neg he])
    clear hle h20
    go_wp2
    exact bodyPost_ret (results_tmp2 rfl _ _ _) rfl ⟨none, 0, by rw [HL.out]; rfl, by rw [HL.out]; exact Rd.nil _ _ _, HM.out.bel⟩
theorem inValidC : InValidC := fun a bits h _ _ w => valid_any a bits h w
theorem inContainsC : InContainsC := fun a bits h _ _ x hx w => contains_any a bits h x hx w
theorem inLessC : InLessC := fun a b ha hb w => less_any a b ha hb w
end Go.Proofs.Ytdpdalkeafkhkaa
