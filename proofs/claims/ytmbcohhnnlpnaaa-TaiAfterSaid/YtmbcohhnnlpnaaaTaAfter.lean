/-
  TaiAfter returns true for every input, and changes nothing that was there: the walk, over what is asked of tai.After and Of. No statement is proved here.
-/
import Derived.Test.YtmbcohhnnlpnaaaTaAfterC
import Derived.Test.YtmbcohhnnlpnaaaTaBegun
import Derived.Test.YtmbcohhnnlpnaaaTaRTick
namespace Go.Proofs.Ytmbcohhnnlpnaaa
open Go.RowKit

set_option maxRecDepth 100000 in
set_option maxHeartbeats 8000000 in
theorem ta_after_walk (HA : TaAfterC) (HO : TaOfC) (w : World) (a b : List UInt8) (n : Nat) (ha : a.length = 12) (hb : b.length = 12) (hn : n ≤ 255) :
    Calls Try.prog 5 #[.agg (a.map u8v).toArray, .agg (b.map u8v).toArray, .int .u8 (n : Int)] w fun e w' => e = .returned (.bool true) ∧ Below w.heap.size w w' := by
  obtain ⟨ca, hca⟩ : ∃ x, (a.map u8v).toArray = x := ⟨_, rfl⟩
  obtain ⟨cb, hcb⟩ : ∃ x, (b.map u8v).toArray = x := ⟨_, rfl⟩
  have HPC := Lib.hid HA
  have HBG := Lib.hid (ta_begun_any HO)
  have PAB := Lib.hid (fun w' : World => HA a b ha hb w')
  have PAA := Lib.hid (fun w' : World => HA a a ha ha w')
  have RAB := Lib.hid (fun w' : World => refAfter_any a b ha hb w')
  rw [hca, hcb] at PAB RAB
  rw [hca, laterB_self] at PAA
  generalize laterB a b = g1 at PAB RAB
  rw [hca, hcb]
  have HM := Lib.hid (show Mem w [blkE (w.heap.size + 1) 23 (b.map u8v), blkE w.heap.size 23 (a.map u8v)] ((w.alloc (.cells ca 23)).alloc (.cells cb 23)) from ((Mem.nil w).alloc rfl 23 ca (a.map u8v) hca.symm).alloc (by simp) 23 cb (b.map u8v) hcb.symm)
  have HLA := Lib.hid ha
  have HLB := Lib.hid hb
  have HCA := Lib.hid hca
  have HCB := Lib.hid hcb
  obtain ⟨i, hii⟩ : ∃ i, n % 13 = i := ⟨_, rfl⟩
  have hi12 : i ≤ 12 := by omega
  have HDL := Lib.hid (show (b.drop i).length = 12 - i by rw [List.length_drop, hb])
  clear hca hcb ha hb HA HO
  go_enter Try.func5, Try.ntmps5
  go_upto_region 1 with fail
  generalize ((w.alloc (.cells ca 23)).alloc (.cells cb 23)) = w1 at HM ⊢
  have HAL := Lib.hid (HM.out.alloc rfl 23 #[.int .u8 0, .int .u8 0, .int .u8 0, .int .u8 0, .int .u8 0, .int .u8 0, .int .u8 0, .int .u8 0, .int .u8 0, .int .u8 0, .int .u8 0, .int .u8 0] (aeZ 12) rfl)
  go_upto_region 2 with (first | (refine wpList_load_blk rfl 23 (.tmp 3) rfl w.heap.size rfl 23 (a.map u8v) (HM.out.blk 1 rfl) 12 5 Try.underlying23 (stampCells a HLA.out) ?_; rw [HCA.out]) | (refine wpList_store_blk rfl 23 (.tmp 7) (.tmp 8) rfl w1.heap.size (a.map u8v) rfl (by show Value.agg ca = _; rw [HCA.out]) 23 (aeZ 12) (HAL.out.blk 0 rfl) (stampCells a HLA.out) (by rw [List.length_map, HLA.out]; rfl) (u8v_one _) ?_; intro w3 hb3 hg3))
  replace HM := Lib.hid (show Mem w [blkE w1.heap.size 23 (a.map u8v), blkE (w.heap.size + 1) 23 (b.map u8v), blkE w.heap.size 23 (a.map u8v)] w3 from HAL.out.put 0 rfl _ hg3 hb3)
  clear hb3 hg3 HAL
  generalize w1.heap.size = Q at HM ⊢
  generalize w.heap.size = GA at HM ⊢
  by_cases h12 : i = 12
  · subst h12
    have m1 : (n : Int) % 13 = 12 := by omega
    have m2 : ((n : Int)).tmod 13 = 12 := by rw [Int.tmod_eq_emod_of_nonneg (by omega)]; omega
    have m3 : IntKind.i64.wrap (n : Int) = (n : Int) := IntWalk.i64_in _ (by omega)
    clear hii hi12
    refine wp_region_held_drew (S := fun W' => Mem w [blkE (GA + 1) 23 (b.map u8v), blkE GA 23 (a.map u8v)] W') (by kernel_rfl) (((HM.out.erase 0)).drew) (fun hHeld => ?_)
    replace HM := Lib.hid HM.out.drew
    generalize w3.drew = wd1 at HM hHeld ⊢
    refine take_first (v := ?_) 0 rfl (by kernel_rfl) (by kernel_rfl) (by kernel_rfl) (fun _ _ _ h => h) (Or.inl ⟨by rfl, ?_⟩) (by assumption) ?_
    rotate_left
    · (intro w hSw; (try dsimp only at hSw); go_simp; try with_reducible rfl)
    (try simp only [Act.put, List.setIfInBounds_toArray, List.set_cons_zero, List.set_cons_succ])
    refine take_first (v := ?_) 1 rfl (by kernel_rfl) (by kernel_rfl) (by kernel_rfl) (fun _ _ _ h => h) (Or.inl ⟨by rfl, ?_⟩) (by assumption) ?_
    rotate_left
    · (intro w hSw; (try dsimp only at hSw); go_simp; try with_reducible rfl)
    (try simp only [Act.put, List.setIfInBounds_toArray, List.set_cons_zero, List.set_cons_succ])
    refine take_first (v := ?_) 2 rfl (by kernel_rfl) (by kernel_rfl) (by kernel_rfl) (fun _ _ _ h => h) (Or.inl ⟨by rfl, ?_⟩) (by assumption) ?_
    rotate_left
    · (intro w hSw; (try dsimp only at hSw); go_simp; try with_reducible rfl)
    (try simp only [Act.put, List.setIfInBounds_toArray, List.set_cons_zero, List.set_cons_succ])
    refine take_first (v := ?_) 3 rfl (by kernel_rfl) (by kernel_rfl) (by kernel_rfl) (fun _ _ _ h => h) (Or.inl ⟨by rfl, ?_⟩) (by assumption) ?_
    rotate_left
    · (intro w hSw; (try dsimp only at hSw); go_simp; try with_reducible rfl)
    (try simp only [Act.put, List.setIfInBounds_toArray, List.set_cons_zero, List.set_cons_succ])
    refine take_first (v := ?_) 4 rfl (by kernel_rfl) (by kernel_rfl) (by kernel_rfl) (fun _ _ _ h => h) (Or.inl ⟨by rfl, ?_⟩) (by assumption) ?_
    rotate_left
    · (intro w hSw; (try dsimp only at hSw); go_simp; try with_reducible rfl)
    (try simp only [Act.put, List.setIfInBounds_toArray, List.set_cons_zero, List.set_cons_succ])
    refine take_first (v := ?_) 5 rfl (by kernel_rfl) (by kernel_rfl) (by kernel_rfl) (fun _ _ _ h => h) (Or.inl ⟨by rfl, ?_⟩) (by assumption) ?_
    rotate_left
    · (intro w hSw; (try dsimp only at hSw); go_simp; try with_reducible rfl)
    (try simp only [Act.put, List.setIfInBounds_toArray, List.set_cons_zero, List.set_cons_succ])
    refine take_first (v := ?_) 6 rfl (by kernel_rfl) (by kernel_rfl) (by kernel_rfl) (fun _ _ _ h => h) (Or.inl ⟨by rfl, ?_⟩) (by assumption) ?_
    rotate_left
    · (intro w hSw; (try dsimp only at hSw); go_simp; try with_reducible rfl)
    (try simp only [Act.put, List.setIfInBounds_toArray, List.set_cons_zero, List.set_cons_succ])
    refine take_first (v := ?_) 7 rfl (by kernel_rfl) (by kernel_rfl) (by kernel_rfl) (fun _ _ _ h => h) (Or.inl ⟨by rfl, ?_⟩) (by assumption) ?_
    rotate_left
    · (intro w hSw; (try dsimp only at hSw); go_simp; try with_reducible rfl)
    (try simp only [Act.put, List.setIfInBounds_toArray, List.set_cons_zero, List.set_cons_succ])
    refine step_one 8 rfl (by kernel_rfl) (fun K hK => ?_)
    clear hHeld
    refine step_copy_bytes _ rfl (.tmp 12) (.tmp 16) 35 35 (by rfl) 5 Try.underlying35 (by kernel_rfl) Q 0 0 0 ⟨GA + 1, 0, none⟩ 0 0 (by rfl) (by rfl) ((a).map u8v) 23 (HM.out.blk 0 rfl) ((([] : List UInt8)).map u8v) (by rw [List.length_map, show ([] : List UInt8).length = 0 from rfl]; rfl) (show Rd wd1 wd1.heap.size (some ⟨GA + 1, 0, none⟩) 0 [] from Rd.nil _ _ _).src (by rw [List.length_map, List.length_map, show ([] : List UInt8).length = 0 from rfl]; rw [HLA.out]; decide) (u8v_one _) ?_
    intro wy2 hb hg
    rw [putL_map] at hb
    replace HM := Lib.hid (show Mem w [blkE Q 23 ((putL a 0 ([] : List UInt8)).map u8v), blkE (GA + 1) 23 (b.map u8v), blkE GA 23 (a.map u8v)] wy2 from HM.out.put 0 rfl _ hg hb)
    clear hb hg
    refine hK.out _ _ ((HM.out.erase 0)) (fun hHeld => ?_)
    clear hK K
    (try simp only [Act.put, List.setIfInBounds_toArray, List.set_cons_zero, List.set_cons_succ])
    refine wpAnyH_done (by kernel_rfl) ?_ _
    obtain ⟨c, hc⟩ : ∃ x, putL a 0 ([] : List UInt8) = x := ⟨_, rfl⟩
    rw [hc] at HM
    have HLC := Lib.hid (show c.length = 12 by rw [← hc, putL_length _ _ _ (by rw [HLA.out]; decide)]; exact HLA.out)
    clear hc hHeld
    generalize hwq : wy2 = wq at HM ⊢
    clear hwq
    obtain ⟨cc, hcc⟩ : ∃ x, (c.map u8v).toArray = x := ⟨_, rfl⟩
    have PAC := Lib.hid (fun w' : World => HPC.out a c HLA.out HLC.out w')
    have RAC := Lib.hid (fun w' : World => refAfter_any a c HLA.out HLC.out w')
    rw [HCA.out, hcc] at PAC RAC
    have HCC := Lib.hid hcc
    clear hcc
    generalize laterB a c = g2 at PAC RAC
    go_upto_region 3 with fail
    refine wp_region_held_drew (S := fun W' => Mem w [blkE Q 23 ((c).map u8v), blkE (GA + 1) 23 (b.map u8v), blkE GA 23 (a.map u8v)] W') (by kernel_rfl) ((HM.out).drew) (fun hHeld => ?_)
    replace HM := Lib.hid HM.out.drew
    generalize wq.drew = wd11 at HM hHeld ⊢
    refine take_first (v := (.agg ca)) 0 rfl (by kernel_rfl) (by kernel_rfl) (by kernel_rfl) (fun _ _ _ h => h) (by rw [← HCA.out]; exact yields_load_blk (by rfl) 23 (.tmp 3) rfl GA rfl 23 (a.map u8v) (fun _ h => Mem.blk h 2 rfl) 12 5 Try.underlying23 (stampCells a HLA.out)) (by assumption) ?_
    (try simp only [Act.put, List.setIfInBounds_toArray, List.set_cons_zero, List.set_cons_succ])
    refine take_first (v := (.agg cb)) 1 rfl (by kernel_rfl) (by kernel_rfl) (by kernel_rfl) (fun _ _ _ h => h) (by rw [← HCB.out]; exact yields_load_blk (by rfl) 23 (.tmp 4) rfl (GA + 1) rfl 23 (b.map u8v) (fun _ h => Mem.blk h 1 rfl) 12 5 Try.underlying23 (stampCells b HLB.out)) (by assumption) ?_
    (try simp only [Act.put, List.setIfInBounds_toArray, List.set_cons_zero, List.set_cons_succ])
    refine take_first (v := (.agg ca)) 3 rfl (by kernel_rfl) (by kernel_rfl) (by kernel_rfl) (fun _ _ _ h => h) (by rw [← HCA.out]; exact yields_load_blk (by rfl) 23 (.tmp 3) rfl GA rfl 23 (a.map u8v) (fun _ h => Mem.blk h 2 rfl) 12 5 Try.underlying23 (stampCells a HLA.out)) (by assumption) ?_
    (try simp only [Act.put, List.setIfInBounds_toArray, List.set_cons_zero, List.set_cons_succ])
    refine take_first (v := (.agg cb)) 4 rfl (by kernel_rfl) (by kernel_rfl) (by kernel_rfl) (fun _ _ _ h => h) (by rw [← HCB.out]; exact yields_load_blk (by rfl) 23 (.tmp 4) rfl (GA + 1) rfl 23 (b.map u8v) (fun _ h => Mem.blk h 1 rfl) 12 5 Try.underlying23 (stampCells b HLB.out)) (by assumption) ?_
    (try simp only [Act.put, List.setIfInBounds_toArray, List.set_cons_zero, List.set_cons_succ])
    refine step_one 2 rfl (by kernel_rfl) (fun K hK => ?_)
    clear hHeld
    go_simp
    refine (PAB.out _).mono ?_
    rintro e wy12 ⟨rfl, hb⟩
    replace HM := Lib.hid (show Mem w [blkE Q 23 ((c).map u8v), blkE (GA + 1) 23 (b.map u8v), blkE GA 23 (a.map u8v)] wy12 from HM.out.below hb)
    clear hb
    go_wp2_with fail
    refine hK.out _ _ (HM.out) (fun hHeld => ?_)
    clear hK K
    (try simp only [Act.put, List.setIfInBounds_toArray, List.set_cons_zero, List.set_cons_succ])
    refine step_one 5 rfl (by kernel_rfl) (fun K hK => ?_)
    clear hHeld
    go_simp
    refine (RAB.out _).mono ?_
    rintro e wy13 ⟨rfl, hb⟩
    replace HM := Lib.hid (show Mem w [blkE Q 23 ((c).map u8v), blkE (GA + 1) 23 (b.map u8v), blkE GA 23 (a.map u8v)] wy13 from HM.out.below hb)
    clear hb
    go_wp2_with fail
    refine hK.out _ _ (HM.out) (fun hHeld => ?_)
    clear hK K
    (try simp only [Act.put, List.setIfInBounds_toArray, List.set_cons_zero, List.set_cons_succ])
    refine take_first (v := ?_) 6 rfl (by kernel_rfl) (by kernel_rfl) (by kernel_rfl) (fun _ _ _ h => h) (Or.inl ⟨by rfl, ?_⟩) (by assumption) ?_
    rotate_left
    · (intro w hSw; (try dsimp only at hSw); go_simp; try with_reducible rfl)
    (try simp only [Act.put, List.setIfInBounds_toArray, List.set_cons_zero, List.set_cons_succ])
    refine take_first (v := ?_) 7 rfl (by kernel_rfl) (by kernel_rfl) (by kernel_rfl) (fun _ _ _ h => h) (Or.inl ⟨by rfl, ?_⟩) (by assumption) ?_
    rotate_left
    · (intro w hSw; (try dsimp only at hSw); go_simp; try with_reducible rfl)
    (try simp only [Act.put, List.setIfInBounds_toArray, List.set_cons_zero, List.set_cons_succ])
    refine take_first (v := (.agg ca)) 8 rfl (by kernel_rfl) (by kernel_rfl) (by kernel_rfl) (fun _ _ _ h => h) (by rw [← HCA.out]; exact yields_load_blk (by rfl) 23 (.tmp 3) rfl GA rfl 23 (a.map u8v) (fun _ h => Mem.blk h 2 rfl) 12 5 Try.underlying23 (stampCells a HLA.out)) (by assumption) ?_
    (try simp only [Act.put, List.setIfInBounds_toArray, List.set_cons_zero, List.set_cons_succ])
    refine take_first (v := (.agg cc)) 9 rfl (by kernel_rfl) (by kernel_rfl) (by kernel_rfl) (fun _ _ _ h => h) (by rw [← HCC.out]; exact yields_load_blk (by rfl) 23 (.tmp 7) rfl Q rfl 23 (c.map u8v) (fun _ h => Mem.blk h 0 rfl) 12 5 Try.underlying23 (stampCells c HLC.out)) (by assumption) ?_
    (try simp only [Act.put, List.setIfInBounds_toArray, List.set_cons_zero, List.set_cons_succ])
    refine take_first (v := (.agg ca)) 11 rfl (by kernel_rfl) (by kernel_rfl) (by kernel_rfl) (fun _ _ _ h => h) (by rw [← HCA.out]; exact yields_load_blk (by rfl) 23 (.tmp 3) rfl GA rfl 23 (a.map u8v) (fun _ h => Mem.blk h 2 rfl) 12 5 Try.underlying23 (stampCells a HLA.out)) (by assumption) ?_
    (try simp only [Act.put, List.setIfInBounds_toArray, List.set_cons_zero, List.set_cons_succ])
    refine take_first (v := (.agg cc)) 12 rfl (by kernel_rfl) (by kernel_rfl) (by kernel_rfl) (fun _ _ _ h => h) (by rw [← HCC.out]; exact yields_load_blk (by rfl) 23 (.tmp 7) rfl Q rfl 23 (c.map u8v) (fun _ h => Mem.blk h 0 rfl) 12 5 Try.underlying23 (stampCells c HLC.out)) (by assumption) ?_
    (try simp only [Act.put, List.setIfInBounds_toArray, List.set_cons_zero, List.set_cons_succ])
    refine step_one 10 rfl (by kernel_rfl) (fun K hK => ?_)
    clear hHeld
    go_simp
    refine (PAC.out _).mono ?_
    rintro e wy14 ⟨rfl, hb⟩
    replace HM := Lib.hid (show Mem w [blkE Q 23 ((c).map u8v), blkE (GA + 1) 23 (b.map u8v), blkE GA 23 (a.map u8v)] wy14 from HM.out.below hb)
    clear hb
    go_wp2_with fail
    refine hK.out _ _ (HM.out) (fun hHeld => ?_)
    clear hK K
    (try simp only [Act.put, List.setIfInBounds_toArray, List.set_cons_zero, List.set_cons_succ])
    refine step_one 13 rfl (by kernel_rfl) (fun K hK => ?_)
    clear hHeld
    go_simp
    refine (RAC.out _).mono ?_
    rintro e wy15 ⟨rfl, hb⟩
    replace HM := Lib.hid (show Mem w [blkE Q 23 ((c).map u8v), blkE (GA + 1) 23 (b.map u8v), blkE GA 23 (a.map u8v)] wy15 from HM.out.below hb)
    clear hb
    go_wp2_with fail
    refine hK.out _ _ (HM.out) (fun hHeld => ?_)
    clear hK K
    (try simp only [Act.put, List.setIfInBounds_toArray, List.set_cons_zero, List.set_cons_succ])
    refine take_first (v := ?_) 14 rfl (by kernel_rfl) (by kernel_rfl) (by kernel_rfl) (fun _ _ _ h => h) (Or.inl ⟨by rfl, ?_⟩) (by assumption) ?_
    rotate_left
    · (intro w hSw; (try dsimp only at hSw); go_simp; try with_reducible rfl)
    (try simp only [Act.put, List.setIfInBounds_toArray, List.set_cons_zero, List.set_cons_succ])
    refine take_first (v := ?_) 15 rfl (by kernel_rfl) (by kernel_rfl) (by kernel_rfl) (fun _ _ _ h => h) (Or.inl ⟨by rfl, ?_⟩) (by assumption) ?_
    rotate_left
    · (intro w hSw; (try dsimp only at hSw); go_simp; try with_reducible rfl)
    (try simp only [Act.put, List.setIfInBounds_toArray, List.set_cons_zero, List.set_cons_succ])
    refine take_first (v := ?_) 16 rfl (by kernel_rfl) (by kernel_rfl) (by kernel_rfl) (fun _ _ _ h => h) (Or.inl ⟨by rfl, ?_⟩) (by assumption) ?_
    rotate_left
    · (intro w hSw; (try dsimp only at hSw); go_simp; try with_reducible rfl)
    (try simp only [Act.put, List.setIfInBounds_toArray, List.set_cons_zero, List.set_cons_succ])
    refine take_first (v := (.agg ca)) 17 rfl (by kernel_rfl) (by kernel_rfl) (by kernel_rfl) (fun _ _ _ h => h) (by rw [← HCA.out]; exact yields_load_blk (by rfl) 23 (.tmp 3) rfl GA rfl 23 (a.map u8v) (fun _ h => Mem.blk h 2 rfl) 12 5 Try.underlying23 (stampCells a HLA.out)) (by assumption) ?_
    (try simp only [Act.put, List.setIfInBounds_toArray, List.set_cons_zero, List.set_cons_succ])
    refine take_first (v := (.agg ca)) 18 rfl (by kernel_rfl) (by kernel_rfl) (by kernel_rfl) (fun _ _ _ h => h) (by rw [← HCA.out]; exact yields_load_blk (by rfl) 23 (.tmp 3) rfl GA rfl 23 (a.map u8v) (fun _ h => Mem.blk h 2 rfl) 12 5 Try.underlying23 (stampCells a HLA.out)) (by assumption) ?_
    (try simp only [Act.put, List.setIfInBounds_toArray, List.set_cons_zero, List.set_cons_succ])
    refine step_one 19 rfl (by kernel_rfl) (fun K hK => ?_)
    clear hHeld
    go_simp
    refine (PAA.out _).mono ?_
    rintro e wy16 ⟨rfl, hb⟩
    replace HM := Lib.hid (show Mem w [blkE Q 23 ((c).map u8v), blkE (GA + 1) 23 (b.map u8v), blkE GA 23 (a.map u8v)] wy16 from HM.out.below hb)
    clear hb
    go_wp2_with fail
    refine hK.out _ _ (HM.out) (fun hHeld => ?_)
    clear hK K
    (try simp only [Act.put, List.setIfInBounds_toArray, List.set_cons_zero, List.set_cons_succ])
    refine take_first (v := ?_) 20 rfl (by kernel_rfl) (by kernel_rfl) (by kernel_rfl) (fun _ _ _ h => h) (Or.inl ⟨by rfl, ?_⟩) (by assumption) ?_
    rotate_left
    · (intro w hSw; (try dsimp only at hSw); go_simp; try with_reducible rfl)
    (try simp only [Act.put, List.setIfInBounds_toArray, List.set_cons_zero, List.set_cons_succ])
    refine take_first (v := ?_) 21 rfl (by kernel_rfl) (by kernel_rfl) (by kernel_rfl) (fun _ _ _ h => h) (Or.inl ⟨by rfl, ?_⟩) (by assumption) ?_
    rotate_left
    · (intro w hSw; (try dsimp only at hSw); go_simp; try with_reducible rfl)
    (try simp only [Act.put, List.setIfInBounds_toArray, List.set_cons_zero, List.set_cons_succ])
    refine take_first (v := ?_) 22 rfl (by kernel_rfl) (by kernel_rfl) (by kernel_rfl) (fun _ _ _ h => h) (Or.inl ⟨by rfl, ?_⟩) (by assumption) ?_
    rotate_left
    · (intro w hSw; (try dsimp only at hSw); go_simp; try with_reducible rfl)
    (try simp only [Act.put, List.setIfInBounds_toArray, List.set_cons_zero, List.set_cons_succ])
    refine step_one 23 rfl (by kernel_rfl) (fun K hK => ?_)
    clear hHeld
    go_simp
    refine (HBG.out _).mono ?_
    rintro e wy17 ⟨rfl, hb⟩
    replace HM := Lib.hid (show Mem w [blkE Q 23 ((c).map u8v), blkE (GA + 1) 23 (b.map u8v), blkE GA 23 (a.map u8v)] wy17 from HM.out.below hb)
    clear hb
    go_wp2_with fail
    refine hK.out _ _ (HM.out) (fun hHeld => ?_)
    clear hK K
    (try simp only [Act.put, List.setIfInBounds_toArray, List.set_cons_zero, List.set_cons_succ])
    refine take_first (v := ?_) 24 rfl (by kernel_rfl) (by kernel_rfl) (by kernel_rfl) (fun _ _ _ h => h) (Or.inl ⟨by rfl, ?_⟩) (by assumption) ?_
    rotate_left
    · (intro w hSw; (try dsimp only at hSw); go_simp; try with_reducible rfl)
    (try simp only [Act.put, List.setIfInBounds_toArray, List.set_cons_zero, List.set_cons_succ])
    refine take_first (v := ?_) 25 rfl (by kernel_rfl) (by kernel_rfl) (by kernel_rfl) (fun _ _ _ h => h) (Or.inl ⟨by rfl, ?_⟩) (by assumption) ?_
    rotate_left
    · (intro w hSw; (try dsimp only at hSw); go_simp; try with_reducible rfl)
    (try simp only [Act.put, List.setIfInBounds_toArray, List.set_cons_zero, List.set_cons_succ])
    refine wpAnyH_done (by kernel_rfl) ?_ _
    have HF := Lib.hid HM.out.bel
    clear HM hHeld
    go_wp2_with fail
    go_ret
    exact ⟨rfl, HF.out⟩
  · have m1 : (n : Int) % 13 = (i : Int) := by omega
    have m2 : ((n : Int)).tmod 13 = (i : Int) := by rw [Int.tmod_eq_emod_of_nonneg (by omega)]; omega
    have m3 : IntKind.i64.wrap (n : Int) = (n : Int) := IntWalk.i64_in _ (by omega)
    have m4 : (i : Int) ≤ 12 := by omega
    have m5 : ¬ 12 = i := by omega
    have m6 : ¬ i = 12 := h12
    have m7 : IntKind.i64.wrap (i : Int) = (i : Int) := IntWalk.i64_in _ (by omega)
    clear hii h12
    refine wp_region_held_drew (S := fun W' => Mem w [blkE (GA + 1) 23 (b.map u8v), blkE GA 23 (a.map u8v)] W') (by kernel_rfl) (((HM.out.erase 0)).drew) (fun hHeld => ?_)
    replace HM := Lib.hid HM.out.drew
    generalize w3.drew = wd1 at HM hHeld ⊢
    refine take_first (v := ?_) 0 rfl (by kernel_rfl) (by kernel_rfl) (by kernel_rfl) (fun _ _ _ h => h) (Or.inl ⟨by rfl, ?_⟩) (by assumption) ?_
    rotate_left
    · (intro w hSw; (try dsimp only at hSw); go_simp; try with_reducible rfl)
    (try simp only [Act.put, List.setIfInBounds_toArray, List.set_cons_zero, List.set_cons_succ])
    refine take_first (v := ?_) 1 rfl (by kernel_rfl) (by kernel_rfl) (by kernel_rfl) (fun _ _ _ h => h) (Or.inl ⟨by rfl, ?_⟩) (by assumption) ?_
    rotate_left
    · (intro w hSw; (try dsimp only at hSw); go_simp; try with_reducible rfl)
    (try simp only [Act.put, List.setIfInBounds_toArray, List.set_cons_zero, List.set_cons_succ])
    refine take_first (v := ?_) 2 rfl (by kernel_rfl) (by kernel_rfl) (by kernel_rfl) (fun _ _ _ h => h) (Or.inl ⟨by rfl, ?_⟩) (by assumption) ?_
    rotate_left
    · (intro w hSw; (try dsimp only at hSw); go_simp; try with_reducible rfl)
    (try simp only [Act.put, List.setIfInBounds_toArray, List.set_cons_zero, List.set_cons_succ])
    refine take_first (v := ?_) 3 rfl (by kernel_rfl) (by kernel_rfl) (by kernel_rfl) (fun _ _ _ h => h) (Or.inl ⟨by rfl, ?_⟩) (by assumption) ?_
    rotate_left
    · (intro w hSw; (try dsimp only at hSw); go_simp; try with_reducible rfl)
    (try simp only [Act.put, List.setIfInBounds_toArray, List.set_cons_zero, List.set_cons_succ])
    refine take_first (v := ?_) 4 rfl (by kernel_rfl) (by kernel_rfl) (by kernel_rfl) (fun _ _ _ h => h) (Or.inl ⟨by rfl, ?_⟩) (by assumption) ?_
    rotate_left
    · (intro w hSw; (try dsimp only at hSw); go_simp; try with_reducible rfl)
    (try simp only [Act.put, List.setIfInBounds_toArray, List.set_cons_zero, List.set_cons_succ])
    refine take_first (v := ?_) 5 rfl (by kernel_rfl) (by kernel_rfl) (by kernel_rfl) (fun _ _ _ h => h) (Or.inl ⟨by rfl, ?_⟩) (by assumption) ?_
    rotate_left
    · (intro w hSw; (try dsimp only at hSw); go_simp; try with_reducible rfl)
    (try simp only [Act.put, List.setIfInBounds_toArray, List.set_cons_zero, List.set_cons_succ])
    refine take_first (v := ?_) 6 rfl (by kernel_rfl) (by kernel_rfl) (by kernel_rfl) (fun _ _ _ h => h) (Or.inl ⟨by rfl, ?_⟩) (by assumption) ?_
    rotate_left
    · (intro w hSw; (try dsimp only at hSw); go_simp; try with_reducible rfl)
    (try simp only [Act.put, List.setIfInBounds_toArray, List.set_cons_zero, List.set_cons_succ])
    refine take_first (v := ?_) 7 rfl (by kernel_rfl) (by kernel_rfl) (by kernel_rfl) (fun _ _ _ h => h) (Or.inl ⟨by rfl, ?_⟩) (by assumption) ?_
    rotate_left
    · (intro w hSw; (try dsimp only at hSw); go_simp; try with_reducible rfl)
    (try simp only [Act.put, List.setIfInBounds_toArray, List.set_cons_zero, List.set_cons_succ])
    refine step_one 8 rfl (by kernel_rfl) (fun K hK => ?_)
    clear hHeld
    refine step_copy_bytes _ rfl (.tmp 12) (.tmp 16) 35 35 (by rfl) 5 Try.underlying35 (by kernel_rfl) Q i (12 - i) (12 - i) ⟨GA + 1, i, none⟩ (12 - i) (12 - i) (by rfl) (by rfl) ((a).map u8v) 23 (HM.out.blk 0 rfl) ((b.drop i).map u8v) (by rw [List.length_map, HDL.out]; exact (Nat.min_self _).symm) (show Rd wd1 wd1.heap.size (some ⟨GA + 1, i, none⟩) (12 - i) (b.drop i) from by have h := (blk_all (HM.out.blk 1 rfl) HLB.out).drop i (GA + 1) 0 rfl (by omega); rwa [Nat.zero_add] at h).src (by rw [List.length_map, List.length_map, HDL.out]; rw [HLA.out]; omega) (u8v_one _) ?_
    intro wy2 hb hg
    rw [putL_map] at hb
    replace HM := Lib.hid (show Mem w [blkE Q 23 ((putL a i (b.drop i)).map u8v), blkE (GA + 1) 23 (b.map u8v), blkE GA 23 (a.map u8v)] wy2 from HM.out.put 0 rfl _ hg hb)
    clear hb hg
    refine hK.out _ _ ((HM.out.erase 0)) (fun hHeld => ?_)
    clear hK K
    (try simp only [Act.put, List.setIfInBounds_toArray, List.set_cons_zero, List.set_cons_succ])
    refine wpAnyH_done (by kernel_rfl) ?_ _
    obtain ⟨c, hc⟩ : ∃ x, putL a i (b.drop i) = x := ⟨_, rfl⟩
    rw [hc] at HM
    have HLC := Lib.hid (show c.length = 12 by rw [← hc, putL_length _ _ _ (by rw [HDL.out, HLA.out]; omega)]; exact HLA.out)
    clear hc hHeld
    generalize hwq : wy2 = wq at HM ⊢
    clear hwq
    obtain ⟨cc, hcc⟩ : ∃ x, (c.map u8v).toArray = x := ⟨_, rfl⟩
    have PAC := Lib.hid (fun w' : World => HPC.out a c HLA.out HLC.out w')
    have RAC := Lib.hid (fun w' : World => refAfter_any a c HLA.out HLC.out w')
    rw [HCA.out, hcc] at PAC RAC
    have HCC := Lib.hid hcc
    clear hcc
    generalize laterB a c = g2 at PAC RAC
    go_upto_region 3 with fail
    refine wp_region_held_drew (S := fun W' => Mem w [blkE Q 23 ((c).map u8v), blkE (GA + 1) 23 (b.map u8v), blkE GA 23 (a.map u8v)] W') (by kernel_rfl) ((HM.out).drew) (fun hHeld => ?_)
    replace HM := Lib.hid HM.out.drew
    generalize wq.drew = wd11 at HM hHeld ⊢
    refine take_first (v := (.agg ca)) 0 rfl (by kernel_rfl) (by kernel_rfl) (by kernel_rfl) (fun _ _ _ h => h) (by rw [← HCA.out]; exact yields_load_blk (by rfl) 23 (.tmp 3) rfl GA rfl 23 (a.map u8v) (fun _ h => Mem.blk h 2 rfl) 12 5 Try.underlying23 (stampCells a HLA.out)) (by assumption) ?_
    (try simp only [Act.put, List.setIfInBounds_toArray, List.set_cons_zero, List.set_cons_succ])
    refine take_first (v := (.agg cb)) 1 rfl (by kernel_rfl) (by kernel_rfl) (by kernel_rfl) (fun _ _ _ h => h) (by rw [← HCB.out]; exact yields_load_blk (by rfl) 23 (.tmp 4) rfl (GA + 1) rfl 23 (b.map u8v) (fun _ h => Mem.blk h 1 rfl) 12 5 Try.underlying23 (stampCells b HLB.out)) (by assumption) ?_
    (try simp only [Act.put, List.setIfInBounds_toArray, List.set_cons_zero, List.set_cons_succ])
    refine take_first (v := (.agg ca)) 3 rfl (by kernel_rfl) (by kernel_rfl) (by kernel_rfl) (fun _ _ _ h => h) (by rw [← HCA.out]; exact yields_load_blk (by rfl) 23 (.tmp 3) rfl GA rfl 23 (a.map u8v) (fun _ h => Mem.blk h 2 rfl) 12 5 Try.underlying23 (stampCells a HLA.out)) (by assumption) ?_
    (try simp only [Act.put, List.setIfInBounds_toArray, List.set_cons_zero, List.set_cons_succ])
    refine take_first (v := (.agg cb)) 4 rfl (by kernel_rfl) (by kernel_rfl) (by kernel_rfl) (fun _ _ _ h => h) (by rw [← HCB.out]; exact yields_load_blk (by rfl) 23 (.tmp 4) rfl (GA + 1) rfl 23 (b.map u8v) (fun _ h => Mem.blk h 1 rfl) 12 5 Try.underlying23 (stampCells b HLB.out)) (by assumption) ?_
    (try simp only [Act.put, List.setIfInBounds_toArray, List.set_cons_zero, List.set_cons_succ])
    refine step_one 2 rfl (by kernel_rfl) (fun K hK => ?_)
    clear hHeld
    go_simp
    refine (PAB.out _).mono ?_
    rintro e wy12 ⟨rfl, hb⟩
    replace HM := Lib.hid (show Mem w [blkE Q 23 ((c).map u8v), blkE (GA + 1) 23 (b.map u8v), blkE GA 23 (a.map u8v)] wy12 from HM.out.below hb)
    clear hb
    go_wp2_with fail
    refine hK.out _ _ (HM.out) (fun hHeld => ?_)
    clear hK K
    (try simp only [Act.put, List.setIfInBounds_toArray, List.set_cons_zero, List.set_cons_succ])
    refine step_one 5 rfl (by kernel_rfl) (fun K hK => ?_)
    clear hHeld
    go_simp
    refine (RAB.out _).mono ?_
    rintro e wy13 ⟨rfl, hb⟩
    replace HM := Lib.hid (show Mem w [blkE Q 23 ((c).map u8v), blkE (GA + 1) 23 (b.map u8v), blkE GA 23 (a.map u8v)] wy13 from HM.out.below hb)
    clear hb
    go_wp2_with fail
    refine hK.out _ _ (HM.out) (fun hHeld => ?_)
    clear hK K
    (try simp only [Act.put, List.setIfInBounds_toArray, List.set_cons_zero, List.set_cons_succ])
    refine take_first (v := ?_) 6 rfl (by kernel_rfl) (by kernel_rfl) (by kernel_rfl) (fun _ _ _ h => h) (Or.inl ⟨by rfl, ?_⟩) (by assumption) ?_
    rotate_left
    · (intro w hSw; (try dsimp only at hSw); go_simp; try with_reducible rfl)
    (try simp only [Act.put, List.setIfInBounds_toArray, List.set_cons_zero, List.set_cons_succ])
    refine take_first (v := ?_) 7 rfl (by kernel_rfl) (by kernel_rfl) (by kernel_rfl) (fun _ _ _ h => h) (Or.inl ⟨by rfl, ?_⟩) (by assumption) ?_
    rotate_left
    · (intro w hSw; (try dsimp only at hSw); go_simp; try with_reducible rfl)
    (try simp only [Act.put, List.setIfInBounds_toArray, List.set_cons_zero, List.set_cons_succ])
    refine take_first (v := (.agg ca)) 8 rfl (by kernel_rfl) (by kernel_rfl) (by kernel_rfl) (fun _ _ _ h => h) (by rw [← HCA.out]; exact yields_load_blk (by rfl) 23 (.tmp 3) rfl GA rfl 23 (a.map u8v) (fun _ h => Mem.blk h 2 rfl) 12 5 Try.underlying23 (stampCells a HLA.out)) (by assumption) ?_
    (try simp only [Act.put, List.setIfInBounds_toArray, List.set_cons_zero, List.set_cons_succ])
    refine take_first (v := (.agg cc)) 9 rfl (by kernel_rfl) (by kernel_rfl) (by kernel_rfl) (fun _ _ _ h => h) (by rw [← HCC.out]; exact yields_load_blk (by rfl) 23 (.tmp 7) rfl Q rfl 23 (c.map u8v) (fun _ h => Mem.blk h 0 rfl) 12 5 Try.underlying23 (stampCells c HLC.out)) (by assumption) ?_
    (try simp only [Act.put, List.setIfInBounds_toArray, List.set_cons_zero, List.set_cons_succ])
    refine take_first (v := (.agg ca)) 11 rfl (by kernel_rfl) (by kernel_rfl) (by kernel_rfl) (fun _ _ _ h => h) (by rw [← HCA.out]; exact yields_load_blk (by rfl) 23 (.tmp 3) rfl GA rfl 23 (a.map u8v) (fun _ h => Mem.blk h 2 rfl) 12 5 Try.underlying23 (stampCells a HLA.out)) (by assumption) ?_
    (try simp only [Act.put, List.setIfInBounds_toArray, List.set_cons_zero, List.set_cons_succ])
    refine take_first (v := (.agg cc)) 12 rfl (by kernel_rfl) (by kernel_rfl) (by kernel_rfl) (fun _ _ _ h => h) (by rw [← HCC.out]; exact yields_load_blk (by rfl) 23 (.tmp 7) rfl Q rfl 23 (c.map u8v) (fun _ h => Mem.blk h 0 rfl) 12 5 Try.underlying23 (stampCells c HLC.out)) (by assumption) ?_
    (try simp only [Act.put, List.setIfInBounds_toArray, List.set_cons_zero, List.set_cons_succ])
    refine step_one 10 rfl (by kernel_rfl) (fun K hK => ?_)
    clear hHeld
    go_simp
    refine (PAC.out _).mono ?_
    rintro e wy14 ⟨rfl, hb⟩
    replace HM := Lib.hid (show Mem w [blkE Q 23 ((c).map u8v), blkE (GA + 1) 23 (b.map u8v), blkE GA 23 (a.map u8v)] wy14 from HM.out.below hb)
    clear hb
    go_wp2_with fail
    refine hK.out _ _ (HM.out) (fun hHeld => ?_)
    clear hK K
    (try simp only [Act.put, List.setIfInBounds_toArray, List.set_cons_zero, List.set_cons_succ])
    refine step_one 13 rfl (by kernel_rfl) (fun K hK => ?_)
    clear hHeld
    go_simp
    refine (RAC.out _).mono ?_
    rintro e wy15 ⟨rfl, hb⟩
    replace HM := Lib.hid (show Mem w [blkE Q 23 ((c).map u8v), blkE (GA + 1) 23 (b.map u8v), blkE GA 23 (a.map u8v)] wy15 from HM.out.below hb)
    clear hb
    go_wp2_with fail
    refine hK.out _ _ (HM.out) (fun hHeld => ?_)
    clear hK K
    (try simp only [Act.put, List.setIfInBounds_toArray, List.set_cons_zero, List.set_cons_succ])
    refine take_first (v := ?_) 14 rfl (by kernel_rfl) (by kernel_rfl) (by kernel_rfl) (fun _ _ _ h => h) (Or.inl ⟨by rfl, ?_⟩) (by assumption) ?_
    rotate_left
    · (intro w hSw; (try dsimp only at hSw); go_simp; try with_reducible rfl)
    (try simp only [Act.put, List.setIfInBounds_toArray, List.set_cons_zero, List.set_cons_succ])
    refine take_first (v := ?_) 15 rfl (by kernel_rfl) (by kernel_rfl) (by kernel_rfl) (fun _ _ _ h => h) (Or.inl ⟨by rfl, ?_⟩) (by assumption) ?_
    rotate_left
    · (intro w hSw; (try dsimp only at hSw); go_simp; try with_reducible rfl)
    (try simp only [Act.put, List.setIfInBounds_toArray, List.set_cons_zero, List.set_cons_succ])
    refine take_first (v := ?_) 16 rfl (by kernel_rfl) (by kernel_rfl) (by kernel_rfl) (fun _ _ _ h => h) (Or.inl ⟨by rfl, ?_⟩) (by assumption) ?_
    rotate_left
    · (intro w hSw; (try dsimp only at hSw); go_simp; try with_reducible rfl)
    (try simp only [Act.put, List.setIfInBounds_toArray, List.set_cons_zero, List.set_cons_succ])
    refine take_first (v := (.agg ca)) 17 rfl (by kernel_rfl) (by kernel_rfl) (by kernel_rfl) (fun _ _ _ h => h) (by rw [← HCA.out]; exact yields_load_blk (by rfl) 23 (.tmp 3) rfl GA rfl 23 (a.map u8v) (fun _ h => Mem.blk h 2 rfl) 12 5 Try.underlying23 (stampCells a HLA.out)) (by assumption) ?_
    (try simp only [Act.put, List.setIfInBounds_toArray, List.set_cons_zero, List.set_cons_succ])
    refine take_first (v := (.agg ca)) 18 rfl (by kernel_rfl) (by kernel_rfl) (by kernel_rfl) (fun _ _ _ h => h) (by rw [← HCA.out]; exact yields_load_blk (by rfl) 23 (.tmp 3) rfl GA rfl 23 (a.map u8v) (fun _ h => Mem.blk h 2 rfl) 12 5 Try.underlying23 (stampCells a HLA.out)) (by assumption) ?_
    (try simp only [Act.put, List.setIfInBounds_toArray, List.set_cons_zero, List.set_cons_succ])
    refine step_one 19 rfl (by kernel_rfl) (fun K hK => ?_)
    clear hHeld
    go_simp
    refine (PAA.out _).mono ?_
    rintro e wy16 ⟨rfl, hb⟩
    replace HM := Lib.hid (show Mem w [blkE Q 23 ((c).map u8v), blkE (GA + 1) 23 (b.map u8v), blkE GA 23 (a.map u8v)] wy16 from HM.out.below hb)
    clear hb
    go_wp2_with fail
    refine hK.out _ _ (HM.out) (fun hHeld => ?_)
    clear hK K
    (try simp only [Act.put, List.setIfInBounds_toArray, List.set_cons_zero, List.set_cons_succ])
    refine take_first (v := ?_) 20 rfl (by kernel_rfl) (by kernel_rfl) (by kernel_rfl) (fun _ _ _ h => h) (Or.inl ⟨by rfl, ?_⟩) (by assumption) ?_
    rotate_left
    · (intro w hSw; (try dsimp only at hSw); go_simp; try with_reducible rfl)
    (try simp only [Act.put, List.setIfInBounds_toArray, List.set_cons_zero, List.set_cons_succ])
    refine take_first (v := ?_) 21 rfl (by kernel_rfl) (by kernel_rfl) (by kernel_rfl) (fun _ _ _ h => h) (Or.inl ⟨by rfl, ?_⟩) (by assumption) ?_
    rotate_left
    · (intro w hSw; (try dsimp only at hSw); go_simp; try with_reducible rfl)
    (try simp only [Act.put, List.setIfInBounds_toArray, List.set_cons_zero, List.set_cons_succ])
    refine take_first (v := ?_) 22 rfl (by kernel_rfl) (by kernel_rfl) (by kernel_rfl) (fun _ _ _ h => h) (Or.inl ⟨by rfl, ?_⟩) (by assumption) ?_
    rotate_left
    · (intro w hSw; (try dsimp only at hSw); go_simp; try with_reducible rfl)
    (try simp only [Act.put, List.setIfInBounds_toArray, List.set_cons_zero, List.set_cons_succ])
    refine step_one 23 rfl (by kernel_rfl) (fun K hK => ?_)
    clear hHeld
    go_simp
    refine (HBG.out _).mono ?_
    rintro e wy17 ⟨rfl, hb⟩
    replace HM := Lib.hid (show Mem w [blkE Q 23 ((c).map u8v), blkE (GA + 1) 23 (b.map u8v), blkE GA 23 (a.map u8v)] wy17 from HM.out.below hb)
    clear hb
    go_wp2_with fail
    refine hK.out _ _ (HM.out) (fun hHeld => ?_)
    clear hK K
    (try simp only [Act.put, List.setIfInBounds_toArray, List.set_cons_zero, List.set_cons_succ])
    refine take_first (v := ?_) 24 rfl (by kernel_rfl) (by kernel_rfl) (by kernel_rfl) (fun _ _ _ h => h) (Or.inl ⟨by rfl, ?_⟩) (by assumption) ?_
    rotate_left
    · (intro w hSw; (try dsimp only at hSw); go_simp; try with_reducible rfl)
    (try simp only [Act.put, List.setIfInBounds_toArray, List.set_cons_zero, List.set_cons_succ])
    refine take_first (v := ?_) 25 rfl (by kernel_rfl) (by kernel_rfl) (by kernel_rfl) (fun _ _ _ h => h) (Or.inl ⟨by rfl, ?_⟩) (by assumption) ?_
    rotate_left
    · (intro w hSw; (try dsimp only at hSw); go_simp; try with_reducible rfl)
    (try simp only [Act.put, List.setIfInBounds_toArray, List.set_cons_zero, List.set_cons_succ])
    refine wpAnyH_done (by kernel_rfl) ?_ _
    have HF := Lib.hid HM.out.bel
    clear HM hHeld
    go_wp2_with fail
    go_ret
    exact ⟨rfl, HF.out⟩
end Go.Proofs.Ytmbcohhnnlpnaaa
