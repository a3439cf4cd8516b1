/-
  The contracts of the reference's SealInitiation and SealResponse. A message whose fields are copied in one by one. The contracts of the reference's CheckMac1 and CheckMac2. The contract of burrowcase.Cut: the first bytes of data. The bits of an exclusive or of two bytes. What is known of the type of keys. No statement is proved here.
-/
import Derived.RegionTactic
import Derived.Outline
import Derived.Test.YtlddafkikkaonaaDoorMacsChecksB6
namespace Go.Proofs.YtlddafkikkaonaaDoor
open Go.RowKit

set_option maxRecDepth 100000 in
set_option maxHeartbeats 8000000 in
theorem refSealI : McSealC 8 1 := by
  intro p ck hp hck has m hok w _hlv
  have HP := Lib.hid hp
  have HK := Lib.hid hck
  have HEN := Lib.hid (refEnc1 m hok)
  have hml := MsgM.cells_length hok
  have HUM := Lib.hid (show (Tryd.prog.info? 35).map (·.size) = some m.cells.length from by rw [hml]; kernel_rfl)
  have HFS := Lib.hid (sealed_fst (k := 1) (by omega) p has ck hok)
  have HSN := Lib.hid (sealed_snd (k := 1) p has ck hok)
  obtain ⟨cp, hcp⟩ : ∃ z, (p.map u8v).toArray = z := ⟨_, rfl⟩
  obtain ⟨cc, hcc⟩ : ∃ z, (ck.map u8v).toArray = z := ⟨_, rfl⟩
  obtain ⟨cm, hcm⟩ : ∃ z, m.cells.toArray = z := ⟨_, rfl⟩
  rw [hcm] at HEN
  rw [hcp, hcc, hcm]
  have HM := Lib.hid (show Mem w [blkE (w.heap.size + 1 + 1 + 1) 30 ((List.replicate 16 (0 : UInt8)).map u8v), blkE (w.heap.size + 1 + 1) 35 m.cells, blkE (w.heap.size + 1) 30 (ck.map u8v), blkE w.heap.size 23 (p.map u8v)] ((((w.alloc (.cells cp 23)).alloc (.cells cc 30)).alloc (.cells cm 35)).alloc (.cells #[.int .u8 0, .int .u8 0, .int .u8 0, .int .u8 0, .int .u8 0, .int .u8 0, .int .u8 0, .int .u8 0, .int .u8 0, .int .u8 0, .int .u8 0, .int .u8 0, .int .u8 0, .int .u8 0, .int .u8 0, .int .u8 0] 30)) from ((((Mem.nil w).alloc rfl 23 cp (p.map u8v) hcp.symm).alloc (by simp) 30 cc (ck.map u8v) hcc.symm).alloc (by simp) 35 cm m.cells hcm.symm).alloc (by simp) 30 #[.int .u8 0, .int .u8 0, .int .u8 0, .int .u8 0, .int .u8 0, .int .u8 0, .int .u8 0, .int .u8 0, .int .u8 0, .int .u8 0, .int .u8 0, .int .u8 0, .int .u8 0, .int .u8 0, .int .u8 0, .int .u8 0] ((List.replicate 16 (0 : UInt8)).map u8v) rfl)
  obtain ⟨mt, hmt⟩ : ∃ z, macM p 1 m = z := ⟨_, rfl⟩
  have HML := Lib.hid (show mt.length = 16 from by rw [← hmt]; exact macM_length _ _ _)
  obtain ⟨cmt, hct⟩ : ∃ z, (mt.map u8v).toArray = z := ⟨_, rfl⟩
  have HMT := Lib.hid (show macM p 1 m = mt from hmt)
  have HCT := Lib.hid hct
  have HCM := Lib.hid hcm
  have HCP := Lib.hid hcp
  have HCC := Lib.hid hcc
  clear hcp hcc hcm hmt hct hp hck hok hml
  go_enter Tryd.func8, Tryd.ntmps8
  go_upto_region 1 with fail
  generalize ((((w.alloc (.cells cp 23)).alloc (.cells cc 30)).alloc (.cells cm 35)).alloc (.cells #[.int .u8 0, .int .u8 0, .int .u8 0, .int .u8 0, .int .u8 0, .int .u8 0, .int .u8 0, .int .u8 0, .int .u8 0, .int .u8 0, .int .u8 0, .int .u8 0, .int .u8 0, .int .u8 0, .int .u8 0, .int .u8 0] 30)) = w1 at HM ⊢
  refine wp_region_held_drew (S := fun W' => Mem w [blkE (w.heap.size + 1 + 1) 35 m.cells, blkE (w.heap.size + 1) 30 (ck.map u8v), blkE w.heap.size 23 (p.map u8v)] W') (by kernel_rfl) (((HM.out.erase 0)).drew) (fun hHeld => ?_)
  replace HM := Lib.hid HM.out.drew
  generalize w1.drew = wd1 at HM hHeld ⊢
  refine take_first (v := .agg cp) 0 rfl (by kernel_rfl) (by kernel_rfl) (by kernel_rfl) (fun _ _ _ h => h) (by rw [← HCP.out]; exact yields_load_obj (by rfl) 23 (.tmp 4) rfl w.heap.size 0 rfl (p.map u8v) (fun w' hb => (Mem.blk hb 2 rfl).all) _ Tryd.underlying23 rfl (cells32 p HP.out)) (by assumption) ?_
  (try simp only [Act.put, List.setIfInBounds_toArray, List.set_cons_zero, List.set_cons_succ])
  refine take_first (v := ?_) 1 rfl (by kernel_rfl) (by kernel_rfl) (by kernel_rfl) (fun _ _ _ h => h) (Or.inl ⟨by rfl, ?_⟩) (by assumption) ?_
  rotate_left
  · (intro w hSw; (try dsimp only at hSw); go_simp; try with_reducible rfl)
  (try simp only [Act.put, List.setIfInBounds_toArray, List.set_cons_zero, List.set_cons_succ])
  refine take_first (v := .agg cc) 2 rfl (by kernel_rfl) (by kernel_rfl) (by kernel_rfl) (fun _ _ _ h => h) (by rw [← HCC.out]; exact yields_load_obj (by rfl) 30 (.tmp 6) rfl (w.heap.size + 1) 0 rfl (ck.map u8v) (fun w' hb => (Mem.blk hb 1 rfl).all) _ Tryd.underlying30 rfl (ae_cellsT ck HK.out)) (by assumption) ?_
  (try simp only [Act.put, List.setIfInBounds_toArray, List.set_cons_zero, List.set_cons_succ])
  refine take_first (v := .agg cm) 3 rfl (by kernel_rfl) (by kernel_rfl) (by kernel_rfl) (fun _ _ _ h => h) (by rw [← HCM.out]; exact yields_load_obj (by rfl) 35 (.tmp 7) rfl (w.heap.size + 1 + 1) 0 rfl m.cells (fun w' hb => (Mem.blk hb 0 rfl).all) _ Tryd.underlying35 rfl HUM.out) (by assumption) ?_
  (try simp only [Act.put, List.setIfInBounds_toArray, List.set_cons_zero, List.set_cons_succ])
  refine step_one 4 rfl (by kernel_rfl) (fun K hK => ?_)
  clear hHeld
  go_simp
  refine (HEN.out _).mono ?_
  rintro e wy2 ⟨A5, c5, rfl, h1, h2, hr5, hb⟩
  replace HM := Lib.hid (show Mem w [blkE (w.heap.size + 1 + 1 + 1) 30 ((List.replicate 16 (0 : UInt8)).map u8v), blkE (w.heap.size + 1 + 1) 35 m.cells, blkE (w.heap.size + 1) 30 (ck.map u8v), blkE w.heap.size 23 (p.map u8v)] wy2 from HM.out.below hb)
  have HE5 := Lib.hid (And.intro h1 (And.intro h2 hr5))
  clear hb h1 h2 hr5
  go_wp2_with fail
  refine hK.out _ _ ((HM.out.erase 0)) (fun hHeld => ?_)
  clear hK K
  (try simp only [Act.put, List.setIfInBounds_toArray, List.set_cons_zero, List.set_cons_succ])
  refine step_one 5 rfl (by kernel_rfl) (fun K hK => ?_)
  clear hHeld
  go_simp
  have HC := refSealed_any p ck HP.out HK.out has A5 148 c5 (encB 1 m) (by omega) HE5.out.1 HE5.out.2.1 (by omega) _ HE5.out.2.2
  rw [HCP.out, HCC.out, HFS.out, HSN.out, HMT.out, HCT.out] at HC
  refine HC.mono ?_
  rintro e wy3 ⟨A6, c6, rfl, ho, hb⟩
  have HO := Lib.hid (own_base ho (show (w.heap.size + 1 + 1 + 1) + 1 ≤ _ from (HM.out.blk 0 rfl).lt))
  replace HM := Lib.hid (show Mem w [blkE (w.heap.size + 1 + 1 + 1) 30 ((List.replicate 16 (0 : UInt8)).map u8v), blkE (w.heap.size + 1 + 1) 35 m.cells, blkE (w.heap.size + 1) 30 (ck.map u8v), blkE w.heap.size 23 (p.map u8v)] wy3 from HM.out.below hb)
  clear hb ho HC HE5
  go_wp2_with fail
  refine hK.out _ _ ((HM.out.erase 0)) (fun hHeld => ?_)
  clear hK K
  (try simp only [Act.put, List.setIfInBounds_toArray, List.set_cons_zero, List.set_cons_succ])
  refine take_first (v := ?_) 6 rfl (by kernel_rfl) (by kernel_rfl) (by kernel_rfl) (fun _ _ _ h => h) (Or.inl ⟨by rfl, ?_⟩) (by assumption) ?_
  rotate_left
  · (intro w hSw; (try dsimp only at hSw); go_simp; try with_reducible rfl)
  (try simp only [Act.put, List.setIfInBounds_toArray, List.set_cons_zero, List.set_cons_succ])
  refine take_first (v := ?_) 7 rfl (by kernel_rfl) (by kernel_rfl) (by kernel_rfl) (fun _ _ _ h => h) (Or.inl ⟨by rfl, ?_⟩) (by assumption) ?_
  rotate_left
  · (intro w hSw; (try dsimp only at hSw); go_simp; try with_reducible rfl)
  (try simp only [Act.put, List.setIfInBounds_toArray, List.set_cons_zero, List.set_cons_succ])
  refine take_first (v := ?_) 8 rfl (by kernel_rfl) (by kernel_rfl) (by kernel_rfl) (fun _ _ _ h => h) (Or.inl ⟨by rfl, ?_⟩) (by assumption) ?_
  rotate_left
  · (intro w hSw; (try dsimp only at hSw); go_simp; try with_reducible rfl)
  (try simp only [Act.put, List.setIfInBounds_toArray, List.set_cons_zero, List.set_cons_succ])
  refine step_one 9 rfl (by kernel_rfl) (fun K hK => ?_)
  clear hHeld
  refine step_store_blk _ rfl 30 (.tmp 9) (.tmp 17) rfl (w.heap.size + 1 + 1 + 1) (mt.map u8v) rfl (by show Value.agg cmt = _; rw [HCT.out]) 30 ((List.replicate 16 (0 : UInt8)).map u8v) (HM.out.blk 0 rfl) (ae_cellsT mt HML.out) (by rw [List.length_map, List.length_map, HML.out]; rfl) (u8v_one _) ?_
  intro wy4 hb hg
  replace HO := Lib.hid (own_other HO.out hg (Nat.lt_succ_self _))
  replace HM := Lib.hid (show Mem w [blkE (w.heap.size + 1 + 1 + 1) 30 (mt.map u8v), blkE (w.heap.size + 1 + 1) 35 m.cells, blkE (w.heap.size + 1) 30 (ck.map u8v), blkE w.heap.size 23 (p.map u8v)] wy4 from HM.out.put 0 rfl _ hg hb)
  clear hb hg
  refine hK.out _ _ ((HM.out.erase 0)) (fun hHeld => ?_)
  clear hK K
  (try simp only [Act.put])
  refine wpAnyH_done (by kernel_rfl) ?_ _
  clear hHeld
  have HF := Lib.hid HM.out
  clear HM
  go_wp2_with fail
  obtain ⟨q1, q2, _⟩ := own_addr HO.out
  exact bodyPost_ret (results_tmp_obj rfl _ _ (w.heap.size + 1 + 1 + 1) 30 (mt.map u8v) _ rfl (HF.out.blk 0 rfl) Tryd.underlying30 rfl (ae_cellsT mt HML.out)) rfl ⟨A6, c6, by rw [HMT.out]; rfl, q1, q2, (RdIn.of_own HO.out).from_ (by omega), HF.out.bel⟩
set_option maxRecDepth 100000 in
set_option maxHeartbeats 8000000 in
theorem refSealR : McSealC 10 2 := by
  intro p ck hp hck has m hok w _hlv
  have HP := Lib.hid hp
  have HK := Lib.hid hck
  have HEN := Lib.hid (refEnc2 m hok)
  have hml := MsgM.cells_length hok
  have HUM := Lib.hid (show (Tryd.prog.info? 37).map (·.size) = some m.cells.length from by rw [hml]; kernel_rfl)
  have HFS := Lib.hid (sealed_fst (k := 2) (by omega) p has ck hok)
  have HSN := Lib.hid (sealed_snd (k := 2) p has ck hok)
  obtain ⟨cp, hcp⟩ : ∃ z, (p.map u8v).toArray = z := ⟨_, rfl⟩
  obtain ⟨cc, hcc⟩ : ∃ z, (ck.map u8v).toArray = z := ⟨_, rfl⟩
  obtain ⟨cm, hcm⟩ : ∃ z, m.cells.toArray = z := ⟨_, rfl⟩
  rw [hcm] at HEN
  rw [hcp, hcc, hcm]
  have HM := Lib.hid (show Mem w [blkE (w.heap.size + 1 + 1 + 1) 30 ((List.replicate 16 (0 : UInt8)).map u8v), blkE (w.heap.size + 1 + 1) 37 m.cells, blkE (w.heap.size + 1) 30 (ck.map u8v), blkE w.heap.size 23 (p.map u8v)] ((((w.alloc (.cells cp 23)).alloc (.cells cc 30)).alloc (.cells cm 37)).alloc (.cells #[.int .u8 0, .int .u8 0, .int .u8 0, .int .u8 0, .int .u8 0, .int .u8 0, .int .u8 0, .int .u8 0, .int .u8 0, .int .u8 0, .int .u8 0, .int .u8 0, .int .u8 0, .int .u8 0, .int .u8 0, .int .u8 0] 30)) from ((((Mem.nil w).alloc rfl 23 cp (p.map u8v) hcp.symm).alloc (by simp) 30 cc (ck.map u8v) hcc.symm).alloc (by simp) 37 cm m.cells hcm.symm).alloc (by simp) 30 #[.int .u8 0, .int .u8 0, .int .u8 0, .int .u8 0, .int .u8 0, .int .u8 0, .int .u8 0, .int .u8 0, .int .u8 0, .int .u8 0, .int .u8 0, .int .u8 0, .int .u8 0, .int .u8 0, .int .u8 0, .int .u8 0] ((List.replicate 16 (0 : UInt8)).map u8v) rfl)
  obtain ⟨mt, hmt⟩ : ∃ z, macM p 2 m = z := ⟨_, rfl⟩
  have HML := Lib.hid (show mt.length = 16 from by rw [← hmt]; exact macM_length _ _ _)
  obtain ⟨cmt, hct⟩ : ∃ z, (mt.map u8v).toArray = z := ⟨_, rfl⟩
  have HMT := Lib.hid (show macM p 2 m = mt from hmt)
  have HCT := Lib.hid hct
  have HCM := Lib.hid hcm
  have HCP := Lib.hid hcp
  have HCC := Lib.hid hcc
  clear hcp hcc hcm hmt hct hp hck hok hml
  go_enter Tryd.func10, Tryd.ntmps10
  go_upto_region 1 with fail
  generalize ((((w.alloc (.cells cp 23)).alloc (.cells cc 30)).alloc (.cells cm 37)).alloc (.cells #[.int .u8 0, .int .u8 0, .int .u8 0, .int .u8 0, .int .u8 0, .int .u8 0, .int .u8 0, .int .u8 0, .int .u8 0, .int .u8 0, .int .u8 0, .int .u8 0, .int .u8 0, .int .u8 0, .int .u8 0, .int .u8 0] 30)) = w1 at HM ⊢
  refine wp_region_held_drew (S := fun W' => Mem w [blkE (w.heap.size + 1 + 1) 37 m.cells, blkE (w.heap.size + 1) 30 (ck.map u8v), blkE w.heap.size 23 (p.map u8v)] W') (by kernel_rfl) (((HM.out.erase 0)).drew) (fun hHeld => ?_)
  replace HM := Lib.hid HM.out.drew
  generalize w1.drew = wd1 at HM hHeld ⊢
  refine take_first (v := .agg cp) 0 rfl (by kernel_rfl) (by kernel_rfl) (by kernel_rfl) (fun _ _ _ h => h) (by rw [← HCP.out]; exact yields_load_obj (by rfl) 23 (.tmp 4) rfl w.heap.size 0 rfl (p.map u8v) (fun w' hb => (Mem.blk hb 2 rfl).all) _ Tryd.underlying23 rfl (cells32 p HP.out)) (by assumption) ?_
  (try simp only [Act.put, List.setIfInBounds_toArray, List.set_cons_zero, List.set_cons_succ])
  refine take_first (v := ?_) 1 rfl (by kernel_rfl) (by kernel_rfl) (by kernel_rfl) (fun _ _ _ h => h) (Or.inl ⟨by rfl, ?_⟩) (by assumption) ?_
  rotate_left
  · (intro w hSw; (try dsimp only at hSw); go_simp; try with_reducible rfl)
  (try simp only [Act.put, List.setIfInBounds_toArray, List.set_cons_zero, List.set_cons_succ])
  refine take_first (v := .agg cc) 2 rfl (by kernel_rfl) (by kernel_rfl) (by kernel_rfl) (fun _ _ _ h => h) (by rw [← HCC.out]; exact yields_load_obj (by rfl) 30 (.tmp 6) rfl (w.heap.size + 1) 0 rfl (ck.map u8v) (fun w' hb => (Mem.blk hb 1 rfl).all) _ Tryd.underlying30 rfl (ae_cellsT ck HK.out)) (by assumption) ?_
  (try simp only [Act.put, List.setIfInBounds_toArray, List.set_cons_zero, List.set_cons_succ])
  refine take_first (v := .agg cm) 3 rfl (by kernel_rfl) (by kernel_rfl) (by kernel_rfl) (fun _ _ _ h => h) (by rw [← HCM.out]; exact yields_load_obj (by rfl) 37 (.tmp 7) rfl (w.heap.size + 1 + 1) 0 rfl m.cells (fun w' hb => (Mem.blk hb 0 rfl).all) _ Tryd.underlying37 rfl HUM.out) (by assumption) ?_
  (try simp only [Act.put, List.setIfInBounds_toArray, List.set_cons_zero, List.set_cons_succ])
  refine step_one 4 rfl (by kernel_rfl) (fun K hK => ?_)
  clear hHeld
  go_simp
  refine (HEN.out _).mono ?_
  rintro e wy2 ⟨A5, c5, rfl, h1, h2, hr5, hb⟩
  replace HM := Lib.hid (show Mem w [blkE (w.heap.size + 1 + 1 + 1) 30 ((List.replicate 16 (0 : UInt8)).map u8v), blkE (w.heap.size + 1 + 1) 37 m.cells, blkE (w.heap.size + 1) 30 (ck.map u8v), blkE w.heap.size 23 (p.map u8v)] wy2 from HM.out.below hb)
  have HE5 := Lib.hid (And.intro h1 (And.intro h2 hr5))
  clear hb h1 h2 hr5
  go_wp2_with fail
  refine hK.out _ _ ((HM.out.erase 0)) (fun hHeld => ?_)
  clear hK K
  (try simp only [Act.put, List.setIfInBounds_toArray, List.set_cons_zero, List.set_cons_succ])
  refine step_one 5 rfl (by kernel_rfl) (fun K hK => ?_)
  clear hHeld
  go_simp
  have HC := refSealed_any p ck HP.out HK.out has A5 92 c5 (encB 2 m) (by omega) HE5.out.1 HE5.out.2.1 (by omega) _ HE5.out.2.2
  rw [HCP.out, HCC.out, HFS.out, HSN.out, HMT.out, HCT.out] at HC
  refine HC.mono ?_
  rintro e wy3 ⟨A6, c6, rfl, ho, hb⟩
  have HO := Lib.hid (own_base ho (show (w.heap.size + 1 + 1 + 1) + 1 ≤ _ from (HM.out.blk 0 rfl).lt))
  replace HM := Lib.hid (show Mem w [blkE (w.heap.size + 1 + 1 + 1) 30 ((List.replicate 16 (0 : UInt8)).map u8v), blkE (w.heap.size + 1 + 1) 37 m.cells, blkE (w.heap.size + 1) 30 (ck.map u8v), blkE w.heap.size 23 (p.map u8v)] wy3 from HM.out.below hb)
  clear hb ho HC HE5
  go_wp2_with fail
  refine hK.out _ _ ((HM.out.erase 0)) (fun hHeld => ?_)
  clear hK K
  (try simp only [Act.put, List.setIfInBounds_toArray, List.set_cons_zero, List.set_cons_succ])
  refine take_first (v := ?_) 6 rfl (by kernel_rfl) (by kernel_rfl) (by kernel_rfl) (fun _ _ _ h => h) (Or.inl ⟨by rfl, ?_⟩) (by assumption) ?_
  rotate_left
  · (intro w hSw; (try dsimp only at hSw); go_simp; try with_reducible rfl)
  (try simp only [Act.put, List.setIfInBounds_toArray, List.set_cons_zero, List.set_cons_succ])
  refine take_first (v := ?_) 7 rfl (by kernel_rfl) (by kernel_rfl) (by kernel_rfl) (fun _ _ _ h => h) (Or.inl ⟨by rfl, ?_⟩) (by assumption) ?_
  rotate_left
  · (intro w hSw; (try dsimp only at hSw); go_simp; try with_reducible rfl)
  (try simp only [Act.put, List.setIfInBounds_toArray, List.set_cons_zero, List.set_cons_succ])
  refine take_first (v := ?_) 8 rfl (by kernel_rfl) (by kernel_rfl) (by kernel_rfl) (fun _ _ _ h => h) (Or.inl ⟨by rfl, ?_⟩) (by assumption) ?_
  rotate_left
  · (intro w hSw; (try dsimp only at hSw); go_simp; try with_reducible rfl)
  (try simp only [Act.put, List.setIfInBounds_toArray, List.set_cons_zero, List.set_cons_succ])
  refine step_one 9 rfl (by kernel_rfl) (fun K hK => ?_)
  clear hHeld
  refine step_store_blk _ rfl 30 (.tmp 9) (.tmp 17) rfl (w.heap.size + 1 + 1 + 1) (mt.map u8v) rfl (by show Value.agg cmt = _; rw [HCT.out]) 30 ((List.replicate 16 (0 : UInt8)).map u8v) (HM.out.blk 0 rfl) (ae_cellsT mt HML.out) (by rw [List.length_map, List.length_map, HML.out]; rfl) (u8v_one _) ?_
  intro wy4 hb hg
  replace HO := Lib.hid (own_other HO.out hg (Nat.lt_succ_self _))
  replace HM := Lib.hid (show Mem w [blkE (w.heap.size + 1 + 1 + 1) 30 (mt.map u8v), blkE (w.heap.size + 1 + 1) 37 m.cells, blkE (w.heap.size + 1) 30 (ck.map u8v), blkE w.heap.size 23 (p.map u8v)] wy4 from HM.out.put 0 rfl _ hg hb)
  clear hb hg
  refine hK.out _ _ ((HM.out.erase 0)) (fun hHeld => ?_)
  clear hK K
  (try simp only [Act.put])
  refine wpAnyH_done (by kernel_rfl) ?_ _
  clear hHeld
  have HF := Lib.hid HM.out
  clear HM
  go_wp2_with fail
  obtain ⟨q1, q2, _⟩ := own_addr HO.out
  exact bodyPost_ret (results_tmp_obj rfl _ _ (w.heap.size + 1 + 1 + 1) 30 (mt.map u8v) _ rfl (HF.out.blk 0 rfl) Tryd.underlying30 rfl (ae_cellsT mt HML.out)) rfl ⟨A6, c6, by rw [HMT.out]; rfl, q1, q2, (RdIn.of_own HO.out).from_ (by omega), HF.out.bel⟩
end Go.Proofs.YtlddafkikkaonaaDoor
namespace Go.Proofs.YtlddafkikkaonaaDoor
open Go.RowKit

theorem addrOf_some (b off i c : Nat) (h : i < c) : addrOf (some ⟨b, off, none⟩) i c = some ⟨b, off + i, none⟩ := by
  rw [addrOf, if_neg (by omega), Option.map_some, Go.WideShapes.add_plain, Nat.mul_one]
end Go.Proofs.YtlddafkikkaonaaDoor
namespace Go.Proofs.YtlddafkikkaonaaDoor
open Go.RowKit

set_option maxRecDepth 100000 in
set_option maxHeartbeats 8000000 in
theorem refCheckMac2_any (ck : List UInt8) (hck : ck.length = 16) (A : Option Addr) (n c : Nat) (l : List UInt8) (hnc : n ≤ c) (hcm : c ≤ maxLen) (hn : n ≤ 100000) (w : World) (hr : Rd w w.heap.size A n l) :
    Calls Tryd.prog 20 #[.agg (ck.map u8v).toArray, .slice A n c] w fun e w' => e = .returned (.bool (check2B ck l)) ∧ Below w.heap.size w w' := by
  have HR := Lib.hid hr
  have HP := Lib.hid hck
  have HCD := Lib.hid (refCoded_any A n c l hnc hcm hn)
  have HV := Lib.hid (show check2B ck l = (codedB l && codeB ck (l.take (l.length - 16)) == l.drop (l.length - 16)) from rfl)
  obtain ⟨cp, hcp⟩ : ∃ z, (ck.map u8v).toArray = z := ⟨_, rfl⟩
  rw [hcp]
  have HM := Lib.hid (show Mem w [blkE w.heap.size 30 (ck.map u8v)] (w.alloc (.cells cp 30)) from (Mem.nil w).alloc rfl 30 cp (ck.map u8v) hcp.symm)
  clear hcp hr hck
  have hcl := fun h : codedB l = true => codedB_len h
  have hln := HR.out.1
  generalize hcd : codedB l = cd at HCD HV hcl
  go_enter Tryd.func20, Tryd.ntmps20
  go_upto_region 1 with fail
  generalize (w.alloc (.cells cp 30)) = w1 at HM ⊢
  go_wp2_with fail
  refine (HCD.out w1 (HM.out.arg HR.out)).mono ?_
  rintro e w2 ⟨rfl, hb⟩
  replace HM := Lib.hid (HM.out.below hb)
  clear hb HCD
  cases cd
  · go_wp2
    go_ret
    exact ⟨by rw [HV.out]; rfl, HM.out.bel⟩
  · replace hcl := hcl rfl
    rw [hln] at hcl
    obtain ⟨m, hm⟩ : ∃ m, n - 16 = m := ⟨_, rfl⟩
    obtain ⟨gb, go, rfl, -, -⟩ := HR.out.at_ (by omega)
    have hsb : (n : Int) - 16 = (m : Int) := by omega
    have hsw : IntKind.i64.wrap (m : Int) = (m : Int) := IntWalk.i64_in _ (by omega)
    have b1 : (m : Int) ≤ (c : Int) := by omega
    have HSL := Lib.hid (slice_l (some ⟨gb, go, none⟩) n c m (by omega))
    rw [addrOf_some gb go m c (by omega)] at HSL
    have HRT := Lib.hid (HR.out.take (m := m) (by omega))
    have HRD := Lib.hid (HR.out.drop m gb go rfl (by omega))
    have HC := Lib.hid (fun (g0 g1 : Nat) (W : World) (hk : Rd W W.heap.size (some ⟨g0, 0, none⟩) 16 ck) (hp : PartsRd W W.heap.size (some ⟨g1, 0, none⟩) [⟨(some ⟨gb, go, none⟩), m, c, l.take m⟩]) => refCode_any (some ⟨g0, 0, none⟩) 16 16 ck 1 (some ⟨g1, 0, none⟩) [⟨(some ⟨gb, go, none⟩), m, c, l.take m⟩] (by simp) (by show (flat _ 1).length ≤ _; rw [show flat [⟨(some ⟨gb, go, none⟩), m, c, l.take m⟩] 1 = l.take m from by simp [flat], List.length_take]; omega) W hk hp)
    rw [show ([⟨(some ⟨gb, go, none⟩), m, c, l.take m⟩] : List Part).length = 1 from rfl, show flat [⟨(some ⟨gb, go, none⟩), m, c, l.take m⟩] 1 = l.take m from by simp [flat]] at HC
    replace HV := Lib.hid (show check2B ck l = (codeB ck (l.take m) == l.drop m) from by rw [HV.out, Bool.true_and, hln, hm])
    obtain ⟨mt, hmt⟩ : ∃ z, codeB ck (l.take m) = z := ⟨_, rfl⟩
    have HML := Lib.hid (show mt.length = 16 from by rw [← hmt]; exact codeB_length _ _)
    rw [hmt] at HC HV
    obtain ⟨cm, hcm⟩ : ∃ z, (mt.map u8v).toArray = z := ⟨_, rfl⟩
    rw [hcm] at HC
    have HCM := Lib.hid hcm
    clear hmt hcm
    go_upto_region 3 with fail
    refine wp_region_held_drew (S := fun W' => Mem w [blkE w.heap.size 30 (ck.map u8v)] W') (by kernel_rfl) ((HM.out).drew) (fun hHeld => ?_)
    replace HM := Lib.hid HM.out.drew
    generalize w2.drew = wd1 at HM hHeld ⊢
    refine take_first (v := ?_) 0 rfl (by kernel_rfl) (by kernel_rfl) (by kernel_rfl) (fun _ _ _ h => h) (Or.inl ⟨by rfl, ?_⟩) (by assumption) ?_
    rotate_left
    · (intro w hSw; (try dsimp only at hSw); go_simp; try with_reducible rfl)
    (try simp only [Act.put, List.setIfInBounds_toArray, List.set_cons_zero, List.set_cons_succ])
    refine take_first (v := ?_) 1 rfl (by kernel_rfl) (by kernel_rfl) (by kernel_rfl) (fun _ _ _ h => h) (Or.inl ⟨by rfl, ?_⟩) (by assumption) ?_
    rotate_left
    · (intro w hSw; (try dsimp only at hSw); go_simp; try with_reducible rfl)
    (try simp only [Act.put, List.setIfInBounds_toArray, List.set_cons_zero, List.set_cons_succ])
    refine take_first (v := ?_) 2 rfl (by kernel_rfl) (by kernel_rfl) (by kernel_rfl) (fun _ _ _ h => h) (Or.inl ⟨by rfl, ?_⟩) (by assumption) ?_
    rotate_left
    · (intro w hSw; (try dsimp only at hSw); go_simp; try with_reducible rfl)
    (try simp only [Act.put, List.setIfInBounds_toArray, List.set_cons_zero, List.set_cons_succ])
    refine take_first (v := ?_) 3 rfl (by kernel_rfl) (by kernel_rfl) (by kernel_rfl) (fun _ _ _ h => h) (Or.inl ⟨by rfl, ?_⟩) (by assumption) ?_
    rotate_left
    · (intro w hSw; (try dsimp only at hSw); go_simp; try with_reducible rfl)
    (try simp only [Act.put, List.setIfInBounds_toArray, List.set_cons_zero, List.set_cons_succ])
    refine take_first (v := ?_) 4 rfl (by kernel_rfl) (by kernel_rfl) (by kernel_rfl) (fun _ _ _ h => h) (Or.inl ⟨by rfl, ?_⟩) (by assumption) ?_
    rotate_left
    · (intro w hSw; (try dsimp only at hSw); go_simp; try with_reducible rfl)
    (try simp only [Act.put, List.setIfInBounds_toArray, List.set_cons_zero, List.set_cons_succ])
    refine take_first (v := ?_) 5 rfl (by kernel_rfl) (by kernel_rfl) (by kernel_rfl) (fun _ _ _ h => h) (Or.inl ⟨by rfl, ?_⟩) (by assumption) ?_
    rotate_left
    · (intro w hSw; (try dsimp only at hSw); go_simp; try with_reducible rfl)
    (try simp only [Act.put, List.setIfInBounds_toArray, List.set_cons_zero, List.set_cons_succ])
    refine step_two 6 8 rfl rfl (by kernel_rfl) (fun K hK => ?_) (fun K hK => ?_)
    · clear hHeld
      go_simp
      replace HM := Lib.hid (show Mem w [blkE wd1.heap.size 24 ([.slice (some ⟨gb, go, none⟩) m c]), blkE w.heap.size 30 (ck.map u8v)] (wd1.alloc (.cells #[.slice (some ⟨gb, go, none⟩) m c] 24)) from HM.out.alloc rfl 24 #[.slice (some ⟨gb, go, none⟩) m c] ([.slice (some ⟨gb, go, none⟩) m c]) rfl)
      generalize wd1.alloc (.cells #[.slice (some ⟨gb, go, none⟩) m c] 24) = wy2 at HM ⊢
      generalize wd1.heap.size = GP at HM ⊢
      refine hK.out _ _ ((HM.out.erase 0)) (fun hHeld => ?_)
      clear hK K
      (try simp only [Act.put, List.setIfInBounds_toArray, List.set_cons_zero, List.set_cons_succ])
      refine step_two 7 8 rfl rfl (by kernel_rfl) (fun K hK => ?_) (fun K hK => ?_)
      · clear hHeld
        go_simp
        refine (HC.out w.heap.size GP _ (blk_all (HM.out.blk 1 rfl) HP.out) (parts_rd (g := GP) (t := 24) (ps := [⟨(some ⟨gb, go, none⟩), m, c, l.take m⟩]) (HM.out.blk 0 rfl) (by intro x hx; simp only [List.mem_cons, List.not_mem_nil, or_false] at hx; rcases hx with rfl; exact HM.out.arg HRT.out))).mono ?_
        rintro e wy3 ⟨rfl, hb⟩
        replace HM := Lib.hid (show Mem w [blkE GP 24 ([.slice (some ⟨gb, go, none⟩) m c]), blkE w.heap.size 30 (ck.map u8v)] wy3 from HM.out.below hb)
        clear hb
        go_wp2_with fail
        refine hK.out _ _ ((HM.out.erase 0)) (fun hHeld => ?_)
        clear hK K
        (try simp only [Act.put, List.setIfInBounds_toArray, List.set_cons_zero, List.set_cons_succ])
        refine step_one 8 rfl (by kernel_rfl) (fun K hK => ?_)
        clear hHeld
        go_simp
        replace HM := Lib.hid (show Mem w [blkE wy3.heap.size 30 ((List.replicate 16 (0 : UInt8)).map u8v), blkE GP 24 ([.slice (some ⟨gb, go, none⟩) m c]), blkE w.heap.size 30 (ck.map u8v)] (wy3.alloc (.cells #[.int .u8 0, .int .u8 0, .int .u8 0, .int .u8 0, .int .u8 0, .int .u8 0, .int .u8 0, .int .u8 0, .int .u8 0, .int .u8 0, .int .u8 0, .int .u8 0, .int .u8 0, .int .u8 0, .int .u8 0, .int .u8 0] 30)) from HM.out.alloc rfl 30 #[.int .u8 0, .int .u8 0, .int .u8 0, .int .u8 0, .int .u8 0, .int .u8 0, .int .u8 0, .int .u8 0, .int .u8 0, .int .u8 0, .int .u8 0, .int .u8 0, .int .u8 0, .int .u8 0, .int .u8 0, .int .u8 0] ((List.replicate 16 (0 : UInt8)).map u8v) rfl)
        generalize wy3.alloc (.cells #[.int .u8 0, .int .u8 0, .int .u8 0, .int .u8 0, .int .u8 0, .int .u8 0, .int .u8 0, .int .u8 0, .int .u8 0, .int .u8 0, .int .u8 0, .int .u8 0, .int .u8 0, .int .u8 0, .int .u8 0, .int .u8 0] 30) = wy4 at HM ⊢
        generalize wy3.heap.size = GM at HM ⊢
        refine hK.out _ _ (((HM.out.erase 0).erase 0)) (fun hHeld => ?_)
        clear hK K
        (try simp only [Act.put, List.setIfInBounds_toArray, List.set_cons_zero, List.set_cons_succ])
        refine step_one 9 rfl (by kernel_rfl) (fun K hK => ?_)
        clear hHeld
        refine step_store_blk _ rfl 30 (.tmp 5) (.tmp 16) rfl GM (mt.map u8v) rfl (by show Value.agg cm = _; rw [HCM.out]) 30 ((List.replicate 16 (0 : UInt8)).map u8v) (HM.out.blk 0 rfl) (ae_cellsT mt HML.out) (by rw [List.length_map, List.length_map, HML.out]; rfl) (by intro v hv; obtain ⟨_, _, rfl⟩ := List.mem_map.1 hv; rfl) ?_
        intro wy5 hb hg
        replace HM := Lib.hid (show Mem w [blkE GM 30 (mt.map u8v), blkE GP 24 ([.slice (some ⟨gb, go, none⟩) m c]), blkE w.heap.size 30 (ck.map u8v)] wy5 from HM.out.put 0 rfl _ hg hb)
        clear hb hg
        refine hK.out _ _ (((HM.out.erase 0).erase 0)) (fun hHeld => ?_)
        clear hK K
        (try simp only [Act.put])
        refine wpAnyH_done (by kernel_rfl) ?_ _
        clear hHeld
        generalize hwq : wy5 = w4 at HM ⊢
        clear hwq
        go_upto_region 4 with fail
        refine wp_region_held_drew (S := fun W' => Mem w [blkE GM 30 (mt.map u8v), blkE GP 24 ([.slice (some ⟨gb, go, none⟩) m c]), blkE w.heap.size 30 (ck.map u8v)] W') (by kernel_rfl) ((HM.out).drew) (fun hHeld => ?_)
        replace HM := Lib.hid HM.out.drew
        generalize w4.drew = wd1 at HM hHeld ⊢
        refine take_first (v := ?_) 0 rfl (by kernel_rfl) (by kernel_rfl) (by kernel_rfl) (fun _ _ _ h => h) (Or.inl ⟨by rfl, ?_⟩) (by assumption) ?_
        rotate_left
        · (intro w hSw; (try dsimp only at hSw); go_simp; try with_reducible rfl)
        (try simp only [Act.put, List.setIfInBounds_toArray, List.set_cons_zero, List.set_cons_succ])
        refine take_first (v := ?_) 1 rfl (by kernel_rfl) (by kernel_rfl) (by kernel_rfl) (fun _ _ _ h => h) (Or.inl ⟨by rfl, ?_⟩) (by assumption) ?_
        rotate_left
        · (intro w hSw; (try dsimp only at hSw); have cv : (convert 24 9 (.slice (some ⟨GM, 0, none⟩) 16 16)).run Tryd.prog w = .ok (.string ⟨mt.toArray⟩) w := run_string_of_rd (P := Tryd.prog) 24 9 5 16 Tryd.underlying24 Tryd.underlying5 Tryd.underlying9 (blk_all (Mem.blk hSw 0 rfl) HML.out); go_simp; try with_reducible rfl)
        (try simp only [Act.put, List.setIfInBounds_toArray, List.set_cons_zero, List.set_cons_succ])
        refine take_first (v := ?_) 2 rfl (by kernel_rfl) (by kernel_rfl) (by kernel_rfl) (fun _ _ _ h => h) (Or.inl ⟨by rfl, ?_⟩) (by assumption) ?_
        rotate_left
        · (intro w hSw; (try dsimp only at hSw); go_simp; try with_reducible rfl)
        (try simp only [Act.put, List.setIfInBounds_toArray, List.set_cons_zero, List.set_cons_succ])
        refine take_first (v := ?_) 3 rfl (by kernel_rfl) (by kernel_rfl) (by kernel_rfl) (fun _ _ _ h => h) (Or.inl ⟨by rfl, ?_⟩) (by assumption) ?_
        rotate_left
        · (intro w hSw; (try dsimp only at hSw); go_simp; try with_reducible rfl)
        (try simp only [Act.put, List.setIfInBounds_toArray, List.set_cons_zero, List.set_cons_succ])
        refine take_first (v := ?_) 4 rfl (by kernel_rfl) (by kernel_rfl) (by kernel_rfl) (fun _ _ _ h => h) (Or.inl ⟨by rfl, ?_⟩) (by assumption) ?_
        rotate_left
        · (intro w hSw; (try dsimp only at hSw); go_simp; try with_reducible rfl)
        (try simp only [Act.put, List.setIfInBounds_toArray, List.set_cons_zero, List.set_cons_succ])
        refine take_first (v := ?_) 5 rfl (by kernel_rfl) (by kernel_rfl) (by kernel_rfl) (fun _ _ _ h => h) (Or.inl ⟨by rfl, ?_⟩) (by assumption) ?_
        rotate_left
        · (intro w hSw; (try dsimp only at hSw); go_simp; try with_reducible rfl)
        (try simp only [Act.put, List.setIfInBounds_toArray, List.set_cons_zero, List.set_cons_succ])
        refine take_first (v := ?_) 6 rfl (by kernel_rfl) (by kernel_rfl) (by kernel_rfl) (fun _ _ _ h => h) (Or.inl ⟨by rfl, ?_⟩) (by assumption) ?_
        rotate_left
        · (intro w hSw; (try dsimp only at hSw); have hs := HSL.out w; go_simp; try with_reducible rfl)
        (try simp only [Act.put, List.setIfInBounds_toArray, List.set_cons_zero, List.set_cons_succ])
        refine take_first (v := ?_) 7 rfl (by kernel_rfl) (by kernel_rfl) (by kernel_rfl) (fun _ _ _ h => h) (Or.inl ⟨by rfl, ?_⟩) (by assumption) ?_
        rotate_left
        · (intro w hSw; (try dsimp only at hSw); have cv : (convert 24 9 (.slice (some ⟨gb, go + m, none⟩) (n - m) (c - m))).run Tryd.prog w = .ok (.string ⟨(l.drop m).toArray⟩) w := run_string_of_rd (P := Tryd.prog) 24 9 5 (c - m) Tryd.underlying24 Tryd.underlying5 Tryd.underlying9 (Mem.arg hSw HRD.out); go_simp; try with_reducible rfl)
        (try simp only [Act.put, List.setIfInBounds_toArray, List.set_cons_zero, List.set_cons_succ])
        refine take_first (v := ?_) 8 rfl (by kernel_rfl) (by kernel_rfl) (by kernel_rfl) (fun _ _ _ h => h) (Or.inl ⟨by rfl, ?_⟩) (by assumption) ?_
        rotate_left
        · (intro w hSw; (try dsimp only at hSw); go_simp; try with_reducible rfl)
        (try simp only [Act.put, List.setIfInBounds_toArray, List.set_cons_zero, List.set_cons_succ])
        refine take_first (v := ?_) 9 rfl (by kernel_rfl) (by kernel_rfl) (by kernel_rfl) (fun _ _ _ h => h) (Or.inl ⟨by rfl, ?_⟩) (by assumption) ?_
        rotate_left
        · (intro w hSw; (try dsimp only at hSw); go_simp; try with_reducible rfl)
        (try simp only [Act.put, List.setIfInBounds_toArray, List.set_cons_zero, List.set_cons_succ])
        refine wpAnyH_done (by kernel_rfl) ?_ _
        clear hHeld
        go_wp2
        go_ret
        exact ⟨by rw [HV.out]; rfl, HM.out.bel⟩
      · clear hHeld
        go_simp
        replace HM := Lib.hid (show Mem w [blkE wy2.heap.size 30 ((List.replicate 16 (0 : UInt8)).map u8v), blkE GP 24 ([.slice (some ⟨gb, go, none⟩) m c]), blkE w.heap.size 30 (ck.map u8v)] (wy2.alloc (.cells #[.int .u8 0, .int .u8 0, .int .u8 0, .int .u8 0, .int .u8 0, .int .u8 0, .int .u8 0, .int .u8 0, .int .u8 0, .int .u8 0, .int .u8 0, .int .u8 0, .int .u8 0, .int .u8 0, .int .u8 0, .int .u8 0] 30)) from HM.out.alloc rfl 30 #[.int .u8 0, .int .u8 0, .int .u8 0, .int .u8 0, .int .u8 0, .int .u8 0, .int .u8 0, .int .u8 0, .int .u8 0, .int .u8 0, .int .u8 0, .int .u8 0, .int .u8 0, .int .u8 0, .int .u8 0, .int .u8 0] ((List.replicate 16 (0 : UInt8)).map u8v) rfl)
        generalize wy2.alloc (.cells #[.int .u8 0, .int .u8 0, .int .u8 0, .int .u8 0, .int .u8 0, .int .u8 0, .int .u8 0, .int .u8 0, .int .u8 0, .int .u8 0, .int .u8 0, .int .u8 0, .int .u8 0, .int .u8 0, .int .u8 0, .int .u8 0] 30) = wy3 at HM ⊢
        generalize wy2.heap.size = GM at HM ⊢
        refine hK.out _ _ (((HM.out.erase 0).erase 0)) (fun hHeld => ?_)
        clear hK K
        (try simp only [Act.put, List.setIfInBounds_toArray, List.set_cons_zero, List.set_cons_succ])
        refine step_one 7 rfl (by kernel_rfl) (fun K hK => ?_)
        clear hHeld
        go_simp
        refine (HC.out w.heap.size GP _ (blk_all (HM.out.blk 2 rfl) HP.out) (parts_rd (g := GP) (t := 24) (ps := [⟨(some ⟨gb, go, none⟩), m, c, l.take m⟩]) (HM.out.blk 1 rfl) (by intro x hx; simp only [List.mem_cons, List.not_mem_nil, or_false] at hx; rcases hx with rfl; exact HM.out.arg HRT.out))).mono ?_
        rintro e wy4 ⟨rfl, hb⟩
        replace HM := Lib.hid (show Mem w [blkE GM 30 ((List.replicate 16 (0 : UInt8)).map u8v), blkE GP 24 ([.slice (some ⟨gb, go, none⟩) m c]), blkE w.heap.size 30 (ck.map u8v)] wy4 from HM.out.below hb)
        clear hb
        go_wp2_with fail
        refine hK.out _ _ (((HM.out.erase 0).erase 0)) (fun hHeld => ?_)
        clear hK K
        (try simp only [Act.put, List.setIfInBounds_toArray, List.set_cons_zero, List.set_cons_succ])
        refine step_one 9 rfl (by kernel_rfl) (fun K hK => ?_)
        clear hHeld
        refine step_store_blk _ rfl 30 (.tmp 5) (.tmp 16) rfl GM (mt.map u8v) rfl (by show Value.agg cm = _; rw [HCM.out]) 30 ((List.replicate 16 (0 : UInt8)).map u8v) (HM.out.blk 0 rfl) (ae_cellsT mt HML.out) (by rw [List.length_map, List.length_map, HML.out]; rfl) (by intro v hv; obtain ⟨_, _, rfl⟩ := List.mem_map.1 hv; rfl) ?_
        intro wy5 hb hg
        replace HM := Lib.hid (show Mem w [blkE GM 30 (mt.map u8v), blkE GP 24 ([.slice (some ⟨gb, go, none⟩) m c]), blkE w.heap.size 30 (ck.map u8v)] wy5 from HM.out.put 0 rfl _ hg hb)
        clear hb hg
        refine hK.out _ _ (((HM.out.erase 0).erase 0)) (fun hHeld => ?_)
        clear hK K
        (try simp only [Act.put])
        refine wpAnyH_done (by kernel_rfl) ?_ _
        clear hHeld
        generalize hwq : wy5 = w4 at HM ⊢
        clear hwq
        go_upto_region 4 with fail
        refine wp_region_held_drew (S := fun W' => Mem w [blkE GM 30 (mt.map u8v), blkE GP 24 ([.slice (some ⟨gb, go, none⟩) m c]), blkE w.heap.size 30 (ck.map u8v)] W') (by kernel_rfl) ((HM.out).drew) (fun hHeld => ?_)
        replace HM := Lib.hid HM.out.drew
        generalize w4.drew = wd1 at HM hHeld ⊢
        refine take_first (v := ?_) 0 rfl (by kernel_rfl) (by kernel_rfl) (by kernel_rfl) (fun _ _ _ h => h) (Or.inl ⟨by rfl, ?_⟩) (by assumption) ?_
        rotate_left
        · (intro w hSw; (try dsimp only at hSw); go_simp; try with_reducible rfl)
        (try simp only [Act.put, List.setIfInBounds_toArray, List.set_cons_zero, List.set_cons_succ])
        refine take_first (v := ?_) 1 rfl (by kernel_rfl) (by kernel_rfl) (by kernel_rfl) (fun _ _ _ h => h) (Or.inl ⟨by rfl, ?_⟩) (by assumption) ?_
        rotate_left
        · (intro w hSw; (try dsimp only at hSw); have cv : (convert 24 9 (.slice (some ⟨GM, 0, none⟩) 16 16)).run Tryd.prog w = .ok (.string ⟨mt.toArray⟩) w := run_string_of_rd (P := Tryd.prog) 24 9 5 16 Tryd.underlying24 Tryd.underlying5 Tryd.underlying9 (blk_all (Mem.blk hSw 0 rfl) HML.out); go_simp; try with_reducible rfl)
        (try simp only [Act.put, List.setIfInBounds_toArray, List.set_cons_zero, List.set_cons_succ])
        refine take_first (v := ?_) 2 rfl (by kernel_rfl) (by kernel_rfl) (by kernel_rfl) (fun _ _ _ h => h) (Or.inl ⟨by rfl, ?_⟩) (by assumption) ?_
        rotate_left
        · (intro w hSw; (try dsimp only at hSw); go_simp; try with_reducible rfl)
        (try simp only [Act.put, List.setIfInBounds_toArray, List.set_cons_zero, List.set_cons_succ])
        refine take_first (v := ?_) 3 rfl (by kernel_rfl) (by kernel_rfl) (by kernel_rfl) (fun _ _ _ h => h) (Or.inl ⟨by rfl, ?_⟩) (by assumption) ?_
        rotate_left
        · (intro w hSw; (try dsimp only at hSw); go_simp; try with_reducible rfl)
        (try simp only [Act.put, List.setIfInBounds_toArray, List.set_cons_zero, List.set_cons_succ])
        refine take_first (v := ?_) 4 rfl (by kernel_rfl) (by kernel_rfl) (by kernel_rfl) (fun _ _ _ h => h) (Or.inl ⟨by rfl, ?_⟩) (by assumption) ?_
        rotate_left
        · (intro w hSw; (try dsimp only at hSw); go_simp; try with_reducible rfl)
        (try simp only [Act.put, List.setIfInBounds_toArray, List.set_cons_zero, List.set_cons_succ])
        refine take_first (v := ?_) 5 rfl (by kernel_rfl) (by kernel_rfl) (by kernel_rfl) (fun _ _ _ h => h) (Or.inl ⟨by rfl, ?_⟩) (by assumption) ?_
        rotate_left
        · (intro w hSw; (try dsimp only at hSw); go_simp; try with_reducible rfl)
        (try simp only [Act.put, List.setIfInBounds_toArray, List.set_cons_zero, List.set_cons_succ])
        refine take_first (v := ?_) 6 rfl (by kernel_rfl) (by kernel_rfl) (by kernel_rfl) (fun _ _ _ h => h) (Or.inl ⟨by rfl, ?_⟩) (by assumption) ?_
        rotate_left
        · (intro w hSw; (try dsimp only at hSw); have hs := HSL.out w; go_simp; try with_reducible rfl)
        (try simp only [Act.put, List.setIfInBounds_toArray, List.set_cons_zero, List.set_cons_succ])
        refine take_first (v := ?_) 7 rfl (by kernel_rfl) (by kernel_rfl) (by kernel_rfl) (fun _ _ _ h => h) (Or.inl ⟨by rfl, ?_⟩) (by assumption) ?_
        rotate_left
        · (intro w hSw; (try dsimp only at hSw); have cv : (convert 24 9 (.slice (some ⟨gb, go + m, none⟩) (n - m) (c - m))).run Tryd.prog w = .ok (.string ⟨(l.drop m).toArray⟩) w := run_string_of_rd (P := Tryd.prog) 24 9 5 (c - m) Tryd.underlying24 Tryd.underlying5 Tryd.underlying9 (Mem.arg hSw HRD.out); go_simp; try with_reducible rfl)
        (try simp only [Act.put, List.setIfInBounds_toArray, List.set_cons_zero, List.set_cons_succ])
        refine take_first (v := ?_) 8 rfl (by kernel_rfl) (by kernel_rfl) (by kernel_rfl) (fun _ _ _ h => h) (Or.inl ⟨by rfl, ?_⟩) (by assumption) ?_
        rotate_left
        · (intro w hSw; (try dsimp only at hSw); go_simp; try with_reducible rfl)
        (try simp only [Act.put, List.setIfInBounds_toArray, List.set_cons_zero, List.set_cons_succ])
        refine take_first (v := ?_) 9 rfl (by kernel_rfl) (by kernel_rfl) (by kernel_rfl) (fun _ _ _ h => h) (Or.inl ⟨by rfl, ?_⟩) (by assumption) ?_
        rotate_left
        · (intro w hSw; (try dsimp only at hSw); go_simp; try with_reducible rfl)
        (try simp only [Act.put, List.setIfInBounds_toArray, List.set_cons_zero, List.set_cons_succ])
        refine wpAnyH_done (by kernel_rfl) ?_ _
        clear hHeld
        go_wp2
        go_ret
        exact ⟨by rw [HV.out]; rfl, HM.out.bel⟩
    · clear hHeld
      go_simp
      replace HM := Lib.hid (show Mem w [blkE wd1.heap.size 30 ((List.replicate 16 (0 : UInt8)).map u8v), blkE w.heap.size 30 (ck.map u8v)] (wd1.alloc (.cells #[.int .u8 0, .int .u8 0, .int .u8 0, .int .u8 0, .int .u8 0, .int .u8 0, .int .u8 0, .int .u8 0, .int .u8 0, .int .u8 0, .int .u8 0, .int .u8 0, .int .u8 0, .int .u8 0, .int .u8 0, .int .u8 0] 30)) from HM.out.alloc rfl 30 #[.int .u8 0, .int .u8 0, .int .u8 0, .int .u8 0, .int .u8 0, .int .u8 0, .int .u8 0, .int .u8 0, .int .u8 0, .int .u8 0, .int .u8 0, .int .u8 0, .int .u8 0, .int .u8 0, .int .u8 0, .int .u8 0] ((List.replicate 16 (0 : UInt8)).map u8v) rfl)
      generalize wd1.alloc (.cells #[.int .u8 0, .int .u8 0, .int .u8 0, .int .u8 0, .int .u8 0, .int .u8 0, .int .u8 0, .int .u8 0, .int .u8 0, .int .u8 0, .int .u8 0, .int .u8 0, .int .u8 0, .int .u8 0, .int .u8 0, .int .u8 0] 30) = wy2 at HM ⊢
      generalize wd1.heap.size = GM at HM ⊢
      refine hK.out _ _ ((HM.out.erase 0)) (fun hHeld => ?_)
      clear hK K
      (try simp only [Act.put, List.setIfInBounds_toArray, List.set_cons_zero, List.set_cons_succ])
      refine step_one 6 rfl (by kernel_rfl) (fun K hK => ?_)
      clear hHeld
      go_simp
      replace HM := Lib.hid (show Mem w [blkE wy2.heap.size 24 ([.slice (some ⟨gb, go, none⟩) m c]), blkE GM 30 ((List.replicate 16 (0 : UInt8)).map u8v), blkE w.heap.size 30 (ck.map u8v)] (wy2.alloc (.cells #[.slice (some ⟨gb, go, none⟩) m c] 24)) from HM.out.alloc rfl 24 #[.slice (some ⟨gb, go, none⟩) m c] ([.slice (some ⟨gb, go, none⟩) m c]) rfl)
      generalize wy2.alloc (.cells #[.slice (some ⟨gb, go, none⟩) m c] 24) = wy3 at HM ⊢
      generalize wy2.heap.size = GP at HM ⊢
      refine hK.out _ _ (((HM.out.erase 0).erase 0)) (fun hHeld => ?_)
      clear hK K
      (try simp only [Act.put, List.setIfInBounds_toArray, List.set_cons_zero, List.set_cons_succ])
      refine step_one 7 rfl (by kernel_rfl) (fun K hK => ?_)
      clear hHeld
      go_simp
      refine (HC.out w.heap.size GP _ (blk_all (HM.out.blk 2 rfl) HP.out) (parts_rd (g := GP) (t := 24) (ps := [⟨(some ⟨gb, go, none⟩), m, c, l.take m⟩]) (HM.out.blk 0 rfl) (by intro x hx; simp only [List.mem_cons, List.not_mem_nil, or_false] at hx; rcases hx with rfl; exact HM.out.arg HRT.out))).mono ?_
      rintro e wy4 ⟨rfl, hb⟩
      replace HM := Lib.hid (show Mem w [blkE GP 24 ([.slice (some ⟨gb, go, none⟩) m c]), blkE GM 30 ((List.replicate 16 (0 : UInt8)).map u8v), blkE w.heap.size 30 (ck.map u8v)] wy4 from HM.out.below hb)
      clear hb
      go_wp2_with fail
      refine hK.out _ _ (((HM.out.erase 0).erase 0)) (fun hHeld => ?_)
      clear hK K
      (try simp only [Act.put, List.setIfInBounds_toArray, List.set_cons_zero, List.set_cons_succ])
      refine step_one 9 rfl (by kernel_rfl) (fun K hK => ?_)
      clear hHeld
      refine step_store_blk _ rfl 30 (.tmp 5) (.tmp 16) rfl GM (mt.map u8v) rfl (by show Value.agg cm = _; rw [HCM.out]) 30 ((List.replicate 16 (0 : UInt8)).map u8v) (HM.out.blk 1 rfl) (ae_cellsT mt HML.out) (by rw [List.length_map, List.length_map, HML.out]; rfl) (by intro v hv; obtain ⟨_, _, rfl⟩ := List.mem_map.1 hv; rfl) ?_
      intro wy5 hb hg
      replace HM := Lib.hid (show Mem w [blkE GP 24 ([.slice (some ⟨gb, go, none⟩) m c]), blkE GM 30 (mt.map u8v), blkE w.heap.size 30 (ck.map u8v)] wy5 from HM.out.put 1 rfl _ hg hb)
      clear hb hg
      refine hK.out _ _ (((HM.out.erase 0).erase 0)) (fun hHeld => ?_)
      clear hK K
      (try simp only [Act.put])
      refine wpAnyH_done (by kernel_rfl) ?_ _
      clear hHeld
      generalize hwq : wy5 = w4 at HM ⊢
      clear hwq
      go_upto_region 4 with fail
      refine wp_region_held_drew (S := fun W' => Mem w [blkE GP 24 ([.slice (some ⟨gb, go, none⟩) m c]), blkE GM 30 (mt.map u8v), blkE w.heap.size 30 (ck.map u8v)] W') (by kernel_rfl) ((HM.out).drew) (fun hHeld => ?_)
      replace HM := Lib.hid HM.out.drew
      generalize w4.drew = wd1 at HM hHeld ⊢
      refine take_first (v := ?_) 0 rfl (by kernel_rfl) (by kernel_rfl) (by kernel_rfl) (fun _ _ _ h => h) (Or.inl ⟨by rfl, ?_⟩) (by assumption) ?_
      rotate_left
      · (intro w hSw; (try dsimp only at hSw); go_simp; try with_reducible rfl)
      (try simp only [Act.put, List.setIfInBounds_toArray, List.set_cons_zero, List.set_cons_succ])
      refine take_first (v := ?_) 1 rfl (by kernel_rfl) (by kernel_rfl) (by kernel_rfl) (fun _ _ _ h => h) (Or.inl ⟨by rfl, ?_⟩) (by assumption) ?_
      rotate_left
      · (intro w hSw; (try dsimp only at hSw); have cv : (convert 24 9 (.slice (some ⟨GM, 0, none⟩) 16 16)).run Tryd.prog w = .ok (.string ⟨mt.toArray⟩) w := run_string_of_rd (P := Tryd.prog) 24 9 5 16 Tryd.underlying24 Tryd.underlying5 Tryd.underlying9 (blk_all (Mem.blk hSw 1 rfl) HML.out); go_simp; try with_reducible rfl)
      (try simp only [Act.put, List.setIfInBounds_toArray, List.set_cons_zero, List.set_cons_succ])
      refine take_first (v := ?_) 2 rfl (by kernel_rfl) (by kernel_rfl) (by kernel_rfl) (fun _ _ _ h => h) (Or.inl ⟨by rfl, ?_⟩) (by assumption) ?_
      rotate_left
      · (intro w hSw; (try dsimp only at hSw); go_simp; try with_reducible rfl)
      (try simp only [Act.put, List.setIfInBounds_toArray, List.set_cons_zero, List.set_cons_succ])
      refine take_first (v := ?_) 3 rfl (by kernel_rfl) (by kernel_rfl) (by kernel_rfl) (fun _ _ _ h => h) (Or.inl ⟨by rfl, ?_⟩) (by assumption) ?_
      rotate_left
      · (intro w hSw; (try dsimp only at hSw); go_simp; try with_reducible rfl)
      (try simp only [Act.put, List.setIfInBounds_toArray, List.set_cons_zero, List.set_cons_succ])
      refine take_first (v := ?_) 4 rfl (by kernel_rfl) (by kernel_rfl) (by kernel_rfl) (fun _ _ _ h => h) (Or.inl ⟨by rfl, ?_⟩) (by assumption) ?_
      rotate_left
      · (intro w hSw; (try dsimp only at hSw); go_simp; try with_reducible rfl)
      (try simp only [Act.put, List.setIfInBounds_toArray, List.set_cons_zero, List.set_cons_succ])
      refine take_first (v := ?_) 5 rfl (by kernel_rfl) (by kernel_rfl) (by kernel_rfl) (fun _ _ _ h => h) (Or.inl ⟨by rfl, ?_⟩) (by assumption) ?_
      rotate_left
      · (intro w hSw; (try dsimp only at hSw); go_simp; try with_reducible rfl)
      (try simp only [Act.put, List.setIfInBounds_toArray, List.set_cons_zero, List.set_cons_succ])
      refine take_first (v := ?_) 6 rfl (by kernel_rfl) (by kernel_rfl) (by kernel_rfl) (fun _ _ _ h => h) (Or.inl ⟨by rfl, ?_⟩) (by assumption) ?_
      rotate_left
      · (intro w hSw; (try dsimp only at hSw); have hs := HSL.out w; go_simp; try with_reducible rfl)
      (try simp only [Act.put, List.setIfInBounds_toArray, List.set_cons_zero, List.set_cons_succ])
      refine take_first (v := ?_) 7 rfl (by kernel_rfl) (by kernel_rfl) (by kernel_rfl) (fun _ _ _ h => h) (Or.inl ⟨by rfl, ?_⟩) (by assumption) ?_
      rotate_left
      · (intro w hSw; (try dsimp only at hSw); have cv : (convert 24 9 (.slice (some ⟨gb, go + m, none⟩) (n - m) (c - m))).run Tryd.prog w = .ok (.string ⟨(l.drop m).toArray⟩) w := run_string_of_rd (P := Tryd.prog) 24 9 5 (c - m) Tryd.underlying24 Tryd.underlying5 Tryd.underlying9 (Mem.arg hSw HRD.out); go_simp; try with_reducible rfl)
      (try simp only [Act.put, List.setIfInBounds_toArray, List.set_cons_zero, List.set_cons_succ])
      refine take_first (v := ?_) 8 rfl (by kernel_rfl) (by kernel_rfl) (by kernel_rfl) (fun _ _ _ h => h) (Or.inl ⟨by rfl, ?_⟩) (by assumption) ?_
      rotate_left
      · (intro w hSw; (try dsimp only at hSw); go_simp; try with_reducible rfl)
      (try simp only [Act.put, List.setIfInBounds_toArray, List.set_cons_zero, List.set_cons_succ])
      refine take_first (v := ?_) 9 rfl (by kernel_rfl) (by kernel_rfl) (by kernel_rfl) (fun _ _ _ h => h) (Or.inl ⟨by rfl, ?_⟩) (by assumption) ?_
      rotate_left
      · (intro w hSw; (try dsimp only at hSw); go_simp; try with_reducible rfl)
      (try simp only [Act.put, List.setIfInBounds_toArray, List.set_cons_zero, List.set_cons_succ])
      refine wpAnyH_done (by kernel_rfl) ?_ _
      clear hHeld
      go_wp2
      go_ret
      exact ⟨by rw [HV.out]; rfl, HM.out.bel⟩
set_option maxRecDepth 100000 in
set_option maxHeartbeats 8000000 in
theorem refCheckMac1_any (p : List UInt8) (hp : p.length = 32) (A : Option Addr) (n c : Nat) (l : List UInt8) (hnc : n ≤ c) (hcm : c ≤ maxLen) (hn : n ≤ 100000) (w : World) (hr : Rd w w.heap.size A n l) :
    Calls Tryd.prog 18 #[.agg (p.map u8v).toArray, .slice A n c] w fun e w' => e = .returned (.bool (check1B p l)) ∧ Below w.heap.size w w' := by
  have HR := Lib.hid hr
  have HP := Lib.hid hp
  have HCD := Lib.hid (refCoded_any A n c l hnc hcm hn)
  have HV := Lib.hid (show check1B p l = (codedB l && mac1B p (l.take (l.length - 32)) == (l.drop (l.length - 32)).take 16) from rfl)
  have HMC := Lib.hid (fun m (hm : m ≤ n) A' W (h : Rd W W.heap.size A' m (l.take m)) => refMac1_any p hp A' m c (l.take m) (by omega) W h)
  obtain ⟨cp, hcp⟩ : ∃ z, (p.map u8v).toArray = z := ⟨_, rfl⟩
  rw [hcp] at HMC ⊢
  have HCP := Lib.hid hcp
  have HM := Lib.hid (show Mem w [blkE w.heap.size 23 (p.map u8v)] (w.alloc (.cells cp 23)) from (Mem.nil w).alloc rfl 23 cp (p.map u8v) hcp.symm)
  clear hcp hr hp
  have hcl := fun h : codedB l = true => codedB_len h
  have hln := HR.out.1
  generalize hcd : codedB l = cd at HCD HV hcl
  go_enter Tryd.func18, Tryd.ntmps18
  go_upto_region 1 with fail
  generalize (w.alloc (.cells cp 23)) = w1 at HM ⊢
  go_wp2_with fail
  refine (HCD.out w1 (HM.out.arg HR.out)).mono ?_
  rintro e w2 ⟨rfl, hb⟩
  replace HM := Lib.hid (HM.out.below hb)
  clear hb HCD
  cases cd
  · go_wp2
    go_ret
    exact ⟨by rw [HV.out]; rfl, HM.out.bel⟩
  · replace hcl := hcl rfl
    rw [hln] at hcl
    obtain ⟨m, hm⟩ : ∃ m, n - 32 = m := ⟨_, rfl⟩
    obtain ⟨k, hk⟩ : ∃ k, n - 16 = k := ⟨_, rfl⟩
    obtain ⟨gb, go, rfl, -, -⟩ := HR.out.at_ (by omega)
    have hsb : (n : Int) - 32 = (m : Int) := by omega
    have hsw : IntKind.i64.wrap (m : Int) = (m : Int) := IntWalk.i64_in _ (by omega)
    have hsb2 : (n : Int) - 16 = (k : Int) := by omega
    have hsw2 : IntKind.i64.wrap (k : Int) = (k : Int) := IntWalk.i64_in _ (by omega)
    have b1 : (m : Int) ≤ (c : Int) := by omega
    have HSL := Lib.hid (slice_lh (some ⟨gb, go, none⟩) n c m k (by omega) (by omega) hnc)
    rw [addrOf_some gb go m c (by omega), show k - m = 16 from by omega] at HSL
    have HRT := Lib.hid (HR.out.take (m := m) (by omega))
    have HRD := Lib.hid ((HR.out.drop m gb go rfl (by omega)).take (m := 16) (by omega))
    replace HMC := Lib.hid (HMC.out m (by omega))
    replace HV := Lib.hid (show check1B p l = (mac1B p (l.take m) == (l.drop m).take 16) from by rw [HV.out, Bool.true_and, hln, hm])
    obtain ⟨mt, hmt⟩ : ∃ z, mac1B p (l.take m) = z := ⟨_, rfl⟩
    have HML := Lib.hid (show mt.length = 16 from by rw [← hmt]; exact mac1B_length _ _)
    rw [hmt] at HMC HV
    obtain ⟨cm, hcm⟩ : ∃ z, (mt.map u8v).toArray = z := ⟨_, rfl⟩
    rw [hcm] at HMC
    have HCM := Lib.hid hcm
    clear hmt hcm
    go_upto_region 3 with fail
    refine wp_region_held_drew (S := fun W' => Mem w [blkE w.heap.size 23 (p.map u8v)] W') (by kernel_rfl) ((HM.out).drew) (fun hHeld => ?_)
    replace HM := Lib.hid HM.out.drew
    generalize w2.drew = wd1 at HM hHeld ⊢
    refine take_first (v := .agg cp) 0 rfl (by kernel_rfl) (by kernel_rfl) (by kernel_rfl) (fun _ _ _ h => h) (by rw [← HCP.out]; exact yields_load_blk (by rfl) 23 (.tmp 2) rfl w.heap.size rfl 23 (p.map u8v) (fun w' hb => hb.blk 0 rfl) 32 5 Tryd.underlying23 (cells32 p HP.out)) (by assumption) ?_
    (try simp only [Act.put, List.setIfInBounds_toArray, List.set_cons_zero, List.set_cons_succ])
    refine take_first (v := ?_) 1 rfl (by kernel_rfl) (by kernel_rfl) (by kernel_rfl) (fun _ _ _ h => h) (Or.inl ⟨by rfl, ?_⟩) (by assumption) ?_
    rotate_left
    · (intro w hSw; (try dsimp only at hSw); go_simp; try with_reducible rfl)
    (try simp only [Act.put, List.setIfInBounds_toArray, List.set_cons_zero, List.set_cons_succ])
    refine take_first (v := ?_) 2 rfl (by kernel_rfl) (by kernel_rfl) (by kernel_rfl) (fun _ _ _ h => h) (Or.inl ⟨by rfl, ?_⟩) (by assumption) ?_
    rotate_left
    · (intro w hSw; (try dsimp only at hSw); go_simp; try with_reducible rfl)
    (try simp only [Act.put, List.setIfInBounds_toArray, List.set_cons_zero, List.set_cons_succ])
    refine take_first (v := ?_) 3 rfl (by kernel_rfl) (by kernel_rfl) (by kernel_rfl) (fun _ _ _ h => h) (Or.inl ⟨by rfl, ?_⟩) (by assumption) ?_
    rotate_left
    · (intro w hSw; (try dsimp only at hSw); go_simp; try with_reducible rfl)
    (try simp only [Act.put, List.setIfInBounds_toArray, List.set_cons_zero, List.set_cons_succ])
    refine take_first (v := ?_) 4 rfl (by kernel_rfl) (by kernel_rfl) (by kernel_rfl) (fun _ _ _ h => h) (Or.inl ⟨by rfl, ?_⟩) (by assumption) ?_
    rotate_left
    · (intro w hSw; (try dsimp only at hSw); go_simp; try with_reducible rfl)
    (try simp only [Act.put, List.setIfInBounds_toArray, List.set_cons_zero, List.set_cons_succ])
    refine take_first (v := ?_) 5 rfl (by kernel_rfl) (by kernel_rfl) (by kernel_rfl) (fun _ _ _ h => h) (Or.inl ⟨by rfl, ?_⟩) (by assumption) ?_
    rotate_left
    · (intro w hSw; (try dsimp only at hSw); go_simp; try with_reducible rfl)
    (try simp only [Act.put, List.setIfInBounds_toArray, List.set_cons_zero, List.set_cons_succ])
    refine step_two 6 7 rfl rfl (by kernel_rfl) (fun K hK => ?_) (fun K hK => ?_)
    · clear hHeld
      go_simp
      refine (HMC.out _ _ (HM.out.arg HRT.out)).mono ?_
      rintro e wy2 ⟨rfl, hb⟩
      replace HM := Lib.hid (show Mem w [blkE w.heap.size 23 (p.map u8v)] wy2 from HM.out.below hb)
      clear hb
      go_wp2_with fail
      refine hK.out _ _ (HM.out) (fun hHeld => ?_)
      clear hK K
      (try simp only [Act.put, List.setIfInBounds_toArray, List.set_cons_zero, List.set_cons_succ])
      refine step_one 7 rfl (by kernel_rfl) (fun K hK => ?_)
      clear hHeld
      go_simp
      replace HM := Lib.hid (show Mem w [blkE wy2.heap.size 30 ((List.replicate 16 (0 : UInt8)).map u8v), blkE w.heap.size 23 (p.map u8v)] (wy2.alloc (.cells #[.int .u8 0, .int .u8 0, .int .u8 0, .int .u8 0, .int .u8 0, .int .u8 0, .int .u8 0, .int .u8 0, .int .u8 0, .int .u8 0, .int .u8 0, .int .u8 0, .int .u8 0, .int .u8 0, .int .u8 0, .int .u8 0] 30)) from HM.out.alloc rfl 30 #[.int .u8 0, .int .u8 0, .int .u8 0, .int .u8 0, .int .u8 0, .int .u8 0, .int .u8 0, .int .u8 0, .int .u8 0, .int .u8 0, .int .u8 0, .int .u8 0, .int .u8 0, .int .u8 0, .int .u8 0, .int .u8 0] ((List.replicate 16 (0 : UInt8)).map u8v) rfl)
      generalize wy2.alloc (.cells #[.int .u8 0, .int .u8 0, .int .u8 0, .int .u8 0, .int .u8 0, .int .u8 0, .int .u8 0, .int .u8 0, .int .u8 0, .int .u8 0, .int .u8 0, .int .u8 0, .int .u8 0, .int .u8 0, .int .u8 0, .int .u8 0] 30) = wy3 at HM ⊢
      generalize wy2.heap.size = GM at HM ⊢
      refine hK.out _ _ ((HM.out.erase 0)) (fun hHeld => ?_)
      clear hK K
      (try simp only [Act.put, List.setIfInBounds_toArray, List.set_cons_zero, List.set_cons_succ])
      refine step_one 8 rfl (by kernel_rfl) (fun K hK => ?_)
      clear hHeld
      refine step_store_blk _ rfl 30 (.tmp 5) (.tmp 15) rfl GM (mt.map u8v) rfl (by show Value.agg cm = _; rw [HCM.out]) 30 ((List.replicate 16 (0 : UInt8)).map u8v) (HM.out.blk 0 rfl) (ae_cellsT mt HML.out) (by rw [List.length_map, List.length_map, HML.out]; rfl) (by intro v hv; obtain ⟨_, _, rfl⟩ := List.mem_map.1 hv; rfl) ?_
      intro wy4 hb hg
      replace HM := Lib.hid (show Mem w [blkE GM 30 (mt.map u8v), blkE w.heap.size 23 (p.map u8v)] wy4 from HM.out.put 0 rfl _ hg hb)
      clear hb hg
      refine hK.out _ _ ((HM.out.erase 0)) (fun hHeld => ?_)
      clear hK K
      (try simp only [Act.put])
      refine wpAnyH_done (by kernel_rfl) ?_ _
      clear hHeld
      generalize hwq : wy4 = w4 at HM ⊢
      clear hwq
      go_upto_region 4 with fail
      refine wp_region_held_drew (S := fun W' => Mem w [blkE GM 30 (mt.map u8v), blkE w.heap.size 23 (p.map u8v)] W') (by kernel_rfl) ((HM.out).drew) (fun hHeld => ?_)
      replace HM := Lib.hid HM.out.drew
      generalize w4.drew = wd1 at HM hHeld ⊢
      refine take_first (v := ?_) 0 rfl (by kernel_rfl) (by kernel_rfl) (by kernel_rfl) (fun _ _ _ h => h) (Or.inl ⟨by rfl, ?_⟩) (by assumption) ?_
      rotate_left
      · (intro w hSw; (try dsimp only at hSw); go_simp; try with_reducible rfl)
      (try simp only [Act.put, List.setIfInBounds_toArray, List.set_cons_zero, List.set_cons_succ])
      refine take_first (v := ?_) 1 rfl (by kernel_rfl) (by kernel_rfl) (by kernel_rfl) (fun _ _ _ h => h) (Or.inl ⟨by rfl, ?_⟩) (by assumption) ?_
      rotate_left
      · (intro w hSw; (try dsimp only at hSw); have cv : (convert 24 9 (.slice (some ⟨GM, 0, none⟩) 16 16)).run Tryd.prog w = .ok (.string ⟨(mt).toArray⟩) w := run_string_of_rd (P := Tryd.prog) 24 9 5 16 Tryd.underlying24 Tryd.underlying5 Tryd.underlying9 (blk_all (Mem.blk hSw 0 rfl) HML.out); go_simp; try with_reducible rfl)
      (try simp only [Act.put, List.setIfInBounds_toArray, List.set_cons_zero, List.set_cons_succ])
      refine take_first (v := ?_) 2 rfl (by kernel_rfl) (by kernel_rfl) (by kernel_rfl) (fun _ _ _ h => h) (Or.inl ⟨by rfl, ?_⟩) (by assumption) ?_
      rotate_left
      · (intro w hSw; (try dsimp only at hSw); go_simp; try with_reducible rfl)
      (try simp only [Act.put, List.setIfInBounds_toArray, List.set_cons_zero, List.set_cons_succ])
      refine take_first (v := ?_) 3 rfl (by kernel_rfl) (by kernel_rfl) (by kernel_rfl) (fun _ _ _ h => h) (Or.inl ⟨by rfl, ?_⟩) (by assumption) ?_
      rotate_left
      · (intro w hSw; (try dsimp only at hSw); go_simp; try with_reducible rfl)
      (try simp only [Act.put, List.setIfInBounds_toArray, List.set_cons_zero, List.set_cons_succ])
      refine take_first (v := ?_) 4 rfl (by kernel_rfl) (by kernel_rfl) (by kernel_rfl) (fun _ _ _ h => h) (Or.inl ⟨by rfl, ?_⟩) (by assumption) ?_
      rotate_left
      · (intro w hSw; (try dsimp only at hSw); go_simp; try with_reducible rfl)
      (try simp only [Act.put, List.setIfInBounds_toArray, List.set_cons_zero, List.set_cons_succ])
      refine take_first (v := ?_) 5 rfl (by kernel_rfl) (by kernel_rfl) (by kernel_rfl) (fun _ _ _ h => h) (Or.inl ⟨by rfl, ?_⟩) (by assumption) ?_
      rotate_left
      · (intro w hSw; (try dsimp only at hSw); go_simp; try with_reducible rfl)
      (try simp only [Act.put, List.setIfInBounds_toArray, List.set_cons_zero, List.set_cons_succ])
      refine take_first (v := ?_) 6 rfl (by kernel_rfl) (by kernel_rfl) (by kernel_rfl) (fun _ _ _ h => h) (Or.inl ⟨by rfl, ?_⟩) (by assumption) ?_
      rotate_left
      · (intro w hSw; (try dsimp only at hSw); go_simp; try with_reducible rfl)
      (try simp only [Act.put, List.setIfInBounds_toArray, List.set_cons_zero, List.set_cons_succ])
      refine take_first (v := ?_) 7 rfl (by kernel_rfl) (by kernel_rfl) (by kernel_rfl) (fun _ _ _ h => h) (Or.inl ⟨by rfl, ?_⟩) (by assumption) ?_
      rotate_left
      · (intro w hSw; (try dsimp only at hSw); go_simp; try with_reducible rfl)
      (try simp only [Act.put, List.setIfInBounds_toArray, List.set_cons_zero, List.set_cons_succ])
      refine take_first (v := ?_) 8 rfl (by kernel_rfl) (by kernel_rfl) (by kernel_rfl) (fun _ _ _ h => h) (Or.inl ⟨by rfl, ?_⟩) (by assumption) ?_
      rotate_left
      · (intro w hSw; (try dsimp only at hSw); go_simp; try with_reducible rfl)
      (try simp only [Act.put, List.setIfInBounds_toArray, List.set_cons_zero, List.set_cons_succ])
      refine take_first (v := ?_) 9 rfl (by kernel_rfl) (by kernel_rfl) (by kernel_rfl) (fun _ _ _ h => h) (Or.inl ⟨by rfl, ?_⟩) (by assumption) ?_
      rotate_left
      · (intro w hSw; (try dsimp only at hSw); have hs := HSL.out w; go_simp; try with_reducible rfl)
      (try simp only [Act.put, List.setIfInBounds_toArray, List.set_cons_zero, List.set_cons_succ])
      refine take_first (v := ?_) 10 rfl (by kernel_rfl) (by kernel_rfl) (by kernel_rfl) (fun _ _ _ h => h) (Or.inl ⟨by rfl, ?_⟩) (by assumption) ?_
      rotate_left
      · (intro w hSw; (try dsimp only at hSw); have cv : (convert 24 9 (.slice (some ⟨gb, go + m, none⟩) 16 (c - m))).run Tryd.prog w = .ok (.string ⟨((l.drop m).take 16).toArray⟩) w := run_string_of_rd (P := Tryd.prog) 24 9 5 (c - m) Tryd.underlying24 Tryd.underlying5 Tryd.underlying9 (Mem.arg hSw HRD.out); go_simp; try with_reducible rfl)
      (try simp only [Act.put, List.setIfInBounds_toArray, List.set_cons_zero, List.set_cons_succ])
      refine take_first (v := ?_) 11 rfl (by kernel_rfl) (by kernel_rfl) (by kernel_rfl) (fun _ _ _ h => h) (Or.inl ⟨by rfl, ?_⟩) (by assumption) ?_
      rotate_left
      · (intro w hSw; (try dsimp only at hSw); go_simp; try with_reducible rfl)
      (try simp only [Act.put, List.setIfInBounds_toArray, List.set_cons_zero, List.set_cons_succ])
      refine take_first (v := ?_) 12 rfl (by kernel_rfl) (by kernel_rfl) (by kernel_rfl) (fun _ _ _ h => h) (Or.inl ⟨by rfl, ?_⟩) (by assumption) ?_
      rotate_left
      · (intro w hSw; (try dsimp only at hSw); go_simp; try with_reducible rfl)
      (try simp only [Act.put, List.setIfInBounds_toArray, List.set_cons_zero, List.set_cons_succ])
      refine wpAnyH_done (by kernel_rfl) ?_ _
      clear hHeld
      go_wp2
      go_ret
      exact ⟨by rw [HV.out]; rfl, HM.out.bel⟩
    · clear hHeld
      go_simp
      replace HM := Lib.hid (show Mem w [blkE wd1.heap.size 30 ((List.replicate 16 (0 : UInt8)).map u8v), blkE w.heap.size 23 (p.map u8v)] (wd1.alloc (.cells #[.int .u8 0, .int .u8 0, .int .u8 0, .int .u8 0, .int .u8 0, .int .u8 0, .int .u8 0, .int .u8 0, .int .u8 0, .int .u8 0, .int .u8 0, .int .u8 0, .int .u8 0, .int .u8 0, .int .u8 0, .int .u8 0] 30)) from HM.out.alloc rfl 30 #[.int .u8 0, .int .u8 0, .int .u8 0, .int .u8 0, .int .u8 0, .int .u8 0, .int .u8 0, .int .u8 0, .int .u8 0, .int .u8 0, .int .u8 0, .int .u8 0, .int .u8 0, .int .u8 0, .int .u8 0, .int .u8 0] ((List.replicate 16 (0 : UInt8)).map u8v) rfl)
      generalize wd1.alloc (.cells #[.int .u8 0, .int .u8 0, .int .u8 0, .int .u8 0, .int .u8 0, .int .u8 0, .int .u8 0, .int .u8 0, .int .u8 0, .int .u8 0, .int .u8 0, .int .u8 0, .int .u8 0, .int .u8 0, .int .u8 0, .int .u8 0] 30) = wy2 at HM ⊢
      generalize wd1.heap.size = GM at HM ⊢
      refine hK.out _ _ ((HM.out.erase 0)) (fun hHeld => ?_)
      clear hK K
      (try simp only [Act.put, List.setIfInBounds_toArray, List.set_cons_zero, List.set_cons_succ])
      refine step_one 6 rfl (by kernel_rfl) (fun K hK => ?_)
      clear hHeld
      go_simp
      refine (HMC.out _ _ (HM.out.arg HRT.out)).mono ?_
      rintro e wy3 ⟨rfl, hb⟩
      replace HM := Lib.hid (show Mem w [blkE GM 30 ((List.replicate 16 (0 : UInt8)).map u8v), blkE w.heap.size 23 (p.map u8v)] wy3 from HM.out.below hb)
      clear hb
      go_wp2_with fail
      refine hK.out _ _ ((HM.out.erase 0)) (fun hHeld => ?_)
      clear hK K
      (try simp only [Act.put, List.setIfInBounds_toArray, List.set_cons_zero, List.set_cons_succ])
      refine step_one 8 rfl (by kernel_rfl) (fun K hK => ?_)
      clear hHeld
      refine step_store_blk _ rfl 30 (.tmp 5) (.tmp 15) rfl GM (mt.map u8v) rfl (by show Value.agg cm = _; rw [HCM.out]) 30 ((List.replicate 16 (0 : UInt8)).map u8v) (HM.out.blk 0 rfl) (ae_cellsT mt HML.out) (by rw [List.length_map, List.length_map, HML.out]; rfl) (by intro v hv; obtain ⟨_, _, rfl⟩ := List.mem_map.1 hv; rfl) ?_
      intro wy4 hb hg
      replace HM := Lib.hid (show Mem w [blkE GM 30 (mt.map u8v), blkE w.heap.size 23 (p.map u8v)] wy4 from HM.out.put 0 rfl _ hg hb)
      clear hb hg
      refine hK.out _ _ ((HM.out.erase 0)) (fun hHeld => ?_)
      clear hK K
      (try simp only [Act.put])
      refine wpAnyH_done (by kernel_rfl) ?_ _
      clear hHeld
      generalize hwq : wy4 = w4 at HM ⊢
      clear hwq
      go_upto_region 4 with fail
      refine wp_region_held_drew (S := fun W' => Mem w [blkE GM 30 (mt.map u8v), blkE w.heap.size 23 (p.map u8v)] W') (by kernel_rfl) ((HM.out).drew) (fun hHeld => ?_)
      replace HM := Lib.hid HM.out.drew
      generalize w4.drew = wd1 at HM hHeld ⊢
      refine take_first (v := ?_) 0 rfl (by kernel_rfl) (by kernel_rfl) (by kernel_rfl) (fun _ _ _ h => h) (Or.inl ⟨by rfl, ?_⟩) (by assumption) ?_
      rotate_left
      · (intro w hSw; (try dsimp only at hSw); go_simp; try with_reducible rfl)
      (try simp only [Act.put, List.setIfInBounds_toArray, List.set_cons_zero, List.set_cons_succ])
      refine take_first (v := ?_) 1 rfl (by kernel_rfl) (by kernel_rfl) (by kernel_rfl) (fun _ _ _ h => h) (Or.inl ⟨by rfl, ?_⟩) (by assumption) ?_
      rotate_left
      · (intro w hSw; (try dsimp only at hSw); have cv : (convert 24 9 (.slice (some ⟨GM, 0, none⟩) 16 16)).run Tryd.prog w = .ok (.string ⟨(mt).toArray⟩) w := run_string_of_rd (P := Tryd.prog) 24 9 5 16 Tryd.underlying24 Tryd.underlying5 Tryd.underlying9 (blk_all (Mem.blk hSw 0 rfl) HML.out); go_simp; try with_reducible rfl)
      (try simp only [Act.put, List.setIfInBounds_toArray, List.set_cons_zero, List.set_cons_succ])
      refine take_first (v := ?_) 2 rfl (by kernel_rfl) (by kernel_rfl) (by kernel_rfl) (fun _ _ _ h => h) (Or.inl ⟨by rfl, ?_⟩) (by assumption) ?_
      rotate_left
      · (intro w hSw; (try dsimp only at hSw); go_simp; try with_reducible rfl)
      (try simp only [Act.put, List.setIfInBounds_toArray, List.set_cons_zero, List.set_cons_succ])
      refine take_first (v := ?_) 3 rfl (by kernel_rfl) (by kernel_rfl) (by kernel_rfl) (fun _ _ _ h => h) (Or.inl ⟨by rfl, ?_⟩) (by assumption) ?_
      rotate_left
      · (intro w hSw; (try dsimp only at hSw); go_simp; try with_reducible rfl)
      (try simp only [Act.put, List.setIfInBounds_toArray, List.set_cons_zero, List.set_cons_succ])
      refine take_first (v := ?_) 4 rfl (by kernel_rfl) (by kernel_rfl) (by kernel_rfl) (fun _ _ _ h => h) (Or.inl ⟨by rfl, ?_⟩) (by assumption) ?_
      rotate_left
      · (intro w hSw; (try dsimp only at hSw); go_simp; try with_reducible rfl)
      (try simp only [Act.put, List.setIfInBounds_toArray, List.set_cons_zero, List.set_cons_succ])
      refine take_first (v := ?_) 5 rfl (by kernel_rfl) (by kernel_rfl) (by kernel_rfl) (fun _ _ _ h => h) (Or.inl ⟨by rfl, ?_⟩) (by assumption) ?_
      rotate_left
      · (intro w hSw; (try dsimp only at hSw); go_simp; try with_reducible rfl)
      (try simp only [Act.put, List.setIfInBounds_toArray, List.set_cons_zero, List.set_cons_succ])
      refine take_first (v := ?_) 6 rfl (by kernel_rfl) (by kernel_rfl) (by kernel_rfl) (fun _ _ _ h => h) (Or.inl ⟨by rfl, ?_⟩) (by assumption) ?_
      rotate_left
      · (intro w hSw; (try dsimp only at hSw); go_simp; try with_reducible rfl)
      (try simp only [Act.put, List.setIfInBounds_toArray, List.set_cons_zero, List.set_cons_succ])
      refine take_first (v := ?_) 7 rfl (by kernel_rfl) (by kernel_rfl) (by kernel_rfl) (fun _ _ _ h => h) (Or.inl ⟨by rfl, ?_⟩) (by assumption) ?_
      rotate_left
      · (intro w hSw; (try dsimp only at hSw); go_simp; try with_reducible rfl)
      (try simp only [Act.put, List.setIfInBounds_toArray, List.set_cons_zero, List.set_cons_succ])
      refine take_first (v := ?_) 8 rfl (by kernel_rfl) (by kernel_rfl) (by kernel_rfl) (fun _ _ _ h => h) (Or.inl ⟨by rfl, ?_⟩) (by assumption) ?_
      rotate_left
      · (intro w hSw; (try dsimp only at hSw); go_simp; try with_reducible rfl)
      (try simp only [Act.put, List.setIfInBounds_toArray, List.set_cons_zero, List.set_cons_succ])
      refine take_first (v := ?_) 9 rfl (by kernel_rfl) (by kernel_rfl) (by kernel_rfl) (fun _ _ _ h => h) (Or.inl ⟨by rfl, ?_⟩) (by assumption) ?_
      rotate_left
      · (intro w hSw; (try dsimp only at hSw); have hs := HSL.out w; go_simp; try with_reducible rfl)
      (try simp only [Act.put, List.setIfInBounds_toArray, List.set_cons_zero, List.set_cons_succ])
      refine take_first (v := ?_) 10 rfl (by kernel_rfl) (by kernel_rfl) (by kernel_rfl) (fun _ _ _ h => h) (Or.inl ⟨by rfl, ?_⟩) (by assumption) ?_
      rotate_left
      · (intro w hSw; (try dsimp only at hSw); have cv : (convert 24 9 (.slice (some ⟨gb, go + m, none⟩) 16 (c - m))).run Tryd.prog w = .ok (.string ⟨((l.drop m).take 16).toArray⟩) w := run_string_of_rd (P := Tryd.prog) 24 9 5 (c - m) Tryd.underlying24 Tryd.underlying5 Tryd.underlying9 (Mem.arg hSw HRD.out); go_simp; try with_reducible rfl)
      (try simp only [Act.put, List.setIfInBounds_toArray, List.set_cons_zero, List.set_cons_succ])
      refine take_first (v := ?_) 11 rfl (by kernel_rfl) (by kernel_rfl) (by kernel_rfl) (fun _ _ _ h => h) (Or.inl ⟨by rfl, ?_⟩) (by assumption) ?_
      rotate_left
      · (intro w hSw; (try dsimp only at hSw); go_simp; try with_reducible rfl)
      (try simp only [Act.put, List.setIfInBounds_toArray, List.set_cons_zero, List.set_cons_succ])
      refine take_first (v := ?_) 12 rfl (by kernel_rfl) (by kernel_rfl) (by kernel_rfl) (fun _ _ _ h => h) (Or.inl ⟨by rfl, ?_⟩) (by assumption) ?_
      rotate_left
      · (intro w hSw; (try dsimp only at hSw); go_simp; try with_reducible rfl)
      (try simp only [Act.put, List.setIfInBounds_toArray, List.set_cons_zero, List.set_cons_succ])
      refine wpAnyH_done (by kernel_rfl) ?_ _
      clear hHeld
      go_wp2
      go_ret
      exact ⟨by rw [HV.out]; rfl, HM.out.bel⟩
end Go.Proofs.YtlddafkikkaonaaDoor
namespace Go.Proofs.YtlddafkikkaonaaDoor
open Go.RowKit

set_option maxRecDepth 100000 in
theorem caseCut_any (A : Option Addr) (n c m k : Nat) (hm : m ≤ 1000000) (hnc : n ≤ c) (hcm : c ≤ maxLen) (hk : min n m = k) (w : World) :
    Calls Tryd.prog 11 #[.slice A n c, .int .i64 (m : Int)] w fun e w' => e = .returned (.slice A k c) ∧ Below w.heap.size w w' := by
  have hc63 : (c : Int) ≤ 9223372036854775807 := by unfold maxLen at hcm; omega
  by_cases h : n ≤ m
  · obtain rfl : k = n := by omega
    have h1 : ¬ (m : Int) < (k : Int) := by omega
    have h2 : (k : Int) ≤ (m : Int) := by omega
    have h3 : (k : Int) ≤ (c : Int) := by omega
    have h4 : (if (m : Int) < (k : Int) then (m : Int) else (k : Int)) = (k : Int) := if_neg h1
    clear hk
    go_enter Tryd.func11, Tryd.ntmps11
    go_wp2
    go_ret
    exact ⟨rfl, Below.refl _ _⟩
  · obtain rfl : k = m := by omega
    have h1 : (k : Int) < (n : Int) := by omega
    have h2 : ¬ (n : Int) ≤ (k : Int) := by omega
    have h3 : (k : Int) ≤ (c : Int) := by omega
    have h4 : (if (k : Int) < (n : Int) then (k : Int) else (n : Int)) = (k : Int) := if_pos h1
    clear hk
    go_enter Tryd.func11, Tryd.ntmps11
    go_wp2
    go_ret
    exact ⟨rfl, Below.refl _ _⟩
end Go.Proofs.YtlddafkikkaonaaDoor
namespace Go.Proofs.YtlddafkikkaonaaDoor
open Go.RowKit

theorem xor_bits (a b : UInt8) : bits BinOp.xor IntKind.u8 (a.toNat : Int) (b.toNat : Int) = ((a ^^^ b).toNat : Int) := by
  rw [UInt8.toNat_xor, u8_xor_nat _ _ a.toNat_lt b.toNat_lt]
end Go.Proofs.YtlddafkikkaonaaDoor
namespace Go.Proofs.YtlddafkikkaonaaDoor
open Go.RowKit

theorem key_parts : ∃ i, Tryd.prog.info? 23 = some i ∧ i.size = 32 ∧ ∃ z, i.zero = some z := by
  have h : (Tryd.prog.info? 23).map (fun i => (i.size, i.zero.isSome)) = some (32, true) := by kernel_rfl
  cases hi : Tryd.prog.info? 23 with
  | none => rw [hi] at h; cases h
  | some i =>
    rw [hi] at h
    simp only [Option.map_some, Option.some.injEq, Prod.mk.injEq] at h
    exact ⟨i, rfl, h.1, Option.isSome_iff_exists.1 h.2⟩
end Go.Proofs.YtlddafkikkaonaaDoor
