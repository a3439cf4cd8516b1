/-
  The contracts of the reference's SealInitiation and SealResponse. The address of an endpoint as bytes. A message whose fields are copied in one by one. The contracts of the reference's CheckMac1 and CheckMac2. The contract of the reference's Big. The contract of the reference's Cookie. MacsSeals returns true for every input, and changes nothing that was there: the walk. Codes are laid into the cells of a message. What is asked of an encoder whose bytes lie in memory of its own. A message with other codes, and what is asked of the function that encodes it. The bytes of a text, laid in memory of the call. The contract of math/bits.RotateLeft32 at the four distances of ChaCha20. No statement is proved here.
-/
import Derived.RegionTactic
import Derived.Lib.ConvBytes
import Derived.Laws.ShiftsVarLaws
import Derived.Laws.Bits64
import Derived.Test.YtlddafkikkaonaaDoorMacsSealsB6
namespace Go.Proofs.YtlddafkikkaonaaDoor
open Go.RowKit

set_option maxRecDepth 100000 in
set_option maxHeartbeats 8000000 in
theorem refSealI : McSealC 8 1 := by
  intro p ck hp hck has m hok w _hlv
  have HP := Lib.hid hp
  have HK := Lib.hid hck
  have HEN := Lib.hid (refEnc1 m hok)
  have hml := MsgM.cells_length hok
  have HUM := Lib.hid (show (Tryd.prog.info? 35).map (·.size) = some m.cells.length from by rw [hml]; kernel_rfl)
  have HFS := Lib.hid (sealed_fst (k := 1) (by omega) p has ck hok)
  have HSN := Lib.hid (sealed_snd (k := 1) p has ck hok)
  obtain ⟨cp, hcp⟩ : ∃ z, (p.map u8v).toArray = z := ⟨_, rfl⟩
  obtain ⟨cc, hcc⟩ : ∃ z, (ck.map u8v).toArray = z := ⟨_, rfl⟩
  obtain ⟨cm, hcm⟩ : ∃ z, m.cells.toArray = z := ⟨_, rfl⟩
  rw [hcm] at HEN
  rw [hcp, hcc, hcm]
  have HM := Lib.hid (show Mem w [blkE (w.heap.size + 1 + 1 + 1) 30 ((List.replicate 16 (0 : UInt8)).map u8v), blkE (w.heap.size + 1 + 1) 35 m.cells, blkE (w.heap.size + 1) 30 (ck.map u8v), blkE w.heap.size 23 (p.map u8v)] ((((w.alloc (.cells cp 23)).alloc (.cells cc 30)).alloc (.cells cm 35)).alloc (.cells #[.int .u8 0, .int .u8 0, .int .u8 0, .int .u8 0, .int .u8 0, .int .u8 0, .int .u8 0, .int .u8 0, .int .u8 0, .int .u8 0, .int .u8 0, .int .u8 0, .int .u8 0, .int .u8 0, .int .u8 0, .int .u8 0] 30)) from ((((Mem.nil w).alloc rfl 23 cp (p.map u8v) hcp.symm).alloc (by simp) 30 cc (ck.map u8v) hcc.symm).alloc (by simp) 35 cm m.cells hcm.symm).alloc (by simp) 30 #[.int .u8 0, .int .u8 0, .int .u8 0, .int .u8 0, .int .u8 0, .int .u8 0, .int .u8 0, .int .u8 0, .int .u8 0, .int .u8 0, .int .u8 0, .int .u8 0, .int .u8 0, .int .u8 0, .int .u8 0, .int .u8 0] ((List.replicate 16 (0 : UInt8)).map u8v) rfl)
  obtain ⟨mt, hmt⟩ : ∃ z, macM p 1 m = z := ⟨_, rfl⟩
  have HML := Lib.hid (show mt.length = 16 from by rw [← hmt]; exact macM_length _ _ _)
  obtain ⟨cmt, hct⟩ : ∃ z, (mt.map u8v).toArray = z := ⟨_, rfl⟩
  have HMT := Lib.hid (show macM p 1 m = mt from hmt)
  have HCT := Lib.hid hct
  have HCM := Lib.hid hcm
  have HCP := Lib.hid hcp
  have HCC := Lib.hid hcc
  clear hcp hcc hcm hmt hct hp hck hok hml
  go_enter Tryd.func8, Tryd.ntmps8
  go_upto_region 1 with fail
  generalize ((((w.alloc (.cells cp 23)).alloc (.cells cc 30)).alloc (.cells cm 35)).alloc (.cells #[.int .u8 0, .int .u8 0, .int .u8 0, .int .u8 0, .int .u8 0, .int .u8 0, .int .u8 0, .int .u8 0, .int .u8 0, .int .u8 0, .int .u8 0, .int .u8 0, .int .u8 0, .int .u8 0, .int .u8 0, .int .u8 0] 30)) = w1 at HM ⊢
  refine wp_region_held_drew (S := fun W' => Mem w [blkE (w.heap.size + 1 + 1) 35 m.cells, blkE (w.heap.size + 1) 30 (ck.map u8v), blkE w.heap.size 23 (p.map u8v)] W') (by kernel_rfl) (((HM.out.erase 0)).drew) (fun hHeld => ?_)
  replace HM := Lib.hid HM.out.drew
  generalize w1.drew = wd1 at HM hHeld ⊢
  refine take_first (v := .agg cp) 0 rfl (by kernel_rfl) (by kernel_rfl) (by kernel_rfl) (fun _ _ _ h => h) (by rw [← HCP.out]; exact yields_load_obj (by rfl) 23 (.tmp 4) rfl w.heap.size 0 rfl (p.map u8v) (fun w' hb => (Mem.blk hb 2 rfl).all) _ Tryd.underlying23 rfl (cells32 p HP.out)) (by assumption) ?_
  (try simp only [Act.put, List.setIfInBounds_toArray, List.set_cons_zero, List.set_cons_succ])
  refine take_first (v := ?_) 1 rfl (by kernel_rfl) (by kernel_rfl) (by kernel_rfl) (fun _ _ _ h => h) (Or.inl ⟨by rfl, ?_⟩) (by assumption) ?_
  rotate_left
  · (intro w hSw; (try dsimp only at hSw); go_simp; try with_reducible rfl)
  (try simp only [Act.put, List.setIfInBounds_toArray, List.set_cons_zero, List.set_cons_succ])
  refine take_first (v := .agg cc) 2 rfl (by kernel_rfl) (by kernel_rfl) (by kernel_rfl) (fun _ _ _ h => h) (by rw [← HCC.out]; exact yields_load_obj (by rfl) 30 (.tmp 6) rfl (w.heap.size + 1) 0 rfl (ck.map u8v) (fun w' hb => (Mem.blk hb 1 rfl).all) _ Tryd.underlying30 rfl (ae_cellsT ck HK.out)) (by assumption) ?_
  (try simp only [Act.put, List.setIfInBounds_toArray, List.set_cons_zero, List.set_cons_succ])
  refine take_first (v := .agg cm) 3 rfl (by kernel_rfl) (by kernel_rfl) (by kernel_rfl) (fun _ _ _ h => h) (by rw [← HCM.out]; exact yields_load_obj (by rfl) 35 (.tmp 7) rfl (w.heap.size + 1 + 1) 0 rfl m.cells (fun w' hb => (Mem.blk hb 0 rfl).all) _ Tryd.underlying35 rfl HUM.out) (by assumption) ?_
  (try simp only [Act.put, List.setIfInBounds_toArray, List.set_cons_zero, List.set_cons_succ])
  refine step_one 4 rfl (by kernel_rfl) (fun K hK => ?_)
  clear hHeld
  go_simp
  refine (HEN.out _).mono ?_
  rintro e wy2 ⟨A5, c5, rfl, h1, h2, hr5, hb⟩
  replace HM := Lib.hid (show Mem w [blkE (w.heap.size + 1 + 1 + 1) 30 ((List.replicate 16 (0 : UInt8)).map u8v), blkE (w.heap.size + 1 + 1) 35 m.cells, blkE (w.heap.size + 1) 30 (ck.map u8v), blkE w.heap.size 23 (p.map u8v)] wy2 from HM.out.below hb)
  have HE5 := Lib.hid (And.intro h1 (And.intro h2 hr5))
  clear hb h1 h2 hr5
  go_wp2_with fail
  refine hK.out _ _ ((HM.out.erase 0)) (fun hHeld => ?_)
  clear hK K
  (try simp only [Act.put, List.setIfInBounds_toArray, List.set_cons_zero, List.set_cons_succ])
  refine step_one 5 rfl (by kernel_rfl) (fun K hK => ?_)
  clear hHeld
  go_simp
  have HC := refSealed_any p ck HP.out HK.out has A5 148 c5 (encB 1 m) (by omega) HE5.out.1 HE5.out.2.1 (by omega) _ HE5.out.2.2
  rw [HCP.out, HCC.out, HFS.out, HSN.out, HMT.out, HCT.out] at HC
  refine HC.mono ?_
  rintro e wy3 ⟨A6, c6, rfl, ho, hb⟩
  have HO := Lib.hid (own_base ho (show (w.heap.size + 1 + 1 + 1) + 1 ≤ _ from (HM.out.blk 0 rfl).lt))
  replace HM := Lib.hid (show Mem w [blkE (w.heap.size + 1 + 1 + 1) 30 ((List.replicate 16 (0 : UInt8)).map u8v), blkE (w.heap.size + 1 + 1) 35 m.cells, blkE (w.heap.size + 1) 30 (ck.map u8v), blkE w.heap.size 23 (p.map u8v)] wy3 from HM.out.below hb)
  clear hb ho HC HE5
  go_wp2_with fail
  refine hK.out _ _ ((HM.out.erase 0)) (fun hHeld => ?_)
  clear hK K
  (try simp only [Act.put, List.setIfInBounds_toArray, List.set_cons_zero, List.set_cons_succ])
  refine take_first (v := ?_) 6 rfl (by kernel_rfl) (by kernel_rfl) (by kernel_rfl) (fun _ _ _ h => h) (Or.inl ⟨by rfl, ?_⟩) (by assumption) ?_
  rotate_left
  · (intro w hSw; (try dsimp only at hSw); go_simp; try with_reducible rfl)
  (try simp only [Act.put, List.setIfInBounds_toArray, List.set_cons_zero, List.set_cons_succ])
  refine take_first (v := ?_) 7 rfl (by kernel_rfl) (by kernel_rfl) (by kernel_rfl) (fun _ _ _ h => h) (Or.inl ⟨by rfl, ?_⟩) (by assumption) ?_
  rotate_left
  · (intro w hSw; (try dsimp only at hSw); go_simp; try with_reducible rfl)
  (try simp only [Act.put, List.setIfInBounds_toArray, List.set_cons_zero, List.set_cons_succ])
  refine take_first (v := ?_) 8 rfl (by kernel_rfl) (by kernel_rfl) (by kernel_rfl) (fun _ _ _ h => h) (Or.inl ⟨by rfl, ?_⟩) (by assumption) ?_
  rotate_left
  · (intro w hSw; (try dsimp only at hSw); go_simp; try with_reducible rfl)
  (try simp only [Act.put, List.setIfInBounds_toArray, List.set_cons_zero, List.set_cons_succ])
  refine step_one 9 rfl (by kernel_rfl) (fun K hK => ?_)
  clear hHeld
  refine step_store_blk _ rfl 30 (.tmp 9) (.tmp 17) rfl (w.heap.size + 1 + 1 + 1) (mt.map u8v) rfl (by show Value.agg cmt = _; rw [HCT.out]) 30 ((List.replicate 16 (0 : UInt8)).map u8v) (HM.out.blk 0 rfl) (ae_cellsT mt HML.out) (by rw [List.length_map, List.length_map, HML.out]; rfl) (u8v_one _) ?_
  intro wy4 hb hg
  replace HO := Lib.hid (own_other HO.out hg (Nat.lt_succ_self _))
  replace HM := Lib.hid (show Mem w [blkE (w.heap.size + 1 + 1 + 1) 30 (mt.map u8v), blkE (w.heap.size + 1 + 1) 35 m.cells, blkE (w.heap.size + 1) 30 (ck.map u8v), blkE w.heap.size 23 (p.map u8v)] wy4 from HM.out.put 0 rfl _ hg hb)
  clear hb hg
  refine hK.out _ _ ((HM.out.erase 0)) (fun hHeld => ?_)
  clear hK K
  (try simp only [Act.put])
  refine wpAnyH_done (by kernel_rfl) ?_ _
  clear hHeld
  have HF := Lib.hid HM.out
  clear HM
  go_wp2_with fail
  obtain ⟨q1, q2, _⟩ := own_addr HO.out
  exact bodyPost_ret (results_tmp_obj rfl _ _ (w.heap.size + 1 + 1 + 1) 30 (mt.map u8v) _ rfl (HF.out.blk 0 rfl) Tryd.underlying30 rfl (ae_cellsT mt HML.out)) rfl ⟨A6, c6, by rw [HMT.out]; rfl, q1, q2, (RdIn.of_own HO.out).from_ (by omega), HF.out.bel⟩
set_option maxRecDepth 100000 in
set_option maxHeartbeats 8000000 in
theorem refSealR : McSealC 10 2 := by
  intro p ck hp hck has m hok w _hlv
  have HP := Lib.hid hp
  have HK := Lib.hid hck
  have HEN := Lib.hid (refEnc2 m hok)
  have hml := MsgM.cells_length hok
  have HUM := Lib.hid (show (Tryd.prog.info? 37).map (·.size) = some m.cells.length from by rw [hml]; kernel_rfl)
  have HFS := Lib.hid (sealed_fst (k := 2) (by omega) p has ck hok)
  have HSN := Lib.hid (sealed_snd (k := 2) p has ck hok)
  obtain ⟨cp, hcp⟩ : ∃ z, (p.map u8v).toArray = z := ⟨_, rfl⟩
  obtain ⟨cc, hcc⟩ : ∃ z, (ck.map u8v).toArray = z := ⟨_, rfl⟩
  obtain ⟨cm, hcm⟩ : ∃ z, m.cells.toArray = z := ⟨_, rfl⟩
  rw [hcm] at HEN
  rw [hcp, hcc, hcm]
  have HM := Lib.hid (show Mem w [blkE (w.heap.size + 1 + 1 + 1) 30 ((List.replicate 16 (0 : UInt8)).map u8v), blkE (w.heap.size + 1 + 1) 37 m.cells, blkE (w.heap.size + 1) 30 (ck.map u8v), blkE w.heap.size 23 (p.map u8v)] ((((w.alloc (.cells cp 23)).alloc (.cells cc 30)).alloc (.cells cm 37)).alloc (.cells #[.int .u8 0, .int .u8 0, .int .u8 0, .int .u8 0, .int .u8 0, .int .u8 0, .int .u8 0, .int .u8 0, .int .u8 0, .int .u8 0, .int .u8 0, .int .u8 0, .int .u8 0, .int .u8 0, .int .u8 0, .int .u8 0] 30)) from ((((Mem.nil w).alloc rfl 23 cp (p.map u8v) hcp.symm).alloc (by simp) 30 cc (ck.map u8v) hcc.symm).alloc (by simp) 37 cm m.cells hcm.symm).alloc (by simp) 30 #[.int .u8 0, .int .u8 0, .int .u8 0, .int .u8 0, .int .u8 0, .int .u8 0, .int .u8 0, .int .u8 0, .int .u8 0, .int .u8 0, .int .u8 0, .int .u8 0, .int .u8 0, .int .u8 0, .int .u8 0, .int .u8 0] ((List.replicate 16 (0 : UInt8)).map u8v) rfl)
  obtain ⟨mt, hmt⟩ : ∃ z, macM p 2 m = z := ⟨_, rfl⟩
  have HML := Lib.hid (show mt.length = 16 from by rw [← hmt]; exact macM_length _ _ _)
  obtain ⟨cmt, hct⟩ : ∃ z, (mt.map u8v).toArray = z := ⟨_, rfl⟩
  have HMT := Lib.hid (show macM p 2 m = mt from hmt)
  have HCT := Lib.hid hct
  have HCM := Lib.hid hcm
  have HCP := Lib.hid hcp
  have HCC := Lib.hid hcc
  clear hcp hcc hcm hmt hct hp hck hok hml
  go_enter Tryd.func10, Tryd.ntmps10
  go_upto_region 1 with fail
  generalize ((((w.alloc (.cells cp 23)).alloc (.cells cc 30)).alloc (.cells cm 37)).alloc (.cells #[.int .u8 0, .int .u8 0, .int .u8 0, .int .u8 0, .int .u8 0, .int .u8 0, .int .u8 0, .int .u8 0, .int .u8 0, .int .u8 0, .int .u8 0, .int .u8 0, .int .u8 0, .int .u8 0, .int .u8 0, .int .u8 0] 30)) = w1 at HM ⊢
  refine wp_region_held_drew (S := fun W' => Mem w [blkE (w.heap.size + 1 + 1) 37 m.cells, blkE (w.heap.size + 1) 30 (ck.map u8v), blkE w.heap.size 23 (p.map u8v)] W') (by kernel_rfl) (((HM.out.erase 0)).drew) (fun hHeld => ?_)
  replace HM := Lib.hid HM.out.drew
  generalize w1.drew = wd1 at HM hHeld ⊢
  refine take_first (v := .agg cp) 0 rfl (by kernel_rfl) (by kernel_rfl) (by kernel_rfl) (fun _ _ _ h => h) (by rw [← HCP.out]; exact yields_load_obj (by rfl) 23 (.tmp 4) rfl w.heap.size 0 rfl (p.map u8v) (fun w' hb => (Mem.blk hb 2 rfl).all) _ Tryd.underlying23 rfl (cells32 p HP.out)) (by assumption) ?_
  (try simp only [Act.put, List.setIfInBounds_toArray, List.set_cons_zero, List.set_cons_succ])
  refine take_first (v := ?_) 1 rfl (by kernel_rfl) (by kernel_rfl) (by kernel_rfl) (fun _ _ _ h => h) (Or.inl ⟨by rfl, ?_⟩) (by assumption) ?_
  rotate_left
  · (intro w hSw; (try dsimp only at hSw); go_simp; try with_reducible rfl)
  (try simp only [Act.put, List.setIfInBounds_toArray, List.set_cons_zero, List.set_cons_succ])
  refine take_first (v := .agg cc) 2 rfl (by kernel_rfl) (by kernel_rfl) (by kernel_rfl) (fun _ _ _ h => h) (by rw [← HCC.out]; exact yields_load_obj (by rfl) 30 (.tmp 6) rfl (w.heap.size + 1) 0 rfl (ck.map u8v) (fun w' hb => (Mem.blk hb 1 rfl).all) _ Tryd.underlying30 rfl (ae_cellsT ck HK.out)) (by assumption) ?_
  (try simp only [Act.put, List.setIfInBounds_toArray, List.set_cons_zero, List.set_cons_succ])
  refine take_first (v := .agg cm) 3 rfl (by kernel_rfl) (by kernel_rfl) (by kernel_rfl) (fun _ _ _ h => h) (by rw [← HCM.out]; exact yields_load_obj (by rfl) 37 (.tmp 7) rfl (w.heap.size + 1 + 1) 0 rfl m.cells (fun w' hb => (Mem.blk hb 0 rfl).all) _ Tryd.underlying37 rfl HUM.out) (by assumption) ?_
  (try simp only [Act.put, List.setIfInBounds_toArray, List.set_cons_zero, List.set_cons_succ])
  refine step_one 4 rfl (by kernel_rfl) (fun K hK => ?_)
  clear hHeld
  go_simp
  refine (HEN.out _).mono ?_
  rintro e wy2 ⟨A5, c5, rfl, h1, h2, hr5, hb⟩
  replace HM := Lib.hid (show Mem w [blkE (w.heap.size + 1 + 1 + 1) 30 ((List.replicate 16 (0 : UInt8)).map u8v), blkE (w.heap.size + 1 + 1) 37 m.cells, blkE (w.heap.size + 1) 30 (ck.map u8v), blkE w.heap.size 23 (p.map u8v)] wy2 from HM.out.below hb)
  have HE5 := Lib.hid (And.intro h1 (And.intro h2 hr5))
  clear hb h1 h2 hr5
  go_wp2_with fail
  refine hK.out _ _ ((HM.out.erase 0)) (fun hHeld => ?_)
  clear hK K
  (try simp only [Act.put, List.setIfInBounds_toArray, List.set_cons_zero, List.set_cons_succ])
  refine step_one 5 rfl (by kernel_rfl) (fun K hK => ?_)
  clear hHeld
  go_simp
  have HC := refSealed_any p ck HP.out HK.out has A5 92 c5 (encB 2 m) (by omega) HE5.out.1 HE5.out.2.1 (by omega) _ HE5.out.2.2
  rw [HCP.out, HCC.out, HFS.out, HSN.out, HMT.out, HCT.out] at HC
  refine HC.mono ?_
  rintro e wy3 ⟨A6, c6, rfl, ho, hb⟩
  have HO := Lib.hid (own_base ho (show (w.heap.size + 1 + 1 + 1) + 1 ≤ _ from (HM.out.blk 0 rfl).lt))
  replace HM := Lib.hid (show Mem w [blkE (w.heap.size + 1 + 1 + 1) 30 ((List.replicate 16 (0 : UInt8)).map u8v), blkE (w.heap.size + 1 + 1) 37 m.cells, blkE (w.heap.size + 1) 30 (ck.map u8v), blkE w.heap.size 23 (p.map u8v)] wy3 from HM.out.below hb)
  clear hb ho HC HE5
  go_wp2_with fail
  refine hK.out _ _ ((HM.out.erase 0)) (fun hHeld => ?_)
  clear hK K
  (try simp only [Act.put, List.setIfInBounds_toArray, List.set_cons_zero, List.set_cons_succ])
  refine take_first (v := ?_) 6 rfl (by kernel_rfl) (by kernel_rfl) (by kernel_rfl) (fun _ _ _ h => h) (Or.inl ⟨by rfl, ?_⟩) (by assumption) ?_
  rotate_left
  · (intro w hSw; (try dsimp only at hSw); go_simp; try with_reducible rfl)
  (try simp only [Act.put, List.setIfInBounds_toArray, List.set_cons_zero, List.set_cons_succ])
  refine take_first (v := ?_) 7 rfl (by kernel_rfl) (by kernel_rfl) (by kernel_rfl) (fun _ _ _ h => h) (Or.inl ⟨by rfl, ?_⟩) (by assumption) ?_
  rotate_left
  · (intro w hSw; (try dsimp only at hSw); go_simp; try with_reducible rfl)
  (try simp only [Act.put, List.setIfInBounds_toArray, List.set_cons_zero, List.set_cons_succ])
  refine take_first (v := ?_) 8 rfl (by kernel_rfl) (by kernel_rfl) (by kernel_rfl) (fun _ _ _ h => h) (Or.inl ⟨by rfl, ?_⟩) (by assumption) ?_
  rotate_left
  · (intro w hSw; (try dsimp only at hSw); go_simp; try with_reducible rfl)
  (try simp only [Act.put, List.setIfInBounds_toArray, List.set_cons_zero, List.set_cons_succ])
  refine step_one 9 rfl (by kernel_rfl) (fun K hK => ?_)
  clear hHeld
  refine step_store_blk _ rfl 30 (.tmp 9) (.tmp 17) rfl (w.heap.size + 1 + 1 + 1) (mt.map u8v) rfl (by show Value.agg cmt = _; rw [HCT.out]) 30 ((List.replicate 16 (0 : UInt8)).map u8v) (HM.out.blk 0 rfl) (ae_cellsT mt HML.out) (by rw [List.length_map, List.length_map, HML.out]; rfl) (u8v_one _) ?_
  intro wy4 hb hg
  replace HO := Lib.hid (own_other HO.out hg (Nat.lt_succ_self _))
  replace HM := Lib.hid (show Mem w [blkE (w.heap.size + 1 + 1 + 1) 30 (mt.map u8v), blkE (w.heap.size + 1 + 1) 37 m.cells, blkE (w.heap.size + 1) 30 (ck.map u8v), blkE w.heap.size 23 (p.map u8v)] wy4 from HM.out.put 0 rfl _ hg hb)
  clear hb hg
  refine hK.out _ _ ((HM.out.erase 0)) (fun hHeld => ?_)
  clear hK K
  (try simp only [Act.put])
  refine wpAnyH_done (by kernel_rfl) ?_ _
  clear hHeld
  have HF := Lib.hid HM.out
  clear HM
  go_wp2_with fail
  obtain ⟨q1, q2, _⟩ := own_addr HO.out
  exact bodyPost_ret (results_tmp_obj rfl _ _ (w.heap.size + 1 + 1 + 1) 30 (mt.map u8v) _ rfl (HF.out.blk 0 rfl) Tryd.underlying30 rfl (ae_cellsT mt HML.out)) rfl ⟨A6, c6, by rw [HMT.out]; rfl, q1, q2, (RdIn.of_own HO.out).from_ (by omega), HF.out.bel⟩
end Go.Proofs.YtlddafkikkaonaaDoor
namespace Go.Proofs.YtlddafkikkaonaaDoor
open Go.RowKit

theorem end_rd {w : World} {g : Nat} {t : TypeId} {a : AddrM} {port : Int} (h : Blk w g t (endC a port)) (ho : a.ok) : Rd w (g + 1) (some ⟨g, 1, none⟩) 16 a.ip :=
  ⟨ho, fun _ => ⟨g, 1, rfl, Nat.lt_succ_self _, fun j hj => by
    rw [h.cell (1 + j), endC_ip ho port j (by rw [ho] at hj; exact hj), List.getD_eq_getElem?_getD, List.getElem?_eq_getElem hj]
    rfl⟩⟩
end Go.Proofs.YtlddafkikkaonaaDoor
namespace Go.Proofs.YtlddafkikkaonaaDoor
open Go.RowKit

end Go.Proofs.YtlddafkikkaonaaDoor
namespace Go.Proofs.YtlddafkikkaonaaDoor
open Go.RowKit

end Go.Proofs.YtlddafkikkaonaaDoor
namespace Go.Proofs.YtlddafkikkaonaaDoor
open Go.RowKit

set_option maxRecDepth 100000 in
/-- what burrowref01.Big gives of a list: the reversed list; the round prepends -/
theorem refBig_any (n : Nat) (hn : n < 18446744073709551616) (k : Nat) (h1 : 1 ≤ k) (h8 : k ≤ 8) (w : World) :
    Calls Tryd.prog 41 #[.int .u64 n, .int .i64 k] w fun e w' => ∃ A c, e = .returned (.slice A k c) ∧ w'.ownsRow w.heap.size 5 1 (.slice A k c) k ((littleL n k).reverse.map u8v) ∧ Below w.heap.size w w' := by
  obtain ⟨i0, hi, hz0, hz1, hz2⟩ := info_parts Tryd.info5
  have LL := Lib.hid (refLittle_any n hn k h1 h8)
  clear hn
  go_enter Tryd.func41, Tryd.ntmps41
  go_wp2_with fail
  refine (LL.out _).mono ?_
  rintro e w1 ⟨A, c, rfl, hown1, hb1⟩
  clear LL
  have R1 := Lib.hid (Rd.of_own hown1)
  clear hown1
  go_wp2_with fail
  go_loopw [5, 12] (fun v i wr => ∃ j : Nat, j ≤ k ∧ i = .int .i64 j ∧ wr.ownsRow w1.heap.size 5 1 v j (((littleL n k).take j).reverse.map u8v) ∧ Below w1.heap.size w1 wr) (fun _ i _ => k - (intOf i).toNat)
  case atStart => exact ⟨0, by omega, rfl, World.ownsRow_nil _ _ _ _, Below.refl _ _⟩
  case round =>
    obtain ⟨j, hj, rfl, hown, hb⟩ := hrel
    by_cases hlt : j < k
    · obtain ⟨b, off, rfl, hbB, hc⟩ := R1.out.at_ (by omega)
      have hlj : j < (littleL n k).length := by rw [littleL_length]; exact hlt
      have hc1 := (hb.cell (p := ⟨b, off + j, none⟩) hbB).trans (hc j hlj)
      clear hc
      rw [littleL_get] at hc1
      obtain ⟨A', c', rfl, _⟩ := own_slice hown
      have hsz := hb.size
      have rd := Rd.of_own hown
      have hR := Lib.hid (rd.alloc (Nat.le_refl _) (.cells #[.int .u8 (byteOf n j).toNat] 5))
      clear rd
      go_wp2_with (at_builtin; refine wpList_append_rd _ rfl (.tmp 17) (.tmp 18) 24 rfl w1.heap.size 5 i0 (.int .u8 0) Tryd.underlying24 hi hz0 hz1 hz2 rfl (.slice (some ⟨wr.heap.size, 0, none⟩) 1 1) 1 [.int .u8 (byteOf n j).toNat] rfl (World.ownsRow_lit wr #[.int .u8 (byteOf n j).toNat] 1 (by omega) (by unfold maxLen; omega) rfl) _ A' j c' _ rfl hR.out (by omega) (by simp; omega) ?_; intro v' w' hown' hg')
      have HO := Lib.hid hown'
      clear hown'
      go_wp2
      go_roundw
      case rel =>
        refine ⟨j + 1, by omega, by go_num, ?_, (hb.alloc (by omega) _).grown hg' (by simp; omega) (by intro q hq; simp [Value.ownBlock] at hq; omega)⟩
        have h := HO.out
        rw [List.take_succ_eq_append_getElem hlj, List.reverse_append, littleL_get, Nat.add_comm]
        exact h
      case measure => simp [intOf]; omega
    · obtain rfl : j = k := by omega
      obtain ⟨A', c', rfl, _⟩ := own_slice hown
      rw [List.take_of_length_le (by rw [littleL_length]; exact Nat.le_refl _)] at hown
      have HO := Lib.hid (own_base hown hb1.size)
      clear hown
      have HB := Lib.hid (hb1.trans (hb.mono hb1.size))
      go_wp2
      go_ret
      exact ⟨A', c', rfl, HO.out, HB.out⟩
end Go.Proofs.YtlddafkikkaonaaDoor
namespace Go.Proofs.YtlddafkikkaonaaDoor
open Go.RowKit

set_option maxRecDepth 100000 in
set_option maxHeartbeats 8000000 in
theorem refCookie_any (s : List UInt8) (hs : s.length = 32) (a : AddrM) (ha : a.ok) (port : Int) (q : Nat) (hq : IntKind.u64.wrap port = (q : Int)) (hq6 : q < 18446744073709551616) (w : World) :
    Calls Tryd.prog 15 #[.agg (s.map u8v).toArray, .agg (endC a port).toArray] w fun e w' => e = .returned (.agg ((cookieB s a q).map u8v).toArray) ∧ Below w.heap.size w w' := by
  have HS := Lib.hid hs
  have HA := Lib.hid ha
  have HBG := Lib.hid (show ∀ W, Calls Tryd.prog 41 #[.int .u64 (q : Int), .int .i64 2] W (fun e w' => ∃ gb cb, e = .returned (.slice (some ⟨gb, 0, none⟩) 2 cb) ∧ w'.ownsRow W.heap.size 5 1 (.slice (some ⟨gb, 0, none⟩) 2 cb) 2 ((bigL q 2).map u8v) ∧ Below W.heap.size W w') from fun W => (refBig_any q hq6 2 (by omega) (by omega) W).mono (fun e w' h => by
    obtain ⟨A, c, rfl, ho, hb⟩ := h
    obtain ⟨-, -, hA⟩ := own_addr ho
    obtain ⟨g6, rfl⟩ := hA (by omega)
    exact ⟨g6, c, rfl, ho, hb⟩))
  have HV := Lib.hid (show cookieB s a q = codeB s (a.ip.take (if a.six then 16 else 4) ++ bigL q 2) from rfl)
  obtain ⟨cs, hcs⟩ : ∃ z, (s.map u8v).toArray = z := ⟨_, rfl⟩
  obtain ⟨ce, hce⟩ : ∃ z, (endC a port).toArray = z := ⟨_, rfl⟩
  rw [hcs, hce]
  have HM := Lib.hid (show Mem w [blkE (w.heap.size + 2) 30 ((List.replicate 16 (0 : UInt8)).map u8v), blkE (w.heap.size + 1) 29 (endC a port), blkE w.heap.size 23 (s.map u8v)] (((w.alloc (.cells cs 23)).alloc (.cells ce 29)).alloc (.cells #[.int .u8 0, .int .u8 0, .int .u8 0, .int .u8 0, .int .u8 0, .int .u8 0, .int .u8 0, .int .u8 0, .int .u8 0, .int .u8 0, .int .u8 0, .int .u8 0, .int .u8 0, .int .u8 0, .int .u8 0, .int .u8 0] 30)) from (((Mem.nil w).alloc rfl 23 cs (s.map u8v) hcs.symm).alloc (g := (w.heap.size + 1)) (by simp) 29 ce (endC a port) hce.symm).alloc (g := w.heap.size + 2) (by simp) 30 #[.int .u8 0, .int .u8 0, .int .u8 0, .int .u8 0, .int .u8 0, .int .u8 0, .int .u8 0, .int .u8 0, .int .u8 0, .int .u8 0, .int .u8 0, .int .u8 0, .int .u8 0, .int .u8 0, .int .u8 0, .int .u8 0] ((List.replicate 16 (0 : UInt8)).map u8v) rfl)
  clear hcs hce hs
  go_enter Tryd.func15, Tryd.ntmps15
  go_upto_region 1 with fail
  generalize (((w.alloc (.cells cs 23)).alloc (.cells ce 29)).alloc (.cells #[.int .u8 0, .int .u8 0, .int .u8 0, .int .u8 0, .int .u8 0, .int .u8 0, .int .u8 0, .int .u8 0, .int .u8 0, .int .u8 0, .int .u8 0, .int .u8 0, .int .u8 0, .int .u8 0, .int .u8 0, .int .u8 0] 30)) = w1 at HM ⊢
  have fsix : w1.cell? ⟨(w.heap.size + 1), 0, none⟩ = some (.bool a.six) := by have h := (HM.out.blk 1 rfl).cell 0; rwa [endC_six] at h
  cases h6 : a.six
  · rw [h6] at fsix
    have HSX := Lib.hid h6
    have HCC := Lib.hid (fun (g1 gb cb : Nat) (W : World) (hk : Rd W W.heap.size (some ⟨w.heap.size, 0, none⟩) 32 s) (hp : PartsRd W W.heap.size (some ⟨g1, 0, none⟩) [⟨(some ⟨(w.heap.size + 1), 1, none⟩), 4, 16, a.ip.take 4⟩, ⟨some ⟨gb, 0, none⟩, 2, cb, bigL q 2⟩]) => (show Calls Tryd.prog 38 #[.slice (some ⟨w.heap.size, 0, none⟩) 32 32, .slice (some ⟨g1, 0, none⟩) 2 2] W fun e w' => e = .returned (.agg ((codeB s (a.ip.take 4 ++ bigL q 2)).map u8v).toArray) ∧ Below W.heap.size W w' from by have h := refCode_any (some ⟨w.heap.size, 0, none⟩) 32 32 s 2 (some ⟨g1, 0, none⟩) [⟨(some ⟨(w.heap.size + 1), 1, none⟩), 4, 16, a.ip.take 4⟩, ⟨some ⟨gb, 0, none⟩, 2, cb, bigL q 2⟩] (by simp) (by show (flat _ 2).length ≤ _; rw [show flat [⟨(some ⟨(w.heap.size + 1), 1, none⟩), 4, 16, a.ip.take 4⟩, ⟨some ⟨gb, 0, none⟩, 2, cb, bigL q 2⟩] 2 = a.ip.take 4 ++ bigL q 2 from by simp [flat], List.length_append, List.length_take, bigL_length]; omega) W hk hp; rwa [show ([⟨(some ⟨(w.heap.size + 1), 1, none⟩), 4, 16, a.ip.take 4⟩, ⟨some ⟨gb, 0, none⟩, 2, cb, bigL q 2⟩] : List Part).length = 2 from rfl, show flat [⟨(some ⟨(w.heap.size + 1), 1, none⟩), 4, 16, a.ip.take 4⟩, ⟨some ⟨gb, 0, none⟩, 2, cb, bigL q 2⟩] 2 = a.ip.take 4 ++ bigL q 2 from by simp [flat]] at h))
    replace HV := Lib.hid (show cookieB s a q = codeB s (a.ip.take 4 ++ bigL q 2) from by rw [HV.out, HSX.out]; rfl)
    obtain ⟨mt, hmt⟩ : ∃ z, codeB s (a.ip.take 4 ++ bigL q 2) = z := ⟨_, rfl⟩
    have HML := Lib.hid (show mt.length = 16 from by rw [← hmt]; exact codeB_length _ _)
    rw [hmt] at HCC HV
    obtain ⟨cm, hcm⟩ : ∃ z, (mt.map u8v).toArray = z := ⟨_, rfl⟩
    rw [hcm] at HCC
    have HCM := Lib.hid hcm
    clear hmt hcm
    go_upto_region 4 with fail
    clear fsix
    refine wp_region_held_drew (S := fun W' => Mem w [blkE (w.heap.size + 1) 29 (endC a port), blkE w.heap.size 23 (s.map u8v)] W') (by kernel_rfl) (((HM.out.erase 0)).drew) (fun hHeld => ?_)
    replace HM := Lib.hid HM.out.drew
    generalize w1.drew = wd1 at HM hHeld ⊢
    refine take_first (v := ?_) 0 rfl (by kernel_rfl) (by kernel_rfl) (by kernel_rfl) (fun _ _ _ h => h) (Or.inl ⟨by rfl, ?_⟩) (by assumption) ?_
    rotate_left
    · (intro w hSw; (try dsimp only at hSw); go_simp; try with_reducible rfl)
    (try simp only [Act.put, List.setIfInBounds_toArray, List.set_cons_zero, List.set_cons_succ])
    refine take_first (v := ?_) 1 rfl (by kernel_rfl) (by kernel_rfl) (by kernel_rfl) (fun _ _ _ h => h) (Or.inl ⟨by rfl, ?_⟩) (by assumption) ?_
    rotate_left
    · (intro w hSw; (try dsimp only at hSw); go_simp; try with_reducible rfl)
    (try simp only [Act.put, List.setIfInBounds_toArray, List.set_cons_zero, List.set_cons_succ])
    refine take_first (v := ?_) 2 rfl (by kernel_rfl) (by kernel_rfl) (by kernel_rfl) (fun _ _ _ h => h) (Or.inl ⟨by rfl, ?_⟩) (by assumption) ?_
    rotate_left
    · (intro w hSw; (try dsimp only at hSw); go_simp; try with_reducible rfl)
    (try simp only [Act.put, List.setIfInBounds_toArray, List.set_cons_zero, List.set_cons_succ])
    refine take_first (v := ?_) 3 rfl (by kernel_rfl) (by kernel_rfl) (by kernel_rfl) (fun _ _ _ h => h) (Or.inl ⟨by rfl, ?_⟩) (by assumption) ?_
    rotate_left
    · (intro w hSw; (try dsimp only at hSw); go_simp; try with_reducible rfl)
    (try simp only [Act.put, List.setIfInBounds_toArray, List.set_cons_zero, List.set_cons_succ])
    refine take_first (v := ?_) 4 rfl (by kernel_rfl) (by kernel_rfl) (by kernel_rfl) (fun _ _ _ h => h) (Or.inl ⟨by rfl, ?_⟩) (by assumption) ?_
    rotate_left
    · (intro w hSw; (try dsimp only at hSw); go_simp; try with_reducible rfl)
    (try simp only [Act.put, List.setIfInBounds_toArray, List.set_cons_zero, List.set_cons_succ])
    refine take_first (v := ?_) 5 rfl (by kernel_rfl) (by kernel_rfl) (by kernel_rfl) (fun _ _ _ h => h) (Or.inl ⟨by rfl, ?_⟩) (by assumption) ?_
    rotate_left
    · (intro w hSw; (try dsimp only at hSw); go_simp; try with_reducible rfl)
    (try simp only [Act.put, List.setIfInBounds_toArray, List.set_cons_zero, List.set_cons_succ])
    refine take_first (v := ?_) 6 rfl (by kernel_rfl) (by kernel_rfl) (by kernel_rfl) (fun _ _ _ h => h) (Or.inl ⟨by rfl, ?_⟩) (by assumption) ?_
    rotate_left
    · (intro w hSw; (try dsimp only at hSw); have hc := (Mem.blk hSw 0 rfl).cell 17; rw [endC_port HA.out] at hc; go_simp; try with_reducible rfl)
    (try simp only [Act.put, List.setIfInBounds_toArray, List.set_cons_zero, List.set_cons_succ])
    refine take_first (v := ?_) 7 rfl (by kernel_rfl) (by kernel_rfl) (by kernel_rfl) (fun _ _ _ h => h) (Or.inl ⟨by rfl, ?_⟩) (by assumption) ?_
    rotate_left
    · (intro w hSw; (try dsimp only at hSw); go_simp; try with_reducible rfl)
    (try simp only [Act.put, List.setIfInBounds_toArray, List.set_cons_zero, List.set_cons_succ])
    refine step_one 8 rfl (by kernel_rfl) (fun K hK => ?_)
    clear hHeld
    go_simp
    refine (HBG.out _).mono ?_
    rintro e wy2 ⟨gb, cb, rfl, ho, hb⟩
    replace HM := Lib.hid (show Mem w [rdE wd1.heap.size wy2.heap.size (some ⟨gb, 0, none⟩) 2 (bigL q 2), blkE (w.heap.size + 2) 30 ((List.replicate 16 (0 : UInt8)).map u8v), blkE (w.heap.size + 1) 29 (endC a port), blkE w.heap.size 23 (s.map u8v)] wy2 from HM.out.callRd hb ho)
    clear ho
    obtain ⟨hi1, hhi⟩ : ∃ z, wy2.heap.size = z := ⟨_, rfl⟩
    rw [hhi] at HM
    clear hhi
    clear hb
    go_wp2_with fail
    refine hK.out _ _ (((HM.out.erase 0).erase 0)) (fun hHeld => ?_)
    clear hK K
    (try simp only [Act.put, List.setIfInBounds_toArray, List.set_cons_zero, List.set_cons_succ])
    refine step_one 9 rfl (by kernel_rfl) (fun K hK => ?_)
    clear hHeld
    go_simp
    replace HM := Lib.hid (show Mem w [blkE wy2.heap.size 24 ([.slice (some ⟨(w.heap.size + 1), 1, none⟩) 4 16, .slice (some ⟨gb, 0, none⟩) 2 cb]), rdE wd1.heap.size hi1 (some ⟨gb, 0, none⟩) 2 (bigL q 2), blkE (w.heap.size + 2) 30 ((List.replicate 16 (0 : UInt8)).map u8v), blkE (w.heap.size + 1) 29 (endC a port), blkE w.heap.size 23 (s.map u8v)] (wy2.alloc (.cells #[.slice (some ⟨(w.heap.size + 1), 1, none⟩) 4 16, .slice (some ⟨gb, 0, none⟩) 2 cb] 24)) from HM.out.alloc rfl 24 #[.slice (some ⟨(w.heap.size + 1), 1, none⟩) 4 16, .slice (some ⟨gb, 0, none⟩) 2 cb] ([.slice (some ⟨(w.heap.size + 1), 1, none⟩) 4 16, .slice (some ⟨gb, 0, none⟩) 2 cb]) rfl)
    generalize wy2.alloc (.cells #[.slice (some ⟨(w.heap.size + 1), 1, none⟩) 4 16, .slice (some ⟨gb, 0, none⟩) 2 cb] 24) = wy3 at HM ⊢
    generalize wy2.heap.size = GP at HM ⊢
    refine hK.out _ _ ((((HM.out.erase 0).erase 0).erase 0)) (fun hHeld => ?_)
    clear hK K
    (try simp only [Act.put, List.setIfInBounds_toArray, List.set_cons_zero, List.set_cons_succ])
    refine step_one 10 rfl (by kernel_rfl) (fun K hK => ?_)
    clear hHeld
    go_simp
    refine (HCC.out GP gb cb _ (blk_all (HM.out.blk 4 rfl) HS.out) (parts_rd (g := GP) (t := 24) (ps := [⟨(some ⟨(w.heap.size + 1), 1, none⟩), 4, 16, a.ip.take 4⟩, ⟨some ⟨gb, 0, none⟩, 2, cb, bigL q 2⟩]) (HM.out.blk 0 rfl) (by intro x hx; simp only [List.mem_cons, List.not_mem_nil, or_false] at hx; rcases hx with rfl | rfl; exact ((end_rd (HM.out.blk 3 rfl) HA.out).take (m := 4) (by omega)).mono (by have := (HM.out.blk 3 rfl).lt; omega); exact HM.out.rd 1 rfl))).mono ?_
    rintro e wy4 ⟨rfl, hb⟩
    replace HM := Lib.hid (show Mem w [blkE GP 24 ([.slice (some ⟨(w.heap.size + 1), 1, none⟩) 4 16, .slice (some ⟨gb, 0, none⟩) 2 cb]), rdE wd1.heap.size hi1 (some ⟨gb, 0, none⟩) 2 (bigL q 2), blkE (w.heap.size + 2) 30 ((List.replicate 16 (0 : UInt8)).map u8v), blkE (w.heap.size + 1) 29 (endC a port), blkE w.heap.size 23 (s.map u8v)] wy4 from HM.out.below hb)
    clear hb
    go_wp2_with fail
    refine hK.out _ _ ((((HM.out.erase 0).erase 0).erase 0)) (fun hHeld => ?_)
    clear hK K
    (try simp only [Act.put, List.setIfInBounds_toArray, List.set_cons_zero, List.set_cons_succ])
    refine step_one 11 rfl (by kernel_rfl) (fun K hK => ?_)
    clear hHeld
    refine step_store_blk _ rfl 30 (.tmp 4) (.tmp 19) rfl (w.heap.size + 2) (mt.map u8v) rfl (by show Value.agg cm = _; rw [HCM.out]) 30 ((List.replicate 16 (0 : UInt8)).map u8v) (HM.out.blk 2 rfl) (ae_cellsT mt HML.out) (by rw [List.length_map, List.length_map, HML.out]; rfl) (by intro v hv; obtain ⟨_, _, rfl⟩ := List.mem_map.1 hv; rfl) ?_
    intro wy5 hb hg
    replace HM := Lib.hid (show Mem w [blkE GP 24 ([.slice (some ⟨(w.heap.size + 1), 1, none⟩) 4 16, .slice (some ⟨gb, 0, none⟩) 2 cb]), rdE wd1.heap.size hi1 (some ⟨gb, 0, none⟩) 2 (bigL q 2), blkE (w.heap.size + 2) 30 (mt.map u8v), blkE (w.heap.size + 1) 29 (endC a port), blkE w.heap.size 23 (s.map u8v)] wy5 from HM.out.put 2 rfl _ hg hb)
    clear hb hg
    refine hK.out _ _ ((((HM.out.erase 0).erase 0).erase 0)) (fun hHeld => ?_)
    clear hK K
    (try simp only [Act.put])
    refine wpAnyH_done (by kernel_rfl) ?_ _
    clear hHeld
    go_wp2
    exact bodyPost_ret (results_blk rfl _ _ (w.heap.size + 2) 30 (mt.map u8v) 16 5 rfl (HM.out.blk 2 rfl) Tryd.underlying30 (ae_cellsT mt HML.out)) rfl ⟨by rw [HV.out], HM.out.bel⟩
  · rw [h6] at fsix
    have HSX := Lib.hid h6
    have HCC := Lib.hid (fun (g1 gb cb : Nat) (W : World) (hk : Rd W W.heap.size (some ⟨w.heap.size, 0, none⟩) 32 s) (hp : PartsRd W W.heap.size (some ⟨g1, 0, none⟩) [⟨(some ⟨(w.heap.size + 1), 1, none⟩), 16, 16, a.ip.take 16⟩, ⟨some ⟨gb, 0, none⟩, 2, cb, bigL q 2⟩]) => (show Calls Tryd.prog 38 #[.slice (some ⟨w.heap.size, 0, none⟩) 32 32, .slice (some ⟨g1, 0, none⟩) 2 2] W fun e w' => e = .returned (.agg ((codeB s (a.ip.take 16 ++ bigL q 2)).map u8v).toArray) ∧ Below W.heap.size W w' from by have h := refCode_any (some ⟨w.heap.size, 0, none⟩) 32 32 s 2 (some ⟨g1, 0, none⟩) [⟨(some ⟨(w.heap.size + 1), 1, none⟩), 16, 16, a.ip.take 16⟩, ⟨some ⟨gb, 0, none⟩, 2, cb, bigL q 2⟩] (by simp) (by show (flat _ 2).length ≤ _; rw [show flat [⟨(some ⟨(w.heap.size + 1), 1, none⟩), 16, 16, a.ip.take 16⟩, ⟨some ⟨gb, 0, none⟩, 2, cb, bigL q 2⟩] 2 = a.ip.take 16 ++ bigL q 2 from by simp [flat], List.length_append, List.length_take, bigL_length]; omega) W hk hp; rwa [show ([⟨(some ⟨(w.heap.size + 1), 1, none⟩), 16, 16, a.ip.take 16⟩, ⟨some ⟨gb, 0, none⟩, 2, cb, bigL q 2⟩] : List Part).length = 2 from rfl, show flat [⟨(some ⟨(w.heap.size + 1), 1, none⟩), 16, 16, a.ip.take 16⟩, ⟨some ⟨gb, 0, none⟩, 2, cb, bigL q 2⟩] 2 = a.ip.take 16 ++ bigL q 2 from by simp [flat]] at h))
    replace HV := Lib.hid (show cookieB s a q = codeB s (a.ip.take 16 ++ bigL q 2) from by rw [HV.out, HSX.out]; rfl)
    obtain ⟨mt, hmt⟩ : ∃ z, codeB s (a.ip.take 16 ++ bigL q 2) = z := ⟨_, rfl⟩
    have HML := Lib.hid (show mt.length = 16 from by rw [← hmt]; exact codeB_length _ _)
    rw [hmt] at HCC HV
    obtain ⟨cm, hcm⟩ : ∃ z, (mt.map u8v).toArray = z := ⟨_, rfl⟩
    rw [hcm] at HCC
    have HCM := Lib.hid hcm
    clear hmt hcm
    go_upto_region 4 with fail
    clear fsix
    refine wp_region_held_drew (S := fun W' => Mem w [blkE (w.heap.size + 1) 29 (endC a port), blkE w.heap.size 23 (s.map u8v)] W') (by kernel_rfl) (((HM.out.erase 0)).drew) (fun hHeld => ?_)
    replace HM := Lib.hid HM.out.drew
    generalize w1.drew = wd1 at HM hHeld ⊢
    refine take_first (v := ?_) 0 rfl (by kernel_rfl) (by kernel_rfl) (by kernel_rfl) (fun _ _ _ h => h) (Or.inl ⟨by rfl, ?_⟩) (by assumption) ?_
    rotate_left
    · (intro w hSw; (try dsimp only at hSw); go_simp; try with_reducible rfl)
    (try simp only [Act.put, List.setIfInBounds_toArray, List.set_cons_zero, List.set_cons_succ])
    refine take_first (v := ?_) 1 rfl (by kernel_rfl) (by kernel_rfl) (by kernel_rfl) (fun _ _ _ h => h) (Or.inl ⟨by rfl, ?_⟩) (by assumption) ?_
    rotate_left
    · (intro w hSw; (try dsimp only at hSw); go_simp; try with_reducible rfl)
    (try simp only [Act.put, List.setIfInBounds_toArray, List.set_cons_zero, List.set_cons_succ])
    refine take_first (v := ?_) 2 rfl (by kernel_rfl) (by kernel_rfl) (by kernel_rfl) (fun _ _ _ h => h) (Or.inl ⟨by rfl, ?_⟩) (by assumption) ?_
    rotate_left
    · (intro w hSw; (try dsimp only at hSw); go_simp; try with_reducible rfl)
    (try simp only [Act.put, List.setIfInBounds_toArray, List.set_cons_zero, List.set_cons_succ])
    refine take_first (v := ?_) 3 rfl (by kernel_rfl) (by kernel_rfl) (by kernel_rfl) (fun _ _ _ h => h) (Or.inl ⟨by rfl, ?_⟩) (by assumption) ?_
    rotate_left
    · (intro w hSw; (try dsimp only at hSw); go_simp; try with_reducible rfl)
    (try simp only [Act.put, List.setIfInBounds_toArray, List.set_cons_zero, List.set_cons_succ])
    refine take_first (v := ?_) 4 rfl (by kernel_rfl) (by kernel_rfl) (by kernel_rfl) (fun _ _ _ h => h) (Or.inl ⟨by rfl, ?_⟩) (by assumption) ?_
    rotate_left
    · (intro w hSw; (try dsimp only at hSw); go_simp; try with_reducible rfl)
    (try simp only [Act.put, List.setIfInBounds_toArray, List.set_cons_zero, List.set_cons_succ])
    refine take_first (v := ?_) 5 rfl (by kernel_rfl) (by kernel_rfl) (by kernel_rfl) (fun _ _ _ h => h) (Or.inl ⟨by rfl, ?_⟩) (by assumption) ?_
    rotate_left
    · (intro w hSw; (try dsimp only at hSw); go_simp; try with_reducible rfl)
    (try simp only [Act.put, List.setIfInBounds_toArray, List.set_cons_zero, List.set_cons_succ])
    refine take_first (v := ?_) 6 rfl (by kernel_rfl) (by kernel_rfl) (by kernel_rfl) (fun _ _ _ h => h) (Or.inl ⟨by rfl, ?_⟩) (by assumption) ?_
    rotate_left
    · (intro w hSw; (try dsimp only at hSw); have hc := (Mem.blk hSw 0 rfl).cell 17; rw [endC_port HA.out] at hc; go_simp; try with_reducible rfl)
    (try simp only [Act.put, List.setIfInBounds_toArray, List.set_cons_zero, List.set_cons_succ])
    refine take_first (v := ?_) 7 rfl (by kernel_rfl) (by kernel_rfl) (by kernel_rfl) (fun _ _ _ h => h) (Or.inl ⟨by rfl, ?_⟩) (by assumption) ?_
    rotate_left
    · (intro w hSw; (try dsimp only at hSw); go_simp; try with_reducible rfl)
    (try simp only [Act.put, List.setIfInBounds_toArray, List.set_cons_zero, List.set_cons_succ])
    refine step_one 8 rfl (by kernel_rfl) (fun K hK => ?_)
    clear hHeld
    go_simp
    refine (HBG.out _).mono ?_
    rintro e wy2 ⟨gb, cb, rfl, ho, hb⟩
    replace HM := Lib.hid (show Mem w [rdE wd1.heap.size wy2.heap.size (some ⟨gb, 0, none⟩) 2 (bigL q 2), blkE (w.heap.size + 2) 30 ((List.replicate 16 (0 : UInt8)).map u8v), blkE (w.heap.size + 1) 29 (endC a port), blkE w.heap.size 23 (s.map u8v)] wy2 from HM.out.callRd hb ho)
    clear ho
    obtain ⟨hi1, hhi⟩ : ∃ z, wy2.heap.size = z := ⟨_, rfl⟩
    rw [hhi] at HM
    clear hhi
    clear hb
    go_wp2_with fail
    refine hK.out _ _ (((HM.out.erase 0).erase 0)) (fun hHeld => ?_)
    clear hK K
    (try simp only [Act.put, List.setIfInBounds_toArray, List.set_cons_zero, List.set_cons_succ])
    refine step_one 9 rfl (by kernel_rfl) (fun K hK => ?_)
    clear hHeld
    go_simp
    replace HM := Lib.hid (show Mem w [blkE wy2.heap.size 24 ([.slice (some ⟨(w.heap.size + 1), 1, none⟩) 16 16, .slice (some ⟨gb, 0, none⟩) 2 cb]), rdE wd1.heap.size hi1 (some ⟨gb, 0, none⟩) 2 (bigL q 2), blkE (w.heap.size + 2) 30 ((List.replicate 16 (0 : UInt8)).map u8v), blkE (w.heap.size + 1) 29 (endC a port), blkE w.heap.size 23 (s.map u8v)] (wy2.alloc (.cells #[.slice (some ⟨(w.heap.size + 1), 1, none⟩) 16 16, .slice (some ⟨gb, 0, none⟩) 2 cb] 24)) from HM.out.alloc rfl 24 #[.slice (some ⟨(w.heap.size + 1), 1, none⟩) 16 16, .slice (some ⟨gb, 0, none⟩) 2 cb] ([.slice (some ⟨(w.heap.size + 1), 1, none⟩) 16 16, .slice (some ⟨gb, 0, none⟩) 2 cb]) rfl)
    generalize wy2.alloc (.cells #[.slice (some ⟨(w.heap.size + 1), 1, none⟩) 16 16, .slice (some ⟨gb, 0, none⟩) 2 cb] 24) = wy3 at HM ⊢
    generalize wy2.heap.size = GP at HM ⊢
    refine hK.out _ _ ((((HM.out.erase 0).erase 0).erase 0)) (fun hHeld => ?_)
    clear hK K
    (try simp only [Act.put, List.setIfInBounds_toArray, List.set_cons_zero, List.set_cons_succ])
    refine step_one 10 rfl (by kernel_rfl) (fun K hK => ?_)
    clear hHeld
    go_simp
    refine (HCC.out GP gb cb _ (blk_all (HM.out.blk 4 rfl) HS.out) (parts_rd (g := GP) (t := 24) (ps := [⟨(some ⟨(w.heap.size + 1), 1, none⟩), 16, 16, a.ip.take 16⟩, ⟨some ⟨gb, 0, none⟩, 2, cb, bigL q 2⟩]) (HM.out.blk 0 rfl) (by intro x hx; simp only [List.mem_cons, List.not_mem_nil, or_false] at hx; rcases hx with rfl | rfl; exact ((end_rd (HM.out.blk 3 rfl) HA.out).take (m := 16) (by omega)).mono (by have := (HM.out.blk 3 rfl).lt; omega); exact HM.out.rd 1 rfl))).mono ?_
    rintro e wy4 ⟨rfl, hb⟩
    replace HM := Lib.hid (show Mem w [blkE GP 24 ([.slice (some ⟨(w.heap.size + 1), 1, none⟩) 16 16, .slice (some ⟨gb, 0, none⟩) 2 cb]), rdE wd1.heap.size hi1 (some ⟨gb, 0, none⟩) 2 (bigL q 2), blkE (w.heap.size + 2) 30 ((List.replicate 16 (0 : UInt8)).map u8v), blkE (w.heap.size + 1) 29 (endC a port), blkE w.heap.size 23 (s.map u8v)] wy4 from HM.out.below hb)
    clear hb
    go_wp2_with fail
    refine hK.out _ _ ((((HM.out.erase 0).erase 0).erase 0)) (fun hHeld => ?_)
    clear hK K
    (try simp only [Act.put, List.setIfInBounds_toArray, List.set_cons_zero, List.set_cons_succ])
    refine step_one 11 rfl (by kernel_rfl) (fun K hK => ?_)
    clear hHeld
    refine step_store_blk _ rfl 30 (.tmp 4) (.tmp 19) rfl (w.heap.size + 2) (mt.map u8v) rfl (by show Value.agg cm = _; rw [HCM.out]) 30 ((List.replicate 16 (0 : UInt8)).map u8v) (HM.out.blk 2 rfl) (ae_cellsT mt HML.out) (by rw [List.length_map, List.length_map, HML.out]; rfl) (by intro v hv; obtain ⟨_, _, rfl⟩ := List.mem_map.1 hv; rfl) ?_
    intro wy5 hb hg
    replace HM := Lib.hid (show Mem w [blkE GP 24 ([.slice (some ⟨(w.heap.size + 1), 1, none⟩) 16 16, .slice (some ⟨gb, 0, none⟩) 2 cb]), rdE wd1.heap.size hi1 (some ⟨gb, 0, none⟩) 2 (bigL q 2), blkE (w.heap.size + 2) 30 (mt.map u8v), blkE (w.heap.size + 1) 29 (endC a port), blkE w.heap.size 23 (s.map u8v)] wy5 from HM.out.put 2 rfl _ hg hb)
    clear hb hg
    refine hK.out _ _ ((((HM.out.erase 0).erase 0).erase 0)) (fun hHeld => ?_)
    clear hK K
    (try simp only [Act.put])
    refine wpAnyH_done (by kernel_rfl) ?_ _
    clear hHeld
    go_wp2
    exact bodyPost_ret (results_blk rfl _ _ (w.heap.size + 2) 30 (mt.map u8v) 16 5 rfl (HM.out.blk 2 rfl) Tryd.underlying30 (ae_cellsT mt HML.out)) rfl ⟨by rw [HV.out], HM.out.bel⟩
end Go.Proofs.YtlddafkikkaonaaDoor
namespace Go.Proofs.YtlddafkikkaonaaDoor
open Go.RowKit

set_option maxRecDepth 100000 in
set_option maxHeartbeats 16000000 in
set_option linter.unusedSimpArgs false in
theorem mc_seals_walk (HSI : McSealC 7 1) (HSR : McSealC 9 2) (HM1 : McMac1C 12) (HCO : McCookieC 14) (HC1 : McCheck1C 17) (w : World) (hlv : LvBlake w)
    (p s : List UInt8) (hp : p.length = 32) (hs : s.length = 32) (A : Option Addr) (nb cb : Nat) (lp : List UInt8) (hnc : nb ≤ cb) (hcm : cb ≤ maxLen) (hrp : Rd w w.heap.size A nb lp) (fa : AddrM) (hfa : fa.ok) (port : Int) (has : Bool) (ck : List UInt8) (hck : ck.length = 16) (m1 m2 : MsgM) (hok1 : m1.ok 1) (hok2 : m2.ok 2) :
    Calls Tryd.prog 3 #[.agg (p.map u8v).toArray, .agg (s.map u8v).toArray, .slice A nb cb, .agg (endC fa port).toArray, .bool has, .agg (ck.map u8v).toArray, .agg m1.cells.toArray, .agg m2.cells.toArray] w fun e w' => e = .returned (.bool true) ∧ Below w.heap.size w w' := by
  have HLV := Lib.hid hlv
  have HBG := Lib.hid (fun W (h : LvBlake W) => mc_begun_any HSI HC1 W h)
  have hs1 := HSI p ck hp hck has m1 hok1
  have hr1 := refSealI p ck hp hck has m1 hok1
  have hs2 := HSR p ck hp hck has m2 hok2
  have hr2 := refSealR p ck hp hck has m2 hok2
  obtain ⟨kd, hk⟩ : ∃ k, min nb 120 = k := ⟨_, rfl⟩
  have HCU := Lib.hid (caseCut_any A nb cb 120 kd (by omega) hnc hcm hk)
  have HNUM := Lib.hid (show kd ≤ nb ∧ kd ≤ 120 ∧ kd ≤ cb from by omega)
  obtain ⟨q, hq⟩ : ∃ q : Nat, IntKind.u64.wrap port = (q : Int) := ⟨(IntKind.u64.wrap port).toNat, by rw [IntKind.wrap_u64]; omega⟩
  have hq6 : q < 18446744073709551616 := by rw [IntKind.wrap_u64] at hq; omega
  have hck1 := HCO s hs fa hfa port q hq hq6
  have hck2 := fun (W : World) (_ : LvBlake W) => refCookie_any s hs fa hfa port q hq hq6 W
  have hm1 := fun (W : World) (hv : LvBlake W) (h : Rd W W.heap.size A kd (lp.take kd)) => HM1 p hp A kd cb (lp.take kd) HNUM.out.2.2 hcm (by have := HNUM.out; omega) W hv h
  have hm2 := fun (W : World) (_ : LvBlake W) (h : Rd W W.heap.size A kd (lp.take kd)) => refMac1_any p hp A kd cb (lp.take kd) (by have := HNUM.out; omega) W h
  have ha1 : (macM p 1 m1).length = 16 := macM_length _ _ _
  have ha2 : (macM p 2 m2).length = 16 := macM_length _ _ _
  have ha3 : (mac1B p (lp.take kd)).length = 16 := mac1B_length _ _
  have ha4 : (cookieB s fa q).length = 16 := cookieB_length _ _ _
  generalize encB 1 (sealM p has ck 1 m1) = X1 at hs1 hr1
  generalize encB 2 (sealM p has ck 2 m2) = X2 at hs2 hr2
  generalize macM p 1 m1 = mt1 at hs1 hr1 ha1
  generalize macM p 2 m2 = mt2 at hs2 hr2 ha2
  generalize mac1B p (lp.take kd) = mt3 at hm1 hm2 ha3
  generalize cookieB s fa q = mt4 at hck1 hck2 ha4
  have hl1 := MsgM.cells_length hok1
  have hl2 := MsgM.cells_length hok2
  have HU1 := Lib.hid (show (Tryd.prog.info? 35).map (·.size) = some m1.cells.length from by rw [hl1]; kernel_rfl)
  have HU2 := Lib.hid (show (Tryd.prog.info? 37).map (·.size) = some m2.cells.length from by rw [hl2]; kernel_rfl)
  have HUF := Lib.hid (show (Tryd.prog.info? 29).map (·.size) = some (endC fa port).length from by rw [endC, List.length_append, AddrM.cells_length hfa]; kernel_rfl)
  have e1 := fun w' : World => run_tag_eq mt1 ha1 w'
  have e2 := fun w' : World => run_tag_eq mt2 ha2 w'
  have e3 := fun w' : World => run_tag_eq mt3 ha3 w'
  have e4 := fun w' : World => run_tag_eq mt4 ha4 w'
  have HP := Lib.hid hp
  have HS := Lib.hid hs
  have HK := Lib.hid hck
  have HMT1 := Lib.hid ha1
  have HMT2 := Lib.hid ha2
  obtain ⟨cp, hcp⟩ : ∃ z, (p.map u8v).toArray = z := ⟨_, rfl⟩
  obtain ⟨cs, hcs⟩ : ∃ z, (s.map u8v).toArray = z := ⟨_, rfl⟩
  obtain ⟨cf, hcf⟩ : ∃ z, (endC fa port).toArray = z := ⟨_, rfl⟩
  obtain ⟨cc, hcc⟩ : ∃ z, (ck.map u8v).toArray = z := ⟨_, rfl⟩
  obtain ⟨cm1, hcm1⟩ : ∃ z, m1.cells.toArray = z := ⟨_, rfl⟩
  obtain ⟨cm2, hcm2⟩ : ∃ z, m2.cells.toArray = z := ⟨_, rfl⟩
  obtain ⟨ct1, hct1⟩ : ∃ z, (mt1.map u8v).toArray = z := ⟨_, rfl⟩
  obtain ⟨ct2, hct2⟩ : ∃ z, (mt2.map u8v).toArray = z := ⟨_, rfl⟩
  obtain ⟨ct3, hct3⟩ : ∃ z, (mt3.map u8v).toArray = z := ⟨_, rfl⟩
  obtain ⟨ct4, hct4⟩ : ∃ z, (mt4.map u8v).toArray = z := ⟨_, rfl⟩
  rw [hcp, hcc, hcm1, hct1] at hs1 hr1
  rw [hcp, hcc, hcm2, hct2] at hs2 hr2
  rw [hcs, hcf, hct4] at hck1 hck2
  rw [hcp, hct3] at hm1 hm2
  rw [hct1] at e1
  rw [hct2] at e2
  rw [hct3] at e3
  rw [hct4] at e4
  have HE1 := Lib.hid e1
  have HE2 := Lib.hid e2
  have HE3 := Lib.hid e3
  have HE4 := Lib.hid e4
  have HS1 := Lib.hid hs1
  have HR1 := Lib.hid hr1
  have HS2 := Lib.hid hs2
  have HR2 := Lib.hid hr2
  have HM1P := Lib.hid hm1
  have HM1R := Lib.hid hm2
  have HCKP := Lib.hid hck1
  have HCKR := Lib.hid hck2
  have HCP := Lib.hid hcp
  have HCS := Lib.hid hcs
  have HCF := Lib.hid hcf
  have HCC := Lib.hid hcc
  have HCM1 := Lib.hid hcm1
  have HCM2 := Lib.hid hcm2
  have HCT1 := Lib.hid hct1
  have HCT2 := Lib.hid hct2
  rw [hcp, hcs, hcf, hcc, hcm1, hcm2]
  have HM := Lib.hid (show Lows w [blkL (w.heap.size + 1 + 1 + 1 + 1 + 1) 37 m2.cells, blkL (w.heap.size + 1 + 1 + 1 + 1) 35 m1.cells, blkL (w.heap.size + 1 + 1 + 1) 30 (ck.map u8v), blkL (w.heap.size + 1 + 1) 29 (endC fa port), blkL (w.heap.size + 1) 23 (s.map u8v), blkL w.heap.size 23 (p.map u8v), rdL A nb lp] ((((((w.alloc (.cells cp 23)).alloc (.cells cs 23)).alloc (.cells cf 29)).alloc (.cells cc 30)).alloc (.cells cm1 35)).alloc (.cells cm2 37)) from ((((((((Lows.nil w).cons (rdL A nb lp) hrp).allocAt rfl 23 cp (p.map u8v) hcp.symm).allocAt (by simp) 23 cs (s.map u8v) hcs.symm).allocAt (by simp) 29 cf (endC fa port) hcf.symm).allocAt (by simp) 30 cc (ck.map u8v) hcc.symm).allocAt (by simp) 35 cm1 m1.cells hcm1.symm).allocAt (by simp) 37 cm2 m2.cells hcm2.symm))
  clear hs1 hr1 hs2 hr2 hck1 hck2 hm1 hm2 ha1 ha2 ha3 ha4 hl1 hl2 e1 e2 e3 e4 hcp hcs hcf hcc hcm1 hcm2 hct1 hct2 hct3 hct4 hp hs hck hfa hok1 hok2 hnc hcm hrp hk hq hq6 hlv HSI HSR HM1 HCO HC1
  go_enter Tryd.func3, Tryd.ntmps3
  go_upto_region 1 with fail
  generalize ((((((w.alloc (.cells cp 23)).alloc (.cells cs 23)).alloc (.cells cf 29)).alloc (.cells cc 30)).alloc (.cells cm1 35)).alloc (.cells cm2 37)) = w1 at HM ⊢
  go_wp2_with (first | (refine wpList_load_obj rfl 23 (.tmp 8) rfl w.heap.size 0 rfl (p.map u8v) (HM.out.blk 5 rfl).all _ Tryd.underlying23 rfl (cells32 p HP.out) ?_; rw [HCP.out]) | (refine wpList_load_obj rfl 30 (.tmp 13) rfl (w.heap.size + 1 + 1 + 1) 0 rfl (ck.map u8v) (HM.out.blk 2 rfl).all _ Tryd.underlying30 rfl (ae_cellsT ck HK.out) ?_; rw [HCC.out]) | (refine wpList_load_obj rfl 35 (.tmp 14) rfl (w.heap.size + 1 + 1 + 1 + 1) 0 rfl m1.cells (HM.out.blk 1 rfl).all _ Tryd.underlying35 rfl HU1.out ?_; rw [HCM1.out]))
  refine (HS1.out _ (HLV.out.below HM.out.bel)).mono ?_
  rintro e wa1 ⟨A1, c1, rfl, -, -, hr, hb⟩
  replace hr := hr.rd
  rw [show msLen 1 = 148 from rfl] at hr ⊢
  replace HM := Lib.hid (show Lows w [rdL A1 148 X1, blkL (w.heap.size + 1 + 1 + 1 + 1 + 1) 37 m2.cells, blkL (w.heap.size + 1 + 1 + 1 + 1) 35 m1.cells, blkL (w.heap.size + 1 + 1 + 1) 30 (ck.map u8v), blkL (w.heap.size + 1 + 1) 29 (endC fa port), blkL (w.heap.size + 1) 23 (s.map u8v), blkL w.heap.size 23 (p.map u8v), rdL A nb lp] wa1 from (HM.out.below hb).cons (rdL A1 148 X1) hr)
  clear hr hb
  have hnew : Blk (wa1.alloc (.cells #[.int .u8 0, .int .u8 0, .int .u8 0, .int .u8 0, .int .u8 0, .int .u8 0, .int .u8 0, .int .u8 0, .int .u8 0, .int .u8 0, .int .u8 0, .int .u8 0, .int .u8 0, .int .u8 0, .int .u8 0, .int .u8 0] 30)) wa1.heap.size 30 ((List.replicate 16 (0 : UInt8)).map u8v) := Blk.new wa1 30 ((List.replicate 16 (0 : UInt8)).map u8v)
  go_upto_region 2 with (refine wpList_store_blk rfl 30 (.tmp 18) (.tmp 32) rfl wa1.heap.size (mt1.map u8v) rfl (by show Value.agg ct1 = _; rw [HCT1.out]) 30 ((List.replicate 16 (0 : UInt8)).map u8v) hnew (ae_cellsT mt1 HMT1.out) (by rw [List.length_map, List.length_map, HMT1.out]; rfl) (u8v_one _) ?_; intro wb1 hb5 hg5)
  (try simp only [Act.put])
  have hm9 := HM.out.stored (arr := #[.int .u8 0, .int .u8 0, .int .u8 0, .int .u8 0, .int .u8 0, .int .u8 0, .int .u8 0, .int .u8 0, .int .u8 0, .int .u8 0, .int .u8 0, .int .u8 0, .int .u8 0, .int .u8 0, .int .u8 0, .int .u8 0]) hg5 hb5
  generalize wa1.heap.size = G1 at hm9 ⊢
  replace HM := Lib.hid (show Lows w [blkL G1 30 (mt1.map u8v), rdL A1 148 X1, blkL (w.heap.size + 1 + 1 + 1 + 1 + 1) 37 m2.cells, blkL (w.heap.size + 1 + 1 + 1 + 1) 35 m1.cells, blkL (w.heap.size + 1 + 1 + 1) 30 (ck.map u8v), blkL (w.heap.size + 1 + 1) 29 (endC fa port), blkL (w.heap.size + 1) 23 (s.map u8v), blkL w.heap.size 23 (p.map u8v), rdL A nb lp] wb1 from hm9)
  clear hm9 hb5 hg5 hnew
  go_wp2_with (first | (refine wpList_load_obj rfl 23 (.tmp 8) rfl w.heap.size 0 rfl (p.map u8v) (HM.out.blk 7 rfl).all _ Tryd.underlying23 rfl (cells32 p HP.out) ?_; rw [HCP.out]) | (refine wpList_load_obj rfl 30 (.tmp 13) rfl (w.heap.size + 1 + 1 + 1) 0 rfl (ck.map u8v) (HM.out.blk 4 rfl).all _ Tryd.underlying30 rfl (ae_cellsT ck HK.out) ?_; rw [HCC.out]) | (refine wpList_load_obj rfl 35 (.tmp 14) rfl (w.heap.size + 1 + 1 + 1 + 1) 0 rfl m1.cells (HM.out.blk 3 rfl).all _ Tryd.underlying35 rfl HU1.out ?_; rw [HCM1.out]))
  refine (HR1.out _ (HLV.out.below HM.out.bel)).mono ?_
  rintro e wa2 ⟨A2, c2, rfl, -, -, hr, hb⟩
  replace hr := hr.rd
  rw [show msLen 1 = 148 from rfl] at hr ⊢
  replace HM := Lib.hid (show Lows w [rdL A2 148 X1, blkL G1 30 (mt1.map u8v), rdL A1 148 X1, blkL (w.heap.size + 1 + 1 + 1 + 1 + 1) 37 m2.cells, blkL (w.heap.size + 1 + 1 + 1 + 1) 35 m1.cells, blkL (w.heap.size + 1 + 1 + 1) 30 (ck.map u8v), blkL (w.heap.size + 1 + 1) 29 (endC fa port), blkL (w.heap.size + 1) 23 (s.map u8v), blkL w.heap.size 23 (p.map u8v), rdL A nb lp] wa2 from (HM.out.below hb).cons (rdL A2 148 X1) hr)
  clear hr hb
  have hnew : Blk (wa2.alloc (.cells #[.int .u8 0, .int .u8 0, .int .u8 0, .int .u8 0, .int .u8 0, .int .u8 0, .int .u8 0, .int .u8 0, .int .u8 0, .int .u8 0, .int .u8 0, .int .u8 0, .int .u8 0, .int .u8 0, .int .u8 0, .int .u8 0] 30)) wa2.heap.size 30 ((List.replicate 16 (0 : UInt8)).map u8v) := Blk.new wa2 30 ((List.replicate 16 (0 : UInt8)).map u8v)
  go_upto_region 3 with (refine wpList_store_blk rfl 30 (.tmp 20) (.tmp 40) rfl wa2.heap.size (mt1.map u8v) rfl (by show Value.agg ct1 = _; rw [HCT1.out]) 30 ((List.replicate 16 (0 : UInt8)).map u8v) hnew (ae_cellsT mt1 HMT1.out) (by rw [List.length_map, List.length_map, HMT1.out]; rfl) (u8v_one _) ?_; intro wb2 hb5 hg5)
  (try simp only [Act.put])
  have hm9 := HM.out.stored (arr := #[.int .u8 0, .int .u8 0, .int .u8 0, .int .u8 0, .int .u8 0, .int .u8 0, .int .u8 0, .int .u8 0, .int .u8 0, .int .u8 0, .int .u8 0, .int .u8 0, .int .u8 0, .int .u8 0, .int .u8 0, .int .u8 0]) hg5 hb5
  generalize wa2.heap.size = G2 at hm9 ⊢
  replace HM := Lib.hid (show Lows w [blkL G2 30 (mt1.map u8v), rdL A2 148 X1, blkL G1 30 (mt1.map u8v), rdL A1 148 X1, blkL (w.heap.size + 1 + 1 + 1 + 1 + 1) 37 m2.cells, blkL (w.heap.size + 1 + 1 + 1 + 1) 35 m1.cells, blkL (w.heap.size + 1 + 1 + 1) 30 (ck.map u8v), blkL (w.heap.size + 1 + 1) 29 (endC fa port), blkL (w.heap.size + 1) 23 (s.map u8v), blkL w.heap.size 23 (p.map u8v), rdL A nb lp] wb2 from hm9)
  clear hm9 hb5 hg5 hnew
  go_wp2_with (first | (refine wpList_load_obj rfl 23 (.tmp 8) rfl w.heap.size 0 rfl (p.map u8v) (HM.out.blk 9 rfl).all _ Tryd.underlying23 rfl (cells32 p HP.out) ?_; rw [HCP.out]) | (refine wpList_load_obj rfl 30 (.tmp 13) rfl (w.heap.size + 1 + 1 + 1) 0 rfl (ck.map u8v) (HM.out.blk 6 rfl).all _ Tryd.underlying30 rfl (ae_cellsT ck HK.out) ?_; rw [HCC.out]) | (refine wpList_load_obj rfl 37 (.tmp 15) rfl (w.heap.size + 1 + 1 + 1 + 1 + 1) 0 rfl m2.cells (HM.out.blk 4 rfl).all _ Tryd.underlying37 rfl HU2.out ?_; rw [HCM2.out]))
  refine (HS2.out _ (HLV.out.below HM.out.bel)).mono ?_
  rintro e wa3 ⟨A3, c3, rfl, -, -, hr, hb⟩
  replace hr := hr.rd
  rw [show msLen 2 = 92 from rfl] at hr ⊢
  replace HM := Lib.hid (show Lows w [rdL A3 92 X2, blkL G2 30 (mt1.map u8v), rdL A2 148 X1, blkL G1 30 (mt1.map u8v), rdL A1 148 X1, blkL (w.heap.size + 1 + 1 + 1 + 1 + 1) 37 m2.cells, blkL (w.heap.size + 1 + 1 + 1 + 1) 35 m1.cells, blkL (w.heap.size + 1 + 1 + 1) 30 (ck.map u8v), blkL (w.heap.size + 1 + 1) 29 (endC fa port), blkL (w.heap.size + 1) 23 (s.map u8v), blkL w.heap.size 23 (p.map u8v), rdL A nb lp] wa3 from (HM.out.below hb).cons (rdL A3 92 X2) hr)
  clear hr hb
  have hnew : Blk (wa3.alloc (.cells #[.int .u8 0, .int .u8 0, .int .u8 0, .int .u8 0, .int .u8 0, .int .u8 0, .int .u8 0, .int .u8 0, .int .u8 0, .int .u8 0, .int .u8 0, .int .u8 0, .int .u8 0, .int .u8 0, .int .u8 0, .int .u8 0] 30)) wa3.heap.size 30 ((List.replicate 16 (0 : UInt8)).map u8v) := Blk.new wa3 30 ((List.replicate 16 (0 : UInt8)).map u8v)
  go_upto_region 4 with (refine wpList_store_blk rfl 30 (.tmp 22) (.tmp 48) rfl wa3.heap.size (mt2.map u8v) rfl (by show Value.agg ct2 = _; rw [HCT2.out]) 30 ((List.replicate 16 (0 : UInt8)).map u8v) hnew (ae_cellsT mt2 HMT2.out) (by rw [List.length_map, List.length_map, HMT2.out]; rfl) (u8v_one _) ?_; intro wb3 hb5 hg5)
  (try simp only [Act.put])
  have hm9 := HM.out.stored (arr := #[.int .u8 0, .int .u8 0, .int .u8 0, .int .u8 0, .int .u8 0, .int .u8 0, .int .u8 0, .int .u8 0, .int .u8 0, .int .u8 0, .int .u8 0, .int .u8 0, .int .u8 0, .int .u8 0, .int .u8 0, .int .u8 0]) hg5 hb5
  generalize wa3.heap.size = G3 at hm9 ⊢
  replace HM := Lib.hid (show Lows w [blkL G3 30 (mt2.map u8v), rdL A3 92 X2, blkL G2 30 (mt1.map u8v), rdL A2 148 X1, blkL G1 30 (mt1.map u8v), rdL A1 148 X1, blkL (w.heap.size + 1 + 1 + 1 + 1 + 1) 37 m2.cells, blkL (w.heap.size + 1 + 1 + 1 + 1) 35 m1.cells, blkL (w.heap.size + 1 + 1 + 1) 30 (ck.map u8v), blkL (w.heap.size + 1 + 1) 29 (endC fa port), blkL (w.heap.size + 1) 23 (s.map u8v), blkL w.heap.size 23 (p.map u8v), rdL A nb lp] wb3 from hm9)
  clear hm9 hb5 hg5 hnew
  go_wp2_with (first | (refine wpList_load_obj rfl 23 (.tmp 8) rfl w.heap.size 0 rfl (p.map u8v) (HM.out.blk 11 rfl).all _ Tryd.underlying23 rfl (cells32 p HP.out) ?_; rw [HCP.out]) | (refine wpList_load_obj rfl 30 (.tmp 13) rfl (w.heap.size + 1 + 1 + 1) 0 rfl (ck.map u8v) (HM.out.blk 8 rfl).all _ Tryd.underlying30 rfl (ae_cellsT ck HK.out) ?_; rw [HCC.out]) | (refine wpList_load_obj rfl 37 (.tmp 15) rfl (w.heap.size + 1 + 1 + 1 + 1 + 1) 0 rfl m2.cells (HM.out.blk 6 rfl).all _ Tryd.underlying37 rfl HU2.out ?_; rw [HCM2.out]))
  refine (HR2.out _ (HLV.out.below HM.out.bel)).mono ?_
  rintro e wa4 ⟨A4, c4, rfl, -, -, hr, hb⟩
  replace hr := hr.rd
  rw [show msLen 2 = 92 from rfl] at hr ⊢
  replace HM := Lib.hid (show Lows w [rdL A4 92 X2, blkL G3 30 (mt2.map u8v), rdL A3 92 X2, blkL G2 30 (mt1.map u8v), rdL A2 148 X1, blkL G1 30 (mt1.map u8v), rdL A1 148 X1, blkL (w.heap.size + 1 + 1 + 1 + 1 + 1) 37 m2.cells, blkL (w.heap.size + 1 + 1 + 1 + 1) 35 m1.cells, blkL (w.heap.size + 1 + 1 + 1) 30 (ck.map u8v), blkL (w.heap.size + 1 + 1) 29 (endC fa port), blkL (w.heap.size + 1) 23 (s.map u8v), blkL w.heap.size 23 (p.map u8v), rdL A nb lp] wa4 from (HM.out.below hb).cons (rdL A4 92 X2) hr)
  clear hr hb
  have hnew : Blk (wa4.alloc (.cells #[.int .u8 0, .int .u8 0, .int .u8 0, .int .u8 0, .int .u8 0, .int .u8 0, .int .u8 0, .int .u8 0, .int .u8 0, .int .u8 0, .int .u8 0, .int .u8 0, .int .u8 0, .int .u8 0, .int .u8 0, .int .u8 0] 30)) wa4.heap.size 30 ((List.replicate 16 (0 : UInt8)).map u8v) := Blk.new wa4 30 ((List.replicate 16 (0 : UInt8)).map u8v)
  go_upto_region 5 with (refine wpList_store_blk rfl 30 (.tmp 24) (.tmp 56) rfl wa4.heap.size (mt2.map u8v) rfl (by show Value.agg ct2 = _; rw [HCT2.out]) 30 ((List.replicate 16 (0 : UInt8)).map u8v) hnew (ae_cellsT mt2 HMT2.out) (by rw [List.length_map, List.length_map, HMT2.out]; rfl) (u8v_one _) ?_; intro wb4 hb5 hg5)
  (try simp only [Act.put])
  have hm9 := HM.out.stored (arr := #[.int .u8 0, .int .u8 0, .int .u8 0, .int .u8 0, .int .u8 0, .int .u8 0, .int .u8 0, .int .u8 0, .int .u8 0, .int .u8 0, .int .u8 0, .int .u8 0, .int .u8 0, .int .u8 0, .int .u8 0, .int .u8 0]) hg5 hb5
  generalize wa4.heap.size = G4 at hm9 ⊢
  replace HM := Lib.hid (show Lows w [blkL G4 30 (mt2.map u8v), rdL A4 92 X2, blkL G3 30 (mt2.map u8v), rdL A3 92 X2, blkL G2 30 (mt1.map u8v), rdL A2 148 X1, blkL G1 30 (mt1.map u8v), rdL A1 148 X1, blkL (w.heap.size + 1 + 1 + 1 + 1 + 1) 37 m2.cells, blkL (w.heap.size + 1 + 1 + 1 + 1) 35 m1.cells, blkL (w.heap.size + 1 + 1 + 1) 30 (ck.map u8v), blkL (w.heap.size + 1 + 1) 29 (endC fa port), blkL (w.heap.size + 1) 23 (s.map u8v), blkL w.heap.size 23 (p.map u8v), rdL A nb lp] wb4 from hm9)
  clear hm9 hb5 hg5 hnew
  go_wp2_with fail
  refine (HCU.out _).mono ?_
  rintro e w9 ⟨rfl, hb⟩
  replace HM := Lib.hid (show Lows w [rdL A kd (lp.take kd), blkL G4 30 (mt2.map u8v), rdL A4 92 X2, blkL G3 30 (mt2.map u8v), rdL A3 92 X2, blkL G2 30 (mt1.map u8v), rdL A2 148 X1, blkL G1 30 (mt1.map u8v), rdL A1 148 X1, blkL (w.heap.size + 1 + 1 + 1 + 1 + 1) 37 m2.cells, blkL (w.heap.size + 1 + 1 + 1 + 1) 35 m1.cells, blkL (w.heap.size + 1 + 1 + 1) 30 (ck.map u8v), blkL (w.heap.size + 1 + 1) 29 (endC fa port), blkL (w.heap.size + 1) 23 (s.map u8v), blkL w.heap.size 23 (p.map u8v), rdL A nb lp] w9 from (HM.out.below hb).cons (rdL A kd (lp.take kd)) ((HM.out.below hb).rd 14 rfl |>.take HNUM.out.1))
  clear hb
  go_upto_region 6 with fail
  refine wp_region_held_drew (S := fun W' => Lows w [rdL A kd (lp.take kd), blkL G4 30 (mt2.map u8v), rdL A4 92 X2, blkL G3 30 (mt2.map u8v), rdL A3 92 X2, blkL G2 30 (mt1.map u8v), rdL A2 148 X1, blkL G1 30 (mt1.map u8v), rdL A1 148 X1, blkL (w.heap.size + 1 + 1 + 1 + 1 + 1) 37 m2.cells, blkL (w.heap.size + 1 + 1 + 1 + 1) 35 m1.cells, blkL (w.heap.size + 1 + 1 + 1) 30 (ck.map u8v), blkL (w.heap.size + 1 + 1) 29 (endC fa port), blkL (w.heap.size + 1) 23 (s.map u8v), blkL w.heap.size 23 (p.map u8v), rdL A nb lp] W') (by kernel_rfl) (HM.out.drew) (fun hHeld => ?_)
  replace HM := Lib.hid HM.out.drew
  generalize w9.drew = wd1 at HM hHeld ⊢
  refine take_first (v := ?_) 0 rfl (by kernel_rfl) (by kernel_rfl) (by kernel_rfl) (fun _ _ _ h => h) (Or.inl ⟨by rfl, ?_⟩) (by assumption) ?_
  rotate_left
  · (intro w hSw; (try dsimp only at hSw); go_simp; try with_reducible rfl)
  (try simp only [Act.put, List.setIfInBounds_toArray, List.set_cons_zero, List.set_cons_succ])
  refine take_first (v := ?_) 1 rfl (by kernel_rfl) (by kernel_rfl) (by kernel_rfl) (fun _ _ _ h => h) (Or.inl ⟨by rfl, ?_⟩) (by assumption) ?_
  rotate_left
  · (intro w hSw; (try dsimp only at hSw); have cv := show (convert 24 9 (.slice A1 148 c1)).run Tryd.prog w = .ok (.string ⟨(X1).toArray⟩) w from run_string_of_rd (P := Tryd.prog) 24 9 5 c1 Tryd.underlying24 Tryd.underlying5 Tryd.underlying9 (Lows.rd hSw 8 rfl); go_simp; try with_reducible rfl)
  (try simp only [Act.put, List.setIfInBounds_toArray, List.set_cons_zero, List.set_cons_succ])
  refine take_first (v := ?_) 2 rfl (by kernel_rfl) (by kernel_rfl) (by kernel_rfl) (fun _ _ _ h => h) (Or.inl ⟨by rfl, ?_⟩) (by assumption) ?_
  rotate_left
  · (intro w hSw; (try dsimp only at hSw); go_simp; try with_reducible rfl)
  (try simp only [Act.put, List.setIfInBounds_toArray, List.set_cons_zero, List.set_cons_succ])
  refine take_first (v := ?_) 3 rfl (by kernel_rfl) (by kernel_rfl) (by kernel_rfl) (fun _ _ _ h => h) (Or.inl ⟨by rfl, ?_⟩) (by assumption) ?_
  rotate_left
  · (intro w hSw; (try dsimp only at hSw); have cv := show (convert 24 9 (.slice A2 148 c2)).run Tryd.prog w = .ok (.string ⟨(X1).toArray⟩) w from run_string_of_rd (P := Tryd.prog) 24 9 5 c2 Tryd.underlying24 Tryd.underlying5 Tryd.underlying9 (Lows.rd hSw 6 rfl); go_simp; try with_reducible rfl)
  (try simp only [Act.put, List.setIfInBounds_toArray, List.set_cons_zero, List.set_cons_succ])
  refine take_first (v := ?_) 4 rfl (by kernel_rfl) (by kernel_rfl) (by kernel_rfl) (fun _ _ _ h => h) (Or.inl ⟨by rfl, ?_⟩) (by assumption) ?_
  rotate_left
  · (intro w hSw; (try dsimp only at hSw); go_simp; try with_reducible rfl)
  (try simp only [Act.put, List.setIfInBounds_toArray, List.set_cons_zero, List.set_cons_succ])
  refine take_first (v := ?_) 5 rfl (by kernel_rfl) (by kernel_rfl) (by kernel_rfl) (fun _ _ _ h => h) (Or.inl ⟨by rfl, ?_⟩) (by assumption) ?_
  rotate_left
  · (intro w hSw; (try dsimp only at hSw); go_simp; try with_reducible rfl)
  (try simp only [Act.put, List.setIfInBounds_toArray, List.set_cons_zero, List.set_cons_succ])
  refine take_first (v := .agg ct1) 6 rfl (by kernel_rfl) (by kernel_rfl) (by kernel_rfl) (fun _ _ _ h => h) (by rw [← HCT1.out]; exact yields_load_obj (by rfl) 30 (.tmp 18) rfl G1 0 rfl (mt1.map u8v) (fun w' hb => (Lows.blk hb 7 rfl).all) _ Tryd.underlying30 rfl (ae_cellsT mt1 HMT1.out)) (by assumption) ?_
  (try simp only [Act.put, List.setIfInBounds_toArray, List.set_cons_zero, List.set_cons_succ])
  refine take_first (v := .agg ct1) 7 rfl (by kernel_rfl) (by kernel_rfl) (by kernel_rfl) (fun _ _ _ h => h) (by rw [← HCT1.out]; exact yields_load_obj (by rfl) 30 (.tmp 20) rfl G2 0 rfl (mt1.map u8v) (fun w' hb => (Lows.blk hb 5 rfl).all) _ Tryd.underlying30 rfl (ae_cellsT mt1 HMT1.out)) (by assumption) ?_
  (try simp only [Act.put, List.setIfInBounds_toArray, List.set_cons_zero, List.set_cons_succ])
  refine take_first (v := ?_) 8 rfl (by kernel_rfl) (by kernel_rfl) (by kernel_rfl) (fun _ _ _ h => h) (Or.inl ⟨by rfl, ?_⟩) (by assumption) ?_
  rotate_left
  · (intro w hSw; (try dsimp only at hSw); have e9 := HE1.out w; go_simp; try with_reducible rfl)
  (try simp only [Act.put, List.setIfInBounds_toArray, List.set_cons_zero, List.set_cons_succ])
  refine take_first (v := ?_) 9 rfl (by kernel_rfl) (by kernel_rfl) (by kernel_rfl) (fun _ _ _ h => h) (Or.inl ⟨by rfl, ?_⟩) (by assumption) ?_
  rotate_left
  · (intro w hSw; (try dsimp only at hSw); go_simp; try with_reducible rfl)
  (try simp only [Act.put, List.setIfInBounds_toArray, List.set_cons_zero, List.set_cons_succ])
  refine take_first (v := ?_) 10 rfl (by kernel_rfl) (by kernel_rfl) (by kernel_rfl) (fun _ _ _ h => h) (Or.inl ⟨by rfl, ?_⟩) (by assumption) ?_
  rotate_left
  · (intro w hSw; (try dsimp only at hSw); go_simp; try with_reducible rfl)
  (try simp only [Act.put, List.setIfInBounds_toArray, List.set_cons_zero, List.set_cons_succ])
  refine take_first (v := ?_) 11 rfl (by kernel_rfl) (by kernel_rfl) (by kernel_rfl) (fun _ _ _ h => h) (Or.inl ⟨by rfl, ?_⟩) (by assumption) ?_
  rotate_left
  · (intro w hSw; (try dsimp only at hSw); go_simp; try with_reducible rfl)
  (try simp only [Act.put, List.setIfInBounds_toArray, List.set_cons_zero, List.set_cons_succ])
  refine take_first (v := ?_) 12 rfl (by kernel_rfl) (by kernel_rfl) (by kernel_rfl) (fun _ _ _ h => h) (Or.inl ⟨by rfl, ?_⟩) (by assumption) ?_
  rotate_left
  · (intro w hSw; (try dsimp only at hSw); have cv := show (convert 24 9 (.slice A3 92 c3)).run Tryd.prog w = .ok (.string ⟨(X2).toArray⟩) w from run_string_of_rd (P := Tryd.prog) 24 9 5 c3 Tryd.underlying24 Tryd.underlying5 Tryd.underlying9 (Lows.rd hSw 4 rfl); go_simp; try with_reducible rfl)
  (try simp only [Act.put, List.setIfInBounds_toArray, List.set_cons_zero, List.set_cons_succ])
  refine take_first (v := ?_) 13 rfl (by kernel_rfl) (by kernel_rfl) (by kernel_rfl) (fun _ _ _ h => h) (Or.inl ⟨by rfl, ?_⟩) (by assumption) ?_
  rotate_left
  · (intro w hSw; (try dsimp only at hSw); go_simp; try with_reducible rfl)
  (try simp only [Act.put, List.setIfInBounds_toArray, List.set_cons_zero, List.set_cons_succ])
  refine take_first (v := ?_) 14 rfl (by kernel_rfl) (by kernel_rfl) (by kernel_rfl) (fun _ _ _ h => h) (Or.inl ⟨by rfl, ?_⟩) (by assumption) ?_
  rotate_left
  · (intro w hSw; (try dsimp only at hSw); have cv := show (convert 24 9 (.slice A4 92 c4)).run Tryd.prog w = .ok (.string ⟨(X2).toArray⟩) w from run_string_of_rd (P := Tryd.prog) 24 9 5 c4 Tryd.underlying24 Tryd.underlying5 Tryd.underlying9 (Lows.rd hSw 2 rfl); go_simp; try with_reducible rfl)
  (try simp only [Act.put, List.setIfInBounds_toArray, List.set_cons_zero, List.set_cons_succ])
  refine take_first (v := ?_) 15 rfl (by kernel_rfl) (by kernel_rfl) (by kernel_rfl) (fun _ _ _ h => h) (Or.inl ⟨by rfl, ?_⟩) (by assumption) ?_
  rotate_left
  · (intro w hSw; (try dsimp only at hSw); go_simp; try with_reducible rfl)
  (try simp only [Act.put, List.setIfInBounds_toArray, List.set_cons_zero, List.set_cons_succ])
  refine take_first (v := ?_) 16 rfl (by kernel_rfl) (by kernel_rfl) (by kernel_rfl) (fun _ _ _ h => h) (Or.inl ⟨by rfl, ?_⟩) (by assumption) ?_
  rotate_left
  · (intro w hSw; (try dsimp only at hSw); go_simp; try with_reducible rfl)
  (try simp only [Act.put, List.setIfInBounds_toArray, List.set_cons_zero, List.set_cons_succ])
  refine take_first (v := ?_) 17 rfl (by kernel_rfl) (by kernel_rfl) (by kernel_rfl) (fun _ _ _ h => h) (Or.inl ⟨by rfl, ?_⟩) (by assumption) ?_
  rotate_left
  · (intro w hSw; (try dsimp only at hSw); go_simp; try with_reducible rfl)
  (try simp only [Act.put, List.setIfInBounds_toArray, List.set_cons_zero, List.set_cons_succ])
  refine take_first (v := .agg ct2) 18 rfl (by kernel_rfl) (by kernel_rfl) (by kernel_rfl) (fun _ _ _ h => h) (by rw [← HCT2.out]; exact yields_load_obj (by rfl) 30 (.tmp 22) rfl G3 0 rfl (mt2.map u8v) (fun w' hb => (Lows.blk hb 3 rfl).all) _ Tryd.underlying30 rfl (ae_cellsT mt2 HMT2.out)) (by assumption) ?_
  (try simp only [Act.put, List.setIfInBounds_toArray, List.set_cons_zero, List.set_cons_succ])
  refine take_first (v := .agg ct2) 19 rfl (by kernel_rfl) (by kernel_rfl) (by kernel_rfl) (fun _ _ _ h => h) (by rw [← HCT2.out]; exact yields_load_obj (by rfl) 30 (.tmp 24) rfl G4 0 rfl (mt2.map u8v) (fun w' hb => (Lows.blk hb 1 rfl).all) _ Tryd.underlying30 rfl (ae_cellsT mt2 HMT2.out)) (by assumption) ?_
  (try simp only [Act.put, List.setIfInBounds_toArray, List.set_cons_zero, List.set_cons_succ])
  refine take_first (v := ?_) 20 rfl (by kernel_rfl) (by kernel_rfl) (by kernel_rfl) (fun _ _ _ h => h) (Or.inl ⟨by rfl, ?_⟩) (by assumption) ?_
  rotate_left
  · (intro w hSw; (try dsimp only at hSw); have e9 := HE2.out w; go_simp; try with_reducible rfl)
  (try simp only [Act.put, List.setIfInBounds_toArray, List.set_cons_zero, List.set_cons_succ])
  refine take_first (v := ?_) 21 rfl (by kernel_rfl) (by kernel_rfl) (by kernel_rfl) (fun _ _ _ h => h) (Or.inl ⟨by rfl, ?_⟩) (by assumption) ?_
  rotate_left
  · (intro w hSw; (try dsimp only at hSw); go_simp; try with_reducible rfl)
  (try simp only [Act.put, List.setIfInBounds_toArray, List.set_cons_zero, List.set_cons_succ])
  refine take_first (v := ?_) 22 rfl (by kernel_rfl) (by kernel_rfl) (by kernel_rfl) (fun _ _ _ h => h) (Or.inl ⟨by rfl, ?_⟩) (by assumption) ?_
  rotate_left
  · (intro w hSw; (try dsimp only at hSw); go_simp; try with_reducible rfl)
  (try simp only [Act.put, List.setIfInBounds_toArray, List.set_cons_zero, List.set_cons_succ])
  refine take_first (v := .agg cp) 23 rfl (by kernel_rfl) (by kernel_rfl) (by kernel_rfl) (fun _ _ _ h => h) (by rw [← HCP.out]; exact yields_load_obj (by rfl) 23 (.tmp 8) rfl w.heap.size 0 rfl (p.map u8v) (fun w' hb => (Lows.blk hb 14 rfl).all) _ Tryd.underlying23 rfl (cells32 p HP.out)) (by assumption) ?_
  (try simp only [Act.put, List.setIfInBounds_toArray, List.set_cons_zero, List.set_cons_succ])
  refine take_first (v := ?_) 24 rfl (by kernel_rfl) (by kernel_rfl) (by kernel_rfl) (fun _ _ _ h => h) (Or.inl ⟨by rfl, ?_⟩) (by assumption) ?_
  rotate_left
  · (intro w hSw; (try dsimp only at hSw); go_simp; try with_reducible rfl)
  (try simp only [Act.put, List.setIfInBounds_toArray, List.set_cons_zero, List.set_cons_succ])
  refine take_first (v := .agg cp) 26 rfl (by kernel_rfl) (by kernel_rfl) (by kernel_rfl) (fun _ _ _ h => h) (by rw [← HCP.out]; exact yields_load_obj (by rfl) 23 (.tmp 8) rfl w.heap.size 0 rfl (p.map u8v) (fun w' hb => (Lows.blk hb 14 rfl).all) _ Tryd.underlying23 rfl (cells32 p HP.out)) (by assumption) ?_
  (try simp only [Act.put, List.setIfInBounds_toArray, List.set_cons_zero, List.set_cons_succ])
  refine take_first (v := ?_) 27 rfl (by kernel_rfl) (by kernel_rfl) (by kernel_rfl) (fun _ _ _ h => h) (Or.inl ⟨by rfl, ?_⟩) (by assumption) ?_
  rotate_left
  · (intro w hSw; (try dsimp only at hSw); go_simp; try with_reducible rfl)
  (try simp only [Act.put, List.setIfInBounds_toArray, List.set_cons_zero, List.set_cons_succ])
  refine step_one 25 rfl (by kernel_rfl) (fun K hK => ?_)
  clear hHeld
  go_simp
  refine (HM1P.out _ (HLV.out.below HM.out.bel) (HM.out.rd 0 rfl)).mono ?_
  rintro e wy2 ⟨rfl, hb⟩
  replace HM := Lib.hid (show Lows w [rdL A kd (lp.take kd), blkL G4 30 (mt2.map u8v), rdL A4 92 X2, blkL G3 30 (mt2.map u8v), rdL A3 92 X2, blkL G2 30 (mt1.map u8v), rdL A2 148 X1, blkL G1 30 (mt1.map u8v), rdL A1 148 X1, blkL (w.heap.size + 1 + 1 + 1 + 1 + 1) 37 m2.cells, blkL (w.heap.size + 1 + 1 + 1 + 1) 35 m1.cells, blkL (w.heap.size + 1 + 1 + 1) 30 (ck.map u8v), blkL (w.heap.size + 1 + 1) 29 (endC fa port), blkL (w.heap.size + 1) 23 (s.map u8v), blkL w.heap.size 23 (p.map u8v), rdL A nb lp] wy2 from HM.out.below hb)
  clear hb
  go_wp2_with fail
  refine hK.out _ _ (HM.out) (fun hHeld => ?_)
  clear hK K
  (try simp only [Act.put, List.setIfInBounds_toArray, List.set_cons_zero, List.set_cons_succ])
  refine step_one 28 rfl (by kernel_rfl) (fun K hK => ?_)
  clear hHeld
  go_simp
  refine (HM1R.out _ (HLV.out.below HM.out.bel) (HM.out.rd 0 rfl)).mono ?_
  rintro e wy3 ⟨rfl, hb⟩
  replace HM := Lib.hid (show Lows w [rdL A kd (lp.take kd), blkL G4 30 (mt2.map u8v), rdL A4 92 X2, blkL G3 30 (mt2.map u8v), rdL A3 92 X2, blkL G2 30 (mt1.map u8v), rdL A2 148 X1, blkL G1 30 (mt1.map u8v), rdL A1 148 X1, blkL (w.heap.size + 1 + 1 + 1 + 1 + 1) 37 m2.cells, blkL (w.heap.size + 1 + 1 + 1 + 1) 35 m1.cells, blkL (w.heap.size + 1 + 1 + 1) 30 (ck.map u8v), blkL (w.heap.size + 1 + 1) 29 (endC fa port), blkL (w.heap.size + 1) 23 (s.map u8v), blkL w.heap.size 23 (p.map u8v), rdL A nb lp] wy3 from HM.out.below hb)
  clear hb
  go_wp2_with fail
  refine hK.out _ _ (HM.out) (fun hHeld => ?_)
  clear hK K
  (try simp only [Act.put, List.setIfInBounds_toArray, List.set_cons_zero, List.set_cons_succ])
  refine take_first (v := ?_) 29 rfl (by kernel_rfl) (by kernel_rfl) (by kernel_rfl) (fun _ _ _ h => h) (Or.inl ⟨by rfl, ?_⟩) (by assumption) ?_
  rotate_left
  · (intro w hSw; (try dsimp only at hSw); have e9 := HE3.out w; go_simp; try with_reducible rfl)
  (try simp only [Act.put, List.setIfInBounds_toArray, List.set_cons_zero, List.set_cons_succ])
  refine take_first (v := ?_) 30 rfl (by kernel_rfl) (by kernel_rfl) (by kernel_rfl) (fun _ _ _ h => h) (Or.inl ⟨by rfl, ?_⟩) (by assumption) ?_
  rotate_left
  · (intro w hSw; (try dsimp only at hSw); go_simp; try with_reducible rfl)
  (try simp only [Act.put, List.setIfInBounds_toArray, List.set_cons_zero, List.set_cons_succ])
  refine take_first (v := ?_) 31 rfl (by kernel_rfl) (by kernel_rfl) (by kernel_rfl) (fun _ _ _ h => h) (Or.inl ⟨by rfl, ?_⟩) (by assumption) ?_
  rotate_left
  · (intro w hSw; (try dsimp only at hSw); go_simp; try with_reducible rfl)
  (try simp only [Act.put, List.setIfInBounds_toArray, List.set_cons_zero, List.set_cons_succ])
  refine take_first (v := .agg cs) 32 rfl (by kernel_rfl) (by kernel_rfl) (by kernel_rfl) (fun _ _ _ h => h) (by rw [← HCS.out]; exact yields_load_obj (by rfl) 23 (.tmp 9) rfl (w.heap.size + 1) 0 rfl (s.map u8v) (fun w' hb => (Lows.blk hb 13 rfl).all) _ Tryd.underlying23 rfl (cells32 s HS.out)) (by assumption) ?_
  (try simp only [Act.put, List.setIfInBounds_toArray, List.set_cons_zero, List.set_cons_succ])
  refine take_first (v := .agg cf) 33 rfl (by kernel_rfl) (by kernel_rfl) (by kernel_rfl) (fun _ _ _ h => h) (by rw [← HCF.out]; exact yields_load_obj (by rfl) 29 (.tmp 11) rfl (w.heap.size + 1 + 1) 0 rfl (endC fa port) (fun w' hb => (Lows.blk hb 12 rfl).all) _ Tryd.underlying29 rfl HUF.out) (by assumption) ?_
  (try simp only [Act.put, List.setIfInBounds_toArray, List.set_cons_zero, List.set_cons_succ])
  refine take_first (v := .agg cs) 35 rfl (by kernel_rfl) (by kernel_rfl) (by kernel_rfl) (fun _ _ _ h => h) (by rw [← HCS.out]; exact yields_load_obj (by rfl) 23 (.tmp 9) rfl (w.heap.size + 1) 0 rfl (s.map u8v) (fun w' hb => (Lows.blk hb 13 rfl).all) _ Tryd.underlying23 rfl (cells32 s HS.out)) (by assumption) ?_
  (try simp only [Act.put, List.setIfInBounds_toArray, List.set_cons_zero, List.set_cons_succ])
  refine take_first (v := .agg cf) 36 rfl (by kernel_rfl) (by kernel_rfl) (by kernel_rfl) (fun _ _ _ h => h) (by rw [← HCF.out]; exact yields_load_obj (by rfl) 29 (.tmp 11) rfl (w.heap.size + 1 + 1) 0 rfl (endC fa port) (fun w' hb => (Lows.blk hb 12 rfl).all) _ Tryd.underlying29 rfl HUF.out) (by assumption) ?_
  (try simp only [Act.put, List.setIfInBounds_toArray, List.set_cons_zero, List.set_cons_succ])
  refine step_one 34 rfl (by kernel_rfl) (fun K hK => ?_)
  clear hHeld
  go_simp
  refine (HCKP.out _ (HLV.out.below HM.out.bel)).mono ?_
  rintro e wy4 ⟨rfl, hb⟩
  replace HM := Lib.hid (show Lows w [rdL A kd (lp.take kd), blkL G4 30 (mt2.map u8v), rdL A4 92 X2, blkL G3 30 (mt2.map u8v), rdL A3 92 X2, blkL G2 30 (mt1.map u8v), rdL A2 148 X1, blkL G1 30 (mt1.map u8v), rdL A1 148 X1, blkL (w.heap.size + 1 + 1 + 1 + 1 + 1) 37 m2.cells, blkL (w.heap.size + 1 + 1 + 1 + 1) 35 m1.cells, blkL (w.heap.size + 1 + 1 + 1) 30 (ck.map u8v), blkL (w.heap.size + 1 + 1) 29 (endC fa port), blkL (w.heap.size + 1) 23 (s.map u8v), blkL w.heap.size 23 (p.map u8v), rdL A nb lp] wy4 from HM.out.below hb)
  clear hb
  go_wp2_with fail
  refine hK.out _ _ (HM.out) (fun hHeld => ?_)
  clear hK K
  (try simp only [Act.put, List.setIfInBounds_toArray, List.set_cons_zero, List.set_cons_succ])
  refine step_one 37 rfl (by kernel_rfl) (fun K hK => ?_)
  clear hHeld
  go_simp
  refine (HCKR.out _ (HLV.out.below HM.out.bel)).mono ?_
  rintro e wy5 ⟨rfl, hb⟩
  replace HM := Lib.hid (show Lows w [rdL A kd (lp.take kd), blkL G4 30 (mt2.map u8v), rdL A4 92 X2, blkL G3 30 (mt2.map u8v), rdL A3 92 X2, blkL G2 30 (mt1.map u8v), rdL A2 148 X1, blkL G1 30 (mt1.map u8v), rdL A1 148 X1, blkL (w.heap.size + 1 + 1 + 1 + 1 + 1) 37 m2.cells, blkL (w.heap.size + 1 + 1 + 1 + 1) 35 m1.cells, blkL (w.heap.size + 1 + 1 + 1) 30 (ck.map u8v), blkL (w.heap.size + 1 + 1) 29 (endC fa port), blkL (w.heap.size + 1) 23 (s.map u8v), blkL w.heap.size 23 (p.map u8v), rdL A nb lp] wy5 from HM.out.below hb)
  clear hb
  go_wp2_with fail
  refine hK.out _ _ (HM.out) (fun hHeld => ?_)
  clear hK K
  (try simp only [Act.put, List.setIfInBounds_toArray, List.set_cons_zero, List.set_cons_succ])
  refine take_first (v := ?_) 38 rfl (by kernel_rfl) (by kernel_rfl) (by kernel_rfl) (fun _ _ _ h => h) (Or.inl ⟨by rfl, ?_⟩) (by assumption) ?_
  rotate_left
  · (intro w hSw; (try dsimp only at hSw); have e9 := HE4.out w; go_simp; try with_reducible rfl)
  (try simp only [Act.put, List.setIfInBounds_toArray, List.set_cons_zero, List.set_cons_succ])
  refine take_first (v := ?_) 39 rfl (by kernel_rfl) (by kernel_rfl) (by kernel_rfl) (fun _ _ _ h => h) (Or.inl ⟨by rfl, ?_⟩) (by assumption) ?_
  rotate_left
  · (intro w hSw; (try dsimp only at hSw); go_simp; try with_reducible rfl)
  (try simp only [Act.put, List.setIfInBounds_toArray, List.set_cons_zero, List.set_cons_succ])
  refine take_first (v := ?_) 40 rfl (by kernel_rfl) (by kernel_rfl) (by kernel_rfl) (fun _ _ _ h => h) (Or.inl ⟨by rfl, ?_⟩) (by assumption) ?_
  rotate_left
  · (intro w hSw; (try dsimp only at hSw); go_simp; try with_reducible rfl)
  (try simp only [Act.put, List.setIfInBounds_toArray, List.set_cons_zero, List.set_cons_succ])
  refine step_one 41 rfl (by kernel_rfl) (fun K hK => ?_)
  clear hHeld
  go_simp
  refine (HBG.out _ (HLV.out.below HM.out.bel)).mono ?_
  rintro e wy6 ⟨rfl, hb⟩
  replace HM := Lib.hid (show Lows w [rdL A kd (lp.take kd), blkL G4 30 (mt2.map u8v), rdL A4 92 X2, blkL G3 30 (mt2.map u8v), rdL A3 92 X2, blkL G2 30 (mt1.map u8v), rdL A2 148 X1, blkL G1 30 (mt1.map u8v), rdL A1 148 X1, blkL (w.heap.size + 1 + 1 + 1 + 1 + 1) 37 m2.cells, blkL (w.heap.size + 1 + 1 + 1 + 1) 35 m1.cells, blkL (w.heap.size + 1 + 1 + 1) 30 (ck.map u8v), blkL (w.heap.size + 1 + 1) 29 (endC fa port), blkL (w.heap.size + 1) 23 (s.map u8v), blkL w.heap.size 23 (p.map u8v), rdL A nb lp] wy6 from HM.out.below hb)
  clear hb
  go_wp2_with fail
  refine hK.out _ _ (HM.out) (fun hHeld => ?_)
  clear hK K
  (try simp only [Act.put, List.setIfInBounds_toArray, List.set_cons_zero, List.set_cons_succ])
  refine take_first (v := ?_) 42 rfl (by kernel_rfl) (by kernel_rfl) (by kernel_rfl) (fun _ _ _ h => h) (Or.inl ⟨by rfl, ?_⟩) (by assumption) ?_
  rotate_left
  · (intro w hSw; (try dsimp only at hSw); go_simp; try with_reducible rfl)
  (try simp only [Act.put, List.setIfInBounds_toArray, List.set_cons_zero, List.set_cons_succ])
  refine take_first (v := ?_) 43 rfl (by kernel_rfl) (by kernel_rfl) (by kernel_rfl) (fun _ _ _ h => h) (Or.inl ⟨by rfl, ?_⟩) (by assumption) ?_
  rotate_left
  · (intro w hSw; (try dsimp only at hSw); go_simp; try with_reducible rfl)
  (try simp only [Act.put, List.setIfInBounds_toArray, List.set_cons_zero, List.set_cons_succ])
  refine wpAnyH_done (by kernel_rfl) ?_ _
  have HF := Lib.hid HM.out.bel
  clear HM hHeld
  go_wp2_with fail
  go_ret
  exact ⟨rfl, HF.out⟩
end Go.Proofs.YtlddafkikkaonaaDoor
namespace Go.Proofs.YtlddafkikkaonaaDoor
open Go.RowKit

theorem setL_len {α : Type} (l : List α) (off : Nat) (xs : List α) (h : off + xs.length ≤ l.length) : (setL l off xs).length = l.length := by
  simp only [setL, List.length_append, List.length_take, List.length_drop]
  omega
theorem setL_mid {α : Type} (x r a : List α) (q : Nat) (hq : x.length = q) : setL (x ++ r) q a = x ++ a ++ r.drop a.length := by
  subst hq
  rw [setL, List.take_left, ← List.drop_drop, List.drop_left]
theorem set_codes {k : Nat} (hk : k = 1 ∨ k = 2) {m : MsgM} (h : m.ok k) (a b : List UInt8) (ha : a.length = 16) (hb : b.length = 16) (q1 q2 : Nat) (h1 : q1 = msN k + (msB k - 32)) (h2 : q2 = q1 + 16) :
    setL (setL m.cells q1 (a.map u8v)) q2 (b.map u8v) = (MsgM.mk m.nums (m.bs.take (msB k - 32) ++ (a ++ b))).cells := by
  have hB := two_big hk
  have hm : m.cells = (m.nums.map u32c ++ (m.bs.take (msB k - 32)).map u8v) ++ (m.bs.drop (msB k - 32)).map u8v := by
    rw [List.append_assoc, ← List.map_append, List.take_append_drop]; rfl
  have hx : (m.nums.map u32c ++ (m.bs.take (msB k - 32)).map u8v).length = q1 := by
    rw [List.length_append, List.length_map, List.length_map, List.length_take, h.1, h.2.1, h1]; omega
  have hd : (m.bs.drop (msB k - 32)).length = 32 := by rw [List.length_drop, h.2.1]; omega
  rw [hm, setL_mid _ _ _ q1 hx]
  rw [setL_mid (m.nums.map u32c ++ (m.bs.take (msB k - 32)).map u8v ++ a.map u8v) _ _ q2 (by rw [List.length_append, hx, List.length_map, ha, h2])]
  rw [List.drop_of_length_le (by rw [List.length_drop, List.length_map, List.length_map, List.length_map, hd, ha, hb]; decide), List.append_nil]
  simp only [MsgM.cells, List.map_append, List.append_assoc]
end Go.Proofs.YtlddafkikkaonaaDoor
namespace Go.Proofs.YtlddafkikkaonaaDoor
open Go.RowKit

/-- what is asked of an encoder whose bytes lie in memory of its own -/
def MsEncNC (F k : Nat) : Prop := ∀ m : MsgM, m.ok k → ∀ w : World,
  Calls Tryd.prog F #[.agg m.cells.toArray] w fun e w' => ∃ A c, e = .returned (.slice A (msLen k) c) ∧ msLen k ≤ c ∧ c ≤ maxLen ∧ RdIn w.heap.size w'.heap.size A (msLen k) (encB k m) w' ∧ Below w.heap.size w w'
end Go.Proofs.YtlddafkikkaonaaDoor
namespace Go.Proofs.YtlddafkikkaonaaDoor
open Go.RowKit

/-- a message with other codes -/
def withC (k : Nat) (m : MsgM) (f s : List UInt8) : MsgM := ⟨m.nums, m.bs.take (msB k - 32) ++ (f ++ s)⟩
section
variable {k : Nat} {m : MsgM} {f s f' s' : List UInt8}
theorem withC_ok (hk : k = 1 ∨ k = 2) (h : m.ok k) (hf : f.length = 16) (hs : s.length = 16) : (withC k m f s).ok k := by
  refine ⟨h.1, ?_, h.2.2⟩
  have := two_big hk
  simp only [withC, List.length_append, hf, hs, List.length_take, h.2.1]
  omega
theorem withC_twice (h : m.ok k) (hk : k = 1 ∨ k = 2) : withC k (withC k m f s) f' s' = withC k m f' s' := by
  have := two_big hk
  simp only [withC]
  rw [List.take_append_of_le_length (by rw [List.length_take, h.2.1]; omega), List.take_take, Nat.min_self]
theorem withC_enc (hk : k = 1 ∨ k = 2) (h : m.ok k) : encB k (withC k m f s) = (encB k m).take (msLen k - 32) ++ (f ++ s) := by
  rw [enc_take hk h]
  simp only [encB, withC, List.append_assoc]
theorem withC_pre (hk : k = 1 ∨ k = 2) (h : m.ok k) : (encB k (withC k m f s)).take (msLen k - 32) = (encB k m).take (msLen k - 32) := by
  rw [withC_enc hk h, List.take_left' (pre_length h)]
theorem withC_pre2 (hk : k = 1 ∨ k = 2) (h : m.ok k) (hf : f.length = 16) : (encB k (withC k m f s)).take (msLen k - 16) = (encB k m).take (msLen k - 32) ++ f := by
  have hl := two_len hk
  rw [withC_enc hk h, ← List.append_assoc, List.take_left' (by rw [List.length_append, pre_length h, hf]; omega)]
end
/-- what is asked of the function that encodes a message with two codes: the message lies in a variable that the function keeps -/
def McEncF (F k T : Nat) : Prop := ∀ m : MsgM, m.ok k → ∀ f s : List UInt8, f.length = 16 → s.length = 16 → ∀ (w0 w : World) (E : List Ent) (i G : Nat), E[i]? = some (blkE G T m.cells) → Mem w0 E w →
  Calls Tryd.prog F #[.agg (f.map u8v).toArray, .agg (s.map u8v).toArray, .pointer (some ⟨G, 0, none⟩)] w fun e w' => ∃ A c, e = .returned (.slice A (msLen k) c) ∧ msLen k ≤ c ∧ c ≤ maxLen ∧ Mem w0 (rdE w.heap.size w'.heap.size A (msLen k) (encB k (withC k m f s)) :: E.set i (blkE G T (withC k m f s).cells)) w'
theorem mem_set_get {E : List Ent} {i : Nat} {a b : Ent} (h : E[i]? = some a) : (E.set i b)[i]? = some b := by
  rw [List.getElem?_set_self (List.getElem?_eq_some_iff.1 h).1]
theorem mem_set_set {E : List Ent} {i : Nat} {a b : Ent} : (E.set i a).set i b = E.set i b := by simp
theorem widen {w0 w W : World} {lo hi n : Nat} {A : Option Addr} {l : List UInt8} {b1 b2 : Ent} {E : List Ent} (h : Mem w0 (rdE lo hi A n l :: b2 :: b1 :: E) W) (hw : b1.lo = w.heap.size) (h2 : b2.lo = w.heap.size + 1) (hhi : hi = W.heap.size) : Mem w0 (rdE w.heap.size W.heap.size A n l :: E) W := by
  obtain ⟨⟨q1, q2, q3, ⟨r1, r2, r3, ⟨s1, s2, s3, s4⟩⟩⟩, hb⟩ := h
  subst hhi
  refine ⟨⟨Nat.le_refl _, ?_, RdIn.from_ q3 ?_, ?_⟩, hb⟩
  all_goals first | (show w.heap.size ≤ _; simp only [rdE] at *; omega) | (rw [← hw]; exact s4)
theorem widen5 {w0 w W : World} {lo hi n : Nat} {A : Option Addr} {l : List UInt8} {b1 b2 b3 b4 b5 : Ent} {E : List Ent} (h : Mem w0 (rdE lo hi A n l :: b5 :: b4 :: b3 :: b2 :: b1 :: E) W) (hw : b1.lo = w.heap.size) : Mem w0 (rdE w.heap.size W.heap.size A n l :: E) W := by
  obtain ⟨⟨q1, q2, q3, ⟨r1, r2, _, ⟨s1, s2, _, ⟨t1, t2, _, ⟨u1, u2, _, ⟨v1, v2, _, h4⟩⟩⟩⟩⟩⟩, hb⟩ := h
  have hlo : w.heap.size ≤ lo := by show w.heap.size ≤ (rdE lo hi A n l).lo; omega
  refine ⟨⟨Nat.le_refl _, ?_, ⟨q3.1, fun hn => ?_⟩, ?_⟩, hb⟩
  · show w.heap.size ≤ W.heap.size
    exact Nat.le_trans hlo (Nat.le_trans q2 q1)
  · obtain ⟨b, off, e, h1, h2, hc⟩ := q3.2 hn
    exact ⟨b, off, e, Nat.le_trans hlo h1, Nat.lt_of_lt_of_le h2 q1, hc⟩
  · show MemE w0.heap.size E w.heap.size W
    rw [← hw]; exact h4
theorem Mem.rdIn0 {w0 W : World} {lo hi lo' n g : Nat} {t : TypeId} {cs : List Value} {A : Option Addr} {l : List UInt8} {E : List Ent} (h : Mem w0 (rdE lo hi A n l :: blkE g t cs :: E) W) (hg : lo' ≤ g) : RdIn lo' W.heap.size A n l W := by
  obtain ⟨⟨q1, q2, q3, ⟨r1, _⟩⟩, _⟩ := h
  refine ⟨q3.1, fun hn => ?_⟩
  obtain ⟨b, off, e, h1, h2, hc⟩ := q3.2 hn
  exact ⟨b, off, e, Nat.le_trans hg (Nat.le_trans (Nat.le_of_succ_le r1) h1), Nat.lt_of_lt_of_le h2 q1, hc⟩
end Go.Proofs.YtlddafkikkaonaaDoor
namespace Go.Proofs.YtlddafkikkaonaaDoor
open Go.RowKit

theorem run_text (w : World) (s : ByteArray) : (convert 9 24 (.string s)).run Tryd.prog w = .ok (.slice (some ⟨w.heap.size, 0, none⟩) s.size (grownCap w s.size 0 5)) (Lib.bytesWorld w 5 s) :=
  Lib.run_convert_string_bytes w 9 24 5 s Tryd.underlying9 Tryd.underlying24 Tryd.underlying5
theorem text_below (w : World) (s : ByteArray) : Below w.heap.size w (Lib.bytesWorld w 5 s) := by
  refine ⟨?_, ?_, ?_, by rw [Lib.bytesWorld_size]; omega, fun k hk => Lib.bytesWorld_at_old w _ s k hk⟩
  all_goals simp [Lib.bytesWorld, World.freeze, World.alloc, World.drew, -World.alloc_eq, -World.drew_eq]
theorem text_in (w : World) (s : ByteArray) (l : List UInt8) (hs : s.data.toList = l) (n : Nat) (hn : s.size = n) : RdIn w.heap.size (Lib.bytesWorld w 5 s).heap.size (some ⟨w.heap.size, 0, none⟩) n l (Lib.bytesWorld w 5 s) := by
  have hl : l.length = n := by rw [← hs, ← hn]; exact Array.length_toList
  refine ⟨hl, fun _ => ⟨w.heap.size, 0, rfl, Nat.le_refl _, by rw [Lib.bytesWorld_size]; omega, fun j hj => ?_⟩⟩
  rw [Nat.zero_add, Lib.bytesWorld_cell w _ s j (by omega), hs, List.getD_eq_getElem?_getD, List.getElem?_eq_getElem hj]
  rfl
end Go.Proofs.YtlddafkikkaonaaDoor
namespace Go.Proofs.YtlddafkikkaonaaDoor
open Go.RowKit

theorem results_tmp4 {fn : Func} {t u v x : Tmp} (h : fn.results = #[.tmp t, .tmp u, .tmp v, .tmp x]) (tmps : Array Value) (P : Program) (w : World) :
    (results fn tmps).run P w = .ok (.tuple #[tmps.getD t undef, tmps.getD u undef, tmps.getD v undef, tmps.getD x undef]) w := by
  simp [results, h]

end Go.Proofs.YtlddafkikkaonaaDoor
