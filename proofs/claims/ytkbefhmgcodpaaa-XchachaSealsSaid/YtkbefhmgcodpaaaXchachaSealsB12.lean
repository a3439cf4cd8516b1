/-
  The contracts of xchacha.divide, Seal and Open. XchachaSeals returns true for every input, by what the landed functions give. No statement is proved here.
-/
import Derived.Test.YtkbefhmgcodpaaaXchachaSealsB11
namespace Go.Proofs.Ytkbefhmgcodpaaa
open Go.RowKit

set_option maxRecDepth 100000 in
set_option maxHeartbeats 8000000 in
theorem xcDivide_any (k n : List UInt8) (hk : k.length = 32) (hn : n.length = 24) (w : World) :
    Calls Try.prog 21 #[.agg (k.map u8v).toArray, .agg (n.map u8v).toArray] w fun e w' => e = .returned (.tuple #[.agg ((longK k n).map u8v).toArray, .agg ((longN n).map u8v).toArray]) ∧ Below w.heap.size w w' := by
  have h16 : (n.take 16).length = 16 := by rw [List.length_take, hn]; rfl
  have h8 : (n.drop 16).length = 8 := by rw [List.length_drop, hn]
  have DC := fun w' : World => deriveC k (n.take 16) hk h16 w'
  rw [show deriveL k (n.take 16) = longK k n from rfl] at DC
  obtain ⟨ck, hck⟩ : ∃ ck, (k.map u8v).toArray = ck := ⟨_, rfl⟩
  obtain ⟨cn, hcn⟩ : ∃ c, (n.map u8v).toArray = c := ⟨_, rfl⟩
  obtain ⟨ci, hci⟩ : ∃ c, ((n.take 16).map u8v).toArray = c := ⟨_, rfl⟩
  obtain ⟨cd, hcd⟩ : ∃ c, ((longK k n).map u8v).toArray = c := ⟨_, rfl⟩
  obtain ⟨co, hco⟩ : ∃ c, ((longN n).map u8v).toArray = c := ⟨_, rfl⟩
  rw [hck, hci, hcd] at DC
  rw [hck, hcn]
  have HM := Lib.hid (show Mem w [blkE (w.heap.size + 1 + 1 + 1 + 1) 24 ((List.replicate 16 (0 : UInt8)).map u8v), blkE (w.heap.size + 1 + 1 + 1) 39 (aeZ 12), blkE (w.heap.size + 1 + 1) 23 (aeZ 32), blkE (w.heap.size + 1) 26 (n.map u8v), blkE w.heap.size 23 (k.map u8v)] (((((w.alloc (.cells ck 23)).alloc (.cells cn 26)).alloc (.cells #[.int .u8 0, .int .u8 0, .int .u8 0, .int .u8 0, .int .u8 0, .int .u8 0, .int .u8 0, .int .u8 0, .int .u8 0, .int .u8 0, .int .u8 0, .int .u8 0, .int .u8 0, .int .u8 0, .int .u8 0, .int .u8 0, .int .u8 0, .int .u8 0, .int .u8 0, .int .u8 0, .int .u8 0, .int .u8 0, .int .u8 0, .int .u8 0, .int .u8 0, .int .u8 0, .int .u8 0, .int .u8 0, .int .u8 0, .int .u8 0, .int .u8 0, .int .u8 0] 23)).alloc (.cells #[.int .u8 0, .int .u8 0, .int .u8 0, .int .u8 0, .int .u8 0, .int .u8 0, .int .u8 0, .int .u8 0, .int .u8 0, .int .u8 0, .int .u8 0, .int .u8 0] 39)).alloc (.cells #[.int .u8 0, .int .u8 0, .int .u8 0, .int .u8 0, .int .u8 0, .int .u8 0, .int .u8 0, .int .u8 0, .int .u8 0, .int .u8 0, .int .u8 0, .int .u8 0, .int .u8 0, .int .u8 0, .int .u8 0, .int .u8 0] 24)) from (((((((((((Mem.nil w)).alloc rfl 23 ck (k.map u8v) hck.symm)).alloc (by simp) 26 cn (n.map u8v) hcn.symm)).alloc (by simp) 23 #[.int .u8 0, .int .u8 0, .int .u8 0, .int .u8 0, .int .u8 0, .int .u8 0, .int .u8 0, .int .u8 0, .int .u8 0, .int .u8 0, .int .u8 0, .int .u8 0, .int .u8 0, .int .u8 0, .int .u8 0, .int .u8 0, .int .u8 0, .int .u8 0, .int .u8 0, .int .u8 0, .int .u8 0, .int .u8 0, .int .u8 0, .int .u8 0, .int .u8 0, .int .u8 0, .int .u8 0, .int .u8 0, .int .u8 0, .int .u8 0, .int .u8 0, .int .u8 0] (aeZ 32) rfl)).alloc (by simp) 39 #[.int .u8 0, .int .u8 0, .int .u8 0, .int .u8 0, .int .u8 0, .int .u8 0, .int .u8 0, .int .u8 0, .int .u8 0, .int .u8 0, .int .u8 0, .int .u8 0] (aeZ 12) rfl)).alloc (by simp) 24 #[.int .u8 0, .int .u8 0, .int .u8 0, .int .u8 0, .int .u8 0, .int .u8 0, .int .u8 0, .int .u8 0, .int .u8 0, .int .u8 0, .int .u8 0, .int .u8 0, .int .u8 0, .int .u8 0, .int .u8 0, .int .u8 0] ((List.replicate 16 (0 : UInt8)).map u8v) rfl))
  have HC := Lib.hid (And.intro hck (And.intro hci (And.intro hco hcd)))
  have HL := Lib.hid (And.intro hk hn)
  have HL16 := Lib.hid h16
  have HL8 := Lib.hid h8
  have HLN := Lib.hid (longN_length n hn)
  have HDC := Lib.hid DC
  clear hck hcn hci hcd hco hk hn h16 h8 DC
  go_enter Try.func21, Try.ntmps21
  go_upto_region 2 with fail
  generalize (((((w.alloc (.cells ck 23)).alloc (.cells cn 26)).alloc (.cells #[.int .u8 0, .int .u8 0, .int .u8 0, .int .u8 0, .int .u8 0, .int .u8 0, .int .u8 0, .int .u8 0, .int .u8 0, .int .u8 0, .int .u8 0, .int .u8 0, .int .u8 0, .int .u8 0, .int .u8 0, .int .u8 0, .int .u8 0, .int .u8 0, .int .u8 0, .int .u8 0, .int .u8 0, .int .u8 0, .int .u8 0, .int .u8 0, .int .u8 0, .int .u8 0, .int .u8 0, .int .u8 0, .int .u8 0, .int .u8 0, .int .u8 0, .int .u8 0] 23)).alloc (.cells #[.int .u8 0, .int .u8 0, .int .u8 0, .int .u8 0, .int .u8 0, .int .u8 0, .int .u8 0, .int .u8 0, .int .u8 0, .int .u8 0, .int .u8 0, .int .u8 0] 39)).alloc (.cells #[.int .u8 0, .int .u8 0, .int .u8 0, .int .u8 0, .int .u8 0, .int .u8 0, .int .u8 0, .int .u8 0, .int .u8 0, .int .u8 0, .int .u8 0, .int .u8 0, .int .u8 0, .int .u8 0, .int .u8 0, .int .u8 0] 24)) = w1 at HM ⊢
  refine wp_region_held_drew (S := fun W' => Mem w [blkE (w.heap.size + 1 + 1 + 1) 39 (aeZ 12), blkE (w.heap.size + 1 + 1) 23 (aeZ 32), blkE (w.heap.size + 1) 26 (n.map u8v), blkE w.heap.size 23 (k.map u8v)] W') (by kernel_rfl) ((HM.out.erase 0).drew) (fun hHeld => ?_)
  replace HM := Lib.hid HM.out.drew
  generalize w1.drew = wd1 at HM hHeld ⊢
  refine take_first (v := ?_) 0 rfl (by kernel_rfl) (by kernel_rfl) (by kernel_rfl) (fun _ _ _ h => h) (Or.inl ⟨by rfl, ?_⟩) (by assumption) ?_
  rotate_left
  · (intro w hSw; (try dsimp only at hSw); go_simp; try with_reducible rfl)
  (try simp only [Act.put, List.setIfInBounds_toArray, List.set_cons_zero, List.set_cons_succ])
  refine take_first (v := ?_) 1 rfl (by kernel_rfl) (by kernel_rfl) (by kernel_rfl) (fun _ _ _ h => h) (Or.inl ⟨by rfl, ?_⟩) (by assumption) ?_
  rotate_left
  · (intro w hSw; (try dsimp only at hSw); go_simp; try with_reducible rfl)
  (try simp only [Act.put, List.setIfInBounds_toArray, List.set_cons_zero, List.set_cons_succ])
  refine step_one 2 rfl (by kernel_rfl) (fun K hK => ?_)
  clear hHeld
  refine step_copy_bytes _ rfl (.tmp 8) (.tmp 9) 27 27 (by rfl) 5 Try.underlying27 (by kernel_rfl) (w.heap.size + 1 + 1 + 1 + 1) 0 16 16 ⟨(w.heap.size + 1), 0, none⟩ 24 24 (by rfl) (by rfl) ((List.replicate 16 (0 : UInt8)).map u8v) 24 (HM.out.blk 0 rfl) ((n.take 16).map u8v) (by rw [List.length_map, HL16.out]; rfl) (show Rd wd1 (w.heap.size + 1 + 1) (some ⟨w.heap.size + 1, 0, none⟩) 16 (n.take 16) from by have h := ((HM.out.blk 3 rfl).rd 0 16 (by rw [HL.out.2]; omega)); rwa [List.drop_zero] at h).src (by rw [List.length_map, List.length_map, HL16.out]; decide) (u8v_one _) ?_
  intro wy2 hb hg
  rw [putL_map] at hb
  replace HM := Lib.hid (show Mem w [blkE (w.heap.size + 1 + 1 + 1 + 1) 24 ((putL (List.replicate 16 0) 0 (n.take 16)).map u8v), blkE (w.heap.size + 1 + 1 + 1) 39 (aeZ 12), blkE (w.heap.size + 1 + 1) 23 (aeZ 32), blkE (w.heap.size + 1) 26 (n.map u8v), blkE w.heap.size 23 (k.map u8v)] wy2 from HM.out.put 0 rfl _ hg hb)
  clear hb hg
  refine hK.out _ _ (HM.out.erase 0) (fun hHeld => ?_)
  clear hK K
  (try simp only [Act.put, List.setIfInBounds_toArray, List.set_cons_zero, List.set_cons_succ])
  refine wpAnyH_done (by kernel_rfl) ?_ _
  have hp1 : putL (List.replicate 16 0) 0 (n.take 16) = n.take 16 := by
    rw [putL, List.take_zero, List.nil_append, HL16.out, List.drop_of_length_le (by simp), List.append_nil]
  rw [hp1] at HM
  clear hp1 hHeld
  generalize hw4 : wy2 = w3 at HM ⊢
  clear hw4
  have HA := Lib.hid (show Mem w [blkE w3.heap.size 39 ((List.replicate 12 (0 : UInt8)).map u8v), blkE (w.heap.size + 1 + 1 + 1 + 1) 24 ((n.take 16).map u8v), blkE (w.heap.size + 1 + 1 + 1) 39 (aeZ 12), blkE (w.heap.size + 1 + 1) 23 (aeZ 32), blkE (w.heap.size + 1) 26 (n.map u8v), blkE w.heap.size 23 (k.map u8v)] (w3.alloc (.cells #[.int .u8 0, .int .u8 0, .int .u8 0, .int .u8 0, .int .u8 0, .int .u8 0, .int .u8 0, .int .u8 0, .int .u8 0, .int .u8 0, .int .u8 0, .int .u8 0] 39)) from HM.out.alloc rfl 39 #[.int .u8 0, .int .u8 0, .int .u8 0, .int .u8 0, .int .u8 0, .int .u8 0, .int .u8 0, .int .u8 0, .int .u8 0, .int .u8 0, .int .u8 0, .int .u8 0] ((List.replicate 12 (0 : UInt8)).map u8v) rfl)
  go_upto_region 4 with fail
  replace HM := HA
  clear HA
  generalize w3.alloc (.cells #[.int .u8 0, .int .u8 0, .int .u8 0, .int .u8 0, .int .u8 0, .int .u8 0, .int .u8 0, .int .u8 0, .int .u8 0, .int .u8 0, .int .u8 0, .int .u8 0] 39) = w4 at HM ⊢
  generalize w3.heap.size = Q at HM ⊢
  refine wp_region_held_drew (S := fun W' => Mem w [blkE (w.heap.size + 1 + 1 + 1 + 1) 24 ((n.take 16).map u8v), blkE (w.heap.size + 1 + 1 + 1) 39 (aeZ 12), blkE (w.heap.size + 1 + 1) 23 (aeZ 32), blkE (w.heap.size + 1) 26 (n.map u8v), blkE w.heap.size 23 (k.map u8v)] W') (by kernel_rfl) ((HM.out.erase 0).drew) (fun hHeld => ?_)
  replace HM := Lib.hid HM.out.drew
  generalize w4.drew = wd2 at HM hHeld ⊢
  refine take_first (v := ?_) 0 rfl (by kernel_rfl) (by kernel_rfl) (by kernel_rfl) (fun _ _ _ h => h) (Or.inl ⟨by rfl, ?_⟩) (by assumption) ?_
  rotate_left
  · (intro w hSw; (try dsimp only at hSw); go_simp; try with_reducible rfl)
  (try simp only [Act.put, List.setIfInBounds_toArray, List.set_cons_zero, List.set_cons_succ])
  refine take_first (v := ?_) 1 rfl (by kernel_rfl) (by kernel_rfl) (by kernel_rfl) (fun _ _ _ h => h) (Or.inl ⟨by rfl, ?_⟩) (by assumption) ?_
  rotate_left
  · (intro w hSw; (try dsimp only at hSw); go_simp; try with_reducible rfl)
  (try simp only [Act.put, List.setIfInBounds_toArray, List.set_cons_zero, List.set_cons_succ])
  refine step_one 2 rfl (by kernel_rfl) (fun K hK => ?_)
  clear hHeld
  refine step_copy_bytes _ rfl (.tmp 11) (.tmp 12) 27 27 (by rfl) 5 Try.underlying27 (by kernel_rfl) Q 4 8 8 ⟨(w.heap.size + 1), 16, none⟩ 8 8 (by rfl) (by rfl) ((List.replicate 12 (0 : UInt8)).map u8v) 39 (HM.out.blk 0 rfl) ((n.drop 16).map u8v) (by rw [List.length_map, HL8.out]; rfl) (show Rd wd2 (w.heap.size + 1 + 1) (some ⟨w.heap.size + 1, 16, none⟩) 8 (n.drop 16) from by have h := ((HM.out.blk 4 rfl).rd 16 8 (by rw [HL.out.2]; omega)); rwa [List.take_of_length_le (by rw [HL8.out]; omega)] at h).src (by rw [List.length_map, List.length_map, HL8.out]; decide) (u8v_one _) ?_
  intro wz2 hb hg
  rw [putL_map] at hb
  replace HM := Lib.hid (show Mem w [blkE Q 39 ((putL (List.replicate 12 0) 4 (n.drop 16)).map u8v), blkE (w.heap.size + 1 + 1 + 1 + 1) 24 ((n.take 16).map u8v), blkE (w.heap.size + 1 + 1 + 1) 39 (aeZ 12), blkE (w.heap.size + 1 + 1) 23 (aeZ 32), blkE (w.heap.size + 1) 26 (n.map u8v), blkE w.heap.size 23 (k.map u8v)] wz2 from HM.out.put 0 rfl _ hg hb)
  clear hb hg
  refine hK.out _ _ (HM.out.erase 0) (fun hHeld => ?_)
  clear hK K
  (try simp only [Act.put, List.setIfInBounds_toArray, List.set_cons_zero, List.set_cons_succ])
  refine wpAnyH_done (by kernel_rfl) ?_ _
  have hp2 : putL (List.replicate 12 0) 4 (n.drop 16) = longN n := by
    rw [putL, HL8.out, show (List.replicate 12 (0 : UInt8)).drop (4 + 8) = [] from rfl, List.append_nil]; rfl
  rw [hp2] at HM
  clear hp2 hHeld
  go_upto_region 5 with fail
  generalize hw7 : wz2 = w7 at HM ⊢
  clear hw7
  refine wp_region_held_drew (S := fun W' => Mem w [blkE Q 39 ((longN n).map u8v), blkE (w.heap.size + 1 + 1 + 1 + 1) 24 ((n.take 16).map u8v), blkE (w.heap.size + 1) 26 (n.map u8v), blkE w.heap.size 23 (k.map u8v)] W') (by kernel_rfl) (((HM.out.erase 2).erase 2).drew) (fun hHeld => ?_)
  replace HM := Lib.hid HM.out.drew
  generalize w7.drew = wd1 at HM hHeld ⊢
  refine take_first (v := .agg ck) 0 rfl (by kernel_rfl) (by kernel_rfl) (by kernel_rfl) (fun _ _ _ h => h) (by rw [← HC.out.1]; exact yields_load_blk (by rfl) 23 (.tmp 2) rfl w.heap.size rfl 23 (k.map u8v) (fun w' hb => hb.blk 3 rfl) 32 5 Try.underlying23 (cells32 k HL.out.1)) (by assumption) ?_
  (try simp only [Act.put, List.setIfInBounds_toArray, List.set_cons_zero, List.set_cons_succ])
  refine take_first (v := .agg ci) 1 rfl (by kernel_rfl) (by kernel_rfl) (by kernel_rfl) (fun _ _ _ h => h) (by rw [← HC.out.2.1]; exact yields_load_blk (by rfl) 24 (.tmp 6) rfl (w.heap.size + 1 + 1 + 1 + 1) rfl 24 ((n.take 16).map u8v) (fun w' hb => hb.blk 1 rfl) 16 5 Try.underlying24 (xc_cells16 _ HL16.out)) (by assumption) ?_
  (try simp only [Act.put, List.setIfInBounds_toArray, List.set_cons_zero, List.set_cons_succ])
  refine take_first (v := .agg co) 3 rfl (by kernel_rfl) (by kernel_rfl) (by kernel_rfl) (fun _ _ _ h => h) (by rw [← HC.out.2.2.1]; exact yields_load_blk (by rfl) 39 (.tmp 7) rfl Q rfl 39 ((longN n).map u8v) (fun w' hb => hb.blk 0 rfl) 12 5 Try.underlying39 (ae_cellsN _ HLN.out)) (by assumption) ?_
  (try simp only [Act.put, List.setIfInBounds_toArray, List.set_cons_zero, List.set_cons_succ])
  refine step_one 2 rfl (by kernel_rfl) (fun K hK => ?_)
  clear hHeld
  go_simp
  refine (HDC.out _).mono ?_
  rintro e wy2 ⟨rfl, hb⟩
  replace HM := Lib.hid (show Mem w [blkE Q 39 ((longN n).map u8v), blkE (w.heap.size + 1 + 1 + 1 + 1) 24 ((n.take 16).map u8v), blkE (w.heap.size + 1 + 1 + 1) 39 (aeZ 12), blkE (w.heap.size + 1 + 1) 23 (aeZ 32), blkE (w.heap.size + 1) 26 (n.map u8v), blkE w.heap.size 23 (k.map u8v)] wy2 from HM.out.below hb)
  clear hb
  go_wp2_with fail
  refine hK.out _ _ ((HM.out.erase 2).erase 2) (fun hHeld => ?_)
  clear hK K
  (try simp only [Act.put, List.setIfInBounds_toArray, List.set_cons_zero, List.set_cons_succ])
  refine step_one 4 rfl (by kernel_rfl) (fun K hK => ?_)
  clear hHeld
  refine step_store_blk _ rfl 23 (.tmp 4) (.tmp 16) rfl (w.heap.size + 1 + 1) ((longK k n).map u8v) rfl (by show Value.agg cd = _; rw [HC.out.2.2.2]) 23 (aeZ 32) (HM.out.blk 3 rfl) (cells32 _ (longK_length k n)) (by rw [List.length_map, longK_length]; rfl) (u8v_one _) ?_
  intro wy3 hb hg
  replace HM := Lib.hid (show Mem w [blkE Q 39 ((longN n).map u8v), blkE (w.heap.size + 1 + 1 + 1 + 1) 24 ((n.take 16).map u8v), blkE (w.heap.size + 1 + 1 + 1) 39 (aeZ 12), blkE (w.heap.size + 1 + 1) 23 ((longK k n).map u8v), blkE (w.heap.size + 1) 26 (n.map u8v), blkE w.heap.size 23 (k.map u8v)] wy3 from HM.out.put 3 rfl _ hg hb)
  clear hb hg
  refine hK.out _ _ ((HM.out.erase 2).erase 2) (fun hHeld => ?_)
  clear hK K
  (try simp only [Act.put])
  refine step_one 5 rfl (by kernel_rfl) (fun K hK => ?_)
  clear hHeld
  refine step_store_blk _ rfl 39 (.tmp 5) (.tmp 17) rfl (w.heap.size + 1 + 1 + 1) ((longN n).map u8v) rfl (by show Value.agg co = _; rw [HC.out.2.2.1]) 39 (aeZ 12) (HM.out.blk 2 rfl) (ae_cellsN _ HLN.out) (by rw [List.length_map, HLN.out]; rfl) (u8v_one _) ?_
  intro wy4 hb hg
  replace HM := Lib.hid (show Mem w [blkE Q 39 ((longN n).map u8v), blkE (w.heap.size + 1 + 1 + 1 + 1) 24 ((n.take 16).map u8v), blkE (w.heap.size + 1 + 1 + 1) 39 ((longN n).map u8v), blkE (w.heap.size + 1 + 1) 23 ((longK k n).map u8v), blkE (w.heap.size + 1) 26 (n.map u8v), blkE w.heap.size 23 (k.map u8v)] wy4 from HM.out.put 2 rfl _ hg hb)
  clear hb hg
  refine hK.out _ _ ((HM.out.erase 2).erase 2) (fun hHeld => ?_)
  clear hK K
  (try simp only [Act.put])
  refine wpAnyH_done (by kernel_rfl) ?_ _
  go_wp2_with fail
  exact bodyPost_ret (results_blk2 rfl _ _ (w.heap.size + 1 + 1) 23 ((longK k n).map u8v) 32 5 rfl (HM.out.blk 3 rfl) Try.underlying23 (cells32 _ (longK_length k n)) (w.heap.size + 1 + 1 + 1) 39 ((longN n).map u8v) 12 5 rfl (HM.out.blk 2 rfl) Try.underlying39 (ae_cellsN _ HLN.out)) rfl ⟨rfl, HM.out.bel⟩


set_option maxRecDepth 100000 in
set_option maxHeartbeats 4000000 in
theorem xsealC : XSealC := by
  intro k n hk hn Ap Am np cp nm cm pl more hnp hcp hnm hcm h1 h2 w hrp hrm
  have SH := fun w' : World => xcDivide_any k n hk hn w'
  have SE := sealC (longK k n) (longN n) (longK_length k n) (longN_length n hn)
  have HLN := Lib.hid (longN_length n hn)
  obtain ⟨ck, hck⟩ : ∃ ck, (k.map u8v).toArray = ck := ⟨_, rfl⟩
  obtain ⟨cn, hcn⟩ : ∃ c, (n.map u8v).toArray = c := ⟨_, rfl⟩
  obtain ⟨cd, hcd⟩ : ∃ c, ((longK k n).map u8v).toArray = c := ⟨_, rfl⟩
  obtain ⟨co, hco⟩ : ∃ c, ((longN n).map u8v).toArray = c := ⟨_, rfl⟩
  rw [hck, hcn, hcd, hco] at SH
  rw [hcd, hco] at SE
  rw [hck, hcn]
  have HM := Lib.hid (show Mem w [blkE (w.heap.size + 1) 26 (n.map u8v), blkE w.heap.size 23 (k.map u8v)] ((w.alloc (.cells ck 23)).alloc (.cells cn 26)) from ((Mem.nil w).alloc rfl 23 ck (k.map u8v) hck.symm).alloc (by simp) 26 cn (n.map u8v) hcn.symm)
  have HC := Lib.hid (And.intro hck (And.intro hcn (And.intro hcd hco)))
  have HL := Lib.hid (And.intro hk hn)
  have HSH := Lib.hid SH
  have HSE := Lib.hid SE
  clear hck hcn hcd hco hk hn SH SE
  go_enter Try.func9, Try.ntmps9
  go_upto_region 1 with fail
  generalize ((w.alloc (.cells ck 23)).alloc (.cells cn 26)) = w1 at HM ⊢
  go_wp2_with (first | (refine wpList_load_blk rfl 23 (.tmp 4) rfl w.heap.size rfl 23 (k.map u8v) (HM.out.blk 1 rfl) 32 5 Try.underlying23 (cells32 k HL.out.1) ?_; rw [HC.out.1]) | (refine wpList_load_blk rfl 26 (.tmp 5) rfl (w.heap.size + 1) rfl 26 (n.map u8v) (HM.out.blk 0 rfl) 24 5 Try.underlying26 (xc_cellsL n HL.out.2) ?_; rw [HC.out.2.1]))
  refine (HSH.out _).mono ?_
  rintro e w2 ⟨rfl, hb⟩
  replace HM := Lib.hid (show Mem w [blkE (w.heap.size + 1) 26 (n.map u8v), blkE w.heap.size 23 (k.map u8v)] w2 from HM.out.below hb)
  clear hb
  have HA := Lib.hid (show Mem w [blkE (w2.heap.size + 1) 39 (aeZ 12), blkE w2.heap.size 23 (aeZ 32), blkE (w.heap.size + 1) 26 (n.map u8v), blkE w.heap.size 23 (k.map u8v)] ((w2.alloc (.cells #[.int .u8 0, .int .u8 0, .int .u8 0, .int .u8 0, .int .u8 0, .int .u8 0, .int .u8 0, .int .u8 0, .int .u8 0, .int .u8 0, .int .u8 0, .int .u8 0, .int .u8 0, .int .u8 0, .int .u8 0, .int .u8 0, .int .u8 0, .int .u8 0, .int .u8 0, .int .u8 0, .int .u8 0, .int .u8 0, .int .u8 0, .int .u8 0, .int .u8 0, .int .u8 0, .int .u8 0, .int .u8 0, .int .u8 0, .int .u8 0, .int .u8 0, .int .u8 0] 23)).alloc (.cells #[.int .u8 0, .int .u8 0, .int .u8 0, .int .u8 0, .int .u8 0, .int .u8 0, .int .u8 0, .int .u8 0, .int .u8 0, .int .u8 0, .int .u8 0, .int .u8 0] 39)) from (HM.out.alloc rfl 23 #[.int .u8 0, .int .u8 0, .int .u8 0, .int .u8 0, .int .u8 0, .int .u8 0, .int .u8 0, .int .u8 0, .int .u8 0, .int .u8 0, .int .u8 0, .int .u8 0, .int .u8 0, .int .u8 0, .int .u8 0, .int .u8 0, .int .u8 0, .int .u8 0, .int .u8 0, .int .u8 0, .int .u8 0, .int .u8 0, .int .u8 0, .int .u8 0, .int .u8 0, .int .u8 0, .int .u8 0, .int .u8 0, .int .u8 0, .int .u8 0, .int .u8 0, .int .u8 0] (aeZ 32) rfl).alloc (by simp) 39 #[.int .u8 0, .int .u8 0, .int .u8 0, .int .u8 0, .int .u8 0, .int .u8 0, .int .u8 0, .int .u8 0, .int .u8 0, .int .u8 0, .int .u8 0, .int .u8 0] (aeZ 12) rfl)
  go_upto_region 2 with (first | (refine wpList_store_blk rfl 23 (.tmp 9) (.tmp 15) rfl w2.heap.size ((longK k n).map u8v) rfl (by show Value.agg cd = _; rw [HC.out.2.2.1]) 23 (aeZ 32) (HA.out.blk 1 rfl) (cells32 _ (longK_length k n)) (by rw [List.length_map, longK_length]; rfl) (u8v_one _) ?_; intro w3 hb3 hg3) | (refine wpList_store_blk rfl 39 (.tmp 10) (.tmp 16) rfl (w2.heap.size + 1) ((longN n).map u8v) rfl (by show Value.agg co = _; rw [HC.out.2.2.2]) 39 (aeZ 12) ((HA.out.put 1 rfl ((longK k n).map u8v) hg3 hb3).blk 0 rfl) (ae_cellsN _ HLN.out) (by rw [List.length_map, HLN.out]; rfl) (u8v_one _) ?_; intro w4 hb4 hg4))
  (try simp only [Act.put])
  replace HM := Lib.hid (show Mem w [blkE (w2.heap.size + 1) 39 ((longN n).map u8v), blkE w2.heap.size 23 ((longK k n).map u8v), blkE (w.heap.size + 1) 26 (n.map u8v), blkE w.heap.size 23 (k.map u8v)] w4 from (HA.out.put 1 rfl ((longK k n).map u8v) hg3 hb3).put 0 rfl ((longN n).map u8v) hg4 hb4)
  clear hb3 hg3 hb4 hg4 HA
  generalize w2.heap.size = P at HM ⊢
  go_wp2_with (first | (refine wpList_load_blk rfl 23 (.tmp 9) rfl P rfl 23 ((longK k n).map u8v) (HM.out.blk 1 rfl) 32 5 Try.underlying23 (cells32 _ (longK_length k n)) ?_; rw [HC.out.2.2.1]) | (refine wpList_load_blk rfl 39 (.tmp 10) rfl (P + 1) rfl 39 ((longN n).map u8v) (HM.out.blk 0 rfl) 12 5 Try.underlying39 (ae_cellsN _ HLN.out) ?_; rw [HC.out.2.2.2]))
  refine (HSE.out Ap Am np cp nm cm pl more hnp hcp hnm hcm h1 h2 _ (HM.out.arg hrp) (HM.out.arg hrm)).mono ?_
  rintro e w5 ⟨A5, c5, rfl, ho, hb⟩
  have HF := Lib.hid (And.intro (own_base ho HM.out.size) (HM.out.below hb).bel)
  clear ho hb HM
  go_wp2
  go_ret
  exact ⟨_, _, rfl, HF.out.1, HF.out.2⟩

set_option maxRecDepth 100000 in
set_option maxHeartbeats 4000000 in
theorem xopenC : XOpenC := by
  intro k n hk hn As Am ns cs0 nm cm sl more hns hcs hnm hcm h1 h2 w hrs hrm
  have SH := fun w' : World => xcDivide_any k n hk hn w'
  have SE := openC (longK k n) (longN n) (longK_length k n) (longN_length n hn)
  have HLN := Lib.hid (longN_length n hn)
  obtain ⟨ck, hck⟩ : ∃ ck, (k.map u8v).toArray = ck := ⟨_, rfl⟩
  obtain ⟨cn, hcn⟩ : ∃ c, (n.map u8v).toArray = c := ⟨_, rfl⟩
  obtain ⟨cd, hcd⟩ : ∃ c, ((longK k n).map u8v).toArray = c := ⟨_, rfl⟩
  obtain ⟨co, hco⟩ : ∃ c, ((longN n).map u8v).toArray = c := ⟨_, rfl⟩
  rw [hck, hcn, hcd, hco] at SH
  rw [hcd, hco] at SE
  rw [hck, hcn]
  have HM := Lib.hid (show Mem w [blkE (w.heap.size + 1) 26 (n.map u8v), blkE w.heap.size 23 (k.map u8v)] ((w.alloc (.cells ck 23)).alloc (.cells cn 26)) from ((Mem.nil w).alloc rfl 23 ck (k.map u8v) hck.symm).alloc (by simp) 26 cn (n.map u8v) hcn.symm)
  have HC := Lib.hid (And.intro hck (And.intro hcn (And.intro hcd hco)))
  have HL := Lib.hid (And.intro hk hn)
  have HSH := Lib.hid SH
  have HSE := Lib.hid SE
  clear hck hcn hcd hco hk hn SH SE
  have HX := Lib.hid (show openL (longK k n) (longN n) sl more = xopenL k n sl more from rfl)
  go_enter Try.func10, Try.ntmps10
  go_upto_region 1 with fail
  generalize ((w.alloc (.cells ck 23)).alloc (.cells cn 26)) = w1 at HM ⊢
  go_wp2_with (first | (refine wpList_load_blk rfl 23 (.tmp 4) rfl w.heap.size rfl 23 (k.map u8v) (HM.out.blk 1 rfl) 32 5 Try.underlying23 (cells32 k HL.out.1) ?_; rw [HC.out.1]) | (refine wpList_load_blk rfl 26 (.tmp 5) rfl (w.heap.size + 1) rfl 26 (n.map u8v) (HM.out.blk 0 rfl) 24 5 Try.underlying26 (xc_cellsL n HL.out.2) ?_; rw [HC.out.2.1]))
  refine (HSH.out _).mono ?_
  rintro e w2 ⟨rfl, hb⟩
  replace HM := Lib.hid (show Mem w [blkE (w.heap.size + 1) 26 (n.map u8v), blkE w.heap.size 23 (k.map u8v)] w2 from HM.out.below hb)
  clear hb
  have HA := Lib.hid (show Mem w [blkE (w2.heap.size + 1) 39 (aeZ 12), blkE w2.heap.size 23 (aeZ 32), blkE (w.heap.size + 1) 26 (n.map u8v), blkE w.heap.size 23 (k.map u8v)] ((w2.alloc (.cells #[.int .u8 0, .int .u8 0, .int .u8 0, .int .u8 0, .int .u8 0, .int .u8 0, .int .u8 0, .int .u8 0, .int .u8 0, .int .u8 0, .int .u8 0, .int .u8 0, .int .u8 0, .int .u8 0, .int .u8 0, .int .u8 0, .int .u8 0, .int .u8 0, .int .u8 0, .int .u8 0, .int .u8 0, .int .u8 0, .int .u8 0, .int .u8 0, .int .u8 0, .int .u8 0, .int .u8 0, .int .u8 0, .int .u8 0, .int .u8 0, .int .u8 0, .int .u8 0] 23)).alloc (.cells #[.int .u8 0, .int .u8 0, .int .u8 0, .int .u8 0, .int .u8 0, .int .u8 0, .int .u8 0, .int .u8 0, .int .u8 0, .int .u8 0, .int .u8 0, .int .u8 0] 39)) from (HM.out.alloc rfl 23 #[.int .u8 0, .int .u8 0, .int .u8 0, .int .u8 0, .int .u8 0, .int .u8 0, .int .u8 0, .int .u8 0, .int .u8 0, .int .u8 0, .int .u8 0, .int .u8 0, .int .u8 0, .int .u8 0, .int .u8 0, .int .u8 0, .int .u8 0, .int .u8 0, .int .u8 0, .int .u8 0, .int .u8 0, .int .u8 0, .int .u8 0, .int .u8 0, .int .u8 0, .int .u8 0, .int .u8 0, .int .u8 0, .int .u8 0, .int .u8 0, .int .u8 0, .int .u8 0] (aeZ 32) rfl).alloc (by simp) 39 #[.int .u8 0, .int .u8 0, .int .u8 0, .int .u8 0, .int .u8 0, .int .u8 0, .int .u8 0, .int .u8 0, .int .u8 0, .int .u8 0, .int .u8 0, .int .u8 0] (aeZ 12) rfl)
  go_upto_region 2 with (first | (refine wpList_store_blk rfl 23 (.tmp 10) (.tmp 16) rfl w2.heap.size ((longK k n).map u8v) rfl (by show Value.agg cd = _; rw [HC.out.2.2.1]) 23 (aeZ 32) (HA.out.blk 1 rfl) (cells32 _ (longK_length k n)) (by rw [List.length_map, longK_length]; rfl) (u8v_one _) ?_; intro w3 hb3 hg3) | (refine wpList_store_blk rfl 39 (.tmp 11) (.tmp 17) rfl (w2.heap.size + 1) ((longN n).map u8v) rfl (by show Value.agg co = _; rw [HC.out.2.2.2]) 39 (aeZ 12) ((HA.out.put 1 rfl ((longK k n).map u8v) hg3 hb3).blk 0 rfl) (ae_cellsN _ HLN.out) (by rw [List.length_map, HLN.out]; rfl) (u8v_one _) ?_; intro w4 hb4 hg4))
  (try simp only [Act.put])
  replace HM := Lib.hid (show Mem w [blkE (w2.heap.size + 1) 39 ((longN n).map u8v), blkE w2.heap.size 23 ((longK k n).map u8v), blkE (w.heap.size + 1) 26 (n.map u8v), blkE w.heap.size 23 (k.map u8v)] w4 from (HA.out.put 1 rfl ((longK k n).map u8v) hg3 hb3).put 0 rfl ((longN n).map u8v) hg4 hb4)
  clear hb3 hg3 hb4 hg4 HA
  generalize w2.heap.size = P at HM ⊢
  go_wp2_with (first | (refine wpList_load_blk rfl 23 (.tmp 10) rfl P rfl 23 ((longK k n).map u8v) (HM.out.blk 1 rfl) 32 5 Try.underlying23 (cells32 _ (longK_length k n)) ?_; rw [HC.out.2.2.1]) | (refine wpList_load_blk rfl 39 (.tmp 11) rfl (P + 1) rfl 39 ((longN n).map u8v) (HM.out.blk 0 rfl) 12 5 Try.underlying39 (ae_cellsN _ HLN.out) ?_; rw [HC.out.2.2.2]))
  refine (HSE.out As Am ns cs0 nm cm sl more hns hcs hnm hcm h1 h2 _ (HM.out.arg hrs) (HM.out.arg hrm)).mono ?_
  rintro e w5 ⟨A5, c5, rfl, ho, hl1, hl2, hb⟩
  rw [HX.out] at ho hl1 ⊢
  have HF := Lib.hid (And.intro ho (And.intro hl1 (And.intro hl2 (HM.out.below hb).bel)))
  clear ho hb HM hl1 hl2
  go_wp2
  exact bodyPost_ret (results_tmp2 rfl _ _ _) rfl ⟨_, _, rfl, HF.out.1, HF.out.2.1, HF.out.2.2.1, HF.out.2.2.2⟩
end Go.Proofs.Ytkbefhmgcodpaaa
namespace Go.Proofs.Ytkbefhmgcodpaaa
open Go.RowKit

theorem xc_seals_walk_all (w : World) (k inn n : List UInt8) (Ap : Option Addr) (np cp : Nat) (lp : List UInt8) (Am : Option Addr) (nm cm : Nat) (lm : List UInt8) (ia iby : Nat) (hk : k.length = 32) (hin : inn.length = 16) (hn : n.length = 24) (hpc : np ≤ cp) (hpm : cp ≤ maxLen) (hrp : Rd w w.heap.size Ap np lp) (hmc : nm ≤ cm) (hmm : cm ≤ maxLen) (hrm : Rd w w.heap.size Am nm lm) (hia : ia ≤ 255) (hby : iby ≤ 255) :
    Calls Try.prog 3 #[.agg (k.map u8v).toArray, .agg (inn.map u8v).toArray, .agg (n.map u8v).toArray, .slice Ap np cp, .slice Am nm cm, .int .u8 (ia : Int), .int .u8 (iby : Int)] w fun e w' => e = .returned (.bool true) ∧ Below w.heap.size w w' :=
  xc_seals_walk deriveC xsealC xopenC w k inn n Ap np cp lp Am nm cm lm ia iby hk hin hn hpc hpm hrp hmc hmm hrm hia hby
end Go.Proofs.Ytkbefhmgcodpaaa
