/-
  The contract of the reference's DecodeInitiation. The contract of the reference's DecodeResponse. The contract of the reference's DecodeCookie. No statement is proved here.
-/
import Derived.Test.YtaolhndbpgjlcaaMsCopy
namespace Go.Proofs.Ytaolhndbpgjlcaa
open Go.RowKit

set_option maxRecDepth 100000 in
set_option maxHeartbeats 16000000 in
theorem refDec1 : MsDecC 30 1 := by
  intro A n c l hnc hcm hn w hr
  have HKD := Lib.hid (refKind_any A n c l hnc hcm hn)
  have HR := Lib.hid hr
  have hl : l.length = n := hr.1
  have hlz := MsgM.cells_length (msg0_ok 1)
  have HUZ := Lib.hid (show (Try.prog.info? 30).map (·.size) = some (msg0 1).cells.length from by rw [hlz]; kernel_rfl)
  have HLZ := Lib.hid hlz
  have hcz0 : (msg0 1).cells = (MsgM.mk [0] (List.replicate 140 0)).cells := rfl
  obtain ⟨cz, hcz⟩ : ∃ z, (msg0 1).cells.toArray = z := ⟨_, rfl⟩
  have HCZ := Lib.hid hcz
  have HZ0 := Lib.hid hcz0
  have HM := Lib.hid (show Mem w [blkE (w.heap.size + 1) 30 (msg0 1).cells, blkE w.heap.size 30 (msg0 1).cells] ((w.alloc (.cells zc1 30)).alloc (.cells zc1 30)) from ((Mem.nil w).alloc rfl 30 zc1 (msg0 1).cells (by kernel_rfl)).alloc (by simp) 30 zc1 (msg0 1).cells (by kernel_rfl))
  obtain ⟨q, hq⟩ : ∃ q, kindB l = q := ⟨_, rfl⟩
  rw [hq] at HKD
  clear hr hlz hcz hcz0
  go_enter Try.func30, Try.ntmps30
  go_upto_region 2 with fail
  generalize ((w.alloc (.cells zc1 30)).alloc (.cells zc1 30)) = w1 at HM ⊢
  go_wp2_with fail
  refine (HKD.out _ (HM.out.arg HR.out)).mono ?_
  rintro e w2 ⟨rfl, hb⟩
  replace HM := Lib.hid (HM.out.below hb)
  clear hb
  by_cases hk : q = 1
  case neg =>
    have ek : ((q : Int) != 1) = true := by rw [bne_iff_ne]; omega
    have HE := Lib.hid (show decB 1 l = (msg0 1, 4) from by rw [decB, if_neg (by rw [hq]; exact hk)])
    clear hq hk hl hnc hcm hn
    go_wp2_with (first | (refine wpList_load_obj rfl 30 (.tmp 4) rfl (w.heap.size + 1) 0 rfl (msg0 1).cells (HM.out.blk 0 rfl).all _ Try.underlying30 rfl HUZ.out ?_; rw [HCZ.out]) | (refine wpList_store_blk rfl 30 (.tmp 2) (.tmp 8) rfl w.heap.size (msg0 1).cells rfl (by show Value.agg cz = _; rw [HCZ.out]) 30 (msg0 1).cells (HM.out.blk 1 rfl) HUZ.out rfl (MsgM.one _) ?_; intro w9 hb9 hg9))
    exact bodyPost_ret (results_obj_tmp rfl _ _ w.heap.size 30 (msg0 1).cells _ rfl hb9 Try.underlying30 rfl HUZ.out) rfl ⟨by rw [HE.out]; rfl, (HM.out.put 1 rfl _ hg9 hb9).bel⟩
  subst hk
  have hll := kindB_len (k := 1) (by omega) hq
  have hn2 : n = 148 := by rw [← hl, hll]; rfl
  subst hn2
  have HE := Lib.hid (show decB 1 l = (msOf 1 l, 0) from by rw [decB, if_pos hq])
  have HL := Lib.hid hl
  obtain ⟨b, off, rfl, -, -⟩ := HR.out.at_ (by omega)
  have HS4 := Lib.hid (slice_l (some ⟨b, off, none⟩) 148 c 4 (by omega))
  rw [addrOf_some b off 4 c (by omega)] at HS4
  have HS8 := Lib.hid (slice_l (some ⟨b, off, none⟩) 148 c 8 (by omega))
  rw [addrOf_some b off 8 c (by omega)] at HS8
  have HS40 := Lib.hid (slice_l (some ⟨b, off, none⟩) 148 c 40 (by omega))
  rw [addrOf_some b off 40 c (by omega)] at HS40
  have HS88 := Lib.hid (slice_l (some ⟨b, off, none⟩) 148 c 88 (by omega))
  rw [addrOf_some b off 88 c (by omega)] at HS88
  have HS116 := Lib.hid (slice_l (some ⟨b, off, none⟩) 148 c 116 (by omega))
  rw [addrOf_some b off 116 c (by omega)] at HS116
  have HS132 := Lib.hid (slice_l (some ⟨b, off, none⟩) 148 c 132 (by omega))
  rw [addrOf_some b off 132 c (by omega)] at HS132
  have HN0 := Lib.hid (fun W (h : Rd W W.heap.size (some ⟨b, off, none⟩) 148 l) => refN32_any (some ⟨b, off + 4, none⟩) 144 (c - 4) (l.drop 4) (by omega) (by omega) W (h.drop 4 b off rfl (by omega)))
  obtain ⟨v, hv⟩ : ∃ z, numL ((l.drop 4).take 4) = z := ⟨_, rfl⟩
  rw [hv] at HN0
  have HOF := Lib.hid (show MsgM.mk [v] (l.drop 8) = msOf 1 l from by rw [← hv]; rfl)
  have HLO := Lib.hid (MsgM.cells_length (msOf_ok hll))
  have HUO := Lib.hid (show (Try.prog.info? 30).map (·.size) = some (msOf 1 l).cells.length from by rw [HLO.out]; kernel_rfl)
  obtain ⟨co, hco⟩ : ∃ z, (msOf 1 l).cells.toArray = z := ⟨_, rfl⟩
  have HCO := Lib.hid hco
  obtain ⟨B, hB⟩ : ∃ z, l.drop 8 = z := ⟨_, rfl⟩
  rw [hB] at HOF
  have HB := Lib.hid (show B.length = 140 from by rw [← hB, List.length_drop, hl])
  have HDB := Lib.hid (show ∀ s o : Nat, s = 8 + o → l.drop s = B.drop o from by intro s o h; rw [h, ← hB, List.drop_drop])
  replace HM := Lib.hid (show Mem w [blkE (w.heap.size + 1) 30 (MsgM.mk [0] (msD B 140 0)).cells, blkE w.heap.size 30 (msg0 1).cells] w2 from by have h := HM.out; rw [msD_zero]; exact h)
  clear hv hco hB hll hq HKD hl hn hnc
  have hsw := HS4.out w2
  rw [show ((4 : Nat) : Int) = 4 from rfl] at hsw
  go_wp2_with fail
  refine (HN0.out _ (HM.out.arg HR.out)).mono ?_
  rintro e wy ⟨rfl, rfl⟩
  clear hsw
  have fx := ((HM.out.blk 0 rfl).cell 0)
  rw [show (MsgM.mk [0] (msD B 140 0)).cells[0]? = some (.int .u32 0) from rfl] at fx
  have zx := (HM.out.blk 0 rfl).frozen 0
  have HM2 := Lib.hid (show Mem w [blkE (w.heap.size + 1) 30 (MsgM.mk [v] (msD B 140 0)).cells, blkE w.heap.size 30 (msg0 1).cells] (w2.setCell ⟨(w.heap.size + 1), 0, none⟩ (.int .u32 (v : Int))) from HM.out.setCell 0 rfl 0 (u32c v))
  go_upto_region 5 with fail
  clear fx zx
  generalize w2.setCell ⟨(w.heap.size + 1), 0, none⟩ (.int .u32 (v : Int)) = w3 at HM2 ⊢
  replace HM := HM2
  clear HM2
  refine wp_region_held_drew (S := fun W' => Mem w [blkE w.heap.size 30 (msg0 1).cells] W') (by kernel_rfl) (((HM.out.erase 0)).drew) (fun hHeld => ?_)
  replace HM := Lib.hid HM.out.drew
  generalize w3.drew = wd1 at HM hHeld ⊢
  refine take_first (v := ?_) 0 rfl (by kernel_rfl) (by kernel_rfl) (by kernel_rfl) (fun _ _ _ h => h) (Or.inl ⟨by rfl, ?_⟩) (by assumption) ?_
  rotate_left
  · (intro w hSw; (try dsimp only at hSw); go_simp; try with_reducible rfl)
  (try simp only [Act.put, List.setIfInBounds_toArray, List.set_cons_zero, List.set_cons_succ])
  refine take_first (v := ?_) 1 rfl (by kernel_rfl) (by kernel_rfl) (by kernel_rfl) (fun _ _ _ h => h) (Or.inl ⟨by rfl, ?_⟩) (by assumption) ?_
  rotate_left
  · (intro w hSw; (try dsimp only at hSw); go_simp; try with_reducible rfl)
  (try simp only [Act.put, List.setIfInBounds_toArray, List.set_cons_zero, List.set_cons_succ])
  refine take_first (v := ?_) 2 rfl (by kernel_rfl) (by kernel_rfl) (by kernel_rfl) (fun _ _ _ h => h) (Or.inl ⟨by rfl, ?_⟩) (by assumption) ?_
  rotate_left
  · (intro w hSw; (try dsimp only at hSw); go_simp; try with_reducible rfl)
  (try simp only [Act.put, List.setIfInBounds_toArray, List.set_cons_zero, List.set_cons_succ])
  refine take_first (v := ?_) 3 rfl (by kernel_rfl) (by kernel_rfl) (by kernel_rfl) (fun _ _ _ h => h) (Or.inl ⟨by rfl, ?_⟩) (by assumption) ?_
  rotate_left
  · (intro w hSw; (try dsimp only at hSw); have hs := HS8.out w; rw [show ((8 : Nat) : Int) = 8 from rfl] at hs; go_simp; try with_reducible rfl)
  (try simp only [Act.put, List.setIfInBounds_toArray, List.set_cons_zero, List.set_cons_succ])
  refine step_one 4 rfl (by kernel_rfl) (fun K hK => ?_)
  clear hHeld
  refine step_copy_blk rfl (.tmp 14) (.tmp 16) 38 38 (by rfl) 5 Try.underlying38 (by kernel_rfl) (w.heap.size + 1) 1 32 32 ⟨b, off + 8, none⟩ 140 (c - 8) (by rfl) (by rfl) (MsgM.mk [v] (msD B 140 0)).cells 30 (HM.out.blk 0 rfl) (((l.drop 8).take 32).map u8v) (by rw [List.length_map, List.length_take, List.length_drop, HL.out] <;> rfl) (seg_src (HM.out.arg HR.out) 8 32 (by omega)) (by rw [List.length_map, List.length_take, List.length_drop, HL.out, MsgM.cells, List.length_append, List.length_map, List.length_map, msD_length B 140 0 HB.out (by omega)]; show 1 + min 32 (148 - 8) ≤ 1 + 140; decide) (u8v_one _) (MsgM.mk [v] (msD B 140 32)).cells (by rw [HDB.out 8 0 rfl]; refine (msg_put _ _ _ 1 0 rfl (by rw [List.length_take, List.length_drop, HB.out, msD_length B 140 0 HB.out (by omega)]; decide)).trans ?_; rw [msD_step B 140 0 32 HB.out (by omega)]) ?_
  intro wy2 hb hg
  replace HM := Lib.hid (show Mem w [blkE (w.heap.size + 1) 30 (MsgM.mk [v] (msD B 140 32)).cells, blkE w.heap.size 30 (msg0 1).cells] wy2 from HM.out.put 0 rfl _ hg hb)
  clear hb hg
  refine hK.out _ _ ((HM.out.erase 0)) (fun hHeld => ?_)
  clear hK K
  (try simp only [Act.put, List.setIfInBounds_toArray, List.set_cons_zero, List.set_cons_succ])
  refine wpAnyH_done (by kernel_rfl) ?_ _
  clear hHeld
  generalize hwq : wy2 = wf0 at HM ⊢
  clear hwq
  go_upto_region 6 with fail
  refine wp_region_held_drew (S := fun W' => Mem w [blkE w.heap.size 30 (msg0 1).cells] W') (by kernel_rfl) (((HM.out.erase 0)).drew) (fun hHeld => ?_)
  replace HM := Lib.hid HM.out.drew
  generalize wf0.drew = wd1 at HM hHeld ⊢
  refine take_first (v := ?_) 0 rfl (by kernel_rfl) (by kernel_rfl) (by kernel_rfl) (fun _ _ _ h => h) (Or.inl ⟨by rfl, ?_⟩) (by assumption) ?_
  rotate_left
  · (intro w hSw; (try dsimp only at hSw); go_simp; try with_reducible rfl)
  (try simp only [Act.put, List.setIfInBounds_toArray, List.set_cons_zero, List.set_cons_succ])
  refine take_first (v := ?_) 1 rfl (by kernel_rfl) (by kernel_rfl) (by kernel_rfl) (fun _ _ _ h => h) (Or.inl ⟨by rfl, ?_⟩) (by assumption) ?_
  rotate_left
  · (intro w hSw; (try dsimp only at hSw); go_simp; try with_reducible rfl)
  (try simp only [Act.put, List.setIfInBounds_toArray, List.set_cons_zero, List.set_cons_succ])
  refine take_first (v := ?_) 2 rfl (by kernel_rfl) (by kernel_rfl) (by kernel_rfl) (fun _ _ _ h => h) (Or.inl ⟨by rfl, ?_⟩) (by assumption) ?_
  rotate_left
  · (intro w hSw; (try dsimp only at hSw); go_simp; try with_reducible rfl)
  (try simp only [Act.put, List.setIfInBounds_toArray, List.set_cons_zero, List.set_cons_succ])
  refine take_first (v := ?_) 3 rfl (by kernel_rfl) (by kernel_rfl) (by kernel_rfl) (fun _ _ _ h => h) (Or.inl ⟨by rfl, ?_⟩) (by assumption) ?_
  rotate_left
  · (intro w hSw; (try dsimp only at hSw); have hs := HS40.out w; rw [show ((40 : Nat) : Int) = 40 from rfl] at hs; go_simp; try with_reducible rfl)
  (try simp only [Act.put, List.setIfInBounds_toArray, List.set_cons_zero, List.set_cons_succ])
  refine step_one 4 rfl (by kernel_rfl) (fun K hK => ?_)
  clear hHeld
  refine step_copy_blk rfl (.tmp 19) (.tmp 21) 38 38 (by rfl) 5 Try.underlying38 (by kernel_rfl) (w.heap.size + 1) 33 48 48 ⟨b, off + 40, none⟩ 108 (c - 40) (by rfl) (by rfl) (MsgM.mk [v] (msD B 140 32)).cells 30 (HM.out.blk 0 rfl) (((l.drop 40).take 48).map u8v) (by rw [List.length_map, List.length_take, List.length_drop, HL.out] <;> rfl) (seg_src (HM.out.arg HR.out) 40 48 (by omega)) (by rw [List.length_map, List.length_take, List.length_drop, HL.out, MsgM.cells, List.length_append, List.length_map, List.length_map, msD_length B 140 32 HB.out (by omega)]; show 33 + min 48 (148 - 40) ≤ 1 + 140; decide) (u8v_one _) (MsgM.mk [v] (msD B 140 80)).cells (by rw [HDB.out 40 32 rfl]; refine (msg_put _ _ _ 33 32 rfl (by rw [List.length_take, List.length_drop, HB.out, msD_length B 140 32 HB.out (by omega)]; decide)).trans ?_; rw [msD_step B 140 32 48 HB.out (by omega)]) ?_
  intro wy2 hb hg
  replace HM := Lib.hid (show Mem w [blkE (w.heap.size + 1) 30 (MsgM.mk [v] (msD B 140 80)).cells, blkE w.heap.size 30 (msg0 1).cells] wy2 from HM.out.put 0 rfl _ hg hb)
  clear hb hg
  refine hK.out _ _ ((HM.out.erase 0)) (fun hHeld => ?_)
  clear hK K
  (try simp only [Act.put, List.setIfInBounds_toArray, List.set_cons_zero, List.set_cons_succ])
  refine wpAnyH_done (by kernel_rfl) ?_ _
  clear hHeld
  generalize hwq : wy2 = wf1 at HM ⊢
  clear hwq
  go_upto_region 7 with fail
  refine wp_region_held_drew (S := fun W' => Mem w [blkE w.heap.size 30 (msg0 1).cells] W') (by kernel_rfl) (((HM.out.erase 0)).drew) (fun hHeld => ?_)
  replace HM := Lib.hid HM.out.drew
  generalize wf1.drew = wd1 at HM hHeld ⊢
  refine take_first (v := ?_) 0 rfl (by kernel_rfl) (by kernel_rfl) (by kernel_rfl) (fun _ _ _ h => h) (Or.inl ⟨by rfl, ?_⟩) (by assumption) ?_
  rotate_left
  · (intro w hSw; (try dsimp only at hSw); go_simp; try with_reducible rfl)
  (try simp only [Act.put, List.setIfInBounds_toArray, List.set_cons_zero, List.set_cons_succ])
  refine take_first (v := ?_) 1 rfl (by kernel_rfl) (by kernel_rfl) (by kernel_rfl) (fun _ _ _ h => h) (Or.inl ⟨by rfl, ?_⟩) (by assumption) ?_
  rotate_left
  · (intro w hSw; (try dsimp only at hSw); go_simp; try with_reducible rfl)
  (try simp only [Act.put, List.setIfInBounds_toArray, List.set_cons_zero, List.set_cons_succ])
  refine take_first (v := ?_) 2 rfl (by kernel_rfl) (by kernel_rfl) (by kernel_rfl) (fun _ _ _ h => h) (Or.inl ⟨by rfl, ?_⟩) (by assumption) ?_
  rotate_left
  · (intro w hSw; (try dsimp only at hSw); go_simp; try with_reducible rfl)
  (try simp only [Act.put, List.setIfInBounds_toArray, List.set_cons_zero, List.set_cons_succ])
  refine take_first (v := ?_) 3 rfl (by kernel_rfl) (by kernel_rfl) (by kernel_rfl) (fun _ _ _ h => h) (Or.inl ⟨by rfl, ?_⟩) (by assumption) ?_
  rotate_left
  · (intro w hSw; (try dsimp only at hSw); have hs := HS88.out w; rw [show ((88 : Nat) : Int) = 88 from rfl] at hs; go_simp; try with_reducible rfl)
  (try simp only [Act.put, List.setIfInBounds_toArray, List.set_cons_zero, List.set_cons_succ])
  refine step_one 4 rfl (by kernel_rfl) (fun K hK => ?_)
  clear hHeld
  refine step_copy_blk rfl (.tmp 24) (.tmp 26) 38 38 (by rfl) 5 Try.underlying38 (by kernel_rfl) (w.heap.size + 1) 81 28 28 ⟨b, off + 88, none⟩ 60 (c - 88) (by rfl) (by rfl) (MsgM.mk [v] (msD B 140 80)).cells 30 (HM.out.blk 0 rfl) (((l.drop 88).take 28).map u8v) (by rw [List.length_map, List.length_take, List.length_drop, HL.out] <;> rfl) (seg_src (HM.out.arg HR.out) 88 28 (by omega)) (by rw [List.length_map, List.length_take, List.length_drop, HL.out, MsgM.cells, List.length_append, List.length_map, List.length_map, msD_length B 140 80 HB.out (by omega)]; show 81 + min 28 (148 - 88) ≤ 1 + 140; decide) (u8v_one _) (MsgM.mk [v] (msD B 140 108)).cells (by rw [HDB.out 88 80 rfl]; refine (msg_put _ _ _ 81 80 rfl (by rw [List.length_take, List.length_drop, HB.out, msD_length B 140 80 HB.out (by omega)]; decide)).trans ?_; rw [msD_step B 140 80 28 HB.out (by omega)]) ?_
  intro wy2 hb hg
  replace HM := Lib.hid (show Mem w [blkE (w.heap.size + 1) 30 (MsgM.mk [v] (msD B 140 108)).cells, blkE w.heap.size 30 (msg0 1).cells] wy2 from HM.out.put 0 rfl _ hg hb)
  clear hb hg
  refine hK.out _ _ ((HM.out.erase 0)) (fun hHeld => ?_)
  clear hK K
  (try simp only [Act.put, List.setIfInBounds_toArray, List.set_cons_zero, List.set_cons_succ])
  refine wpAnyH_done (by kernel_rfl) ?_ _
  clear hHeld
  generalize hwq : wy2 = wf2 at HM ⊢
  clear hwq
  go_upto_region 8 with fail
  refine wp_region_held_drew (S := fun W' => Mem w [blkE w.heap.size 30 (msg0 1).cells] W') (by kernel_rfl) (((HM.out.erase 0)).drew) (fun hHeld => ?_)
  replace HM := Lib.hid HM.out.drew
  generalize wf2.drew = wd1 at HM hHeld ⊢
  refine take_first (v := ?_) 0 rfl (by kernel_rfl) (by kernel_rfl) (by kernel_rfl) (fun _ _ _ h => h) (Or.inl ⟨by rfl, ?_⟩) (by assumption) ?_
  rotate_left
  · (intro w hSw; (try dsimp only at hSw); go_simp; try with_reducible rfl)
  (try simp only [Act.put, List.setIfInBounds_toArray, List.set_cons_zero, List.set_cons_succ])
  refine take_first (v := ?_) 1 rfl (by kernel_rfl) (by kernel_rfl) (by kernel_rfl) (fun _ _ _ h => h) (Or.inl ⟨by rfl, ?_⟩) (by assumption) ?_
  rotate_left
  · (intro w hSw; (try dsimp only at hSw); go_simp; try with_reducible rfl)
  (try simp only [Act.put, List.setIfInBounds_toArray, List.set_cons_zero, List.set_cons_succ])
  refine take_first (v := ?_) 2 rfl (by kernel_rfl) (by kernel_rfl) (by kernel_rfl) (fun _ _ _ h => h) (Or.inl ⟨by rfl, ?_⟩) (by assumption) ?_
  rotate_left
  · (intro w hSw; (try dsimp only at hSw); go_simp; try with_reducible rfl)
  (try simp only [Act.put, List.setIfInBounds_toArray, List.set_cons_zero, List.set_cons_succ])
  refine take_first (v := ?_) 3 rfl (by kernel_rfl) (by kernel_rfl) (by kernel_rfl) (fun _ _ _ h => h) (Or.inl ⟨by rfl, ?_⟩) (by assumption) ?_
  rotate_left
  · (intro w hSw; (try dsimp only at hSw); have hs := HS116.out w; rw [show ((116 : Nat) : Int) = 116 from rfl] at hs; go_simp; try with_reducible rfl)
  (try simp only [Act.put, List.setIfInBounds_toArray, List.set_cons_zero, List.set_cons_succ])
  refine step_one 4 rfl (by kernel_rfl) (fun K hK => ?_)
  clear hHeld
  refine step_copy_blk rfl (.tmp 29) (.tmp 31) 38 38 (by rfl) 5 Try.underlying38 (by kernel_rfl) (w.heap.size + 1) 109 16 16 ⟨b, off + 116, none⟩ 32 (c - 116) (by rfl) (by rfl) (MsgM.mk [v] (msD B 140 108)).cells 30 (HM.out.blk 0 rfl) (((l.drop 116).take 16).map u8v) (by rw [List.length_map, List.length_take, List.length_drop, HL.out] <;> rfl) (seg_src (HM.out.arg HR.out) 116 16 (by omega)) (by rw [List.length_map, List.length_take, List.length_drop, HL.out, MsgM.cells, List.length_append, List.length_map, List.length_map, msD_length B 140 108 HB.out (by omega)]; show 109 + min 16 (148 - 116) ≤ 1 + 140; decide) (u8v_one _) (MsgM.mk [v] (msD B 140 124)).cells (by rw [HDB.out 116 108 rfl]; refine (msg_put _ _ _ 109 108 rfl (by rw [List.length_take, List.length_drop, HB.out, msD_length B 140 108 HB.out (by omega)]; decide)).trans ?_; rw [msD_step B 140 108 16 HB.out (by omega)]) ?_
  intro wy2 hb hg
  replace HM := Lib.hid (show Mem w [blkE (w.heap.size + 1) 30 (MsgM.mk [v] (msD B 140 124)).cells, blkE w.heap.size 30 (msg0 1).cells] wy2 from HM.out.put 0 rfl _ hg hb)
  clear hb hg
  refine hK.out _ _ ((HM.out.erase 0)) (fun hHeld => ?_)
  clear hK K
  (try simp only [Act.put, List.setIfInBounds_toArray, List.set_cons_zero, List.set_cons_succ])
  refine wpAnyH_done (by kernel_rfl) ?_ _
  clear hHeld
  generalize hwq : wy2 = wf3 at HM ⊢
  clear hwq
  go_upto_region 9 with fail
  refine wp_region_held_drew (S := fun W' => Mem w [blkE w.heap.size 30 (msg0 1).cells] W') (by kernel_rfl) (((HM.out.erase 0)).drew) (fun hHeld => ?_)
  replace HM := Lib.hid HM.out.drew
  generalize wf3.drew = wd1 at HM hHeld ⊢
  refine take_first (v := ?_) 0 rfl (by kernel_rfl) (by kernel_rfl) (by kernel_rfl) (fun _ _ _ h => h) (Or.inl ⟨by rfl, ?_⟩) (by assumption) ?_
  rotate_left
  · (intro w hSw; (try dsimp only at hSw); go_simp; try with_reducible rfl)
  (try simp only [Act.put, List.setIfInBounds_toArray, List.set_cons_zero, List.set_cons_succ])
  refine take_first (v := ?_) 1 rfl (by kernel_rfl) (by kernel_rfl) (by kernel_rfl) (fun _ _ _ h => h) (Or.inl ⟨by rfl, ?_⟩) (by assumption) ?_
  rotate_left
  · (intro w hSw; (try dsimp only at hSw); go_simp; try with_reducible rfl)
  (try simp only [Act.put, List.setIfInBounds_toArray, List.set_cons_zero, List.set_cons_succ])
  refine take_first (v := ?_) 2 rfl (by kernel_rfl) (by kernel_rfl) (by kernel_rfl) (fun _ _ _ h => h) (Or.inl ⟨by rfl, ?_⟩) (by assumption) ?_
  rotate_left
  · (intro w hSw; (try dsimp only at hSw); go_simp; try with_reducible rfl)
  (try simp only [Act.put, List.setIfInBounds_toArray, List.set_cons_zero, List.set_cons_succ])
  refine take_first (v := ?_) 3 rfl (by kernel_rfl) (by kernel_rfl) (by kernel_rfl) (fun _ _ _ h => h) (Or.inl ⟨by rfl, ?_⟩) (by assumption) ?_
  rotate_left
  · (intro w hSw; (try dsimp only at hSw); have hs := HS132.out w; rw [show ((132 : Nat) : Int) = 132 from rfl] at hs; go_simp; try with_reducible rfl)
  (try simp only [Act.put, List.setIfInBounds_toArray, List.set_cons_zero, List.set_cons_succ])
  refine step_one 4 rfl (by kernel_rfl) (fun K hK => ?_)
  clear hHeld
  refine step_copy_blk rfl (.tmp 34) (.tmp 36) 38 38 (by rfl) 5 Try.underlying38 (by kernel_rfl) (w.heap.size + 1) 125 16 16 ⟨b, off + 132, none⟩ 16 (c - 132) (by rfl) (by rfl) (MsgM.mk [v] (msD B 140 124)).cells 30 (HM.out.blk 0 rfl) (((l.drop 132).take 16).map u8v) (by rw [List.length_map, List.length_take, List.length_drop, HL.out] <;> rfl) (seg_src (HM.out.arg HR.out) 132 16 (by omega)) (by rw [List.length_map, List.length_take, List.length_drop, HL.out, MsgM.cells, List.length_append, List.length_map, List.length_map, msD_length B 140 124 HB.out (by omega)]; show 125 + min 16 (148 - 132) ≤ 1 + 140; decide) (u8v_one _) (MsgM.mk [v] (msD B 140 140)).cells (by rw [HDB.out 132 124 rfl]; refine (msg_put _ _ _ 125 124 rfl (by rw [List.length_take, List.length_drop, HB.out, msD_length B 140 124 HB.out (by omega)]; decide)).trans ?_; rw [msD_step B 140 124 16 HB.out (by omega)]) ?_
  intro wy2 hb hg
  replace HM := Lib.hid (show Mem w [blkE (w.heap.size + 1) 30 (MsgM.mk [v] (msD B 140 140)).cells, blkE w.heap.size 30 (msg0 1).cells] wy2 from HM.out.put 0 rfl _ hg hb)
  clear hb hg
  refine hK.out _ _ ((HM.out.erase 0)) (fun hHeld => ?_)
  clear hK K
  (try simp only [Act.put, List.setIfInBounds_toArray, List.set_cons_zero, List.set_cons_succ])
  refine wpAnyH_done (by kernel_rfl) ?_ _
  clear hHeld
  generalize hwq : wy2 = wf4 at HM ⊢
  clear hwq
  go_upto_region 10 with fail
  have HM3 := Lib.hid (show Mem w [blkE (w.heap.size + 1) 30 (msOf 1 l).cells, blkE w.heap.size 30 (msg0 1).cells] wf4 from by have h := HM.out; rw [msD_all B 140 HB.out, HOF.out] at h; exact h)
  clear HM
  go_wp2_with (first | (refine wpList_load_obj rfl 30 (.tmp 4) rfl (w.heap.size + 1) 0 rfl (msOf 1 l).cells (HM3.out.blk 0 rfl).all _ Try.underlying30 rfl HUO.out ?_; rw [HCO.out]) | (refine wpList_store_blk rfl 30 (.tmp 2) (.tmp 38) rfl w.heap.size (msOf 1 l).cells rfl (by show Value.agg co = _; rw [HCO.out]) 30 (msg0 1).cells (HM3.out.blk 1 rfl) HUO.out (by rw [HLO.out, HLZ.out]) (MsgM.one _) ?_; intro w9 hb9 hg9))
  exact bodyPost_ret (results_obj_tmp rfl _ _ w.heap.size 30 (msOf 1 l).cells _ rfl hb9 Try.underlying30 rfl HUO.out) rfl ⟨by rw [HE.out]; rfl, (HM3.out.put 1 rfl _ hg9 hb9).bel⟩

set_option maxRecDepth 100000 in
set_option maxHeartbeats 16000000 in
theorem refDec2 : MsDecC 31 2 := by
  intro A n c l hnc hcm hn w hr
  have HKD := Lib.hid (refKind_any A n c l hnc hcm hn)
  have HR := Lib.hid hr
  have hl : l.length = n := hr.1
  have hlz := MsgM.cells_length (msg0_ok 2)
  have HUZ := Lib.hid (show (Try.prog.info? 32).map (·.size) = some (msg0 2).cells.length from by rw [hlz]; kernel_rfl)
  have HLZ := Lib.hid hlz
  have hcz0 : (msg0 2).cells = (MsgM.mk [0, 0] (List.replicate 80 0)).cells := rfl
  obtain ⟨cz, hcz⟩ : ∃ z, (msg0 2).cells.toArray = z := ⟨_, rfl⟩
  have HCZ := Lib.hid hcz
  have HZ0 := Lib.hid hcz0
  have HM := Lib.hid (show Mem w [blkE (w.heap.size + 1) 32 (msg0 2).cells, blkE w.heap.size 32 (msg0 2).cells] ((w.alloc (.cells zc2 32)).alloc (.cells zc2 32)) from ((Mem.nil w).alloc rfl 32 zc2 (msg0 2).cells (by kernel_rfl)).alloc (by simp) 32 zc2 (msg0 2).cells (by kernel_rfl))
  obtain ⟨q, hq⟩ : ∃ q, kindB l = q := ⟨_, rfl⟩
  rw [hq] at HKD
  clear hr hlz hcz hcz0
  go_enter Try.func31, Try.ntmps31
  go_upto_region 2 with fail
  generalize ((w.alloc (.cells zc2 32)).alloc (.cells zc2 32)) = w1 at HM ⊢
  go_wp2_with fail
  refine (HKD.out _ (HM.out.arg HR.out)).mono ?_
  rintro e w2 ⟨rfl, hb⟩
  replace HM := Lib.hid (HM.out.below hb)
  clear hb
  by_cases hk : q = 2
  case neg =>
    have ek : ((q : Int) != 2) = true := by rw [bne_iff_ne]; omega
    have HE := Lib.hid (show decB 2 l = (msg0 2, 4) from by rw [decB, if_neg (by rw [hq]; exact hk)])
    clear hq hk hl hnc hcm hn
    go_wp2_with (first | (refine wpList_load_obj rfl 32 (.tmp 4) rfl (w.heap.size + 1) 0 rfl (msg0 2).cells (HM.out.blk 0 rfl).all _ Try.underlying32 rfl HUZ.out ?_; rw [HCZ.out]) | (refine wpList_store_blk rfl 32 (.tmp 2) (.tmp 8) rfl w.heap.size (msg0 2).cells rfl (by show Value.agg cz = _; rw [HCZ.out]) 32 (msg0 2).cells (HM.out.blk 1 rfl) HUZ.out rfl (MsgM.one _) ?_; intro w9 hb9 hg9))
    exact bodyPost_ret (results_obj_tmp rfl _ _ w.heap.size 32 (msg0 2).cells _ rfl hb9 Try.underlying32 rfl HUZ.out) rfl ⟨by rw [HE.out]; rfl, (HM.out.put 1 rfl _ hg9 hb9).bel⟩
  subst hk
  have hll := kindB_len (k := 2) (by omega) hq
  have hn2 : n = 92 := by rw [← hl, hll]; rfl
  subst hn2
  have HE := Lib.hid (show decB 2 l = (msOf 2 l, 0) from by rw [decB, if_pos hq])
  have HL := Lib.hid hl
  obtain ⟨b, off, rfl, -, -⟩ := HR.out.at_ (by omega)
  have HS4 := Lib.hid (slice_l (some ⟨b, off, none⟩) 92 c 4 (by omega))
  rw [addrOf_some b off 4 c (by omega)] at HS4
  have HS8 := Lib.hid (slice_l (some ⟨b, off, none⟩) 92 c 8 (by omega))
  rw [addrOf_some b off 8 c (by omega)] at HS8
  have HS12 := Lib.hid (slice_l (some ⟨b, off, none⟩) 92 c 12 (by omega))
  rw [addrOf_some b off 12 c (by omega)] at HS12
  have HS44 := Lib.hid (slice_l (some ⟨b, off, none⟩) 92 c 44 (by omega))
  rw [addrOf_some b off 44 c (by omega)] at HS44
  have HS60 := Lib.hid (slice_l (some ⟨b, off, none⟩) 92 c 60 (by omega))
  rw [addrOf_some b off 60 c (by omega)] at HS60
  have HS76 := Lib.hid (slice_l (some ⟨b, off, none⟩) 92 c 76 (by omega))
  rw [addrOf_some b off 76 c (by omega)] at HS76
  have HN0 := Lib.hid (fun W (h : Rd W W.heap.size (some ⟨b, off, none⟩) 92 l) => refN32_any (some ⟨b, off + 4, none⟩) 88 (c - 4) (l.drop 4) (by omega) (by omega) W (h.drop 4 b off rfl (by omega)))
  obtain ⟨v, hv⟩ : ∃ z, numL ((l.drop 4).take 4) = z := ⟨_, rfl⟩
  rw [hv] at HN0
  have HN1 := Lib.hid (fun W (h : Rd W W.heap.size (some ⟨b, off, none⟩) 92 l) => refN32_any (some ⟨b, off + 8, none⟩) 84 (c - 8) (l.drop 8) (by omega) (by omega) W (h.drop 8 b off rfl (by omega)))
  obtain ⟨u, hu⟩ : ∃ z, numL ((l.drop 8).take 4) = z := ⟨_, rfl⟩
  rw [hu] at HN1
  have HOF := Lib.hid (show MsgM.mk [v, u] (l.drop 12) = msOf 2 l from by rw [← hv, ← hu]; rfl)
  have HLO := Lib.hid (MsgM.cells_length (msOf_ok hll))
  have HUO := Lib.hid (show (Try.prog.info? 32).map (·.size) = some (msOf 2 l).cells.length from by rw [HLO.out]; kernel_rfl)
  obtain ⟨co, hco⟩ : ∃ z, (msOf 2 l).cells.toArray = z := ⟨_, rfl⟩
  have HCO := Lib.hid hco
  obtain ⟨B, hB⟩ : ∃ z, l.drop 12 = z := ⟨_, rfl⟩
  rw [hB] at HOF
  have HB := Lib.hid (show B.length = 80 from by rw [← hB, List.length_drop, hl])
  have HDB := Lib.hid (show ∀ s o : Nat, s = 12 + o → l.drop s = B.drop o from by intro s o h; rw [h, ← hB, List.drop_drop])
  replace HM := Lib.hid (show Mem w [blkE (w.heap.size + 1) 32 (MsgM.mk [0, 0] (msD B 80 0)).cells, blkE w.heap.size 32 (msg0 2).cells] w2 from by have h := HM.out; rw [msD_zero]; exact h)
  clear hv hu hco hB hll hq HKD hl hn hnc
  go_upto_region 4 with fail
  refine wp_region_held_drew (S := fun W' => Mem w [blkE w.heap.size 32 (msg0 2).cells] W') (by kernel_rfl) (((HM.out.erase 0)).drew) (fun hHeld => ?_)
  replace HM := Lib.hid HM.out.drew
  generalize w2.drew = wd1 at HM hHeld ⊢
  refine take_first (v := ?_) 0 rfl (by kernel_rfl) (by kernel_rfl) (by kernel_rfl) (fun _ _ _ h => h) (Or.inl ⟨by rfl, ?_⟩) (by assumption) ?_
  rotate_left
  · (intro w hSw; (try dsimp only at hSw); go_simp; try with_reducible rfl)
  (try simp only [Act.put, List.setIfInBounds_toArray, List.set_cons_zero, List.set_cons_succ])
  refine take_first (v := ?_) 1 rfl (by kernel_rfl) (by kernel_rfl) (by kernel_rfl) (fun _ _ _ h => h) (Or.inl ⟨by rfl, ?_⟩) (by assumption) ?_
  rotate_left
  · (intro w hSw; (try dsimp only at hSw); have hs := HS4.out w; rw [show ((4 : Nat) : Int) = 4 from rfl] at hs; go_simp; try with_reducible rfl)
  (try simp only [Act.put, List.setIfInBounds_toArray, List.set_cons_zero, List.set_cons_succ])
  refine take_first (v := ?_) 3 rfl (by kernel_rfl) (by kernel_rfl) (by kernel_rfl) (fun _ _ _ h => h) (Or.inl ⟨by rfl, ?_⟩) (by assumption) ?_
  rotate_left
  · (intro w hSw; (try dsimp only at hSw); go_simp; try with_reducible rfl)
  (try simp only [Act.put, List.setIfInBounds_toArray, List.set_cons_zero, List.set_cons_succ])
  refine take_first (v := ?_) 4 rfl (by kernel_rfl) (by kernel_rfl) (by kernel_rfl) (fun _ _ _ h => h) (Or.inl ⟨by rfl, ?_⟩) (by assumption) ?_
  rotate_left
  · (intro w hSw; (try dsimp only at hSw); have hs := HS8.out w; rw [show ((8 : Nat) : Int) = 8 from rfl] at hs; go_simp; try with_reducible rfl)
  (try simp only [Act.put, List.setIfInBounds_toArray, List.set_cons_zero, List.set_cons_succ])
  refine step_one 2 rfl (by kernel_rfl) (fun K hK => ?_)
  clear hHeld
  go_simp
  refine (HN0.out _ (HM.out.arg HR.out)).mono ?_
  rintro e wy ⟨rfl, rfl⟩
  go_wp2_with fail
  refine hK.out _ _ ((HM.out.erase 0)) (fun hHeld => ?_)
  clear hK K
  (try simp only [Act.put, List.setIfInBounds_toArray, List.set_cons_zero, List.set_cons_succ])
  refine step_one 5 rfl (by kernel_rfl) (fun K hK => ?_)
  clear hHeld
  go_simp
  refine (HN1.out _ (HM.out.arg HR.out)).mono ?_
  rintro e wy ⟨rfl, rfl⟩
  go_wp2_with fail
  refine hK.out _ _ ((HM.out.erase 0)) (fun hHeld => ?_)
  clear hK K
  (try simp only [Act.put, List.setIfInBounds_toArray, List.set_cons_zero, List.set_cons_succ])
  refine take_first (v := ?_) 6 rfl (by kernel_rfl) (by kernel_rfl) (by kernel_rfl) (fun _ _ _ h => h) (Or.inl ⟨by rfl, ?_⟩) (by assumption) ?_
  rotate_left
  · (intro w hSw; (try dsimp only at hSw); go_simp; try with_reducible rfl)
  (try simp only [Act.put, List.setIfInBounds_toArray, List.set_cons_zero, List.set_cons_succ])
  refine step_one 7 rfl (by kernel_rfl) (fun K hK => ?_)
  clear hHeld
  have fx := ((HM.out.blk 0 rfl).cell 0)
  rw [show (MsgM.mk [0, 0] (msD B 80 0)).cells[0]? = some (.int .u32 0) from rfl] at fx
  have zx := (HM.out.blk 0 rfl).frozen 0
  go_simp
  replace HM := Lib.hid (show Mem w [blkE (w.heap.size + 1) 32 (MsgM.mk [v, 0] (msD B 80 0)).cells, blkE w.heap.size 32 (msg0 2).cells] (wd1.setCell ⟨(w.heap.size + 1), 0, none⟩ (.int .u32 (v : Int))) from HM.out.setCell 0 rfl 0 (u32c v))
  clear fx zx
  generalize wd1.setCell ⟨(w.heap.size + 1), 0, none⟩ (.int .u32 (v : Int)) = wy2 at HM ⊢
  refine hK.out _ _ ((HM.out.erase 0)) (fun hHeld => ?_)
  clear hK K
  (try simp only [Act.put])
  refine take_first (v := ?_) 8 rfl (by kernel_rfl) (by kernel_rfl) (by kernel_rfl) (fun _ _ _ h => h) (Or.inl ⟨by rfl, ?_⟩) (by assumption) ?_
  rotate_left
  · (intro w hSw; (try dsimp only at hSw); go_simp; try with_reducible rfl)
  (try simp only [Act.put, List.setIfInBounds_toArray, List.set_cons_zero, List.set_cons_succ])
  refine step_one 9 rfl (by kernel_rfl) (fun K hK => ?_)
  clear hHeld
  have fx := ((HM.out.blk 0 rfl).cell 1)
  rw [show (MsgM.mk [v, 0] (msD B 80 0)).cells[1]? = some (.int .u32 0) from rfl] at fx
  have zx := (HM.out.blk 0 rfl).frozen 1
  go_simp
  replace HM := Lib.hid (show Mem w [blkE (w.heap.size + 1) 32 (MsgM.mk [v, u] (msD B 80 0)).cells, blkE w.heap.size 32 (msg0 2).cells] (wy2.setCell ⟨(w.heap.size + 1), 1, none⟩ (.int .u32 (u : Int))) from HM.out.setCell 0 rfl 1 (u32c u))
  clear fx zx
  generalize wy2.setCell ⟨(w.heap.size + 1), 1, none⟩ (.int .u32 (u : Int)) = wy3 at HM ⊢
  refine hK.out _ _ ((HM.out.erase 0)) (fun hHeld => ?_)
  clear hK K
  (try simp only [Act.put])
  refine wpAnyH_done (by kernel_rfl) ?_ _
  clear hHeld
  generalize hwq : wy3 = w3 at HM ⊢
  clear hwq
  go_upto_region 5 with fail
  refine wp_region_held_drew (S := fun W' => Mem w [blkE w.heap.size 32 (msg0 2).cells] W') (by kernel_rfl) (((HM.out.erase 0)).drew) (fun hHeld => ?_)
  replace HM := Lib.hid HM.out.drew
  generalize w3.drew = wd1 at HM hHeld ⊢
  refine take_first (v := ?_) 0 rfl (by kernel_rfl) (by kernel_rfl) (by kernel_rfl) (fun _ _ _ h => h) (Or.inl ⟨by rfl, ?_⟩) (by assumption) ?_
  rotate_left
  · (intro w hSw; (try dsimp only at hSw); go_simp; try with_reducible rfl)
  (try simp only [Act.put, List.setIfInBounds_toArray, List.set_cons_zero, List.set_cons_succ])
  refine take_first (v := ?_) 1 rfl (by kernel_rfl) (by kernel_rfl) (by kernel_rfl) (fun _ _ _ h => h) (Or.inl ⟨by rfl, ?_⟩) (by assumption) ?_
  rotate_left
  · (intro w hSw; (try dsimp only at hSw); go_simp; try with_reducible rfl)
  (try simp only [Act.put, List.setIfInBounds_toArray, List.set_cons_zero, List.set_cons_succ])
  refine take_first (v := ?_) 2 rfl (by kernel_rfl) (by kernel_rfl) (by kernel_rfl) (fun _ _ _ h => h) (Or.inl ⟨by rfl, ?_⟩) (by assumption) ?_
  rotate_left
  · (intro w hSw; (try dsimp only at hSw); go_simp; try with_reducible rfl)
  (try simp only [Act.put, List.setIfInBounds_toArray, List.set_cons_zero, List.set_cons_succ])
  refine take_first (v := ?_) 3 rfl (by kernel_rfl) (by kernel_rfl) (by kernel_rfl) (fun _ _ _ h => h) (Or.inl ⟨by rfl, ?_⟩) (by assumption) ?_
  rotate_left
  · (intro w hSw; (try dsimp only at hSw); have hs := HS12.out w; rw [show ((12 : Nat) : Int) = 12 from rfl] at hs; go_simp; try with_reducible rfl)
  (try simp only [Act.put, List.setIfInBounds_toArray, List.set_cons_zero, List.set_cons_succ])
  refine step_one 4 rfl (by kernel_rfl) (fun K hK => ?_)
  clear hHeld
  refine step_copy_blk rfl (.tmp 18) (.tmp 20) 38 38 (by rfl) 5 Try.underlying38 (by kernel_rfl) (w.heap.size + 1) 2 32 32 ⟨b, off + 12, none⟩ 80 (c - 12) (by rfl) (by rfl) (MsgM.mk [v, u] (msD B 80 0)).cells 32 (HM.out.blk 0 rfl) (((l.drop 12).take 32).map u8v) (by rw [List.length_map, List.length_take, List.length_drop, HL.out] <;> rfl) (seg_src (HM.out.arg HR.out) 12 32 (by omega)) (by rw [List.length_map, List.length_take, List.length_drop, HL.out, MsgM.cells, List.length_append, List.length_map, List.length_map, msD_length B 80 0 HB.out (by omega)]; show 2 + min 32 (92 - 12) ≤ 2 + 80; decide) (u8v_one _) (MsgM.mk [v, u] (msD B 80 32)).cells (by rw [HDB.out 12 0 rfl]; refine (msg_put _ _ _ 2 0 rfl (by rw [List.length_take, List.length_drop, HB.out, msD_length B 80 0 HB.out (by omega)]; decide)).trans ?_; rw [msD_step B 80 0 32 HB.out (by omega)]) ?_
  intro wy2 hb hg
  replace HM := Lib.hid (show Mem w [blkE (w.heap.size + 1) 32 (MsgM.mk [v, u] (msD B 80 32)).cells, blkE w.heap.size 32 (msg0 2).cells] wy2 from HM.out.put 0 rfl _ hg hb)
  clear hb hg
  refine hK.out _ _ ((HM.out.erase 0)) (fun hHeld => ?_)
  clear hK K
  (try simp only [Act.put, List.setIfInBounds_toArray, List.set_cons_zero, List.set_cons_succ])
  refine wpAnyH_done (by kernel_rfl) ?_ _
  clear hHeld
  generalize hwq : wy2 = wf0 at HM ⊢
  clear hwq
  go_upto_region 6 with fail
  refine wp_region_held_drew (S := fun W' => Mem w [blkE w.heap.size 32 (msg0 2).cells] W') (by kernel_rfl) (((HM.out.erase 0)).drew) (fun hHeld => ?_)
  replace HM := Lib.hid HM.out.drew
  generalize wf0.drew = wd1 at HM hHeld ⊢
  refine take_first (v := ?_) 0 rfl (by kernel_rfl) (by kernel_rfl) (by kernel_rfl) (fun _ _ _ h => h) (Or.inl ⟨by rfl, ?_⟩) (by assumption) ?_
  rotate_left
  · (intro w hSw; (try dsimp only at hSw); go_simp; try with_reducible rfl)
  (try simp only [Act.put, List.setIfInBounds_toArray, List.set_cons_zero, List.set_cons_succ])
  refine take_first (v := ?_) 1 rfl (by kernel_rfl) (by kernel_rfl) (by kernel_rfl) (fun _ _ _ h => h) (Or.inl ⟨by rfl, ?_⟩) (by assumption) ?_
  rotate_left
  · (intro w hSw; (try dsimp only at hSw); go_simp; try with_reducible rfl)
  (try simp only [Act.put, List.setIfInBounds_toArray, List.set_cons_zero, List.set_cons_succ])
  refine take_first (v := ?_) 2 rfl (by kernel_rfl) (by kernel_rfl) (by kernel_rfl) (fun _ _ _ h => h) (Or.inl ⟨by rfl, ?_⟩) (by assumption) ?_
  rotate_left
  · (intro w hSw; (try dsimp only at hSw); go_simp; try with_reducible rfl)
  (try simp only [Act.put, List.setIfInBounds_toArray, List.set_cons_zero, List.set_cons_succ])
  refine take_first (v := ?_) 3 rfl (by kernel_rfl) (by kernel_rfl) (by kernel_rfl) (fun _ _ _ h => h) (Or.inl ⟨by rfl, ?_⟩) (by assumption) ?_
  rotate_left
  · (intro w hSw; (try dsimp only at hSw); have hs := HS44.out w; rw [show ((44 : Nat) : Int) = 44 from rfl] at hs; go_simp; try with_reducible rfl)
  (try simp only [Act.put, List.setIfInBounds_toArray, List.set_cons_zero, List.set_cons_succ])
  refine step_one 4 rfl (by kernel_rfl) (fun K hK => ?_)
  clear hHeld
  refine step_copy_blk rfl (.tmp 23) (.tmp 25) 38 38 (by rfl) 5 Try.underlying38 (by kernel_rfl) (w.heap.size + 1) 34 16 16 ⟨b, off + 44, none⟩ 48 (c - 44) (by rfl) (by rfl) (MsgM.mk [v, u] (msD B 80 32)).cells 32 (HM.out.blk 0 rfl) (((l.drop 44).take 16).map u8v) (by rw [List.length_map, List.length_take, List.length_drop, HL.out] <;> rfl) (seg_src (HM.out.arg HR.out) 44 16 (by omega)) (by rw [List.length_map, List.length_take, List.length_drop, HL.out, MsgM.cells, List.length_append, List.length_map, List.length_map, msD_length B 80 32 HB.out (by omega)]; show 34 + min 16 (92 - 44) ≤ 2 + 80; decide) (u8v_one _) (MsgM.mk [v, u] (msD B 80 48)).cells (by rw [HDB.out 44 32 rfl]; refine (msg_put _ _ _ 34 32 rfl (by rw [List.length_take, List.length_drop, HB.out, msD_length B 80 32 HB.out (by omega)]; decide)).trans ?_; rw [msD_step B 80 32 16 HB.out (by omega)]) ?_
  intro wy2 hb hg
  replace HM := Lib.hid (show Mem w [blkE (w.heap.size + 1) 32 (MsgM.mk [v, u] (msD B 80 48)).cells, blkE w.heap.size 32 (msg0 2).cells] wy2 from HM.out.put 0 rfl _ hg hb)
  clear hb hg
  refine hK.out _ _ ((HM.out.erase 0)) (fun hHeld => ?_)
  clear hK K
  (try simp only [Act.put, List.setIfInBounds_toArray, List.set_cons_zero, List.set_cons_succ])
  refine wpAnyH_done (by kernel_rfl) ?_ _
  clear hHeld
  generalize hwq : wy2 = wf1 at HM ⊢
  clear hwq
  go_upto_region 7 with fail
  refine wp_region_held_drew (S := fun W' => Mem w [blkE w.heap.size 32 (msg0 2).cells] W') (by kernel_rfl) (((HM.out.erase 0)).drew) (fun hHeld => ?_)
  replace HM := Lib.hid HM.out.drew
  generalize wf1.drew = wd1 at HM hHeld ⊢
  refine take_first (v := ?_) 0 rfl (by kernel_rfl) (by kernel_rfl) (by kernel_rfl) (fun _ _ _ h => h) (Or.inl ⟨by rfl, ?_⟩) (by assumption) ?_
  rotate_left
  · (intro w hSw; (try dsimp only at hSw); go_simp; try with_reducible rfl)
  (try simp only [Act.put, List.setIfInBounds_toArray, List.set_cons_zero, List.set_cons_succ])
  refine take_first (v := ?_) 1 rfl (by kernel_rfl) (by kernel_rfl) (by kernel_rfl) (fun _ _ _ h => h) (Or.inl ⟨by rfl, ?_⟩) (by assumption) ?_
  rotate_left
  · (intro w hSw; (try dsimp only at hSw); go_simp; try with_reducible rfl)
  (try simp only [Act.put, List.setIfInBounds_toArray, List.set_cons_zero, List.set_cons_succ])
  refine take_first (v := ?_) 2 rfl (by kernel_rfl) (by kernel_rfl) (by kernel_rfl) (fun _ _ _ h => h) (Or.inl ⟨by rfl, ?_⟩) (by assumption) ?_
  rotate_left
  · (intro w hSw; (try dsimp only at hSw); go_simp; try with_reducible rfl)
  (try simp only [Act.put, List.setIfInBounds_toArray, List.set_cons_zero, List.set_cons_succ])
  refine take_first (v := ?_) 3 rfl (by kernel_rfl) (by kernel_rfl) (by kernel_rfl) (fun _ _ _ h => h) (Or.inl ⟨by rfl, ?_⟩) (by assumption) ?_
  rotate_left
  · (intro w hSw; (try dsimp only at hSw); have hs := HS60.out w; rw [show ((60 : Nat) : Int) = 60 from rfl] at hs; go_simp; try with_reducible rfl)
  (try simp only [Act.put, List.setIfInBounds_toArray, List.set_cons_zero, List.set_cons_succ])
  refine step_one 4 rfl (by kernel_rfl) (fun K hK => ?_)
  clear hHeld
  refine step_copy_blk rfl (.tmp 28) (.tmp 30) 38 38 (by rfl) 5 Try.underlying38 (by kernel_rfl) (w.heap.size + 1) 50 16 16 ⟨b, off + 60, none⟩ 32 (c - 60) (by rfl) (by rfl) (MsgM.mk [v, u] (msD B 80 48)).cells 32 (HM.out.blk 0 rfl) (((l.drop 60).take 16).map u8v) (by rw [List.length_map, List.length_take, List.length_drop, HL.out] <;> rfl) (seg_src (HM.out.arg HR.out) 60 16 (by omega)) (by rw [List.length_map, List.length_take, List.length_drop, HL.out, MsgM.cells, List.length_append, List.length_map, List.length_map, msD_length B 80 48 HB.out (by omega)]; show 50 + min 16 (92 - 60) ≤ 2 + 80; decide) (u8v_one _) (MsgM.mk [v, u] (msD B 80 64)).cells (by rw [HDB.out 60 48 rfl]; refine (msg_put _ _ _ 50 48 rfl (by rw [List.length_take, List.length_drop, HB.out, msD_length B 80 48 HB.out (by omega)]; decide)).trans ?_; rw [msD_step B 80 48 16 HB.out (by omega)]) ?_
  intro wy2 hb hg
  replace HM := Lib.hid (show Mem w [blkE (w.heap.size + 1) 32 (MsgM.mk [v, u] (msD B 80 64)).cells, blkE w.heap.size 32 (msg0 2).cells] wy2 from HM.out.put 0 rfl _ hg hb)
  clear hb hg
  refine hK.out _ _ ((HM.out.erase 0)) (fun hHeld => ?_)
  clear hK K
  (try simp only [Act.put, List.setIfInBounds_toArray, List.set_cons_zero, List.set_cons_succ])
  refine wpAnyH_done (by kernel_rfl) ?_ _
  clear hHeld
  generalize hwq : wy2 = wf2 at HM ⊢
  clear hwq
  go_upto_region 8 with fail
  refine wp_region_held_drew (S := fun W' => Mem w [blkE w.heap.size 32 (msg0 2).cells] W') (by kernel_rfl) (((HM.out.erase 0)).drew) (fun hHeld => ?_)
  replace HM := Lib.hid HM.out.drew
  generalize wf2.drew = wd1 at HM hHeld ⊢
  refine take_first (v := ?_) 0 rfl (by kernel_rfl) (by kernel_rfl) (by kernel_rfl) (fun _ _ _ h => h) (Or.inl ⟨by rfl, ?_⟩) (by assumption) ?_
  rotate_left
  · (intro w hSw; (try dsimp only at hSw); go_simp; try with_reducible rfl)
  (try simp only [Act.put, List.setIfInBounds_toArray, List.set_cons_zero, List.set_cons_succ])
  refine take_first (v := ?_) 1 rfl (by kernel_rfl) (by kernel_rfl) (by kernel_rfl) (fun _ _ _ h => h) (Or.inl ⟨by rfl, ?_⟩) (by assumption) ?_
  rotate_left
  · (intro w hSw; (try dsimp only at hSw); go_simp; try with_reducible rfl)
  (try simp only [Act.put, List.setIfInBounds_toArray, List.set_cons_zero, List.set_cons_succ])
  refine take_first (v := ?_) 2 rfl (by kernel_rfl) (by kernel_rfl) (by kernel_rfl) (fun _ _ _ h => h) (Or.inl ⟨by rfl, ?_⟩) (by assumption) ?_
  rotate_left
  · (intro w hSw; (try dsimp only at hSw); go_simp; try with_reducible rfl)
  (try simp only [Act.put, List.setIfInBounds_toArray, List.set_cons_zero, List.set_cons_succ])
  refine take_first (v := ?_) 3 rfl (by kernel_rfl) (by kernel_rfl) (by kernel_rfl) (fun _ _ _ h => h) (Or.inl ⟨by rfl, ?_⟩) (by assumption) ?_
  rotate_left
  · (intro w hSw; (try dsimp only at hSw); have hs := HS76.out w; rw [show ((76 : Nat) : Int) = 76 from rfl] at hs; go_simp; try with_reducible rfl)
  (try simp only [Act.put, List.setIfInBounds_toArray, List.set_cons_zero, List.set_cons_succ])
  refine step_one 4 rfl (by kernel_rfl) (fun K hK => ?_)
  clear hHeld
  refine step_copy_blk rfl (.tmp 33) (.tmp 35) 38 38 (by rfl) 5 Try.underlying38 (by kernel_rfl) (w.heap.size + 1) 66 16 16 ⟨b, off + 76, none⟩ 16 (c - 76) (by rfl) (by rfl) (MsgM.mk [v, u] (msD B 80 64)).cells 32 (HM.out.blk 0 rfl) (((l.drop 76).take 16).map u8v) (by rw [List.length_map, List.length_take, List.length_drop, HL.out] <;> rfl) (seg_src (HM.out.arg HR.out) 76 16 (by omega)) (by rw [List.length_map, List.length_take, List.length_drop, HL.out, MsgM.cells, List.length_append, List.length_map, List.length_map, msD_length B 80 64 HB.out (by omega)]; show 66 + min 16 (92 - 76) ≤ 2 + 80; decide) (u8v_one _) (MsgM.mk [v, u] (msD B 80 80)).cells (by rw [HDB.out 76 64 rfl]; refine (msg_put _ _ _ 66 64 rfl (by rw [List.length_take, List.length_drop, HB.out, msD_length B 80 64 HB.out (by omega)]; decide)).trans ?_; rw [msD_step B 80 64 16 HB.out (by omega)]) ?_
  intro wy2 hb hg
  replace HM := Lib.hid (show Mem w [blkE (w.heap.size + 1) 32 (MsgM.mk [v, u] (msD B 80 80)).cells, blkE w.heap.size 32 (msg0 2).cells] wy2 from HM.out.put 0 rfl _ hg hb)
  clear hb hg
  refine hK.out _ _ ((HM.out.erase 0)) (fun hHeld => ?_)
  clear hK K
  (try simp only [Act.put, List.setIfInBounds_toArray, List.set_cons_zero, List.set_cons_succ])
  refine wpAnyH_done (by kernel_rfl) ?_ _
  clear hHeld
  generalize hwq : wy2 = wf3 at HM ⊢
  clear hwq
  go_upto_region 9 with fail
  have HM3 := Lib.hid (show Mem w [blkE (w.heap.size + 1) 32 (msOf 2 l).cells, blkE w.heap.size 32 (msg0 2).cells] wf3 from by have h := HM.out; rw [msD_all B 80 HB.out, HOF.out] at h; exact h)
  clear HM
  go_wp2_with (first | (refine wpList_load_obj rfl 32 (.tmp 4) rfl (w.heap.size + 1) 0 rfl (msOf 2 l).cells (HM3.out.blk 0 rfl).all _ Try.underlying32 rfl HUO.out ?_; rw [HCO.out]) | (refine wpList_store_blk rfl 32 (.tmp 2) (.tmp 37) rfl w.heap.size (msOf 2 l).cells rfl (by show Value.agg co = _; rw [HCO.out]) 32 (msg0 2).cells (HM3.out.blk 1 rfl) HUO.out (by rw [HLO.out, HLZ.out]) (MsgM.one _) ?_; intro w9 hb9 hg9))
  exact bodyPost_ret (results_obj_tmp rfl _ _ w.heap.size 32 (msOf 2 l).cells _ rfl hb9 Try.underlying32 rfl HUO.out) rfl ⟨by rw [HE.out]; rfl, (HM3.out.put 1 rfl _ hg9 hb9).bel⟩

set_option maxRecDepth 100000 in
set_option maxHeartbeats 16000000 in
theorem refDec3 : MsDecC 32 3 := by
  intro A n c l hnc hcm hn w hr
  have HKD := Lib.hid (refKind_any A n c l hnc hcm hn)
  have HR := Lib.hid hr
  have hl : l.length = n := hr.1
  have hlz := MsgM.cells_length (msg0_ok 3)
  have HUZ := Lib.hid (show (Try.prog.info? 36).map (·.size) = some (msg0 3).cells.length from by rw [hlz]; kernel_rfl)
  have HLZ := Lib.hid hlz
  have hcz0 : (msg0 3).cells = (MsgM.mk [0] (List.replicate 56 0)).cells := rfl
  obtain ⟨cz, hcz⟩ : ∃ z, (msg0 3).cells.toArray = z := ⟨_, rfl⟩
  have HCZ := Lib.hid hcz
  have HZ0 := Lib.hid hcz0
  have HM := Lib.hid (show Mem w [blkE (w.heap.size + 1) 36 (msg0 3).cells, blkE w.heap.size 36 (msg0 3).cells] ((w.alloc (.cells #[.int .u32 0, .int .u8 0, .int .u8 0, .int .u8 0, .int .u8 0, .int .u8 0, .int .u8 0, .int .u8 0, .int .u8 0, .int .u8 0, .int .u8 0, .int .u8 0, .int .u8 0, .int .u8 0, .int .u8 0, .int .u8 0, .int .u8 0, .int .u8 0, .int .u8 0, .int .u8 0, .int .u8 0, .int .u8 0, .int .u8 0, .int .u8 0, .int .u8 0, .int .u8 0, .int .u8 0, .int .u8 0, .int .u8 0, .int .u8 0, .int .u8 0, .int .u8 0, .int .u8 0, .int .u8 0, .int .u8 0, .int .u8 0, .int .u8 0, .int .u8 0, .int .u8 0, .int .u8 0, .int .u8 0, .int .u8 0, .int .u8 0, .int .u8 0, .int .u8 0, .int .u8 0, .int .u8 0, .int .u8 0, .int .u8 0, .int .u8 0, .int .u8 0, .int .u8 0, .int .u8 0, .int .u8 0, .int .u8 0, .int .u8 0, .int .u8 0] 36)).alloc (.cells #[.int .u32 0, .int .u8 0, .int .u8 0, .int .u8 0, .int .u8 0, .int .u8 0, .int .u8 0, .int .u8 0, .int .u8 0, .int .u8 0, .int .u8 0, .int .u8 0, .int .u8 0, .int .u8 0, .int .u8 0, .int .u8 0, .int .u8 0, .int .u8 0, .int .u8 0, .int .u8 0, .int .u8 0, .int .u8 0, .int .u8 0, .int .u8 0, .int .u8 0, .int .u8 0, .int .u8 0, .int .u8 0, .int .u8 0, .int .u8 0, .int .u8 0, .int .u8 0, .int .u8 0, .int .u8 0, .int .u8 0, .int .u8 0, .int .u8 0, .int .u8 0, .int .u8 0, .int .u8 0, .int .u8 0, .int .u8 0, .int .u8 0, .int .u8 0, .int .u8 0, .int .u8 0, .int .u8 0, .int .u8 0, .int .u8 0, .int .u8 0, .int .u8 0, .int .u8 0, .int .u8 0, .int .u8 0, .int .u8 0, .int .u8 0, .int .u8 0] 36)) from ((Mem.nil w).alloc rfl 36 #[.int .u32 0, .int .u8 0, .int .u8 0, .int .u8 0, .int .u8 0, .int .u8 0, .int .u8 0, .int .u8 0, .int .u8 0, .int .u8 0, .int .u8 0, .int .u8 0, .int .u8 0, .int .u8 0, .int .u8 0, .int .u8 0, .int .u8 0, .int .u8 0, .int .u8 0, .int .u8 0, .int .u8 0, .int .u8 0, .int .u8 0, .int .u8 0, .int .u8 0, .int .u8 0, .int .u8 0, .int .u8 0, .int .u8 0, .int .u8 0, .int .u8 0, .int .u8 0, .int .u8 0, .int .u8 0, .int .u8 0, .int .u8 0, .int .u8 0, .int .u8 0, .int .u8 0, .int .u8 0, .int .u8 0, .int .u8 0, .int .u8 0, .int .u8 0, .int .u8 0, .int .u8 0, .int .u8 0, .int .u8 0, .int .u8 0, .int .u8 0, .int .u8 0, .int .u8 0, .int .u8 0, .int .u8 0, .int .u8 0, .int .u8 0, .int .u8 0] (msg0 3).cells (by kernel_rfl)).alloc (by simp) 36 #[.int .u32 0, .int .u8 0, .int .u8 0, .int .u8 0, .int .u8 0, .int .u8 0, .int .u8 0, .int .u8 0, .int .u8 0, .int .u8 0, .int .u8 0, .int .u8 0, .int .u8 0, .int .u8 0, .int .u8 0, .int .u8 0, .int .u8 0, .int .u8 0, .int .u8 0, .int .u8 0, .int .u8 0, .int .u8 0, .int .u8 0, .int .u8 0, .int .u8 0, .int .u8 0, .int .u8 0, .int .u8 0, .int .u8 0, .int .u8 0, .int .u8 0, .int .u8 0, .int .u8 0, .int .u8 0, .int .u8 0, .int .u8 0, .int .u8 0, .int .u8 0, .int .u8 0, .int .u8 0, .int .u8 0, .int .u8 0, .int .u8 0, .int .u8 0, .int .u8 0, .int .u8 0, .int .u8 0, .int .u8 0, .int .u8 0, .int .u8 0, .int .u8 0, .int .u8 0, .int .u8 0, .int .u8 0, .int .u8 0, .int .u8 0, .int .u8 0] (msg0 3).cells (by kernel_rfl))
  obtain ⟨q, hq⟩ : ∃ q, kindB l = q := ⟨_, rfl⟩
  rw [hq] at HKD
  clear hr hlz hcz hcz0
  go_enter Try.func32, Try.ntmps32
  go_upto_region 2 with fail
  generalize ((w.alloc (.cells #[.int .u32 0, .int .u8 0, .int .u8 0, .int .u8 0, .int .u8 0, .int .u8 0, .int .u8 0, .int .u8 0, .int .u8 0, .int .u8 0, .int .u8 0, .int .u8 0, .int .u8 0, .int .u8 0, .int .u8 0, .int .u8 0, .int .u8 0, .int .u8 0, .int .u8 0, .int .u8 0, .int .u8 0, .int .u8 0, .int .u8 0, .int .u8 0, .int .u8 0, .int .u8 0, .int .u8 0, .int .u8 0, .int .u8 0, .int .u8 0, .int .u8 0, .int .u8 0, .int .u8 0, .int .u8 0, .int .u8 0, .int .u8 0, .int .u8 0, .int .u8 0, .int .u8 0, .int .u8 0, .int .u8 0, .int .u8 0, .int .u8 0, .int .u8 0, .int .u8 0, .int .u8 0, .int .u8 0, .int .u8 0, .int .u8 0, .int .u8 0, .int .u8 0, .int .u8 0, .int .u8 0, .int .u8 0, .int .u8 0, .int .u8 0, .int .u8 0] 36)).alloc (.cells #[.int .u32 0, .int .u8 0, .int .u8 0, .int .u8 0, .int .u8 0, .int .u8 0, .int .u8 0, .int .u8 0, .int .u8 0, .int .u8 0, .int .u8 0, .int .u8 0, .int .u8 0, .int .u8 0, .int .u8 0, .int .u8 0, .int .u8 0, .int .u8 0, .int .u8 0, .int .u8 0, .int .u8 0, .int .u8 0, .int .u8 0, .int .u8 0, .int .u8 0, .int .u8 0, .int .u8 0, .int .u8 0, .int .u8 0, .int .u8 0, .int .u8 0, .int .u8 0, .int .u8 0, .int .u8 0, .int .u8 0, .int .u8 0, .int .u8 0, .int .u8 0, .int .u8 0, .int .u8 0, .int .u8 0, .int .u8 0, .int .u8 0, .int .u8 0, .int .u8 0, .int .u8 0, .int .u8 0, .int .u8 0, .int .u8 0, .int .u8 0, .int .u8 0, .int .u8 0, .int .u8 0, .int .u8 0, .int .u8 0, .int .u8 0, .int .u8 0] 36)) = w1 at HM ⊢
  go_wp2_with fail
  refine (HKD.out _ (HM.out.arg HR.out)).mono ?_
  rintro e w2 ⟨rfl, hb⟩
  replace HM := Lib.hid (HM.out.below hb)
  clear hb
  by_cases hk : q = 3
  case neg =>
    have ek : ((q : Int) != 3) = true := by rw [bne_iff_ne]; omega
    have HE := Lib.hid (show decB 3 l = (msg0 3, 4) from by rw [decB, if_neg (by rw [hq]; exact hk)])
    clear hq hk hl hnc hcm hn
    go_wp2_with (first | (refine wpList_load_obj rfl 36 (.tmp 4) rfl (w.heap.size + 1) 0 rfl (msg0 3).cells (HM.out.blk 0 rfl).all _ Try.underlying36 rfl HUZ.out ?_; rw [HCZ.out]) | (refine wpList_store_blk rfl 36 (.tmp 2) (.tmp 8) rfl w.heap.size (msg0 3).cells rfl (by show Value.agg cz = _; rw [HCZ.out]) 36 (msg0 3).cells (HM.out.blk 1 rfl) HUZ.out rfl (MsgM.one _) ?_; intro w9 hb9 hg9))
    exact bodyPost_ret (results_obj_tmp rfl _ _ w.heap.size 36 (msg0 3).cells _ rfl hb9 Try.underlying36 rfl HUZ.out) rfl ⟨by rw [HE.out]; rfl, (HM.out.put 1 rfl _ hg9 hb9).bel⟩
  subst hk
  have hll := kindB_len (k := 3) (by omega) hq
  have hn2 : n = 64 := by rw [← hl, hll]; rfl
  subst hn2
  have HE := Lib.hid (show decB 3 l = (msOf 3 l, 0) from by rw [decB, if_pos hq])
  have HL := Lib.hid hl
  obtain ⟨b, off, rfl, -, -⟩ := HR.out.at_ (by omega)
  have HS4 := Lib.hid (slice_l (some ⟨b, off, none⟩) 64 c 4 (by omega))
  rw [addrOf_some b off 4 c (by omega)] at HS4
  have HS8 := Lib.hid (slice_l (some ⟨b, off, none⟩) 64 c 8 (by omega))
  rw [addrOf_some b off 8 c (by omega)] at HS8
  have HS32 := Lib.hid (slice_l (some ⟨b, off, none⟩) 64 c 32 (by omega))
  rw [addrOf_some b off 32 c (by omega)] at HS32
  have HN0 := Lib.hid (fun W (h : Rd W W.heap.size (some ⟨b, off, none⟩) 64 l) => refN32_any (some ⟨b, off + 4, none⟩) 60 (c - 4) (l.drop 4) (by omega) (by omega) W (h.drop 4 b off rfl (by omega)))
  obtain ⟨v, hv⟩ : ∃ z, numL ((l.drop 4).take 4) = z := ⟨_, rfl⟩
  rw [hv] at HN0
  have HOF := Lib.hid (show MsgM.mk [v] (l.drop 8) = msOf 3 l from by rw [← hv]; rfl)
  have HLO := Lib.hid (MsgM.cells_length (msOf_ok hll))
  have HUO := Lib.hid (show (Try.prog.info? 36).map (·.size) = some (msOf 3 l).cells.length from by rw [HLO.out]; kernel_rfl)
  obtain ⟨co, hco⟩ : ∃ z, (msOf 3 l).cells.toArray = z := ⟨_, rfl⟩
  have HCO := Lib.hid hco
  obtain ⟨B, hB⟩ : ∃ z, l.drop 8 = z := ⟨_, rfl⟩
  rw [hB] at HOF
  have HB := Lib.hid (show B.length = 56 from by rw [← hB, List.length_drop, hl])
  have HDB := Lib.hid (show ∀ s o : Nat, s = 8 + o → l.drop s = B.drop o from by intro s o h; rw [h, ← hB, List.drop_drop])
  replace HM := Lib.hid (show Mem w [blkE (w.heap.size + 1) 36 (MsgM.mk [0] (msD B 56 0)).cells, blkE w.heap.size 36 (msg0 3).cells] w2 from by have h := HM.out; rw [msD_zero]; exact h)
  clear hv hco hB hll hq HKD hl hn hnc
  have hsw := HS4.out w2
  rw [show ((4 : Nat) : Int) = 4 from rfl] at hsw
  go_wp2_with fail
  refine (HN0.out _ (HM.out.arg HR.out)).mono ?_
  rintro e wy ⟨rfl, rfl⟩
  clear hsw
  have fx := ((HM.out.blk 0 rfl).cell 0)
  rw [show (MsgM.mk [0] (msD B 56 0)).cells[0]? = some (.int .u32 0) from rfl] at fx
  have zx := (HM.out.blk 0 rfl).frozen 0
  have HM2 := Lib.hid (show Mem w [blkE (w.heap.size + 1) 36 (MsgM.mk [v] (msD B 56 0)).cells, blkE w.heap.size 36 (msg0 3).cells] (w2.setCell ⟨(w.heap.size + 1), 0, none⟩ (.int .u32 (v : Int))) from HM.out.setCell 0 rfl 0 (u32c v))
  go_upto_region 5 with fail
  clear fx zx
  generalize w2.setCell ⟨(w.heap.size + 1), 0, none⟩ (.int .u32 (v : Int)) = w3 at HM2 ⊢
  replace HM := HM2
  clear HM2
  refine wp_region_held_drew (S := fun W' => Mem w [blkE w.heap.size 36 (msg0 3).cells] W') (by kernel_rfl) (((HM.out.erase 0)).drew) (fun hHeld => ?_)
  replace HM := Lib.hid HM.out.drew
  generalize w3.drew = wd1 at HM hHeld ⊢
  refine take_first (v := ?_) 0 rfl (by kernel_rfl) (by kernel_rfl) (by kernel_rfl) (fun _ _ _ h => h) (Or.inl ⟨by rfl, ?_⟩) (by assumption) ?_
  rotate_left
  · (intro w hSw; (try dsimp only at hSw); go_simp; try with_reducible rfl)
  (try simp only [Act.put, List.setIfInBounds_toArray, List.set_cons_zero, List.set_cons_succ])
  refine take_first (v := ?_) 1 rfl (by kernel_rfl) (by kernel_rfl) (by kernel_rfl) (fun _ _ _ h => h) (Or.inl ⟨by rfl, ?_⟩) (by assumption) ?_
  rotate_left
  · (intro w hSw; (try dsimp only at hSw); go_simp; try with_reducible rfl)
  (try simp only [Act.put, List.setIfInBounds_toArray, List.set_cons_zero, List.set_cons_succ])
  refine take_first (v := ?_) 2 rfl (by kernel_rfl) (by kernel_rfl) (by kernel_rfl) (fun _ _ _ h => h) (Or.inl ⟨by rfl, ?_⟩) (by assumption) ?_
  rotate_left
  · (intro w hSw; (try dsimp only at hSw); go_simp; try with_reducible rfl)
  (try simp only [Act.put, List.setIfInBounds_toArray, List.set_cons_zero, List.set_cons_succ])
  refine take_first (v := ?_) 3 rfl (by kernel_rfl) (by kernel_rfl) (by kernel_rfl) (fun _ _ _ h => h) (Or.inl ⟨by rfl, ?_⟩) (by assumption) ?_
  rotate_left
  · (intro w hSw; (try dsimp only at hSw); have hs := HS8.out w; rw [show ((8 : Nat) : Int) = 8 from rfl] at hs; go_simp; try with_reducible rfl)
  (try simp only [Act.put, List.setIfInBounds_toArray, List.set_cons_zero, List.set_cons_succ])
  refine step_one 4 rfl (by kernel_rfl) (fun K hK => ?_)
  clear hHeld
  refine step_copy_blk rfl (.tmp 14) (.tmp 16) 38 38 (by rfl) 5 Try.underlying38 (by kernel_rfl) (w.heap.size + 1) 1 24 24 ⟨b, off + 8, none⟩ 56 (c - 8) (by rfl) (by rfl) (MsgM.mk [v] (msD B 56 0)).cells 36 (HM.out.blk 0 rfl) (((l.drop 8).take 24).map u8v) (by rw [List.length_map, List.length_take, List.length_drop, HL.out] <;> rfl) (seg_src (HM.out.arg HR.out) 8 24 (by omega)) (by rw [List.length_map, List.length_take, List.length_drop, HL.out, MsgM.cells, List.length_append, List.length_map, List.length_map, msD_length B 56 0 HB.out (by omega)]; show 1 + min 24 (64 - 8) ≤ 1 + 56; decide) (u8v_one _) (MsgM.mk [v] (msD B 56 24)).cells (by rw [HDB.out 8 0 rfl]; refine (msg_put _ _ _ 1 0 rfl (by rw [List.length_take, List.length_drop, HB.out, msD_length B 56 0 HB.out (by omega)]; decide)).trans ?_; rw [msD_step B 56 0 24 HB.out (by omega)]) ?_
  intro wy2 hb hg
  replace HM := Lib.hid (show Mem w [blkE (w.heap.size + 1) 36 (MsgM.mk [v] (msD B 56 24)).cells, blkE w.heap.size 36 (msg0 3).cells] wy2 from HM.out.put 0 rfl _ hg hb)
  clear hb hg
  refine hK.out _ _ ((HM.out.erase 0)) (fun hHeld => ?_)
  clear hK K
  (try simp only [Act.put, List.setIfInBounds_toArray, List.set_cons_zero, List.set_cons_succ])
  refine wpAnyH_done (by kernel_rfl) ?_ _
  clear hHeld
  generalize hwq : wy2 = wf0 at HM ⊢
  clear hwq
  go_upto_region 6 with fail
  refine wp_region_held_drew (S := fun W' => Mem w [blkE w.heap.size 36 (msg0 3).cells] W') (by kernel_rfl) (((HM.out.erase 0)).drew) (fun hHeld => ?_)
  replace HM := Lib.hid HM.out.drew
  generalize wf0.drew = wd1 at HM hHeld ⊢
  refine take_first (v := ?_) 0 rfl (by kernel_rfl) (by kernel_rfl) (by kernel_rfl) (fun _ _ _ h => h) (Or.inl ⟨by rfl, ?_⟩) (by assumption) ?_
  rotate_left
  · (intro w hSw; (try dsimp only at hSw); go_simp; try with_reducible rfl)
  (try simp only [Act.put, List.setIfInBounds_toArray, List.set_cons_zero, List.set_cons_succ])
  refine take_first (v := ?_) 1 rfl (by kernel_rfl) (by kernel_rfl) (by kernel_rfl) (fun _ _ _ h => h) (Or.inl ⟨by rfl, ?_⟩) (by assumption) ?_
  rotate_left
  · (intro w hSw; (try dsimp only at hSw); go_simp; try with_reducible rfl)
  (try simp only [Act.put, List.setIfInBounds_toArray, List.set_cons_zero, List.set_cons_succ])
  refine take_first (v := ?_) 2 rfl (by kernel_rfl) (by kernel_rfl) (by kernel_rfl) (fun _ _ _ h => h) (Or.inl ⟨by rfl, ?_⟩) (by assumption) ?_
  rotate_left
  · (intro w hSw; (try dsimp only at hSw); go_simp; try with_reducible rfl)
  (try simp only [Act.put, List.setIfInBounds_toArray, List.set_cons_zero, List.set_cons_succ])
  refine take_first (v := ?_) 3 rfl (by kernel_rfl) (by kernel_rfl) (by kernel_rfl) (fun _ _ _ h => h) (Or.inl ⟨by rfl, ?_⟩) (by assumption) ?_
  rotate_left
  · (intro w hSw; (try dsimp only at hSw); have hs := HS32.out w; rw [show ((32 : Nat) : Int) = 32 from rfl] at hs; go_simp; try with_reducible rfl)
  (try simp only [Act.put, List.setIfInBounds_toArray, List.set_cons_zero, List.set_cons_succ])
  refine step_one 4 rfl (by kernel_rfl) (fun K hK => ?_)
  clear hHeld
  refine step_copy_blk rfl (.tmp 19) (.tmp 21) 38 38 (by rfl) 5 Try.underlying38 (by kernel_rfl) (w.heap.size + 1) 25 32 32 ⟨b, off + 32, none⟩ 32 (c - 32) (by rfl) (by rfl) (MsgM.mk [v] (msD B 56 24)).cells 36 (HM.out.blk 0 rfl) (((l.drop 32).take 32).map u8v) (by rw [List.length_map, List.length_take, List.length_drop, HL.out] <;> rfl) (seg_src (HM.out.arg HR.out) 32 32 (by omega)) (by rw [List.length_map, List.length_take, List.length_drop, HL.out, MsgM.cells, List.length_append, List.length_map, List.length_map, msD_length B 56 24 HB.out (by omega)]; show 25 + min 32 (64 - 32) ≤ 1 + 56; decide) (u8v_one _) (MsgM.mk [v] (msD B 56 56)).cells (by rw [HDB.out 32 24 rfl]; refine (msg_put _ _ _ 25 24 rfl (by rw [List.length_take, List.length_drop, HB.out, msD_length B 56 24 HB.out (by omega)]; decide)).trans ?_; rw [msD_step B 56 24 32 HB.out (by omega)]) ?_
  intro wy2 hb hg
  replace HM := Lib.hid (show Mem w [blkE (w.heap.size + 1) 36 (MsgM.mk [v] (msD B 56 56)).cells, blkE w.heap.size 36 (msg0 3).cells] wy2 from HM.out.put 0 rfl _ hg hb)
  clear hb hg
  refine hK.out _ _ ((HM.out.erase 0)) (fun hHeld => ?_)
  clear hK K
  (try simp only [Act.put, List.setIfInBounds_toArray, List.set_cons_zero, List.set_cons_succ])
  refine wpAnyH_done (by kernel_rfl) ?_ _
  clear hHeld
  generalize hwq : wy2 = wf1 at HM ⊢
  clear hwq
  go_upto_region 7 with fail
  have HM3 := Lib.hid (show Mem w [blkE (w.heap.size + 1) 36 (msOf 3 l).cells, blkE w.heap.size 36 (msg0 3).cells] wf1 from by have h := HM.out; rw [msD_all B 56 HB.out, HOF.out] at h; exact h)
  clear HM
  go_wp2_with (first | (refine wpList_load_obj rfl 36 (.tmp 4) rfl (w.heap.size + 1) 0 rfl (msOf 3 l).cells (HM3.out.blk 0 rfl).all _ Try.underlying36 rfl HUO.out ?_; rw [HCO.out]) | (refine wpList_store_blk rfl 36 (.tmp 2) (.tmp 23) rfl w.heap.size (msOf 3 l).cells rfl (by show Value.agg co = _; rw [HCO.out]) 36 (msg0 3).cells (HM3.out.blk 1 rfl) HUO.out (by rw [HLO.out, HLZ.out]) (MsgM.one _) ?_; intro w9 hb9 hg9))
  exact bodyPost_ret (results_obj_tmp rfl _ _ w.heap.size 36 (msOf 3 l).cells _ rfl hb9 Try.underlying36 rfl HUO.out) rfl ⟨by rw [HE.out]; rfl, (HM3.out.put 1 rfl _ hg9 hb9).bel⟩
end Go.Proofs.Ytaolhndbpgjlcaa
