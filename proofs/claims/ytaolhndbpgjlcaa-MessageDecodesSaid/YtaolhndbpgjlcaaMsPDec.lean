/-
  The contract of the program's DecodeInitiation. The contract of the program's DecodeResponse. The contract of the program's DecodeCookie. No statement is proved here.
-/
import Derived.Test.YtaolhndbpgjlcaaMsPArr
import Derived.Test.YtaolhndbpgjlcaaEnt
namespace Go.Proofs.Ytaolhndbpgjlcaa
open Go.RowKit

set_option maxRecDepth 100000 in
set_option maxHeartbeats 16000000 in
theorem msDecC1 : MsDecC 17 1 := by
  intro A n c l hnc hcm hn w hr
  have HKD := Lib.hid (msKindC A n c l hnc hcm hn)
  have HR := Lib.hid hr
  have hl : l.length = n := hr.1
  have hlz := MsgM.cells_length (msg0_ok 1)
  have HUZ := Lib.hid (show (Try.prog.info? 30).map (·.size) = some (msg0 1).cells.length from by rw [hlz]; kernel_rfl)
  have hcz0 : (msg0 1).cells.toArray = zc1 := by kernel_rfl
  obtain ⟨cz, hcz⟩ : ∃ z, (msg0 1).cells.toArray = z := ⟨_, rfl⟩
  have HBZ := Lib.hid (show Try.prog.built 30 [] = some cz from by rw [← hcz]; kernel_rfl)
  have HCZ := Lib.hid hcz
  have HM := Lib.hid (show Mem w [blkE w.heap.size 30 (msg0 1).cells] (w.alloc (.cells zc1 30)) from (Mem.nil w).alloc rfl 30 zc1 (msg0 1).cells (by kernel_rfl))
  obtain ⟨q, hq⟩ : ∃ q, kindB l = q := ⟨_, rfl⟩
  rw [hq] at HKD
  clear hr hlz hcz hcz0
  go_enter Try.func17, Try.ntmps17
  go_upto_region 1 with fail
  generalize w.alloc (.cells zc1 30) = w1 at HM ⊢
  go_wp2_with fail
  refine (HKD.out _ (HM.out.arg HR.out)).mono ?_
  rintro e w2 ⟨rfl, hb⟩
  replace HM := Lib.hid (HM.out.below hb)
  clear hb
  by_cases hk : q = 1
  case neg =>
    have ek : ((q : Int) != 1) = true := by rw [bne_iff_ne]; omega
    have HE := Lib.hid (show decB 1 l = (msg0 1, 4) from by rw [decB, if_neg (by rw [hq]; exact hk)])
    clear hq hk hl hnc hcm hn
    go_wp2_with (first | (refine wpList_build_as rfl 30 [] rfl cz ?_ ?_; exact HBZ.out) | (refine wpList_store_blk rfl 30 (.tmp 2) (.tmp 7) rfl w.heap.size (msg0 1).cells rfl (by show Value.agg cz = _; rw [HCZ.out]) 30 (msg0 1).cells (HM.out.blk 0 rfl) HUZ.out rfl (MsgM.one _) ?_; intro w9 hb9 hg9))
    exact bodyPost_ret (results_obj_tmp rfl _ _ w.heap.size 30 (msg0 1).cells _ rfl hb9 Try.underlying30 rfl HUZ.out) rfl ⟨by rw [HE.out]; rfl, (HM.out.put 0 rfl _ hg9 hb9).bel⟩
  subst hk
  have hll := kindB_len (k := 1) (by omega) hq
  have hn2 : n = 148 := by rw [← hl, hll]; rfl
  subst hn2
  obtain ⟨b, off, rfl, -, -⟩ := HR.out.at_ (by omega)
  have HS4 := Lib.hid (fun W => slice_lhm (some ⟨b, off, none⟩) 148 c 4 8 8 (by omega) (by omega) (by omega) W)
  rw [addrOf_lt b off 4 8 (by omega), show 8 - 4 = 4 from rfl] at HS4
  have HS8 := Lib.hid (fun W => slice_lhm (some ⟨b, off, none⟩) 148 c 8 40 40 (by omega) (by omega) (by omega) W)
  rw [addrOf_lt b off 8 40 (by omega), show 40 - 8 = 32 from rfl] at HS8
  have HS40 := Lib.hid (fun W => slice_lhm (some ⟨b, off, none⟩) 148 c 40 88 88 (by omega) (by omega) (by omega) W)
  rw [addrOf_lt b off 40 88 (by omega), show 88 - 40 = 48 from rfl] at HS40
  have HS88 := Lib.hid (fun W => slice_lhm (some ⟨b, off, none⟩) 148 c 88 116 116 (by omega) (by omega) (by omega) W)
  rw [addrOf_lt b off 88 116 (by omega), show 116 - 88 = 28 from rfl] at HS88
  have HS116 := Lib.hid (fun W => slice_lhm (some ⟨b, off, none⟩) 148 c 116 132 132 (by omega) (by omega) (by omega) W)
  rw [addrOf_lt b off 116 132 (by omega), show 132 - 116 = 16 from rfl] at HS116
  have HS132 := Lib.hid (fun W => slice_lhm (some ⟨b, off, none⟩) 148 c 132 148 148 (by omega) (by omega) (by omega) W)
  rw [addrOf_lt b off 132 148 (by omega), show 148 - 132 = 16 from rfl] at HS132
  have HN0 := Lib.hid (fun W (h : Rd W W.heap.size (some ⟨b, off, none⟩) 148 l) => pReadIndex_any (some ⟨b, off + 4, none⟩) 4 ((l.drop 4).take 4) W ((h.drop 4 b off rfl (by omega)).take (by omega)))
  obtain ⟨v, hv⟩ : ∃ z, numL ((l.drop 4).take 4) = z := ⟨_, rfl⟩
  rw [hv] at HN0
  have HA0 := Lib.hid (fun W (h : Rd W W.heap.size (some ⟨b, off, none⟩) 148 l) => h.at_obj 8 32)
  obtain ⟨f0, hf0⟩ : ∃ z, (l.drop 8).take 32 = z := ⟨_, rfl⟩
  have hz0 : f0.length = 32 := by rw [← hf0, List.length_take, List.length_drop, hl]; rfl
  have HZ0 := Lib.hid hz0
  rw [hf0] at HA0
  have HA1 := Lib.hid (fun W (h : Rd W W.heap.size (some ⟨b, off, none⟩) 148 l) => h.at_obj 40 48)
  obtain ⟨f1, hf1⟩ : ∃ z, (l.drop 40).take 48 = z := ⟨_, rfl⟩
  have hz1 : f1.length = 48 := by rw [← hf1, List.length_take, List.length_drop, hl]; rfl
  have HZ1 := Lib.hid hz1
  rw [hf1] at HA1
  have HA2 := Lib.hid (fun W (h : Rd W W.heap.size (some ⟨b, off, none⟩) 148 l) => h.at_obj 88 28)
  obtain ⟨f2, hf2⟩ : ∃ z, (l.drop 88).take 28 = z := ⟨_, rfl⟩
  have hz2 : f2.length = 28 := by rw [← hf2, List.length_take, List.length_drop, hl]; rfl
  have HZ2 := Lib.hid hz2
  rw [hf2] at HA2
  have HA3 := Lib.hid (fun W (h : Rd W W.heap.size (some ⟨b, off, none⟩) 148 l) => h.at_obj 116 16)
  obtain ⟨f3, hf3⟩ : ∃ z, (l.drop 116).take 16 = z := ⟨_, rfl⟩
  have hz3 : f3.length = 16 := by rw [← hf3, List.length_take, List.length_drop, hl]; rfl
  have HZ3 := Lib.hid hz3
  rw [hf3] at HA3
  have HA4 := Lib.hid (fun W (h : Rd W W.heap.size (some ⟨b, off, none⟩) 148 l) => h.at_obj 132 16)
  obtain ⟨f4, hf4⟩ : ∃ z, (l.drop 132).take 16 = z := ⟨_, rfl⟩
  have hz4 : f4.length = 16 := by rw [← hf4, List.length_take, List.length_drop, hl]; rfl
  have HZ4 := Lib.hid hz4
  rw [hf4] at HA4
  have hpm := parts_ms1 l hl
  rw [hf0, hf1, hf2, hf3, hf4] at hpm
  have hmo : msOf 1 l = MsgM.mk [v] (f0 ++ f1 ++ f2 ++ f3 ++ f4) := by
    show MsgM.mk [numL ((l.drop 4).take 4)] (l.drop 8) = _
    rw [hv, hpm]
  have HE := Lib.hid (show decB 1 l = (MsgM.mk [v] (f0 ++ f1 ++ f2 ++ f3 ++ f4), 0) from by rw [decB, if_pos hq, hmo])
  have hok := msOf_ok hll
  rw [hmo] at hok
  have hco := MsgM.cells_length hok
  have HUO := Lib.hid (show (Try.prog.info? 30).map (·.size) = some (MsgM.mk [v] (f0 ++ f1 ++ f2 ++ f3 ++ f4)).cells.length from by rw [hco]; kernel_rfl)
  have HLO := Lib.hid (show (msg0 1).cells.length = (MsgM.mk [v] (f0 ++ f1 ++ f2 ++ f3 ++ f4)).cells.length from by rw [hco, MsgM.cells_length (msg0_ok 1)])
  have HBT := Lib.hid (built_ms1 v f0 f1 f2 f3 f4 hz0 hz1 hz2 hz3 hz4)
  clear hmo hok hco hpm hll hq HKD hl hn hnc hv hf0 hz0 hf1 hz1 hf2 hz2 hf3 hz3 hf4 hz4
  go_upto_region 3 with fail
  refine wp_region_held_drew (S := fun W' => Mem w [] W') (by kernel_rfl) (((HM.out.erase 0)).drew) (fun hHeld => ?_)
  replace HM := Lib.hid HM.out.drew
  generalize w2.drew = wd1 at HM hHeld ⊢
  refine take_first (v := ?_) 0 rfl (by kernel_rfl) (by kernel_rfl) (by kernel_rfl) (fun _ _ _ h => h) (Or.inl ⟨by rfl, ?_⟩) (by assumption) ?_
  rotate_left
  · (intro w hSw; (try dsimp only at hSw); go_simp; try with_reducible rfl)
  (try simp only [Act.put, List.setIfInBounds_toArray, List.set_cons_zero, List.set_cons_succ])
  refine take_first (v := ?_) 1 rfl (by kernel_rfl) (by kernel_rfl) (by kernel_rfl) (fun _ _ _ h => h) (Or.inl ⟨by rfl, ?_⟩) (by assumption) ?_
  rotate_left
  · (intro w hSw; (try dsimp only at hSw); have hs := HS4.out w; rw [show ((4 : Nat) : Int) = 4 from rfl, show ((8 : Nat) : Int) = 8 from rfl] at hs; go_simp; try with_reducible rfl)
  (try simp only [Act.put, List.setIfInBounds_toArray, List.set_cons_zero, List.set_cons_succ])
  refine take_first (v := ?_) 3 rfl (by kernel_rfl) (by kernel_rfl) (by kernel_rfl) (fun _ _ _ h => h) (Or.inl ⟨by rfl, ?_⟩) (by assumption) ?_
  rotate_left
  · (intro w hSw; (try dsimp only at hSw); go_simp; try with_reducible rfl)
  (try simp only [Act.put, List.setIfInBounds_toArray, List.set_cons_zero, List.set_cons_succ])
  refine take_first (v := ?_) 4 rfl (by kernel_rfl) (by kernel_rfl) (by kernel_rfl) (fun _ _ _ h => h) (Or.inl ⟨by rfl, ?_⟩) (by assumption) ?_
  rotate_left
  · (intro w hSw; (try dsimp only at hSw); have hs := HS8.out w; rw [show ((8 : Nat) : Int) = 8 from rfl, show ((40 : Nat) : Int) = 40 from rfl] at hs; go_simp; try with_reducible rfl)
  (try simp only [Act.put, List.setIfInBounds_toArray, List.set_cons_zero, List.set_cons_succ])
  refine take_first (v := ?_) 5 rfl (by kernel_rfl) (by kernel_rfl) (by kernel_rfl) (fun _ _ _ h => h) (Or.inl ⟨by rfl, ?_⟩) (by assumption) ?_
  rotate_left
  · (intro w hSw; (try dsimp only at hSw); have ha := run_arrayAt_off (P := Try.prog) w 24 b (off + 8) 32 32 32 5 Try.underlying24 (Nat.le_refl _); go_simp; try with_reducible rfl)
  (try simp only [Act.put, List.setIfInBounds_toArray, List.set_cons_zero, List.set_cons_succ])
  refine take_first (v := .agg (f0.map u8v).toArray) 6 rfl (by kernel_rfl) (by kernel_rfl) (by kernel_rfl) (fun _ _ _ h => h) (yields_load_obj (by rfl) 24 (.tmp 13) rfl b (off + 8) rfl (f0.map u8v) (fun W' h => HA0.out W' (h.arg HR.out)) _ Try.underlying24 rfl (by rw [List.length_map, HZ0.out]; kernel_rfl)) (by assumption) ?_
  (try simp only [Act.put, List.setIfInBounds_toArray, List.set_cons_zero, List.set_cons_succ])
  refine take_first (v := ?_) 7 rfl (by kernel_rfl) (by kernel_rfl) (by kernel_rfl) (fun _ _ _ h => h) (Or.inl ⟨by rfl, ?_⟩) (by assumption) ?_
  rotate_left
  · (intro w hSw; (try dsimp only at hSw); go_simp; try with_reducible rfl)
  (try simp only [Act.put, List.setIfInBounds_toArray, List.set_cons_zero, List.set_cons_succ])
  refine take_first (v := ?_) 8 rfl (by kernel_rfl) (by kernel_rfl) (by kernel_rfl) (fun _ _ _ h => h) (Or.inl ⟨by rfl, ?_⟩) (by assumption) ?_
  rotate_left
  · (intro w hSw; (try dsimp only at hSw); have hs := HS40.out w; rw [show ((40 : Nat) : Int) = 40 from rfl, show ((88 : Nat) : Int) = 88 from rfl] at hs; go_simp; try with_reducible rfl)
  (try simp only [Act.put, List.setIfInBounds_toArray, List.set_cons_zero, List.set_cons_succ])
  refine take_first (v := ?_) 9 rfl (by kernel_rfl) (by kernel_rfl) (by kernel_rfl) (fun _ _ _ h => h) (Or.inl ⟨by rfl, ?_⟩) (by assumption) ?_
  rotate_left
  · (intro w hSw; (try dsimp only at hSw); have ha := run_arrayAt_off (P := Try.prog) w 25 b (off + 40) 48 48 48 5 Try.underlying25 (Nat.le_refl _); go_simp; try with_reducible rfl)
  (try simp only [Act.put, List.setIfInBounds_toArray, List.set_cons_zero, List.set_cons_succ])
  refine take_first (v := .agg (f1.map u8v).toArray) 10 rfl (by kernel_rfl) (by kernel_rfl) (by kernel_rfl) (fun _ _ _ h => h) (yields_load_obj (by rfl) 25 (.tmp 17) rfl b (off + 40) rfl (f1.map u8v) (fun W' h => HA1.out W' (h.arg HR.out)) _ Try.underlying25 rfl (by rw [List.length_map, HZ1.out]; kernel_rfl)) (by assumption) ?_
  (try simp only [Act.put, List.setIfInBounds_toArray, List.set_cons_zero, List.set_cons_succ])
  refine take_first (v := ?_) 11 rfl (by kernel_rfl) (by kernel_rfl) (by kernel_rfl) (fun _ _ _ h => h) (Or.inl ⟨by rfl, ?_⟩) (by assumption) ?_
  rotate_left
  · (intro w hSw; (try dsimp only at hSw); go_simp; try with_reducible rfl)
  (try simp only [Act.put, List.setIfInBounds_toArray, List.set_cons_zero, List.set_cons_succ])
  refine take_first (v := ?_) 12 rfl (by kernel_rfl) (by kernel_rfl) (by kernel_rfl) (fun _ _ _ h => h) (Or.inl ⟨by rfl, ?_⟩) (by assumption) ?_
  rotate_left
  · (intro w hSw; (try dsimp only at hSw); have hs := HS88.out w; rw [show ((88 : Nat) : Int) = 88 from rfl, show ((116 : Nat) : Int) = 116 from rfl] at hs; go_simp; try with_reducible rfl)
  (try simp only [Act.put, List.setIfInBounds_toArray, List.set_cons_zero, List.set_cons_succ])
  refine take_first (v := ?_) 13 rfl (by kernel_rfl) (by kernel_rfl) (by kernel_rfl) (fun _ _ _ h => h) (Or.inl ⟨by rfl, ?_⟩) (by assumption) ?_
  rotate_left
  · (intro w hSw; (try dsimp only at hSw); have ha := run_arrayAt_off (P := Try.prog) w 26 b (off + 88) 28 28 28 5 Try.underlying26 (Nat.le_refl _); go_simp; try with_reducible rfl)
  (try simp only [Act.put, List.setIfInBounds_toArray, List.set_cons_zero, List.set_cons_succ])
  refine take_first (v := .agg (f2.map u8v).toArray) 14 rfl (by kernel_rfl) (by kernel_rfl) (by kernel_rfl) (fun _ _ _ h => h) (yields_load_obj (by rfl) 26 (.tmp 21) rfl b (off + 88) rfl (f2.map u8v) (fun W' h => HA2.out W' (h.arg HR.out)) _ Try.underlying26 rfl (by rw [List.length_map, HZ2.out]; kernel_rfl)) (by assumption) ?_
  (try simp only [Act.put, List.setIfInBounds_toArray, List.set_cons_zero, List.set_cons_succ])
  refine take_first (v := ?_) 15 rfl (by kernel_rfl) (by kernel_rfl) (by kernel_rfl) (fun _ _ _ h => h) (Or.inl ⟨by rfl, ?_⟩) (by assumption) ?_
  rotate_left
  · (intro w hSw; (try dsimp only at hSw); go_simp; try with_reducible rfl)
  (try simp only [Act.put, List.setIfInBounds_toArray, List.set_cons_zero, List.set_cons_succ])
  refine take_first (v := ?_) 16 rfl (by kernel_rfl) (by kernel_rfl) (by kernel_rfl) (fun _ _ _ h => h) (Or.inl ⟨by rfl, ?_⟩) (by assumption) ?_
  rotate_left
  · (intro w hSw; (try dsimp only at hSw); have hs := HS116.out w; rw [show ((116 : Nat) : Int) = 116 from rfl, show ((132 : Nat) : Int) = 132 from rfl] at hs; go_simp; try with_reducible rfl)
  (try simp only [Act.put, List.setIfInBounds_toArray, List.set_cons_zero, List.set_cons_succ])
  refine take_first (v := ?_) 17 rfl (by kernel_rfl) (by kernel_rfl) (by kernel_rfl) (fun _ _ _ h => h) (Or.inl ⟨by rfl, ?_⟩) (by assumption) ?_
  rotate_left
  · (intro w hSw; (try dsimp only at hSw); have ha := run_arrayAt_off (P := Try.prog) w 28 b (off + 116) 16 16 16 5 Try.underlying28 (Nat.le_refl _); go_simp; try with_reducible rfl)
  (try simp only [Act.put, List.setIfInBounds_toArray, List.set_cons_zero, List.set_cons_succ])
  refine take_first (v := .agg (f3.map u8v).toArray) 18 rfl (by kernel_rfl) (by kernel_rfl) (by kernel_rfl) (fun _ _ _ h => h) (yields_load_obj (by rfl) 28 (.tmp 25) rfl b (off + 116) rfl (f3.map u8v) (fun W' h => HA3.out W' (h.arg HR.out)) _ Try.underlying28 rfl (by rw [List.length_map, HZ3.out]; kernel_rfl)) (by assumption) ?_
  (try simp only [Act.put, List.setIfInBounds_toArray, List.set_cons_zero, List.set_cons_succ])
  refine take_first (v := ?_) 19 rfl (by kernel_rfl) (by kernel_rfl) (by kernel_rfl) (fun _ _ _ h => h) (Or.inl ⟨by rfl, ?_⟩) (by assumption) ?_
  rotate_left
  · (intro w hSw; (try dsimp only at hSw); go_simp; try with_reducible rfl)
  (try simp only [Act.put, List.setIfInBounds_toArray, List.set_cons_zero, List.set_cons_succ])
  refine take_first (v := ?_) 20 rfl (by kernel_rfl) (by kernel_rfl) (by kernel_rfl) (fun _ _ _ h => h) (Or.inl ⟨by rfl, ?_⟩) (by assumption) ?_
  rotate_left
  · (intro w hSw; (try dsimp only at hSw); have hs := HS132.out w; rw [show ((132 : Nat) : Int) = 132 from rfl, show ((148 : Nat) : Int) = 148 from rfl] at hs; go_simp; try with_reducible rfl)
  (try simp only [Act.put, List.setIfInBounds_toArray, List.set_cons_zero, List.set_cons_succ])
  refine take_first (v := ?_) 21 rfl (by kernel_rfl) (by kernel_rfl) (by kernel_rfl) (fun _ _ _ h => h) (Or.inl ⟨by rfl, ?_⟩) (by assumption) ?_
  rotate_left
  · (intro w hSw; (try dsimp only at hSw); have ha := run_arrayAt_off (P := Try.prog) w 28 b (off + 132) 16 16 16 5 Try.underlying28 (Nat.le_refl _); go_simp; try with_reducible rfl)
  (try simp only [Act.put, List.setIfInBounds_toArray, List.set_cons_zero, List.set_cons_succ])
  refine take_first (v := .agg (f4.map u8v).toArray) 22 rfl (by kernel_rfl) (by kernel_rfl) (by kernel_rfl) (fun _ _ _ h => h) (yields_load_obj (by rfl) 28 (.tmp 29) rfl b (off + 132) rfl (f4.map u8v) (fun W' h => HA4.out W' (h.arg HR.out)) _ Try.underlying28 rfl (by rw [List.length_map, HZ4.out]; kernel_rfl)) (by assumption) ?_
  (try simp only [Act.put, List.setIfInBounds_toArray, List.set_cons_zero, List.set_cons_succ])
  refine step_one 2 rfl (by kernel_rfl) (fun K hK => ?_)
  clear hHeld
  go_simp
  refine (HN0.out _ (HM.out.arg HR.out)).mono ?_
  rintro e wy ⟨rfl, rfl⟩
  go_wp2_with fail
  refine hK.out _ _ ((HM.out.erase 0)) (fun hHeld => ?_)
  clear hK K
  (try simp only [Act.put, List.setIfInBounds_toArray, List.set_cons_zero, List.set_cons_succ])
  refine take_first (v := .agg (MsgM.mk [v] (f0 ++ f1 ++ f2 ++ f3 ++ f4)).cells.toArray) 23 rfl (by kernel_rfl) (by kernel_rfl) (by kernel_rfl) (fun _ _ _ h => h) (yields_build_obj (by rfl) 30 [(0, .tmp 10), (1, .tmp 14), (2, .tmp 18), (3, .tmp 22), (4, .tmp 26), (5, .tmp 30)] rfl (MsgM.mk [v] (f0 ++ f1 ++ f2 ++ f3 ++ f4)).cells.toArray HBT.out) (by assumption) ?_
  (try simp only [Act.put, List.setIfInBounds_toArray, List.set_cons_zero, List.set_cons_succ])
  refine step_one 24 rfl (by kernel_rfl) (fun K hK => ?_)
  clear hHeld
  refine step_store_blk _ rfl 30 (.tmp 2) (.tmp 31) rfl w.heap.size (MsgM.mk [v] (f0 ++ f1 ++ f2 ++ f3 ++ f4)).cells rfl (by rfl) 30 (msg0 1).cells (HM.out.blk 0 rfl) HUO.out HLO.out (MsgM.one _) ?_
  intro wy2 hb hg
  replace HM := Lib.hid (show Mem w [blkE w.heap.size 30 (MsgM.mk [v] (f0 ++ f1 ++ f2 ++ f3 ++ f4)).cells] wy2 from HM.out.put 0 rfl _ hg hb)
  clear hb hg
  refine hK.out _ _ ((HM.out.erase 0)) (fun hHeld => ?_)
  clear hK K
  (try simp only [Act.put])
  refine take_first (v := ?_) 25 rfl (by kernel_rfl) (by kernel_rfl) (by kernel_rfl) (fun _ _ _ h => h) (Or.inl ⟨by rfl, ?_⟩) (by assumption) ?_
  rotate_left
  · (intro w hSw; (try dsimp only at hSw); go_simp; try with_reducible rfl)
  (try simp only [Act.put, List.setIfInBounds_toArray, List.set_cons_zero, List.set_cons_succ])
  refine wpAnyH_done (by kernel_rfl) ?_ _
  clear hHeld
  have HF := Lib.hid HM.out
  clear HM
  go_wp2_with fail
  exact bodyPost_ret (results_obj_tmp rfl _ _ w.heap.size 30 (MsgM.mk [v] (f0 ++ f1 ++ f2 ++ f3 ++ f4)).cells _ rfl (HF.out.blk 0 rfl) Try.underlying30 rfl HUO.out) rfl ⟨by rw [HE.out]; rfl, HF.out.bel⟩

set_option maxRecDepth 100000 in
set_option maxHeartbeats 16000000 in
theorem msDecC2 : MsDecC 18 2 := by
  intro A n c l hnc hcm hn w hr
  have HKD := Lib.hid (msKindC A n c l hnc hcm hn)
  have HR := Lib.hid hr
  have hl : l.length = n := hr.1
  have hlz := MsgM.cells_length (msg0_ok 2)
  have HUZ := Lib.hid (show (Try.prog.info? 32).map (·.size) = some (msg0 2).cells.length from by rw [hlz]; kernel_rfl)
  have hcz0 : (msg0 2).cells.toArray = zc2 := by kernel_rfl
  obtain ⟨cz, hcz⟩ : ∃ z, (msg0 2).cells.toArray = z := ⟨_, rfl⟩
  have HBZ := Lib.hid (show Try.prog.built 32 [] = some cz from by rw [← hcz]; kernel_rfl)
  have HCZ := Lib.hid hcz
  have HM := Lib.hid (show Mem w [blkE w.heap.size 32 (msg0 2).cells] (w.alloc (.cells zc2 32)) from (Mem.nil w).alloc rfl 32 zc2 (msg0 2).cells (by kernel_rfl))
  obtain ⟨q, hq⟩ : ∃ q, kindB l = q := ⟨_, rfl⟩
  rw [hq] at HKD
  clear hr hlz hcz hcz0
  go_enter Try.func18, Try.ntmps18
  go_upto_region 1 with fail
  generalize w.alloc (.cells zc2 32) = w1 at HM ⊢
  go_wp2_with fail
  refine (HKD.out _ (HM.out.arg HR.out)).mono ?_
  rintro e w2 ⟨rfl, hb⟩
  replace HM := Lib.hid (HM.out.below hb)
  clear hb
  by_cases hk : q = 2
  case neg =>
    have ek : ((q : Int) != 2) = true := by rw [bne_iff_ne]; omega
    have HE := Lib.hid (show decB 2 l = (msg0 2, 4) from by rw [decB, if_neg (by rw [hq]; exact hk)])
    clear hq hk hl hnc hcm hn
    go_wp2_with (first | (refine wpList_build_as rfl 32 [] rfl cz ?_ ?_; exact HBZ.out) | (refine wpList_store_blk rfl 32 (.tmp 2) (.tmp 7) rfl w.heap.size (msg0 2).cells rfl (by show Value.agg cz = _; rw [HCZ.out]) 32 (msg0 2).cells (HM.out.blk 0 rfl) HUZ.out rfl (MsgM.one _) ?_; intro w9 hb9 hg9))
    exact bodyPost_ret (results_obj_tmp rfl _ _ w.heap.size 32 (msg0 2).cells _ rfl hb9 Try.underlying32 rfl HUZ.out) rfl ⟨by rw [HE.out]; rfl, (HM.out.put 0 rfl _ hg9 hb9).bel⟩
  subst hk
  have hll := kindB_len (k := 2) (by omega) hq
  have hn2 : n = 92 := by rw [← hl, hll]; rfl
  subst hn2
  obtain ⟨b, off, rfl, -, -⟩ := HR.out.at_ (by omega)
  have HS4 := Lib.hid (fun W => slice_lhm (some ⟨b, off, none⟩) 92 c 4 8 8 (by omega) (by omega) (by omega) W)
  rw [addrOf_lt b off 4 8 (by omega), show 8 - 4 = 4 from rfl] at HS4
  have HS8 := Lib.hid (fun W => slice_lhm (some ⟨b, off, none⟩) 92 c 8 12 12 (by omega) (by omega) (by omega) W)
  rw [addrOf_lt b off 8 12 (by omega), show 12 - 8 = 4 from rfl] at HS8
  have HS12 := Lib.hid (fun W => slice_lhm (some ⟨b, off, none⟩) 92 c 12 44 44 (by omega) (by omega) (by omega) W)
  rw [addrOf_lt b off 12 44 (by omega), show 44 - 12 = 32 from rfl] at HS12
  have HS44 := Lib.hid (fun W => slice_lhm (some ⟨b, off, none⟩) 92 c 44 60 60 (by omega) (by omega) (by omega) W)
  rw [addrOf_lt b off 44 60 (by omega), show 60 - 44 = 16 from rfl] at HS44
  have HS60 := Lib.hid (fun W => slice_lhm (some ⟨b, off, none⟩) 92 c 60 76 76 (by omega) (by omega) (by omega) W)
  rw [addrOf_lt b off 60 76 (by omega), show 76 - 60 = 16 from rfl] at HS60
  have HS76 := Lib.hid (fun W => slice_lhm (some ⟨b, off, none⟩) 92 c 76 92 92 (by omega) (by omega) (by omega) W)
  rw [addrOf_lt b off 76 92 (by omega), show 92 - 76 = 16 from rfl] at HS76
  have HN0 := Lib.hid (fun W (h : Rd W W.heap.size (some ⟨b, off, none⟩) 92 l) => pReadIndex_any (some ⟨b, off + 4, none⟩) 4 ((l.drop 4).take 4) W ((h.drop 4 b off rfl (by omega)).take (by omega)))
  obtain ⟨v, hv⟩ : ∃ z, numL ((l.drop 4).take 4) = z := ⟨_, rfl⟩
  rw [hv] at HN0
  have HN1 := Lib.hid (fun W (h : Rd W W.heap.size (some ⟨b, off, none⟩) 92 l) => pReadIndex_any (some ⟨b, off + 8, none⟩) 4 ((l.drop 8).take 4) W ((h.drop 8 b off rfl (by omega)).take (by omega)))
  obtain ⟨u, hu⟩ : ∃ z, numL ((l.drop 8).take 4) = z := ⟨_, rfl⟩
  rw [hu] at HN1
  have HA0 := Lib.hid (fun W (h : Rd W W.heap.size (some ⟨b, off, none⟩) 92 l) => h.at_obj 12 32)
  obtain ⟨f0, hf0⟩ : ∃ z, (l.drop 12).take 32 = z := ⟨_, rfl⟩
  have hz0 : f0.length = 32 := by rw [← hf0, List.length_take, List.length_drop, hl]; rfl
  have HZ0 := Lib.hid hz0
  rw [hf0] at HA0
  have HA1 := Lib.hid (fun W (h : Rd W W.heap.size (some ⟨b, off, none⟩) 92 l) => h.at_obj 44 16)
  obtain ⟨f1, hf1⟩ : ∃ z, (l.drop 44).take 16 = z := ⟨_, rfl⟩
  have hz1 : f1.length = 16 := by rw [← hf1, List.length_take, List.length_drop, hl]; rfl
  have HZ1 := Lib.hid hz1
  rw [hf1] at HA1
  have HA2 := Lib.hid (fun W (h : Rd W W.heap.size (some ⟨b, off, none⟩) 92 l) => h.at_obj 60 16)
  obtain ⟨f2, hf2⟩ : ∃ z, (l.drop 60).take 16 = z := ⟨_, rfl⟩
  have hz2 : f2.length = 16 := by rw [← hf2, List.length_take, List.length_drop, hl]; rfl
  have HZ2 := Lib.hid hz2
  rw [hf2] at HA2
  have HA3 := Lib.hid (fun W (h : Rd W W.heap.size (some ⟨b, off, none⟩) 92 l) => h.at_obj 76 16)
  obtain ⟨f3, hf3⟩ : ∃ z, (l.drop 76).take 16 = z := ⟨_, rfl⟩
  have hz3 : f3.length = 16 := by rw [← hf3, List.length_take, List.length_drop, hl]; rfl
  have HZ3 := Lib.hid hz3
  rw [hf3] at HA3
  have hpm := parts_ms2 l hl
  rw [hf0, hf1, hf2, hf3] at hpm
  have hmo : msOf 2 l = MsgM.mk [v, u] (f0 ++ f1 ++ f2 ++ f3) := by
    show MsgM.mk [numL ((l.drop 4).take 4), numL ((l.drop 8).take 4)] (l.drop 12) = _
    rw [hv, hu, hpm]
  have HE := Lib.hid (show decB 2 l = (MsgM.mk [v, u] (f0 ++ f1 ++ f2 ++ f3), 0) from by rw [decB, if_pos hq, hmo])
  have hok := msOf_ok hll
  rw [hmo] at hok
  have hco := MsgM.cells_length hok
  have HUO := Lib.hid (show (Try.prog.info? 32).map (·.size) = some (MsgM.mk [v, u] (f0 ++ f1 ++ f2 ++ f3)).cells.length from by rw [hco]; kernel_rfl)
  have HLO := Lib.hid (show (msg0 2).cells.length = (MsgM.mk [v, u] (f0 ++ f1 ++ f2 ++ f3)).cells.length from by rw [hco, MsgM.cells_length (msg0_ok 2)])
  have HBT := Lib.hid (built_ms2 v u f0 f1 f2 f3 hz0 hz1 hz2 hz3)
  clear hmo hok hco hpm hll hq HKD hl hn hnc hv hu hf0 hz0 hf1 hz1 hf2 hz2 hf3 hz3
  go_upto_region 3 with fail
  refine wp_region_held_drew (S := fun W' => Mem w [] W') (by kernel_rfl) (((HM.out.erase 0)).drew) (fun hHeld => ?_)
  replace HM := Lib.hid HM.out.drew
  generalize w2.drew = wd1 at HM hHeld ⊢
  refine take_first (v := ?_) 0 rfl (by kernel_rfl) (by kernel_rfl) (by kernel_rfl) (fun _ _ _ h => h) (Or.inl ⟨by rfl, ?_⟩) (by assumption) ?_
  rotate_left
  · (intro w hSw; (try dsimp only at hSw); go_simp; try with_reducible rfl)
  (try simp only [Act.put, List.setIfInBounds_toArray, List.set_cons_zero, List.set_cons_succ])
  refine take_first (v := ?_) 1 rfl (by kernel_rfl) (by kernel_rfl) (by kernel_rfl) (fun _ _ _ h => h) (Or.inl ⟨by rfl, ?_⟩) (by assumption) ?_
  rotate_left
  · (intro w hSw; (try dsimp only at hSw); have hs := HS4.out w; rw [show ((4 : Nat) : Int) = 4 from rfl, show ((8 : Nat) : Int) = 8 from rfl] at hs; go_simp; try with_reducible rfl)
  (try simp only [Act.put, List.setIfInBounds_toArray, List.set_cons_zero, List.set_cons_succ])
  refine take_first (v := ?_) 3 rfl (by kernel_rfl) (by kernel_rfl) (by kernel_rfl) (fun _ _ _ h => h) (Or.inl ⟨by rfl, ?_⟩) (by assumption) ?_
  rotate_left
  · (intro w hSw; (try dsimp only at hSw); go_simp; try with_reducible rfl)
  (try simp only [Act.put, List.setIfInBounds_toArray, List.set_cons_zero, List.set_cons_succ])
  refine take_first (v := ?_) 4 rfl (by kernel_rfl) (by kernel_rfl) (by kernel_rfl) (fun _ _ _ h => h) (Or.inl ⟨by rfl, ?_⟩) (by assumption) ?_
  rotate_left
  · (intro w hSw; (try dsimp only at hSw); have hs := HS8.out w; rw [show ((8 : Nat) : Int) = 8 from rfl, show ((12 : Nat) : Int) = 12 from rfl] at hs; go_simp; try with_reducible rfl)
  (try simp only [Act.put, List.setIfInBounds_toArray, List.set_cons_zero, List.set_cons_succ])
  refine take_first (v := ?_) 6 rfl (by kernel_rfl) (by kernel_rfl) (by kernel_rfl) (fun _ _ _ h => h) (Or.inl ⟨by rfl, ?_⟩) (by assumption) ?_
  rotate_left
  · (intro w hSw; (try dsimp only at hSw); go_simp; try with_reducible rfl)
  (try simp only [Act.put, List.setIfInBounds_toArray, List.set_cons_zero, List.set_cons_succ])
  refine take_first (v := ?_) 7 rfl (by kernel_rfl) (by kernel_rfl) (by kernel_rfl) (fun _ _ _ h => h) (Or.inl ⟨by rfl, ?_⟩) (by assumption) ?_
  rotate_left
  · (intro w hSw; (try dsimp only at hSw); have hs := HS12.out w; rw [show ((12 : Nat) : Int) = 12 from rfl, show ((44 : Nat) : Int) = 44 from rfl] at hs; go_simp; try with_reducible rfl)
  (try simp only [Act.put, List.setIfInBounds_toArray, List.set_cons_zero, List.set_cons_succ])
  refine take_first (v := ?_) 8 rfl (by kernel_rfl) (by kernel_rfl) (by kernel_rfl) (fun _ _ _ h => h) (Or.inl ⟨by rfl, ?_⟩) (by assumption) ?_
  rotate_left
  · (intro w hSw; (try dsimp only at hSw); have ha := run_arrayAt_off (P := Try.prog) w 24 b (off + 12) 32 32 32 5 Try.underlying24 (Nat.le_refl _); go_simp; try with_reducible rfl)
  (try simp only [Act.put, List.setIfInBounds_toArray, List.set_cons_zero, List.set_cons_succ])
  refine take_first (v := .agg (f0.map u8v).toArray) 9 rfl (by kernel_rfl) (by kernel_rfl) (by kernel_rfl) (fun _ _ _ h => h) (yields_load_obj (by rfl) 24 (.tmp 16) rfl b (off + 12) rfl (f0.map u8v) (fun W' h => HA0.out W' (h.arg HR.out)) _ Try.underlying24 rfl (by rw [List.length_map, HZ0.out]; kernel_rfl)) (by assumption) ?_
  (try simp only [Act.put, List.setIfInBounds_toArray, List.set_cons_zero, List.set_cons_succ])
  refine take_first (v := ?_) 10 rfl (by kernel_rfl) (by kernel_rfl) (by kernel_rfl) (fun _ _ _ h => h) (Or.inl ⟨by rfl, ?_⟩) (by assumption) ?_
  rotate_left
  · (intro w hSw; (try dsimp only at hSw); go_simp; try with_reducible rfl)
  (try simp only [Act.put, List.setIfInBounds_toArray, List.set_cons_zero, List.set_cons_succ])
  refine take_first (v := ?_) 11 rfl (by kernel_rfl) (by kernel_rfl) (by kernel_rfl) (fun _ _ _ h => h) (Or.inl ⟨by rfl, ?_⟩) (by assumption) ?_
  rotate_left
  · (intro w hSw; (try dsimp only at hSw); have hs := HS44.out w; rw [show ((44 : Nat) : Int) = 44 from rfl, show ((60 : Nat) : Int) = 60 from rfl] at hs; go_simp; try with_reducible rfl)
  (try simp only [Act.put, List.setIfInBounds_toArray, List.set_cons_zero, List.set_cons_succ])
  refine take_first (v := ?_) 12 rfl (by kernel_rfl) (by kernel_rfl) (by kernel_rfl) (fun _ _ _ h => h) (Or.inl ⟨by rfl, ?_⟩) (by assumption) ?_
  rotate_left
  · (intro w hSw; (try dsimp only at hSw); have ha := run_arrayAt_off (P := Try.prog) w 28 b (off + 44) 16 16 16 5 Try.underlying28 (Nat.le_refl _); go_simp; try with_reducible rfl)
  (try simp only [Act.put, List.setIfInBounds_toArray, List.set_cons_zero, List.set_cons_succ])
  refine take_first (v := .agg (f1.map u8v).toArray) 13 rfl (by kernel_rfl) (by kernel_rfl) (by kernel_rfl) (fun _ _ _ h => h) (yields_load_obj (by rfl) 28 (.tmp 20) rfl b (off + 44) rfl (f1.map u8v) (fun W' h => HA1.out W' (h.arg HR.out)) _ Try.underlying28 rfl (by rw [List.length_map, HZ1.out]; kernel_rfl)) (by assumption) ?_
  (try simp only [Act.put, List.setIfInBounds_toArray, List.set_cons_zero, List.set_cons_succ])
  refine take_first (v := ?_) 14 rfl (by kernel_rfl) (by kernel_rfl) (by kernel_rfl) (fun _ _ _ h => h) (Or.inl ⟨by rfl, ?_⟩) (by assumption) ?_
  rotate_left
  · (intro w hSw; (try dsimp only at hSw); go_simp; try with_reducible rfl)
  (try simp only [Act.put, List.setIfInBounds_toArray, List.set_cons_zero, List.set_cons_succ])
  refine take_first (v := ?_) 15 rfl (by kernel_rfl) (by kernel_rfl) (by kernel_rfl) (fun _ _ _ h => h) (Or.inl ⟨by rfl, ?_⟩) (by assumption) ?_
  rotate_left
  · (intro w hSw; (try dsimp only at hSw); have hs := HS60.out w; rw [show ((60 : Nat) : Int) = 60 from rfl, show ((76 : Nat) : Int) = 76 from rfl] at hs; go_simp; try with_reducible rfl)
  (try simp only [Act.put, List.setIfInBounds_toArray, List.set_cons_zero, List.set_cons_succ])
  refine take_first (v := ?_) 16 rfl (by kernel_rfl) (by kernel_rfl) (by kernel_rfl) (fun _ _ _ h => h) (Or.inl ⟨by rfl, ?_⟩) (by assumption) ?_
  rotate_left
  · (intro w hSw; (try dsimp only at hSw); have ha := run_arrayAt_off (P := Try.prog) w 28 b (off + 60) 16 16 16 5 Try.underlying28 (Nat.le_refl _); go_simp; try with_reducible rfl)
  (try simp only [Act.put, List.setIfInBounds_toArray, List.set_cons_zero, List.set_cons_succ])
  refine take_first (v := .agg (f2.map u8v).toArray) 17 rfl (by kernel_rfl) (by kernel_rfl) (by kernel_rfl) (fun _ _ _ h => h) (yields_load_obj (by rfl) 28 (.tmp 24) rfl b (off + 60) rfl (f2.map u8v) (fun W' h => HA2.out W' (h.arg HR.out)) _ Try.underlying28 rfl (by rw [List.length_map, HZ2.out]; kernel_rfl)) (by assumption) ?_
  (try simp only [Act.put, List.setIfInBounds_toArray, List.set_cons_zero, List.set_cons_succ])
  refine take_first (v := ?_) 18 rfl (by kernel_rfl) (by kernel_rfl) (by kernel_rfl) (fun _ _ _ h => h) (Or.inl ⟨by rfl, ?_⟩) (by assumption) ?_
  rotate_left
  · (intro w hSw; (try dsimp only at hSw); go_simp; try with_reducible rfl)
  (try simp only [Act.put, List.setIfInBounds_toArray, List.set_cons_zero, List.set_cons_succ])
  refine take_first (v := ?_) 19 rfl (by kernel_rfl) (by kernel_rfl) (by kernel_rfl) (fun _ _ _ h => h) (Or.inl ⟨by rfl, ?_⟩) (by assumption) ?_
  rotate_left
  · (intro w hSw; (try dsimp only at hSw); have hs := HS76.out w; rw [show ((76 : Nat) : Int) = 76 from rfl, show ((92 : Nat) : Int) = 92 from rfl] at hs; go_simp; try with_reducible rfl)
  (try simp only [Act.put, List.setIfInBounds_toArray, List.set_cons_zero, List.set_cons_succ])
  refine take_first (v := ?_) 20 rfl (by kernel_rfl) (by kernel_rfl) (by kernel_rfl) (fun _ _ _ h => h) (Or.inl ⟨by rfl, ?_⟩) (by assumption) ?_
  rotate_left
  · (intro w hSw; (try dsimp only at hSw); have ha := run_arrayAt_off (P := Try.prog) w 28 b (off + 76) 16 16 16 5 Try.underlying28 (Nat.le_refl _); go_simp; try with_reducible rfl)
  (try simp only [Act.put, List.setIfInBounds_toArray, List.set_cons_zero, List.set_cons_succ])
  refine take_first (v := .agg (f3.map u8v).toArray) 21 rfl (by kernel_rfl) (by kernel_rfl) (by kernel_rfl) (fun _ _ _ h => h) (yields_load_obj (by rfl) 28 (.tmp 28) rfl b (off + 76) rfl (f3.map u8v) (fun W' h => HA3.out W' (h.arg HR.out)) _ Try.underlying28 rfl (by rw [List.length_map, HZ3.out]; kernel_rfl)) (by assumption) ?_
  (try simp only [Act.put, List.setIfInBounds_toArray, List.set_cons_zero, List.set_cons_succ])
  refine step_one 2 rfl (by kernel_rfl) (fun K hK => ?_)
  clear hHeld
  go_simp
  refine (HN0.out _ (HM.out.arg HR.out)).mono ?_
  rintro e wy ⟨rfl, rfl⟩
  go_wp2_with fail
  refine hK.out _ _ ((HM.out.erase 0)) (fun hHeld => ?_)
  clear hK K
  (try simp only [Act.put, List.setIfInBounds_toArray, List.set_cons_zero, List.set_cons_succ])
  refine step_one 5 rfl (by kernel_rfl) (fun K hK => ?_)
  clear hHeld
  go_simp
  refine (HN1.out _ (HM.out.arg HR.out)).mono ?_
  rintro e wy ⟨rfl, rfl⟩
  go_wp2_with fail
  refine hK.out _ _ ((HM.out.erase 0)) (fun hHeld => ?_)
  clear hK K
  (try simp only [Act.put, List.setIfInBounds_toArray, List.set_cons_zero, List.set_cons_succ])
  refine take_first (v := .agg (MsgM.mk [v, u] (f0 ++ f1 ++ f2 ++ f3)).cells.toArray) 22 rfl (by kernel_rfl) (by kernel_rfl) (by kernel_rfl) (fun _ _ _ h => h) (yields_build_obj (by rfl) 32 [(0, .tmp 10), (1, .tmp 13), (2, .tmp 17), (3, .tmp 21), (4, .tmp 25), (5, .tmp 29)] rfl (MsgM.mk [v, u] (f0 ++ f1 ++ f2 ++ f3)).cells.toArray HBT.out) (by assumption) ?_
  (try simp only [Act.put, List.setIfInBounds_toArray, List.set_cons_zero, List.set_cons_succ])
  refine step_one 23 rfl (by kernel_rfl) (fun K hK => ?_)
  clear hHeld
  refine step_store_blk _ rfl 32 (.tmp 2) (.tmp 30) rfl w.heap.size (MsgM.mk [v, u] (f0 ++ f1 ++ f2 ++ f3)).cells rfl (by rfl) 32 (msg0 2).cells (HM.out.blk 0 rfl) HUO.out HLO.out (MsgM.one _) ?_
  intro wy2 hb hg
  replace HM := Lib.hid (show Mem w [blkE w.heap.size 32 (MsgM.mk [v, u] (f0 ++ f1 ++ f2 ++ f3)).cells] wy2 from HM.out.put 0 rfl _ hg hb)
  clear hb hg
  refine hK.out _ _ ((HM.out.erase 0)) (fun hHeld => ?_)
  clear hK K
  (try simp only [Act.put])
  refine take_first (v := ?_) 24 rfl (by kernel_rfl) (by kernel_rfl) (by kernel_rfl) (fun _ _ _ h => h) (Or.inl ⟨by rfl, ?_⟩) (by assumption) ?_
  rotate_left
  · (intro w hSw; (try dsimp only at hSw); go_simp; try with_reducible rfl)
  (try simp only [Act.put, List.setIfInBounds_toArray, List.set_cons_zero, List.set_cons_succ])
  refine wpAnyH_done (by kernel_rfl) ?_ _
  clear hHeld
  have HF := Lib.hid HM.out
  clear HM
  go_wp2_with fail
  exact bodyPost_ret (results_obj_tmp rfl _ _ w.heap.size 32 (MsgM.mk [v, u] (f0 ++ f1 ++ f2 ++ f3)).cells _ rfl (HF.out.blk 0 rfl) Try.underlying32 rfl HUO.out) rfl ⟨by rw [HE.out]; rfl, HF.out.bel⟩

set_option maxRecDepth 100000 in
set_option maxHeartbeats 16000000 in
theorem msDecC3 : MsDecC 19 3 := by
  intro A n c l hnc hcm hn w hr
  have HKD := Lib.hid (msKindC A n c l hnc hcm hn)
  have HR := Lib.hid hr
  have hl : l.length = n := hr.1
  have hlz := MsgM.cells_length (msg0_ok 3)
  have HUZ := Lib.hid (show (Try.prog.info? 36).map (·.size) = some (msg0 3).cells.length from by rw [hlz]; kernel_rfl)
  have hcz0 : (msg0 3).cells.toArray = #[.int .u32 0, .int .u8 0, .int .u8 0, .int .u8 0, .int .u8 0, .int .u8 0, .int .u8 0, .int .u8 0, .int .u8 0, .int .u8 0, .int .u8 0, .int .u8 0, .int .u8 0, .int .u8 0, .int .u8 0, .int .u8 0, .int .u8 0, .int .u8 0, .int .u8 0, .int .u8 0, .int .u8 0, .int .u8 0, .int .u8 0, .int .u8 0, .int .u8 0, .int .u8 0, .int .u8 0, .int .u8 0, .int .u8 0, .int .u8 0, .int .u8 0, .int .u8 0, .int .u8 0, .int .u8 0, .int .u8 0, .int .u8 0, .int .u8 0, .int .u8 0, .int .u8 0, .int .u8 0, .int .u8 0, .int .u8 0, .int .u8 0, .int .u8 0, .int .u8 0, .int .u8 0, .int .u8 0, .int .u8 0, .int .u8 0, .int .u8 0, .int .u8 0, .int .u8 0, .int .u8 0, .int .u8 0, .int .u8 0, .int .u8 0, .int .u8 0] := by kernel_rfl
  obtain ⟨cz, hcz⟩ : ∃ z, (msg0 3).cells.toArray = z := ⟨_, rfl⟩
  have HBZ := Lib.hid (show Try.prog.built 36 [] = some cz from by rw [← hcz]; kernel_rfl)
  have HCZ := Lib.hid hcz
  have HM := Lib.hid (show Mem w [blkE w.heap.size 36 (msg0 3).cells] (w.alloc (.cells #[.int .u32 0, .int .u8 0, .int .u8 0, .int .u8 0, .int .u8 0, .int .u8 0, .int .u8 0, .int .u8 0, .int .u8 0, .int .u8 0, .int .u8 0, .int .u8 0, .int .u8 0, .int .u8 0, .int .u8 0, .int .u8 0, .int .u8 0, .int .u8 0, .int .u8 0, .int .u8 0, .int .u8 0, .int .u8 0, .int .u8 0, .int .u8 0, .int .u8 0, .int .u8 0, .int .u8 0, .int .u8 0, .int .u8 0, .int .u8 0, .int .u8 0, .int .u8 0, .int .u8 0, .int .u8 0, .int .u8 0, .int .u8 0, .int .u8 0, .int .u8 0, .int .u8 0, .int .u8 0, .int .u8 0, .int .u8 0, .int .u8 0, .int .u8 0, .int .u8 0, .int .u8 0, .int .u8 0, .int .u8 0, .int .u8 0, .int .u8 0, .int .u8 0, .int .u8 0, .int .u8 0, .int .u8 0, .int .u8 0, .int .u8 0, .int .u8 0] 36)) from (Mem.nil w).alloc rfl 36 #[.int .u32 0, .int .u8 0, .int .u8 0, .int .u8 0, .int .u8 0, .int .u8 0, .int .u8 0, .int .u8 0, .int .u8 0, .int .u8 0, .int .u8 0, .int .u8 0, .int .u8 0, .int .u8 0, .int .u8 0, .int .u8 0, .int .u8 0, .int .u8 0, .int .u8 0, .int .u8 0, .int .u8 0, .int .u8 0, .int .u8 0, .int .u8 0, .int .u8 0, .int .u8 0, .int .u8 0, .int .u8 0, .int .u8 0, .int .u8 0, .int .u8 0, .int .u8 0, .int .u8 0, .int .u8 0, .int .u8 0, .int .u8 0, .int .u8 0, .int .u8 0, .int .u8 0, .int .u8 0, .int .u8 0, .int .u8 0, .int .u8 0, .int .u8 0, .int .u8 0, .int .u8 0, .int .u8 0, .int .u8 0, .int .u8 0, .int .u8 0, .int .u8 0, .int .u8 0, .int .u8 0, .int .u8 0, .int .u8 0, .int .u8 0, .int .u8 0] (msg0 3).cells (by kernel_rfl))
  obtain ⟨q, hq⟩ : ∃ q, kindB l = q := ⟨_, rfl⟩
  rw [hq] at HKD
  clear hr hlz hcz hcz0
  go_enter Try.func19, Try.ntmps19
  go_upto_region 1 with fail
  generalize w.alloc (.cells #[.int .u32 0, .int .u8 0, .int .u8 0, .int .u8 0, .int .u8 0, .int .u8 0, .int .u8 0, .int .u8 0, .int .u8 0, .int .u8 0, .int .u8 0, .int .u8 0, .int .u8 0, .int .u8 0, .int .u8 0, .int .u8 0, .int .u8 0, .int .u8 0, .int .u8 0, .int .u8 0, .int .u8 0, .int .u8 0, .int .u8 0, .int .u8 0, .int .u8 0, .int .u8 0, .int .u8 0, .int .u8 0, .int .u8 0, .int .u8 0, .int .u8 0, .int .u8 0, .int .u8 0, .int .u8 0, .int .u8 0, .int .u8 0, .int .u8 0, .int .u8 0, .int .u8 0, .int .u8 0, .int .u8 0, .int .u8 0, .int .u8 0, .int .u8 0, .int .u8 0, .int .u8 0, .int .u8 0, .int .u8 0, .int .u8 0, .int .u8 0, .int .u8 0, .int .u8 0, .int .u8 0, .int .u8 0, .int .u8 0, .int .u8 0, .int .u8 0] 36) = w1 at HM ⊢
  go_wp2_with fail
  refine (HKD.out _ (HM.out.arg HR.out)).mono ?_
  rintro e w2 ⟨rfl, hb⟩
  replace HM := Lib.hid (HM.out.below hb)
  clear hb
  by_cases hk : q = 3
  case neg =>
    have ek : ((q : Int) != 3) = true := by rw [bne_iff_ne]; omega
    have HE := Lib.hid (show decB 3 l = (msg0 3, 4) from by rw [decB, if_neg (by rw [hq]; exact hk)])
    clear hq hk hl hnc hcm hn
    go_wp2_with (first | (refine wpList_build_as rfl 36 [] rfl cz ?_ ?_; exact HBZ.out) | (refine wpList_store_blk rfl 36 (.tmp 2) (.tmp 7) rfl w.heap.size (msg0 3).cells rfl (by show Value.agg cz = _; rw [HCZ.out]) 36 (msg0 3).cells (HM.out.blk 0 rfl) HUZ.out rfl (MsgM.one _) ?_; intro w9 hb9 hg9))
    exact bodyPost_ret (results_obj_tmp rfl _ _ w.heap.size 36 (msg0 3).cells _ rfl hb9 Try.underlying36 rfl HUZ.out) rfl ⟨by rw [HE.out]; rfl, (HM.out.put 0 rfl _ hg9 hb9).bel⟩
  subst hk
  have hll := kindB_len (k := 3) (by omega) hq
  have hn2 : n = 64 := by rw [← hl, hll]; rfl
  subst hn2
  obtain ⟨b, off, rfl, -, -⟩ := HR.out.at_ (by omega)
  have HS4 := Lib.hid (fun W => slice_lhm (some ⟨b, off, none⟩) 64 c 4 8 8 (by omega) (by omega) (by omega) W)
  rw [addrOf_lt b off 4 8 (by omega), show 8 - 4 = 4 from rfl] at HS4
  have HS8 := Lib.hid (fun W => slice_lhm (some ⟨b, off, none⟩) 64 c 8 32 32 (by omega) (by omega) (by omega) W)
  rw [addrOf_lt b off 8 32 (by omega), show 32 - 8 = 24 from rfl] at HS8
  have HS32 := Lib.hid (fun W => slice_lhm (some ⟨b, off, none⟩) 64 c 32 64 64 (by omega) (by omega) (by omega) W)
  rw [addrOf_lt b off 32 64 (by omega), show 64 - 32 = 32 from rfl] at HS32
  have HN0 := Lib.hid (fun W (h : Rd W W.heap.size (some ⟨b, off, none⟩) 64 l) => pReadIndex_any (some ⟨b, off + 4, none⟩) 4 ((l.drop 4).take 4) W ((h.drop 4 b off rfl (by omega)).take (by omega)))
  obtain ⟨v, hv⟩ : ∃ z, numL ((l.drop 4).take 4) = z := ⟨_, rfl⟩
  rw [hv] at HN0
  have HA0 := Lib.hid (fun W (h : Rd W W.heap.size (some ⟨b, off, none⟩) 64 l) => h.at_obj 8 24)
  obtain ⟨f0, hf0⟩ : ∃ z, (l.drop 8).take 24 = z := ⟨_, rfl⟩
  have hz0 : f0.length = 24 := by rw [← hf0, List.length_take, List.length_drop, hl]; rfl
  have HZ0 := Lib.hid hz0
  rw [hf0] at HA0
  have HA1 := Lib.hid (fun W (h : Rd W W.heap.size (some ⟨b, off, none⟩) 64 l) => h.at_obj 32 32)
  obtain ⟨f1, hf1⟩ : ∃ z, (l.drop 32).take 32 = z := ⟨_, rfl⟩
  have hz1 : f1.length = 32 := by rw [← hf1, List.length_take, List.length_drop, hl]; rfl
  have HZ1 := Lib.hid hz1
  rw [hf1] at HA1
  have hpm := parts_ms3 l hl
  rw [hf0, hf1] at hpm
  have hmo : msOf 3 l = MsgM.mk [v] (f0 ++ f1) := by
    show MsgM.mk [numL ((l.drop 4).take 4)] (l.drop 8) = _
    rw [hv, hpm]
  have HE := Lib.hid (show decB 3 l = (MsgM.mk [v] (f0 ++ f1), 0) from by rw [decB, if_pos hq, hmo])
  have hok := msOf_ok hll
  rw [hmo] at hok
  have hco := MsgM.cells_length hok
  have HUO := Lib.hid (show (Try.prog.info? 36).map (·.size) = some (MsgM.mk [v] (f0 ++ f1)).cells.length from by rw [hco]; kernel_rfl)
  have HLO := Lib.hid (show (msg0 3).cells.length = (MsgM.mk [v] (f0 ++ f1)).cells.length from by rw [hco, MsgM.cells_length (msg0_ok 3)])
  have HBT := Lib.hid (built_ms3 v f0 f1 hz0 hz1)
  clear hmo hok hco hpm hll hq HKD hl hn hnc hv hf0 hz0 hf1 hz1
  go_upto_region 3 with fail
  refine wp_region_held_drew (S := fun W' => Mem w [] W') (by kernel_rfl) (((HM.out.erase 0)).drew) (fun hHeld => ?_)
  replace HM := Lib.hid HM.out.drew
  generalize w2.drew = wd1 at HM hHeld ⊢
  refine take_first (v := ?_) 0 rfl (by kernel_rfl) (by kernel_rfl) (by kernel_rfl) (fun _ _ _ h => h) (Or.inl ⟨by rfl, ?_⟩) (by assumption) ?_
  rotate_left
  · (intro w hSw; (try dsimp only at hSw); go_simp; try with_reducible rfl)
  (try simp only [Act.put, List.setIfInBounds_toArray, List.set_cons_zero, List.set_cons_succ])
  refine take_first (v := ?_) 1 rfl (by kernel_rfl) (by kernel_rfl) (by kernel_rfl) (fun _ _ _ h => h) (Or.inl ⟨by rfl, ?_⟩) (by assumption) ?_
  rotate_left
  · (intro w hSw; (try dsimp only at hSw); have hs := HS4.out w; rw [show ((4 : Nat) : Int) = 4 from rfl, show ((8 : Nat) : Int) = 8 from rfl] at hs; go_simp; try with_reducible rfl)
  (try simp only [Act.put, List.setIfInBounds_toArray, List.set_cons_zero, List.set_cons_succ])
  refine take_first (v := ?_) 3 rfl (by kernel_rfl) (by kernel_rfl) (by kernel_rfl) (fun _ _ _ h => h) (Or.inl ⟨by rfl, ?_⟩) (by assumption) ?_
  rotate_left
  · (intro w hSw; (try dsimp only at hSw); go_simp; try with_reducible rfl)
  (try simp only [Act.put, List.setIfInBounds_toArray, List.set_cons_zero, List.set_cons_succ])
  refine take_first (v := ?_) 4 rfl (by kernel_rfl) (by kernel_rfl) (by kernel_rfl) (fun _ _ _ h => h) (Or.inl ⟨by rfl, ?_⟩) (by assumption) ?_
  rotate_left
  · (intro w hSw; (try dsimp only at hSw); have hs := HS8.out w; rw [show ((8 : Nat) : Int) = 8 from rfl, show ((32 : Nat) : Int) = 32 from rfl] at hs; go_simp; try with_reducible rfl)
  (try simp only [Act.put, List.setIfInBounds_toArray, List.set_cons_zero, List.set_cons_succ])
  refine take_first (v := ?_) 5 rfl (by kernel_rfl) (by kernel_rfl) (by kernel_rfl) (fun _ _ _ h => h) (Or.inl ⟨by rfl, ?_⟩) (by assumption) ?_
  rotate_left
  · (intro w hSw; (try dsimp only at hSw); have ha := run_arrayAt_off (P := Try.prog) w 34 b (off + 8) 24 24 24 5 Try.underlying34 (Nat.le_refl _); go_simp; try with_reducible rfl)
  (try simp only [Act.put, List.setIfInBounds_toArray, List.set_cons_zero, List.set_cons_succ])
  refine take_first (v := .agg (f0.map u8v).toArray) 6 rfl (by kernel_rfl) (by kernel_rfl) (by kernel_rfl) (fun _ _ _ h => h) (yields_load_obj (by rfl) 34 (.tmp 13) rfl b (off + 8) rfl (f0.map u8v) (fun W' h => HA0.out W' (h.arg HR.out)) _ Try.underlying34 rfl (by rw [List.length_map, HZ0.out]; kernel_rfl)) (by assumption) ?_
  (try simp only [Act.put, List.setIfInBounds_toArray, List.set_cons_zero, List.set_cons_succ])
  refine take_first (v := ?_) 7 rfl (by kernel_rfl) (by kernel_rfl) (by kernel_rfl) (fun _ _ _ h => h) (Or.inl ⟨by rfl, ?_⟩) (by assumption) ?_
  rotate_left
  · (intro w hSw; (try dsimp only at hSw); go_simp; try with_reducible rfl)
  (try simp only [Act.put, List.setIfInBounds_toArray, List.set_cons_zero, List.set_cons_succ])
  refine take_first (v := ?_) 8 rfl (by kernel_rfl) (by kernel_rfl) (by kernel_rfl) (fun _ _ _ h => h) (Or.inl ⟨by rfl, ?_⟩) (by assumption) ?_
  rotate_left
  · (intro w hSw; (try dsimp only at hSw); have hs := HS32.out w; rw [show ((32 : Nat) : Int) = 32 from rfl, show ((64 : Nat) : Int) = 64 from rfl] at hs; go_simp; try with_reducible rfl)
  (try simp only [Act.put, List.setIfInBounds_toArray, List.set_cons_zero, List.set_cons_succ])
  refine take_first (v := ?_) 9 rfl (by kernel_rfl) (by kernel_rfl) (by kernel_rfl) (fun _ _ _ h => h) (Or.inl ⟨by rfl, ?_⟩) (by assumption) ?_
  rotate_left
  · (intro w hSw; (try dsimp only at hSw); have ha := run_arrayAt_off (P := Try.prog) w 23 b (off + 32) 32 32 32 5 Try.underlying23 (Nat.le_refl _); go_simp; try with_reducible rfl)
  (try simp only [Act.put, List.setIfInBounds_toArray, List.set_cons_zero, List.set_cons_succ])
  refine take_first (v := .agg (f1.map u8v).toArray) 10 rfl (by kernel_rfl) (by kernel_rfl) (by kernel_rfl) (fun _ _ _ h => h) (yields_load_obj (by rfl) 23 (.tmp 17) rfl b (off + 32) rfl (f1.map u8v) (fun W' h => HA1.out W' (h.arg HR.out)) _ Try.underlying23 rfl (by rw [List.length_map, HZ1.out]; kernel_rfl)) (by assumption) ?_
  (try simp only [Act.put, List.setIfInBounds_toArray, List.set_cons_zero, List.set_cons_succ])
  refine step_one 2 rfl (by kernel_rfl) (fun K hK => ?_)
  clear hHeld
  go_simp
  refine (HN0.out _ (HM.out.arg HR.out)).mono ?_
  rintro e wy ⟨rfl, rfl⟩
  go_wp2_with fail
  refine hK.out _ _ ((HM.out.erase 0)) (fun hHeld => ?_)
  clear hK K
  (try simp only [Act.put, List.setIfInBounds_toArray, List.set_cons_zero, List.set_cons_succ])
  refine take_first (v := .agg (MsgM.mk [v] (f0 ++ f1)).cells.toArray) 11 rfl (by kernel_rfl) (by kernel_rfl) (by kernel_rfl) (fun _ _ _ h => h) (yields_build_obj (by rfl) 36 [(0, .tmp 10), (1, .tmp 14), (2, .tmp 18)] rfl (MsgM.mk [v] (f0 ++ f1)).cells.toArray HBT.out) (by assumption) ?_
  (try simp only [Act.put, List.setIfInBounds_toArray, List.set_cons_zero, List.set_cons_succ])
  refine step_one 12 rfl (by kernel_rfl) (fun K hK => ?_)
  clear hHeld
  refine step_store_blk _ rfl 36 (.tmp 2) (.tmp 19) rfl w.heap.size (MsgM.mk [v] (f0 ++ f1)).cells rfl (by rfl) 36 (msg0 3).cells (HM.out.blk 0 rfl) HUO.out HLO.out (MsgM.one _) ?_
  intro wy2 hb hg
  replace HM := Lib.hid (show Mem w [blkE w.heap.size 36 (MsgM.mk [v] (f0 ++ f1)).cells] wy2 from HM.out.put 0 rfl _ hg hb)
  clear hb hg
  refine hK.out _ _ ((HM.out.erase 0)) (fun hHeld => ?_)
  clear hK K
  (try simp only [Act.put])
  refine take_first (v := ?_) 13 rfl (by kernel_rfl) (by kernel_rfl) (by kernel_rfl) (fun _ _ _ h => h) (Or.inl ⟨by rfl, ?_⟩) (by assumption) ?_
  rotate_left
  · (intro w hSw; (try dsimp only at hSw); go_simp; try with_reducible rfl)
  (try simp only [Act.put, List.setIfInBounds_toArray, List.set_cons_zero, List.set_cons_succ])
  refine wpAnyH_done (by kernel_rfl) ?_ _
  clear hHeld
  have HF := Lib.hid HM.out
  clear HM
  go_wp2_with fail
  exact bodyPost_ret (results_obj_tmp rfl _ _ w.heap.size 36 (MsgM.mk [v] (f0 ++ f1)).cells _ rfl (HF.out.blk 0 rfl) Try.underlying36 rfl HUO.out) rfl ⟨by rw [HE.out]; rfl, HF.out.bel⟩
end Go.Proofs.Ytaolhndbpgjlcaa
