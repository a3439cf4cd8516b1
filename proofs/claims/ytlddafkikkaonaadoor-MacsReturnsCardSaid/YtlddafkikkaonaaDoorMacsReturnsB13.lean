/-
  The contract of the program's DecodeCookie. What is asked of OpenReply holds of the landed function. A part of a slice of bytes as an array; a message that is built of its fields. The contract of the program's DecodeInitiation. The contract of the program's DecodeResponse. The contract of the program's DecodeCookie. MacsReturns returns true for every input, by what the landed functions give. No statement is proved here.
-/
import Derived.Test.YtlddafkikkaonaaDoorMacsReturnsB12
namespace Go.Proofs.YtlddafkikkaonaaDoor
open Go.RowKit

set_option maxRecDepth 100000 in
set_option maxHeartbeats 16000000 in
theorem msDecC3 : MsDecC 47 3 := by
  intro A n c l hnc hcm hn w hr
  have HKD := Lib.hid (msKindC A n c l hnc hcm hn)
  have HR := Lib.hid hr
  have hl : l.length = n := hr.1
  have hlz := MsgM.cells_length (msg0_ok 3)
  have HUZ := Lib.hid (show (Tryd.prog.info? 83).map (·.size) = some (msg0 3).cells.length from by rw [hlz]; kernel_rfl)
  have hcz0 : (msg0 3).cells.toArray = #[.int .u32 0, .int .u8 0, .int .u8 0, .int .u8 0, .int .u8 0, .int .u8 0, .int .u8 0, .int .u8 0, .int .u8 0, .int .u8 0, .int .u8 0, .int .u8 0, .int .u8 0, .int .u8 0, .int .u8 0, .int .u8 0, .int .u8 0, .int .u8 0, .int .u8 0, .int .u8 0, .int .u8 0, .int .u8 0, .int .u8 0, .int .u8 0, .int .u8 0, .int .u8 0, .int .u8 0, .int .u8 0, .int .u8 0, .int .u8 0, .int .u8 0, .int .u8 0, .int .u8 0, .int .u8 0, .int .u8 0, .int .u8 0, .int .u8 0, .int .u8 0, .int .u8 0, .int .u8 0, .int .u8 0, .int .u8 0, .int .u8 0, .int .u8 0, .int .u8 0, .int .u8 0, .int .u8 0, .int .u8 0, .int .u8 0, .int .u8 0, .int .u8 0, .int .u8 0, .int .u8 0, .int .u8 0, .int .u8 0, .int .u8 0, .int .u8 0] := by kernel_rfl
  obtain ⟨cz, hcz⟩ : ∃ z, (msg0 3).cells.toArray = z := ⟨_, rfl⟩
  have HBZ := Lib.hid (show Tryd.prog.built 83 [] = some cz from by rw [← hcz]; kernel_rfl)
  have HCZ := Lib.hid hcz
  have HM := Lib.hid (show Mem w [blkE w.heap.size 83 (msg0 3).cells] (w.alloc (.cells #[.int .u32 0, .int .u8 0, .int .u8 0, .int .u8 0, .int .u8 0, .int .u8 0, .int .u8 0, .int .u8 0, .int .u8 0, .int .u8 0, .int .u8 0, .int .u8 0, .int .u8 0, .int .u8 0, .int .u8 0, .int .u8 0, .int .u8 0, .int .u8 0, .int .u8 0, .int .u8 0, .int .u8 0, .int .u8 0, .int .u8 0, .int .u8 0, .int .u8 0, .int .u8 0, .int .u8 0, .int .u8 0, .int .u8 0, .int .u8 0, .int .u8 0, .int .u8 0, .int .u8 0, .int .u8 0, .int .u8 0, .int .u8 0, .int .u8 0, .int .u8 0, .int .u8 0, .int .u8 0, .int .u8 0, .int .u8 0, .int .u8 0, .int .u8 0, .int .u8 0, .int .u8 0, .int .u8 0, .int .u8 0, .int .u8 0, .int .u8 0, .int .u8 0, .int .u8 0, .int .u8 0, .int .u8 0, .int .u8 0, .int .u8 0, .int .u8 0] 83)) from (Mem.nil w).alloc rfl 83 #[.int .u32 0, .int .u8 0, .int .u8 0, .int .u8 0, .int .u8 0, .int .u8 0, .int .u8 0, .int .u8 0, .int .u8 0, .int .u8 0, .int .u8 0, .int .u8 0, .int .u8 0, .int .u8 0, .int .u8 0, .int .u8 0, .int .u8 0, .int .u8 0, .int .u8 0, .int .u8 0, .int .u8 0, .int .u8 0, .int .u8 0, .int .u8 0, .int .u8 0, .int .u8 0, .int .u8 0, .int .u8 0, .int .u8 0, .int .u8 0, .int .u8 0, .int .u8 0, .int .u8 0, .int .u8 0, .int .u8 0, .int .u8 0, .int .u8 0, .int .u8 0, .int .u8 0, .int .u8 0, .int .u8 0, .int .u8 0, .int .u8 0, .int .u8 0, .int .u8 0, .int .u8 0, .int .u8 0, .int .u8 0, .int .u8 0, .int .u8 0, .int .u8 0, .int .u8 0, .int .u8 0, .int .u8 0, .int .u8 0, .int .u8 0, .int .u8 0] (msg0 3).cells (by kernel_rfl))
  obtain ⟨q, hq⟩ : ∃ q, kindB l = q := ⟨_, rfl⟩
  rw [hq] at HKD
  clear hr hlz hcz hcz0
  go_enter Tryd.func47, Tryd.ntmps47
  go_upto_region 1 with fail
  generalize w.alloc (.cells #[.int .u32 0, .int .u8 0, .int .u8 0, .int .u8 0, .int .u8 0, .int .u8 0, .int .u8 0, .int .u8 0, .int .u8 0, .int .u8 0, .int .u8 0, .int .u8 0, .int .u8 0, .int .u8 0, .int .u8 0, .int .u8 0, .int .u8 0, .int .u8 0, .int .u8 0, .int .u8 0, .int .u8 0, .int .u8 0, .int .u8 0, .int .u8 0, .int .u8 0, .int .u8 0, .int .u8 0, .int .u8 0, .int .u8 0, .int .u8 0, .int .u8 0, .int .u8 0, .int .u8 0, .int .u8 0, .int .u8 0, .int .u8 0, .int .u8 0, .int .u8 0, .int .u8 0, .int .u8 0, .int .u8 0, .int .u8 0, .int .u8 0, .int .u8 0, .int .u8 0, .int .u8 0, .int .u8 0, .int .u8 0, .int .u8 0, .int .u8 0, .int .u8 0, .int .u8 0, .int .u8 0, .int .u8 0, .int .u8 0, .int .u8 0, .int .u8 0] 83) = w1 at HM ⊢
  go_wp2_with fail
  refine (HKD.out _ (HM.out.arg HR.out)).mono ?_
  rintro e w2 ⟨rfl, hb⟩
  replace HM := Lib.hid (HM.out.below hb)
  clear hb
  by_cases hk : q = 3
  case neg =>
    have ek : ((q : Int) != 3) = true := by rw [bne_iff_ne]; omega
    have HE := Lib.hid (show decB 3 l = (msg0 3, 4) from by rw [decB, if_neg (by rw [hq]; exact hk)])
    clear hq hk hl hnc hcm hn
    go_wp2_with (first | (refine wpList_build_as rfl 83 [] rfl cz ?_ ?_; exact HBZ.out) | (refine wpList_store_blk rfl 83 (.tmp 2) (.tmp 7) rfl w.heap.size (msg0 3).cells rfl (by show Value.agg cz = _; rw [HCZ.out]) 83 (msg0 3).cells (HM.out.blk 0 rfl) HUZ.out rfl (MsgM.one _) ?_; intro w9 hb9 hg9))
    exact bodyPost_ret (results_obj_tmp rfl _ _ w.heap.size 83 (msg0 3).cells _ rfl hb9 Tryd.underlying83 rfl HUZ.out) rfl ⟨by rw [HE.out]; rfl, (HM.out.put 0 rfl _ hg9 hb9).bel⟩
  subst hk
  have hll := kindB_len (k := 3) (by omega) hq
  have hn2 : n = 64 := by rw [← hl, hll]; rfl
  subst hn2
  obtain ⟨b, off, rfl, -, -⟩ := HR.out.at_ (by omega)
  have HS4 := Lib.hid (fun W => slice_lhm (some ⟨b, off, none⟩) 64 c 4 8 8 (by omega) (by omega) (by omega) W)
  rw [addrOf_lt b off 4 8 (by omega), show 8 - 4 = 4 from rfl] at HS4
  have HS8 := Lib.hid (fun W => slice_lhm (some ⟨b, off, none⟩) 64 c 8 32 32 (by omega) (by omega) (by omega) W)
  rw [addrOf_lt b off 8 32 (by omega), show 32 - 8 = 24 from rfl] at HS8
  have HS32 := Lib.hid (fun W => slice_lhm (some ⟨b, off, none⟩) 64 c 32 64 64 (by omega) (by omega) (by omega) W)
  rw [addrOf_lt b off 32 64 (by omega), show 64 - 32 = 32 from rfl] at HS32
  have HN0 := Lib.hid (fun W (h : Rd W W.heap.size (some ⟨b, off, none⟩) 64 l) => pReadIndex_any (some ⟨b, off + 4, none⟩) 4 ((l.drop 4).take 4) W ((h.drop 4 b off rfl (by omega)).take (by omega)))
  obtain ⟨v, hv⟩ : ∃ z, numL ((l.drop 4).take 4) = z := ⟨_, rfl⟩
  rw [hv] at HN0
  have HA0 := Lib.hid (fun W (h : Rd W W.heap.size (some ⟨b, off, none⟩) 64 l) => h.at_obj 8 24)
  obtain ⟨f0, hf0⟩ : ∃ z, (l.drop 8).take 24 = z := ⟨_, rfl⟩
  have hz0 : f0.length = 24 := by rw [← hf0, List.length_take, List.length_drop, hl]; rfl
  have HZ0 := Lib.hid hz0
  rw [hf0] at HA0
  have HA1 := Lib.hid (fun W (h : Rd W W.heap.size (some ⟨b, off, none⟩) 64 l) => h.at_obj 32 32)
  obtain ⟨f1, hf1⟩ : ∃ z, (l.drop 32).take 32 = z := ⟨_, rfl⟩
  have hz1 : f1.length = 32 := by rw [← hf1, List.length_take, List.length_drop, hl]; rfl
  have HZ1 := Lib.hid hz1
  rw [hf1] at HA1
  have hpm := parts_ms3 l hl
  rw [hf0, hf1] at hpm
  have hmo : msOf 3 l = MsgM.mk [v] (f0 ++ f1) := by
    show MsgM.mk [numL ((l.drop 4).take 4)] (l.drop 8) = _
    rw [hv, hpm]
  have HE := Lib.hid (show decB 3 l = (MsgM.mk [v] (f0 ++ f1), 0) from by rw [decB, if_pos hq, hmo])
  have hok := msOf_ok hll
  rw [hmo] at hok
  have hco := MsgM.cells_length hok
  have HUO := Lib.hid (show (Tryd.prog.info? 83).map (·.size) = some (MsgM.mk [v] (f0 ++ f1)).cells.length from by rw [hco]; kernel_rfl)
  have HLO := Lib.hid (show (msg0 3).cells.length = (MsgM.mk [v] (f0 ++ f1)).cells.length from by rw [hco, MsgM.cells_length (msg0_ok 3)])
  have HBT := Lib.hid (built_ms3 v f0 f1 hz0 hz1)
  clear hmo hok hco hpm hll hq HKD hl hn hnc hv hf0 hz0 hf1 hz1
  go_upto_region 3 with fail
  refine wp_region_held_drew (S := fun W' => Mem w [] W') (by kernel_rfl) (((HM.out.erase 0)).drew) (fun hHeld => ?_)
  replace HM := Lib.hid HM.out.drew
  generalize w2.drew = wd1 at HM hHeld ⊢
  refine take_first (v := ?_) 0 rfl (by kernel_rfl) (by kernel_rfl) (by kernel_rfl) (fun _ _ _ h => h) (Or.inl ⟨by rfl, ?_⟩) (by assumption) ?_
  rotate_left
  · (intro w hSw; (try dsimp only at hSw); go_simp; try with_reducible rfl)
  (try simp only [Act.put, List.setIfInBounds_toArray, List.set_cons_zero, List.set_cons_succ])
  refine take_first (v := ?_) 1 rfl (by kernel_rfl) (by kernel_rfl) (by kernel_rfl) (fun _ _ _ h => h) (Or.inl ⟨by rfl, ?_⟩) (by assumption) ?_
  rotate_left
  · (intro w hSw; (try dsimp only at hSw); have hs := HS4.out w; rw [show ((4 : Nat) : Int) = 4 from rfl, show ((8 : Nat) : Int) = 8 from rfl] at hs; go_simp; try with_reducible rfl)
  (try simp only [Act.put, List.setIfInBounds_toArray, List.set_cons_zero, List.set_cons_succ])
  refine take_first (v := ?_) 3 rfl (by kernel_rfl) (by kernel_rfl) (by kernel_rfl) (fun _ _ _ h => h) (Or.inl ⟨by rfl, ?_⟩) (by assumption) ?_
  rotate_left
  · (intro w hSw; (try dsimp only at hSw); go_simp; try with_reducible rfl)
  (try simp only [Act.put, List.setIfInBounds_toArray, List.set_cons_zero, List.set_cons_succ])
  refine take_first (v := ?_) 4 rfl (by kernel_rfl) (by kernel_rfl) (by kernel_rfl) (fun _ _ _ h => h) (Or.inl ⟨by rfl, ?_⟩) (by assumption) ?_
  rotate_left
  · (intro w hSw; (try dsimp only at hSw); have hs := HS8.out w; rw [show ((8 : Nat) : Int) = 8 from rfl, show ((32 : Nat) : Int) = 32 from rfl] at hs; go_simp; try with_reducible rfl)
  (try simp only [Act.put, List.setIfInBounds_toArray, List.set_cons_zero, List.set_cons_succ])
  refine take_first (v := ?_) 5 rfl (by kernel_rfl) (by kernel_rfl) (by kernel_rfl) (fun _ _ _ h => h) (Or.inl ⟨by rfl, ?_⟩) (by assumption) ?_
  rotate_left
  · (intro w hSw; (try dsimp only at hSw); have ha := run_arrayAt_off (P := Tryd.prog) w 52 b (off + 8) 24 24 24 5 Tryd.underlying52 (Nat.le_refl _); go_simp; try with_reducible rfl)
  (try simp only [Act.put, List.setIfInBounds_toArray, List.set_cons_zero, List.set_cons_succ])
  refine take_first (v := .agg (f0.map u8v).toArray) 6 rfl (by kernel_rfl) (by kernel_rfl) (by kernel_rfl) (fun _ _ _ h => h) (yields_load_obj (by rfl) 52 (.tmp 13) rfl b (off + 8) rfl (f0.map u8v) (fun W' h => HA0.out W' (h.arg HR.out)) _ Tryd.underlying52 rfl (by rw [List.length_map, HZ0.out]; kernel_rfl)) (by assumption) ?_
  (try simp only [Act.put, List.setIfInBounds_toArray, List.set_cons_zero, List.set_cons_succ])
  refine take_first (v := ?_) 7 rfl (by kernel_rfl) (by kernel_rfl) (by kernel_rfl) (fun _ _ _ h => h) (Or.inl ⟨by rfl, ?_⟩) (by assumption) ?_
  rotate_left
  · (intro w hSw; (try dsimp only at hSw); go_simp; try with_reducible rfl)
  (try simp only [Act.put, List.setIfInBounds_toArray, List.set_cons_zero, List.set_cons_succ])
  refine take_first (v := ?_) 8 rfl (by kernel_rfl) (by kernel_rfl) (by kernel_rfl) (fun _ _ _ h => h) (Or.inl ⟨by rfl, ?_⟩) (by assumption) ?_
  rotate_left
  · (intro w hSw; (try dsimp only at hSw); have hs := HS32.out w; rw [show ((32 : Nat) : Int) = 32 from rfl, show ((64 : Nat) : Int) = 64 from rfl] at hs; go_simp; try with_reducible rfl)
  (try simp only [Act.put, List.setIfInBounds_toArray, List.set_cons_zero, List.set_cons_succ])
  refine take_first (v := ?_) 9 rfl (by kernel_rfl) (by kernel_rfl) (by kernel_rfl) (fun _ _ _ h => h) (Or.inl ⟨by rfl, ?_⟩) (by assumption) ?_
  rotate_left
  · (intro w hSw; (try dsimp only at hSw); have ha := run_arrayAt_off (P := Tryd.prog) w 22 b (off + 32) 32 32 32 5 Tryd.underlying22 (Nat.le_refl _); go_simp; try with_reducible rfl)
  (try simp only [Act.put, List.setIfInBounds_toArray, List.set_cons_zero, List.set_cons_succ])
  refine take_first (v := .agg (f1.map u8v).toArray) 10 rfl (by kernel_rfl) (by kernel_rfl) (by kernel_rfl) (fun _ _ _ h => h) (yields_load_obj (by rfl) 22 (.tmp 17) rfl b (off + 32) rfl (f1.map u8v) (fun W' h => HA1.out W' (h.arg HR.out)) _ Tryd.underlying22 rfl (by rw [List.length_map, HZ1.out]; kernel_rfl)) (by assumption) ?_
  (try simp only [Act.put, List.setIfInBounds_toArray, List.set_cons_zero, List.set_cons_succ])
  refine step_one 2 rfl (by kernel_rfl) (fun K hK => ?_)
  clear hHeld
  go_simp
  refine (HN0.out _ (HM.out.arg HR.out)).mono ?_
  rintro e wy ⟨rfl, rfl⟩
  go_wp2_with fail
  refine hK.out _ _ ((HM.out.erase 0)) (fun hHeld => ?_)
  clear hK K
  (try simp only [Act.put, List.setIfInBounds_toArray, List.set_cons_zero, List.set_cons_succ])
  refine take_first (v := .agg (MsgM.mk [v] (f0 ++ f1)).cells.toArray) 11 rfl (by kernel_rfl) (by kernel_rfl) (by kernel_rfl) (fun _ _ _ h => h) (yields_build_obj (by rfl) 83 [(0, .tmp 10), (1, .tmp 14), (2, .tmp 18)] rfl (MsgM.mk [v] (f0 ++ f1)).cells.toArray HBT.out) (by assumption) ?_
  (try simp only [Act.put, List.setIfInBounds_toArray, List.set_cons_zero, List.set_cons_succ])
  refine step_one 12 rfl (by kernel_rfl) (fun K hK => ?_)
  clear hHeld
  refine step_store_blk _ rfl 83 (.tmp 2) (.tmp 19) rfl w.heap.size (MsgM.mk [v] (f0 ++ f1)).cells rfl (by rfl) 83 (msg0 3).cells (HM.out.blk 0 rfl) HUO.out HLO.out (MsgM.one _) ?_
  intro wy2 hb hg
  replace HM := Lib.hid (show Mem w [blkE w.heap.size 83 (MsgM.mk [v] (f0 ++ f1)).cells] wy2 from HM.out.put 0 rfl _ hg hb)
  clear hb hg
  refine hK.out _ _ ((HM.out.erase 0)) (fun hHeld => ?_)
  clear hK K
  (try simp only [Act.put])
  refine take_first (v := ?_) 13 rfl (by kernel_rfl) (by kernel_rfl) (by kernel_rfl) (fun _ _ _ h => h) (Or.inl ⟨by rfl, ?_⟩) (by assumption) ?_
  rotate_left
  · (intro w hSw; (try dsimp only at hSw); go_simp; try with_reducible rfl)
  (try simp only [Act.put, List.setIfInBounds_toArray, List.set_cons_zero, List.set_cons_succ])
  refine wpAnyH_done (by kernel_rfl) ?_ _
  clear hHeld
  have HF := Lib.hid HM.out
  clear HM
  go_wp2_with fail
  exact bodyPost_ret (results_obj_tmp rfl _ _ w.heap.size 83 (MsgM.mk [v] (f0 ++ f1)).cells _ rfl (HF.out.blk 0 rfl) Tryd.underlying83 rfl HUO.out) rfl ⟨by rw [HE.out]; rfl, HF.out.bel⟩
end Go.Proofs.YtlddafkikkaonaaDoor
namespace Go.Proofs.YtlddafkikkaonaaDoor
open Go.RowKit

set_option maxRecDepth 100000 in
set_option maxHeartbeats 8000000 in
theorem mcOpenC : McOpenC 21 := by
  intro p mac hp hmac A n c l hnc hcx hn6 w hlv hr
  have HLV := Lib.hid hlv
  have HP := Lib.hid hp
  have HMC := Lib.hid hmac
  have hd := msDecC3 A n c l hnc hcx hn6
  obtain ⟨cp, hcp⟩ : ∃ z, (p.map u8v).toArray = z := ⟨_, rfl⟩
  obtain ⟨cm, hcm⟩ : ∃ z, (mac.map u8v).toArray = z := ⟨_, rfl⟩
  rw [hcp, hcm]
  have HM := Lib.hid (show Mem w [blkE (w.heap.size + 1 + 1) 30 ((List.replicate 16 (0 : UInt8)).map u8v), blkE (w.heap.size + 1) 30 (mac.map u8v), blkE w.heap.size 23 (p.map u8v)] (((w.alloc (.cells cp 23)).alloc (.cells cm 30)).alloc (.cells #[.int .u8 0, .int .u8 0, .int .u8 0, .int .u8 0, .int .u8 0, .int .u8 0, .int .u8 0, .int .u8 0, .int .u8 0, .int .u8 0, .int .u8 0, .int .u8 0, .int .u8 0, .int .u8 0, .int .u8 0, .int .u8 0] 30)) from (((Mem.nil w).alloc rfl 23 cp (p.map u8v) hcp.symm).alloc (by simp) 30 cm (mac.map u8v) hcm.symm).alloc (by simp) 30 #[.int .u8 0, .int .u8 0, .int .u8 0, .int .u8 0, .int .u8 0, .int .u8 0, .int .u8 0, .int .u8 0, .int .u8 0, .int .u8 0, .int .u8 0, .int .u8 0, .int .u8 0, .int .u8 0, .int .u8 0, .int .u8 0] ((List.replicate 16 (0 : UInt8)).map u8v) rfl)
  have HR := Lib.hid hr
  have hdo := (decB_ok (k := 3) (by omega) l).1
  have hde : (decB 3 l) = ((decB 3 l).1, (decB 3 l).2) := rfl
  have hh1 := fun h : kindB l = 3 => show decB 3 l = (msOf 3 l, 0) from by rw [decB, if_pos h]
  have hh2 := fun h : ¬ kindB l = 3 => show decB 3 l = (msg0 3, 4) from by rw [decB, if_neg h]
  have hlm := MsgM.cells_length hdo
  obtain ⟨mm, hmm⟩ : ∃ z, (decB 3 l).1 = z := ⟨_, rfl⟩
  obtain ⟨er, her⟩ : ∃ z, (decB 3 l).2 = z := ⟨_, rfl⟩
  rw [hmm] at hdo hlm
  rw [hmm, her] at hd
  obtain ⟨cd, hcd⟩ : ∃ z, mm.cells.toArray = z := ⟨_, rfl⟩
  rw [hcd] at hd
  have HD := Lib.hid hd
  have HCD := Lib.hid hcd
  have HLM := Lib.hid hlm
  have HUM := Lib.hid (show (Tryd.prog.info? 83).map (·.size) = some mm.cells.length from by rw [hlm]; kernel_rfl)
  have HDO := Lib.hid hdo
  clear hd hcd hlm hr hde
  go_enter Tryd.func21, Tryd.ntmps21
  go_upto_region 1 with fail
  generalize (((w.alloc (.cells cp 23)).alloc (.cells cm 30)).alloc (.cells #[.int .u8 0, .int .u8 0, .int .u8 0, .int .u8 0, .int .u8 0, .int .u8 0, .int .u8 0, .int .u8 0, .int .u8 0, .int .u8 0, .int .u8 0, .int .u8 0, .int .u8 0, .int .u8 0, .int .u8 0, .int .u8 0] 30)) = w1 at HM ⊢
  go_wp2_with fail
  refine (HD.out _ (HM.out.arg HR.out)).mono ?_
  rintro e w2 ⟨rfl, hb⟩
  replace HM := Lib.hid (HM.out.below hb)
  clear hb
  have HMZ := Lib.hid (show Mem w [blkE w2.heap.size 83 (msg0 3).cells, blkE (w.heap.size + 1 + 1) 30 ((List.replicate 16 (0 : UInt8)).map u8v), blkE (w.heap.size + 1) 30 (mac.map u8v), blkE w.heap.size 23 (p.map u8v)] (w2.alloc (.cells #[.int .u32 0, .int .u8 0, .int .u8 0, .int .u8 0, .int .u8 0, .int .u8 0, .int .u8 0, .int .u8 0, .int .u8 0, .int .u8 0, .int .u8 0, .int .u8 0, .int .u8 0, .int .u8 0, .int .u8 0, .int .u8 0, .int .u8 0, .int .u8 0, .int .u8 0, .int .u8 0, .int .u8 0, .int .u8 0, .int .u8 0, .int .u8 0, .int .u8 0, .int .u8 0, .int .u8 0, .int .u8 0, .int .u8 0, .int .u8 0, .int .u8 0, .int .u8 0, .int .u8 0, .int .u8 0, .int .u8 0, .int .u8 0, .int .u8 0, .int .u8 0, .int .u8 0, .int .u8 0, .int .u8 0, .int .u8 0, .int .u8 0, .int .u8 0, .int .u8 0, .int .u8 0, .int .u8 0, .int .u8 0, .int .u8 0, .int .u8 0, .int .u8 0, .int .u8 0, .int .u8 0, .int .u8 0, .int .u8 0, .int .u8 0, .int .u8 0] 83)) from HM.out.alloc rfl 83 #[.int .u32 0, .int .u8 0, .int .u8 0, .int .u8 0, .int .u8 0, .int .u8 0, .int .u8 0, .int .u8 0, .int .u8 0, .int .u8 0, .int .u8 0, .int .u8 0, .int .u8 0, .int .u8 0, .int .u8 0, .int .u8 0, .int .u8 0, .int .u8 0, .int .u8 0, .int .u8 0, .int .u8 0, .int .u8 0, .int .u8 0, .int .u8 0, .int .u8 0, .int .u8 0, .int .u8 0, .int .u8 0, .int .u8 0, .int .u8 0, .int .u8 0, .int .u8 0, .int .u8 0, .int .u8 0, .int .u8 0, .int .u8 0, .int .u8 0, .int .u8 0, .int .u8 0, .int .u8 0, .int .u8 0, .int .u8 0, .int .u8 0, .int .u8 0, .int .u8 0, .int .u8 0, .int .u8 0, .int .u8 0, .int .u8 0, .int .u8 0, .int .u8 0, .int .u8 0, .int .u8 0, .int .u8 0, .int .u8 0, .int .u8 0, .int .u8 0] (msg0 3).cells (by kernel_rfl))
  clear HM
  go_upto_region 2 with (refine wpList_store_blk rfl 83 (.tmp 8) (.tmp 14) rfl w2.heap.size mm.cells rfl (by show Value.agg cd = _; rw [HCD.out]) 83 (msg0 3).cells (HMZ.out.blk 0 rfl) HUM.out (by rw [HLM.out, MsgM.cells_length (msg0_ok 3)]) (MsgM.one _) ?_; intro w4 hb4 hg4)
  (try simp only [Act.put])
  have hm4 := HMZ.out.put 0 rfl _ hg4 hb4
  generalize w2.heap.size = g8 at hm4 ⊢
  have HM := Lib.hid (show Mem w [blkE g8 83 mm.cells, blkE (w.heap.size + 1 + 1) 30 ((List.replicate 16 (0 : UInt8)).map u8v), blkE (w.heap.size + 1) 30 (mac.map u8v), blkE w.heap.size 23 (p.map u8v)] w4 from hm4)
  clear hm4 hb4 hg4 HMZ
  by_cases hk : kindB l = 3
  case neg =>
    have h2 := hh2 hk
    have hev : er = 4 := by rw [← her, h2]
    subst hev
    have HV := Lib.hid (show openB p mac l = (List.replicate 16 0, 4) from by rw [openB, if_neg hk])
    clear hk h2 hh1 hh2 her hmm hdo hcp hcm hp hmac hnc hcx hn6
    go_wp2_with (first | (refine wpList_build_as rfl 30 [] rfl #[.int .u8 0, .int .u8 0, .int .u8 0, .int .u8 0, .int .u8 0, .int .u8 0, .int .u8 0, .int .u8 0, .int .u8 0, .int .u8 0, .int .u8 0, .int .u8 0, .int .u8 0, .int .u8 0, .int .u8 0, .int .u8 0] ?_ ?_; kernel_rfl) | (refine wpList_store_blk rfl 30 (.tmp 6) (.tmp 18) rfl (w.heap.size + 1 + 1) ((List.replicate 16 (0 : UInt8)).map u8v) rfl (by rfl) 30 ((List.replicate 16 (0 : UInt8)).map u8v) (HM.out.blk 1 rfl) (ae_cellsT _ (by simp)) (by simp) (u8v_one _) ?_; intro w9 hb9 hg9))
    exact bodyPost_ret (results_obj_tmp rfl _ _ (w.heap.size + 1 + 1) 30 ((List.replicate 16 (0 : UInt8)).map u8v) _ rfl hb9 Tryd.underlying30 rfl (ae_cellsT _ (by simp))) rfl ⟨by rw [HV.out]; rfl, (HM.out.put 1 rfl _ hg9 hb9).bel⟩
  have h1 := hh1 hk
  have hev : er = 0 := by rw [← her, h1]
  have hmv : mm = msOf 3 l := by rw [← hmm, h1]
  subst hev
  have hl64 : l.length = 64 := kindB_len (k := 3) (by omega) hk
  obtain ⟨nn, hnn⟩ : ∃ z, (l.drop 8).take 24 = z := ⟨_, rfl⟩
  obtain ⟨sl, hsl⟩ : ∃ z, (l.drop 32).take 32 = z := ⟨_, rfl⟩
  have hn24 : nn.length = 24 := by rw [← hnn, List.length_take, List.length_drop, hl64]; rfl
  have hs32 : sl.length = 32 := by rw [← hsl, List.length_take, List.length_drop, hl64]; rfl
  have hbs : mm.bs = l.drop 8 := by rw [hmv]; rfl
  have hseg1 : (mm.cells.drop 1).take 24 = nn.map u8v := by rw [msg_seg hdo 1 0 24 rfl, hbs, List.drop_zero, hnn]
  have hseg2 : (mm.cells.drop 25).take 32 = sl.map u8v := by rw [msg_seg hdo 25 24 32 rfl, hbs, List.drop_drop, hsl]
  have HSEG := Lib.hid (And.intro hseg1 hseg2)
  have HN := Lib.hid hn24
  have HSLN := Lib.hid hs32
  have hv : openB p mac l = if (xopenL (hideB p) nn sl mac).2 = 0 then ((xopenL (hideB p) nn sl mac).1, 0) else (List.replicate 16 0, (xopenL (hideB p) nn sl mac).2) := by
    rw [openB, if_pos hk]
    simp only [hnn, hsl]
  have hhd := fun (W : World) (hl : LvBlake W) => (show Calls Tryd.prog 36 #[.string ⟨#[99, 111, 111, 107, 105, 101, 45, 45]⟩, .agg (p.map u8v).toArray] W (fun e w' => e = .returned (.agg ((hideB p).map u8v).toArray) ∧ Below W.heap.size W w') from derive_any ⟨#[99, 111, 111, 107, 105, 101, 45, 45]⟩ cookK rfl rfl p hp W hl)
  have hxo := fun (gc gm : Nat) (W : World) (h1 : Rd W W.heap.size (some ⟨gc, 25, none⟩) 32 sl) (h2 : Rd W W.heap.size (some ⟨gm, 0, none⟩) 16 mac) => xopenC (hideB p) nn (hideB_length p) hn24 (some ⟨gc, 25, none⟩) (some ⟨gm, 0, none⟩) 32 32 16 16 sl mac (by omega) (by decide) (by omega) (by decide) (by omega) (by omega) W h1 h2
  have hxn := xopen_len (hideB p) nn sl mac hs32
  obtain ⟨xl, hxl⟩ : ∃ z, (xopenL (hideB p) nn sl mac).1 = z := ⟨_, rfl⟩
  obtain ⟨xe, hxe⟩ : ∃ z, (xopenL (hideB p) nn sl mac).2 = z := ⟨_, rfl⟩
  rw [hxl, hxe] at hv hxn
  rw [hxl, hxe] at hxo
  generalize hideB p = hkk at hhd hxo
  obtain ⟨chk, hchk⟩ : ∃ z, (hkk.map u8v).toArray = z := ⟨_, rfl⟩
  obtain ⟨cn, hcn⟩ : ∃ z, (nn.map u8v).toArray = z := ⟨_, rfl⟩
  rw [hcp, hchk] at hhd
  rw [hchk, hcn] at hxo
  have HV := Lib.hid hv
  have HXN := Lib.hid hxn
  have HHD := Lib.hid hhd
  have HXO := Lib.hid hxo
  have HCN := Lib.hid hcn
  have HCP := Lib.hid hcp
  clear hv hxn hhd hxo hcn hchk hxl hxe hseg1 hseg2 hbs hn24 hs32 hnn hsl hl64 hmv h1 hh1 hh2 hk her hmm hdo hcp hcm hp hmac hnc hcx hn6
  go_upto_region 4 with fail
  refine wp_region_held_drew (S := fun W' => Mem w [blkE g8 83 mm.cells, blkE (w.heap.size + 1 + 1) 30 ((List.replicate 16 (0 : UInt8)).map u8v), blkE (w.heap.size + 1) 30 (mac.map u8v), blkE w.heap.size 23 (p.map u8v)] W') (by kernel_rfl) ((HM.out).drew) (fun hHeld => ?_)
  replace HM := Lib.hid HM.out.drew
  generalize w4.drew = wd1 at HM hHeld ⊢
  refine take_first (v := .agg cp) 0 rfl (by kernel_rfl) (by kernel_rfl) (by kernel_rfl) (fun _ _ _ h => h) (by rw [← HCP.out]; exact yields_load_obj (by rfl) 23 (.tmp 3) rfl w.heap.size 0 rfl (p.map u8v) (fun w' hb => (Mem.blk hb 3 rfl).all) _ Tryd.underlying23 rfl (cells32 p HP.out)) (by assumption) ?_
  (try simp only [Act.put, List.setIfInBounds_toArray, List.set_cons_zero, List.set_cons_succ])
  refine take_first (v := ?_) 2 rfl (by kernel_rfl) (by kernel_rfl) (by kernel_rfl) (fun _ _ _ h => h) (Or.inl ⟨by rfl, ?_⟩) (by assumption) ?_
  rotate_left
  · (intro w hSw; (try dsimp only at hSw); go_simp; try with_reducible rfl)
  (try simp only [Act.put, List.setIfInBounds_toArray, List.set_cons_zero, List.set_cons_succ])
  refine take_first (v := .agg cn) 3 rfl (by kernel_rfl) (by kernel_rfl) (by kernel_rfl) (fun _ _ _ h => h) (by rw [← HCN.out]; exact yields_load_obj (by rfl) 52 (.tmp 23) rfl g8 1 rfl (nn.map u8v) (fun w' hb => by have h := (Mem.blk hb 0 rfl).sub 1 24; rw [HSEG.out.1] at h; exact h) _ Tryd.underlying52 rfl (xc_cellsL nn HN.out)) (by assumption) ?_
  (try simp only [Act.put, List.setIfInBounds_toArray, List.set_cons_zero, List.set_cons_succ])
  refine take_first (v := ?_) 4 rfl (by kernel_rfl) (by kernel_rfl) (by kernel_rfl) (fun _ _ _ h => h) (Or.inl ⟨by rfl, ?_⟩) (by assumption) ?_
  rotate_left
  · (intro w hSw; (try dsimp only at hSw); go_simp; try with_reducible rfl)
  (try simp only [Act.put, List.setIfInBounds_toArray, List.set_cons_zero, List.set_cons_succ])
  refine take_first (v := ?_) 5 rfl (by kernel_rfl) (by kernel_rfl) (by kernel_rfl) (fun _ _ _ h => h) (Or.inl ⟨by rfl, ?_⟩) (by assumption) ?_
  rotate_left
  · (intro w hSw; (try dsimp only at hSw); go_simp; try with_reducible rfl)
  (try simp only [Act.put, List.setIfInBounds_toArray, List.set_cons_zero, List.set_cons_succ])
  refine take_first (v := ?_) 6 rfl (by kernel_rfl) (by kernel_rfl) (by kernel_rfl) (fun _ _ _ h => h) (Or.inl ⟨by rfl, ?_⟩) (by assumption) ?_
  rotate_left
  · (intro w hSw; (try dsimp only at hSw); go_simp; try with_reducible rfl)
  (try simp only [Act.put, List.setIfInBounds_toArray, List.set_cons_zero, List.set_cons_succ])
  refine step_one 1 rfl (by kernel_rfl) (fun K hK => ?_)
  clear hHeld
  go_simp
  refine (HHD.out _ (HLV.out.below HM.out.bel)).mono ?_
  rintro e wy2 ⟨rfl, hb⟩
  replace HM := Lib.hid (show Mem w [blkE g8 83 mm.cells, blkE (w.heap.size + 1 + 1) 30 ((List.replicate 16 (0 : UInt8)).map u8v), blkE (w.heap.size + 1) 30 (mac.map u8v), blkE w.heap.size 23 (p.map u8v)] wy2 from HM.out.below hb)
  clear hb
  go_wp2_with fail
  refine hK.out _ _ (HM.out) (fun hHeld => ?_)
  clear hK K
  (try simp only [Act.put, List.setIfInBounds_toArray, List.set_cons_zero, List.set_cons_succ])
  refine step_one 7 rfl (by kernel_rfl) (fun K hK => ?_)
  clear hHeld
  go_simp
  refine (HXO.out g8 (w.heap.size + 1) _ (by have h := (HM.out.blk 0 rfl).sub 25 32; rw [HSEG.out.2] at h; exact rd_of_at (HM.out.blk 0 rfl).lt h HSLN.out) (blk_all (HM.out.blk 2 rfl) HMC.out)).mono ?_
  rintro e wy3 ⟨A5, c5, rfl, hr, h5, h6, hb⟩
  have HR5 := Lib.hid hr
  replace HM := Lib.hid (show Mem w [blkE g8 83 mm.cells, blkE (w.heap.size + 1 + 1) 30 ((List.replicate 16 (0 : UInt8)).map u8v), blkE (w.heap.size + 1) 30 (mac.map u8v), blkE w.heap.size 23 (p.map u8v)] wy3 from HM.out.below hb)
  clear hb hr h5 h6
  go_wp2_with fail
  refine hK.out _ _ (HM.out) (fun hHeld => ?_)
  clear hK K
  (try simp only [Act.put, List.setIfInBounds_toArray, List.set_cons_zero, List.set_cons_succ])
  refine take_first (v := ?_) 8 rfl (by kernel_rfl) (by kernel_rfl) (by kernel_rfl) (fun _ _ _ h => h) (Or.inl ⟨by rfl, ?_⟩) (by assumption) ?_
  rotate_left
  · (intro w hSw; (try dsimp only at hSw); go_simp; try with_reducible rfl)
  (try simp only [Act.put, List.setIfInBounds_toArray, List.set_cons_zero, List.set_cons_succ])
  refine take_first (v := ?_) 9 rfl (by kernel_rfl) (by kernel_rfl) (by kernel_rfl) (fun _ _ _ h => h) (Or.inl ⟨by rfl, ?_⟩) (by assumption) ?_
  rotate_left
  · (intro w hSw; (try dsimp only at hSw); go_simp; try with_reducible rfl)
  (try simp only [Act.put, List.setIfInBounds_toArray, List.set_cons_zero, List.set_cons_succ])
  refine take_first (v := ?_) 10 rfl (by kernel_rfl) (by kernel_rfl) (by kernel_rfl) (fun _ _ _ h => h) (Or.inl ⟨by rfl, ?_⟩) (by assumption) ?_
  rotate_left
  · (intro w hSw; (try dsimp only at hSw); go_simp; try with_reducible rfl)
  (try simp only [Act.put, List.setIfInBounds_toArray, List.set_cons_zero, List.set_cons_succ])
  refine take_first (v := ?_) 11 rfl (by kernel_rfl) (by kernel_rfl) (by kernel_rfl) (fun _ _ _ h => h) (Or.inl ⟨by rfl, ?_⟩) (by assumption) ?_
  rotate_left
  · (intro w hSw; (try dsimp only at hSw); go_simp; try with_reducible rfl)
  (try simp only [Act.put, List.setIfInBounds_toArray, List.set_cons_zero, List.set_cons_succ])
  refine take_first (v := ?_) 12 rfl (by kernel_rfl) (by kernel_rfl) (by kernel_rfl) (fun _ _ _ h => h) (Or.inl ⟨by rfl, ?_⟩) (by assumption) ?_
  rotate_left
  · (intro w hSw; (try dsimp only at hSw); go_simp; try with_reducible rfl)
  (try simp only [Act.put, List.setIfInBounds_toArray, List.set_cons_zero, List.set_cons_succ])
  refine wpAnyH_done (by kernel_rfl) ?_ _
  clear hHeld
  by_cases hx0 : xe = 0
  case neg =>
    have ex : ((xe : Int) != 0) = true := by rw [bne_iff_ne]; omega
    have HVN := Lib.hid (show openB p mac l = (List.replicate 16 0, xe) from by rw [HV.out, if_neg hx0])
    clear hx0
    go_wp2_with (first | (refine wpList_build_as rfl 30 [] rfl #[.int .u8 0, .int .u8 0, .int .u8 0, .int .u8 0, .int .u8 0, .int .u8 0, .int .u8 0, .int .u8 0, .int .u8 0, .int .u8 0, .int .u8 0, .int .u8 0, .int .u8 0, .int .u8 0, .int .u8 0, .int .u8 0] ?_ ?_; kernel_rfl) | (refine wpList_store_blk rfl 30 (.tmp 6) (.tmp 33) rfl (w.heap.size + 1 + 1) ((List.replicate 16 (0 : UInt8)).map u8v) rfl (by rfl) 30 ((List.replicate 16 (0 : UInt8)).map u8v) (HM.out.blk 1 rfl) (ae_cellsT _ (by simp)) (by simp) (u8v_one _) ?_; intro w9 hb9 hg9))
    exact bodyPost_ret (results_obj_tmp rfl _ _ (w.heap.size + 1 + 1) 30 ((List.replicate 16 (0 : UInt8)).map u8v) _ rfl hb9 Tryd.underlying30 rfl (ae_cellsT _ (by simp))) rfl ⟨by rw [HVN.out]; rfl, (HM.out.put 1 rfl _ hg9 hb9).bel⟩
  subst hx0
  have HVP := Lib.hid (show openB p mac l = (xl, 0) from by rw [HV.out, if_pos rfl])
  have HX16 := Lib.hid (HXN.out rfl)
  rw [HX16.out] at HR5
  obtain ⟨g5, o5, rfl, -, -⟩ := HR5.out.at_ (by omega)
  generalize hwz : wy3 = wz at HM HR5 ⊢
  clear hwz
  obtain ⟨cx, hcx⟩ : ∃ z, (xl.map u8v).toArray = z := ⟨_, rfl⟩
  have HCX := Lib.hid hcx
  clear hcx
  have ha := run_arrayAt_off (P := Tryd.prog) wz 30 g5 o5 xl.length c5 16 5 Tryd.underlying30 (Nat.le_of_eq HX16.out.symm)
  go_wp2_with (first | (refine wpList_load_obj rfl 30 (.tmp 36) rfl g5 o5 rfl (xl.map u8v) HR5.out.at_all _ Tryd.underlying30 rfl (ae_cellsT xl HX16.out) ?_; rw [HCX.out]) | (refine wpList_store_blk rfl 30 (.tmp 6) (.tmp 37) rfl (w.heap.size + 1 + 1) (xl.map u8v) rfl (by show Value.agg cx = _; rw [HCX.out]) 30 ((List.replicate 16 (0 : UInt8)).map u8v) (HM.out.blk 1 rfl) (ae_cellsT xl HX16.out) (by rw [List.length_map, List.length_map, HX16.out]; rfl) (u8v_one _) ?_; intro w9 hb9 hg9))
  exact bodyPost_ret (results_obj_tmp rfl _ _ (w.heap.size + 1 + 1) 30 (xl.map u8v) _ rfl hb9 Tryd.underlying30 rfl (ae_cellsT xl HX16.out)) rfl ⟨by rw [HVP.out]; rfl, (HM.out.put 1 rfl _ hg9 hb9).bel⟩
end Go.Proofs.YtlddafkikkaonaaDoor
namespace Go.Proofs.YtlddafkikkaonaaDoor
open Go.RowKit

set_option maxRecDepth 100000 in
theorem built_ms1 (v : Nat) (f0 f1 f2 f3 f4 : List UInt8) (h0 : f0.length = 32) (h1 : f1.length = 48) (h2 : f2.length = 28) (h3 : f3.length = 16) (h4 : f4.length = 16) : Tryd.prog.built 35 [(0, .int .u32 (v : Int)), (1, .agg (f0.map u8v).toArray), (2, .agg (f1.map u8v).toArray), (3, .agg (f2.map u8v).toArray), (4, .agg (f3.map u8v).toArray), (5, .agg (f4.map u8v).toArray)] = some (MsgM.mk [v] (f0 ++ f1 ++ f2 ++ f3 ++ f4)).cells.toArray := by
  rw [built_of 35 [1, 32, 48, 28, 16, 16] [[.int .u32 0], (List.replicate 32 (0 : UInt8)).map u8v, (List.replicate 48 (0 : UInt8)).map u8v, (List.replicate 28 (0 : UInt8)).map u8v, (List.replicate 16 (0 : UInt8)).map u8v, (List.replicate 16 (0 : UInt8)).map u8v] (by kernel_rfl) #[(0, 1), (1, 32), (33, 48), (81, 28), (109, 16), (125, 16)] (fun parts => by kernel_rfl) (fun i h => by
    match i, h with
    | 0, _ => rfl
    | 1, _ => rfl
    | 2, _ => rfl
    | 3, _ => rfl
    | 4, _ => rfl
    | 5, _ => rfl) _ (fun p hp => by
    simp only [List.mem_cons, List.not_mem_nil, or_false] at hp
    rcases hp with rfl | rfl | rfl | rfl | rfl | rfl
    · rfl
    · simp [Value.cells, h0]
    · simp [Value.cells, h1]
    · simp [Value.cells, h2]
    · simp [Value.cells, h3]
    · simp [Value.cells, h4])]
  simp [MsgM.cells, Value.cells, u32c]
theorem parts_ms1 (l : List UInt8) (h : l.length = 148) : (l.drop 8).take 32 ++ (l.drop 40).take 48 ++ (l.drop 88).take 28 ++ (l.drop 116).take 16 ++ (l.drop 132).take 16 = l.drop 8 := by
  rw [show (l.drop 132).take 16 = l.drop 132 from List.take_of_length_le (by rw [List.length_drop, h]; decide)]
  try simp only [List.append_assoc]
  rw [show l.drop 132 = l.drop (116 + 16) from rfl, cut_drop, show l.drop 116 = l.drop (88 + 28) from rfl, cut_drop, show l.drop 88 = l.drop (40 + 48) from rfl, cut_drop, show l.drop 40 = l.drop (8 + 32) from rfl, cut_drop]
set_option maxRecDepth 100000 in
theorem built_ms2 (v u : Nat) (f0 f1 f2 f3 : List UInt8) (h0 : f0.length = 32) (h1 : f1.length = 16) (h2 : f2.length = 16) (h3 : f3.length = 16) : Tryd.prog.built 37 [(0, .int .u32 (v : Int)), (1, .int .u32 (u : Int)), (2, .agg (f0.map u8v).toArray), (3, .agg (f1.map u8v).toArray), (4, .agg (f2.map u8v).toArray), (5, .agg (f3.map u8v).toArray)] = some (MsgM.mk [v, u] (f0 ++ f1 ++ f2 ++ f3)).cells.toArray := by
  rw [built_of 37 [1, 1, 32, 16, 16, 16] [[.int .u32 0], [.int .u32 0], (List.replicate 32 (0 : UInt8)).map u8v, (List.replicate 16 (0 : UInt8)).map u8v, (List.replicate 16 (0 : UInt8)).map u8v, (List.replicate 16 (0 : UInt8)).map u8v] (by kernel_rfl) #[(0, 1), (1, 1), (2, 32), (34, 16), (50, 16), (66, 16)] (fun parts => by kernel_rfl) (fun i h => by
    match i, h with
    | 0, _ => rfl
    | 1, _ => rfl
    | 2, _ => rfl
    | 3, _ => rfl
    | 4, _ => rfl
    | 5, _ => rfl) _ (fun p hp => by
    simp only [List.mem_cons, List.not_mem_nil, or_false] at hp
    rcases hp with rfl | rfl | rfl | rfl | rfl | rfl
    · rfl
    · rfl
    · simp [Value.cells, h0]
    · simp [Value.cells, h1]
    · simp [Value.cells, h2]
    · simp [Value.cells, h3])]
  simp [MsgM.cells, Value.cells, u32c]
theorem parts_ms2 (l : List UInt8) (h : l.length = 92) : (l.drop 12).take 32 ++ (l.drop 44).take 16 ++ (l.drop 60).take 16 ++ (l.drop 76).take 16 = l.drop 12 := by
  rw [show (l.drop 76).take 16 = l.drop 76 from List.take_of_length_le (by rw [List.length_drop, h]; decide)]
  try simp only [List.append_assoc]
  rw [show l.drop 76 = l.drop (60 + 16) from rfl, cut_drop, show l.drop 60 = l.drop (44 + 16) from rfl, cut_drop, show l.drop 44 = l.drop (12 + 32) from rfl, cut_drop]
end Go.Proofs.YtlddafkikkaonaaDoor
namespace Go.Proofs.YtlddafkikkaonaaDoor
open Go.RowKit

set_option maxRecDepth 100000 in
set_option maxHeartbeats 16000000 in
theorem msDecC1 : MsDecC 23 1 := by
  intro A n c l hnc hcm hn w hr
  have HKD := Lib.hid (msKindC A n c l hnc hcm hn)
  have HR := Lib.hid hr
  have hl : l.length = n := hr.1
  have hlz := MsgM.cells_length (msg0_ok 1)
  have HUZ := Lib.hid (show (Tryd.prog.info? 35).map (·.size) = some (msg0 1).cells.length from by rw [hlz]; kernel_rfl)
  have hcz0 : (msg0 1).cells.toArray = zc1 := by kernel_rfl
  obtain ⟨cz, hcz⟩ : ∃ z, (msg0 1).cells.toArray = z := ⟨_, rfl⟩
  have HBZ := Lib.hid (show Tryd.prog.built 35 [] = some cz from by rw [← hcz]; kernel_rfl)
  have HCZ := Lib.hid hcz
  have HM := Lib.hid (show Mem w [blkE w.heap.size 35 (msg0 1).cells] (w.alloc (.cells zc1 35)) from (Mem.nil w).alloc rfl 35 zc1 (msg0 1).cells (by kernel_rfl))
  obtain ⟨q, hq⟩ : ∃ q, kindB l = q := ⟨_, rfl⟩
  rw [hq] at HKD
  clear hr hlz hcz hcz0
  go_enter Tryd.func23, Tryd.ntmps23
  go_upto_region 1 with fail
  generalize w.alloc (.cells zc1 35) = w1 at HM ⊢
  go_wp2_with fail
  refine (HKD.out _ (HM.out.arg HR.out)).mono ?_
  rintro e w2 ⟨rfl, hb⟩
  replace HM := Lib.hid (HM.out.below hb)
  clear hb
  by_cases hk : q = 1
  case neg =>
    have ek : ((q : Int) != 1) = true := by rw [bne_iff_ne]; omega
    have HE := Lib.hid (show decB 1 l = (msg0 1, 4) from by rw [decB, if_neg (by rw [hq]; exact hk)])
    clear hq hk hl hnc hcm hn
    go_wp2_with (first | (refine wpList_build_as rfl 35 [] rfl cz ?_ ?_; exact HBZ.out) | (refine wpList_store_blk rfl 35 (.tmp 2) (.tmp 7) rfl w.heap.size (msg0 1).cells rfl (by show Value.agg cz = _; rw [HCZ.out]) 35 (msg0 1).cells (HM.out.blk 0 rfl) HUZ.out rfl (MsgM.one _) ?_; intro w9 hb9 hg9))
    exact bodyPost_ret (results_obj_tmp rfl _ _ w.heap.size 35 (msg0 1).cells _ rfl hb9 Tryd.underlying35 rfl HUZ.out) rfl ⟨by rw [HE.out]; rfl, (HM.out.put 0 rfl _ hg9 hb9).bel⟩
  subst hk
  have hll := kindB_len (k := 1) (by omega) hq
  have hn2 : n = 148 := by rw [← hl, hll]; rfl
  subst hn2
  obtain ⟨b, off, rfl, -, -⟩ := HR.out.at_ (by omega)
  have HS4 := Lib.hid (fun W => slice_lhm (some ⟨b, off, none⟩) 148 c 4 8 8 (by omega) (by omega) (by omega) W)
  rw [addrOf_lt b off 4 8 (by omega), show 8 - 4 = 4 from rfl] at HS4
  have HS8 := Lib.hid (fun W => slice_lhm (some ⟨b, off, none⟩) 148 c 8 40 40 (by omega) (by omega) (by omega) W)
  rw [addrOf_lt b off 8 40 (by omega), show 40 - 8 = 32 from rfl] at HS8
  have HS40 := Lib.hid (fun W => slice_lhm (some ⟨b, off, none⟩) 148 c 40 88 88 (by omega) (by omega) (by omega) W)
  rw [addrOf_lt b off 40 88 (by omega), show 88 - 40 = 48 from rfl] at HS40
  have HS88 := Lib.hid (fun W => slice_lhm (some ⟨b, off, none⟩) 148 c 88 116 116 (by omega) (by omega) (by omega) W)
  rw [addrOf_lt b off 88 116 (by omega), show 116 - 88 = 28 from rfl] at HS88
  have HS116 := Lib.hid (fun W => slice_lhm (some ⟨b, off, none⟩) 148 c 116 132 132 (by omega) (by omega) (by omega) W)
  rw [addrOf_lt b off 116 132 (by omega), show 132 - 116 = 16 from rfl] at HS116
  have HS132 := Lib.hid (fun W => slice_lhm (some ⟨b, off, none⟩) 148 c 132 148 148 (by omega) (by omega) (by omega) W)
  rw [addrOf_lt b off 132 148 (by omega), show 148 - 132 = 16 from rfl] at HS132
  have HN0 := Lib.hid (fun W (h : Rd W W.heap.size (some ⟨b, off, none⟩) 148 l) => pReadIndex_any (some ⟨b, off + 4, none⟩) 4 ((l.drop 4).take 4) W ((h.drop 4 b off rfl (by omega)).take (by omega)))
  obtain ⟨v, hv⟩ : ∃ z, numL ((l.drop 4).take 4) = z := ⟨_, rfl⟩
  rw [hv] at HN0
  have HA0 := Lib.hid (fun W (h : Rd W W.heap.size (some ⟨b, off, none⟩) 148 l) => h.at_obj 8 32)
  obtain ⟨f0, hf0⟩ : ∃ z, (l.drop 8).take 32 = z := ⟨_, rfl⟩
  have hz0 : f0.length = 32 := by rw [← hf0, List.length_take, List.length_drop, hl]; rfl
  have HZ0 := Lib.hid hz0
  rw [hf0] at HA0
  have HA1 := Lib.hid (fun W (h : Rd W W.heap.size (some ⟨b, off, none⟩) 148 l) => h.at_obj 40 48)
  obtain ⟨f1, hf1⟩ : ∃ z, (l.drop 40).take 48 = z := ⟨_, rfl⟩
  have hz1 : f1.length = 48 := by rw [← hf1, List.length_take, List.length_drop, hl]; rfl
  have HZ1 := Lib.hid hz1
  rw [hf1] at HA1
  have HA2 := Lib.hid (fun W (h : Rd W W.heap.size (some ⟨b, off, none⟩) 148 l) => h.at_obj 88 28)
  obtain ⟨f2, hf2⟩ : ∃ z, (l.drop 88).take 28 = z := ⟨_, rfl⟩
  have hz2 : f2.length = 28 := by rw [← hf2, List.length_take, List.length_drop, hl]; rfl
  have HZ2 := Lib.hid hz2
  rw [hf2] at HA2
  have HA3 := Lib.hid (fun W (h : Rd W W.heap.size (some ⟨b, off, none⟩) 148 l) => h.at_obj 116 16)
  obtain ⟨f3, hf3⟩ : ∃ z, (l.drop 116).take 16 = z := ⟨_, rfl⟩
  have hz3 : f3.length = 16 := by rw [← hf3, List.length_take, List.length_drop, hl]; rfl
  have HZ3 := Lib.hid hz3
  rw [hf3] at HA3
  have HA4 := Lib.hid (fun W (h : Rd W W.heap.size (some ⟨b, off, none⟩) 148 l) => h.at_obj 132 16)
  obtain ⟨f4, hf4⟩ : ∃ z, (l.drop 132).take 16 = z := ⟨_, rfl⟩
  have hz4 : f4.length = 16 := by rw [← hf4, List.length_take, List.length_drop, hl]; rfl
  have HZ4 := Lib.hid hz4
  rw [hf4] at HA4
  have hpm := parts_ms1 l hl
  rw [hf0, hf1, hf2, hf3, hf4] at hpm
  have hmo : msOf 1 l = MsgM.mk [v] (f0 ++ f1 ++ f2 ++ f3 ++ f4) := by
    show MsgM.mk [numL ((l.drop 4).take 4)] (l.drop 8) = _
    rw [hv, hpm]
  have HE := Lib.hid (show decB 1 l = (MsgM.mk [v] (f0 ++ f1 ++ f2 ++ f3 ++ f4), 0) from by rw [decB, if_pos hq, hmo])
  have hok := msOf_ok hll
  rw [hmo] at hok
  have hco := MsgM.cells_length hok
  have HUO := Lib.hid (show (Tryd.prog.info? 35).map (·.size) = some (MsgM.mk [v] (f0 ++ f1 ++ f2 ++ f3 ++ f4)).cells.length from by rw [hco]; kernel_rfl)
  have HLO := Lib.hid (show (msg0 1).cells.length = (MsgM.mk [v] (f0 ++ f1 ++ f2 ++ f3 ++ f4)).cells.length from by rw [hco, MsgM.cells_length (msg0_ok 1)])
  have HBT := Lib.hid (built_ms1 v f0 f1 f2 f3 f4 hz0 hz1 hz2 hz3 hz4)
  clear hmo hok hco hpm hll hq HKD hl hn hnc hv hf0 hz0 hf1 hz1 hf2 hz2 hf3 hz3 hf4 hz4
  go_upto_region 3 with fail
  refine wp_region_held_drew (S := fun W' => Mem w [] W') (by kernel_rfl) (((HM.out.erase 0)).drew) (fun hHeld => ?_)
  replace HM := Lib.hid HM.out.drew
  generalize w2.drew = wd1 at HM hHeld ⊢
  refine take_first (v := ?_) 0 rfl (by kernel_rfl) (by kernel_rfl) (by kernel_rfl) (fun _ _ _ h => h) (Or.inl ⟨by rfl, ?_⟩) (by assumption) ?_
  rotate_left
  · (intro w hSw; (try dsimp only at hSw); go_simp; try with_reducible rfl)
  (try simp only [Act.put, List.setIfInBounds_toArray, List.set_cons_zero, List.set_cons_succ])
  refine take_first (v := ?_) 1 rfl (by kernel_rfl) (by kernel_rfl) (by kernel_rfl) (fun _ _ _ h => h) (Or.inl ⟨by rfl, ?_⟩) (by assumption) ?_
  rotate_left
  · (intro w hSw; (try dsimp only at hSw); have hs := HS4.out w; rw [show ((4 : Nat) : Int) = 4 from rfl, show ((8 : Nat) : Int) = 8 from rfl] at hs; go_simp; try with_reducible rfl)
  (try simp only [Act.put, List.setIfInBounds_toArray, List.set_cons_zero, List.set_cons_succ])
  refine take_first (v := ?_) 3 rfl (by kernel_rfl) (by kernel_rfl) (by kernel_rfl) (fun _ _ _ h => h) (Or.inl ⟨by rfl, ?_⟩) (by assumption) ?_
  rotate_left
  · (intro w hSw; (try dsimp only at hSw); go_simp; try with_reducible rfl)
  (try simp only [Act.put, List.setIfInBounds_toArray, List.set_cons_zero, List.set_cons_succ])
  refine take_first (v := ?_) 4 rfl (by kernel_rfl) (by kernel_rfl) (by kernel_rfl) (fun _ _ _ h => h) (Or.inl ⟨by rfl, ?_⟩) (by assumption) ?_
  rotate_left
  · (intro w hSw; (try dsimp only at hSw); have hs := HS8.out w; rw [show ((8 : Nat) : Int) = 8 from rfl, show ((40 : Nat) : Int) = 40 from rfl] at hs; go_simp; try with_reducible rfl)
  (try simp only [Act.put, List.setIfInBounds_toArray, List.set_cons_zero, List.set_cons_succ])
  refine take_first (v := ?_) 5 rfl (by kernel_rfl) (by kernel_rfl) (by kernel_rfl) (fun _ _ _ h => h) (Or.inl ⟨by rfl, ?_⟩) (by assumption) ?_
  rotate_left
  · (intro w hSw; (try dsimp only at hSw); have ha := run_arrayAt_off (P := Tryd.prog) w 23 b (off + 8) 32 32 32 5 Tryd.underlying23 (Nat.le_refl _); go_simp; try with_reducible rfl)
  (try simp only [Act.put, List.setIfInBounds_toArray, List.set_cons_zero, List.set_cons_succ])
  refine take_first (v := .agg (f0.map u8v).toArray) 6 rfl (by kernel_rfl) (by kernel_rfl) (by kernel_rfl) (fun _ _ _ h => h) (yields_load_obj (by rfl) 23 (.tmp 13) rfl b (off + 8) rfl (f0.map u8v) (fun W' h => HA0.out W' (h.arg HR.out)) _ Tryd.underlying23 rfl (by rw [List.length_map, HZ0.out]; kernel_rfl)) (by assumption) ?_
  (try simp only [Act.put, List.setIfInBounds_toArray, List.set_cons_zero, List.set_cons_succ])
  refine take_first (v := ?_) 7 rfl (by kernel_rfl) (by kernel_rfl) (by kernel_rfl) (fun _ _ _ h => h) (Or.inl ⟨by rfl, ?_⟩) (by assumption) ?_
  rotate_left
  · (intro w hSw; (try dsimp only at hSw); go_simp; try with_reducible rfl)
  (try simp only [Act.put, List.setIfInBounds_toArray, List.set_cons_zero, List.set_cons_succ])
  refine take_first (v := ?_) 8 rfl (by kernel_rfl) (by kernel_rfl) (by kernel_rfl) (fun _ _ _ h => h) (Or.inl ⟨by rfl, ?_⟩) (by assumption) ?_
  rotate_left
  · (intro w hSw; (try dsimp only at hSw); have hs := HS40.out w; rw [show ((40 : Nat) : Int) = 40 from rfl, show ((88 : Nat) : Int) = 88 from rfl] at hs; go_simp; try with_reducible rfl)
  (try simp only [Act.put, List.setIfInBounds_toArray, List.set_cons_zero, List.set_cons_succ])
  refine take_first (v := ?_) 9 rfl (by kernel_rfl) (by kernel_rfl) (by kernel_rfl) (fun _ _ _ h => h) (Or.inl ⟨by rfl, ?_⟩) (by assumption) ?_
  rotate_left
  · (intro w hSw; (try dsimp only at hSw); have ha := run_arrayAt_off (P := Tryd.prog) w 32 b (off + 40) 48 48 48 5 Tryd.underlying32 (Nat.le_refl _); go_simp; try with_reducible rfl)
  (try simp only [Act.put, List.setIfInBounds_toArray, List.set_cons_zero, List.set_cons_succ])
  refine take_first (v := .agg (f1.map u8v).toArray) 10 rfl (by kernel_rfl) (by kernel_rfl) (by kernel_rfl) (fun _ _ _ h => h) (yields_load_obj (by rfl) 32 (.tmp 17) rfl b (off + 40) rfl (f1.map u8v) (fun W' h => HA1.out W' (h.arg HR.out)) _ Tryd.underlying32 rfl (by rw [List.length_map, HZ1.out]; kernel_rfl)) (by assumption) ?_
  (try simp only [Act.put, List.setIfInBounds_toArray, List.set_cons_zero, List.set_cons_succ])
  refine take_first (v := ?_) 11 rfl (by kernel_rfl) (by kernel_rfl) (by kernel_rfl) (fun _ _ _ h => h) (Or.inl ⟨by rfl, ?_⟩) (by assumption) ?_
  rotate_left
  · (intro w hSw; (try dsimp only at hSw); go_simp; try with_reducible rfl)
  (try simp only [Act.put, List.setIfInBounds_toArray, List.set_cons_zero, List.set_cons_succ])
  refine take_first (v := ?_) 12 rfl (by kernel_rfl) (by kernel_rfl) (by kernel_rfl) (fun _ _ _ h => h) (Or.inl ⟨by rfl, ?_⟩) (by assumption) ?_
  rotate_left
  · (intro w hSw; (try dsimp only at hSw); have hs := HS88.out w; rw [show ((88 : Nat) : Int) = 88 from rfl, show ((116 : Nat) : Int) = 116 from rfl] at hs; go_simp; try with_reducible rfl)
  (try simp only [Act.put, List.setIfInBounds_toArray, List.set_cons_zero, List.set_cons_succ])
  refine take_first (v := ?_) 13 rfl (by kernel_rfl) (by kernel_rfl) (by kernel_rfl) (fun _ _ _ h => h) (Or.inl ⟨by rfl, ?_⟩) (by assumption) ?_
  rotate_left
  · (intro w hSw; (try dsimp only at hSw); have ha := run_arrayAt_off (P := Tryd.prog) w 33 b (off + 88) 28 28 28 5 Tryd.underlying33 (Nat.le_refl _); go_simp; try with_reducible rfl)
  (try simp only [Act.put, List.setIfInBounds_toArray, List.set_cons_zero, List.set_cons_succ])
  refine take_first (v := .agg (f2.map u8v).toArray) 14 rfl (by kernel_rfl) (by kernel_rfl) (by kernel_rfl) (fun _ _ _ h => h) (yields_load_obj (by rfl) 33 (.tmp 21) rfl b (off + 88) rfl (f2.map u8v) (fun W' h => HA2.out W' (h.arg HR.out)) _ Tryd.underlying33 rfl (by rw [List.length_map, HZ2.out]; kernel_rfl)) (by assumption) ?_
  (try simp only [Act.put, List.setIfInBounds_toArray, List.set_cons_zero, List.set_cons_succ])
  refine take_first (v := ?_) 15 rfl (by kernel_rfl) (by kernel_rfl) (by kernel_rfl) (fun _ _ _ h => h) (Or.inl ⟨by rfl, ?_⟩) (by assumption) ?_
  rotate_left
  · (intro w hSw; (try dsimp only at hSw); go_simp; try with_reducible rfl)
  (try simp only [Act.put, List.setIfInBounds_toArray, List.set_cons_zero, List.set_cons_succ])
  refine take_first (v := ?_) 16 rfl (by kernel_rfl) (by kernel_rfl) (by kernel_rfl) (fun _ _ _ h => h) (Or.inl ⟨by rfl, ?_⟩) (by assumption) ?_
  rotate_left
  · (intro w hSw; (try dsimp only at hSw); have hs := HS116.out w; rw [show ((116 : Nat) : Int) = 116 from rfl, show ((132 : Nat) : Int) = 132 from rfl] at hs; go_simp; try with_reducible rfl)
  (try simp only [Act.put, List.setIfInBounds_toArray, List.set_cons_zero, List.set_cons_succ])
  refine take_first (v := ?_) 17 rfl (by kernel_rfl) (by kernel_rfl) (by kernel_rfl) (fun _ _ _ h => h) (Or.inl ⟨by rfl, ?_⟩) (by assumption) ?_
  rotate_left
  · (intro w hSw; (try dsimp only at hSw); have ha := run_arrayAt_off (P := Tryd.prog) w 30 b (off + 116) 16 16 16 5 Tryd.underlying30 (Nat.le_refl _); go_simp; try with_reducible rfl)
  (try simp only [Act.put, List.setIfInBounds_toArray, List.set_cons_zero, List.set_cons_succ])
  refine take_first (v := .agg (f3.map u8v).toArray) 18 rfl (by kernel_rfl) (by kernel_rfl) (by kernel_rfl) (fun _ _ _ h => h) (yields_load_obj (by rfl) 30 (.tmp 25) rfl b (off + 116) rfl (f3.map u8v) (fun W' h => HA3.out W' (h.arg HR.out)) _ Tryd.underlying30 rfl (by rw [List.length_map, HZ3.out]; kernel_rfl)) (by assumption) ?_
  (try simp only [Act.put, List.setIfInBounds_toArray, List.set_cons_zero, List.set_cons_succ])
  refine take_first (v := ?_) 19 rfl (by kernel_rfl) (by kernel_rfl) (by kernel_rfl) (fun _ _ _ h => h) (Or.inl ⟨by rfl, ?_⟩) (by assumption) ?_
  rotate_left
  · (intro w hSw; (try dsimp only at hSw); go_simp; try with_reducible rfl)
  (try simp only [Act.put, List.setIfInBounds_toArray, List.set_cons_zero, List.set_cons_succ])
  refine take_first (v := ?_) 20 rfl (by kernel_rfl) (by kernel_rfl) (by kernel_rfl) (fun _ _ _ h => h) (Or.inl ⟨by rfl, ?_⟩) (by assumption) ?_
  rotate_left
  · (intro w hSw; (try dsimp only at hSw); have hs := HS132.out w; rw [show ((132 : Nat) : Int) = 132 from rfl, show ((148 : Nat) : Int) = 148 from rfl] at hs; go_simp; try with_reducible rfl)
  (try simp only [Act.put, List.setIfInBounds_toArray, List.set_cons_zero, List.set_cons_succ])
  refine take_first (v := ?_) 21 rfl (by kernel_rfl) (by kernel_rfl) (by kernel_rfl) (fun _ _ _ h => h) (Or.inl ⟨by rfl, ?_⟩) (by assumption) ?_
  rotate_left
  · (intro w hSw; (try dsimp only at hSw); have ha := run_arrayAt_off (P := Tryd.prog) w 30 b (off + 132) 16 16 16 5 Tryd.underlying30 (Nat.le_refl _); go_simp; try with_reducible rfl)
  (try simp only [Act.put, List.setIfInBounds_toArray, List.set_cons_zero, List.set_cons_succ])
  refine take_first (v := .agg (f4.map u8v).toArray) 22 rfl (by kernel_rfl) (by kernel_rfl) (by kernel_rfl) (fun _ _ _ h => h) (yields_load_obj (by rfl) 30 (.tmp 29) rfl b (off + 132) rfl (f4.map u8v) (fun W' h => HA4.out W' (h.arg HR.out)) _ Tryd.underlying30 rfl (by rw [List.length_map, HZ4.out]; kernel_rfl)) (by assumption) ?_
  (try simp only [Act.put, List.setIfInBounds_toArray, List.set_cons_zero, List.set_cons_succ])
  refine step_one 2 rfl (by kernel_rfl) (fun K hK => ?_)
  clear hHeld
  go_simp
  refine (HN0.out _ (HM.out.arg HR.out)).mono ?_
  rintro e wy ⟨rfl, rfl⟩
  go_wp2_with fail
  refine hK.out _ _ ((HM.out.erase 0)) (fun hHeld => ?_)
  clear hK K
  (try simp only [Act.put, List.setIfInBounds_toArray, List.set_cons_zero, List.set_cons_succ])
  refine take_first (v := .agg (MsgM.mk [v] (f0 ++ f1 ++ f2 ++ f3 ++ f4)).cells.toArray) 23 rfl (by kernel_rfl) (by kernel_rfl) (by kernel_rfl) (fun _ _ _ h => h) (yields_build_obj (by rfl) 35 [(0, .tmp 10), (1, .tmp 14), (2, .tmp 18), (3, .tmp 22), (4, .tmp 26), (5, .tmp 30)] rfl (MsgM.mk [v] (f0 ++ f1 ++ f2 ++ f3 ++ f4)).cells.toArray HBT.out) (by assumption) ?_
  (try simp only [Act.put, List.setIfInBounds_toArray, List.set_cons_zero, List.set_cons_succ])
  refine step_one 24 rfl (by kernel_rfl) (fun K hK => ?_)
  clear hHeld
  refine step_store_blk _ rfl 35 (.tmp 2) (.tmp 31) rfl w.heap.size (MsgM.mk [v] (f0 ++ f1 ++ f2 ++ f3 ++ f4)).cells rfl (by rfl) 35 (msg0 1).cells (HM.out.blk 0 rfl) HUO.out HLO.out (MsgM.one _) ?_
  intro wy2 hb hg
  replace HM := Lib.hid (show Mem w [blkE w.heap.size 35 (MsgM.mk [v] (f0 ++ f1 ++ f2 ++ f3 ++ f4)).cells] wy2 from HM.out.put 0 rfl _ hg hb)
  clear hb hg
  refine hK.out _ _ ((HM.out.erase 0)) (fun hHeld => ?_)
  clear hK K
  (try simp only [Act.put])
  refine take_first (v := ?_) 25 rfl (by kernel_rfl) (by kernel_rfl) (by kernel_rfl) (fun _ _ _ h => h) (Or.inl ⟨by rfl, ?_⟩) (by assumption) ?_
  rotate_left
  · (intro w hSw; (try dsimp only at hSw); go_simp; try with_reducible rfl)
  (try simp only [Act.put, List.setIfInBounds_toArray, List.set_cons_zero, List.set_cons_succ])
  refine wpAnyH_done (by kernel_rfl) ?_ _
  clear hHeld
  have HF := Lib.hid HM.out
  clear HM
  go_wp2_with fail
  exact bodyPost_ret (results_obj_tmp rfl _ _ w.heap.size 35 (MsgM.mk [v] (f0 ++ f1 ++ f2 ++ f3 ++ f4)).cells _ rfl (HF.out.blk 0 rfl) Tryd.underlying35 rfl HUO.out) rfl ⟨by rw [HE.out]; rfl, HF.out.bel⟩

set_option maxRecDepth 100000 in
set_option maxHeartbeats 16000000 in
theorem msDecC2 : MsDecC 24 2 := by
  intro A n c l hnc hcm hn w hr
  have HKD := Lib.hid (msKindC A n c l hnc hcm hn)
  have HR := Lib.hid hr
  have hl : l.length = n := hr.1
  have hlz := MsgM.cells_length (msg0_ok 2)
  have HUZ := Lib.hid (show (Tryd.prog.info? 37).map (·.size) = some (msg0 2).cells.length from by rw [hlz]; kernel_rfl)
  have hcz0 : (msg0 2).cells.toArray = zc2 := by kernel_rfl
  obtain ⟨cz, hcz⟩ : ∃ z, (msg0 2).cells.toArray = z := ⟨_, rfl⟩
  have HBZ := Lib.hid (show Tryd.prog.built 37 [] = some cz from by rw [← hcz]; kernel_rfl)
  have HCZ := Lib.hid hcz
  have HM := Lib.hid (show Mem w [blkE w.heap.size 37 (msg0 2).cells] (w.alloc (.cells zc2 37)) from (Mem.nil w).alloc rfl 37 zc2 (msg0 2).cells (by kernel_rfl))
  obtain ⟨q, hq⟩ : ∃ q, kindB l = q := ⟨_, rfl⟩
  rw [hq] at HKD
  clear hr hlz hcz hcz0
  go_enter Tryd.func24, Tryd.ntmps24
  go_upto_region 1 with fail
  generalize w.alloc (.cells zc2 37) = w1 at HM ⊢
  go_wp2_with fail
  refine (HKD.out _ (HM.out.arg HR.out)).mono ?_
  rintro e w2 ⟨rfl, hb⟩
  replace HM := Lib.hid (HM.out.below hb)
  clear hb
  by_cases hk : q = 2
  case neg =>
    have ek : ((q : Int) != 2) = true := by rw [bne_iff_ne]; omega
    have HE := Lib.hid (show decB 2 l = (msg0 2, 4) from by rw [decB, if_neg (by rw [hq]; exact hk)])
    clear hq hk hl hnc hcm hn
    go_wp2_with (first | (refine wpList_build_as rfl 37 [] rfl cz ?_ ?_; exact HBZ.out) | (refine wpList_store_blk rfl 37 (.tmp 2) (.tmp 7) rfl w.heap.size (msg0 2).cells rfl (by show Value.agg cz = _; rw [HCZ.out]) 37 (msg0 2).cells (HM.out.blk 0 rfl) HUZ.out rfl (MsgM.one _) ?_; intro w9 hb9 hg9))
    exact bodyPost_ret (results_obj_tmp rfl _ _ w.heap.size 37 (msg0 2).cells _ rfl hb9 Tryd.underlying37 rfl HUZ.out) rfl ⟨by rw [HE.out]; rfl, (HM.out.put 0 rfl _ hg9 hb9).bel⟩
  subst hk
  have hll := kindB_len (k := 2) (by omega) hq
  have hn2 : n = 92 := by rw [← hl, hll]; rfl
  subst hn2
  obtain ⟨b, off, rfl, -, -⟩ := HR.out.at_ (by omega)
  have HS4 := Lib.hid (fun W => slice_lhm (some ⟨b, off, none⟩) 92 c 4 8 8 (by omega) (by omega) (by omega) W)
  rw [addrOf_lt b off 4 8 (by omega), show 8 - 4 = 4 from rfl] at HS4
  have HS8 := Lib.hid (fun W => slice_lhm (some ⟨b, off, none⟩) 92 c 8 12 12 (by omega) (by omega) (by omega) W)
  rw [addrOf_lt b off 8 12 (by omega), show 12 - 8 = 4 from rfl] at HS8
  have HS12 := Lib.hid (fun W => slice_lhm (some ⟨b, off, none⟩) 92 c 12 44 44 (by omega) (by omega) (by omega) W)
  rw [addrOf_lt b off 12 44 (by omega), show 44 - 12 = 32 from rfl] at HS12
  have HS44 := Lib.hid (fun W => slice_lhm (some ⟨b, off, none⟩) 92 c 44 60 60 (by omega) (by omega) (by omega) W)
  rw [addrOf_lt b off 44 60 (by omega), show 60 - 44 = 16 from rfl] at HS44
  have HS60 := Lib.hid (fun W => slice_lhm (some ⟨b, off, none⟩) 92 c 60 76 76 (by omega) (by omega) (by omega) W)
  rw [addrOf_lt b off 60 76 (by omega), show 76 - 60 = 16 from rfl] at HS60
  have HS76 := Lib.hid (fun W => slice_lhm (some ⟨b, off, none⟩) 92 c 76 92 92 (by omega) (by omega) (by omega) W)
  rw [addrOf_lt b off 76 92 (by omega), show 92 - 76 = 16 from rfl] at HS76
  have HN0 := Lib.hid (fun W (h : Rd W W.heap.size (some ⟨b, off, none⟩) 92 l) => pReadIndex_any (some ⟨b, off + 4, none⟩) 4 ((l.drop 4).take 4) W ((h.drop 4 b off rfl (by omega)).take (by omega)))
  obtain ⟨v, hv⟩ : ∃ z, numL ((l.drop 4).take 4) = z := ⟨_, rfl⟩
  rw [hv] at HN0
  have HN1 := Lib.hid (fun W (h : Rd W W.heap.size (some ⟨b, off, none⟩) 92 l) => pReadIndex_any (some ⟨b, off + 8, none⟩) 4 ((l.drop 8).take 4) W ((h.drop 8 b off rfl (by omega)).take (by omega)))
  obtain ⟨u, hu⟩ : ∃ z, numL ((l.drop 8).take 4) = z := ⟨_, rfl⟩
  rw [hu] at HN1
  have HA0 := Lib.hid (fun W (h : Rd W W.heap.size (some ⟨b, off, none⟩) 92 l) => h.at_obj 12 32)
  obtain ⟨f0, hf0⟩ : ∃ z, (l.drop 12).take 32 = z := ⟨_, rfl⟩
  have hz0 : f0.length = 32 := by rw [← hf0, List.length_take, List.length_drop, hl]; rfl
  have HZ0 := Lib.hid hz0
  rw [hf0] at HA0
  have HA1 := Lib.hid (fun W (h : Rd W W.heap.size (some ⟨b, off, none⟩) 92 l) => h.at_obj 44 16)
  obtain ⟨f1, hf1⟩ : ∃ z, (l.drop 44).take 16 = z := ⟨_, rfl⟩
  have hz1 : f1.length = 16 := by rw [← hf1, List.length_take, List.length_drop, hl]; rfl
  have HZ1 := Lib.hid hz1
  rw [hf1] at HA1
  have HA2 := Lib.hid (fun W (h : Rd W W.heap.size (some ⟨b, off, none⟩) 92 l) => h.at_obj 60 16)
  obtain ⟨f2, hf2⟩ : ∃ z, (l.drop 60).take 16 = z := ⟨_, rfl⟩
  have hz2 : f2.length = 16 := by rw [← hf2, List.length_take, List.length_drop, hl]; rfl
  have HZ2 := Lib.hid hz2
  rw [hf2] at HA2
  have HA3 := Lib.hid (fun W (h : Rd W W.heap.size (some ⟨b, off, none⟩) 92 l) => h.at_obj 76 16)
  obtain ⟨f3, hf3⟩ : ∃ z, (l.drop 76).take 16 = z := ⟨_, rfl⟩
  have hz3 : f3.length = 16 := by rw [← hf3, List.length_take, List.length_drop, hl]; rfl
  have HZ3 := Lib.hid hz3
  rw [hf3] at HA3
  have hpm := parts_ms2 l hl
  rw [hf0, hf1, hf2, hf3] at hpm
  have hmo : msOf 2 l = MsgM.mk [v, u] (f0 ++ f1 ++ f2 ++ f3) := by
    show MsgM.mk [numL ((l.drop 4).take 4), numL ((l.drop 8).take 4)] (l.drop 12) = _
    rw [hv, hu, hpm]
  have HE := Lib.hid (show decB 2 l = (MsgM.mk [v, u] (f0 ++ f1 ++ f2 ++ f3), 0) from by rw [decB, if_pos hq, hmo])
  have hok := msOf_ok hll
  rw [hmo] at hok
  have hco := MsgM.cells_length hok
  have HUO := Lib.hid (show (Tryd.prog.info? 37).map (·.size) = some (MsgM.mk [v, u] (f0 ++ f1 ++ f2 ++ f3)).cells.length from by rw [hco]; kernel_rfl)
  have HLO := Lib.hid (show (msg0 2).cells.length = (MsgM.mk [v, u] (f0 ++ f1 ++ f2 ++ f3)).cells.length from by rw [hco, MsgM.cells_length (msg0_ok 2)])
  have HBT := Lib.hid (built_ms2 v u f0 f1 f2 f3 hz0 hz1 hz2 hz3)
  clear hmo hok hco hpm hll hq HKD hl hn hnc hv hu hf0 hz0 hf1 hz1 hf2 hz2 hf3 hz3
  go_upto_region 3 with fail
  refine wp_region_held_drew (S := fun W' => Mem w [] W') (by kernel_rfl) (((HM.out.erase 0)).drew) (fun hHeld => ?_)
  replace HM := Lib.hid HM.out.drew
  generalize w2.drew = wd1 at HM hHeld ⊢
  refine take_first (v := ?_) 0 rfl (by kernel_rfl) (by kernel_rfl) (by kernel_rfl) (fun _ _ _ h => h) (Or.inl ⟨by rfl, ?_⟩) (by assumption) ?_
  rotate_left
  · (intro w hSw; (try dsimp only at hSw); go_simp; try with_reducible rfl)
  (try simp only [Act.put, List.setIfInBounds_toArray, List.set_cons_zero, List.set_cons_succ])
  refine take_first (v := ?_) 1 rfl (by kernel_rfl) (by kernel_rfl) (by kernel_rfl) (fun _ _ _ h => h) (Or.inl ⟨by rfl, ?_⟩) (by assumption) ?_
  rotate_left
  · (intro w hSw; (try dsimp only at hSw); have hs := HS4.out w; rw [show ((4 : Nat) : Int) = 4 from rfl, show ((8 : Nat) : Int) = 8 from rfl] at hs; go_simp; try with_reducible rfl)
  (try simp only [Act.put, List.setIfInBounds_toArray, List.set_cons_zero, List.set_cons_succ])
  refine take_first (v := ?_) 3 rfl (by kernel_rfl) (by kernel_rfl) (by kernel_rfl) (fun _ _ _ h => h) (Or.inl ⟨by rfl, ?_⟩) (by assumption) ?_
  rotate_left
  · (intro w hSw; (try dsimp only at hSw); go_simp; try with_reducible rfl)
  (try simp only [Act.put, List.setIfInBounds_toArray, List.set_cons_zero, List.set_cons_succ])
  refine take_first (v := ?_) 4 rfl (by kernel_rfl) (by kernel_rfl) (by kernel_rfl) (fun _ _ _ h => h) (Or.inl ⟨by rfl, ?_⟩) (by assumption) ?_
  rotate_left
  · (intro w hSw; (try dsimp only at hSw); have hs := HS8.out w; rw [show ((8 : Nat) : Int) = 8 from rfl, show ((12 : Nat) : Int) = 12 from rfl] at hs; go_simp; try with_reducible rfl)
  (try simp only [Act.put, List.setIfInBounds_toArray, List.set_cons_zero, List.set_cons_succ])
  refine take_first (v := ?_) 6 rfl (by kernel_rfl) (by kernel_rfl) (by kernel_rfl) (fun _ _ _ h => h) (Or.inl ⟨by rfl, ?_⟩) (by assumption) ?_
  rotate_left
  · (intro w hSw; (try dsimp only at hSw); go_simp; try with_reducible rfl)
  (try simp only [Act.put, List.setIfInBounds_toArray, List.set_cons_zero, List.set_cons_succ])
  refine take_first (v := ?_) 7 rfl (by kernel_rfl) (by kernel_rfl) (by kernel_rfl) (fun _ _ _ h => h) (Or.inl ⟨by rfl, ?_⟩) (by assumption) ?_
  rotate_left
  · (intro w hSw; (try dsimp only at hSw); have hs := HS12.out w; rw [show ((12 : Nat) : Int) = 12 from rfl, show ((44 : Nat) : Int) = 44 from rfl] at hs; go_simp; try with_reducible rfl)
  (try simp only [Act.put, List.setIfInBounds_toArray, List.set_cons_zero, List.set_cons_succ])
  refine take_first (v := ?_) 8 rfl (by kernel_rfl) (by kernel_rfl) (by kernel_rfl) (fun _ _ _ h => h) (Or.inl ⟨by rfl, ?_⟩) (by assumption) ?_
  rotate_left
  · (intro w hSw; (try dsimp only at hSw); have ha := run_arrayAt_off (P := Tryd.prog) w 23 b (off + 12) 32 32 32 5 Tryd.underlying23 (Nat.le_refl _); go_simp; try with_reducible rfl)
  (try simp only [Act.put, List.setIfInBounds_toArray, List.set_cons_zero, List.set_cons_succ])
  refine take_first (v := .agg (f0.map u8v).toArray) 9 rfl (by kernel_rfl) (by kernel_rfl) (by kernel_rfl) (fun _ _ _ h => h) (yields_load_obj (by rfl) 23 (.tmp 16) rfl b (off + 12) rfl (f0.map u8v) (fun W' h => HA0.out W' (h.arg HR.out)) _ Tryd.underlying23 rfl (by rw [List.length_map, HZ0.out]; kernel_rfl)) (by assumption) ?_
  (try simp only [Act.put, List.setIfInBounds_toArray, List.set_cons_zero, List.set_cons_succ])
  refine take_first (v := ?_) 10 rfl (by kernel_rfl) (by kernel_rfl) (by kernel_rfl) (fun _ _ _ h => h) (Or.inl ⟨by rfl, ?_⟩) (by assumption) ?_
  rotate_left
  · (intro w hSw; (try dsimp only at hSw); go_simp; try with_reducible rfl)
  (try simp only [Act.put, List.setIfInBounds_toArray, List.set_cons_zero, List.set_cons_succ])
  refine take_first (v := ?_) 11 rfl (by kernel_rfl) (by kernel_rfl) (by kernel_rfl) (fun _ _ _ h => h) (Or.inl ⟨by rfl, ?_⟩) (by assumption) ?_
  rotate_left
  · (intro w hSw; (try dsimp only at hSw); have hs := HS44.out w; rw [show ((44 : Nat) : Int) = 44 from rfl, show ((60 : Nat) : Int) = 60 from rfl] at hs; go_simp; try with_reducible rfl)
  (try simp only [Act.put, List.setIfInBounds_toArray, List.set_cons_zero, List.set_cons_succ])
  refine take_first (v := ?_) 12 rfl (by kernel_rfl) (by kernel_rfl) (by kernel_rfl) (fun _ _ _ h => h) (Or.inl ⟨by rfl, ?_⟩) (by assumption) ?_
  rotate_left
  · (intro w hSw; (try dsimp only at hSw); have ha := run_arrayAt_off (P := Tryd.prog) w 30 b (off + 44) 16 16 16 5 Tryd.underlying30 (Nat.le_refl _); go_simp; try with_reducible rfl)
  (try simp only [Act.put, List.setIfInBounds_toArray, List.set_cons_zero, List.set_cons_succ])
  refine take_first (v := .agg (f1.map u8v).toArray) 13 rfl (by kernel_rfl) (by kernel_rfl) (by kernel_rfl) (fun _ _ _ h => h) (yields_load_obj (by rfl) 30 (.tmp 20) rfl b (off + 44) rfl (f1.map u8v) (fun W' h => HA1.out W' (h.arg HR.out)) _ Tryd.underlying30 rfl (by rw [List.length_map, HZ1.out]; kernel_rfl)) (by assumption) ?_
  (try simp only [Act.put, List.setIfInBounds_toArray, List.set_cons_zero, List.set_cons_succ])
  refine take_first (v := ?_) 14 rfl (by kernel_rfl) (by kernel_rfl) (by kernel_rfl) (fun _ _ _ h => h) (Or.inl ⟨by rfl, ?_⟩) (by assumption) ?_
  rotate_left
  · (intro w hSw; (try dsimp only at hSw); go_simp; try with_reducible rfl)
  (try simp only [Act.put, List.setIfInBounds_toArray, List.set_cons_zero, List.set_cons_succ])
  refine take_first (v := ?_) 15 rfl (by kernel_rfl) (by kernel_rfl) (by kernel_rfl) (fun _ _ _ h => h) (Or.inl ⟨by rfl, ?_⟩) (by assumption) ?_
  rotate_left
  · (intro w hSw; (try dsimp only at hSw); have hs := HS60.out w; rw [show ((60 : Nat) : Int) = 60 from rfl, show ((76 : Nat) : Int) = 76 from rfl] at hs; go_simp; try with_reducible rfl)
  (try simp only [Act.put, List.setIfInBounds_toArray, List.set_cons_zero, List.set_cons_succ])
  refine take_first (v := ?_) 16 rfl (by kernel_rfl) (by kernel_rfl) (by kernel_rfl) (fun _ _ _ h => h) (Or.inl ⟨by rfl, ?_⟩) (by assumption) ?_
  rotate_left
  · (intro w hSw; (try dsimp only at hSw); have ha := run_arrayAt_off (P := Tryd.prog) w 30 b (off + 60) 16 16 16 5 Tryd.underlying30 (Nat.le_refl _); go_simp; try with_reducible rfl)
  (try simp only [Act.put, List.setIfInBounds_toArray, List.set_cons_zero, List.set_cons_succ])
  refine take_first (v := .agg (f2.map u8v).toArray) 17 rfl (by kernel_rfl) (by kernel_rfl) (by kernel_rfl) (fun _ _ _ h => h) (yields_load_obj (by rfl) 30 (.tmp 24) rfl b (off + 60) rfl (f2.map u8v) (fun W' h => HA2.out W' (h.arg HR.out)) _ Tryd.underlying30 rfl (by rw [List.length_map, HZ2.out]; kernel_rfl)) (by assumption) ?_
  (try simp only [Act.put, List.setIfInBounds_toArray, List.set_cons_zero, List.set_cons_succ])
  refine take_first (v := ?_) 18 rfl (by kernel_rfl) (by kernel_rfl) (by kernel_rfl) (fun _ _ _ h => h) (Or.inl ⟨by rfl, ?_⟩) (by assumption) ?_
  rotate_left
  · (intro w hSw; (try dsimp only at hSw); go_simp; try with_reducible rfl)
  (try simp only [Act.put, List.setIfInBounds_toArray, List.set_cons_zero, List.set_cons_succ])
  refine take_first (v := ?_) 19 rfl (by kernel_rfl) (by kernel_rfl) (by kernel_rfl) (fun _ _ _ h => h) (Or.inl ⟨by rfl, ?_⟩) (by assumption) ?_
  rotate_left
  · (intro w hSw; (try dsimp only at hSw); have hs := HS76.out w; rw [show ((76 : Nat) : Int) = 76 from rfl, show ((92 : Nat) : Int) = 92 from rfl] at hs; go_simp; try with_reducible rfl)
  (try simp only [Act.put, List.setIfInBounds_toArray, List.set_cons_zero, List.set_cons_succ])
  refine take_first (v := ?_) 20 rfl (by kernel_rfl) (by kernel_rfl) (by kernel_rfl) (fun _ _ _ h => h) (Or.inl ⟨by rfl, ?_⟩) (by assumption) ?_
  rotate_left
  · (intro w hSw; (try dsimp only at hSw); have ha := run_arrayAt_off (P := Tryd.prog) w 30 b (off + 76) 16 16 16 5 Tryd.underlying30 (Nat.le_refl _); go_simp; try with_reducible rfl)
  (try simp only [Act.put, List.setIfInBounds_toArray, List.set_cons_zero, List.set_cons_succ])
  refine take_first (v := .agg (f3.map u8v).toArray) 21 rfl (by kernel_rfl) (by kernel_rfl) (by kernel_rfl) (fun _ _ _ h => h) (yields_load_obj (by rfl) 30 (.tmp 28) rfl b (off + 76) rfl (f3.map u8v) (fun W' h => HA3.out W' (h.arg HR.out)) _ Tryd.underlying30 rfl (by rw [List.length_map, HZ3.out]; kernel_rfl)) (by assumption) ?_
  (try simp only [Act.put, List.setIfInBounds_toArray, List.set_cons_zero, List.set_cons_succ])
  refine step_one 2 rfl (by kernel_rfl) (fun K hK => ?_)
  clear hHeld
  go_simp
  refine (HN0.out _ (HM.out.arg HR.out)).mono ?_
  rintro e wy ⟨rfl, rfl⟩
  go_wp2_with fail
  refine hK.out _ _ ((HM.out.erase 0)) (fun hHeld => ?_)
  clear hK K
  (try simp only [Act.put, List.setIfInBounds_toArray, List.set_cons_zero, List.set_cons_succ])
  refine step_one 5 rfl (by kernel_rfl) (fun K hK => ?_)
  clear hHeld
  go_simp
  refine (HN1.out _ (HM.out.arg HR.out)).mono ?_
  rintro e wy ⟨rfl, rfl⟩
  go_wp2_with fail
  refine hK.out _ _ ((HM.out.erase 0)) (fun hHeld => ?_)
  clear hK K
  (try simp only [Act.put, List.setIfInBounds_toArray, List.set_cons_zero, List.set_cons_succ])
  refine take_first (v := .agg (MsgM.mk [v, u] (f0 ++ f1 ++ f2 ++ f3)).cells.toArray) 22 rfl (by kernel_rfl) (by kernel_rfl) (by kernel_rfl) (fun _ _ _ h => h) (yields_build_obj (by rfl) 37 [(0, .tmp 10), (1, .tmp 13), (2, .tmp 17), (3, .tmp 21), (4, .tmp 25), (5, .tmp 29)] rfl (MsgM.mk [v, u] (f0 ++ f1 ++ f2 ++ f3)).cells.toArray HBT.out) (by assumption) ?_
  (try simp only [Act.put, List.setIfInBounds_toArray, List.set_cons_zero, List.set_cons_succ])
  refine step_one 23 rfl (by kernel_rfl) (fun K hK => ?_)
  clear hHeld
  refine step_store_blk _ rfl 37 (.tmp 2) (.tmp 30) rfl w.heap.size (MsgM.mk [v, u] (f0 ++ f1 ++ f2 ++ f3)).cells rfl (by rfl) 37 (msg0 2).cells (HM.out.blk 0 rfl) HUO.out HLO.out (MsgM.one _) ?_
  intro wy2 hb hg
  replace HM := Lib.hid (show Mem w [blkE w.heap.size 37 (MsgM.mk [v, u] (f0 ++ f1 ++ f2 ++ f3)).cells] wy2 from HM.out.put 0 rfl _ hg hb)
  clear hb hg
  refine hK.out _ _ ((HM.out.erase 0)) (fun hHeld => ?_)
  clear hK K
  (try simp only [Act.put])
  refine take_first (v := ?_) 24 rfl (by kernel_rfl) (by kernel_rfl) (by kernel_rfl) (fun _ _ _ h => h) (Or.inl ⟨by rfl, ?_⟩) (by assumption) ?_
  rotate_left
  · (intro w hSw; (try dsimp only at hSw); go_simp; try with_reducible rfl)
  (try simp only [Act.put, List.setIfInBounds_toArray, List.set_cons_zero, List.set_cons_succ])
  refine wpAnyH_done (by kernel_rfl) ?_ _
  clear hHeld
  have HF := Lib.hid HM.out
  clear HM
  go_wp2_with fail
  exact bodyPost_ret (results_obj_tmp rfl _ _ w.heap.size 37 (MsgM.mk [v, u] (f0 ++ f1 ++ f2 ++ f3)).cells _ rfl (HF.out.blk 0 rfl) Tryd.underlying37 rfl HUO.out) rfl ⟨by rw [HE.out]; rfl, HF.out.bel⟩

end Go.Proofs.YtlddafkikkaonaaDoor
namespace Go.Proofs.YtlddafkikkaonaaDoor
open Go.RowKit

theorem mc_returns_all (w : World) (hlv : LvBlake w) (p ck : List UInt8) (m1 m2 : MsgM) (nn : List UInt8) (rc : Nat) (hp : p.length = 32) (hck : ck.length = 16) (hok1 : m1.ok 1) (hok2 : m2.ok 2) (hnn : nn.length = 24) (hrc : rc ≤ 4294967295) :
    Calls Tryd.prog 5 #[.agg (p.map u8v).toArray, .agg (ck.map u8v).toArray, .agg m1.cells.toArray, .agg m2.cells.toArray, .agg (nn.map u8v).toArray, .int .u32 (rc : Int)] w fun e w' => e = .returned (.bool true) ∧ Below w.heap.size w w' :=
  mc_returns_walk mcSealI mcSealR mcCheck1C mcCheck2C mcReplyC mcOpenC msDecC1 msDecC2 w hlv p ck hp hck m1 m2 hok1 hok2 nn hnn rc (by omega)
end Go.Proofs.YtlddafkikkaonaaDoor
