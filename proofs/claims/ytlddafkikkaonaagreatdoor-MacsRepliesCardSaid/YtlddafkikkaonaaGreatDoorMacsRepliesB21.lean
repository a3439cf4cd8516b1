/-
  The contract of the program's DecodeCookie. What is asked of OpenReply holds of the landed function. MacsReplies returns true for every input, by what the landed functions give. No statement is proved here.
-/
import Derived.Test.YtlddafkikkaonaaGreatDoorMacsRepliesB20
namespace Go.Proofs.YtlddafkikkaonaaGreatDoor
open Go.RowKit
set_option maxRecDepth 100000 in
set_option maxHeartbeats 16000000 in
theorem msDecC3 : MsDecC 16 3 := by
 intro A n c l hnc hcm hn w hr
 have HKD := Lib.hid (msKindC A n c l hnc hcm hn)
 have HR := Lib.hid hr
 have hl : l.length = n := hr.1
 have hlz := MsgM.cells_length (msg0_ok 3)
 have HUZ := Lib.hid (show (Tryz.prog.info? 40).map (·.size) = some (msg0 3).cells.length from by rw [hlz]; kernel_rfl)
 have hcz0 : (msg0 3).cells.toArray = #[.int .u32 0, .int .u8 0, .int .u8 0, .int .u8 0, .int .u8 0, .int .u8 0, .int .u8 0, .int .u8 0, .int .u8 0, .int .u8 0, .int .u8 0, .int .u8 0, .int .u8 0, .int .u8 0, .int .u8 0, .int .u8 0, .int .u8 0, .int .u8 0, .int .u8 0, .int .u8 0, .int .u8 0, .int .u8 0, .int .u8 0, .int .u8 0, .int .u8 0, .int .u8 0, .int .u8 0, .int .u8 0, .int .u8 0, .int .u8 0, .int .u8 0, .int .u8 0, .int .u8 0, .int .u8 0, .int .u8 0, .int .u8 0, .int .u8 0, .int .u8 0, .int .u8 0, .int .u8 0, .int .u8 0, .int .u8 0, .int .u8 0, .int .u8 0, .int .u8 0, .int .u8 0, .int .u8 0, .int .u8 0, .int .u8 0, .int .u8 0, .int .u8 0, .int .u8 0, .int .u8 0, .int .u8 0, .int .u8 0, .int .u8 0, .int .u8 0] := by kernel_rfl
 obtain ⟨cz, hcz⟩ : ∃ z, (msg0 3).cells.toArray = z := ⟨_, rfl⟩
 have HBZ := Lib.hid (show Tryz.prog.built 40 [] = some cz from by rw [← hcz]; kernel_rfl)
 have HCZ := Lib.hid hcz
 have HM := Lib.hid (show Mem w [blkE w.heap.size 40 (msg0 3).cells] (w.alloc (.cells #[.int .u32 0, .int .u8 0, .int .u8 0, .int .u8 0, .int .u8 0, .int .u8 0, .int .u8 0, .int .u8 0, .int .u8 0, .int .u8 0, .int .u8 0, .int .u8 0, .int .u8 0, .int .u8 0, .int .u8 0, .int .u8 0, .int .u8 0, .int .u8 0, .int .u8 0, .int .u8 0, .int .u8 0, .int .u8 0, .int .u8 0, .int .u8 0, .int .u8 0, .int .u8 0, .int .u8 0, .int .u8 0, .int .u8 0, .int .u8 0, .int .u8 0, .int .u8 0, .int .u8 0, .int .u8 0, .int .u8 0, .int .u8 0, .int .u8 0, .int .u8 0, .int .u8 0, .int .u8 0, .int .u8 0, .int .u8 0, .int .u8 0, .int .u8 0, .int .u8 0, .int .u8 0, .int .u8 0, .int .u8 0, .int .u8 0, .int .u8 0, .int .u8 0, .int .u8 0, .int .u8 0, .int .u8 0, .int .u8 0, .int .u8 0, .int .u8 0] 40)) from (Mem.nil w).alloc rfl 40 #[.int .u32 0, .int .u8 0, .int .u8 0, .int .u8 0, .int .u8 0, .int .u8 0, .int .u8 0, .int .u8 0, .int .u8 0, .int .u8 0, .int .u8 0, .int .u8 0, .int .u8 0, .int .u8 0, .int .u8 0, .int .u8 0, .int .u8 0, .int .u8 0, .int .u8 0, .int .u8 0, .int .u8 0, .int .u8 0, .int .u8 0, .int .u8 0, .int .u8 0, .int .u8 0, .int .u8 0, .int .u8 0, .int .u8 0, .int .u8 0, .int .u8 0, .int .u8 0, .int .u8 0, .int .u8 0, .int .u8 0, .int .u8 0, .int .u8 0, .int .u8 0, .int .u8 0, .int .u8 0, .int .u8 0, .int .u8 0, .int .u8 0, .int .u8 0, .int .u8 0, .int .u8 0, .int .u8 0, .int .u8 0, .int .u8 0, .int .u8 0, .int .u8 0, .int .u8 0, .int .u8 0, .int .u8 0, .int .u8 0, .int .u8 0, .int .u8 0] (msg0 3).cells (by kernel_rfl))
 obtain ⟨q, hq⟩ : ∃ q, kindB l = q := ⟨_, rfl⟩
 rw [hq] at HKD
 clear hr hlz hcz hcz0
 go_enter Tryz.func16, Tryz.ntmps16
 go_upto_region 1 with fail
 generalize w.alloc (.cells #[.int .u32 0, .int .u8 0, .int .u8 0, .int .u8 0, .int .u8 0, .int .u8 0, .int .u8 0, .int .u8 0, .int .u8 0, .int .u8 0, .int .u8 0, .int .u8 0, .int .u8 0, .int .u8 0, .int .u8 0, .int .u8 0, .int .u8 0, .int .u8 0, .int .u8 0, .int .u8 0, .int .u8 0, .int .u8 0, .int .u8 0, .int .u8 0, .int .u8 0, .int .u8 0, .int .u8 0, .int .u8 0, .int .u8 0, .int .u8 0, .int .u8 0, .int .u8 0, .int .u8 0, .int .u8 0, .int .u8 0, .int .u8 0, .int .u8 0, .int .u8 0, .int .u8 0, .int .u8 0, .int .u8 0, .int .u8 0, .int .u8 0, .int .u8 0, .int .u8 0, .int .u8 0, .int .u8 0, .int .u8 0, .int .u8 0, .int .u8 0, .int .u8 0, .int .u8 0, .int .u8 0, .int .u8 0, .int .u8 0, .int .u8 0, .int .u8 0] 40) = w1 at HM ⊢
 go_wp2_with fail
 refine (HKD.out _ (HM.out.arg HR.out)).mono ?_
 rintro e w2 ⟨rfl, hb⟩
 replace HM := Lib.hid (HM.out.below hb)
 clear hb
 by_cases hk : q = 3
 case neg =>
  have ek : ((q : Int) != 3) = true := by rw [bne_iff_ne]; omega
  have HE := Lib.hid (show decB 3 l = (msg0 3, 4) from by rw [decB, if_neg (by rw [hq]; exact hk)])
  clear hq hk hl hnc hcm hn
  go_wp2_with (first | (refine wpList_build_as rfl 40 [] rfl cz ?_ ?_; exact HBZ.out) | (refine wpList_store_blk rfl 40 (.tmp 2) (.tmp 7) rfl w.heap.size (msg0 3).cells rfl (by show Value.agg cz = _; rw [HCZ.out]) 40 (msg0 3).cells (HM.out.blk 0 rfl) HUZ.out rfl (MsgM.one _) ?_; intro w9 hb9 hg9))
  exact bodyPost_ret (results_obj_tmp rfl _ _ w.heap.size 40 (msg0 3).cells _ rfl hb9 Tryz.underlying40 rfl HUZ.out) rfl ⟨by rw [HE.out]; rfl, (HM.out.put 0 rfl _ hg9 hb9).bel⟩
 subst hk
 have hll := kindB_len (k := 3) (by omega) hq
 have hn2 : n = 64 := by rw [← hl, hll]; rfl
 subst hn2
 obtain ⟨b, off, rfl, -, -⟩ := HR.out.at_ (by omega)
 have HS4 := Lib.hid (fun W => slice_lhm (some ⟨b, off, none⟩) 64 c 4 8 8 (by omega) (by omega) (by omega) W)
 rw [addrOf_lt b off 4 8 (by omega), show 8 - 4 = 4 from rfl] at HS4
 have HS8 := Lib.hid (fun W => slice_lhm (some ⟨b, off, none⟩) 64 c 8 32 32 (by omega) (by omega) (by omega) W)
 rw [addrOf_lt b off 8 32 (by omega), show 32 - 8 = 24 from rfl] at HS8
 have HS32 := Lib.hid (fun W => slice_lhm (some ⟨b, off, none⟩) 64 c 32 64 64 (by omega) (by omega) (by omega) W)
 rw [addrOf_lt b off 32 64 (by omega), show 64 - 32 = 32 from rfl] at HS32
 have HN0 := Lib.hid (fun W (h : Rd W W.heap.size (some ⟨b, off, none⟩) 64 l) => pReadIndex_any (some ⟨b, off + 4, none⟩) 4 ((l.drop 4).take 4) W ((h.drop 4 b off rfl (by omega)).take (by omega)))
 obtain ⟨v, hv⟩ : ∃ z, numL ((l.drop 4).take 4) = z := ⟨_, rfl⟩
 rw [hv] at HN0
 have HA0 := Lib.hid (fun W (h : Rd W W.heap.size (some ⟨b, off, none⟩) 64 l) => h.at_obj 8 24)
 obtain ⟨f0, hf0⟩ : ∃ z, (l.drop 8).take 24 = z := ⟨_, rfl⟩
 have hz0 : f0.length = 24 := by rw [← hf0, List.length_take, List.length_drop, hl]; rfl
 have HZ0 := Lib.hid hz0
 rw [hf0] at HA0
 have HA1 := Lib.hid (fun W (h : Rd W W.heap.size (some ⟨b, off, none⟩) 64 l) => h.at_obj 32 32)
 obtain ⟨f1, hf1⟩ : ∃ z, (l.drop 32).take 32 = z := ⟨_, rfl⟩
 have hz1 : f1.length = 32 := by rw [← hf1, List.length_take, List.length_drop, hl]; rfl
 have HZ1 := Lib.hid hz1
 rw [hf1] at HA1
 have hpm := parts_ms3 l hl
 rw [hf0, hf1] at hpm
 have hmo : msOf 3 l = MsgM.mk [v] (f0 ++ f1) := by
  show MsgM.mk [numL ((l.drop 4).take 4)] (l.drop 8) = _
  rw [hv, hpm]
 have HE := Lib.hid (show decB 3 l = (MsgM.mk [v] (f0 ++ f1), 0) from by rw [decB, if_pos hq, hmo])
 have hok := msOf_ok hll
 rw [hmo] at hok
 have hco := MsgM.cells_length hok
 have HUO := Lib.hid (show (Tryz.prog.info? 40).map (·.size) = some (MsgM.mk [v] (f0 ++ f1)).cells.length from by rw [hco]; kernel_rfl)
 have HLO := Lib.hid (show (msg0 3).cells.length = (MsgM.mk [v] (f0 ++ f1)).cells.length from by rw [hco, MsgM.cells_length (msg0_ok 3)])
 have HBT := Lib.hid (built_ms3 v f0 f1 hz0 hz1)
 clear hmo hok hco hpm hll hq HKD hl hn hnc hv hf0 hz0 hf1 hz1
 go_upto_region 3 with fail
 refine wp_region_held_drew (S := fun W' => Mem w [] W') (by kernel_rfl) (((HM.out.erase 0)).drew) (fun hHeld => ?_)
 replace HM := Lib.hid HM.out.drew
 generalize w2.drew = wd1 at HM hHeld ⊢
 refine tf (v := ?_) 0 rfl (Or.inl ⟨by rfl, ?_⟩) ?_
 rotate_left
 · (intro w hSw; (try dsimp only at hSw); go_simp; try with_reducible rfl)
 (try simp only [Act.put, sA, s0, s1])
 refine tf (v := ?_) 1 rfl (Or.inl ⟨by rfl, ?_⟩) ?_
 rotate_left
 · (intro w hSw; (try dsimp only at hSw); have hs := HS4.out w; rw [show ((4 : Nat) : Int) = 4 from rfl, show ((8 : Nat) : Int) = 8 from rfl] at hs; go_simp; try with_reducible rfl)
 (try simp only [Act.put, sA, s0, s1])
 refine tf (v := ?_) 3 rfl (Or.inl ⟨by rfl, ?_⟩) ?_
 rotate_left
 · (intro w hSw; (try dsimp only at hSw); go_simp; try with_reducible rfl)
 (try simp only [Act.put, sA, s0, s1])
 refine tf (v := ?_) 4 rfl (Or.inl ⟨by rfl, ?_⟩) ?_
 rotate_left
 · (intro w hSw; (try dsimp only at hSw); have hs := HS8.out w; rw [show ((8 : Nat) : Int) = 8 from rfl, show ((32 : Nat) : Int) = 32 from rfl] at hs; go_simp; try with_reducible rfl)
 (try simp only [Act.put, sA, s0, s1])
 refine tf (v := ?_) 5 rfl (Or.inl ⟨by rfl, ?_⟩) ?_
 rotate_left
 · (intro w hSw; (try dsimp only at hSw); have ha := run_arrayAt_off (P := Tryz.prog) w 25 b (off + 8) 24 24 24 5 Tryz.underlying25 (Nat.le_refl _); go_simp; try with_reducible rfl)
 (try simp only [Act.put, sA, s0, s1])
 refine tf (v := .agg (f0.map u8v).toArray) 6 rfl (yields_load_obj (by rfl) 25 (.tmp 13) rfl b (off + 8) rfl (f0.map u8v) (fun W' h => HA0.out W' (h.arg HR.out)) _ Tryz.underlying25 rfl (by rw [List.length_map, HZ0.out]; kernel_rfl)) ?_
 (try simp only [Act.put, sA, s0, s1])
 refine tf (v := ?_) 7 rfl (Or.inl ⟨by rfl, ?_⟩) ?_
 rotate_left
 · (intro w hSw; (try dsimp only at hSw); go_simp; try with_reducible rfl)
 (try simp only [Act.put, sA, s0, s1])
 refine tf (v := ?_) 8 rfl (Or.inl ⟨by rfl, ?_⟩) ?_
 rotate_left
 · (intro w hSw; (try dsimp only at hSw); have hs := HS32.out w; rw [show ((32 : Nat) : Int) = 32 from rfl, show ((64 : Nat) : Int) = 64 from rfl] at hs; go_simp; try with_reducible rfl)
 (try simp only [Act.put, sA, s0, s1])
 refine tf (v := ?_) 9 rfl (Or.inl ⟨by rfl, ?_⟩) ?_
 rotate_left
 · (intro w hSw; (try dsimp only at hSw); have ha := run_arrayAt_off (P := Tryz.prog) w 22 b (off + 32) 32 32 32 5 Tryz.underlying22 (Nat.le_refl _); go_simp; try with_reducible rfl)
 (try simp only [Act.put, sA, s0, s1])
 refine tf (v := .agg (f1.map u8v).toArray) 10 rfl (yields_load_obj (by rfl) 22 (.tmp 17) rfl b (off + 32) rfl (f1.map u8v) (fun W' h => HA1.out W' (h.arg HR.out)) _ Tryz.underlying22 rfl (by rw [List.length_map, HZ1.out]; kernel_rfl)) ?_
 (try simp only [Act.put, sA, s0, s1])
 refine so 2 rfl fun K hK => ?_
 clear hHeld
 go_simp
 refine (HN0.out _ (HM.out.arg HR.out)).mono ?_
 rintro e wy ⟨rfl, rfl⟩
 go_wp2_with fail
 refine hK.out _ _ ((HM.out.erase 0)) (fun hHeld => ?_)
 clear hK K
 (try simp only [Act.put, sA, s0, s1])
 refine tf (v := .agg (MsgM.mk [v] (f0 ++ f1)).cells.toArray) 11 rfl (yields_build_obj (by rfl) 40 [(0, .tmp 10), (1, .tmp 14), (2, .tmp 18)] rfl (MsgM.mk [v] (f0 ++ f1)).cells.toArray HBT.out) ?_
 (try simp only [Act.put, sA, s0, s1])
 refine so 12 rfl fun K hK => ?_
 clear hHeld
 refine step_store_blk _ rfl 40 (.tmp 2) (.tmp 19) rfl w.heap.size (MsgM.mk [v] (f0 ++ f1)).cells rfl (by rfl) 40 (msg0 3).cells (HM.out.blk 0 rfl) HUO.out HLO.out (MsgM.one _) ?_
 intro wy2 hb hg
 replace HM := Lib.hid (show Mem w [blkE w.heap.size 40 (MsgM.mk [v] (f0 ++ f1)).cells] wy2 from HM.out.put 0 rfl _ hg hb)
 clear hb hg
 refine hK.out _ _ ((HM.out.erase 0)) (fun hHeld => ?_)
 clear hK K
 (try simp only [Act.put])
 refine tf (v := ?_) 13 rfl (Or.inl ⟨by rfl, ?_⟩) ?_
 rotate_left
 · (intro w hSw; (try dsimp only at hSw); go_simp; try with_reducible rfl)
 (try simp only [Act.put, sA, s0, s1])
 refine wpAnyH_done (by kernel_rfl) ?_ _
 clear hHeld
 have HF := Lib.hid HM.out
 clear HM
 go_wp2_with fail
 exact bodyPost_ret (results_obj_tmp rfl _ _ w.heap.size 40 (MsgM.mk [v] (f0 ++ f1)).cells _ rfl (HF.out.blk 0 rfl) Tryz.underlying40 rfl HUO.out) rfl ⟨by rw [HE.out]; rfl, HF.out.bel⟩
set_option maxRecDepth 100000 in
set_option maxHeartbeats 8000000 in
theorem mcOpenC : McOpenC 7 := by
 intro p mac hp hmac A n c l hnc hcx hn6 w hlv hr
 have HLV := Lib.hid hlv
 have HP := Lib.hid hp
 have HMC := Lib.hid hmac
 have hd := msDecC3 A n c l hnc hcx hn6
 obtain ⟨cp, hcp⟩ : ∃ z, (p.map u8v).toArray = z := ⟨_, rfl⟩
 obtain ⟨cm, hcm⟩ : ∃ z, (mac.map u8v).toArray = z := ⟨_, rfl⟩
 rw [hcp, hcm]
 have HM := Lib.hid (show Mem w [blkE (w.heap.size + 1 + 1) 27 ((List.replicate 16 (0 : UInt8)).map u8v), blkE (w.heap.size + 1) 27 (mac.map u8v), blkE w.heap.size 23 (p.map u8v)] (((w.alloc (.cells cp 23)).alloc (.cells cm 27)).alloc (.cells zb16 27)) from (((Mem.nil w).alloc rfl 23 cp (p.map u8v) hcp.symm).alloc (by simp) 27 cm (mac.map u8v) hcm.symm).alloc (by simp) 27 zb16 ((List.replicate 16 (0 : UInt8)).map u8v) rfl)
 have HR := Lib.hid hr
 have hdo := (decB_ok (k := 3) (by omega) l).1
 have hde : (decB 3 l) = ((decB 3 l).1, (decB 3 l).2) := rfl
 have hh1 := fun h : kindB l = 3 => show decB 3 l = (msOf 3 l, 0) from by rw [decB, if_pos h]
 have hh2 := fun h : ¬ kindB l = 3 => show decB 3 l = (msg0 3, 4) from by rw [decB, if_neg h]
 have hlm := MsgM.cells_length hdo
 obtain ⟨mm, hmm⟩ : ∃ z, (decB 3 l).1 = z := ⟨_, rfl⟩
 obtain ⟨er, her⟩ : ∃ z, (decB 3 l).2 = z := ⟨_, rfl⟩
 rw [hmm] at hdo hlm
 rw [hmm, her] at hd
 obtain ⟨cd, hcd⟩ : ∃ z, mm.cells.toArray = z := ⟨_, rfl⟩
 rw [hcd] at hd
 have HD := Lib.hid hd
 have HCD := Lib.hid hcd
 have HLM := Lib.hid hlm
 have HUM := Lib.hid (show (Tryz.prog.info? 40).map (·.size) = some mm.cells.length from by rw [hlm]; kernel_rfl)
 have HDO := Lib.hid hdo
 clear hd hcd hlm hr hde
 go_enter Tryz.func7, Tryz.ntmps7
 go_upto_region 1 with fail
 generalize (((w.alloc (.cells cp 23)).alloc (.cells cm 27)).alloc (.cells zb16 27)) = w1 at HM ⊢
 go_wp2_with fail
 refine (HD.out _ (HM.out.arg HR.out)).mono ?_
 rintro e w2 ⟨rfl, hb⟩
 replace HM := Lib.hid (HM.out.below hb)
 clear hb
 have HMZ := Lib.hid (show Mem w [blkE w2.heap.size 40 (msg0 3).cells, blkE (w.heap.size + 1 + 1) 27 ((List.replicate 16 (0 : UInt8)).map u8v), blkE (w.heap.size + 1) 27 (mac.map u8v), blkE w.heap.size 23 (p.map u8v)] (w2.alloc (.cells #[.int .u32 0, .int .u8 0, .int .u8 0, .int .u8 0, .int .u8 0, .int .u8 0, .int .u8 0, .int .u8 0, .int .u8 0, .int .u8 0, .int .u8 0, .int .u8 0, .int .u8 0, .int .u8 0, .int .u8 0, .int .u8 0, .int .u8 0, .int .u8 0, .int .u8 0, .int .u8 0, .int .u8 0, .int .u8 0, .int .u8 0, .int .u8 0, .int .u8 0, .int .u8 0, .int .u8 0, .int .u8 0, .int .u8 0, .int .u8 0, .int .u8 0, .int .u8 0, .int .u8 0, .int .u8 0, .int .u8 0, .int .u8 0, .int .u8 0, .int .u8 0, .int .u8 0, .int .u8 0, .int .u8 0, .int .u8 0, .int .u8 0, .int .u8 0, .int .u8 0, .int .u8 0, .int .u8 0, .int .u8 0, .int .u8 0, .int .u8 0, .int .u8 0, .int .u8 0, .int .u8 0, .int .u8 0, .int .u8 0, .int .u8 0, .int .u8 0] 40)) from HM.out.alloc rfl 40 #[.int .u32 0, .int .u8 0, .int .u8 0, .int .u8 0, .int .u8 0, .int .u8 0, .int .u8 0, .int .u8 0, .int .u8 0, .int .u8 0, .int .u8 0, .int .u8 0, .int .u8 0, .int .u8 0, .int .u8 0, .int .u8 0, .int .u8 0, .int .u8 0, .int .u8 0, .int .u8 0, .int .u8 0, .int .u8 0, .int .u8 0, .int .u8 0, .int .u8 0, .int .u8 0, .int .u8 0, .int .u8 0, .int .u8 0, .int .u8 0, .int .u8 0, .int .u8 0, .int .u8 0, .int .u8 0, .int .u8 0, .int .u8 0, .int .u8 0, .int .u8 0, .int .u8 0, .int .u8 0, .int .u8 0, .int .u8 0, .int .u8 0, .int .u8 0, .int .u8 0, .int .u8 0, .int .u8 0, .int .u8 0, .int .u8 0, .int .u8 0, .int .u8 0, .int .u8 0, .int .u8 0, .int .u8 0, .int .u8 0, .int .u8 0, .int .u8 0] (msg0 3).cells (by kernel_rfl))
 clear HM
 go_upto_region 2 with (refine wpList_store_blk rfl 40 (.tmp 8) (.tmp 14) rfl w2.heap.size mm.cells rfl (by show Value.agg cd = _; rw [HCD.out]) 40 (msg0 3).cells (HMZ.out.blk 0 rfl) HUM.out (by rw [HLM.out, MsgM.cells_length (msg0_ok 3)]) (MsgM.one _) ?_; intro w4 hb4 hg4)
 (try simp only [Act.put])
 have hm4 := HMZ.out.put 0 rfl _ hg4 hb4
 generalize w2.heap.size = g8 at hm4 ⊢
 have HM := Lib.hid (show Mem w [blkE g8 40 mm.cells, blkE (w.heap.size + 1 + 1) 27 ((List.replicate 16 (0 : UInt8)).map u8v), blkE (w.heap.size + 1) 27 (mac.map u8v), blkE w.heap.size 23 (p.map u8v)] w4 from hm4)
 clear hm4 hb4 hg4 HMZ
 by_cases hk : kindB l = 3
 case neg =>
  have h2 := hh2 hk
  have hev : er = 4 := by rw [← her, h2]
  subst hev
  have HV := Lib.hid (show openB p mac l = (List.replicate 16 0, 4) from by rw [openB, if_neg hk])
  clear hk h2 hh1 hh2 her hmm hdo hcp hcm hp hmac hnc hcx hn6
  go_wp2_with (first | (refine wpList_build_as rfl 27 [] rfl zb16 ?_ ?_; kernel_rfl) | (refine wpList_store_blk rfl 27 (.tmp 6) (.tmp 18) rfl (w.heap.size + 1 + 1) ((List.replicate 16 (0 : UInt8)).map u8v) rfl (by rfl) 27 ((List.replicate 16 (0 : UInt8)).map u8v) (HM.out.blk 1 rfl) (ae_cellsT _ (by simp)) (by simp) (u8v_one _) ?_; intro w9 hb9 hg9))
  exact bodyPost_ret (results_obj_tmp rfl _ _ (w.heap.size + 1 + 1) 27 ((List.replicate 16 (0 : UInt8)).map u8v) _ rfl hb9 Tryz.underlying27 rfl (ae_cellsT _ (by simp))) rfl ⟨by rw [HV.out]; rfl, (HM.out.put 1 rfl _ hg9 hb9).bel⟩
 have h1 := hh1 hk
 have hev : er = 0 := by rw [← her, h1]
 have hmv : mm = msOf 3 l := by rw [← hmm, h1]
 subst hev
 have hl64 : l.length = 64 := kindB_len (k := 3) (by omega) hk
 obtain ⟨nn, hnn⟩ : ∃ z, (l.drop 8).take 24 = z := ⟨_, rfl⟩
 obtain ⟨sl, hsl⟩ : ∃ z, (l.drop 32).take 32 = z := ⟨_, rfl⟩
 have hn24 : nn.length = 24 := by rw [← hnn, List.length_take, List.length_drop, hl64]; rfl
 have hs32 : sl.length = 32 := by rw [← hsl, List.length_take, List.length_drop, hl64]; rfl
 have hbs : mm.bs = l.drop 8 := by rw [hmv]; rfl
 have hseg1 : (mm.cells.drop 1).take 24 = nn.map u8v := by rw [msg_seg hdo 1 0 24 rfl, hbs, List.drop_zero, hnn]
 have hseg2 : (mm.cells.drop 25).take 32 = sl.map u8v := by rw [msg_seg hdo 25 24 32 rfl, hbs, List.drop_drop, hsl]
 have HSEG := Lib.hid (And.intro hseg1 hseg2)
 have HN := Lib.hid hn24
 have HSLN := Lib.hid hs32
 have hv : openB p mac l = if (xopenL (hideB p) nn sl mac).2 = 0 then ((xopenL (hideB p) nn sl mac).1, 0) else (List.replicate 16 0, (xopenL (hideB p) nn sl mac).2) := by
  rw [openB, if_pos hk]
  simp only [hnn, hsl]
 have hhd := fun (W : World) (hl : LvBlake W) => (show Calls Tryz.prog 14 #[.string ⟨#[99, 111, 111, 107, 105, 101, 45, 45]⟩, .agg (p.map u8v).toArray] W (fun e w' => e = .returned (.agg ((hideB p).map u8v).toArray) ∧ Below W.heap.size W w') from derive_any ⟨#[99, 111, 111, 107, 105, 101, 45, 45]⟩ cookK rfl rfl p hp W hl)
 have hxo := fun (gc gm : Nat) (W : World) (h1 : Rd W W.heap.size (some ⟨gc, 25, none⟩) 32 sl) (h2 : Rd W W.heap.size (some ⟨gm, 0, none⟩) 16 mac) => xopenC (hideB p) nn (hideB_length p) hn24 (some ⟨gc, 25, none⟩) (some ⟨gm, 0, none⟩) 32 32 16 16 sl mac (by omega) (by decide) (by omega) (by decide) (by omega) (by omega) W h1 h2
 have hxn := xopen_len (hideB p) nn sl mac hs32
 obtain ⟨xl, hxl⟩ : ∃ z, (xopenL (hideB p) nn sl mac).1 = z := ⟨_, rfl⟩
 obtain ⟨xe, hxe⟩ : ∃ z, (xopenL (hideB p) nn sl mac).2 = z := ⟨_, rfl⟩
 rw [hxl, hxe] at hv hxn
 rw [hxl, hxe] at hxo
 generalize hideB p = hkk at hhd hxo
 obtain ⟨chk, hchk⟩ : ∃ z, (hkk.map u8v).toArray = z := ⟨_, rfl⟩
 obtain ⟨cn, hcn⟩ : ∃ z, (nn.map u8v).toArray = z := ⟨_, rfl⟩
 rw [hcp, hchk] at hhd
 rw [hchk, hcn] at hxo
 have HV := Lib.hid hv
 have HXN := Lib.hid hxn
 have HHD := Lib.hid hhd
 have HXO := Lib.hid hxo
 have HCN := Lib.hid hcn
 have HCP := Lib.hid hcp
 clear hv hxn hhd hxo hcn hchk hxl hxe hseg1 hseg2 hbs hn24 hs32 hnn hsl hl64 hmv h1 hh1 hh2 hk her hmm hdo hcp hcm hp hmac hnc hcx hn6
 go_upto_region 4 with fail
 refine wp_region_held_drew (S := fun W' => Mem w [blkE g8 40 mm.cells, blkE (w.heap.size + 1 + 1) 27 ((List.replicate 16 (0 : UInt8)).map u8v), blkE (w.heap.size + 1) 27 (mac.map u8v), blkE w.heap.size 23 (p.map u8v)] W') (by kernel_rfl) ((HM.out).drew) (fun hHeld => ?_)
 replace HM := Lib.hid HM.out.drew
 generalize w4.drew = wd1 at HM hHeld ⊢
 refine tf (v := .agg cp) 0 rfl (by rw [← HCP.out]; exact yields_load_obj (by rfl) 23 (.tmp 3) rfl w.heap.size 0 rfl (p.map u8v) (fun w' hb => (Mem.blk hb 3 rfl).all) _ Tryz.underlying23 rfl (cells32 p HP.out)) ?_
 (try simp only [Act.put, sA, s0, s1])
 refine tf (v := ?_) 2 rfl (Or.inl ⟨by rfl, ?_⟩) ?_
 rotate_left
 · (intro w hSw; (try dsimp only at hSw); go_simp; try with_reducible rfl)
 (try simp only [Act.put, sA, s0, s1])
 refine tf (v := .agg cn) 3 rfl (by rw [← HCN.out]; exact yields_load_obj (by rfl) 25 (.tmp 23) rfl g8 1 rfl (nn.map u8v) (fun w' hb => by have h := (Mem.blk hb 0 rfl).sub 1 24; rw [HSEG.out.1] at h; exact h) _ Tryz.underlying25 rfl (xc_cellsL nn HN.out)) ?_
 (try simp only [Act.put, sA, s0, s1])
 refine tf (v := ?_) 4 rfl (Or.inl ⟨by rfl, ?_⟩) ?_
 rotate_left
 · (intro w hSw; (try dsimp only at hSw); go_simp; try with_reducible rfl)
 (try simp only [Act.put, sA, s0, s1])
 refine tf (v := ?_) 5 rfl (Or.inl ⟨by rfl, ?_⟩) ?_
 rotate_left
 · (intro w hSw; (try dsimp only at hSw); go_simp; try with_reducible rfl)
 (try simp only [Act.put, sA, s0, s1])
 refine tf (v := ?_) 6 rfl (Or.inl ⟨by rfl, ?_⟩) ?_
 rotate_left
 · (intro w hSw; (try dsimp only at hSw); go_simp; try with_reducible rfl)
 (try simp only [Act.put, sA, s0, s1])
 refine so 1 rfl fun K hK => ?_
 clear hHeld
 go_simp
 refine (HHD.out _ (HLV.out.below HM.out.bel)).mono ?_
 rintro e wy2 ⟨rfl, hb⟩
 replace HM := Lib.hid (show Mem w [blkE g8 40 mm.cells, blkE (w.heap.size + 1 + 1) 27 ((List.replicate 16 (0 : UInt8)).map u8v), blkE (w.heap.size + 1) 27 (mac.map u8v), blkE w.heap.size 23 (p.map u8v)] wy2 from HM.out.below hb)
 clear hb
 go_wp2_with fail
 refine hK.out _ _ (HM.out) (fun hHeld => ?_)
 clear hK K
 (try simp only [Act.put, sA, s0, s1])
 refine so 7 rfl fun K hK => ?_
 clear hHeld
 go_simp
 refine (HXO.out g8 (w.heap.size + 1) _ (by have h := (HM.out.blk 0 rfl).sub 25 32; rw [HSEG.out.2] at h; exact rd_of_at (HM.out.blk 0 rfl).lt h HSLN.out) (blk_all (HM.out.blk 2 rfl) HMC.out)).mono ?_
 rintro e wy3 ⟨A5, c5, rfl, hr, h5, h6, hb⟩
 have HR5 := Lib.hid hr
 replace HM := Lib.hid (show Mem w [blkE g8 40 mm.cells, blkE (w.heap.size + 1 + 1) 27 ((List.replicate 16 (0 : UInt8)).map u8v), blkE (w.heap.size + 1) 27 (mac.map u8v), blkE w.heap.size 23 (p.map u8v)] wy3 from HM.out.below hb)
 clear hb hr h5 h6
 go_wp2_with fail
 refine hK.out _ _ (HM.out) (fun hHeld => ?_)
 clear hK K
 (try simp only [Act.put, sA, s0, s1])
 refine tf (v := ?_) 8 rfl (Or.inl ⟨by rfl, ?_⟩) ?_
 rotate_left
 · (intro w hSw; (try dsimp only at hSw); go_simp; try with_reducible rfl)
 (try simp only [Act.put, sA, s0, s1])
 refine tf (v := ?_) 9 rfl (Or.inl ⟨by rfl, ?_⟩) ?_
 rotate_left
 · (intro w hSw; (try dsimp only at hSw); go_simp; try with_reducible rfl)
 (try simp only [Act.put, sA, s0, s1])
 refine tf (v := ?_) 10 rfl (Or.inl ⟨by rfl, ?_⟩) ?_
 rotate_left
 · (intro w hSw; (try dsimp only at hSw); go_simp; try with_reducible rfl)
 (try simp only [Act.put, sA, s0, s1])
 refine tf (v := ?_) 11 rfl (Or.inl ⟨by rfl, ?_⟩) ?_
 rotate_left
 · (intro w hSw; (try dsimp only at hSw); go_simp; try with_reducible rfl)
 (try simp only [Act.put, sA, s0, s1])
 refine tf (v := ?_) 12 rfl (Or.inl ⟨by rfl, ?_⟩) ?_
 rotate_left
 · (intro w hSw; (try dsimp only at hSw); go_simp; try with_reducible rfl)
 (try simp only [Act.put, sA, s0, s1])
 refine wpAnyH_done (by kernel_rfl) ?_ _
 clear hHeld
 by_cases hx0 : xe = 0
 case neg =>
  have ex : ((xe : Int) != 0) = true := by rw [bne_iff_ne]; omega
  have HVN := Lib.hid (show openB p mac l = (List.replicate 16 0, xe) from by rw [HV.out, if_neg hx0])
  clear hx0
  go_wp2_with (first | (refine wpList_build_as rfl 27 [] rfl zb16 ?_ ?_; kernel_rfl) | (refine wpList_store_blk rfl 27 (.tmp 6) (.tmp 33) rfl (w.heap.size + 1 + 1) ((List.replicate 16 (0 : UInt8)).map u8v) rfl (by rfl) 27 ((List.replicate 16 (0 : UInt8)).map u8v) (HM.out.blk 1 rfl) (ae_cellsT _ (by simp)) (by simp) (u8v_one _) ?_; intro w9 hb9 hg9))
  exact bodyPost_ret (results_obj_tmp rfl _ _ (w.heap.size + 1 + 1) 27 ((List.replicate 16 (0 : UInt8)).map u8v) _ rfl hb9 Tryz.underlying27 rfl (ae_cellsT _ (by simp))) rfl ⟨by rw [HVN.out]; rfl, (HM.out.put 1 rfl _ hg9 hb9).bel⟩
 subst hx0
 have HVP := Lib.hid (show openB p mac l = (xl, 0) from by rw [HV.out, if_pos rfl])
 have HX16 := Lib.hid (HXN.out rfl)
 rw [HX16.out] at HR5
 obtain ⟨g5, o5, rfl, -, -⟩ := HR5.out.at_ (by omega)
 generalize hwz : wy3 = wz at HM HR5 ⊢
 clear hwz
 obtain ⟨cx, hcx⟩ : ∃ z, (xl.map u8v).toArray = z := ⟨_, rfl⟩
 have HCX := Lib.hid hcx
 clear hcx
 have ha := run_arrayAt_off (P := Tryz.prog) wz 27 g5 o5 xl.length c5 16 5 Tryz.underlying27 (Nat.le_of_eq HX16.out.symm)
 go_wp2_with (first | (refine wpList_load_obj rfl 27 (.tmp 36) rfl g5 o5 rfl (xl.map u8v) HR5.out.at_all _ Tryz.underlying27 rfl (ae_cellsT xl HX16.out) ?_; rw [HCX.out]) | (refine wpList_store_blk rfl 27 (.tmp 6) (.tmp 37) rfl (w.heap.size + 1 + 1) (xl.map u8v) rfl (by show Value.agg cx = _; rw [HCX.out]) 27 ((List.replicate 16 (0 : UInt8)).map u8v) (HM.out.blk 1 rfl) (ae_cellsT xl HX16.out) (by rw [List.length_map, List.length_map, HX16.out]; rfl) (u8v_one _) ?_; intro w9 hb9 hg9))
 exact bodyPost_ret (results_obj_tmp rfl _ _ (w.heap.size + 1 + 1) 27 (xl.map u8v) _ rfl hb9 Tryz.underlying27 rfl (ae_cellsT xl HX16.out)) rfl ⟨by rw [HVP.out]; rfl, (HM.out.put 1 rfl _ hg9 hb9).bel⟩
theorem mc_replies_all (w : World) (hlv : LvBlake w) (p p2 nn ck mac : List UInt8) (rc ia ib : Nat) (Ar : Option Addr) (nb cr : Nat) (lr : List UInt8) (hp : p.length = 32) (hp2 : p2.length = 32) (hnn : nn.length = 24) (hck : ck.length = 16) (hmac : mac.length = 16) (hrc : rc ≤ 4294967295) (hia : ia ≤ 255) (hib : ib ≤ 255) (hnb : nb ≤ cr) (hcr : cr ≤ maxLen) (hrr : Rd w w.heap.size Ar nb lr) :
 Calls Tryz.prog 3 #[.agg (p.map u8v).toArray, .agg (p2.map u8v).toArray, .agg (nn.map u8v).toArray, .agg (ck.map u8v).toArray, .agg (mac.map u8v).toArray, .int .u32 (rc : Int), .int .u8 (ia : Int), .int .u8 (ib : Int), .slice Ar nb cr] w fun e w' => e = .returned (.bool true) ∧ Below w.heap.size w w' :=
 mc_replies_walk mcSealI mcCheck1C mcReplyC mcOpenC w hlv p p2 nn ck mac hp hp2 hnn hck hmac rc ia ib (by omega) hia hib Ar nb cr lr hnb hcr hrr
end Go.Proofs.YtlddafkikkaonaaGreatDoor
