/-
  The contract of blake.mixRounds: ten rounds over the words, in the order that the package's table gives. No statement is proved here.
-/
import Derived.Deep.QuietTactic
import Derived.BigQuiet
import Derived.RegionTactic
import Derived.BigRegion
import Derived.Deep.RegionWith
import Derived.Deep.DeepCutAuto
import Derived.Test.YtlddafkikkaonaaGreatDoorMacsRepliesB13
namespace Go.Proofs.YtlddafkikkaonaaGreatDoor
open Go.RowKit
/-- a row of the table -/
def rowV (r : Nat) : List Value := (List.range 16).map fun i => .int .u8 (ordN r i : Int)
theorem rowV_get (r i : Nat) (hi : i < 16) : (rowV r)[i]? = some (.int .u8 (ordN r i : Int)) := by
 simp [rowV, hi]
theorem rowV_length (r : Nat) : (rowV r).length = 16 := by rw [rowV, List.length_map, List.length_range]
theorem rowV_cells (r : Nat) : (Tryz.prog.info? 26).map (·.size) = some (rowV r).length := by
 rw [rowV_length]; kernel_rfl
theorem rowV_one (r : Nat) : ∀ v ∈ rowV r, v.oneCell' = true := by
 intro v hv
 obtain ⟨_, _, rfl⟩ := List.mem_map.1 hv
 rfl
set_option maxRecDepth 100000 in
theorem permV_row (r : Nat) (hr : r < 10) : permV.toArray.extract (r * 16) (r * 16 + 16) = (rowV r).toArray := by
 rcases (show r = 0 ∨ r = 1 ∨ r = 2 ∨ r = 3 ∨ r = 4 ∨ r = 5 ∨ r = 6 ∨ r = 7 ∨ r = 8 ∨ r = 9 by omega) with rfl | rfl | rfl | rfl | rfl | rfl | rfl | rfl | rfl | rfl <;> rfl
set_option maxRecDepth 100000 in
theorem permV_cells : (Tryz.prog.info? 133).map (·.size) = some permV.length := by kernel_rfl
theorem bp_info : ∃ i, Tryz.prog.info? 26 = some i ∧ i.size = 16 := by
 have h : (Tryz.prog.info? 26).map (·.size) = some 16 := by kernel_rfl
 cases hi : Tryz.prog.info? 26 with
 | none => rw [hi] at h; cases h
 | some i => rw [hi] at h; exact ⟨i, rfl, by simpa using h⟩
theorem bpCells16 (l : List UInt32) (h : l.length = 16) : (Tryz.prog.info? 86).map (·.size) = some (l.map u32v).length := by
 rw [List.length_map, h]; kernel_rfl
set_option maxRecDepth 100000 in
set_option maxHeartbeats 16000000 in
theorem bpRounds_any (l m : List UInt32) (hl : l.length = 16) (hm : m.length = 16) (w : World) (hlv : LvBlake w) :
 Calls Tryz.prog 105 #[.agg (l.map u32v).toArray, .agg (m.map u32v).toArray] w fun e w' => e = .returned (.agg ((roundsB m 10 l).map u32v).toArray) ∧ Below w.heap.size w w' := by
 obtain ⟨cv, hcv⟩ : ∃ c, (l.map u32v).toArray = c := ⟨_, rfl⟩
 obtain ⟨cm, hcm⟩ : ∃ c, (m.map u32v).toArray = c := ⟨_, rfl⟩
 rw [hcv, hcm]
 have HM := Lib.hid (show Mem w [blkE (w.heap.size + 1 + 1) 86 (zw 16), blkE (w.heap.size + 1) 122 ((m).map u32v), blkE w.heap.size 86 ((l).map u32v)] (((w.alloc (.cells cv 86)).alloc (.cells cm 122)).alloc (.cells zw16_ 86)) from (((Mem.nil w).alloc rfl 86 cv (l.map u32v) hcv.symm).alloc (by simp) 122 cm (m.map u32v) hcm.symm).alloc (by simp) 86 zw16_ (zw 16) rfl)
 have HLM := Lib.hid hm
 have HLL := Lib.hid hl
 have HLV := Lib.hid hlv
 have HCV := Lib.hid hcv
 obtain ⟨i16, hi16, hs16⟩ := bp_info
 have HI := Lib.hid (And.intro hi16 hs16)
 clear hcv hcm hm hl hlv hi16 hs16
 go_enter Tryz.func105, Tryz.ntmps105
 go_upto_region 1 with fail
 generalize (((w.alloc (.cells cv 86)).alloc (.cells cm 122)).alloc (.cells zw16_ 86)) = w1 at HM ⊢
 have HA := Lib.hid (HM.out.alloc rfl 86 zw16_ (zw 16) rfl)
 go_upto_region 2 with (first | (refine wpList_load_blk rfl 86 (.tmp 2) rfl w.heap.size rfl 86 (l.map u32v) (HM.out.blk 2 rfl) 16 28 Tryz.underlying86 (bpCells16 l HLL.out) ?_; rw [HCV.out]) | (refine wpList_store_blk rfl 86 (.tmp 5) (.tmp 8) rfl w1.heap.size (l.map u32v) rfl (by show Value.agg cv = _; rw [HCV.out]) 86 (zw 16) (HA.out.blk 0 rfl) (bpCells16 l HLL.out) (by rw [List.length_map, HLL.out]; rfl) (u32v_one _) ?_; intro w2 hb3 hg3))
 replace HM := Lib.hid (show Mem w [blkE w1.heap.size 86 (l.map u32v), blkE (w.heap.size + 1 + 1) 86 (zw 16), blkE (w.heap.size + 1) 122 ((m).map u32v), blkE w.heap.size 86 ((l).map u32v)] w2 from HA.out.put 0 rfl _ hg3 hb3)
 clear hb3 hg3 HA HCV
 generalize w1.heap.size = G at HM ⊢
 obtain ⟨tp, htp⟩ := (HLV.out.below HM.out.bel).2
 obtain ⟨cp, hcp⟩ : ∃ c, permV.toArray = c := ⟨_, rfl⟩
 have HCP := Lib.hid hcp
 clear hcp
 go_wp2_with (refine wpList_load_blk rfl 133 (.global 1) rfl 1 rfl tp permV htp 10 26 Tryz.underlying133 permV_cells ?_; rw [HCP.out])
 clear htp
 go_loopw [10] (fun i wr => ∃ j : Nat, j ≤ 10 ∧ i = .int .i64 (j : Int) ∧ Mem w [blkE G 86 ((roundsB m j l).map u32v), blkE (w.heap.size + 1 + 1) 86 (zw 16), blkE (w.heap.size + 1) 122 ((m).map u32v), blkE w.heap.size 86 ((l).map u32v)] wr) (fun i _ => 10 - (intOf i).toNat)
 case atStart => exact ⟨0, by omega, rfl, HM.out⟩
 case round =>
  clear HM
  obtain ⟨r, hj, rfl, hM⟩ := hrel
  have HM := Lib.hid hM
  clear hM
  by_cases hr10 : r < 10
  ·
   have d10 : decide ((r : Int) < 10) = true := by simp; omega
   have HL0 := Lib.hid (show (roundsB m r l).length = 16 by rw [roundsB_length]; exact HLL.out)
   obtain ⟨v0, hv0⟩ : ∃ v, roundsB m r l = v := ⟨_, rfl⟩
   rw [hv0] at HM HL0
   have HV0 := Lib.hid hv0
   clear hv0
   obtain ⟨cr, hcr⟩ : ∃ c, (rowV r).toArray = c := ⟨_, rfl⟩
   have HCR := Lib.hid (show cp.extract (r * 16) (r * 16 + 16) = cr by rw [← HCP.out, ← hcr]; exact permV_row r hr10)
   have HCO := Lib.hid hcr
   clear hcr
   have HA := Lib.hid (HM.out.alloc rfl 26 zb16 (aeZ 16) rfl)
   go_upto_region 5 with (first | (refine wpList_index_row rfl 133 26 5 (.tmp 9) (.tmp 10) rfl cp rfl r rfl 10 16 Tryz.underlying133 Tryz.underlying26 i16 HI.out.1 HI.out.2 hr10 ?_; rw [HCR.out]) | (refine wpList_store_blk rfl 26 (.tmp 7) (.tmp 12) rfl wr.heap.size (rowV r) rfl (by show Value.agg cr = _; rw [HCO.out]) 26 (aeZ 16) (HA.out.blk 0 rfl) (rowV_cells r) (by rw [rowV_length]; rfl) (rowV_one r) ?_; intro wq0 hb3 hg3))
   replace HM := Lib.hid (show Mem w [blkE wr.heap.size 26 (rowV r), blkE G 86 ((v0).map u32v), blkE (w.heap.size + 1 + 1) 86 (zw 16), blkE (w.heap.size + 1) 122 ((m).map u32v), blkE w.heap.size 86 ((l).map u32v)] wq0 from HA.out.put 0 rfl _ hg3 hb3)
   clear hb3 hg3 HA HCO HCR d10
   generalize wr.heap.size = PP at HM ⊢
   go_upto_region 5 with fail
   obtain ⟨X, hX⟩ : ∃ x, wd m (ordN r 0) = x := ⟨_, rfl⟩
   obtain ⟨Y, hY⟩ : ∃ x, wd m (ordN r 1) = x := ⟨_, rfl⟩
   have o1 := ordN_lt r 0 hr10 (by omega)
   have o2 := ordN_lt r 1 hr10 (by omega)
   obtain ⟨p1, hp1⟩ : ∃ p, ordN r 0 = p := ⟨_, rfl⟩
   obtain ⟨p2, hp2⟩ : ∃ p, ordN r 1 = p := ⟨_, rfl⟩
   rw [hp1] at hX o1
   rw [hp2] at hY o2
   have i1 : (p1 : Int) < 16 := by omega
   have i2 : (p2 : Int) < 16 := by omega
   have FX := Lib.hid (show ∀ w' : World, Blk w' PP 26 (rowV r) → w'.cell? ⟨PP, 0, none⟩ = some (.int .u8 (p1 : Int)) from fun w' hb => by rw [hb.cell, rowV_get r 0 (by omega), hp1])
   have FY := Lib.hid (show ∀ w' : World, Blk w' PP 26 (rowV r) → w'.cell? ⟨PP, 1, none⟩ = some (.int .u8 (p2 : Int)) from fun w' hb => by rw [hb.cell, rowV_get r 1 (by omega), hp2])
   obtain ⟨⟨a0, b0, c0, d0⟩, hx⟩ : ∃ x, mixT (wd v0 0, wd v0 4, wd v0 8, wd v0 12) X Y = x := ⟨_, rfl⟩
   have hm := mixB_mixT v0 HL0.out 0 4 8 12 (by omega) (by omega) (by omega) (by omega) (by omega) (by omega) (by omega) (by omega) (by omega) (by omega) X Y
   rw [hx] at hm
   dsimp only at hm
   have CQ := Lib.hid (bpMix_of hx)
   obtain ⟨vn, hvn⟩ : ∃ v, mixB v0 0 4 8 12 X Y = v := ⟨_, rfl⟩
   have HVN := Lib.hid (show mixB v0 0 4 8 12 (wd m (ordN r 0)) (wd m (ordN r 1)) = vn by rw [hp1, hp2, hX, hY, hvn])
   have HLN := Lib.hid (show vn.length = 16 by rw [← hvn, mixB_length]; exact HL0.out)
   rw [hvn] at hm
   have HMX := Lib.hid hm
   have HX := Lib.hid hX
   have HY := Lib.hid hY
   clear hvn hp1 hp2 hX hY o1 o2 hx hm
   obtain ⟨ga, hga⟩ : ∃ x, wd v0 0 = x := ⟨_, rfl⟩
   obtain ⟨gb, hgb⟩ : ∃ x, wd v0 4 = x := ⟨_, rfl⟩
   obtain ⟨gc, hgc⟩ : ∃ x, wd v0 8 = x := ⟨_, rfl⟩
   obtain ⟨gd, hgd⟩ : ∃ x, wd v0 12 = x := ⟨_, rfl⟩
   rw [hga, hgb, hgc, hgd] at CQ
   have HGa := Lib.hid hga
   have HGb := Lib.hid hgb
   have HGc := Lib.hid hgc
   have HGd := Lib.hid hgd
   clear hga hgb hgc hgd
   refine wp_region_held_drew (S := fun W' => Mem w [blkE PP 26 (rowV r), blkE (w.heap.size + 1 + 1) 86 (zw 16), blkE (w.heap.size + 1) 122 ((m).map u32v), blkE w.heap.size 86 ((l).map u32v)] W') (by as_aux_lemma => kernel_rfl) (((HM.out.erase 1)).drew) (fun hHeld => ?_)
   replace HM := Lib.hid HM.out.drew
   generalize wq0.drew = wd1 at HM hHeld ⊢
   refine take_first (v := ?_) 0 rfl (by as_aux_lemma => kernel_rfl) (by as_aux_lemma => kernel_rfl) (by as_aux_lemma => kernel_rfl) (fun _ _ _ h => h) (Or.inl ⟨by rfl, ?_⟩) (by assumption) ?_
   rotate_left
   · (intro w hSw; (try dsimp only at hSw); go_simp; try with_reducible rfl)
   (try simp only [Act.put, sA, s0, s1])
   refine take_first (v := ?_) 2 rfl (by as_aux_lemma => kernel_rfl) (by as_aux_lemma => kernel_rfl) (by as_aux_lemma => kernel_rfl) (fun _ _ _ h => h) (Or.inl ⟨by rfl, ?_⟩) (by assumption) ?_
   rotate_left
   · (intro w hSw; (try dsimp only at hSw); go_simp; try with_reducible rfl)
   (try simp only [Act.put, sA, s0, s1])
   refine take_first (v := ?_) 4 rfl (by as_aux_lemma => kernel_rfl) (by as_aux_lemma => kernel_rfl) (by as_aux_lemma => kernel_rfl) (fun _ _ _ h => h) (Or.inl ⟨by rfl, ?_⟩) (by assumption) ?_
   rotate_left
   · (intro w hSw; (try dsimp only at hSw); go_simp; try with_reducible rfl)
   (try simp only [Act.put, sA, s0, s1])
   refine take_first (v := ?_) 6 rfl (by as_aux_lemma => kernel_rfl) (by as_aux_lemma => kernel_rfl) (by as_aux_lemma => kernel_rfl) (fun _ _ _ h => h) (Or.inl ⟨by rfl, ?_⟩) (by assumption) ?_
   rotate_left
   · (intro w hSw; (try dsimp only at hSw); go_simp; try with_reducible rfl)
   (try simp only [Act.put, sA, s0, s1])
   refine take_first (v := ?_) 8 rfl (by as_aux_lemma => kernel_rfl) (by as_aux_lemma => kernel_rfl) (by as_aux_lemma => kernel_rfl) (fun _ _ _ h => h) (Or.inl ⟨by rfl, ?_⟩) (by assumption) ?_
   rotate_left
   · (intro w hSw; (try dsimp only at hSw); go_simp; try with_reducible rfl)
   (try simp only [Act.put, sA, s0, s1])
   refine take_first (v := ?_) 9 rfl (by as_aux_lemma => kernel_rfl) (by as_aux_lemma => kernel_rfl) (by as_aux_lemma => kernel_rfl) (fun _ _ _ h => h) (Or.inl ⟨by rfl, ?_⟩) (by assumption) ?_
   rotate_left
   · (intro w hSw; (try dsimp only at hSw); have fx := FX.out w (Mem.blk hSw 0 rfl); go_simp; try with_reducible rfl)
   (try simp only [Act.put, sA, s0, s1])
   refine take_first (v := ?_) 10 rfl (by as_aux_lemma => kernel_rfl) (by as_aux_lemma => kernel_rfl) (by as_aux_lemma => kernel_rfl) (fun _ _ _ h => h) (Or.inl ⟨by rfl, ?_⟩) (by assumption) ?_
   rotate_left
   · (intro w hSw; (try dsimp only at hSw); go_simp; try with_reducible rfl)
   (try simp only [Act.put, sA, s0, s1])
   refine take_first (v := ?_) 11 rfl (by as_aux_lemma => kernel_rfl) (by as_aux_lemma => kernel_rfl) (by as_aux_lemma => kernel_rfl) (fun _ _ _ h => h) (Or.inl ⟨by rfl, ?_⟩) (by assumption) ?_
   rotate_left
   · (intro w hSw; (try dsimp only at hSw); have fx := (Mem.blk hSw 2 rfl).word p1 (by rw [HLM.out]; omega); rw [HX.out] at fx; go_simp; try with_reducible rfl)
   (try simp only [Act.put, sA, s0, s1])
   refine take_first (v := ?_) 12 rfl (by as_aux_lemma => kernel_rfl) (by as_aux_lemma => kernel_rfl) (by as_aux_lemma => kernel_rfl) (fun _ _ _ h => h) (Or.inl ⟨by rfl, ?_⟩) (by assumption) ?_
   rotate_left
   · (intro w hSw; (try dsimp only at hSw); go_simp; try with_reducible rfl)
   (try simp only [Act.put, sA, s0, s1])
   refine take_first (v := ?_) 13 rfl (by as_aux_lemma => kernel_rfl) (by as_aux_lemma => kernel_rfl) (by as_aux_lemma => kernel_rfl) (fun _ _ _ h => h) (Or.inl ⟨by rfl, ?_⟩) (by assumption) ?_
   rotate_left
   · (intro w hSw; (try dsimp only at hSw); have fx := FY.out w (Mem.blk hSw 0 rfl); go_simp; try with_reducible rfl)
   (try simp only [Act.put, sA, s0, s1])
   refine take_first (v := ?_) 14 rfl (by as_aux_lemma => kernel_rfl) (by as_aux_lemma => kernel_rfl) (by as_aux_lemma => kernel_rfl) (fun _ _ _ h => h) (Or.inl ⟨by rfl, ?_⟩) (by assumption) ?_
   rotate_left
   · (intro w hSw; (try dsimp only at hSw); go_simp; try with_reducible rfl)
   (try simp only [Act.put, sA, s0, s1])
   refine take_first (v := ?_) 15 rfl (by as_aux_lemma => kernel_rfl) (by as_aux_lemma => kernel_rfl) (by as_aux_lemma => kernel_rfl) (fun _ _ _ h => h) (Or.inl ⟨by rfl, ?_⟩) (by assumption) ?_
   rotate_left
   · (intro w hSw; (try dsimp only at hSw); have fx := (Mem.blk hSw 2 rfl).word p2 (by rw [HLM.out]; omega); rw [HY.out] at fx; go_simp; try with_reducible rfl)
   (try simp only [Act.put, sA, s0, s1])
   refine take_load (v := ?_) [3, 5, 7] 1 rfl (by as_aux_lemma => kernel_rfl) (by as_aux_lemma => kernel_rfl) (by as_aux_lemma => kernel_rfl) (by as_aux_lemma => kernel_rfl) (by as_aux_lemma => kernel_rfl) (fun _ _ _ h => h) (Or.inl ⟨by rfl, ?_⟩) (by assumption) ?_
   rotate_left
   · (intro w hSw; subst hSw; have fx := (HM.out.blk 1 rfl).word 0 (by rw [HL0.out]; decide); rw [HGa.out] at fx; go_simp; try with_reducible rfl)
   (try simp only [Act.put, sA, s0, s1])
   refine take_load (v := ?_) [5, 7] 3 rfl (by as_aux_lemma => kernel_rfl) (by as_aux_lemma => kernel_rfl) (by as_aux_lemma => kernel_rfl) (by as_aux_lemma => kernel_rfl) (by as_aux_lemma => kernel_rfl) (fun _ _ _ h => h) (Or.inl ⟨by rfl, ?_⟩) (by assumption) ?_
   rotate_left
   · (intro w hSw; subst hSw; have fx := (HM.out.blk 1 rfl).word 4 (by rw [HL0.out]; decide); rw [HGb.out] at fx; go_simp; try with_reducible rfl)
   (try simp only [Act.put, sA, s0, s1])
   refine take_load (v := ?_) [7] 5 rfl (by as_aux_lemma => kernel_rfl) (by as_aux_lemma => kernel_rfl) (by as_aux_lemma => kernel_rfl) (by as_aux_lemma => kernel_rfl) (by as_aux_lemma => kernel_rfl) (fun _ _ _ h => h) (Or.inl ⟨by rfl, ?_⟩) (by assumption) ?_
   rotate_left
   · (intro w hSw; subst hSw; have fx := (HM.out.blk 1 rfl).word 8 (by rw [HL0.out]; decide); rw [HGc.out] at fx; go_simp; try with_reducible rfl)
   (try simp only [Act.put, sA, s0, s1])
   refine take_load (v := ?_) [] 7 rfl (by as_aux_lemma => kernel_rfl) (by as_aux_lemma => kernel_rfl) (by as_aux_lemma => kernel_rfl) (by as_aux_lemma => kernel_rfl) (by as_aux_lemma => kernel_rfl) (fun _ _ _ h => h) (Or.inl ⟨by rfl, ?_⟩) (by assumption) ?_
   rotate_left
   · (intro w hSw; subst hSw; have fx := (HM.out.blk 1 rfl).word 12 (by rw [HL0.out]; decide); rw [HGd.out] at fx; go_simp; try with_reducible rfl)
   (try simp only [Act.put, sA, s0, s1])
   refine step_one 16 rfl (by as_aux_lemma => kernel_rfl) (fun K hK => ?_)
   clear hHeld
   go_simp
   refine (CQ.out _).mono ?_
   rintro e wy ⟨rfl, rfl⟩
   go_wp2_with fail
   refine hK.out _ _ ((HM.out.erase 1)) (fun hHeld => ?_)
   clear hK K
   (try simp only [Act.put, sA, s0, s1])
   refine take_first (v := ?_) 17 rfl (by as_aux_lemma => kernel_rfl) (by as_aux_lemma => kernel_rfl) (by as_aux_lemma => kernel_rfl) (fun _ _ _ h => h) (Or.inl ⟨by rfl, ?_⟩) (by assumption) ?_
   rotate_left
   · (intro w hSw; (try dsimp only at hSw); go_simp; try with_reducible rfl)
   (try simp only [Act.put, sA, s0, s1])
   refine take_first (v := ?_) 18 rfl (by as_aux_lemma => kernel_rfl) (by as_aux_lemma => kernel_rfl) (by as_aux_lemma => kernel_rfl) (fun _ _ _ h => h) (Or.inl ⟨by rfl, ?_⟩) (by assumption) ?_
   rotate_left
   · (intro w hSw; (try dsimp only at hSw); go_simp; try with_reducible rfl)
   (try simp only [Act.put, sA, s0, s1])
   refine take_first (v := ?_) 19 rfl (by as_aux_lemma => kernel_rfl) (by as_aux_lemma => kernel_rfl) (by as_aux_lemma => kernel_rfl) (fun _ _ _ h => h) (Or.inl ⟨by rfl, ?_⟩) (by assumption) ?_
   rotate_left
   · (intro w hSw; (try dsimp only at hSw); go_simp; try with_reducible rfl)
   (try simp only [Act.put, sA, s0, s1])
   refine take_first (v := ?_) 20 rfl (by as_aux_lemma => kernel_rfl) (by as_aux_lemma => kernel_rfl) (by as_aux_lemma => kernel_rfl) (fun _ _ _ h => h) (Or.inl ⟨by rfl, ?_⟩) (by assumption) ?_
   rotate_left
   · (intro w hSw; (try dsimp only at hSw); go_simp; try with_reducible rfl)
   (try simp only [Act.put, sA, s0, s1])
   refine take_first (v := ?_) 21 rfl (by as_aux_lemma => kernel_rfl) (by as_aux_lemma => kernel_rfl) (by as_aux_lemma => kernel_rfl) (fun _ _ _ h => h) (Or.inl ⟨by rfl, ?_⟩) (by assumption) ?_
   rotate_left
   · (intro w hSw; (try dsimp only at hSw); go_simp; try with_reducible rfl)
   (try simp only [Act.put, sA, s0, s1])
   refine take_first (v := ?_) 22 rfl (by as_aux_lemma => kernel_rfl) (by as_aux_lemma => kernel_rfl) (by as_aux_lemma => kernel_rfl) (fun _ _ _ h => h) (Or.inl ⟨by rfl, ?_⟩) (by assumption) ?_
   rotate_left
   · (intro w hSw; (try dsimp only at hSw); go_simp; try with_reducible rfl)
   (try simp only [Act.put, sA, s0, s1])
   refine step_one 23 rfl (by as_aux_lemma => kernel_rfl) (fun K hK => ?_)
   clear hHeld
   have fx := (HM.out.blk 1 rfl).word 0 (by (try simp only [List.length_set]); rw [HL0.out]; decide)
   have zx := (HM.out.blk 1 rfl).frozen 0
   go_simp
   replace HM := Lib.hid (show Mem w [blkE PP 26 (rowV r), blkE G 86 (((v0).set 0 a0).map u32v), blkE (w.heap.size + 1 + 1) 86 (zw 16), blkE (w.heap.size + 1) 122 ((m).map u32v), blkE w.heap.size 86 ((l).map u32v)] (wd1.setCell ⟨G, 0, none⟩ (.int .u32 ((a0).toNat : Int))) from by have h := HM.out.setCell 1 rfl 0 (u32v (a0)); rw [← List.map_set] at h; exact h)
   clear fx zx
   generalize wd1.setCell ⟨G, 0, none⟩ (.int .u32 ((a0).toNat : Int)) = wy2 at HM ⊢
   refine hK.out _ _ ((HM.out.erase 1)) (fun hHeld => ?_)
   clear hK K
   (try simp only [Act.put])
   refine take_first (v := ?_) 24 rfl (by as_aux_lemma => kernel_rfl) (by as_aux_lemma => kernel_rfl) (by as_aux_lemma => kernel_rfl) (fun _ _ _ h => h) (Or.inl ⟨by rfl, ?_⟩) (by assumption) ?_
   rotate_left
   · (intro w hSw; (try dsimp only at hSw); go_simp; try with_reducible rfl)
   (try simp only [Act.put, sA, s0, s1])
   refine step_one 25 rfl (by as_aux_lemma => kernel_rfl) (fun K hK => ?_)
   clear hHeld
   have fx := (HM.out.blk 1 rfl).word 4 (by (try simp only [List.length_set]); rw [HL0.out]; decide)
   have zx := (HM.out.blk 1 rfl).frozen 4
   go_simp
   replace HM := Lib.hid (show Mem w [blkE PP 26 (rowV r), blkE G 86 ((((v0).set 0 a0).set 4 b0).map u32v), blkE (w.heap.size + 1 + 1) 86 (zw 16), blkE (w.heap.size + 1) 122 ((m).map u32v), blkE w.heap.size 86 ((l).map u32v)] (wy2.setCell ⟨G, 4, none⟩ (.int .u32 ((b0).toNat : Int))) from by have h := HM.out.setCell 1 rfl 4 (u32v (b0)); rw [← List.map_set] at h; exact h)
   clear fx zx
   generalize wy2.setCell ⟨G, 4, none⟩ (.int .u32 ((b0).toNat : Int)) = wy3 at HM ⊢
   refine hK.out _ _ ((HM.out.erase 1)) (fun hHeld => ?_)
   clear hK K
   (try simp only [Act.put])
   refine take_first (v := ?_) 26 rfl (by as_aux_lemma => kernel_rfl) (by as_aux_lemma => kernel_rfl) (by as_aux_lemma => kernel_rfl) (fun _ _ _ h => h) (Or.inl ⟨by rfl, ?_⟩) (by assumption) ?_
   rotate_left
   · (intro w hSw; (try dsimp only at hSw); go_simp; try with_reducible rfl)
   (try simp only [Act.put, sA, s0, s1])
   refine step_one 27 rfl (by as_aux_lemma => kernel_rfl) (fun K hK => ?_)
   clear hHeld
   have fx := (HM.out.blk 1 rfl).word 8 (by (try simp only [List.length_set]); rw [HL0.out]; decide)
   have zx := (HM.out.blk 1 rfl).frozen 8
   go_simp
   replace HM := Lib.hid (show Mem w [blkE PP 26 (rowV r), blkE G 86 (((((v0).set 0 a0).set 4 b0).set 8 c0).map u32v), blkE (w.heap.size + 1 + 1) 86 (zw 16), blkE (w.heap.size + 1) 122 ((m).map u32v), blkE w.heap.size 86 ((l).map u32v)] (wy3.setCell ⟨G, 8, none⟩ (.int .u32 ((c0).toNat : Int))) from by have h := HM.out.setCell 1 rfl 8 (u32v (c0)); rw [← List.map_set] at h; exact h)
   clear fx zx
   generalize wy3.setCell ⟨G, 8, none⟩ (.int .u32 ((c0).toNat : Int)) = wy4 at HM ⊢
   refine hK.out _ _ ((HM.out.erase 1)) (fun hHeld => ?_)
   clear hK K
   (try simp only [Act.put])
   refine take_first (v := ?_) 28 rfl (by as_aux_lemma => kernel_rfl) (by as_aux_lemma => kernel_rfl) (by as_aux_lemma => kernel_rfl) (fun _ _ _ h => h) (Or.inl ⟨by rfl, ?_⟩) (by assumption) ?_
   rotate_left
   · (intro w hSw; (try dsimp only at hSw); go_simp; try with_reducible rfl)
   (try simp only [Act.put, sA, s0, s1])
   refine step_one 29 rfl (by as_aux_lemma => kernel_rfl) (fun K hK => ?_)
   clear hHeld
   have fx := (HM.out.blk 1 rfl).word 12 (by (try simp only [List.length_set]); rw [HL0.out]; decide)
   have zx := (HM.out.blk 1 rfl).frozen 12
   go_simp
   replace HM := Lib.hid (show Mem w [blkE PP 26 (rowV r), blkE G 86 ((((((v0).set 0 a0).set 4 b0).set 8 c0).set 12 d0).map u32v), blkE (w.heap.size + 1 + 1) 86 (zw 16), blkE (w.heap.size + 1) 122 ((m).map u32v), blkE w.heap.size 86 ((l).map u32v)] (wy4.setCell ⟨G, 12, none⟩ (.int .u32 ((d0).toNat : Int))) from by have h := HM.out.setCell 1 rfl 12 (u32v (d0)); rw [← List.map_set] at h; exact h)
   clear fx zx
   generalize wy4.setCell ⟨G, 12, none⟩ (.int .u32 ((d0).toNat : Int)) = wy5 at HM ⊢
   refine hK.out _ _ ((HM.out.erase 1)) (fun hHeld => ?_)
   clear hK K
   (try simp only [Act.put])
   refine wpAnyH_done (by as_aux_lemma => kernel_rfl) ?_ _
   replace HM := Lib.hid (show Mem w [blkE PP 26 (rowV r), blkE G 86 ((vn).map u32v), blkE (w.heap.size + 1 + 1) 86 (zw 16), blkE (w.heap.size + 1) 122 ((m).map u32v), blkE w.heap.size 86 ((l).map u32v)] wy5 from by have h := HM.out; rw [← HMX.out] at h; exact h)
   generalize hwn : wy5 = wq1 at HM ⊢
   clear hwn
   have HL1 := Lib.hid HLN.out
   have EV1 := Lib.hid HVN.out
   clear CQ HMX HVN HLN FX FY HX HY HGa HGb HGc HGd i1 i2 hHeld
   generalize hvg : vn = v1 at HM HL1 EV1 ⊢
   clear hvg
   as_aux_lemma =>
   go_upto_region 6 with fail
   obtain ⟨X, hX⟩ : ∃ x, wd m (ordN r 2) = x := ⟨_, rfl⟩
   obtain ⟨Y, hY⟩ : ∃ x, wd m (ordN r 3) = x := ⟨_, rfl⟩
   have o1 := ordN_lt r 2 hr10 (by omega)
   have o2 := ordN_lt r 3 hr10 (by omega)
   obtain ⟨p1, hp1⟩ : ∃ p, ordN r 2 = p := ⟨_, rfl⟩
   obtain ⟨p2, hp2⟩ : ∃ p, ordN r 3 = p := ⟨_, rfl⟩
   rw [hp1] at hX o1
   rw [hp2] at hY o2
   have i1 : (p1 : Int) < 16 := by omega
   have i2 : (p2 : Int) < 16 := by omega
   have FX := Lib.hid (show ∀ w' : World, Blk w' PP 26 (rowV r) → w'.cell? ⟨PP, 2, none⟩ = some (.int .u8 (p1 : Int)) from fun w' hb => by rw [hb.cell, rowV_get r 2 (by omega), hp1])
   have FY := Lib.hid (show ∀ w' : World, Blk w' PP 26 (rowV r) → w'.cell? ⟨PP, 3, none⟩ = some (.int .u8 (p2 : Int)) from fun w' hb => by rw [hb.cell, rowV_get r 3 (by omega), hp2])
   obtain ⟨⟨a1, b1, c1, d1⟩, hx⟩ : ∃ x, mixT (wd v1 1, wd v1 5, wd v1 9, wd v1 13) X Y = x := ⟨_, rfl⟩
   have hm := mixB_mixT v1 HL1.out 1 5 9 13 (by omega) (by omega) (by omega) (by omega) (by omega) (by omega) (by omega) (by omega) (by omega) (by omega) X Y
   rw [hx] at hm
   dsimp only at hm
   have CQ := Lib.hid (bpMix_of hx)
   obtain ⟨vn, hvn⟩ : ∃ v, mixB v1 1 5 9 13 X Y = v := ⟨_, rfl⟩
   have HVN := Lib.hid (show mixB v1 1 5 9 13 (wd m (ordN r 2)) (wd m (ordN r 3)) = vn by rw [hp1, hp2, hX, hY, hvn])
   have HLN := Lib.hid (show vn.length = 16 by rw [← hvn, mixB_length]; exact HL1.out)
   rw [hvn] at hm
   have HMX := Lib.hid hm
   have HX := Lib.hid hX
   have HY := Lib.hid hY
   clear hvn hp1 hp2 hX hY o1 o2 hx hm
   obtain ⟨ga, hga⟩ : ∃ x, wd v1 1 = x := ⟨_, rfl⟩
   obtain ⟨gb, hgb⟩ : ∃ x, wd v1 5 = x := ⟨_, rfl⟩
   obtain ⟨gc, hgc⟩ : ∃ x, wd v1 9 = x := ⟨_, rfl⟩
   obtain ⟨gd, hgd⟩ : ∃ x, wd v1 13 = x := ⟨_, rfl⟩
   rw [hga, hgb, hgc, hgd] at CQ
   have HGa := Lib.hid hga
   have HGb := Lib.hid hgb
   have HGc := Lib.hid hgc
   have HGd := Lib.hid hgd
   clear hga hgb hgc hgd
   refine wp_region_held_drew (S := fun W' => Mem w [blkE PP 26 (rowV r), blkE (w.heap.size + 1 + 1) 86 (zw 16), blkE (w.heap.size + 1) 122 ((m).map u32v), blkE w.heap.size 86 ((l).map u32v)] W') (by as_aux_lemma => kernel_rfl) (((HM.out.erase 1)).drew) (fun hHeld => ?_)
   replace HM := Lib.hid HM.out.drew
   generalize wq1.drew = wd1 at HM hHeld ⊢
   refine take_first (v := ?_) 0 rfl (by as_aux_lemma => kernel_rfl) (by as_aux_lemma => kernel_rfl) (by as_aux_lemma => kernel_rfl) (fun _ _ _ h => h) (Or.inl ⟨by rfl, ?_⟩) (by assumption) ?_
   rotate_left
   · (intro w hSw; (try dsimp only at hSw); go_simp; try with_reducible rfl)
   (try simp only [Act.put, sA, s0, s1])
   refine take_first (v := ?_) 2 rfl (by as_aux_lemma => kernel_rfl) (by as_aux_lemma => kernel_rfl) (by as_aux_lemma => kernel_rfl) (fun _ _ _ h => h) (Or.inl ⟨by rfl, ?_⟩) (by assumption) ?_
   rotate_left
   · (intro w hSw; (try dsimp only at hSw); go_simp; try with_reducible rfl)
   (try simp only [Act.put, sA, s0, s1])
   refine take_first (v := ?_) 4 rfl (by as_aux_lemma => kernel_rfl) (by as_aux_lemma => kernel_rfl) (by as_aux_lemma => kernel_rfl) (fun _ _ _ h => h) (Or.inl ⟨by rfl, ?_⟩) (by assumption) ?_
   rotate_left
   · (intro w hSw; (try dsimp only at hSw); go_simp; try with_reducible rfl)
   (try simp only [Act.put, sA, s0, s1])
   refine take_first (v := ?_) 6 rfl (by as_aux_lemma => kernel_rfl) (by as_aux_lemma => kernel_rfl) (by as_aux_lemma => kernel_rfl) (fun _ _ _ h => h) (Or.inl ⟨by rfl, ?_⟩) (by assumption) ?_
   rotate_left
   · (intro w hSw; (try dsimp only at hSw); go_simp; try with_reducible rfl)
   (try simp only [Act.put, sA, s0, s1])
   refine take_first (v := ?_) 8 rfl (by as_aux_lemma => kernel_rfl) (by as_aux_lemma => kernel_rfl) (by as_aux_lemma => kernel_rfl) (fun _ _ _ h => h) (Or.inl ⟨by rfl, ?_⟩) (by assumption) ?_
   rotate_left
   · (intro w hSw; (try dsimp only at hSw); go_simp; try with_reducible rfl)
   (try simp only [Act.put, sA, s0, s1])
   refine take_first (v := ?_) 9 rfl (by as_aux_lemma => kernel_rfl) (by as_aux_lemma => kernel_rfl) (by as_aux_lemma => kernel_rfl) (fun _ _ _ h => h) (Or.inl ⟨by rfl, ?_⟩) (by assumption) ?_
   rotate_left
   · (intro w hSw; (try dsimp only at hSw); have fx := FX.out w (Mem.blk hSw 0 rfl); go_simp; try with_reducible rfl)
   (try simp only [Act.put, sA, s0, s1])
   refine take_first (v := ?_) 10 rfl (by as_aux_lemma => kernel_rfl) (by as_aux_lemma => kernel_rfl) (by as_aux_lemma => kernel_rfl) (fun _ _ _ h => h) (Or.inl ⟨by rfl, ?_⟩) (by assumption) ?_
   rotate_left
   · (intro w hSw; (try dsimp only at hSw); go_simp; try with_reducible rfl)
   (try simp only [Act.put, sA, s0, s1])
   refine take_first (v := ?_) 11 rfl (by as_aux_lemma => kernel_rfl) (by as_aux_lemma => kernel_rfl) (by as_aux_lemma => kernel_rfl) (fun _ _ _ h => h) (Or.inl ⟨by rfl, ?_⟩) (by assumption) ?_
   rotate_left
   · (intro w hSw; (try dsimp only at hSw); have fx := (Mem.blk hSw 2 rfl).word p1 (by rw [HLM.out]; omega); rw [HX.out] at fx; go_simp; try with_reducible rfl)
   (try simp only [Act.put, sA, s0, s1])
   refine take_first (v := ?_) 12 rfl (by as_aux_lemma => kernel_rfl) (by as_aux_lemma => kernel_rfl) (by as_aux_lemma => kernel_rfl) (fun _ _ _ h => h) (Or.inl ⟨by rfl, ?_⟩) (by assumption) ?_
   rotate_left
   · (intro w hSw; (try dsimp only at hSw); go_simp; try with_reducible rfl)
   (try simp only [Act.put, sA, s0, s1])
   refine take_first (v := ?_) 13 rfl (by as_aux_lemma => kernel_rfl) (by as_aux_lemma => kernel_rfl) (by as_aux_lemma => kernel_rfl) (fun _ _ _ h => h) (Or.inl ⟨by rfl, ?_⟩) (by assumption) ?_
   rotate_left
   · (intro w hSw; (try dsimp only at hSw); have fx := FY.out w (Mem.blk hSw 0 rfl); go_simp; try with_reducible rfl)
   (try simp only [Act.put, sA, s0, s1])
   refine take_first (v := ?_) 14 rfl (by as_aux_lemma => kernel_rfl) (by as_aux_lemma => kernel_rfl) (by as_aux_lemma => kernel_rfl) (fun _ _ _ h => h) (Or.inl ⟨by rfl, ?_⟩) (by assumption) ?_
   rotate_left
   · (intro w hSw; (try dsimp only at hSw); go_simp; try with_reducible rfl)
   (try simp only [Act.put, sA, s0, s1])
   refine take_first (v := ?_) 15 rfl (by as_aux_lemma => kernel_rfl) (by as_aux_lemma => kernel_rfl) (by as_aux_lemma => kernel_rfl) (fun _ _ _ h => h) (Or.inl ⟨by rfl, ?_⟩) (by assumption) ?_
   rotate_left
   · (intro w hSw; (try dsimp only at hSw); have fx := (Mem.blk hSw 2 rfl).word p2 (by rw [HLM.out]; omega); rw [HY.out] at fx; go_simp; try with_reducible rfl)
   (try simp only [Act.put, sA, s0, s1])
   refine take_load (v := ?_) [3, 5, 7] 1 rfl (by as_aux_lemma => kernel_rfl) (by as_aux_lemma => kernel_rfl) (by as_aux_lemma => kernel_rfl) (by as_aux_lemma => kernel_rfl) (by as_aux_lemma => kernel_rfl) (fun _ _ _ h => h) (Or.inl ⟨by rfl, ?_⟩) (by assumption) ?_
   rotate_left
   · (intro w hSw; subst hSw; have fx := (HM.out.blk 1 rfl).word 1 (by rw [HL1.out]; decide); rw [HGa.out] at fx; go_simp; try with_reducible rfl)
   (try simp only [Act.put, sA, s0, s1])
   refine take_load (v := ?_) [5, 7] 3 rfl (by as_aux_lemma => kernel_rfl) (by as_aux_lemma => kernel_rfl) (by as_aux_lemma => kernel_rfl) (by as_aux_lemma => kernel_rfl) (by as_aux_lemma => kernel_rfl) (fun _ _ _ h => h) (Or.inl ⟨by rfl, ?_⟩) (by assumption) ?_
   rotate_left
   · (intro w hSw; subst hSw; have fx := (HM.out.blk 1 rfl).word 5 (by rw [HL1.out]; decide); rw [HGb.out] at fx; go_simp; try with_reducible rfl)
   (try simp only [Act.put, sA, s0, s1])
   refine take_load (v := ?_) [7] 5 rfl (by as_aux_lemma => kernel_rfl) (by as_aux_lemma => kernel_rfl) (by as_aux_lemma => kernel_rfl) (by as_aux_lemma => kernel_rfl) (by as_aux_lemma => kernel_rfl) (fun _ _ _ h => h) (Or.inl ⟨by rfl, ?_⟩) (by assumption) ?_
   rotate_left
   · (intro w hSw; subst hSw; have fx := (HM.out.blk 1 rfl).word 9 (by rw [HL1.out]; decide); rw [HGc.out] at fx; go_simp; try with_reducible rfl)
   (try simp only [Act.put, sA, s0, s1])
   refine take_load (v := ?_) [] 7 rfl (by as_aux_lemma => kernel_rfl) (by as_aux_lemma => kernel_rfl) (by as_aux_lemma => kernel_rfl) (by as_aux_lemma => kernel_rfl) (by as_aux_lemma => kernel_rfl) (fun _ _ _ h => h) (Or.inl ⟨by rfl, ?_⟩) (by assumption) ?_
   rotate_left
   · (intro w hSw; subst hSw; have fx := (HM.out.blk 1 rfl).word 13 (by rw [HL1.out]; decide); rw [HGd.out] at fx; go_simp; try with_reducible rfl)
   (try simp only [Act.put, sA, s0, s1])
   refine step_one 16 rfl (by as_aux_lemma => kernel_rfl) (fun K hK => ?_)
   clear hHeld
   go_simp
   refine (CQ.out _).mono ?_
   rintro e wy ⟨rfl, rfl⟩
   go_wp2_with fail
   refine hK.out _ _ ((HM.out.erase 1)) (fun hHeld => ?_)
   clear hK K
   (try simp only [Act.put, sA, s0, s1])
   refine take_first (v := ?_) 17 rfl (by as_aux_lemma => kernel_rfl) (by as_aux_lemma => kernel_rfl) (by as_aux_lemma => kernel_rfl) (fun _ _ _ h => h) (Or.inl ⟨by rfl, ?_⟩) (by assumption) ?_
   rotate_left
   · (intro w hSw; (try dsimp only at hSw); go_simp; try with_reducible rfl)
   (try simp only [Act.put, sA, s0, s1])
   refine take_first (v := ?_) 18 rfl (by as_aux_lemma => kernel_rfl) (by as_aux_lemma => kernel_rfl) (by as_aux_lemma => kernel_rfl) (fun _ _ _ h => h) (Or.inl ⟨by rfl, ?_⟩) (by assumption) ?_
   rotate_left
   · (intro w hSw; (try dsimp only at hSw); go_simp; try with_reducible rfl)
   (try simp only [Act.put, sA, s0, s1])
   refine take_first (v := ?_) 19 rfl (by as_aux_lemma => kernel_rfl) (by as_aux_lemma => kernel_rfl) (by as_aux_lemma => kernel_rfl) (fun _ _ _ h => h) (Or.inl ⟨by rfl, ?_⟩) (by assumption) ?_
   rotate_left
   · (intro w hSw; (try dsimp only at hSw); go_simp; try with_reducible rfl)
   (try simp only [Act.put, sA, s0, s1])
   refine take_first (v := ?_) 20 rfl (by as_aux_lemma => kernel_rfl) (by as_aux_lemma => kernel_rfl) (by as_aux_lemma => kernel_rfl) (fun _ _ _ h => h) (Or.inl ⟨by rfl, ?_⟩) (by assumption) ?_
   rotate_left
   · (intro w hSw; (try dsimp only at hSw); go_simp; try with_reducible rfl)
   (try simp only [Act.put, sA, s0, s1])
   refine take_first (v := ?_) 21 rfl (by as_aux_lemma => kernel_rfl) (by as_aux_lemma => kernel_rfl) (by as_aux_lemma => kernel_rfl) (fun _ _ _ h => h) (Or.inl ⟨by rfl, ?_⟩) (by assumption) ?_
   rotate_left
   · (intro w hSw; (try dsimp only at hSw); go_simp; try with_reducible rfl)
   (try simp only [Act.put, sA, s0, s1])
   refine take_first (v := ?_) 22 rfl (by as_aux_lemma => kernel_rfl) (by as_aux_lemma => kernel_rfl) (by as_aux_lemma => kernel_rfl) (fun _ _ _ h => h) (Or.inl ⟨by rfl, ?_⟩) (by assumption) ?_
   rotate_left
   · (intro w hSw; (try dsimp only at hSw); go_simp; try with_reducible rfl)
   (try simp only [Act.put, sA, s0, s1])
   refine step_one 23 rfl (by as_aux_lemma => kernel_rfl) (fun K hK => ?_)
   clear hHeld
   have fx := (HM.out.blk 1 rfl).word 1 (by (try simp only [List.length_set]); rw [HL1.out]; decide)
   have zx := (HM.out.blk 1 rfl).frozen 1
   go_simp
   replace HM := Lib.hid (show Mem w [blkE PP 26 (rowV r), blkE G 86 (((v1).set 1 a1).map u32v), blkE (w.heap.size + 1 + 1) 86 (zw 16), blkE (w.heap.size + 1) 122 ((m).map u32v), blkE w.heap.size 86 ((l).map u32v)] (wd1.setCell ⟨G, 1, none⟩ (.int .u32 ((a1).toNat : Int))) from by have h := HM.out.setCell 1 rfl 1 (u32v (a1)); rw [← List.map_set] at h; exact h)
   clear fx zx
   generalize wd1.setCell ⟨G, 1, none⟩ (.int .u32 ((a1).toNat : Int)) = wy2 at HM ⊢
   refine hK.out _ _ ((HM.out.erase 1)) (fun hHeld => ?_)
   clear hK K
   (try simp only [Act.put])
   refine take_first (v := ?_) 24 rfl (by as_aux_lemma => kernel_rfl) (by as_aux_lemma => kernel_rfl) (by as_aux_lemma => kernel_rfl) (fun _ _ _ h => h) (Or.inl ⟨by rfl, ?_⟩) (by assumption) ?_
   rotate_left
   · (intro w hSw; (try dsimp only at hSw); go_simp; try with_reducible rfl)
   (try simp only [Act.put, sA, s0, s1])
   refine step_one 25 rfl (by as_aux_lemma => kernel_rfl) (fun K hK => ?_)
   clear hHeld
   have fx := (HM.out.blk 1 rfl).word 5 (by (try simp only [List.length_set]); rw [HL1.out]; decide)
   have zx := (HM.out.blk 1 rfl).frozen 5
   go_simp
   replace HM := Lib.hid (show Mem w [blkE PP 26 (rowV r), blkE G 86 ((((v1).set 1 a1).set 5 b1).map u32v), blkE (w.heap.size + 1 + 1) 86 (zw 16), blkE (w.heap.size + 1) 122 ((m).map u32v), blkE w.heap.size 86 ((l).map u32v)] (wy2.setCell ⟨G, 5, none⟩ (.int .u32 ((b1).toNat : Int))) from by have h := HM.out.setCell 1 rfl 5 (u32v (b1)); rw [← List.map_set] at h; exact h)
   clear fx zx
   generalize wy2.setCell ⟨G, 5, none⟩ (.int .u32 ((b1).toNat : Int)) = wy3 at HM ⊢
   refine hK.out _ _ ((HM.out.erase 1)) (fun hHeld => ?_)
   clear hK K
   (try simp only [Act.put])
   refine take_first (v := ?_) 26 rfl (by as_aux_lemma => kernel_rfl) (by as_aux_lemma => kernel_rfl) (by as_aux_lemma => kernel_rfl) (fun _ _ _ h => h) (Or.inl ⟨by rfl, ?_⟩) (by assumption) ?_
   rotate_left
   · (intro w hSw; (try dsimp only at hSw); go_simp; try with_reducible rfl)
   (try simp only [Act.put, sA, s0, s1])
   refine step_one 27 rfl (by as_aux_lemma => kernel_rfl) (fun K hK => ?_)
   clear hHeld
   have fx := (HM.out.blk 1 rfl).word 9 (by (try simp only [List.length_set]); rw [HL1.out]; decide)
   have zx := (HM.out.blk 1 rfl).frozen 9
   go_simp
   replace HM := Lib.hid (show Mem w [blkE PP 26 (rowV r), blkE G 86 (((((v1).set 1 a1).set 5 b1).set 9 c1).map u32v), blkE (w.heap.size + 1 + 1) 86 (zw 16), blkE (w.heap.size + 1) 122 ((m).map u32v), blkE w.heap.size 86 ((l).map u32v)] (wy3.setCell ⟨G, 9, none⟩ (.int .u32 ((c1).toNat : Int))) from by have h := HM.out.setCell 1 rfl 9 (u32v (c1)); rw [← List.map_set] at h; exact h)
   clear fx zx
   generalize wy3.setCell ⟨G, 9, none⟩ (.int .u32 ((c1).toNat : Int)) = wy4 at HM ⊢
   refine hK.out _ _ ((HM.out.erase 1)) (fun hHeld => ?_)
   clear hK K
   (try simp only [Act.put])
   refine take_first (v := ?_) 28 rfl (by as_aux_lemma => kernel_rfl) (by as_aux_lemma => kernel_rfl) (by as_aux_lemma => kernel_rfl) (fun _ _ _ h => h) (Or.inl ⟨by rfl, ?_⟩) (by assumption) ?_
   rotate_left
   · (intro w hSw; (try dsimp only at hSw); go_simp; try with_reducible rfl)
   (try simp only [Act.put, sA, s0, s1])
   refine step_one 29 rfl (by as_aux_lemma => kernel_rfl) (fun K hK => ?_)
   clear hHeld
   have fx := (HM.out.blk 1 rfl).word 13 (by (try simp only [List.length_set]); rw [HL1.out]; decide)
   have zx := (HM.out.blk 1 rfl).frozen 13
   go_simp
   replace HM := Lib.hid (show Mem w [blkE PP 26 (rowV r), blkE G 86 ((((((v1).set 1 a1).set 5 b1).set 9 c1).set 13 d1).map u32v), blkE (w.heap.size + 1 + 1) 86 (zw 16), blkE (w.heap.size + 1) 122 ((m).map u32v), blkE w.heap.size 86 ((l).map u32v)] (wy4.setCell ⟨G, 13, none⟩ (.int .u32 ((d1).toNat : Int))) from by have h := HM.out.setCell 1 rfl 13 (u32v (d1)); rw [← List.map_set] at h; exact h)
   clear fx zx
   generalize wy4.setCell ⟨G, 13, none⟩ (.int .u32 ((d1).toNat : Int)) = wy5 at HM ⊢
   refine hK.out _ _ ((HM.out.erase 1)) (fun hHeld => ?_)
   clear hK K
   (try simp only [Act.put])
   refine wpAnyH_done (by as_aux_lemma => kernel_rfl) ?_ _
   replace HM := Lib.hid (show Mem w [blkE PP 26 (rowV r), blkE G 86 ((vn).map u32v), blkE (w.heap.size + 1 + 1) 86 (zw 16), blkE (w.heap.size + 1) 122 ((m).map u32v), blkE w.heap.size 86 ((l).map u32v)] wy5 from by have h := HM.out; rw [← HMX.out] at h; exact h)
   generalize hwn : wy5 = wq2 at HM ⊢
   clear hwn
   have HL2 := Lib.hid HLN.out
   have EV2 := Lib.hid HVN.out
   clear CQ HMX HVN HLN FX FY HX HY HGa HGb HGc HGd i1 i2 hHeld
   generalize hvg : vn = v2 at HM HL2 EV2 ⊢
   clear hvg
   as_aux_lemma =>
   go_upto_region 7 with fail
   obtain ⟨X, hX⟩ : ∃ x, wd m (ordN r 4) = x := ⟨_, rfl⟩
   obtain ⟨Y, hY⟩ : ∃ x, wd m (ordN r 5) = x := ⟨_, rfl⟩
   have o1 := ordN_lt r 4 hr10 (by omega)
   have o2 := ordN_lt r 5 hr10 (by omega)
   obtain ⟨p1, hp1⟩ : ∃ p, ordN r 4 = p := ⟨_, rfl⟩
   obtain ⟨p2, hp2⟩ : ∃ p, ordN r 5 = p := ⟨_, rfl⟩
   rw [hp1] at hX o1
   rw [hp2] at hY o2
   have i1 : (p1 : Int) < 16 := by omega
   have i2 : (p2 : Int) < 16 := by omega
   have FX := Lib.hid (show ∀ w' : World, Blk w' PP 26 (rowV r) → w'.cell? ⟨PP, 4, none⟩ = some (.int .u8 (p1 : Int)) from fun w' hb => by rw [hb.cell, rowV_get r 4 (by omega), hp1])
   have FY := Lib.hid (show ∀ w' : World, Blk w' PP 26 (rowV r) → w'.cell? ⟨PP, 5, none⟩ = some (.int .u8 (p2 : Int)) from fun w' hb => by rw [hb.cell, rowV_get r 5 (by omega), hp2])
   obtain ⟨⟨a2, b2, c2, d2⟩, hx⟩ : ∃ x, mixT (wd v2 2, wd v2 6, wd v2 10, wd v2 14) X Y = x := ⟨_, rfl⟩
   have hm := mixB_mixT v2 HL2.out 2 6 10 14 (by omega) (by omega) (by omega) (by omega) (by omega) (by omega) (by omega) (by omega) (by omega) (by omega) X Y
   rw [hx] at hm
   dsimp only at hm
   have CQ := Lib.hid (bpMix_of hx)
   obtain ⟨vn, hvn⟩ : ∃ v, mixB v2 2 6 10 14 X Y = v := ⟨_, rfl⟩
   have HVN := Lib.hid (show mixB v2 2 6 10 14 (wd m (ordN r 4)) (wd m (ordN r 5)) = vn by rw [hp1, hp2, hX, hY, hvn])
   have HLN := Lib.hid (show vn.length = 16 by rw [← hvn, mixB_length]; exact HL2.out)
   rw [hvn] at hm
   have HMX := Lib.hid hm
   have HX := Lib.hid hX
   have HY := Lib.hid hY
   clear hvn hp1 hp2 hX hY o1 o2 hx hm
   obtain ⟨ga, hga⟩ : ∃ x, wd v2 2 = x := ⟨_, rfl⟩
   obtain ⟨gb, hgb⟩ : ∃ x, wd v2 6 = x := ⟨_, rfl⟩
   obtain ⟨gc, hgc⟩ : ∃ x, wd v2 10 = x := ⟨_, rfl⟩
   obtain ⟨gd, hgd⟩ : ∃ x, wd v2 14 = x := ⟨_, rfl⟩
   rw [hga, hgb, hgc, hgd] at CQ
   have HGa := Lib.hid hga
   have HGb := Lib.hid hgb
   have HGc := Lib.hid hgc
   have HGd := Lib.hid hgd
   clear hga hgb hgc hgd
   refine wp_region_held_drew (S := fun W' => Mem w [blkE PP 26 (rowV r), blkE (w.heap.size + 1 + 1) 86 (zw 16), blkE (w.heap.size + 1) 122 ((m).map u32v), blkE w.heap.size 86 ((l).map u32v)] W') (by as_aux_lemma => kernel_rfl) (((HM.out.erase 1)).drew) (fun hHeld => ?_)
   replace HM := Lib.hid HM.out.drew
   generalize wq2.drew = wd1 at HM hHeld ⊢
   refine take_first (v := ?_) 0 rfl (by as_aux_lemma => kernel_rfl) (by as_aux_lemma => kernel_rfl) (by as_aux_lemma => kernel_rfl) (fun _ _ _ h => h) (Or.inl ⟨by rfl, ?_⟩) (by assumption) ?_
   rotate_left
   · (intro w hSw; (try dsimp only at hSw); go_simp; try with_reducible rfl)
   (try simp only [Act.put, sA, s0, s1])
   refine take_first (v := ?_) 2 rfl (by as_aux_lemma => kernel_rfl) (by as_aux_lemma => kernel_rfl) (by as_aux_lemma => kernel_rfl) (fun _ _ _ h => h) (Or.inl ⟨by rfl, ?_⟩) (by assumption) ?_
   rotate_left
   · (intro w hSw; (try dsimp only at hSw); go_simp; try with_reducible rfl)
   (try simp only [Act.put, sA, s0, s1])
   refine take_first (v := ?_) 4 rfl (by as_aux_lemma => kernel_rfl) (by as_aux_lemma => kernel_rfl) (by as_aux_lemma => kernel_rfl) (fun _ _ _ h => h) (Or.inl ⟨by rfl, ?_⟩) (by assumption) ?_
   rotate_left
   · (intro w hSw; (try dsimp only at hSw); go_simp; try with_reducible rfl)
   (try simp only [Act.put, sA, s0, s1])
   refine take_first (v := ?_) 6 rfl (by as_aux_lemma => kernel_rfl) (by as_aux_lemma => kernel_rfl) (by as_aux_lemma => kernel_rfl) (fun _ _ _ h => h) (Or.inl ⟨by rfl, ?_⟩) (by assumption) ?_
   rotate_left
   · (intro w hSw; (try dsimp only at hSw); go_simp; try with_reducible rfl)
   (try simp only [Act.put, sA, s0, s1])
   refine take_first (v := ?_) 8 rfl (by as_aux_lemma => kernel_rfl) (by as_aux_lemma => kernel_rfl) (by as_aux_lemma => kernel_rfl) (fun _ _ _ h => h) (Or.inl ⟨by rfl, ?_⟩) (by assumption) ?_
   rotate_left
   · (intro w hSw; (try dsimp only at hSw); go_simp; try with_reducible rfl)
   (try simp only [Act.put, sA, s0, s1])
   refine take_first (v := ?_) 9 rfl (by as_aux_lemma => kernel_rfl) (by as_aux_lemma => kernel_rfl) (by as_aux_lemma => kernel_rfl) (fun _ _ _ h => h) (Or.inl ⟨by rfl, ?_⟩) (by assumption) ?_
   rotate_left
   · (intro w hSw; (try dsimp only at hSw); have fx := FX.out w (Mem.blk hSw 0 rfl); go_simp; try with_reducible rfl)
   (try simp only [Act.put, sA, s0, s1])
   refine take_first (v := ?_) 10 rfl (by as_aux_lemma => kernel_rfl) (by as_aux_lemma => kernel_rfl) (by as_aux_lemma => kernel_rfl) (fun _ _ _ h => h) (Or.inl ⟨by rfl, ?_⟩) (by assumption) ?_
   rotate_left
   · (intro w hSw; (try dsimp only at hSw); go_simp; try with_reducible rfl)
   (try simp only [Act.put, sA, s0, s1])
   refine take_first (v := ?_) 11 rfl (by as_aux_lemma => kernel_rfl) (by as_aux_lemma => kernel_rfl) (by as_aux_lemma => kernel_rfl) (fun _ _ _ h => h) (Or.inl ⟨by rfl, ?_⟩) (by assumption) ?_
   rotate_left
   · (intro w hSw; (try dsimp only at hSw); have fx := (Mem.blk hSw 2 rfl).word p1 (by rw [HLM.out]; omega); rw [HX.out] at fx; go_simp; try with_reducible rfl)
   (try simp only [Act.put, sA, s0, s1])
   refine take_first (v := ?_) 12 rfl (by as_aux_lemma => kernel_rfl) (by as_aux_lemma => kernel_rfl) (by as_aux_lemma => kernel_rfl) (fun _ _ _ h => h) (Or.inl ⟨by rfl, ?_⟩) (by assumption) ?_
   rotate_left
   · (intro w hSw; (try dsimp only at hSw); go_simp; try with_reducible rfl)
   (try simp only [Act.put, sA, s0, s1])
   refine take_first (v := ?_) 13 rfl (by as_aux_lemma => kernel_rfl) (by as_aux_lemma => kernel_rfl) (by as_aux_lemma => kernel_rfl) (fun _ _ _ h => h) (Or.inl ⟨by rfl, ?_⟩) (by assumption) ?_
   rotate_left
   · (intro w hSw; (try dsimp only at hSw); have fx := FY.out w (Mem.blk hSw 0 rfl); go_simp; try with_reducible rfl)
   (try simp only [Act.put, sA, s0, s1])
   refine take_first (v := ?_) 14 rfl (by as_aux_lemma => kernel_rfl) (by as_aux_lemma => kernel_rfl) (by as_aux_lemma => kernel_rfl) (fun _ _ _ h => h) (Or.inl ⟨by rfl, ?_⟩) (by assumption) ?_
   rotate_left
   · (intro w hSw; (try dsimp only at hSw); go_simp; try with_reducible rfl)
   (try simp only [Act.put, sA, s0, s1])
   refine take_first (v := ?_) 15 rfl (by as_aux_lemma => kernel_rfl) (by as_aux_lemma => kernel_rfl) (by as_aux_lemma => kernel_rfl) (fun _ _ _ h => h) (Or.inl ⟨by rfl, ?_⟩) (by assumption) ?_
   rotate_left
   · (intro w hSw; (try dsimp only at hSw); have fx := (Mem.blk hSw 2 rfl).word p2 (by rw [HLM.out]; omega); rw [HY.out] at fx; go_simp; try with_reducible rfl)
   (try simp only [Act.put, sA, s0, s1])
   refine take_load (v := ?_) [3, 5, 7] 1 rfl (by as_aux_lemma => kernel_rfl) (by as_aux_lemma => kernel_rfl) (by as_aux_lemma => kernel_rfl) (by as_aux_lemma => kernel_rfl) (by as_aux_lemma => kernel_rfl) (fun _ _ _ h => h) (Or.inl ⟨by rfl, ?_⟩) (by assumption) ?_
   rotate_left
   · (intro w hSw; subst hSw; have fx := (HM.out.blk 1 rfl).word 2 (by rw [HL2.out]; decide); rw [HGa.out] at fx; go_simp; try with_reducible rfl)
   (try simp only [Act.put, sA, s0, s1])
   refine take_load (v := ?_) [5, 7] 3 rfl (by as_aux_lemma => kernel_rfl) (by as_aux_lemma => kernel_rfl) (by as_aux_lemma => kernel_rfl) (by as_aux_lemma => kernel_rfl) (by as_aux_lemma => kernel_rfl) (fun _ _ _ h => h) (Or.inl ⟨by rfl, ?_⟩) (by assumption) ?_
   rotate_left
   · (intro w hSw; subst hSw; have fx := (HM.out.blk 1 rfl).word 6 (by rw [HL2.out]; decide); rw [HGb.out] at fx; go_simp; try with_reducible rfl)
   (try simp only [Act.put, sA, s0, s1])
   refine take_load (v := ?_) [7] 5 rfl (by as_aux_lemma => kernel_rfl) (by as_aux_lemma => kernel_rfl) (by as_aux_lemma => kernel_rfl) (by as_aux_lemma => kernel_rfl) (by as_aux_lemma => kernel_rfl) (fun _ _ _ h => h) (Or.inl ⟨by rfl, ?_⟩) (by assumption) ?_
   rotate_left
   · (intro w hSw; subst hSw; have fx := (HM.out.blk 1 rfl).word 10 (by rw [HL2.out]; decide); rw [HGc.out] at fx; go_simp; try with_reducible rfl)
   (try simp only [Act.put, sA, s0, s1])
   refine take_load (v := ?_) [] 7 rfl (by as_aux_lemma => kernel_rfl) (by as_aux_lemma => kernel_rfl) (by as_aux_lemma => kernel_rfl) (by as_aux_lemma => kernel_rfl) (by as_aux_lemma => kernel_rfl) (fun _ _ _ h => h) (Or.inl ⟨by rfl, ?_⟩) (by assumption) ?_
   rotate_left
   · (intro w hSw; subst hSw; have fx := (HM.out.blk 1 rfl).word 14 (by rw [HL2.out]; decide); rw [HGd.out] at fx; go_simp; try with_reducible rfl)
   (try simp only [Act.put, sA, s0, s1])
   refine step_one 16 rfl (by as_aux_lemma => kernel_rfl) (fun K hK => ?_)
   clear hHeld
   go_simp
   refine (CQ.out _).mono ?_
   rintro e wy ⟨rfl, rfl⟩
   go_wp2_with fail
   refine hK.out _ _ ((HM.out.erase 1)) (fun hHeld => ?_)
   clear hK K
   (try simp only [Act.put, sA, s0, s1])
   refine take_first (v := ?_) 17 rfl (by as_aux_lemma => kernel_rfl) (by as_aux_lemma => kernel_rfl) (by as_aux_lemma => kernel_rfl) (fun _ _ _ h => h) (Or.inl ⟨by rfl, ?_⟩) (by assumption) ?_
   rotate_left
   · (intro w hSw; (try dsimp only at hSw); go_simp; try with_reducible rfl)
   (try simp only [Act.put, sA, s0, s1])
   refine take_first (v := ?_) 18 rfl (by as_aux_lemma => kernel_rfl) (by as_aux_lemma => kernel_rfl) (by as_aux_lemma => kernel_rfl) (fun _ _ _ h => h) (Or.inl ⟨by rfl, ?_⟩) (by assumption) ?_
   rotate_left
   · (intro w hSw; (try dsimp only at hSw); go_simp; try with_reducible rfl)
   (try simp only [Act.put, sA, s0, s1])
   refine take_first (v := ?_) 19 rfl (by as_aux_lemma => kernel_rfl) (by as_aux_lemma => kernel_rfl) (by as_aux_lemma => kernel_rfl) (fun _ _ _ h => h) (Or.inl ⟨by rfl, ?_⟩) (by assumption) ?_
   rotate_left
   · (intro w hSw; (try dsimp only at hSw); go_simp; try with_reducible rfl)
   (try simp only [Act.put, sA, s0, s1])
   refine take_first (v := ?_) 20 rfl (by as_aux_lemma => kernel_rfl) (by as_aux_lemma => kernel_rfl) (by as_aux_lemma => kernel_rfl) (fun _ _ _ h => h) (Or.inl ⟨by rfl, ?_⟩) (by assumption) ?_
   rotate_left
   · (intro w hSw; (try dsimp only at hSw); go_simp; try with_reducible rfl)
   (try simp only [Act.put, sA, s0, s1])
   refine take_first (v := ?_) 21 rfl (by as_aux_lemma => kernel_rfl) (by as_aux_lemma => kernel_rfl) (by as_aux_lemma => kernel_rfl) (fun _ _ _ h => h) (Or.inl ⟨by rfl, ?_⟩) (by assumption) ?_
   rotate_left
   · (intro w hSw; (try dsimp only at hSw); go_simp; try with_reducible rfl)
   (try simp only [Act.put, sA, s0, s1])
   refine take_first (v := ?_) 22 rfl (by as_aux_lemma => kernel_rfl) (by as_aux_lemma => kernel_rfl) (by as_aux_lemma => kernel_rfl) (fun _ _ _ h => h) (Or.inl ⟨by rfl, ?_⟩) (by assumption) ?_
   rotate_left
   · (intro w hSw; (try dsimp only at hSw); go_simp; try with_reducible rfl)
   (try simp only [Act.put, sA, s0, s1])
   refine step_one 23 rfl (by as_aux_lemma => kernel_rfl) (fun K hK => ?_)
   clear hHeld
   have fx := (HM.out.blk 1 rfl).word 2 (by (try simp only [List.length_set]); rw [HL2.out]; decide)
   have zx := (HM.out.blk 1 rfl).frozen 2
   go_simp
   replace HM := Lib.hid (show Mem w [blkE PP 26 (rowV r), blkE G 86 (((v2).set 2 a2).map u32v), blkE (w.heap.size + 1 + 1) 86 (zw 16), blkE (w.heap.size + 1) 122 ((m).map u32v), blkE w.heap.size 86 ((l).map u32v)] (wd1.setCell ⟨G, 2, none⟩ (.int .u32 ((a2).toNat : Int))) from by have h := HM.out.setCell 1 rfl 2 (u32v (a2)); rw [← List.map_set] at h; exact h)
   clear fx zx
   generalize wd1.setCell ⟨G, 2, none⟩ (.int .u32 ((a2).toNat : Int)) = wy2 at HM ⊢
   refine hK.out _ _ ((HM.out.erase 1)) (fun hHeld => ?_)
   clear hK K
   (try simp only [Act.put])
   refine take_first (v := ?_) 24 rfl (by as_aux_lemma => kernel_rfl) (by as_aux_lemma => kernel_rfl) (by as_aux_lemma => kernel_rfl) (fun _ _ _ h => h) (Or.inl ⟨by rfl, ?_⟩) (by assumption) ?_
   rotate_left
   · (intro w hSw; (try dsimp only at hSw); go_simp; try with_reducible rfl)
   (try simp only [Act.put, sA, s0, s1])
   refine step_one 25 rfl (by as_aux_lemma => kernel_rfl) (fun K hK => ?_)
   clear hHeld
   have fx := (HM.out.blk 1 rfl).word 6 (by (try simp only [List.length_set]); rw [HL2.out]; decide)
   have zx := (HM.out.blk 1 rfl).frozen 6
   go_simp
   replace HM := Lib.hid (show Mem w [blkE PP 26 (rowV r), blkE G 86 ((((v2).set 2 a2).set 6 b2).map u32v), blkE (w.heap.size + 1 + 1) 86 (zw 16), blkE (w.heap.size + 1) 122 ((m).map u32v), blkE w.heap.size 86 ((l).map u32v)] (wy2.setCell ⟨G, 6, none⟩ (.int .u32 ((b2).toNat : Int))) from by have h := HM.out.setCell 1 rfl 6 (u32v (b2)); rw [← List.map_set] at h; exact h)
   clear fx zx
   generalize wy2.setCell ⟨G, 6, none⟩ (.int .u32 ((b2).toNat : Int)) = wy3 at HM ⊢
   refine hK.out _ _ ((HM.out.erase 1)) (fun hHeld => ?_)
   clear hK K
   (try simp only [Act.put])
   refine take_first (v := ?_) 26 rfl (by as_aux_lemma => kernel_rfl) (by as_aux_lemma => kernel_rfl) (by as_aux_lemma => kernel_rfl) (fun _ _ _ h => h) (Or.inl ⟨by rfl, ?_⟩) (by assumption) ?_
   rotate_left
   · (intro w hSw; (try dsimp only at hSw); go_simp; try with_reducible rfl)
   (try simp only [Act.put, sA, s0, s1])
   refine step_one 27 rfl (by as_aux_lemma => kernel_rfl) (fun K hK => ?_)
   clear hHeld
   have fx := (HM.out.blk 1 rfl).word 10 (by (try simp only [List.length_set]); rw [HL2.out]; decide)
   have zx := (HM.out.blk 1 rfl).frozen 10
   go_simp
   replace HM := Lib.hid (show Mem w [blkE PP 26 (rowV r), blkE G 86 (((((v2).set 2 a2).set 6 b2).set 10 c2).map u32v), blkE (w.heap.size + 1 + 1) 86 (zw 16), blkE (w.heap.size + 1) 122 ((m).map u32v), blkE w.heap.size 86 ((l).map u32v)] (wy3.setCell ⟨G, 10, none⟩ (.int .u32 ((c2).toNat : Int))) from by have h := HM.out.setCell 1 rfl 10 (u32v (c2)); rw [← List.map_set] at h; exact h)
   clear fx zx
   generalize wy3.setCell ⟨G, 10, none⟩ (.int .u32 ((c2).toNat : Int)) = wy4 at HM ⊢
   refine hK.out _ _ ((HM.out.erase 1)) (fun hHeld => ?_)
   clear hK K
   (try simp only [Act.put])
   refine take_first (v := ?_) 28 rfl (by as_aux_lemma => kernel_rfl) (by as_aux_lemma => kernel_rfl) (by as_aux_lemma => kernel_rfl) (fun _ _ _ h => h) (Or.inl ⟨by rfl, ?_⟩) (by assumption) ?_
   rotate_left
   · (intro w hSw; (try dsimp only at hSw); go_simp; try with_reducible rfl)
   (try simp only [Act.put, sA, s0, s1])
   refine step_one 29 rfl (by as_aux_lemma => kernel_rfl) (fun K hK => ?_)
   clear hHeld
   have fx := (HM.out.blk 1 rfl).word 14 (by (try simp only [List.length_set]); rw [HL2.out]; decide)
   have zx := (HM.out.blk 1 rfl).frozen 14
   go_simp
   replace HM := Lib.hid (show Mem w [blkE PP 26 (rowV r), blkE G 86 ((((((v2).set 2 a2).set 6 b2).set 10 c2).set 14 d2).map u32v), blkE (w.heap.size + 1 + 1) 86 (zw 16), blkE (w.heap.size + 1) 122 ((m).map u32v), blkE w.heap.size 86 ((l).map u32v)] (wy4.setCell ⟨G, 14, none⟩ (.int .u32 ((d2).toNat : Int))) from by have h := HM.out.setCell 1 rfl 14 (u32v (d2)); rw [← List.map_set] at h; exact h)
   clear fx zx
   generalize wy4.setCell ⟨G, 14, none⟩ (.int .u32 ((d2).toNat : Int)) = wy5 at HM ⊢
   refine hK.out _ _ ((HM.out.erase 1)) (fun hHeld => ?_)
   clear hK K
   (try simp only [Act.put])
   refine wpAnyH_done (by as_aux_lemma => kernel_rfl) ?_ _
   replace HM := Lib.hid (show Mem w [blkE PP 26 (rowV r), blkE G 86 ((vn).map u32v), blkE (w.heap.size + 1 + 1) 86 (zw 16), blkE (w.heap.size + 1) 122 ((m).map u32v), blkE w.heap.size 86 ((l).map u32v)] wy5 from by have h := HM.out; rw [← HMX.out] at h; exact h)
   generalize hwn : wy5 = wq3 at HM ⊢
   clear hwn
   have HL3 := Lib.hid HLN.out
   have EV3 := Lib.hid HVN.out
   clear CQ HMX HVN HLN FX FY HX HY HGa HGb HGc HGd i1 i2 hHeld
   generalize hvg : vn = v3 at HM HL3 EV3 ⊢
   clear hvg
   as_aux_lemma =>
   go_upto_region 8 with fail
   obtain ⟨X, hX⟩ : ∃ x, wd m (ordN r 6) = x := ⟨_, rfl⟩
   obtain ⟨Y, hY⟩ : ∃ x, wd m (ordN r 7) = x := ⟨_, rfl⟩
   have o1 := ordN_lt r 6 hr10 (by omega)
   have o2 := ordN_lt r 7 hr10 (by omega)
   obtain ⟨p1, hp1⟩ : ∃ p, ordN r 6 = p := ⟨_, rfl⟩
   obtain ⟨p2, hp2⟩ : ∃ p, ordN r 7 = p := ⟨_, rfl⟩
   rw [hp1] at hX o1
   rw [hp2] at hY o2
   have i1 : (p1 : Int) < 16 := by omega
   have i2 : (p2 : Int) < 16 := by omega
   have FX := Lib.hid (show ∀ w' : World, Blk w' PP 26 (rowV r) → w'.cell? ⟨PP, 6, none⟩ = some (.int .u8 (p1 : Int)) from fun w' hb => by rw [hb.cell, rowV_get r 6 (by omega), hp1])
   have FY := Lib.hid (show ∀ w' : World, Blk w' PP 26 (rowV r) → w'.cell? ⟨PP, 7, none⟩ = some (.int .u8 (p2 : Int)) from fun w' hb => by rw [hb.cell, rowV_get r 7 (by omega), hp2])
   obtain ⟨⟨a3, b3, c3, d3⟩, hx⟩ : ∃ x, mixT (wd v3 3, wd v3 7, wd v3 11, wd v3 15) X Y = x := ⟨_, rfl⟩
   have hm := mixB_mixT v3 HL3.out 3 7 11 15 (by omega) (by omega) (by omega) (by omega) (by omega) (by omega) (by omega) (by omega) (by omega) (by omega) X Y
   rw [hx] at hm
   dsimp only at hm
   have CQ := Lib.hid (bpMix_of hx)
   obtain ⟨vn, hvn⟩ : ∃ v, mixB v3 3 7 11 15 X Y = v := ⟨_, rfl⟩
   have HVN := Lib.hid (show mixB v3 3 7 11 15 (wd m (ordN r 6)) (wd m (ordN r 7)) = vn by rw [hp1, hp2, hX, hY, hvn])
   have HLN := Lib.hid (show vn.length = 16 by rw [← hvn, mixB_length]; exact HL3.out)
   rw [hvn] at hm
   have HMX := Lib.hid hm
   have HX := Lib.hid hX
   have HY := Lib.hid hY
   clear hvn hp1 hp2 hX hY o1 o2 hx hm
   obtain ⟨ga, hga⟩ : ∃ x, wd v3 3 = x := ⟨_, rfl⟩
   obtain ⟨gb, hgb⟩ : ∃ x, wd v3 7 = x := ⟨_, rfl⟩
   obtain ⟨gc, hgc⟩ : ∃ x, wd v3 11 = x := ⟨_, rfl⟩
   obtain ⟨gd, hgd⟩ : ∃ x, wd v3 15 = x := ⟨_, rfl⟩
   rw [hga, hgb, hgc, hgd] at CQ
   have HGa := Lib.hid hga
   have HGb := Lib.hid hgb
   have HGc := Lib.hid hgc
   have HGd := Lib.hid hgd
   clear hga hgb hgc hgd
   refine wp_region_held_drew (S := fun W' => Mem w [blkE PP 26 (rowV r), blkE (w.heap.size + 1 + 1) 86 (zw 16), blkE (w.heap.size + 1) 122 ((m).map u32v), blkE w.heap.size 86 ((l).map u32v)] W') (by as_aux_lemma => kernel_rfl) (((HM.out.erase 1)).drew) (fun hHeld => ?_)
   replace HM := Lib.hid HM.out.drew
   generalize wq3.drew = wd1 at HM hHeld ⊢
   refine take_first (v := ?_) 0 rfl (by as_aux_lemma => kernel_rfl) (by as_aux_lemma => kernel_rfl) (by as_aux_lemma => kernel_rfl) (fun _ _ _ h => h) (Or.inl ⟨by rfl, ?_⟩) (by assumption) ?_
   rotate_left
   · (intro w hSw; (try dsimp only at hSw); go_simp; try with_reducible rfl)
   (try simp only [Act.put, sA, s0, s1])
   refine take_first (v := ?_) 2 rfl (by as_aux_lemma => kernel_rfl) (by as_aux_lemma => kernel_rfl) (by as_aux_lemma => kernel_rfl) (fun _ _ _ h => h) (Or.inl ⟨by rfl, ?_⟩) (by assumption) ?_
   rotate_left
   · (intro w hSw; (try dsimp only at hSw); go_simp; try with_reducible rfl)
   (try simp only [Act.put, sA, s0, s1])
   refine take_first (v := ?_) 4 rfl (by as_aux_lemma => kernel_rfl) (by as_aux_lemma => kernel_rfl) (by as_aux_lemma => kernel_rfl) (fun _ _ _ h => h) (Or.inl ⟨by rfl, ?_⟩) (by assumption) ?_
   rotate_left
   · (intro w hSw; (try dsimp only at hSw); go_simp; try with_reducible rfl)
   (try simp only [Act.put, sA, s0, s1])
   refine take_first (v := ?_) 6 rfl (by as_aux_lemma => kernel_rfl) (by as_aux_lemma => kernel_rfl) (by as_aux_lemma => kernel_rfl) (fun _ _ _ h => h) (Or.inl ⟨by rfl, ?_⟩) (by assumption) ?_
   rotate_left
   · (intro w hSw; (try dsimp only at hSw); go_simp; try with_reducible rfl)
   (try simp only [Act.put, sA, s0, s1])
   refine take_first (v := ?_) 8 rfl (by as_aux_lemma => kernel_rfl) (by as_aux_lemma => kernel_rfl) (by as_aux_lemma => kernel_rfl) (fun _ _ _ h => h) (Or.inl ⟨by rfl, ?_⟩) (by assumption) ?_
   rotate_left
   · (intro w hSw; (try dsimp only at hSw); go_simp; try with_reducible rfl)
   (try simp only [Act.put, sA, s0, s1])
   refine take_first (v := ?_) 9 rfl (by as_aux_lemma => kernel_rfl) (by as_aux_lemma => kernel_rfl) (by as_aux_lemma => kernel_rfl) (fun _ _ _ h => h) (Or.inl ⟨by rfl, ?_⟩) (by assumption) ?_
   rotate_left
   · (intro w hSw; (try dsimp only at hSw); have fx := FX.out w (Mem.blk hSw 0 rfl); go_simp; try with_reducible rfl)
   (try simp only [Act.put, sA, s0, s1])
   refine take_first (v := ?_) 10 rfl (by as_aux_lemma => kernel_rfl) (by as_aux_lemma => kernel_rfl) (by as_aux_lemma => kernel_rfl) (fun _ _ _ h => h) (Or.inl ⟨by rfl, ?_⟩) (by assumption) ?_
   rotate_left
   · (intro w hSw; (try dsimp only at hSw); go_simp; try with_reducible rfl)
   (try simp only [Act.put, sA, s0, s1])
   refine take_first (v := ?_) 11 rfl (by as_aux_lemma => kernel_rfl) (by as_aux_lemma => kernel_rfl) (by as_aux_lemma => kernel_rfl) (fun _ _ _ h => h) (Or.inl ⟨by rfl, ?_⟩) (by assumption) ?_
   rotate_left
   · (intro w hSw; (try dsimp only at hSw); have fx := (Mem.blk hSw 2 rfl).word p1 (by rw [HLM.out]; omega); rw [HX.out] at fx; go_simp; try with_reducible rfl)
   (try simp only [Act.put, sA, s0, s1])
   refine take_first (v := ?_) 12 rfl (by as_aux_lemma => kernel_rfl) (by as_aux_lemma => kernel_rfl) (by as_aux_lemma => kernel_rfl) (fun _ _ _ h => h) (Or.inl ⟨by rfl, ?_⟩) (by assumption) ?_
   rotate_left
   · (intro w hSw; (try dsimp only at hSw); go_simp; try with_reducible rfl)
   (try simp only [Act.put, sA, s0, s1])
   refine take_first (v := ?_) 13 rfl (by as_aux_lemma => kernel_rfl) (by as_aux_lemma => kernel_rfl) (by as_aux_lemma => kernel_rfl) (fun _ _ _ h => h) (Or.inl ⟨by rfl, ?_⟩) (by assumption) ?_
   rotate_left
   · (intro w hSw; (try dsimp only at hSw); have fx := FY.out w (Mem.blk hSw 0 rfl); go_simp; try with_reducible rfl)
   (try simp only [Act.put, sA, s0, s1])
   refine take_first (v := ?_) 14 rfl (by as_aux_lemma => kernel_rfl) (by as_aux_lemma => kernel_rfl) (by as_aux_lemma => kernel_rfl) (fun _ _ _ h => h) (Or.inl ⟨by rfl, ?_⟩) (by assumption) ?_
   rotate_left
   · (intro w hSw; (try dsimp only at hSw); go_simp; try with_reducible rfl)
   (try simp only [Act.put, sA, s0, s1])
   refine take_first (v := ?_) 15 rfl (by as_aux_lemma => kernel_rfl) (by as_aux_lemma => kernel_rfl) (by as_aux_lemma => kernel_rfl) (fun _ _ _ h => h) (Or.inl ⟨by rfl, ?_⟩) (by assumption) ?_
   rotate_left
   · (intro w hSw; (try dsimp only at hSw); have fx := (Mem.blk hSw 2 rfl).word p2 (by rw [HLM.out]; omega); rw [HY.out] at fx; go_simp; try with_reducible rfl)
   (try simp only [Act.put, sA, s0, s1])
   refine take_load (v := ?_) [3, 5, 7] 1 rfl (by as_aux_lemma => kernel_rfl) (by as_aux_lemma => kernel_rfl) (by as_aux_lemma => kernel_rfl) (by as_aux_lemma => kernel_rfl) (by as_aux_lemma => kernel_rfl) (fun _ _ _ h => h) (Or.inl ⟨by rfl, ?_⟩) (by assumption) ?_
   rotate_left
   · (intro w hSw; subst hSw; have fx := (HM.out.blk 1 rfl).word 3 (by rw [HL3.out]; decide); rw [HGa.out] at fx; go_simp; try with_reducible rfl)
   (try simp only [Act.put, sA, s0, s1])
   refine take_load (v := ?_) [5, 7] 3 rfl (by as_aux_lemma => kernel_rfl) (by as_aux_lemma => kernel_rfl) (by as_aux_lemma => kernel_rfl) (by as_aux_lemma => kernel_rfl) (by as_aux_lemma => kernel_rfl) (fun _ _ _ h => h) (Or.inl ⟨by rfl, ?_⟩) (by assumption) ?_
   rotate_left
   · (intro w hSw; subst hSw; have fx := (HM.out.blk 1 rfl).word 7 (by rw [HL3.out]; decide); rw [HGb.out] at fx; go_simp; try with_reducible rfl)
   (try simp only [Act.put, sA, s0, s1])
   refine take_load (v := ?_) [7] 5 rfl (by as_aux_lemma => kernel_rfl) (by as_aux_lemma => kernel_rfl) (by as_aux_lemma => kernel_rfl) (by as_aux_lemma => kernel_rfl) (by as_aux_lemma => kernel_rfl) (fun _ _ _ h => h) (Or.inl ⟨by rfl, ?_⟩) (by assumption) ?_
   rotate_left
   · (intro w hSw; subst hSw; have fx := (HM.out.blk 1 rfl).word 11 (by rw [HL3.out]; decide); rw [HGc.out] at fx; go_simp; try with_reducible rfl)
   (try simp only [Act.put, sA, s0, s1])
   refine take_load (v := ?_) [] 7 rfl (by as_aux_lemma => kernel_rfl) (by as_aux_lemma => kernel_rfl) (by as_aux_lemma => kernel_rfl) (by as_aux_lemma => kernel_rfl) (by as_aux_lemma => kernel_rfl) (fun _ _ _ h => h) (Or.inl ⟨by rfl, ?_⟩) (by assumption) ?_
   rotate_left
   · (intro w hSw; subst hSw; have fx := (HM.out.blk 1 rfl).word 15 (by rw [HL3.out]; decide); rw [HGd.out] at fx; go_simp; try with_reducible rfl)
   (try simp only [Act.put, sA, s0, s1])
   refine step_one 16 rfl (by as_aux_lemma => kernel_rfl) (fun K hK => ?_)
   clear hHeld
   go_simp
   refine (CQ.out _).mono ?_
   rintro e wy ⟨rfl, rfl⟩
   go_wp2_with fail
   refine hK.out _ _ ((HM.out.erase 1)) (fun hHeld => ?_)
   clear hK K
   (try simp only [Act.put, sA, s0, s1])
   refine take_first (v := ?_) 17 rfl (by as_aux_lemma => kernel_rfl) (by as_aux_lemma => kernel_rfl) (by as_aux_lemma => kernel_rfl) (fun _ _ _ h => h) (Or.inl ⟨by rfl, ?_⟩) (by assumption) ?_
   rotate_left
   · (intro w hSw; (try dsimp only at hSw); go_simp; try with_reducible rfl)
   (try simp only [Act.put, sA, s0, s1])
   refine take_first (v := ?_) 18 rfl (by as_aux_lemma => kernel_rfl) (by as_aux_lemma => kernel_rfl) (by as_aux_lemma => kernel_rfl) (fun _ _ _ h => h) (Or.inl ⟨by rfl, ?_⟩) (by assumption) ?_
   rotate_left
   · (intro w hSw; (try dsimp only at hSw); go_simp; try with_reducible rfl)
   (try simp only [Act.put, sA, s0, s1])
   refine take_first (v := ?_) 19 rfl (by as_aux_lemma => kernel_rfl) (by as_aux_lemma => kernel_rfl) (by as_aux_lemma => kernel_rfl) (fun _ _ _ h => h) (Or.inl ⟨by rfl, ?_⟩) (by assumption) ?_
   rotate_left
   · (intro w hSw; (try dsimp only at hSw); go_simp; try with_reducible rfl)
   (try simp only [Act.put, sA, s0, s1])
   refine take_first (v := ?_) 20 rfl (by as_aux_lemma => kernel_rfl) (by as_aux_lemma => kernel_rfl) (by as_aux_lemma => kernel_rfl) (fun _ _ _ h => h) (Or.inl ⟨by rfl, ?_⟩) (by assumption) ?_
   rotate_left
   · (intro w hSw; (try dsimp only at hSw); go_simp; try with_reducible rfl)
   (try simp only [Act.put, sA, s0, s1])
   refine take_first (v := ?_) 21 rfl (by as_aux_lemma => kernel_rfl) (by as_aux_lemma => kernel_rfl) (by as_aux_lemma => kernel_rfl) (fun _ _ _ h => h) (Or.inl ⟨by rfl, ?_⟩) (by assumption) ?_
   rotate_left
   · (intro w hSw; (try dsimp only at hSw); go_simp; try with_reducible rfl)
   (try simp only [Act.put, sA, s0, s1])
   refine take_first (v := ?_) 22 rfl (by as_aux_lemma => kernel_rfl) (by as_aux_lemma => kernel_rfl) (by as_aux_lemma => kernel_rfl) (fun _ _ _ h => h) (Or.inl ⟨by rfl, ?_⟩) (by assumption) ?_
   rotate_left
   · (intro w hSw; (try dsimp only at hSw); go_simp; try with_reducible rfl)
   (try simp only [Act.put, sA, s0, s1])
   refine step_one 23 rfl (by as_aux_lemma => kernel_rfl) (fun K hK => ?_)
   clear hHeld
   have fx := (HM.out.blk 1 rfl).word 3 (by (try simp only [List.length_set]); rw [HL3.out]; decide)
   have zx := (HM.out.blk 1 rfl).frozen 3
   go_simp
   replace HM := Lib.hid (show Mem w [blkE PP 26 (rowV r), blkE G 86 (((v3).set 3 a3).map u32v), blkE (w.heap.size + 1 + 1) 86 (zw 16), blkE (w.heap.size + 1) 122 ((m).map u32v), blkE w.heap.size 86 ((l).map u32v)] (wd1.setCell ⟨G, 3, none⟩ (.int .u32 ((a3).toNat : Int))) from by have h := HM.out.setCell 1 rfl 3 (u32v (a3)); rw [← List.map_set] at h; exact h)
   clear fx zx
   generalize wd1.setCell ⟨G, 3, none⟩ (.int .u32 ((a3).toNat : Int)) = wy2 at HM ⊢
   refine hK.out _ _ ((HM.out.erase 1)) (fun hHeld => ?_)
   clear hK K
   (try simp only [Act.put])
   refine take_first (v := ?_) 24 rfl (by as_aux_lemma => kernel_rfl) (by as_aux_lemma => kernel_rfl) (by as_aux_lemma => kernel_rfl) (fun _ _ _ h => h) (Or.inl ⟨by rfl, ?_⟩) (by assumption) ?_
   rotate_left
   · (intro w hSw; (try dsimp only at hSw); go_simp; try with_reducible rfl)
   (try simp only [Act.put, sA, s0, s1])
   refine step_one 25 rfl (by as_aux_lemma => kernel_rfl) (fun K hK => ?_)
   clear hHeld
   have fx := (HM.out.blk 1 rfl).word 7 (by (try simp only [List.length_set]); rw [HL3.out]; decide)
   have zx := (HM.out.blk 1 rfl).frozen 7
   go_simp
   replace HM := Lib.hid (show Mem w [blkE PP 26 (rowV r), blkE G 86 ((((v3).set 3 a3).set 7 b3).map u32v), blkE (w.heap.size + 1 + 1) 86 (zw 16), blkE (w.heap.size + 1) 122 ((m).map u32v), blkE w.heap.size 86 ((l).map u32v)] (wy2.setCell ⟨G, 7, none⟩ (.int .u32 ((b3).toNat : Int))) from by have h := HM.out.setCell 1 rfl 7 (u32v (b3)); rw [← List.map_set] at h; exact h)
   clear fx zx
   generalize wy2.setCell ⟨G, 7, none⟩ (.int .u32 ((b3).toNat : Int)) = wy3 at HM ⊢
   refine hK.out _ _ ((HM.out.erase 1)) (fun hHeld => ?_)
   clear hK K
   (try simp only [Act.put])
   refine take_first (v := ?_) 26 rfl (by as_aux_lemma => kernel_rfl) (by as_aux_lemma => kernel_rfl) (by as_aux_lemma => kernel_rfl) (fun _ _ _ h => h) (Or.inl ⟨by rfl, ?_⟩) (by assumption) ?_
   rotate_left
   · (intro w hSw; (try dsimp only at hSw); go_simp; try with_reducible rfl)
   (try simp only [Act.put, sA, s0, s1])
   refine step_one 27 rfl (by as_aux_lemma => kernel_rfl) (fun K hK => ?_)
   clear hHeld
   have fx := (HM.out.blk 1 rfl).word 11 (by (try simp only [List.length_set]); rw [HL3.out]; decide)
   have zx := (HM.out.blk 1 rfl).frozen 11
   go_simp
   replace HM := Lib.hid (show Mem w [blkE PP 26 (rowV r), blkE G 86 (((((v3).set 3 a3).set 7 b3).set 11 c3).map u32v), blkE (w.heap.size + 1 + 1) 86 (zw 16), blkE (w.heap.size + 1) 122 ((m).map u32v), blkE w.heap.size 86 ((l).map u32v)] (wy3.setCell ⟨G, 11, none⟩ (.int .u32 ((c3).toNat : Int))) from by have h := HM.out.setCell 1 rfl 11 (u32v (c3)); rw [← List.map_set] at h; exact h)
   clear fx zx
   generalize wy3.setCell ⟨G, 11, none⟩ (.int .u32 ((c3).toNat : Int)) = wy4 at HM ⊢
   refine hK.out _ _ ((HM.out.erase 1)) (fun hHeld => ?_)
   clear hK K
   (try simp only [Act.put])
   refine take_first (v := ?_) 28 rfl (by as_aux_lemma => kernel_rfl) (by as_aux_lemma => kernel_rfl) (by as_aux_lemma => kernel_rfl) (fun _ _ _ h => h) (Or.inl ⟨by rfl, ?_⟩) (by assumption) ?_
   rotate_left
   · (intro w hSw; (try dsimp only at hSw); go_simp; try with_reducible rfl)
   (try simp only [Act.put, sA, s0, s1])
   refine step_one 29 rfl (by as_aux_lemma => kernel_rfl) (fun K hK => ?_)
   clear hHeld
   have fx := (HM.out.blk 1 rfl).word 15 (by (try simp only [List.length_set]); rw [HL3.out]; decide)
   have zx := (HM.out.blk 1 rfl).frozen 15
   go_simp
   replace HM := Lib.hid (show Mem w [blkE PP 26 (rowV r), blkE G 86 ((((((v3).set 3 a3).set 7 b3).set 11 c3).set 15 d3).map u32v), blkE (w.heap.size + 1 + 1) 86 (zw 16), blkE (w.heap.size + 1) 122 ((m).map u32v), blkE w.heap.size 86 ((l).map u32v)] (wy4.setCell ⟨G, 15, none⟩ (.int .u32 ((d3).toNat : Int))) from by have h := HM.out.setCell 1 rfl 15 (u32v (d3)); rw [← List.map_set] at h; exact h)
   clear fx zx
   generalize wy4.setCell ⟨G, 15, none⟩ (.int .u32 ((d3).toNat : Int)) = wy5 at HM ⊢
   refine hK.out _ _ ((HM.out.erase 1)) (fun hHeld => ?_)
   clear hK K
   (try simp only [Act.put])
   refine wpAnyH_done (by as_aux_lemma => kernel_rfl) ?_ _
   replace HM := Lib.hid (show Mem w [blkE PP 26 (rowV r), blkE G 86 ((vn).map u32v), blkE (w.heap.size + 1 + 1) 86 (zw 16), blkE (w.heap.size + 1) 122 ((m).map u32v), blkE w.heap.size 86 ((l).map u32v)] wy5 from by have h := HM.out; rw [← HMX.out] at h; exact h)
   generalize hwn : wy5 = wq4 at HM ⊢
   clear hwn
   have HL4 := Lib.hid HLN.out
   have EV4 := Lib.hid HVN.out
   clear CQ HMX HVN HLN FX FY HX HY HGa HGb HGc HGd i1 i2 hHeld
   generalize hvg : vn = v4 at HM HL4 EV4 ⊢
   clear hvg
   as_aux_lemma =>
   go_upto_region 9 with fail
   obtain ⟨X, hX⟩ : ∃ x, wd m (ordN r 8) = x := ⟨_, rfl⟩
   obtain ⟨Y, hY⟩ : ∃ x, wd m (ordN r 9) = x := ⟨_, rfl⟩
   have o1 := ordN_lt r 8 hr10 (by omega)
   have o2 := ordN_lt r 9 hr10 (by omega)
   obtain ⟨p1, hp1⟩ : ∃ p, ordN r 8 = p := ⟨_, rfl⟩
   obtain ⟨p2, hp2⟩ : ∃ p, ordN r 9 = p := ⟨_, rfl⟩
   rw [hp1] at hX o1
   rw [hp2] at hY o2
   have i1 : (p1 : Int) < 16 := by omega
   have i2 : (p2 : Int) < 16 := by omega
   have FX := Lib.hid (show ∀ w' : World, Blk w' PP 26 (rowV r) → w'.cell? ⟨PP, 8, none⟩ = some (.int .u8 (p1 : Int)) from fun w' hb => by rw [hb.cell, rowV_get r 8 (by omega), hp1])
   have FY := Lib.hid (show ∀ w' : World, Blk w' PP 26 (rowV r) → w'.cell? ⟨PP, 9, none⟩ = some (.int .u8 (p2 : Int)) from fun w' hb => by rw [hb.cell, rowV_get r 9 (by omega), hp2])
   obtain ⟨⟨a4, b4, c4, d4⟩, hx⟩ : ∃ x, mixT (wd v4 0, wd v4 5, wd v4 10, wd v4 15) X Y = x := ⟨_, rfl⟩
   have hm := mixB_mixT v4 HL4.out 0 5 10 15 (by omega) (by omega) (by omega) (by omega) (by omega) (by omega) (by omega) (by omega) (by omega) (by omega) X Y
   rw [hx] at hm
   dsimp only at hm
   have CQ := Lib.hid (bpMix_of hx)
   obtain ⟨vn, hvn⟩ : ∃ v, mixB v4 0 5 10 15 X Y = v := ⟨_, rfl⟩
   have HVN := Lib.hid (show mixB v4 0 5 10 15 (wd m (ordN r 8)) (wd m (ordN r 9)) = vn by rw [hp1, hp2, hX, hY, hvn])
   have HLN := Lib.hid (show vn.length = 16 by rw [← hvn, mixB_length]; exact HL4.out)
   rw [hvn] at hm
   have HMX := Lib.hid hm
   have HX := Lib.hid hX
   have HY := Lib.hid hY
   clear hvn hp1 hp2 hX hY o1 o2 hx hm
   obtain ⟨ga, hga⟩ : ∃ x, wd v4 0 = x := ⟨_, rfl⟩
   obtain ⟨gb, hgb⟩ : ∃ x, wd v4 5 = x := ⟨_, rfl⟩
   obtain ⟨gc, hgc⟩ : ∃ x, wd v4 10 = x := ⟨_, rfl⟩
   obtain ⟨gd, hgd⟩ : ∃ x, wd v4 15 = x := ⟨_, rfl⟩
   rw [hga, hgb, hgc, hgd] at CQ
   have HGa := Lib.hid hga
   have HGb := Lib.hid hgb
   have HGc := Lib.hid hgc
   have HGd := Lib.hid hgd
   clear hga hgb hgc hgd
   refine wp_region_held_drew (S := fun W' => Mem w [blkE PP 26 (rowV r), blkE (w.heap.size + 1 + 1) 86 (zw 16), blkE (w.heap.size + 1) 122 ((m).map u32v), blkE w.heap.size 86 ((l).map u32v)] W') (by as_aux_lemma => kernel_rfl) (((HM.out.erase 1)).drew) (fun hHeld => ?_)
   replace HM := Lib.hid HM.out.drew
   generalize wq4.drew = wd1 at HM hHeld ⊢
   refine take_first (v := ?_) 0 rfl (by as_aux_lemma => kernel_rfl) (by as_aux_lemma => kernel_rfl) (by as_aux_lemma => kernel_rfl) (fun _ _ _ h => h) (Or.inl ⟨by rfl, ?_⟩) (by assumption) ?_
   rotate_left
   · (intro w hSw; (try dsimp only at hSw); go_simp; try with_reducible rfl)
   (try simp only [Act.put, sA, s0, s1])
   refine take_first (v := ?_) 2 rfl (by as_aux_lemma => kernel_rfl) (by as_aux_lemma => kernel_rfl) (by as_aux_lemma => kernel_rfl) (fun _ _ _ h => h) (Or.inl ⟨by rfl, ?_⟩) (by assumption) ?_
   rotate_left
   · (intro w hSw; (try dsimp only at hSw); go_simp; try with_reducible rfl)
   (try simp only [Act.put, sA, s0, s1])
   refine take_first (v := ?_) 4 rfl (by as_aux_lemma => kernel_rfl) (by as_aux_lemma => kernel_rfl) (by as_aux_lemma => kernel_rfl) (fun _ _ _ h => h) (Or.inl ⟨by rfl, ?_⟩) (by assumption) ?_
   rotate_left
   · (intro w hSw; (try dsimp only at hSw); go_simp; try with_reducible rfl)
   (try simp only [Act.put, sA, s0, s1])
   refine take_first (v := ?_) 6 rfl (by as_aux_lemma => kernel_rfl) (by as_aux_lemma => kernel_rfl) (by as_aux_lemma => kernel_rfl) (fun _ _ _ h => h) (Or.inl ⟨by rfl, ?_⟩) (by assumption) ?_
   rotate_left
   · (intro w hSw; (try dsimp only at hSw); go_simp; try with_reducible rfl)
   (try simp only [Act.put, sA, s0, s1])
   refine take_first (v := ?_) 8 rfl (by as_aux_lemma => kernel_rfl) (by as_aux_lemma => kernel_rfl) (by as_aux_lemma => kernel_rfl) (fun _ _ _ h => h) (Or.inl ⟨by rfl, ?_⟩) (by assumption) ?_
   rotate_left
   · (intro w hSw; (try dsimp only at hSw); go_simp; try with_reducible rfl)
   (try simp only [Act.put, sA, s0, s1])
   refine take_first (v := ?_) 9 rfl (by as_aux_lemma => kernel_rfl) (by as_aux_lemma => kernel_rfl) (by as_aux_lemma => kernel_rfl) (fun _ _ _ h => h) (Or.inl ⟨by rfl, ?_⟩) (by assumption) ?_
   rotate_left
   · (intro w hSw; (try dsimp only at hSw); have fx := FX.out w (Mem.blk hSw 0 rfl); go_simp; try with_reducible rfl)
   (try simp only [Act.put, sA, s0, s1])
   refine take_first (v := ?_) 10 rfl (by as_aux_lemma => kernel_rfl) (by as_aux_lemma => kernel_rfl) (by as_aux_lemma => kernel_rfl) (fun _ _ _ h => h) (Or.inl ⟨by rfl, ?_⟩) (by assumption) ?_
   rotate_left
   · (intro w hSw; (try dsimp only at hSw); go_simp; try with_reducible rfl)
   (try simp only [Act.put, sA, s0, s1])
   refine take_first (v := ?_) 11 rfl (by as_aux_lemma => kernel_rfl) (by as_aux_lemma => kernel_rfl) (by as_aux_lemma => kernel_rfl) (fun _ _ _ h => h) (Or.inl ⟨by rfl, ?_⟩) (by assumption) ?_
   rotate_left
   · (intro w hSw; (try dsimp only at hSw); have fx := (Mem.blk hSw 2 rfl).word p1 (by rw [HLM.out]; omega); rw [HX.out] at fx; go_simp; try with_reducible rfl)
   (try simp only [Act.put, sA, s0, s1])
   refine take_first (v := ?_) 12 rfl (by as_aux_lemma => kernel_rfl) (by as_aux_lemma => kernel_rfl) (by as_aux_lemma => kernel_rfl) (fun _ _ _ h => h) (Or.inl ⟨by rfl, ?_⟩) (by assumption) ?_
   rotate_left
   · (intro w hSw; (try dsimp only at hSw); go_simp; try with_reducible rfl)
   (try simp only [Act.put, sA, s0, s1])
   refine take_first (v := ?_) 13 rfl (by as_aux_lemma => kernel_rfl) (by as_aux_lemma => kernel_rfl) (by as_aux_lemma => kernel_rfl) (fun _ _ _ h => h) (Or.inl ⟨by rfl, ?_⟩) (by assumption) ?_
   rotate_left
   · (intro w hSw; (try dsimp only at hSw); have fx := FY.out w (Mem.blk hSw 0 rfl); go_simp; try with_reducible rfl)
   (try simp only [Act.put, sA, s0, s1])
   refine take_first (v := ?_) 14 rfl (by as_aux_lemma => kernel_rfl) (by as_aux_lemma => kernel_rfl) (by as_aux_lemma => kernel_rfl) (fun _ _ _ h => h) (Or.inl ⟨by rfl, ?_⟩) (by assumption) ?_
   rotate_left
   · (intro w hSw; (try dsimp only at hSw); go_simp; try with_reducible rfl)
   (try simp only [Act.put, sA, s0, s1])
   refine take_first (v := ?_) 15 rfl (by as_aux_lemma => kernel_rfl) (by as_aux_lemma => kernel_rfl) (by as_aux_lemma => kernel_rfl) (fun _ _ _ h => h) (Or.inl ⟨by rfl, ?_⟩) (by assumption) ?_
   rotate_left
   · (intro w hSw; (try dsimp only at hSw); have fx := (Mem.blk hSw 2 rfl).word p2 (by rw [HLM.out]; omega); rw [HY.out] at fx; go_simp; try with_reducible rfl)
   (try simp only [Act.put, sA, s0, s1])
   refine take_load (v := ?_) [3, 5, 7] 1 rfl (by as_aux_lemma => kernel_rfl) (by as_aux_lemma => kernel_rfl) (by as_aux_lemma => kernel_rfl) (by as_aux_lemma => kernel_rfl) (by as_aux_lemma => kernel_rfl) (fun _ _ _ h => h) (Or.inl ⟨by rfl, ?_⟩) (by assumption) ?_
   rotate_left
   · (intro w hSw; subst hSw; have fx := (HM.out.blk 1 rfl).word 0 (by rw [HL4.out]; decide); rw [HGa.out] at fx; go_simp; try with_reducible rfl)
   (try simp only [Act.put, sA, s0, s1])
   refine take_load (v := ?_) [5, 7] 3 rfl (by as_aux_lemma => kernel_rfl) (by as_aux_lemma => kernel_rfl) (by as_aux_lemma => kernel_rfl) (by as_aux_lemma => kernel_rfl) (by as_aux_lemma => kernel_rfl) (fun _ _ _ h => h) (Or.inl ⟨by rfl, ?_⟩) (by assumption) ?_
   rotate_left
   · (intro w hSw; subst hSw; have fx := (HM.out.blk 1 rfl).word 5 (by rw [HL4.out]; decide); rw [HGb.out] at fx; go_simp; try with_reducible rfl)
   (try simp only [Act.put, sA, s0, s1])
   refine take_load (v := ?_) [7] 5 rfl (by as_aux_lemma => kernel_rfl) (by as_aux_lemma => kernel_rfl) (by as_aux_lemma => kernel_rfl) (by as_aux_lemma => kernel_rfl) (by as_aux_lemma => kernel_rfl) (fun _ _ _ h => h) (Or.inl ⟨by rfl, ?_⟩) (by assumption) ?_
   rotate_left
   · (intro w hSw; subst hSw; have fx := (HM.out.blk 1 rfl).word 10 (by rw [HL4.out]; decide); rw [HGc.out] at fx; go_simp; try with_reducible rfl)
   (try simp only [Act.put, sA, s0, s1])
   refine take_load (v := ?_) [] 7 rfl (by as_aux_lemma => kernel_rfl) (by as_aux_lemma => kernel_rfl) (by as_aux_lemma => kernel_rfl) (by as_aux_lemma => kernel_rfl) (by as_aux_lemma => kernel_rfl) (fun _ _ _ h => h) (Or.inl ⟨by rfl, ?_⟩) (by assumption) ?_
   rotate_left
   · (intro w hSw; subst hSw; have fx := (HM.out.blk 1 rfl).word 15 (by rw [HL4.out]; decide); rw [HGd.out] at fx; go_simp; try with_reducible rfl)
   (try simp only [Act.put, sA, s0, s1])
   refine step_one 16 rfl (by as_aux_lemma => kernel_rfl) (fun K hK => ?_)
   clear hHeld
   go_simp
   refine (CQ.out _).mono ?_
   rintro e wy ⟨rfl, rfl⟩
   go_wp2_with fail
   refine hK.out _ _ ((HM.out.erase 1)) (fun hHeld => ?_)
   clear hK K
   (try simp only [Act.put, sA, s0, s1])
   refine take_first (v := ?_) 17 rfl (by as_aux_lemma => kernel_rfl) (by as_aux_lemma => kernel_rfl) (by as_aux_lemma => kernel_rfl) (fun _ _ _ h => h) (Or.inl ⟨by rfl, ?_⟩) (by assumption) ?_
   rotate_left
   · (intro w hSw; (try dsimp only at hSw); go_simp; try with_reducible rfl)
   (try simp only [Act.put, sA, s0, s1])
   refine take_first (v := ?_) 18 rfl (by as_aux_lemma => kernel_rfl) (by as_aux_lemma => kernel_rfl) (by as_aux_lemma => kernel_rfl) (fun _ _ _ h => h) (Or.inl ⟨by rfl, ?_⟩) (by assumption) ?_
   rotate_left
   · (intro w hSw; (try dsimp only at hSw); go_simp; try with_reducible rfl)
   (try simp only [Act.put, sA, s0, s1])
   refine take_first (v := ?_) 19 rfl (by as_aux_lemma => kernel_rfl) (by as_aux_lemma => kernel_rfl) (by as_aux_lemma => kernel_rfl) (fun _ _ _ h => h) (Or.inl ⟨by rfl, ?_⟩) (by assumption) ?_
   rotate_left
   · (intro w hSw; (try dsimp only at hSw); go_simp; try with_reducible rfl)
   (try simp only [Act.put, sA, s0, s1])
   refine take_first (v := ?_) 20 rfl (by as_aux_lemma => kernel_rfl) (by as_aux_lemma => kernel_rfl) (by as_aux_lemma => kernel_rfl) (fun _ _ _ h => h) (Or.inl ⟨by rfl, ?_⟩) (by assumption) ?_
   rotate_left
   · (intro w hSw; (try dsimp only at hSw); go_simp; try with_reducible rfl)
   (try simp only [Act.put, sA, s0, s1])
   refine take_first (v := ?_) 21 rfl (by as_aux_lemma => kernel_rfl) (by as_aux_lemma => kernel_rfl) (by as_aux_lemma => kernel_rfl) (fun _ _ _ h => h) (Or.inl ⟨by rfl, ?_⟩) (by assumption) ?_
   rotate_left
   · (intro w hSw; (try dsimp only at hSw); go_simp; try with_reducible rfl)
   (try simp only [Act.put, sA, s0, s1])
   refine take_first (v := ?_) 22 rfl (by as_aux_lemma => kernel_rfl) (by as_aux_lemma => kernel_rfl) (by as_aux_lemma => kernel_rfl) (fun _ _ _ h => h) (Or.inl ⟨by rfl, ?_⟩) (by assumption) ?_
   rotate_left
   · (intro w hSw; (try dsimp only at hSw); go_simp; try with_reducible rfl)
   (try simp only [Act.put, sA, s0, s1])
   refine step_one 23 rfl (by as_aux_lemma => kernel_rfl) (fun K hK => ?_)
   clear hHeld
   have fx := (HM.out.blk 1 rfl).word 0 (by (try simp only [List.length_set]); rw [HL4.out]; decide)
   have zx := (HM.out.blk 1 rfl).frozen 0
   go_simp
   replace HM := Lib.hid (show Mem w [blkE PP 26 (rowV r), blkE G 86 (((v4).set 0 a4).map u32v), blkE (w.heap.size + 1 + 1) 86 (zw 16), blkE (w.heap.size + 1) 122 ((m).map u32v), blkE w.heap.size 86 ((l).map u32v)] (wd1.setCell ⟨G, 0, none⟩ (.int .u32 ((a4).toNat : Int))) from by have h := HM.out.setCell 1 rfl 0 (u32v (a4)); rw [← List.map_set] at h; exact h)
   clear fx zx
   generalize wd1.setCell ⟨G, 0, none⟩ (.int .u32 ((a4).toNat : Int)) = wy2 at HM ⊢
   refine hK.out _ _ ((HM.out.erase 1)) (fun hHeld => ?_)
   clear hK K
   (try simp only [Act.put])
   refine take_first (v := ?_) 24 rfl (by as_aux_lemma => kernel_rfl) (by as_aux_lemma => kernel_rfl) (by as_aux_lemma => kernel_rfl) (fun _ _ _ h => h) (Or.inl ⟨by rfl, ?_⟩) (by assumption) ?_
   rotate_left
   · (intro w hSw; (try dsimp only at hSw); go_simp; try with_reducible rfl)
   (try simp only [Act.put, sA, s0, s1])
   refine step_one 25 rfl (by as_aux_lemma => kernel_rfl) (fun K hK => ?_)
   clear hHeld
   have fx := (HM.out.blk 1 rfl).word 5 (by (try simp only [List.length_set]); rw [HL4.out]; decide)
   have zx := (HM.out.blk 1 rfl).frozen 5
   go_simp
   replace HM := Lib.hid (show Mem w [blkE PP 26 (rowV r), blkE G 86 ((((v4).set 0 a4).set 5 b4).map u32v), blkE (w.heap.size + 1 + 1) 86 (zw 16), blkE (w.heap.size + 1) 122 ((m).map u32v), blkE w.heap.size 86 ((l).map u32v)] (wy2.setCell ⟨G, 5, none⟩ (.int .u32 ((b4).toNat : Int))) from by have h := HM.out.setCell 1 rfl 5 (u32v (b4)); rw [← List.map_set] at h; exact h)
   clear fx zx
   generalize wy2.setCell ⟨G, 5, none⟩ (.int .u32 ((b4).toNat : Int)) = wy3 at HM ⊢
   refine hK.out _ _ ((HM.out.erase 1)) (fun hHeld => ?_)
   clear hK K
   (try simp only [Act.put])
   refine take_first (v := ?_) 26 rfl (by as_aux_lemma => kernel_rfl) (by as_aux_lemma => kernel_rfl) (by as_aux_lemma => kernel_rfl) (fun _ _ _ h => h) (Or.inl ⟨by rfl, ?_⟩) (by assumption) ?_
   rotate_left
   · (intro w hSw; (try dsimp only at hSw); go_simp; try with_reducible rfl)
   (try simp only [Act.put, sA, s0, s1])
   refine step_one 27 rfl (by as_aux_lemma => kernel_rfl) (fun K hK => ?_)
   clear hHeld
   have fx := (HM.out.blk 1 rfl).word 10 (by (try simp only [List.length_set]); rw [HL4.out]; decide)
   have zx := (HM.out.blk 1 rfl).frozen 10
   go_simp
   replace HM := Lib.hid (show Mem w [blkE PP 26 (rowV r), blkE G 86 (((((v4).set 0 a4).set 5 b4).set 10 c4).map u32v), blkE (w.heap.size + 1 + 1) 86 (zw 16), blkE (w.heap.size + 1) 122 ((m).map u32v), blkE w.heap.size 86 ((l).map u32v)] (wy3.setCell ⟨G, 10, none⟩ (.int .u32 ((c4).toNat : Int))) from by have h := HM.out.setCell 1 rfl 10 (u32v (c4)); rw [← List.map_set] at h; exact h)
   clear fx zx
   generalize wy3.setCell ⟨G, 10, none⟩ (.int .u32 ((c4).toNat : Int)) = wy4 at HM ⊢
   refine hK.out _ _ ((HM.out.erase 1)) (fun hHeld => ?_)
   clear hK K
   (try simp only [Act.put])
   refine take_first (v := ?_) 28 rfl (by as_aux_lemma => kernel_rfl) (by as_aux_lemma => kernel_rfl) (by as_aux_lemma => kernel_rfl) (fun _ _ _ h => h) (Or.inl ⟨by rfl, ?_⟩) (by assumption) ?_
   rotate_left
   · (intro w hSw; (try dsimp only at hSw); go_simp; try with_reducible rfl)
   (try simp only [Act.put, sA, s0, s1])
   refine step_one 29 rfl (by as_aux_lemma => kernel_rfl) (fun K hK => ?_)
   clear hHeld
   have fx := (HM.out.blk 1 rfl).word 15 (by (try simp only [List.length_set]); rw [HL4.out]; decide)
   have zx := (HM.out.blk 1 rfl).frozen 15
   go_simp
   replace HM := Lib.hid (show Mem w [blkE PP 26 (rowV r), blkE G 86 ((((((v4).set 0 a4).set 5 b4).set 10 c4).set 15 d4).map u32v), blkE (w.heap.size + 1 + 1) 86 (zw 16), blkE (w.heap.size + 1) 122 ((m).map u32v), blkE w.heap.size 86 ((l).map u32v)] (wy4.setCell ⟨G, 15, none⟩ (.int .u32 ((d4).toNat : Int))) from by have h := HM.out.setCell 1 rfl 15 (u32v (d4)); rw [← List.map_set] at h; exact h)
   clear fx zx
   generalize wy4.setCell ⟨G, 15, none⟩ (.int .u32 ((d4).toNat : Int)) = wy5 at HM ⊢
   refine hK.out _ _ ((HM.out.erase 1)) (fun hHeld => ?_)
   clear hK K
   (try simp only [Act.put])
   refine wpAnyH_done (by as_aux_lemma => kernel_rfl) ?_ _
   replace HM := Lib.hid (show Mem w [blkE PP 26 (rowV r), blkE G 86 ((vn).map u32v), blkE (w.heap.size + 1 + 1) 86 (zw 16), blkE (w.heap.size + 1) 122 ((m).map u32v), blkE w.heap.size 86 ((l).map u32v)] wy5 from by have h := HM.out; rw [← HMX.out] at h; exact h)
   generalize hwn : wy5 = wq5 at HM ⊢
   clear hwn
   have HL5 := Lib.hid HLN.out
   have EV5 := Lib.hid HVN.out
   clear CQ HMX HVN HLN FX FY HX HY HGa HGb HGc HGd i1 i2 hHeld
   generalize hvg : vn = v5 at HM HL5 EV5 ⊢
   clear hvg
   as_aux_lemma =>
   go_upto_region 10 with fail
   obtain ⟨X, hX⟩ : ∃ x, wd m (ordN r 10) = x := ⟨_, rfl⟩
   obtain ⟨Y, hY⟩ : ∃ x, wd m (ordN r 11) = x := ⟨_, rfl⟩
   have o1 := ordN_lt r 10 hr10 (by omega)
   have o2 := ordN_lt r 11 hr10 (by omega)
   obtain ⟨p1, hp1⟩ : ∃ p, ordN r 10 = p := ⟨_, rfl⟩
   obtain ⟨p2, hp2⟩ : ∃ p, ordN r 11 = p := ⟨_, rfl⟩
   rw [hp1] at hX o1
   rw [hp2] at hY o2
   have i1 : (p1 : Int) < 16 := by omega
   have i2 : (p2 : Int) < 16 := by omega
   have FX := Lib.hid (show ∀ w' : World, Blk w' PP 26 (rowV r) → w'.cell? ⟨PP, 10, none⟩ = some (.int .u8 (p1 : Int)) from fun w' hb => by rw [hb.cell, rowV_get r 10 (by omega), hp1])
   have FY := Lib.hid (show ∀ w' : World, Blk w' PP 26 (rowV r) → w'.cell? ⟨PP, 11, none⟩ = some (.int .u8 (p2 : Int)) from fun w' hb => by rw [hb.cell, rowV_get r 11 (by omega), hp2])
   obtain ⟨⟨a5, b5, c5, d5⟩, hx⟩ : ∃ x, mixT (wd v5 1, wd v5 6, wd v5 11, wd v5 12) X Y = x := ⟨_, rfl⟩
   have hm := mixB_mixT v5 HL5.out 1 6 11 12 (by omega) (by omega) (by omega) (by omega) (by omega) (by omega) (by omega) (by omega) (by omega) (by omega) X Y
   rw [hx] at hm
   dsimp only at hm
   have CQ := Lib.hid (bpMix_of hx)
   obtain ⟨vn, hvn⟩ : ∃ v, mixB v5 1 6 11 12 X Y = v := ⟨_, rfl⟩
   have HVN := Lib.hid (show mixB v5 1 6 11 12 (wd m (ordN r 10)) (wd m (ordN r 11)) = vn by rw [hp1, hp2, hX, hY, hvn])
   have HLN := Lib.hid (show vn.length = 16 by rw [← hvn, mixB_length]; exact HL5.out)
   rw [hvn] at hm
   have HMX := Lib.hid hm
   have HX := Lib.hid hX
   have HY := Lib.hid hY
   clear hvn hp1 hp2 hX hY o1 o2 hx hm
   obtain ⟨ga, hga⟩ : ∃ x, wd v5 1 = x := ⟨_, rfl⟩
   obtain ⟨gb, hgb⟩ : ∃ x, wd v5 6 = x := ⟨_, rfl⟩
   obtain ⟨gc, hgc⟩ : ∃ x, wd v5 11 = x := ⟨_, rfl⟩
   obtain ⟨gd, hgd⟩ : ∃ x, wd v5 12 = x := ⟨_, rfl⟩
   rw [hga, hgb, hgc, hgd] at CQ
   have HGa := Lib.hid hga
   have HGb := Lib.hid hgb
   have HGc := Lib.hid hgc
   have HGd := Lib.hid hgd
   clear hga hgb hgc hgd
   refine wp_region_held_drew (S := fun W' => Mem w [blkE PP 26 (rowV r), blkE (w.heap.size + 1 + 1) 86 (zw 16), blkE (w.heap.size + 1) 122 ((m).map u32v), blkE w.heap.size 86 ((l).map u32v)] W') (by as_aux_lemma => kernel_rfl) (((HM.out.erase 1)).drew) (fun hHeld => ?_)
   replace HM := Lib.hid HM.out.drew
   generalize wq5.drew = wd1 at HM hHeld ⊢
   refine take_first (v := ?_) 0 rfl (by as_aux_lemma => kernel_rfl) (by as_aux_lemma => kernel_rfl) (by as_aux_lemma => kernel_rfl) (fun _ _ _ h => h) (Or.inl ⟨by rfl, ?_⟩) (by assumption) ?_
   rotate_left
   · (intro w hSw; (try dsimp only at hSw); go_simp; try with_reducible rfl)
   (try simp only [Act.put, sA, s0, s1])
   refine take_first (v := ?_) 2 rfl (by as_aux_lemma => kernel_rfl) (by as_aux_lemma => kernel_rfl) (by as_aux_lemma => kernel_rfl) (fun _ _ _ h => h) (Or.inl ⟨by rfl, ?_⟩) (by assumption) ?_
   rotate_left
   · (intro w hSw; (try dsimp only at hSw); go_simp; try with_reducible rfl)
   (try simp only [Act.put, sA, s0, s1])
   refine take_first (v := ?_) 4 rfl (by as_aux_lemma => kernel_rfl) (by as_aux_lemma => kernel_rfl) (by as_aux_lemma => kernel_rfl) (fun _ _ _ h => h) (Or.inl ⟨by rfl, ?_⟩) (by assumption) ?_
   rotate_left
   · (intro w hSw; (try dsimp only at hSw); go_simp; try with_reducible rfl)
   (try simp only [Act.put, sA, s0, s1])
   refine take_first (v := ?_) 6 rfl (by as_aux_lemma => kernel_rfl) (by as_aux_lemma => kernel_rfl) (by as_aux_lemma => kernel_rfl) (fun _ _ _ h => h) (Or.inl ⟨by rfl, ?_⟩) (by assumption) ?_
   rotate_left
   · (intro w hSw; (try dsimp only at hSw); go_simp; try with_reducible rfl)
   (try simp only [Act.put, sA, s0, s1])
   refine take_first (v := ?_) 8 rfl (by as_aux_lemma => kernel_rfl) (by as_aux_lemma => kernel_rfl) (by as_aux_lemma => kernel_rfl) (fun _ _ _ h => h) (Or.inl ⟨by rfl, ?_⟩) (by assumption) ?_
   rotate_left
   · (intro w hSw; (try dsimp only at hSw); go_simp; try with_reducible rfl)
   (try simp only [Act.put, sA, s0, s1])
   refine take_first (v := ?_) 9 rfl (by as_aux_lemma => kernel_rfl) (by as_aux_lemma => kernel_rfl) (by as_aux_lemma => kernel_rfl) (fun _ _ _ h => h) (Or.inl ⟨by rfl, ?_⟩) (by assumption) ?_
   rotate_left
   · (intro w hSw; (try dsimp only at hSw); have fx := FX.out w (Mem.blk hSw 0 rfl); go_simp; try with_reducible rfl)
   (try simp only [Act.put, sA, s0, s1])
   refine take_first (v := ?_) 10 rfl (by as_aux_lemma => kernel_rfl) (by as_aux_lemma => kernel_rfl) (by as_aux_lemma => kernel_rfl) (fun _ _ _ h => h) (Or.inl ⟨by rfl, ?_⟩) (by assumption) ?_
   rotate_left
   · (intro w hSw; (try dsimp only at hSw); go_simp; try with_reducible rfl)
   (try simp only [Act.put, sA, s0, s1])
   refine take_first (v := ?_) 11 rfl (by as_aux_lemma => kernel_rfl) (by as_aux_lemma => kernel_rfl) (by as_aux_lemma => kernel_rfl) (fun _ _ _ h => h) (Or.inl ⟨by rfl, ?_⟩) (by assumption) ?_
   rotate_left
   · (intro w hSw; (try dsimp only at hSw); have fx := (Mem.blk hSw 2 rfl).word p1 (by rw [HLM.out]; omega); rw [HX.out] at fx; go_simp; try with_reducible rfl)
   (try simp only [Act.put, sA, s0, s1])
   refine take_first (v := ?_) 12 rfl (by as_aux_lemma => kernel_rfl) (by as_aux_lemma => kernel_rfl) (by as_aux_lemma => kernel_rfl) (fun _ _ _ h => h) (Or.inl ⟨by rfl, ?_⟩) (by assumption) ?_
   rotate_left
   · (intro w hSw; (try dsimp only at hSw); go_simp; try with_reducible rfl)
   (try simp only [Act.put, sA, s0, s1])
   refine take_first (v := ?_) 13 rfl (by as_aux_lemma => kernel_rfl) (by as_aux_lemma => kernel_rfl) (by as_aux_lemma => kernel_rfl) (fun _ _ _ h => h) (Or.inl ⟨by rfl, ?_⟩) (by assumption) ?_
   rotate_left
   · (intro w hSw; (try dsimp only at hSw); have fx := FY.out w (Mem.blk hSw 0 rfl); go_simp; try with_reducible rfl)
   (try simp only [Act.put, sA, s0, s1])
   refine take_first (v := ?_) 14 rfl (by as_aux_lemma => kernel_rfl) (by as_aux_lemma => kernel_rfl) (by as_aux_lemma => kernel_rfl) (fun _ _ _ h => h) (Or.inl ⟨by rfl, ?_⟩) (by assumption) ?_
   rotate_left
   · (intro w hSw; (try dsimp only at hSw); go_simp; try with_reducible rfl)
   (try simp only [Act.put, sA, s0, s1])
   refine take_first (v := ?_) 15 rfl (by as_aux_lemma => kernel_rfl) (by as_aux_lemma => kernel_rfl) (by as_aux_lemma => kernel_rfl) (fun _ _ _ h => h) (Or.inl ⟨by rfl, ?_⟩) (by assumption) ?_
   rotate_left
   · (intro w hSw; (try dsimp only at hSw); have fx := (Mem.blk hSw 2 rfl).word p2 (by rw [HLM.out]; omega); rw [HY.out] at fx; go_simp; try with_reducible rfl)
   (try simp only [Act.put, sA, s0, s1])
   refine take_load (v := ?_) [3, 5, 7] 1 rfl (by as_aux_lemma => kernel_rfl) (by as_aux_lemma => kernel_rfl) (by as_aux_lemma => kernel_rfl) (by as_aux_lemma => kernel_rfl) (by as_aux_lemma => kernel_rfl) (fun _ _ _ h => h) (Or.inl ⟨by rfl, ?_⟩) (by assumption) ?_
   rotate_left
   · (intro w hSw; subst hSw; have fx := (HM.out.blk 1 rfl).word 1 (by rw [HL5.out]; decide); rw [HGa.out] at fx; go_simp; try with_reducible rfl)
   (try simp only [Act.put, sA, s0, s1])
   refine take_load (v := ?_) [5, 7] 3 rfl (by as_aux_lemma => kernel_rfl) (by as_aux_lemma => kernel_rfl) (by as_aux_lemma => kernel_rfl) (by as_aux_lemma => kernel_rfl) (by as_aux_lemma => kernel_rfl) (fun _ _ _ h => h) (Or.inl ⟨by rfl, ?_⟩) (by assumption) ?_
   rotate_left
   · (intro w hSw; subst hSw; have fx := (HM.out.blk 1 rfl).word 6 (by rw [HL5.out]; decide); rw [HGb.out] at fx; go_simp; try with_reducible rfl)
   (try simp only [Act.put, sA, s0, s1])
   refine take_load (v := ?_) [7] 5 rfl (by as_aux_lemma => kernel_rfl) (by as_aux_lemma => kernel_rfl) (by as_aux_lemma => kernel_rfl) (by as_aux_lemma => kernel_rfl) (by as_aux_lemma => kernel_rfl) (fun _ _ _ h => h) (Or.inl ⟨by rfl, ?_⟩) (by assumption) ?_
   rotate_left
   · (intro w hSw; subst hSw; have fx := (HM.out.blk 1 rfl).word 11 (by rw [HL5.out]; decide); rw [HGc.out] at fx; go_simp; try with_reducible rfl)
   (try simp only [Act.put, sA, s0, s1])
   refine take_load (v := ?_) [] 7 rfl (by as_aux_lemma => kernel_rfl) (by as_aux_lemma => kernel_rfl) (by as_aux_lemma => kernel_rfl) (by as_aux_lemma => kernel_rfl) (by as_aux_lemma => kernel_rfl) (fun _ _ _ h => h) (Or.inl ⟨by rfl, ?_⟩) (by assumption) ?_
   rotate_left
   · (intro w hSw; subst hSw; have fx := (HM.out.blk 1 rfl).word 12 (by rw [HL5.out]; decide); rw [HGd.out] at fx; go_simp; try with_reducible rfl)
   (try simp only [Act.put, sA, s0, s1])
   refine step_one 16 rfl (by as_aux_lemma => kernel_rfl) (fun K hK => ?_)
   clear hHeld
   go_simp
   refine (CQ.out _).mono ?_
   rintro e wy ⟨rfl, rfl⟩
   go_wp2_with fail
   refine hK.out _ _ ((HM.out.erase 1)) (fun hHeld => ?_)
   clear hK K
   (try simp only [Act.put, sA, s0, s1])
   refine take_first (v := ?_) 17 rfl (by as_aux_lemma => kernel_rfl) (by as_aux_lemma => kernel_rfl) (by as_aux_lemma => kernel_rfl) (fun _ _ _ h => h) (Or.inl ⟨by rfl, ?_⟩) (by assumption) ?_
   rotate_left
   · (intro w hSw; (try dsimp only at hSw); go_simp; try with_reducible rfl)
   (try simp only [Act.put, sA, s0, s1])
   refine take_first (v := ?_) 18 rfl (by as_aux_lemma => kernel_rfl) (by as_aux_lemma => kernel_rfl) (by as_aux_lemma => kernel_rfl) (fun _ _ _ h => h) (Or.inl ⟨by rfl, ?_⟩) (by assumption) ?_
   rotate_left
   · (intro w hSw; (try dsimp only at hSw); go_simp; try with_reducible rfl)
   (try simp only [Act.put, sA, s0, s1])
   refine take_first (v := ?_) 19 rfl (by as_aux_lemma => kernel_rfl) (by as_aux_lemma => kernel_rfl) (by as_aux_lemma => kernel_rfl) (fun _ _ _ h => h) (Or.inl ⟨by rfl, ?_⟩) (by assumption) ?_
   rotate_left
   · (intro w hSw; (try dsimp only at hSw); go_simp; try with_reducible rfl)
   (try simp only [Act.put, sA, s0, s1])
   refine take_first (v := ?_) 20 rfl (by as_aux_lemma => kernel_rfl) (by as_aux_lemma => kernel_rfl) (by as_aux_lemma => kernel_rfl) (fun _ _ _ h => h) (Or.inl ⟨by rfl, ?_⟩) (by assumption) ?_
   rotate_left
   · (intro w hSw; (try dsimp only at hSw); go_simp; try with_reducible rfl)
   (try simp only [Act.put, sA, s0, s1])
   refine take_first (v := ?_) 21 rfl (by as_aux_lemma => kernel_rfl) (by as_aux_lemma => kernel_rfl) (by as_aux_lemma => kernel_rfl) (fun _ _ _ h => h) (Or.inl ⟨by rfl, ?_⟩) (by assumption) ?_
   rotate_left
   · (intro w hSw; (try dsimp only at hSw); go_simp; try with_reducible rfl)
   (try simp only [Act.put, sA, s0, s1])
   refine take_first (v := ?_) 22 rfl (by as_aux_lemma => kernel_rfl) (by as_aux_lemma => kernel_rfl) (by as_aux_lemma => kernel_rfl) (fun _ _ _ h => h) (Or.inl ⟨by rfl, ?_⟩) (by assumption) ?_
   rotate_left
   · (intro w hSw; (try dsimp only at hSw); go_simp; try with_reducible rfl)
   (try simp only [Act.put, sA, s0, s1])
   refine step_one 23 rfl (by as_aux_lemma => kernel_rfl) (fun K hK => ?_)
   clear hHeld
   have fx := (HM.out.blk 1 rfl).word 1 (by (try simp only [List.length_set]); rw [HL5.out]; decide)
   have zx := (HM.out.blk 1 rfl).frozen 1
   go_simp
   replace HM := Lib.hid (show Mem w [blkE PP 26 (rowV r), blkE G 86 (((v5).set 1 a5).map u32v), blkE (w.heap.size + 1 + 1) 86 (zw 16), blkE (w.heap.size + 1) 122 ((m).map u32v), blkE w.heap.size 86 ((l).map u32v)] (wd1.setCell ⟨G, 1, none⟩ (.int .u32 ((a5).toNat : Int))) from by have h := HM.out.setCell 1 rfl 1 (u32v (a5)); rw [← List.map_set] at h; exact h)
   clear fx zx
   generalize wd1.setCell ⟨G, 1, none⟩ (.int .u32 ((a5).toNat : Int)) = wy2 at HM ⊢
   refine hK.out _ _ ((HM.out.erase 1)) (fun hHeld => ?_)
   clear hK K
   (try simp only [Act.put])
   refine take_first (v := ?_) 24 rfl (by as_aux_lemma => kernel_rfl) (by as_aux_lemma => kernel_rfl) (by as_aux_lemma => kernel_rfl) (fun _ _ _ h => h) (Or.inl ⟨by rfl, ?_⟩) (by assumption) ?_
   rotate_left
   · (intro w hSw; (try dsimp only at hSw); go_simp; try with_reducible rfl)
   (try simp only [Act.put, sA, s0, s1])
   refine step_one 25 rfl (by as_aux_lemma => kernel_rfl) (fun K hK => ?_)
   clear hHeld
   have fx := (HM.out.blk 1 rfl).word 6 (by (try simp only [List.length_set]); rw [HL5.out]; decide)
   have zx := (HM.out.blk 1 rfl).frozen 6
   go_simp
   replace HM := Lib.hid (show Mem w [blkE PP 26 (rowV r), blkE G 86 ((((v5).set 1 a5).set 6 b5).map u32v), blkE (w.heap.size + 1 + 1) 86 (zw 16), blkE (w.heap.size + 1) 122 ((m).map u32v), blkE w.heap.size 86 ((l).map u32v)] (wy2.setCell ⟨G, 6, none⟩ (.int .u32 ((b5).toNat : Int))) from by have h := HM.out.setCell 1 rfl 6 (u32v (b5)); rw [← List.map_set] at h; exact h)
   clear fx zx
   generalize wy2.setCell ⟨G, 6, none⟩ (.int .u32 ((b5).toNat : Int)) = wy3 at HM ⊢
   refine hK.out _ _ ((HM.out.erase 1)) (fun hHeld => ?_)
   clear hK K
   (try simp only [Act.put])
   refine take_first (v := ?_) 26 rfl (by as_aux_lemma => kernel_rfl) (by as_aux_lemma => kernel_rfl) (by as_aux_lemma => kernel_rfl) (fun _ _ _ h => h) (Or.inl ⟨by rfl, ?_⟩) (by assumption) ?_
   rotate_left
   · (intro w hSw; (try dsimp only at hSw); go_simp; try with_reducible rfl)
   (try simp only [Act.put, sA, s0, s1])
   refine step_one 27 rfl (by as_aux_lemma => kernel_rfl) (fun K hK => ?_)
   clear hHeld
   have fx := (HM.out.blk 1 rfl).word 11 (by (try simp only [List.length_set]); rw [HL5.out]; decide)
   have zx := (HM.out.blk 1 rfl).frozen 11
   go_simp
   replace HM := Lib.hid (show Mem w [blkE PP 26 (rowV r), blkE G 86 (((((v5).set 1 a5).set 6 b5).set 11 c5).map u32v), blkE (w.heap.size + 1 + 1) 86 (zw 16), blkE (w.heap.size + 1) 122 ((m).map u32v), blkE w.heap.size 86 ((l).map u32v)] (wy3.setCell ⟨G, 11, none⟩ (.int .u32 ((c5).toNat : Int))) from by have h := HM.out.setCell 1 rfl 11 (u32v (c5)); rw [← List.map_set] at h; exact h)
   clear fx zx
   generalize wy3.setCell ⟨G, 11, none⟩ (.int .u32 ((c5).toNat : Int)) = wy4 at HM ⊢
   refine hK.out _ _ ((HM.out.erase 1)) (fun hHeld => ?_)
   clear hK K
   (try simp only [Act.put])
   refine take_first (v := ?_) 28 rfl (by as_aux_lemma => kernel_rfl) (by as_aux_lemma => kernel_rfl) (by as_aux_lemma => kernel_rfl) (fun _ _ _ h => h) (Or.inl ⟨by rfl, ?_⟩) (by assumption) ?_
   rotate_left
   · (intro w hSw; (try dsimp only at hSw); go_simp; try with_reducible rfl)
   (try simp only [Act.put, sA, s0, s1])
   refine step_one 29 rfl (by as_aux_lemma => kernel_rfl) (fun K hK => ?_)
   clear hHeld
   have fx := (HM.out.blk 1 rfl).word 12 (by (try simp only [List.length_set]); rw [HL5.out]; decide)
   have zx := (HM.out.blk 1 rfl).frozen 12
   go_simp
   replace HM := Lib.hid (show Mem w [blkE PP 26 (rowV r), blkE G 86 ((((((v5).set 1 a5).set 6 b5).set 11 c5).set 12 d5).map u32v), blkE (w.heap.size + 1 + 1) 86 (zw 16), blkE (w.heap.size + 1) 122 ((m).map u32v), blkE w.heap.size 86 ((l).map u32v)] (wy4.setCell ⟨G, 12, none⟩ (.int .u32 ((d5).toNat : Int))) from by have h := HM.out.setCell 1 rfl 12 (u32v (d5)); rw [← List.map_set] at h; exact h)
   clear fx zx
   generalize wy4.setCell ⟨G, 12, none⟩ (.int .u32 ((d5).toNat : Int)) = wy5 at HM ⊢
   refine hK.out _ _ ((HM.out.erase 1)) (fun hHeld => ?_)
   clear hK K
   (try simp only [Act.put])
   refine wpAnyH_done (by as_aux_lemma => kernel_rfl) ?_ _
   replace HM := Lib.hid (show Mem w [blkE PP 26 (rowV r), blkE G 86 ((vn).map u32v), blkE (w.heap.size + 1 + 1) 86 (zw 16), blkE (w.heap.size + 1) 122 ((m).map u32v), blkE w.heap.size 86 ((l).map u32v)] wy5 from by have h := HM.out; rw [← HMX.out] at h; exact h)
   generalize hwn : wy5 = wq6 at HM ⊢
   clear hwn
   have HL6 := Lib.hid HLN.out
   have EV6 := Lib.hid HVN.out
   clear CQ HMX HVN HLN FX FY HX HY HGa HGb HGc HGd i1 i2 hHeld
   generalize hvg : vn = v6 at HM HL6 EV6 ⊢
   clear hvg
   as_aux_lemma =>
   go_upto_region 11 with fail
   obtain ⟨X, hX⟩ : ∃ x, wd m (ordN r 12) = x := ⟨_, rfl⟩
   obtain ⟨Y, hY⟩ : ∃ x, wd m (ordN r 13) = x := ⟨_, rfl⟩
   have o1 := ordN_lt r 12 hr10 (by omega)
   have o2 := ordN_lt r 13 hr10 (by omega)
   obtain ⟨p1, hp1⟩ : ∃ p, ordN r 12 = p := ⟨_, rfl⟩
   obtain ⟨p2, hp2⟩ : ∃ p, ordN r 13 = p := ⟨_, rfl⟩
   rw [hp1] at hX o1
   rw [hp2] at hY o2
   have i1 : (p1 : Int) < 16 := by omega
   have i2 : (p2 : Int) < 16 := by omega
   have FX := Lib.hid (show ∀ w' : World, Blk w' PP 26 (rowV r) → w'.cell? ⟨PP, 12, none⟩ = some (.int .u8 (p1 : Int)) from fun w' hb => by rw [hb.cell, rowV_get r 12 (by omega), hp1])
   have FY := Lib.hid (show ∀ w' : World, Blk w' PP 26 (rowV r) → w'.cell? ⟨PP, 13, none⟩ = some (.int .u8 (p2 : Int)) from fun w' hb => by rw [hb.cell, rowV_get r 13 (by omega), hp2])
   obtain ⟨⟨a6, b6, c6, d6⟩, hx⟩ : ∃ x, mixT (wd v6 2, wd v6 7, wd v6 8, wd v6 13) X Y = x := ⟨_, rfl⟩
   have hm := mixB_mixT v6 HL6.out 2 7 8 13 (by omega) (by omega) (by omega) (by omega) (by omega) (by omega) (by omega) (by omega) (by omega) (by omega) X Y
   rw [hx] at hm
   dsimp only at hm
   have CQ := Lib.hid (bpMix_of hx)
   obtain ⟨vn, hvn⟩ : ∃ v, mixB v6 2 7 8 13 X Y = v := ⟨_, rfl⟩
   have HVN := Lib.hid (show mixB v6 2 7 8 13 (wd m (ordN r 12)) (wd m (ordN r 13)) = vn by rw [hp1, hp2, hX, hY, hvn])
   have HLN := Lib.hid (show vn.length = 16 by rw [← hvn, mixB_length]; exact HL6.out)
   rw [hvn] at hm
   have HMX := Lib.hid hm
   have HX := Lib.hid hX
   have HY := Lib.hid hY
   clear hvn hp1 hp2 hX hY o1 o2 hx hm
   obtain ⟨ga, hga⟩ : ∃ x, wd v6 2 = x := ⟨_, rfl⟩
   obtain ⟨gb, hgb⟩ : ∃ x, wd v6 7 = x := ⟨_, rfl⟩
   obtain ⟨gc, hgc⟩ : ∃ x, wd v6 8 = x := ⟨_, rfl⟩
   obtain ⟨gd, hgd⟩ : ∃ x, wd v6 13 = x := ⟨_, rfl⟩
   rw [hga, hgb, hgc, hgd] at CQ
   have HGa := Lib.hid hga
   have HGb := Lib.hid hgb
   have HGc := Lib.hid hgc
   have HGd := Lib.hid hgd
   clear hga hgb hgc hgd
   refine wp_region_held_drew (S := fun W' => Mem w [blkE PP 26 (rowV r), blkE (w.heap.size + 1 + 1) 86 (zw 16), blkE (w.heap.size + 1) 122 ((m).map u32v), blkE w.heap.size 86 ((l).map u32v)] W') (by as_aux_lemma => kernel_rfl) (((HM.out.erase 1)).drew) (fun hHeld => ?_)
   replace HM := Lib.hid HM.out.drew
   generalize wq6.drew = wd1 at HM hHeld ⊢
   refine take_first (v := ?_) 0 rfl (by as_aux_lemma => kernel_rfl) (by as_aux_lemma => kernel_rfl) (by as_aux_lemma => kernel_rfl) (fun _ _ _ h => h) (Or.inl ⟨by rfl, ?_⟩) (by assumption) ?_
   rotate_left
   · (intro w hSw; (try dsimp only at hSw); go_simp; try with_reducible rfl)
   (try simp only [Act.put, sA, s0, s1])
   refine take_first (v := ?_) 2 rfl (by as_aux_lemma => kernel_rfl) (by as_aux_lemma => kernel_rfl) (by as_aux_lemma => kernel_rfl) (fun _ _ _ h => h) (Or.inl ⟨by rfl, ?_⟩) (by assumption) ?_
   rotate_left
   · (intro w hSw; (try dsimp only at hSw); go_simp; try with_reducible rfl)
   (try simp only [Act.put, sA, s0, s1])
   refine take_first (v := ?_) 4 rfl (by as_aux_lemma => kernel_rfl) (by as_aux_lemma => kernel_rfl) (by as_aux_lemma => kernel_rfl) (fun _ _ _ h => h) (Or.inl ⟨by rfl, ?_⟩) (by assumption) ?_
   rotate_left
   · (intro w hSw; (try dsimp only at hSw); go_simp; try with_reducible rfl)
   (try simp only [Act.put, sA, s0, s1])
   refine take_first (v := ?_) 6 rfl (by as_aux_lemma => kernel_rfl) (by as_aux_lemma => kernel_rfl) (by as_aux_lemma => kernel_rfl) (fun _ _ _ h => h) (Or.inl ⟨by rfl, ?_⟩) (by assumption) ?_
   rotate_left
   · (intro w hSw; (try dsimp only at hSw); go_simp; try with_reducible rfl)
   (try simp only [Act.put, sA, s0, s1])
   refine take_first (v := ?_) 8 rfl (by as_aux_lemma => kernel_rfl) (by as_aux_lemma => kernel_rfl) (by as_aux_lemma => kernel_rfl) (fun _ _ _ h => h) (Or.inl ⟨by rfl, ?_⟩) (by assumption) ?_
   rotate_left
   · (intro w hSw; (try dsimp only at hSw); go_simp; try with_reducible rfl)
   (try simp only [Act.put, sA, s0, s1])
   refine take_first (v := ?_) 9 rfl (by as_aux_lemma => kernel_rfl) (by as_aux_lemma => kernel_rfl) (by as_aux_lemma => kernel_rfl) (fun _ _ _ h => h) (Or.inl ⟨by rfl, ?_⟩) (by assumption) ?_
   rotate_left
   · (intro w hSw; (try dsimp only at hSw); have fx := FX.out w (Mem.blk hSw 0 rfl); go_simp; try with_reducible rfl)
   (try simp only [Act.put, sA, s0, s1])
   refine take_first (v := ?_) 10 rfl (by as_aux_lemma => kernel_rfl) (by as_aux_lemma => kernel_rfl) (by as_aux_lemma => kernel_rfl) (fun _ _ _ h => h) (Or.inl ⟨by rfl, ?_⟩) (by assumption) ?_
   rotate_left
   · (intro w hSw; (try dsimp only at hSw); go_simp; try with_reducible rfl)
   (try simp only [Act.put, sA, s0, s1])
   refine take_first (v := ?_) 11 rfl (by as_aux_lemma => kernel_rfl) (by as_aux_lemma => kernel_rfl) (by as_aux_lemma => kernel_rfl) (fun _ _ _ h => h) (Or.inl ⟨by rfl, ?_⟩) (by assumption) ?_
   rotate_left
   · (intro w hSw; (try dsimp only at hSw); have fx := (Mem.blk hSw 2 rfl).word p1 (by rw [HLM.out]; omega); rw [HX.out] at fx; go_simp; try with_reducible rfl)
   (try simp only [Act.put, sA, s0, s1])
   refine take_first (v := ?_) 12 rfl (by as_aux_lemma => kernel_rfl) (by as_aux_lemma => kernel_rfl) (by as_aux_lemma => kernel_rfl) (fun _ _ _ h => h) (Or.inl ⟨by rfl, ?_⟩) (by assumption) ?_
   rotate_left
   · (intro w hSw; (try dsimp only at hSw); go_simp; try with_reducible rfl)
   (try simp only [Act.put, sA, s0, s1])
   refine take_first (v := ?_) 13 rfl (by as_aux_lemma => kernel_rfl) (by as_aux_lemma => kernel_rfl) (by as_aux_lemma => kernel_rfl) (fun _ _ _ h => h) (Or.inl ⟨by rfl, ?_⟩) (by assumption) ?_
   rotate_left
   · (intro w hSw; (try dsimp only at hSw); have fx := FY.out w (Mem.blk hSw 0 rfl); go_simp; try with_reducible rfl)
   (try simp only [Act.put, sA, s0, s1])
   refine take_first (v := ?_) 14 rfl (by as_aux_lemma => kernel_rfl) (by as_aux_lemma => kernel_rfl) (by as_aux_lemma => kernel_rfl) (fun _ _ _ h => h) (Or.inl ⟨by rfl, ?_⟩) (by assumption) ?_
   rotate_left
   · (intro w hSw; (try dsimp only at hSw); go_simp; try with_reducible rfl)
   (try simp only [Act.put, sA, s0, s1])
   refine take_first (v := ?_) 15 rfl (by as_aux_lemma => kernel_rfl) (by as_aux_lemma => kernel_rfl) (by as_aux_lemma => kernel_rfl) (fun _ _ _ h => h) (Or.inl ⟨by rfl, ?_⟩) (by assumption) ?_
   rotate_left
   · (intro w hSw; (try dsimp only at hSw); have fx := (Mem.blk hSw 2 rfl).word p2 (by rw [HLM.out]; omega); rw [HY.out] at fx; go_simp; try with_reducible rfl)
   (try simp only [Act.put, sA, s0, s1])
   refine take_load (v := ?_) [3, 5, 7] 1 rfl (by as_aux_lemma => kernel_rfl) (by as_aux_lemma => kernel_rfl) (by as_aux_lemma => kernel_rfl) (by as_aux_lemma => kernel_rfl) (by as_aux_lemma => kernel_rfl) (fun _ _ _ h => h) (Or.inl ⟨by rfl, ?_⟩) (by assumption) ?_
   rotate_left
   · (intro w hSw; subst hSw; have fx := (HM.out.blk 1 rfl).word 2 (by rw [HL6.out]; decide); rw [HGa.out] at fx; go_simp; try with_reducible rfl)
   (try simp only [Act.put, sA, s0, s1])
   refine take_load (v := ?_) [5, 7] 3 rfl (by as_aux_lemma => kernel_rfl) (by as_aux_lemma => kernel_rfl) (by as_aux_lemma => kernel_rfl) (by as_aux_lemma => kernel_rfl) (by as_aux_lemma => kernel_rfl) (fun _ _ _ h => h) (Or.inl ⟨by rfl, ?_⟩) (by assumption) ?_
   rotate_left
   · (intro w hSw; subst hSw; have fx := (HM.out.blk 1 rfl).word 7 (by rw [HL6.out]; decide); rw [HGb.out] at fx; go_simp; try with_reducible rfl)
   (try simp only [Act.put, sA, s0, s1])
   refine take_load (v := ?_) [7] 5 rfl (by as_aux_lemma => kernel_rfl) (by as_aux_lemma => kernel_rfl) (by as_aux_lemma => kernel_rfl) (by as_aux_lemma => kernel_rfl) (by as_aux_lemma => kernel_rfl) (fun _ _ _ h => h) (Or.inl ⟨by rfl, ?_⟩) (by assumption) ?_
   rotate_left
   · (intro w hSw; subst hSw; have fx := (HM.out.blk 1 rfl).word 8 (by rw [HL6.out]; decide); rw [HGc.out] at fx; go_simp; try with_reducible rfl)
   (try simp only [Act.put, sA, s0, s1])
   refine take_load (v := ?_) [] 7 rfl (by as_aux_lemma => kernel_rfl) (by as_aux_lemma => kernel_rfl) (by as_aux_lemma => kernel_rfl) (by as_aux_lemma => kernel_rfl) (by as_aux_lemma => kernel_rfl) (fun _ _ _ h => h) (Or.inl ⟨by rfl, ?_⟩) (by assumption) ?_
   rotate_left
   · (intro w hSw; subst hSw; have fx := (HM.out.blk 1 rfl).word 13 (by rw [HL6.out]; decide); rw [HGd.out] at fx; go_simp; try with_reducible rfl)
   (try simp only [Act.put, sA, s0, s1])
   refine step_one 16 rfl (by as_aux_lemma => kernel_rfl) (fun K hK => ?_)
   clear hHeld
   go_simp
   refine (CQ.out _).mono ?_
   rintro e wy ⟨rfl, rfl⟩
   go_wp2_with fail
   refine hK.out _ _ ((HM.out.erase 1)) (fun hHeld => ?_)
   clear hK K
   (try simp only [Act.put, sA, s0, s1])
   refine take_first (v := ?_) 17 rfl (by as_aux_lemma => kernel_rfl) (by as_aux_lemma => kernel_rfl) (by as_aux_lemma => kernel_rfl) (fun _ _ _ h => h) (Or.inl ⟨by rfl, ?_⟩) (by assumption) ?_
   rotate_left
   · (intro w hSw; (try dsimp only at hSw); go_simp; try with_reducible rfl)
   (try simp only [Act.put, sA, s0, s1])
   refine take_first (v := ?_) 18 rfl (by as_aux_lemma => kernel_rfl) (by as_aux_lemma => kernel_rfl) (by as_aux_lemma => kernel_rfl) (fun _ _ _ h => h) (Or.inl ⟨by rfl, ?_⟩) (by assumption) ?_
   rotate_left
   · (intro w hSw; (try dsimp only at hSw); go_simp; try with_reducible rfl)
   (try simp only [Act.put, sA, s0, s1])
   refine take_first (v := ?_) 19 rfl (by as_aux_lemma => kernel_rfl) (by as_aux_lemma => kernel_rfl) (by as_aux_lemma => kernel_rfl) (fun _ _ _ h => h) (Or.inl ⟨by rfl, ?_⟩) (by assumption) ?_
   rotate_left
   · (intro w hSw; (try dsimp only at hSw); go_simp; try with_reducible rfl)
   (try simp only [Act.put, sA, s0, s1])
   refine take_first (v := ?_) 20 rfl (by as_aux_lemma => kernel_rfl) (by as_aux_lemma => kernel_rfl) (by as_aux_lemma => kernel_rfl) (fun _ _ _ h => h) (Or.inl ⟨by rfl, ?_⟩) (by assumption) ?_
   rotate_left
   · (intro w hSw; (try dsimp only at hSw); go_simp; try with_reducible rfl)
   (try simp only [Act.put, sA, s0, s1])
   refine take_first (v := ?_) 21 rfl (by as_aux_lemma => kernel_rfl) (by as_aux_lemma => kernel_rfl) (by as_aux_lemma => kernel_rfl) (fun _ _ _ h => h) (Or.inl ⟨by rfl, ?_⟩) (by assumption) ?_
   rotate_left
   · (intro w hSw; (try dsimp only at hSw); go_simp; try with_reducible rfl)
   (try simp only [Act.put, sA, s0, s1])
   refine take_first (v := ?_) 22 rfl (by as_aux_lemma => kernel_rfl) (by as_aux_lemma => kernel_rfl) (by as_aux_lemma => kernel_rfl) (fun _ _ _ h => h) (Or.inl ⟨by rfl, ?_⟩) (by assumption) ?_
   rotate_left
   · (intro w hSw; (try dsimp only at hSw); go_simp; try with_reducible rfl)
   (try simp only [Act.put, sA, s0, s1])
   refine step_one 23 rfl (by as_aux_lemma => kernel_rfl) (fun K hK => ?_)
   clear hHeld
   have fx := (HM.out.blk 1 rfl).word 2 (by (try simp only [List.length_set]); rw [HL6.out]; decide)
   have zx := (HM.out.blk 1 rfl).frozen 2
   go_simp
   replace HM := Lib.hid (show Mem w [blkE PP 26 (rowV r), blkE G 86 (((v6).set 2 a6).map u32v), blkE (w.heap.size + 1 + 1) 86 (zw 16), blkE (w.heap.size + 1) 122 ((m).map u32v), blkE w.heap.size 86 ((l).map u32v)] (wd1.setCell ⟨G, 2, none⟩ (.int .u32 ((a6).toNat : Int))) from by have h := HM.out.setCell 1 rfl 2 (u32v (a6)); rw [← List.map_set] at h; exact h)
   clear fx zx
   generalize wd1.setCell ⟨G, 2, none⟩ (.int .u32 ((a6).toNat : Int)) = wy2 at HM ⊢
   refine hK.out _ _ ((HM.out.erase 1)) (fun hHeld => ?_)
   clear hK K
   (try simp only [Act.put])
   refine take_first (v := ?_) 24 rfl (by as_aux_lemma => kernel_rfl) (by as_aux_lemma => kernel_rfl) (by as_aux_lemma => kernel_rfl) (fun _ _ _ h => h) (Or.inl ⟨by rfl, ?_⟩) (by assumption) ?_
   rotate_left
   · (intro w hSw; (try dsimp only at hSw); go_simp; try with_reducible rfl)
   (try simp only [Act.put, sA, s0, s1])
   refine step_one 25 rfl (by as_aux_lemma => kernel_rfl) (fun K hK => ?_)
   clear hHeld
   have fx := (HM.out.blk 1 rfl).word 7 (by (try simp only [List.length_set]); rw [HL6.out]; decide)
   have zx := (HM.out.blk 1 rfl).frozen 7
   go_simp
   replace HM := Lib.hid (show Mem w [blkE PP 26 (rowV r), blkE G 86 ((((v6).set 2 a6).set 7 b6).map u32v), blkE (w.heap.size + 1 + 1) 86 (zw 16), blkE (w.heap.size + 1) 122 ((m).map u32v), blkE w.heap.size 86 ((l).map u32v)] (wy2.setCell ⟨G, 7, none⟩ (.int .u32 ((b6).toNat : Int))) from by have h := HM.out.setCell 1 rfl 7 (u32v (b6)); rw [← List.map_set] at h; exact h)
   clear fx zx
   generalize wy2.setCell ⟨G, 7, none⟩ (.int .u32 ((b6).toNat : Int)) = wy3 at HM ⊢
   refine hK.out _ _ ((HM.out.erase 1)) (fun hHeld => ?_)
   clear hK K
   (try simp only [Act.put])
   refine take_first (v := ?_) 26 rfl (by as_aux_lemma => kernel_rfl) (by as_aux_lemma => kernel_rfl) (by as_aux_lemma => kernel_rfl) (fun _ _ _ h => h) (Or.inl ⟨by rfl, ?_⟩) (by assumption) ?_
   rotate_left
   · (intro w hSw; (try dsimp only at hSw); go_simp; try with_reducible rfl)
   (try simp only [Act.put, sA, s0, s1])
   refine step_one 27 rfl (by as_aux_lemma => kernel_rfl) (fun K hK => ?_)
   clear hHeld
   have fx := (HM.out.blk 1 rfl).word 8 (by (try simp only [List.length_set]); rw [HL6.out]; decide)
   have zx := (HM.out.blk 1 rfl).frozen 8
   go_simp
   replace HM := Lib.hid (show Mem w [blkE PP 26 (rowV r), blkE G 86 (((((v6).set 2 a6).set 7 b6).set 8 c6).map u32v), blkE (w.heap.size + 1 + 1) 86 (zw 16), blkE (w.heap.size + 1) 122 ((m).map u32v), blkE w.heap.size 86 ((l).map u32v)] (wy3.setCell ⟨G, 8, none⟩ (.int .u32 ((c6).toNat : Int))) from by have h := HM.out.setCell 1 rfl 8 (u32v (c6)); rw [← List.map_set] at h; exact h)
   clear fx zx
   generalize wy3.setCell ⟨G, 8, none⟩ (.int .u32 ((c6).toNat : Int)) = wy4 at HM ⊢
   refine hK.out _ _ ((HM.out.erase 1)) (fun hHeld => ?_)
   clear hK K
   (try simp only [Act.put])
   refine take_first (v := ?_) 28 rfl (by as_aux_lemma => kernel_rfl) (by as_aux_lemma => kernel_rfl) (by as_aux_lemma => kernel_rfl) (fun _ _ _ h => h) (Or.inl ⟨by rfl, ?_⟩) (by assumption) ?_
   rotate_left
   · (intro w hSw; (try dsimp only at hSw); go_simp; try with_reducible rfl)
   (try simp only [Act.put, sA, s0, s1])
   refine step_one 29 rfl (by as_aux_lemma => kernel_rfl) (fun K hK => ?_)
   clear hHeld
   have fx := (HM.out.blk 1 rfl).word 13 (by (try simp only [List.length_set]); rw [HL6.out]; decide)
   have zx := (HM.out.blk 1 rfl).frozen 13
   go_simp
   replace HM := Lib.hid (show Mem w [blkE PP 26 (rowV r), blkE G 86 ((((((v6).set 2 a6).set 7 b6).set 8 c6).set 13 d6).map u32v), blkE (w.heap.size + 1 + 1) 86 (zw 16), blkE (w.heap.size + 1) 122 ((m).map u32v), blkE w.heap.size 86 ((l).map u32v)] (wy4.setCell ⟨G, 13, none⟩ (.int .u32 ((d6).toNat : Int))) from by have h := HM.out.setCell 1 rfl 13 (u32v (d6)); rw [← List.map_set] at h; exact h)
   clear fx zx
   generalize wy4.setCell ⟨G, 13, none⟩ (.int .u32 ((d6).toNat : Int)) = wy5 at HM ⊢
   refine hK.out _ _ ((HM.out.erase 1)) (fun hHeld => ?_)
   clear hK K
   (try simp only [Act.put])
   refine wpAnyH_done (by as_aux_lemma => kernel_rfl) ?_ _
   replace HM := Lib.hid (show Mem w [blkE PP 26 (rowV r), blkE G 86 ((vn).map u32v), blkE (w.heap.size + 1 + 1) 86 (zw 16), blkE (w.heap.size + 1) 122 ((m).map u32v), blkE w.heap.size 86 ((l).map u32v)] wy5 from by have h := HM.out; rw [← HMX.out] at h; exact h)
   generalize hwn : wy5 = wq7 at HM ⊢
   clear hwn
   have HL7 := Lib.hid HLN.out
   have EV7 := Lib.hid HVN.out
   clear CQ HMX HVN HLN FX FY HX HY HGa HGb HGc HGd i1 i2 hHeld
   generalize hvg : vn = v7 at HM HL7 EV7 ⊢
   clear hvg
   as_aux_lemma =>
   go_upto_region 12 with fail
   obtain ⟨X, hX⟩ : ∃ x, wd m (ordN r 14) = x := ⟨_, rfl⟩
   obtain ⟨Y, hY⟩ : ∃ x, wd m (ordN r 15) = x := ⟨_, rfl⟩
   have o1 := ordN_lt r 14 hr10 (by omega)
   have o2 := ordN_lt r 15 hr10 (by omega)
   obtain ⟨p1, hp1⟩ : ∃ p, ordN r 14 = p := ⟨_, rfl⟩
   obtain ⟨p2, hp2⟩ : ∃ p, ordN r 15 = p := ⟨_, rfl⟩
   rw [hp1] at hX o1
   rw [hp2] at hY o2
   have i1 : (p1 : Int) < 16 := by omega
   have i2 : (p2 : Int) < 16 := by omega
   have FX := Lib.hid (show ∀ w' : World, Blk w' PP 26 (rowV r) → w'.cell? ⟨PP, 14, none⟩ = some (.int .u8 (p1 : Int)) from fun w' hb => by rw [hb.cell, rowV_get r 14 (by omega), hp1])
   have FY := Lib.hid (show ∀ w' : World, Blk w' PP 26 (rowV r) → w'.cell? ⟨PP, 15, none⟩ = some (.int .u8 (p2 : Int)) from fun w' hb => by rw [hb.cell, rowV_get r 15 (by omega), hp2])
   obtain ⟨⟨a7, b7, c7, d7⟩, hx⟩ : ∃ x, mixT (wd v7 3, wd v7 4, wd v7 9, wd v7 14) X Y = x := ⟨_, rfl⟩
   have hm := mixB_mixT v7 HL7.out 3 4 9 14 (by omega) (by omega) (by omega) (by omega) (by omega) (by omega) (by omega) (by omega) (by omega) (by omega) X Y
   rw [hx] at hm
   dsimp only at hm
   have CQ := Lib.hid (bpMix_of hx)
   obtain ⟨vn, hvn⟩ : ∃ v, mixB v7 3 4 9 14 X Y = v := ⟨_, rfl⟩
   have HVN := Lib.hid (show mixB v7 3 4 9 14 (wd m (ordN r 14)) (wd m (ordN r 15)) = vn by rw [hp1, hp2, hX, hY, hvn])
   have HLN := Lib.hid (show vn.length = 16 by rw [← hvn, mixB_length]; exact HL7.out)
   rw [hvn] at hm
   have HMX := Lib.hid hm
   have HX := Lib.hid hX
   have HY := Lib.hid hY
   clear hvn hp1 hp2 hX hY o1 o2 hx hm
   obtain ⟨ga, hga⟩ : ∃ x, wd v7 3 = x := ⟨_, rfl⟩
   obtain ⟨gb, hgb⟩ : ∃ x, wd v7 4 = x := ⟨_, rfl⟩
   obtain ⟨gc, hgc⟩ : ∃ x, wd v7 9 = x := ⟨_, rfl⟩
   obtain ⟨gd, hgd⟩ : ∃ x, wd v7 14 = x := ⟨_, rfl⟩
   rw [hga, hgb, hgc, hgd] at CQ
   have HGa := Lib.hid hga
   have HGb := Lib.hid hgb
   have HGc := Lib.hid hgc
   have HGd := Lib.hid hgd
   clear hga hgb hgc hgd
   refine wp_region_held_drew (S := fun W' => Mem w [blkE PP 26 (rowV r), blkE (w.heap.size + 1 + 1) 86 (zw 16), blkE (w.heap.size + 1) 122 ((m).map u32v), blkE w.heap.size 86 ((l).map u32v)] W') (by as_aux_lemma => kernel_rfl) (((HM.out.erase 1)).drew) (fun hHeld => ?_)
   replace HM := Lib.hid HM.out.drew
   generalize wq7.drew = wd1 at HM hHeld ⊢
   refine take_first (v := ?_) 0 rfl (by as_aux_lemma => kernel_rfl) (by as_aux_lemma => kernel_rfl) (by as_aux_lemma => kernel_rfl) (fun _ _ _ h => h) (Or.inl ⟨by rfl, ?_⟩) (by assumption) ?_
   rotate_left
   · (intro w hSw; (try dsimp only at hSw); go_simp; try with_reducible rfl)
   (try simp only [Act.put, sA, s0, s1])
   refine take_first (v := ?_) 2 rfl (by as_aux_lemma => kernel_rfl) (by as_aux_lemma => kernel_rfl) (by as_aux_lemma => kernel_rfl) (fun _ _ _ h => h) (Or.inl ⟨by rfl, ?_⟩) (by assumption) ?_
   rotate_left
   · (intro w hSw; (try dsimp only at hSw); go_simp; try with_reducible rfl)
   (try simp only [Act.put, sA, s0, s1])
   refine take_first (v := ?_) 4 rfl (by as_aux_lemma => kernel_rfl) (by as_aux_lemma => kernel_rfl) (by as_aux_lemma => kernel_rfl) (fun _ _ _ h => h) (Or.inl ⟨by rfl, ?_⟩) (by assumption) ?_
   rotate_left
   · (intro w hSw; (try dsimp only at hSw); go_simp; try with_reducible rfl)
   (try simp only [Act.put, sA, s0, s1])
   refine take_first (v := ?_) 6 rfl (by as_aux_lemma => kernel_rfl) (by as_aux_lemma => kernel_rfl) (by as_aux_lemma => kernel_rfl) (fun _ _ _ h => h) (Or.inl ⟨by rfl, ?_⟩) (by assumption) ?_
   rotate_left
   · (intro w hSw; (try dsimp only at hSw); go_simp; try with_reducible rfl)
   (try simp only [Act.put, sA, s0, s1])
   refine take_first (v := ?_) 8 rfl (by as_aux_lemma => kernel_rfl) (by as_aux_lemma => kernel_rfl) (by as_aux_lemma => kernel_rfl) (fun _ _ _ h => h) (Or.inl ⟨by rfl, ?_⟩) (by assumption) ?_
   rotate_left
   · (intro w hSw; (try dsimp only at hSw); go_simp; try with_reducible rfl)
   (try simp only [Act.put, sA, s0, s1])
   refine take_first (v := ?_) 9 rfl (by as_aux_lemma => kernel_rfl) (by as_aux_lemma => kernel_rfl) (by as_aux_lemma => kernel_rfl) (fun _ _ _ h => h) (Or.inl ⟨by rfl, ?_⟩) (by assumption) ?_
   rotate_left
   · (intro w hSw; (try dsimp only at hSw); have fx := FX.out w (Mem.blk hSw 0 rfl); go_simp; try with_reducible rfl)
   (try simp only [Act.put, sA, s0, s1])
   refine take_first (v := ?_) 10 rfl (by as_aux_lemma => kernel_rfl) (by as_aux_lemma => kernel_rfl) (by as_aux_lemma => kernel_rfl) (fun _ _ _ h => h) (Or.inl ⟨by rfl, ?_⟩) (by assumption) ?_
   rotate_left
   · (intro w hSw; (try dsimp only at hSw); go_simp; try with_reducible rfl)
   (try simp only [Act.put, sA, s0, s1])
   refine take_first (v := ?_) 11 rfl (by as_aux_lemma => kernel_rfl) (by as_aux_lemma => kernel_rfl) (by as_aux_lemma => kernel_rfl) (fun _ _ _ h => h) (Or.inl ⟨by rfl, ?_⟩) (by assumption) ?_
   rotate_left
   · (intro w hSw; (try dsimp only at hSw); have fx := (Mem.blk hSw 2 rfl).word p1 (by rw [HLM.out]; omega); rw [HX.out] at fx; go_simp; try with_reducible rfl)
   (try simp only [Act.put, sA, s0, s1])
   refine take_first (v := ?_) 12 rfl (by as_aux_lemma => kernel_rfl) (by as_aux_lemma => kernel_rfl) (by as_aux_lemma => kernel_rfl) (fun _ _ _ h => h) (Or.inl ⟨by rfl, ?_⟩) (by assumption) ?_
   rotate_left
   · (intro w hSw; (try dsimp only at hSw); go_simp; try with_reducible rfl)
   (try simp only [Act.put, sA, s0, s1])
   refine take_first (v := ?_) 13 rfl (by as_aux_lemma => kernel_rfl) (by as_aux_lemma => kernel_rfl) (by as_aux_lemma => kernel_rfl) (fun _ _ _ h => h) (Or.inl ⟨by rfl, ?_⟩) (by assumption) ?_
   rotate_left
   · (intro w hSw; (try dsimp only at hSw); have fx := FY.out w (Mem.blk hSw 0 rfl); go_simp; try with_reducible rfl)
   (try simp only [Act.put, sA, s0, s1])
   refine take_first (v := ?_) 14 rfl (by as_aux_lemma => kernel_rfl) (by as_aux_lemma => kernel_rfl) (by as_aux_lemma => kernel_rfl) (fun _ _ _ h => h) (Or.inl ⟨by rfl, ?_⟩) (by assumption) ?_
   rotate_left
   · (intro w hSw; (try dsimp only at hSw); go_simp; try with_reducible rfl)
   (try simp only [Act.put, sA, s0, s1])
   refine take_first (v := ?_) 15 rfl (by as_aux_lemma => kernel_rfl) (by as_aux_lemma => kernel_rfl) (by as_aux_lemma => kernel_rfl) (fun _ _ _ h => h) (Or.inl ⟨by rfl, ?_⟩) (by assumption) ?_
   rotate_left
   · (intro w hSw; (try dsimp only at hSw); have fx := (Mem.blk hSw 2 rfl).word p2 (by rw [HLM.out]; omega); rw [HY.out] at fx; go_simp; try with_reducible rfl)
   (try simp only [Act.put, sA, s0, s1])
   refine take_load (v := ?_) [3, 5, 7] 1 rfl (by as_aux_lemma => kernel_rfl) (by as_aux_lemma => kernel_rfl) (by as_aux_lemma => kernel_rfl) (by as_aux_lemma => kernel_rfl) (by as_aux_lemma => kernel_rfl) (fun _ _ _ h => h) (Or.inl ⟨by rfl, ?_⟩) (by assumption) ?_
   rotate_left
   · (intro w hSw; subst hSw; have fx := (HM.out.blk 1 rfl).word 3 (by rw [HL7.out]; decide); rw [HGa.out] at fx; go_simp; try with_reducible rfl)
   (try simp only [Act.put, sA, s0, s1])
   refine take_load (v := ?_) [5, 7] 3 rfl (by as_aux_lemma => kernel_rfl) (by as_aux_lemma => kernel_rfl) (by as_aux_lemma => kernel_rfl) (by as_aux_lemma => kernel_rfl) (by as_aux_lemma => kernel_rfl) (fun _ _ _ h => h) (Or.inl ⟨by rfl, ?_⟩) (by assumption) ?_
   rotate_left
   · (intro w hSw; subst hSw; have fx := (HM.out.blk 1 rfl).word 4 (by rw [HL7.out]; decide); rw [HGb.out] at fx; go_simp; try with_reducible rfl)
   (try simp only [Act.put, sA, s0, s1])
   refine take_load (v := ?_) [7] 5 rfl (by as_aux_lemma => kernel_rfl) (by as_aux_lemma => kernel_rfl) (by as_aux_lemma => kernel_rfl) (by as_aux_lemma => kernel_rfl) (by as_aux_lemma => kernel_rfl) (fun _ _ _ h => h) (Or.inl ⟨by rfl, ?_⟩) (by assumption) ?_
   rotate_left
   · (intro w hSw; subst hSw; have fx := (HM.out.blk 1 rfl).word 9 (by rw [HL7.out]; decide); rw [HGc.out] at fx; go_simp; try with_reducible rfl)
   (try simp only [Act.put, sA, s0, s1])
   refine take_load (v := ?_) [] 7 rfl (by as_aux_lemma => kernel_rfl) (by as_aux_lemma => kernel_rfl) (by as_aux_lemma => kernel_rfl) (by as_aux_lemma => kernel_rfl) (by as_aux_lemma => kernel_rfl) (fun _ _ _ h => h) (Or.inl ⟨by rfl, ?_⟩) (by assumption) ?_
   rotate_left
   · (intro w hSw; subst hSw; have fx := (HM.out.blk 1 rfl).word 14 (by rw [HL7.out]; decide); rw [HGd.out] at fx; go_simp; try with_reducible rfl)
   (try simp only [Act.put, sA, s0, s1])
   refine step_one 16 rfl (by as_aux_lemma => kernel_rfl) (fun K hK => ?_)
   clear hHeld
   go_simp
   refine (CQ.out _).mono ?_
   rintro e wy ⟨rfl, rfl⟩
   go_wp2_with fail
   refine hK.out _ _ ((HM.out.erase 1)) (fun hHeld => ?_)
   clear hK K
   (try simp only [Act.put, sA, s0, s1])
   refine take_first (v := ?_) 17 rfl (by as_aux_lemma => kernel_rfl) (by as_aux_lemma => kernel_rfl) (by as_aux_lemma => kernel_rfl) (fun _ _ _ h => h) (Or.inl ⟨by rfl, ?_⟩) (by assumption) ?_
   rotate_left
   · (intro w hSw; (try dsimp only at hSw); go_simp; try with_reducible rfl)
   (try simp only [Act.put, sA, s0, s1])
   refine take_first (v := ?_) 18 rfl (by as_aux_lemma => kernel_rfl) (by as_aux_lemma => kernel_rfl) (by as_aux_lemma => kernel_rfl) (fun _ _ _ h => h) (Or.inl ⟨by rfl, ?_⟩) (by assumption) ?_
   rotate_left
   · (intro w hSw; (try dsimp only at hSw); go_simp; try with_reducible rfl)
   (try simp only [Act.put, sA, s0, s1])
   refine take_first (v := ?_) 19 rfl (by as_aux_lemma => kernel_rfl) (by as_aux_lemma => kernel_rfl) (by as_aux_lemma => kernel_rfl) (fun _ _ _ h => h) (Or.inl ⟨by rfl, ?_⟩) (by assumption) ?_
   rotate_left
   · (intro w hSw; (try dsimp only at hSw); go_simp; try with_reducible rfl)
   (try simp only [Act.put, sA, s0, s1])
   refine take_first (v := ?_) 20 rfl (by as_aux_lemma => kernel_rfl) (by as_aux_lemma => kernel_rfl) (by as_aux_lemma => kernel_rfl) (fun _ _ _ h => h) (Or.inl ⟨by rfl, ?_⟩) (by assumption) ?_
   rotate_left
   · (intro w hSw; (try dsimp only at hSw); go_simp; try with_reducible rfl)
   (try simp only [Act.put, sA, s0, s1])
   refine take_first (v := ?_) 21 rfl (by as_aux_lemma => kernel_rfl) (by as_aux_lemma => kernel_rfl) (by as_aux_lemma => kernel_rfl) (fun _ _ _ h => h) (Or.inl ⟨by rfl, ?_⟩) (by assumption) ?_
   rotate_left
   · (intro w hSw; (try dsimp only at hSw); go_simp; try with_reducible rfl)
   (try simp only [Act.put, sA, s0, s1])
   refine take_first (v := ?_) 22 rfl (by as_aux_lemma => kernel_rfl) (by as_aux_lemma => kernel_rfl) (by as_aux_lemma => kernel_rfl) (fun _ _ _ h => h) (Or.inl ⟨by rfl, ?_⟩) (by assumption) ?_
   rotate_left
   · (intro w hSw; (try dsimp only at hSw); go_simp; try with_reducible rfl)
   (try simp only [Act.put, sA, s0, s1])
   refine step_one 23 rfl (by as_aux_lemma => kernel_rfl) (fun K hK => ?_)
   clear hHeld
   have fx := (HM.out.blk 1 rfl).word 3 (by (try simp only [List.length_set]); rw [HL7.out]; decide)
   have zx := (HM.out.blk 1 rfl).frozen 3
   go_simp
   replace HM := Lib.hid (show Mem w [blkE PP 26 (rowV r), blkE G 86 (((v7).set 3 a7).map u32v), blkE (w.heap.size + 1 + 1) 86 (zw 16), blkE (w.heap.size + 1) 122 ((m).map u32v), blkE w.heap.size 86 ((l).map u32v)] (wd1.setCell ⟨G, 3, none⟩ (.int .u32 ((a7).toNat : Int))) from by have h := HM.out.setCell 1 rfl 3 (u32v (a7)); rw [← List.map_set] at h; exact h)
   clear fx zx
   generalize wd1.setCell ⟨G, 3, none⟩ (.int .u32 ((a7).toNat : Int)) = wy2 at HM ⊢
   refine hK.out _ _ ((HM.out.erase 1)) (fun hHeld => ?_)
   clear hK K
   (try simp only [Act.put])
   refine take_first (v := ?_) 24 rfl (by as_aux_lemma => kernel_rfl) (by as_aux_lemma => kernel_rfl) (by as_aux_lemma => kernel_rfl) (fun _ _ _ h => h) (Or.inl ⟨by rfl, ?_⟩) (by assumption) ?_
   rotate_left
   · (intro w hSw; (try dsimp only at hSw); go_simp; try with_reducible rfl)
   (try simp only [Act.put, sA, s0, s1])
   refine step_one 25 rfl (by as_aux_lemma => kernel_rfl) (fun K hK => ?_)
   clear hHeld
   have fx := (HM.out.blk 1 rfl).word 4 (by (try simp only [List.length_set]); rw [HL7.out]; decide)
   have zx := (HM.out.blk 1 rfl).frozen 4
   go_simp
   replace HM := Lib.hid (show Mem w [blkE PP 26 (rowV r), blkE G 86 ((((v7).set 3 a7).set 4 b7).map u32v), blkE (w.heap.size + 1 + 1) 86 (zw 16), blkE (w.heap.size + 1) 122 ((m).map u32v), blkE w.heap.size 86 ((l).map u32v)] (wy2.setCell ⟨G, 4, none⟩ (.int .u32 ((b7).toNat : Int))) from by have h := HM.out.setCell 1 rfl 4 (u32v (b7)); rw [← List.map_set] at h; exact h)
   clear fx zx
   generalize wy2.setCell ⟨G, 4, none⟩ (.int .u32 ((b7).toNat : Int)) = wy3 at HM ⊢
   refine hK.out _ _ ((HM.out.erase 1)) (fun hHeld => ?_)
   clear hK K
   (try simp only [Act.put])
   refine take_first (v := ?_) 26 rfl (by as_aux_lemma => kernel_rfl) (by as_aux_lemma => kernel_rfl) (by as_aux_lemma => kernel_rfl) (fun _ _ _ h => h) (Or.inl ⟨by rfl, ?_⟩) (by assumption) ?_
   rotate_left
   · (intro w hSw; (try dsimp only at hSw); go_simp; try with_reducible rfl)
   (try simp only [Act.put, sA, s0, s1])
   refine step_one 27 rfl (by as_aux_lemma => kernel_rfl) (fun K hK => ?_)
   clear hHeld
   have fx := (HM.out.blk 1 rfl).word 9 (by (try simp only [List.length_set]); rw [HL7.out]; decide)
   have zx := (HM.out.blk 1 rfl).frozen 9
   go_simp
   replace HM := Lib.hid (show Mem w [blkE PP 26 (rowV r), blkE G 86 (((((v7).set 3 a7).set 4 b7).set 9 c7).map u32v), blkE (w.heap.size + 1 + 1) 86 (zw 16), blkE (w.heap.size + 1) 122 ((m).map u32v), blkE w.heap.size 86 ((l).map u32v)] (wy3.setCell ⟨G, 9, none⟩ (.int .u32 ((c7).toNat : Int))) from by have h := HM.out.setCell 1 rfl 9 (u32v (c7)); rw [← List.map_set] at h; exact h)
   clear fx zx
   generalize wy3.setCell ⟨G, 9, none⟩ (.int .u32 ((c7).toNat : Int)) = wy4 at HM ⊢
   refine hK.out _ _ ((HM.out.erase 1)) (fun hHeld => ?_)
   clear hK K
   (try simp only [Act.put])
   refine take_first (v := ?_) 28 rfl (by as_aux_lemma => kernel_rfl) (by as_aux_lemma => kernel_rfl) (by as_aux_lemma => kernel_rfl) (fun _ _ _ h => h) (Or.inl ⟨by rfl, ?_⟩) (by assumption) ?_
   rotate_left
   · (intro w hSw; (try dsimp only at hSw); go_simp; try with_reducible rfl)
   (try simp only [Act.put, sA, s0, s1])
   refine step_one 29 rfl (by as_aux_lemma => kernel_rfl) (fun K hK => ?_)
   clear hHeld
   have fx := (HM.out.blk 1 rfl).word 14 (by (try simp only [List.length_set]); rw [HL7.out]; decide)
   have zx := (HM.out.blk 1 rfl).frozen 14
   go_simp
   replace HM := Lib.hid (show Mem w [blkE PP 26 (rowV r), blkE G 86 ((((((v7).set 3 a7).set 4 b7).set 9 c7).set 14 d7).map u32v), blkE (w.heap.size + 1 + 1) 86 (zw 16), blkE (w.heap.size + 1) 122 ((m).map u32v), blkE w.heap.size 86 ((l).map u32v)] (wy4.setCell ⟨G, 14, none⟩ (.int .u32 ((d7).toNat : Int))) from by have h := HM.out.setCell 1 rfl 14 (u32v (d7)); rw [← List.map_set] at h; exact h)
   clear fx zx
   generalize wy4.setCell ⟨G, 14, none⟩ (.int .u32 ((d7).toNat : Int)) = wy5 at HM ⊢
   refine hK.out _ _ ((HM.out.erase 1)) (fun hHeld => ?_)
   clear hK K
   (try simp only [Act.put])
   refine wpAnyH_done (by as_aux_lemma => kernel_rfl) ?_ _
   replace HM := Lib.hid (show Mem w [blkE PP 26 (rowV r), blkE G 86 ((vn).map u32v), blkE (w.heap.size + 1 + 1) 86 (zw 16), blkE (w.heap.size + 1) 122 ((m).map u32v), blkE w.heap.size 86 ((l).map u32v)] wy5 from by have h := HM.out; rw [← HMX.out] at h; exact h)
   generalize hwn : wy5 = wq8 at HM ⊢
   clear hwn
   have HL8 := Lib.hid HLN.out
   have EV8 := Lib.hid HVN.out
   clear CQ HMX HVN HLN FX FY HX HY HGa HGb HGc HGd i1 i2 hHeld
   generalize hvg : vn = v8 at HM HL8 EV8 ⊢
   clear hvg
   as_aux_lemma =>
   have hend : roundsB m (r + 1) l = v8 := by
    show roundB m r (roundsB m r l) = v8
    rw [HV0.out]
    unfold roundB
    rw [EV1.out, EV2.out, EV3.out, EV4.out, EV5.out, EV6.out, EV7.out, EV8.out]
   have HF := Lib.hid (show Mem w [blkE G 86 ((roundsB m (r + 1) l).map u32v), blkE (w.heap.size + 1 + 1) 86 (zw 16), blkE (w.heap.size + 1) 122 ((m).map u32v), blkE w.heap.size 86 ((l).map u32v)] wq8 from by rw [hend]; exact HM.out.erase 0)
   clear hend HM HV0 EV1 EV2 EV3 EV4 EV5 EV6 EV7 EV8
   go_wp2
   refine ⟨⟨r + 1, by omega, by go_num, HF.out⟩, ?_⟩
   simp [intOf]
   omega
  ·
   obtain rfl : r = 10 := by omega
   have HVZ := Lib.hid (show (roundsB m 10 l).length = 16 by rw [roundsB_length]; exact HLL.out)
   obtain ⟨vz, hvz⟩ : ∃ v, roundsB m 10 l = v := ⟨_, rfl⟩
   rw [hvz] at HM HVZ
   have HVE := Lib.hid hvz
   clear hvz
   obtain ⟨cz, hcz⟩ : ∃ c, (vz.map u32v).toArray = c := ⟨_, rfl⟩
   have HCZ := Lib.hid hcz
   clear hcz
   rw [show ((10 : Nat) : Int) = 10 from rfl]
   go_wp2_with (first | (refine wpList_load_blk rfl 86 (.tmp 5) rfl G rfl 86 (vz.map u32v) (HM.out.blk 0 rfl) 16 28 Tryz.underlying86 (bpCells16 vz HVZ.out) ?_; rw [HCZ.out]) | (refine wpList_store_blk rfl 86 (.tmp 4) (.tmp 222) rfl (w.heap.size + 1 + 1) (vz.map u32v) rfl (by show Value.agg cz = _; rw [HCZ.out]) 86 (zw 16) (HM.out.blk 1 rfl) (bpCells16 vz HVZ.out) (by rw [List.length_map, HVZ.out]; rfl) (u32v_one _) ?_; intro w9 hb9 hg9))
   exact bodyPost_ret (results_blk rfl _ _ (w.heap.size + 1 + 1) 86 (vz.map u32v) 16 28 rfl hb9 Tryz.underlying86 (bpCells16 vz HVZ.out)) rfl ⟨by rw [HVE.out], (HM.out.put 1 rfl _ hg9 hb9).bel⟩
end Go.Proofs.YtlddafkikkaonaaGreatDoor
