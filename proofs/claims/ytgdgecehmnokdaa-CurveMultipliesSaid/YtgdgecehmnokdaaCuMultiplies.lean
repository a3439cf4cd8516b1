/-
  CurveMultiplies returns true for every input, and changes nothing that was there: the walk, over what is asked of curve.Mul and Share.
-/
import Derived.Test.YtgdgecehmnokdaaCells32
import Derived.Test.YtgdgecehmnokdaaCuSpecial
namespace Go.Proofs.Ytgdgecehmnokdaa
open Go.RowKit

set_option maxRecDepth 100000 in
set_option maxHeartbeats 4000000 in
theorem cu_multiplies_walk (HMU : CuMulC) (HSC : CuShareC) (w : World) (a u : List UInt8) (wh lo : Nat) (ha : a.length = 32) (hu : u.length = 32) (hwh : wh ≤ 255) (hlo : lo ≤ 255) :
    Calls Try.prog 3 #[.agg (a.map u8v).toArray, .agg (u.map u8v).toArray, .int .u8 (wh : Int), .int .u8 (lo : Int)] w fun e w' => e = .returned (.bool true) ∧ Below w.heap.size w w' := by
  obtain ⟨i0, hi, hz0, hz1, hz2⟩ := info_parts Try.info5
  have M1 := fun W : World => HMU a u ha hu W
  have R1 := fun W : World => refMul_any a u ha hu W
  have e1 := fun w' : World => run_key_eq (P := Try.prog) 23 5 32 Try.underlying23 Try.underlying5 i0 hi hz1 (mulL a u) (mulL a u) (mulL_length _ _) (mulL_length _ _) w'
  rw [show (mulL a u == mulL a u) = true by simp] at e1
  obtain ⟨ca, hca⟩ : ∃ c, (a.map u8v).toArray = c := ⟨_, rfl⟩
  obtain ⟨cu, hcu⟩ : ∃ c, (u.map u8v).toArray = c := ⟨_, rfl⟩
  obtain ⟨cx, hcx⟩ : ∃ c, ((mulL a u).map u8v).toArray = c := ⟨_, rfl⟩
  rw [hca, hcu, hcx] at M1 R1
  rw [hcx] at e1
  rw [hca, hcu]
  have HM := Lib.hid (show Mem w [blkE (w.heap.size + 1) 23 (u.map u8v), blkE w.heap.size 23 (a.map u8v)] ((w.alloc (.cells ca 23)).alloc (.cells cu 23)) from ((Mem.nil w).alloc rfl 23 ca (a.map u8v) hca.symm).alloc (by simp) 23 cu (u.map u8v) hcu.symm)
  have HC := Lib.hid (And.intro hca (And.intro hcu (And.intro hcx trivial)))
  have HL := Lib.hid (And.intro ha hu)
  have HSP := Lib.hid (fun W : World => cu_special_any wh lo hwh hlo W)
  have HM1 := Lib.hid M1
  have HR1 := Lib.hid R1
  have HE1 := Lib.hid e1
  have HU2 := Lib.hid HMU
  have HS2 := Lib.hid HSC
  have HBG := Lib.hid (fun W : World => cu_begun_any HMU W)
  clear M1 R1 e1 hca hcu hcx ha hu hwh hlo HMU HSC
  go_enter Try.func3, Try.ntmps3
  go_upto_region 1 with fail
  generalize ((w.alloc (.cells ca 23)).alloc (.cells cu 23)) = w1 at HM ⊢
  go_wp2_with fail
  refine (HSP.out _).mono ?_
  rintro e w2 ⟨p, hp, rfl, hb⟩
  replace HM := Lib.hid (HM.out.below hb)
  clear hb
  obtain ⟨cp, hcp⟩ : ∃ c, (p.map u8v).toArray = c := ⟨_, rfl⟩
  obtain ⟨cy, hcy⟩ : ∃ c, ((mulL a p).map u8v).toArray = c := ⟨_, rfl⟩
  rw [hcp]
  have M2 := fun W : World => HU2.out a p HL.out.1 hp W
  have R2 := fun W : World => refMul_any a p HL.out.1 hp W
  have SH := fun W : World => HS2.out a p HL.out.1 hp W
  have RS := fun W : World => refShare_any a p HL.out.1 hp W
  have e2 := fun w' : World => run_key_eq (P := Try.prog) 23 5 32 Try.underlying23 Try.underlying5 i0 hi hz1 (mulL a p) (mulL a p) (mulL_length _ _) (mulL_length _ _) w'
  rw [show (mulL a p == mulL a p) = true by simp] at e2
  rw [HC.out.1, hcp, hcy] at M2 R2 SH RS
  rw [hcy] at e2
  obtain ⟨er, her⟩ : ∃ x, shareE (mulL a p) = x := ⟨_, rfl⟩
  rw [her] at SH RS
  have HP := Lib.hid (And.intro hp hcp)
  have HP2 := Lib.hid (And.intro her hcy)
  have HM2 := Lib.hid M2
  have HR2 := Lib.hid R2
  have HSH := Lib.hid SH
  have HRS := Lib.hid RS
  have HE2 := Lib.hid e2
  clear M2 R2 SH RS e2 hp hcp her hcy HSP HU2 HS2
  have HA := Lib.hid (HM.out.alloc rfl 23 #[.int .u8 0, .int .u8 0, .int .u8 0, .int .u8 0, .int .u8 0, .int .u8 0, .int .u8 0, .int .u8 0, .int .u8 0, .int .u8 0, .int .u8 0, .int .u8 0, .int .u8 0, .int .u8 0, .int .u8 0, .int .u8 0, .int .u8 0, .int .u8 0, .int .u8 0, .int .u8 0, .int .u8 0, .int .u8 0, .int .u8 0, .int .u8 0, .int .u8 0, .int .u8 0, .int .u8 0, .int .u8 0, .int .u8 0, .int .u8 0, .int .u8 0, .int .u8 0] (aeZ 32) rfl)
  go_upto_region 2 with (refine wpList_store_blk rfl 23 (.tmp 9) (.tmp 18) rfl w2.heap.size (p.map u8v) rfl (by show Value.agg cp = _; rw [HP.out.2]) 23 (aeZ 32) (HA.out.blk 0 rfl) (cells32 p HP.out.1) (by rw [List.length_map, HP.out.1]; rfl) (u8v_one _) ?_; intro w3 hb9 hg9)
  (try simp only [Act.put])
  replace HM := Lib.hid (HA.out.put 0 rfl (p.map u8v) hg9 hb9)
  clear HA hb9 hg9
  generalize w2.heap.size = P9 at HM ⊢
  have HB := Lib.hid (show Blk w3 w.heap.size 23 (a.map u8v) ∧ Blk w3 (w.heap.size + 1) 23 (u.map u8v) ∧ Blk w3 P9 23 (p.map u8v) ∧ Below w.heap.size w w3 from ⟨HM.out.blk 2 rfl, HM.out.blk 1 rfl, HM.out.blk 0 rfl, HM.out.bel⟩)
  clear HM
  revert w3
  intro wb HB
  go_cut [10, 11] (fun p' q' wx => ∃ P10 P11, p' = .pointer (some ⟨P10, 0, none⟩) ∧ q' = .pointer (some ⟨P11, 0, none⟩) ∧ Blk wx P10 23 ((mulL a u).map u8v) ∧ Blk wx P11 23 ((mulL a p).map u8v) ∧ Blk wx w.heap.size 23 (a.map u8v) ∧ Blk wx (w.heap.size + 1) 23 (u.map u8v) ∧ Blk wx P9 23 (p.map u8v) ∧ Below w.heap.size w wx)
  case first =>
    have HM := Lib.hid (Mem.nil wb)
    refine wp_region_held_drew (S := fun W' => Mem wb [] W') (by kernel_rfl) (HM.out.drew) (fun hHeld => ?_)
    replace HM := Lib.hid HM.out.drew
    generalize wb.drew = wd1 at HM hHeld ⊢
    refine take_first (v := .agg ca) 0 rfl (by kernel_rfl) (by kernel_rfl) (by kernel_rfl) (fun _ _ _ h => h) (by rw [← HC.out.1]; exact yields_load_blk (by rfl) 23 (.tmp 4) rfl w.heap.size rfl 23 (a.map u8v) (fun w' hb => (HB.out.1).below hb.bel (HB.out.1).lt) 32 5 Try.underlying23 (cells32 a HL.out.1)) (by assumption) ?_
    (try simp only [Act.put, List.setIfInBounds_toArray, List.set_cons_zero, List.set_cons_succ])
    refine take_first (v := .agg cu) 1 rfl (by kernel_rfl) (by kernel_rfl) (by kernel_rfl) (fun _ _ _ h => h) (by rw [← HC.out.2.1]; exact yields_load_blk (by rfl) 23 (.tmp 5) rfl (w.heap.size + 1) rfl 23 (u.map u8v) (fun w' hb => (HB.out.2.1).below hb.bel (HB.out.2.1).lt) 32 5 Try.underlying23 (cells32 u HL.out.2)) (by assumption) ?_
    (try simp only [Act.put, List.setIfInBounds_toArray, List.set_cons_zero, List.set_cons_succ])
    refine take_first (v := .agg ca) 3 rfl (by kernel_rfl) (by kernel_rfl) (by kernel_rfl) (fun _ _ _ h => h) (by rw [← HC.out.1]; exact yields_load_blk (by rfl) 23 (.tmp 4) rfl w.heap.size rfl 23 (a.map u8v) (fun w' hb => (HB.out.1).below hb.bel (HB.out.1).lt) 32 5 Try.underlying23 (cells32 a HL.out.1)) (by assumption) ?_
    (try simp only [Act.put, List.setIfInBounds_toArray, List.set_cons_zero, List.set_cons_succ])
    refine take_first (v := .agg cp) 4 rfl (by kernel_rfl) (by kernel_rfl) (by kernel_rfl) (fun _ _ _ h => h) (by rw [← HP.out.2]; exact yields_load_blk (by rfl) 23 (.tmp 9) rfl P9 rfl 23 (p.map u8v) (fun w' hb => (HB.out.2.2.1).below hb.bel (HB.out.2.2.1).lt) 32 5 Try.underlying23 (cells32 p HP.out.1)) (by assumption) ?_
    (try simp only [Act.put, List.setIfInBounds_toArray, List.set_cons_zero, List.set_cons_succ])
    refine step_three 2 6 7 rfl rfl rfl (by kernel_rfl) (fun K hK => ?_) (fun K hK => ?_) (fun K hK => ?_)
    · clear hHeld
      go_simp
      refine (HR1.out _).mono ?_
      rintro e wy2 ⟨rfl, hb⟩
      replace HM := Lib.hid (show Mem wb [] wy2 from HM.out.below hb)
      clear hb
      go_wp2_with fail
      refine hK.out _ _ (HM.out) (fun hHeld => ?_)
      clear hK K
      (try simp only [Act.put, List.setIfInBounds_toArray, List.set_cons_zero, List.set_cons_succ])
      refine step_three 5 6 7 rfl rfl rfl (by kernel_rfl) (fun K hK => ?_) (fun K hK => ?_) (fun K hK => ?_)
      · clear hHeld
        go_simp
        refine (HR2.out _).mono ?_
        rintro e wy3 ⟨rfl, hb⟩
        replace HM := Lib.hid (show Mem wb [] wy3 from HM.out.below hb)
        clear hb
        go_wp2_with fail
        refine hK.out _ _ (HM.out) (fun hHeld => ?_)
        clear hK K
        (try simp only [Act.put, List.setIfInBounds_toArray, List.set_cons_zero, List.set_cons_succ])
        refine step_two 6 7 rfl rfl (by kernel_rfl) (fun K hK => ?_) (fun K hK => ?_)
        · clear hHeld
          go_simp
          replace HM := Lib.hid (show Mem wb [blkE wy3.heap.size 23 (aeZ 32)] (wy3.alloc (.cells #[.int .u8 0, .int .u8 0, .int .u8 0, .int .u8 0, .int .u8 0, .int .u8 0, .int .u8 0, .int .u8 0, .int .u8 0, .int .u8 0, .int .u8 0, .int .u8 0, .int .u8 0, .int .u8 0, .int .u8 0, .int .u8 0, .int .u8 0, .int .u8 0, .int .u8 0, .int .u8 0, .int .u8 0, .int .u8 0, .int .u8 0, .int .u8 0, .int .u8 0, .int .u8 0, .int .u8 0, .int .u8 0, .int .u8 0, .int .u8 0, .int .u8 0, .int .u8 0] 23)) from HM.out.alloc rfl 23 #[.int .u8 0, .int .u8 0, .int .u8 0, .int .u8 0, .int .u8 0, .int .u8 0, .int .u8 0, .int .u8 0, .int .u8 0, .int .u8 0, .int .u8 0, .int .u8 0, .int .u8 0, .int .u8 0, .int .u8 0, .int .u8 0, .int .u8 0, .int .u8 0, .int .u8 0, .int .u8 0, .int .u8 0, .int .u8 0, .int .u8 0, .int .u8 0, .int .u8 0, .int .u8 0, .int .u8 0, .int .u8 0, .int .u8 0, .int .u8 0, .int .u8 0, .int .u8 0] (aeZ 32) rfl)
          generalize wy3.alloc (.cells #[.int .u8 0, .int .u8 0, .int .u8 0, .int .u8 0, .int .u8 0, .int .u8 0, .int .u8 0, .int .u8 0, .int .u8 0, .int .u8 0, .int .u8 0, .int .u8 0, .int .u8 0, .int .u8 0, .int .u8 0, .int .u8 0, .int .u8 0, .int .u8 0, .int .u8 0, .int .u8 0, .int .u8 0, .int .u8 0, .int .u8 0, .int .u8 0, .int .u8 0, .int .u8 0, .int .u8 0, .int .u8 0, .int .u8 0, .int .u8 0, .int .u8 0, .int .u8 0] 23) = wy4 at HM ⊢
          generalize wy3.heap.size = P10 at HM ⊢
          refine hK.out _ _ ((HM.out.erase 0)) (fun hHeld => ?_)
          clear hK K
          (try simp only [Act.put, List.setIfInBounds_toArray, List.set_cons_zero, List.set_cons_succ])
          refine step_one 7 rfl (by kernel_rfl) (fun K hK => ?_)
          clear hHeld
          go_simp
          replace HM := Lib.hid (show Mem wb [blkE wy4.heap.size 23 (aeZ 32), blkE P10 23 (aeZ 32)] (wy4.alloc (.cells #[.int .u8 0, .int .u8 0, .int .u8 0, .int .u8 0, .int .u8 0, .int .u8 0, .int .u8 0, .int .u8 0, .int .u8 0, .int .u8 0, .int .u8 0, .int .u8 0, .int .u8 0, .int .u8 0, .int .u8 0, .int .u8 0, .int .u8 0, .int .u8 0, .int .u8 0, .int .u8 0, .int .u8 0, .int .u8 0, .int .u8 0, .int .u8 0, .int .u8 0, .int .u8 0, .int .u8 0, .int .u8 0, .int .u8 0, .int .u8 0, .int .u8 0, .int .u8 0] 23)) from HM.out.alloc rfl 23 #[.int .u8 0, .int .u8 0, .int .u8 0, .int .u8 0, .int .u8 0, .int .u8 0, .int .u8 0, .int .u8 0, .int .u8 0, .int .u8 0, .int .u8 0, .int .u8 0, .int .u8 0, .int .u8 0, .int .u8 0, .int .u8 0, .int .u8 0, .int .u8 0, .int .u8 0, .int .u8 0, .int .u8 0, .int .u8 0, .int .u8 0, .int .u8 0, .int .u8 0, .int .u8 0, .int .u8 0, .int .u8 0, .int .u8 0, .int .u8 0, .int .u8 0, .int .u8 0] (aeZ 32) rfl)
          generalize wy4.alloc (.cells #[.int .u8 0, .int .u8 0, .int .u8 0, .int .u8 0, .int .u8 0, .int .u8 0, .int .u8 0, .int .u8 0, .int .u8 0, .int .u8 0, .int .u8 0, .int .u8 0, .int .u8 0, .int .u8 0, .int .u8 0, .int .u8 0, .int .u8 0, .int .u8 0, .int .u8 0, .int .u8 0, .int .u8 0, .int .u8 0, .int .u8 0, .int .u8 0, .int .u8 0, .int .u8 0, .int .u8 0, .int .u8 0, .int .u8 0, .int .u8 0, .int .u8 0, .int .u8 0] 23) = wy5 at HM ⊢
          generalize wy4.heap.size = P11 at HM ⊢
          refine hK.out _ _ (((HM.out.erase 0).erase 0)) (fun hHeld => ?_)
          clear hK K
          (try simp only [Act.put, List.setIfInBounds_toArray, List.set_cons_zero, List.set_cons_succ])
          refine step_one 8 rfl (by kernel_rfl) (fun K hK => ?_)
          clear hHeld
          refine step_store_blk _ rfl 23 (.tmp 10) (.tmp 21) rfl P10 ((mulL a u).map u8v) rfl (by show Value.agg cx = _; rw [HC.out.2.2.1]) 23 (aeZ 32) (HM.out.blk 1 rfl) (cells32 (mulL a u) (mulL_length _ _)) (by rw [List.length_map, (mulL_length _ _)]; rfl) (by intro v hv; obtain ⟨_, _, rfl⟩ := List.mem_map.1 hv; rfl) ?_
          intro wy6 hb hg
          replace HM := Lib.hid (show Mem wb [blkE P11 23 (aeZ 32), blkE P10 23 ((mulL a u).map u8v)] wy6 from HM.out.put 1 rfl _ hg hb)
          clear hb hg
          refine hK.out _ _ (((HM.out.erase 0).erase 0)) (fun hHeld => ?_)
          clear hK K
          (try simp only [Act.put])
          refine step_one 9 rfl (by kernel_rfl) (fun K hK => ?_)
          clear hHeld
          refine step_store_blk _ rfl 23 (.tmp 11) (.tmp 24) rfl P11 ((mulL a p).map u8v) rfl (by show Value.agg cy = _; rw [HP2.out.2]) 23 (aeZ 32) (HM.out.blk 0 rfl) (cells32 (mulL a p) (mulL_length _ _)) (by rw [List.length_map, (mulL_length _ _)]; rfl) (by intro v hv; obtain ⟨_, _, rfl⟩ := List.mem_map.1 hv; rfl) ?_
          intro wy7 hb hg
          replace HM := Lib.hid (show Mem wb [blkE P11 23 ((mulL a p).map u8v), blkE P10 23 ((mulL a u).map u8v)] wy7 from HM.out.put 0 rfl _ hg hb)
          clear hb hg
          refine hK.out _ _ (((HM.out.erase 0).erase 0)) (fun hHeld => ?_)
          clear hK K
          (try simp only [Act.put])
          refine wpAnyH_done (by kernel_rfl) ?_ _
          go_wp2_with fail
          go_meet
          exact ⟨P10, P11, rfl, rfl, HM.out.blk 1 rfl, HM.out.blk 0 rfl, (HB.out.1).below HM.out.bel (HB.out.1).lt, (HB.out.2.1).below HM.out.bel (HB.out.2.1).lt, (HB.out.2.2.1).below HM.out.bel (HB.out.2.2.1).lt, (HB.out.2.2.2).trans (HM.out.bel.mono (HB.out.2.2.2).size)⟩
        · clear hHeld
          go_simp
          replace HM := Lib.hid (show Mem wb [blkE wy3.heap.size 23 (aeZ 32)] (wy3.alloc (.cells #[.int .u8 0, .int .u8 0, .int .u8 0, .int .u8 0, .int .u8 0, .int .u8 0, .int .u8 0, .int .u8 0, .int .u8 0, .int .u8 0, .int .u8 0, .int .u8 0, .int .u8 0, .int .u8 0, .int .u8 0, .int .u8 0, .int .u8 0, .int .u8 0, .int .u8 0, .int .u8 0, .int .u8 0, .int .u8 0, .int .u8 0, .int .u8 0, .int .u8 0, .int .u8 0, .int .u8 0, .int .u8 0, .int .u8 0, .int .u8 0, .int .u8 0, .int .u8 0] 23)) from HM.out.alloc rfl 23 #[.int .u8 0, .int .u8 0, .int .u8 0, .int .u8 0, .int .u8 0, .int .u8 0, .int .u8 0, .int .u8 0, .int .u8 0, .int .u8 0, .int .u8 0, .int .u8 0, .int .u8 0, .int .u8 0, .int .u8 0, .int .u8 0, .int .u8 0, .int .u8 0, .int .u8 0, .int .u8 0, .int .u8 0, .int .u8 0, .int .u8 0, .int .u8 0, .int .u8 0, .int .u8 0, .int .u8 0, .int .u8 0, .int .u8 0, .int .u8 0, .int .u8 0, .int .u8 0] (aeZ 32) rfl)
          generalize wy3.alloc (.cells #[.int .u8 0, .int .u8 0, .int .u8 0, .int .u8 0, .int .u8 0, .int .u8 0, .int .u8 0, .int .u8 0, .int .u8 0, .int .u8 0, .int .u8 0, .int .u8 0, .int .u8 0, .int .u8 0, .int .u8 0, .int .u8 0, .int .u8 0, .int .u8 0, .int .u8 0, .int .u8 0, .int .u8 0, .int .u8 0, .int .u8 0, .int .u8 0, .int .u8 0, .int .u8 0, .int .u8 0, .int .u8 0, .int .u8 0, .int .u8 0, .int .u8 0, .int .u8 0] 23) = wy4 at HM ⊢
          generalize wy3.heap.size = P11 at HM ⊢
          refine hK.out _ _ ((HM.out.erase 0)) (fun hHeld => ?_)
          clear hK K
          (try simp only [Act.put, List.setIfInBounds_toArray, List.set_cons_zero, List.set_cons_succ])
          refine step_one 6 rfl (by kernel_rfl) (fun K hK => ?_)
          clear hHeld
          go_simp
          replace HM := Lib.hid (show Mem wb [blkE wy4.heap.size 23 (aeZ 32), blkE P11 23 (aeZ 32)] (wy4.alloc (.cells #[.int .u8 0, .int .u8 0, .int .u8 0, .int .u8 0, .int .u8 0, .int .u8 0, .int .u8 0, .int .u8 0, .int .u8 0, .int .u8 0, .int .u8 0, .int .u8 0, .int .u8 0, .int .u8 0, .int .u8 0, .int .u8 0, .int .u8 0, .int .u8 0, .int .u8 0, .int .u8 0, .int .u8 0, .int .u8 0, .int .u8 0, .int .u8 0, .int .u8 0, .int .u8 0, .int .u8 0, .int .u8 0, .int .u8 0, .int .u8 0, .int .u8 0, .int .u8 0] 23)) from HM.out.alloc rfl 23 #[.int .u8 0, .int .u8 0, .int .u8 0, .int .u8 0, .int .u8 0, .int .u8 0, .int .u8 0, .int .u8 0, .int .u8 0, .int .u8 0, .int .u8 0, .int .u8 0, .int .u8 0, .int .u8 0, .int .u8 0, .int .u8 0, .int .u8 0, .int .u8 0, .int .u8 0, .int .u8 0, .int .u8 0, .int .u8 0, .int .u8 0, .int .u8 0, .int .u8 0, .int .u8 0, .int .u8 0, .int .u8 0, .int .u8 0, .int .u8 0, .int .u8 0, .int .u8 0] (aeZ 32) rfl)
          generalize wy4.alloc (.cells #[.int .u8 0, .int .u8 0, .int .u8 0, .int .u8 0, .int .u8 0, .int .u8 0, .int .u8 0, .int .u8 0, .int .u8 0, .int .u8 0, .int .u8 0, .int .u8 0, .int .u8 0, .int .u8 0, .int .u8 0, .int .u8 0, .int .u8 0, .int .u8 0, .int .u8 0, .int .u8 0, .int .u8 0, .int .u8 0, .int .u8 0, .int .u8 0, .int .u8 0, .int .u8 0, .int .u8 0, .int .u8 0, .int .u8 0, .int .u8 0, .int .u8 0, .int .u8 0] 23) = wy5 at HM ⊢
          generalize wy4.heap.size = P10 at HM ⊢
          refine hK.out _ _ (((HM.out.erase 0).erase 0)) (fun hHeld => ?_)
          clear hK K
          (try simp only [Act.put, List.setIfInBounds_toArray, List.set_cons_zero, List.set_cons_succ])
          refine step_one 8 rfl (by kernel_rfl) (fun K hK => ?_)
          clear hHeld
          refine step_store_blk _ rfl 23 (.tmp 10) (.tmp 21) rfl P10 ((mulL a u).map u8v) rfl (by show Value.agg cx = _; rw [HC.out.2.2.1]) 23 (aeZ 32) (HM.out.blk 0 rfl) (cells32 (mulL a u) (mulL_length _ _)) (by rw [List.length_map, (mulL_length _ _)]; rfl) (by intro v hv; obtain ⟨_, _, rfl⟩ := List.mem_map.1 hv; rfl) ?_
          intro wy6 hb hg
          replace HM := Lib.hid (show Mem wb [blkE P10 23 ((mulL a u).map u8v), blkE P11 23 (aeZ 32)] wy6 from HM.out.put 0 rfl _ hg hb)
          clear hb hg
          refine hK.out _ _ (((HM.out.erase 0).erase 0)) (fun hHeld => ?_)
          clear hK K
          (try simp only [Act.put])
          refine step_one 9 rfl (by kernel_rfl) (fun K hK => ?_)
          clear hHeld
          refine step_store_blk _ rfl 23 (.tmp 11) (.tmp 24) rfl P11 ((mulL a p).map u8v) rfl (by show Value.agg cy = _; rw [HP2.out.2]) 23 (aeZ 32) (HM.out.blk 1 rfl) (cells32 (mulL a p) (mulL_length _ _)) (by rw [List.length_map, (mulL_length _ _)]; rfl) (by intro v hv; obtain ⟨_, _, rfl⟩ := List.mem_map.1 hv; rfl) ?_
          intro wy7 hb hg
          replace HM := Lib.hid (show Mem wb [blkE P10 23 ((mulL a u).map u8v), blkE P11 23 ((mulL a p).map u8v)] wy7 from HM.out.put 1 rfl _ hg hb)
          clear hb hg
          refine hK.out _ _ (((HM.out.erase 0).erase 0)) (fun hHeld => ?_)
          clear hK K
          (try simp only [Act.put])
          refine wpAnyH_done (by kernel_rfl) ?_ _
          go_wp2_with fail
          go_meet
          exact ⟨P10, P11, rfl, rfl, HM.out.blk 0 rfl, HM.out.blk 1 rfl, (HB.out.1).below HM.out.bel (HB.out.1).lt, (HB.out.2.1).below HM.out.bel (HB.out.2.1).lt, (HB.out.2.2.1).below HM.out.bel (HB.out.2.2.1).lt, (HB.out.2.2.2).trans (HM.out.bel.mono (HB.out.2.2.2).size)⟩
      · clear hHeld
        go_simp
        replace HM := Lib.hid (show Mem wb [blkE wy2.heap.size 23 (aeZ 32)] (wy2.alloc (.cells #[.int .u8 0, .int .u8 0, .int .u8 0, .int .u8 0, .int .u8 0, .int .u8 0, .int .u8 0, .int .u8 0, .int .u8 0, .int .u8 0, .int .u8 0, .int .u8 0, .int .u8 0, .int .u8 0, .int .u8 0, .int .u8 0, .int .u8 0, .int .u8 0, .int .u8 0, .int .u8 0, .int .u8 0, .int .u8 0, .int .u8 0, .int .u8 0, .int .u8 0, .int .u8 0, .int .u8 0, .int .u8 0, .int .u8 0, .int .u8 0, .int .u8 0, .int .u8 0] 23)) from HM.out.alloc rfl 23 #[.int .u8 0, .int .u8 0, .int .u8 0, .int .u8 0, .int .u8 0, .int .u8 0, .int .u8 0, .int .u8 0, .int .u8 0, .int .u8 0, .int .u8 0, .int .u8 0, .int .u8 0, .int .u8 0, .int .u8 0, .int .u8 0, .int .u8 0, .int .u8 0, .int .u8 0, .int .u8 0, .int .u8 0, .int .u8 0, .int .u8 0, .int .u8 0, .int .u8 0, .int .u8 0, .int .u8 0, .int .u8 0, .int .u8 0, .int .u8 0, .int .u8 0, .int .u8 0] (aeZ 32) rfl)
        generalize wy2.alloc (.cells #[.int .u8 0, .int .u8 0, .int .u8 0, .int .u8 0, .int .u8 0, .int .u8 0, .int .u8 0, .int .u8 0, .int .u8 0, .int .u8 0, .int .u8 0, .int .u8 0, .int .u8 0, .int .u8 0, .int .u8 0, .int .u8 0, .int .u8 0, .int .u8 0, .int .u8 0, .int .u8 0, .int .u8 0, .int .u8 0, .int .u8 0, .int .u8 0, .int .u8 0, .int .u8 0, .int .u8 0, .int .u8 0, .int .u8 0, .int .u8 0, .int .u8 0, .int .u8 0] 23) = wy3 at HM ⊢
        generalize wy2.heap.size = P10 at HM ⊢
        refine hK.out _ _ ((HM.out.erase 0)) (fun hHeld => ?_)
        clear hK K
        (try simp only [Act.put, List.setIfInBounds_toArray, List.set_cons_zero, List.set_cons_succ])
        refine step_two 5 7 rfl rfl (by kernel_rfl) (fun K hK => ?_) (fun K hK => ?_)
        · clear hHeld
          go_simp
          refine (HR2.out _).mono ?_
          rintro e wy4 ⟨rfl, hb⟩
          replace HM := Lib.hid (show Mem wb [blkE P10 23 (aeZ 32)] wy4 from HM.out.below hb)
          clear hb
          go_wp2_with fail
          refine hK.out _ _ ((HM.out.erase 0)) (fun hHeld => ?_)
          clear hK K
          (try simp only [Act.put, List.setIfInBounds_toArray, List.set_cons_zero, List.set_cons_succ])
          refine step_one 7 rfl (by kernel_rfl) (fun K hK => ?_)
          clear hHeld
          go_simp
          replace HM := Lib.hid (show Mem wb [blkE wy4.heap.size 23 (aeZ 32), blkE P10 23 (aeZ 32)] (wy4.alloc (.cells #[.int .u8 0, .int .u8 0, .int .u8 0, .int .u8 0, .int .u8 0, .int .u8 0, .int .u8 0, .int .u8 0, .int .u8 0, .int .u8 0, .int .u8 0, .int .u8 0, .int .u8 0, .int .u8 0, .int .u8 0, .int .u8 0, .int .u8 0, .int .u8 0, .int .u8 0, .int .u8 0, .int .u8 0, .int .u8 0, .int .u8 0, .int .u8 0, .int .u8 0, .int .u8 0, .int .u8 0, .int .u8 0, .int .u8 0, .int .u8 0, .int .u8 0, .int .u8 0] 23)) from HM.out.alloc rfl 23 #[.int .u8 0, .int .u8 0, .int .u8 0, .int .u8 0, .int .u8 0, .int .u8 0, .int .u8 0, .int .u8 0, .int .u8 0, .int .u8 0, .int .u8 0, .int .u8 0, .int .u8 0, .int .u8 0, .int .u8 0, .int .u8 0, .int .u8 0, .int .u8 0, .int .u8 0, .int .u8 0, .int .u8 0, .int .u8 0, .int .u8 0, .int .u8 0, .int .u8 0, .int .u8 0, .int .u8 0, .int .u8 0, .int .u8 0, .int .u8 0, .int .u8 0, .int .u8 0] (aeZ 32) rfl)
          generalize wy4.alloc (.cells #[.int .u8 0, .int .u8 0, .int .u8 0, .int .u8 0, .int .u8 0, .int .u8 0, .int .u8 0, .int .u8 0, .int .u8 0, .int .u8 0, .int .u8 0, .int .u8 0, .int .u8 0, .int .u8 0, .int .u8 0, .int .u8 0, .int .u8 0, .int .u8 0, .int .u8 0, .int .u8 0, .int .u8 0, .int .u8 0, .int .u8 0, .int .u8 0, .int .u8 0, .int .u8 0, .int .u8 0, .int .u8 0, .int .u8 0, .int .u8 0, .int .u8 0, .int .u8 0] 23) = wy5 at HM ⊢
          generalize wy4.heap.size = P11 at HM ⊢
          refine hK.out _ _ (((HM.out.erase 0).erase 0)) (fun hHeld => ?_)
          clear hK K
          (try simp only [Act.put, List.setIfInBounds_toArray, List.set_cons_zero, List.set_cons_succ])
          refine step_one 8 rfl (by kernel_rfl) (fun K hK => ?_)
          clear hHeld
          refine step_store_blk _ rfl 23 (.tmp 10) (.tmp 21) rfl P10 ((mulL a u).map u8v) rfl (by show Value.agg cx = _; rw [HC.out.2.2.1]) 23 (aeZ 32) (HM.out.blk 1 rfl) (cells32 (mulL a u) (mulL_length _ _)) (by rw [List.length_map, (mulL_length _ _)]; rfl) (by intro v hv; obtain ⟨_, _, rfl⟩ := List.mem_map.1 hv; rfl) ?_
          intro wy6 hb hg
          replace HM := Lib.hid (show Mem wb [blkE P11 23 (aeZ 32), blkE P10 23 ((mulL a u).map u8v)] wy6 from HM.out.put 1 rfl _ hg hb)
          clear hb hg
          refine hK.out _ _ (((HM.out.erase 0).erase 0)) (fun hHeld => ?_)
          clear hK K
          (try simp only [Act.put])
          refine step_one 9 rfl (by kernel_rfl) (fun K hK => ?_)
          clear hHeld
          refine step_store_blk _ rfl 23 (.tmp 11) (.tmp 24) rfl P11 ((mulL a p).map u8v) rfl (by show Value.agg cy = _; rw [HP2.out.2]) 23 (aeZ 32) (HM.out.blk 0 rfl) (cells32 (mulL a p) (mulL_length _ _)) (by rw [List.length_map, (mulL_length _ _)]; rfl) (by intro v hv; obtain ⟨_, _, rfl⟩ := List.mem_map.1 hv; rfl) ?_
          intro wy7 hb hg
          replace HM := Lib.hid (show Mem wb [blkE P11 23 ((mulL a p).map u8v), blkE P10 23 ((mulL a u).map u8v)] wy7 from HM.out.put 0 rfl _ hg hb)
          clear hb hg
          refine hK.out _ _ (((HM.out.erase 0).erase 0)) (fun hHeld => ?_)
          clear hK K
          (try simp only [Act.put])
          refine wpAnyH_done (by kernel_rfl) ?_ _
          go_wp2_with fail
          go_meet
          exact ⟨P10, P11, rfl, rfl, HM.out.blk 1 rfl, HM.out.blk 0 rfl, (HB.out.1).below HM.out.bel (HB.out.1).lt, (HB.out.2.1).below HM.out.bel (HB.out.2.1).lt, (HB.out.2.2.1).below HM.out.bel (HB.out.2.2.1).lt, (HB.out.2.2.2).trans (HM.out.bel.mono (HB.out.2.2.2).size)⟩
        · clear hHeld
          go_simp
          replace HM := Lib.hid (show Mem wb [blkE wy3.heap.size 23 (aeZ 32), blkE P10 23 (aeZ 32)] (wy3.alloc (.cells #[.int .u8 0, .int .u8 0, .int .u8 0, .int .u8 0, .int .u8 0, .int .u8 0, .int .u8 0, .int .u8 0, .int .u8 0, .int .u8 0, .int .u8 0, .int .u8 0, .int .u8 0, .int .u8 0, .int .u8 0, .int .u8 0, .int .u8 0, .int .u8 0, .int .u8 0, .int .u8 0, .int .u8 0, .int .u8 0, .int .u8 0, .int .u8 0, .int .u8 0, .int .u8 0, .int .u8 0, .int .u8 0, .int .u8 0, .int .u8 0, .int .u8 0, .int .u8 0] 23)) from HM.out.alloc rfl 23 #[.int .u8 0, .int .u8 0, .int .u8 0, .int .u8 0, .int .u8 0, .int .u8 0, .int .u8 0, .int .u8 0, .int .u8 0, .int .u8 0, .int .u8 0, .int .u8 0, .int .u8 0, .int .u8 0, .int .u8 0, .int .u8 0, .int .u8 0, .int .u8 0, .int .u8 0, .int .u8 0, .int .u8 0, .int .u8 0, .int .u8 0, .int .u8 0, .int .u8 0, .int .u8 0, .int .u8 0, .int .u8 0, .int .u8 0, .int .u8 0, .int .u8 0, .int .u8 0] (aeZ 32) rfl)
          generalize wy3.alloc (.cells #[.int .u8 0, .int .u8 0, .int .u8 0, .int .u8 0, .int .u8 0, .int .u8 0, .int .u8 0, .int .u8 0, .int .u8 0, .int .u8 0, .int .u8 0, .int .u8 0, .int .u8 0, .int .u8 0, .int .u8 0, .int .u8 0, .int .u8 0, .int .u8 0, .int .u8 0, .int .u8 0, .int .u8 0, .int .u8 0, .int .u8 0, .int .u8 0, .int .u8 0, .int .u8 0, .int .u8 0, .int .u8 0, .int .u8 0, .int .u8 0, .int .u8 0, .int .u8 0] 23) = wy4 at HM ⊢
          generalize wy3.heap.size = P11 at HM ⊢
          refine hK.out _ _ (((HM.out.erase 0).erase 0)) (fun hHeld => ?_)
          clear hK K
          (try simp only [Act.put, List.setIfInBounds_toArray, List.set_cons_zero, List.set_cons_succ])
          refine step_one 5 rfl (by kernel_rfl) (fun K hK => ?_)
          clear hHeld
          go_simp
          refine (HR2.out _).mono ?_
          rintro e wy5 ⟨rfl, hb⟩
          replace HM := Lib.hid (show Mem wb [blkE P11 23 (aeZ 32), blkE P10 23 (aeZ 32)] wy5 from HM.out.below hb)
          clear hb
          go_wp2_with fail
          refine hK.out _ _ (((HM.out.erase 0).erase 0)) (fun hHeld => ?_)
          clear hK K
          (try simp only [Act.put, List.setIfInBounds_toArray, List.set_cons_zero, List.set_cons_succ])
          refine step_one 8 rfl (by kernel_rfl) (fun K hK => ?_)
          clear hHeld
          refine step_store_blk _ rfl 23 (.tmp 10) (.tmp 21) rfl P10 ((mulL a u).map u8v) rfl (by show Value.agg cx = _; rw [HC.out.2.2.1]) 23 (aeZ 32) (HM.out.blk 1 rfl) (cells32 (mulL a u) (mulL_length _ _)) (by rw [List.length_map, (mulL_length _ _)]; rfl) (by intro v hv; obtain ⟨_, _, rfl⟩ := List.mem_map.1 hv; rfl) ?_
          intro wy6 hb hg
          replace HM := Lib.hid (show Mem wb [blkE P11 23 (aeZ 32), blkE P10 23 ((mulL a u).map u8v)] wy6 from HM.out.put 1 rfl _ hg hb)
          clear hb hg
          refine hK.out _ _ (((HM.out.erase 0).erase 0)) (fun hHeld => ?_)
          clear hK K
          (try simp only [Act.put])
          refine step_one 9 rfl (by kernel_rfl) (fun K hK => ?_)
          clear hHeld
          refine step_store_blk _ rfl 23 (.tmp 11) (.tmp 24) rfl P11 ((mulL a p).map u8v) rfl (by show Value.agg cy = _; rw [HP2.out.2]) 23 (aeZ 32) (HM.out.blk 0 rfl) (cells32 (mulL a p) (mulL_length _ _)) (by rw [List.length_map, (mulL_length _ _)]; rfl) (by intro v hv; obtain ⟨_, _, rfl⟩ := List.mem_map.1 hv; rfl) ?_
          intro wy7 hb hg
          replace HM := Lib.hid (show Mem wb [blkE P11 23 ((mulL a p).map u8v), blkE P10 23 ((mulL a u).map u8v)] wy7 from HM.out.put 0 rfl _ hg hb)
          clear hb hg
          refine hK.out _ _ (((HM.out.erase 0).erase 0)) (fun hHeld => ?_)
          clear hK K
          (try simp only [Act.put])
          refine wpAnyH_done (by kernel_rfl) ?_ _
          go_wp2_with fail
          go_meet
          exact ⟨P10, P11, rfl, rfl, HM.out.blk 1 rfl, HM.out.blk 0 rfl, (HB.out.1).below HM.out.bel (HB.out.1).lt, (HB.out.2.1).below HM.out.bel (HB.out.2.1).lt, (HB.out.2.2.1).below HM.out.bel (HB.out.2.2.1).lt, (HB.out.2.2.2).trans (HM.out.bel.mono (HB.out.2.2.2).size)⟩
      · clear hHeld
        go_simp
        replace HM := Lib.hid (show Mem wb [blkE wy2.heap.size 23 (aeZ 32)] (wy2.alloc (.cells #[.int .u8 0, .int .u8 0, .int .u8 0, .int .u8 0, .int .u8 0, .int .u8 0, .int .u8 0, .int .u8 0, .int .u8 0, .int .u8 0, .int .u8 0, .int .u8 0, .int .u8 0, .int .u8 0, .int .u8 0, .int .u8 0, .int .u8 0, .int .u8 0, .int .u8 0, .int .u8 0, .int .u8 0, .int .u8 0, .int .u8 0, .int .u8 0, .int .u8 0, .int .u8 0, .int .u8 0, .int .u8 0, .int .u8 0, .int .u8 0, .int .u8 0, .int .u8 0] 23)) from HM.out.alloc rfl 23 #[.int .u8 0, .int .u8 0, .int .u8 0, .int .u8 0, .int .u8 0, .int .u8 0, .int .u8 0, .int .u8 0, .int .u8 0, .int .u8 0, .int .u8 0, .int .u8 0, .int .u8 0, .int .u8 0, .int .u8 0, .int .u8 0, .int .u8 0, .int .u8 0, .int .u8 0, .int .u8 0, .int .u8 0, .int .u8 0, .int .u8 0, .int .u8 0, .int .u8 0, .int .u8 0, .int .u8 0, .int .u8 0, .int .u8 0, .int .u8 0, .int .u8 0, .int .u8 0] (aeZ 32) rfl)
        generalize wy2.alloc (.cells #[.int .u8 0, .int .u8 0, .int .u8 0, .int .u8 0, .int .u8 0, .int .u8 0, .int .u8 0, .int .u8 0, .int .u8 0, .int .u8 0, .int .u8 0, .int .u8 0, .int .u8 0, .int .u8 0, .int .u8 0, .int .u8 0, .int .u8 0, .int .u8 0, .int .u8 0, .int .u8 0, .int .u8 0, .int .u8 0, .int .u8 0, .int .u8 0, .int .u8 0, .int .u8 0, .int .u8 0, .int .u8 0, .int .u8 0, .int .u8 0, .int .u8 0, .int .u8 0] 23) = wy3 at HM ⊢
        generalize wy2.heap.size = P11 at HM ⊢
        refine hK.out _ _ ((HM.out.erase 0)) (fun hHeld => ?_)
        clear hK K
        (try simp only [Act.put, List.setIfInBounds_toArray, List.set_cons_zero, List.set_cons_succ])
        refine step_two 5 6 rfl rfl (by kernel_rfl) (fun K hK => ?_) (fun K hK => ?_)
        · clear hHeld
          go_simp
          refine (HR2.out _).mono ?_
          rintro e wy4 ⟨rfl, hb⟩
          replace HM := Lib.hid (show Mem wb [blkE P11 23 (aeZ 32)] wy4 from HM.out.below hb)
          clear hb
          go_wp2_with fail
          refine hK.out _ _ ((HM.out.erase 0)) (fun hHeld => ?_)
          clear hK K
          (try simp only [Act.put, List.setIfInBounds_toArray, List.set_cons_zero, List.set_cons_succ])
          refine step_one 6 rfl (by kernel_rfl) (fun K hK => ?_)
          clear hHeld
          go_simp
          replace HM := Lib.hid (show Mem wb [blkE wy4.heap.size 23 (aeZ 32), blkE P11 23 (aeZ 32)] (wy4.alloc (.cells #[.int .u8 0, .int .u8 0, .int .u8 0, .int .u8 0, .int .u8 0, .int .u8 0, .int .u8 0, .int .u8 0, .int .u8 0, .int .u8 0, .int .u8 0, .int .u8 0, .int .u8 0, .int .u8 0, .int .u8 0, .int .u8 0, .int .u8 0, .int .u8 0, .int .u8 0, .int .u8 0, .int .u8 0, .int .u8 0, .int .u8 0, .int .u8 0, .int .u8 0, .int .u8 0, .int .u8 0, .int .u8 0, .int .u8 0, .int .u8 0, .int .u8 0, .int .u8 0] 23)) from HM.out.alloc rfl 23 #[.int .u8 0, .int .u8 0, .int .u8 0, .int .u8 0, .int .u8 0, .int .u8 0, .int .u8 0, .int .u8 0, .int .u8 0, .int .u8 0, .int .u8 0, .int .u8 0, .int .u8 0, .int .u8 0, .int .u8 0, .int .u8 0, .int .u8 0, .int .u8 0, .int .u8 0, .int .u8 0, .int .u8 0, .int .u8 0, .int .u8 0, .int .u8 0, .int .u8 0, .int .u8 0, .int .u8 0, .int .u8 0, .int .u8 0, .int .u8 0, .int .u8 0, .int .u8 0] (aeZ 32) rfl)
          generalize wy4.alloc (.cells #[.int .u8 0, .int .u8 0, .int .u8 0, .int .u8 0, .int .u8 0, .int .u8 0, .int .u8 0, .int .u8 0, .int .u8 0, .int .u8 0, .int .u8 0, .int .u8 0, .int .u8 0, .int .u8 0, .int .u8 0, .int .u8 0, .int .u8 0, .int .u8 0, .int .u8 0, .int .u8 0, .int .u8 0, .int .u8 0, .int .u8 0, .int .u8 0, .int .u8 0, .int .u8 0, .int .u8 0, .int .u8 0, .int .u8 0, .int .u8 0, .int .u8 0, .int .u8 0] 23) = wy5 at HM ⊢
          generalize wy4.heap.size = P10 at HM ⊢
          refine hK.out _ _ (((HM.out.erase 0).erase 0)) (fun hHeld => ?_)
          clear hK K
          (try simp only [Act.put, List.setIfInBounds_toArray, List.set_cons_zero, List.set_cons_succ])
          refine step_one 8 rfl (by kernel_rfl) (fun K hK => ?_)
          clear hHeld
          refine step_store_blk _ rfl 23 (.tmp 10) (.tmp 21) rfl P10 ((mulL a u).map u8v) rfl (by show Value.agg cx = _; rw [HC.out.2.2.1]) 23 (aeZ 32) (HM.out.blk 0 rfl) (cells32 (mulL a u) (mulL_length _ _)) (by rw [List.length_map, (mulL_length _ _)]; rfl) (by intro v hv; obtain ⟨_, _, rfl⟩ := List.mem_map.1 hv; rfl) ?_
          intro wy6 hb hg
          replace HM := Lib.hid (show Mem wb [blkE P10 23 ((mulL a u).map u8v), blkE P11 23 (aeZ 32)] wy6 from HM.out.put 0 rfl _ hg hb)
          clear hb hg
          refine hK.out _ _ (((HM.out.erase 0).erase 0)) (fun hHeld => ?_)
          clear hK K
          (try simp only [Act.put])
          refine step_one 9 rfl (by kernel_rfl) (fun K hK => ?_)
          clear hHeld
          refine step_store_blk _ rfl 23 (.tmp 11) (.tmp 24) rfl P11 ((mulL a p).map u8v) rfl (by show Value.agg cy = _; rw [HP2.out.2]) 23 (aeZ 32) (HM.out.blk 1 rfl) (cells32 (mulL a p) (mulL_length _ _)) (by rw [List.length_map, (mulL_length _ _)]; rfl) (by intro v hv; obtain ⟨_, _, rfl⟩ := List.mem_map.1 hv; rfl) ?_
          intro wy7 hb hg
          replace HM := Lib.hid (show Mem wb [blkE P10 23 ((mulL a u).map u8v), blkE P11 23 ((mulL a p).map u8v)] wy7 from HM.out.put 1 rfl _ hg hb)
          clear hb hg
          refine hK.out _ _ (((HM.out.erase 0).erase 0)) (fun hHeld => ?_)
          clear hK K
          (try simp only [Act.put])
          refine wpAnyH_done (by kernel_rfl) ?_ _
          go_wp2_with fail
          go_meet
          exact ⟨P10, P11, rfl, rfl, HM.out.blk 0 rfl, HM.out.blk 1 rfl, (HB.out.1).below HM.out.bel (HB.out.1).lt, (HB.out.2.1).below HM.out.bel (HB.out.2.1).lt, (HB.out.2.2.1).below HM.out.bel (HB.out.2.2.1).lt, (HB.out.2.2.2).trans (HM.out.bel.mono (HB.out.2.2.2).size)⟩
        · clear hHeld
          go_simp
          replace HM := Lib.hid (show Mem wb [blkE wy3.heap.size 23 (aeZ 32), blkE P11 23 (aeZ 32)] (wy3.alloc (.cells #[.int .u8 0, .int .u8 0, .int .u8 0, .int .u8 0, .int .u8 0, .int .u8 0, .int .u8 0, .int .u8 0, .int .u8 0, .int .u8 0, .int .u8 0, .int .u8 0, .int .u8 0, .int .u8 0, .int .u8 0, .int .u8 0, .int .u8 0, .int .u8 0, .int .u8 0, .int .u8 0, .int .u8 0, .int .u8 0, .int .u8 0, .int .u8 0, .int .u8 0, .int .u8 0, .int .u8 0, .int .u8 0, .int .u8 0, .int .u8 0, .int .u8 0, .int .u8 0] 23)) from HM.out.alloc rfl 23 #[.int .u8 0, .int .u8 0, .int .u8 0, .int .u8 0, .int .u8 0, .int .u8 0, .int .u8 0, .int .u8 0, .int .u8 0, .int .u8 0, .int .u8 0, .int .u8 0, .int .u8 0, .int .u8 0, .int .u8 0, .int .u8 0, .int .u8 0, .int .u8 0, .int .u8 0, .int .u8 0, .int .u8 0, .int .u8 0, .int .u8 0, .int .u8 0, .int .u8 0, .int .u8 0, .int .u8 0, .int .u8 0, .int .u8 0, .int .u8 0, .int .u8 0, .int .u8 0] (aeZ 32) rfl)
          generalize wy3.alloc (.cells #[.int .u8 0, .int .u8 0, .int .u8 0, .int .u8 0, .int .u8 0, .int .u8 0, .int .u8 0, .int .u8 0, .int .u8 0, .int .u8 0, .int .u8 0, .int .u8 0, .int .u8 0, .int .u8 0, .int .u8 0, .int .u8 0, .int .u8 0, .int .u8 0, .int .u8 0, .int .u8 0, .int .u8 0, .int .u8 0, .int .u8 0, .int .u8 0, .int .u8 0, .int .u8 0, .int .u8 0, .int .u8 0, .int .u8 0, .int .u8 0, .int .u8 0, .int .u8 0] 23) = wy4 at HM ⊢
          generalize wy3.heap.size = P10 at HM ⊢
          refine hK.out _ _ (((HM.out.erase 0).erase 0)) (fun hHeld => ?_)
          clear hK K
          (try simp only [Act.put, List.setIfInBounds_toArray, List.set_cons_zero, List.set_cons_succ])
          refine step_one 5 rfl (by kernel_rfl) (fun K hK => ?_)
          clear hHeld
          go_simp
          refine (HR2.out _).mono ?_
          rintro e wy5 ⟨rfl, hb⟩
          replace HM := Lib.hid (show Mem wb [blkE P10 23 (aeZ 32), blkE P11 23 (aeZ 32)] wy5 from HM.out.below hb)
          clear hb
          go_wp2_with fail
          refine hK.out _ _ (((HM.out.erase 0).erase 0)) (fun hHeld => ?_)
          clear hK K
          (try simp only [Act.put, List.setIfInBounds_toArray, List.set_cons_zero, List.set_cons_succ])
          refine step_one 8 rfl (by kernel_rfl) (fun K hK => ?_)
          clear hHeld
          refine step_store_blk _ rfl 23 (.tmp 10) (.tmp 21) rfl P10 ((mulL a u).map u8v) rfl (by show Value.agg cx = _; rw [HC.out.2.2.1]) 23 (aeZ 32) (HM.out.blk 0 rfl) (cells32 (mulL a u) (mulL_length _ _)) (by rw [List.length_map, (mulL_length _ _)]; rfl) (by intro v hv; obtain ⟨_, _, rfl⟩ := List.mem_map.1 hv; rfl) ?_
          intro wy6 hb hg
          replace HM := Lib.hid (show Mem wb [blkE P10 23 ((mulL a u).map u8v), blkE P11 23 (aeZ 32)] wy6 from HM.out.put 0 rfl _ hg hb)
          clear hb hg
          refine hK.out _ _ (((HM.out.erase 0).erase 0)) (fun hHeld => ?_)
          clear hK K
          (try simp only [Act.put])
          refine step_one 9 rfl (by kernel_rfl) (fun K hK => ?_)
          clear hHeld
          refine step_store_blk _ rfl 23 (.tmp 11) (.tmp 24) rfl P11 ((mulL a p).map u8v) rfl (by show Value.agg cy = _; rw [HP2.out.2]) 23 (aeZ 32) (HM.out.blk 1 rfl) (cells32 (mulL a p) (mulL_length _ _)) (by rw [List.length_map, (mulL_length _ _)]; rfl) (by intro v hv; obtain ⟨_, _, rfl⟩ := List.mem_map.1 hv; rfl) ?_
          intro wy7 hb hg
          replace HM := Lib.hid (show Mem wb [blkE P10 23 ((mulL a u).map u8v), blkE P11 23 ((mulL a p).map u8v)] wy7 from HM.out.put 1 rfl _ hg hb)
          clear hb hg
          refine hK.out _ _ (((HM.out.erase 0).erase 0)) (fun hHeld => ?_)
          clear hK K
          (try simp only [Act.put])
          refine wpAnyH_done (by kernel_rfl) ?_ _
          go_wp2_with fail
          go_meet
          exact ⟨P10, P11, rfl, rfl, HM.out.blk 0 rfl, HM.out.blk 1 rfl, (HB.out.1).below HM.out.bel (HB.out.1).lt, (HB.out.2.1).below HM.out.bel (HB.out.2.1).lt, (HB.out.2.2.1).below HM.out.bel (HB.out.2.2.1).lt, (HB.out.2.2.2).trans (HM.out.bel.mono (HB.out.2.2.2).size)⟩
    · clear hHeld
      go_simp
      replace HM := Lib.hid (show Mem wb [blkE wd1.heap.size 23 (aeZ 32)] (wd1.alloc (.cells #[.int .u8 0, .int .u8 0, .int .u8 0, .int .u8 0, .int .u8 0, .int .u8 0, .int .u8 0, .int .u8 0, .int .u8 0, .int .u8 0, .int .u8 0, .int .u8 0, .int .u8 0, .int .u8 0, .int .u8 0, .int .u8 0, .int .u8 0, .int .u8 0, .int .u8 0, .int .u8 0, .int .u8 0, .int .u8 0, .int .u8 0, .int .u8 0, .int .u8 0, .int .u8 0, .int .u8 0, .int .u8 0, .int .u8 0, .int .u8 0, .int .u8 0, .int .u8 0] 23)) from HM.out.alloc rfl 23 #[.int .u8 0, .int .u8 0, .int .u8 0, .int .u8 0, .int .u8 0, .int .u8 0, .int .u8 0, .int .u8 0, .int .u8 0, .int .u8 0, .int .u8 0, .int .u8 0, .int .u8 0, .int .u8 0, .int .u8 0, .int .u8 0, .int .u8 0, .int .u8 0, .int .u8 0, .int .u8 0, .int .u8 0, .int .u8 0, .int .u8 0, .int .u8 0, .int .u8 0, .int .u8 0, .int .u8 0, .int .u8 0, .int .u8 0, .int .u8 0, .int .u8 0, .int .u8 0] (aeZ 32) rfl)
      generalize wd1.alloc (.cells #[.int .u8 0, .int .u8 0, .int .u8 0, .int .u8 0, .int .u8 0, .int .u8 0, .int .u8 0, .int .u8 0, .int .u8 0, .int .u8 0, .int .u8 0, .int .u8 0, .int .u8 0, .int .u8 0, .int .u8 0, .int .u8 0, .int .u8 0, .int .u8 0, .int .u8 0, .int .u8 0, .int .u8 0, .int .u8 0, .int .u8 0, .int .u8 0, .int .u8 0, .int .u8 0, .int .u8 0, .int .u8 0, .int .u8 0, .int .u8 0, .int .u8 0, .int .u8 0] 23) = wy2 at HM ⊢
      generalize wd1.heap.size = P10 at HM ⊢
      refine hK.out _ _ ((HM.out.erase 0)) (fun hHeld => ?_)
      clear hK K
      (try simp only [Act.put, List.setIfInBounds_toArray, List.set_cons_zero, List.set_cons_succ])
      refine step_two 2 7 rfl rfl (by kernel_rfl) (fun K hK => ?_) (fun K hK => ?_)
      · clear hHeld
        go_simp
        refine (HR1.out _).mono ?_
        rintro e wy3 ⟨rfl, hb⟩
        replace HM := Lib.hid (show Mem wb [blkE P10 23 (aeZ 32)] wy3 from HM.out.below hb)
        clear hb
        go_wp2_with fail
        refine hK.out _ _ ((HM.out.erase 0)) (fun hHeld => ?_)
        clear hK K
        (try simp only [Act.put, List.setIfInBounds_toArray, List.set_cons_zero, List.set_cons_succ])
        refine step_two 5 7 rfl rfl (by kernel_rfl) (fun K hK => ?_) (fun K hK => ?_)
        · clear hHeld
          go_simp
          refine (HR2.out _).mono ?_
          rintro e wy4 ⟨rfl, hb⟩
          replace HM := Lib.hid (show Mem wb [blkE P10 23 (aeZ 32)] wy4 from HM.out.below hb)
          clear hb
          go_wp2_with fail
          refine hK.out _ _ ((HM.out.erase 0)) (fun hHeld => ?_)
          clear hK K
          (try simp only [Act.put, List.setIfInBounds_toArray, List.set_cons_zero, List.set_cons_succ])
          refine step_one 7 rfl (by kernel_rfl) (fun K hK => ?_)
          clear hHeld
          go_simp
          replace HM := Lib.hid (show Mem wb [blkE wy4.heap.size 23 (aeZ 32), blkE P10 23 (aeZ 32)] (wy4.alloc (.cells #[.int .u8 0, .int .u8 0, .int .u8 0, .int .u8 0, .int .u8 0, .int .u8 0, .int .u8 0, .int .u8 0, .int .u8 0, .int .u8 0, .int .u8 0, .int .u8 0, .int .u8 0, .int .u8 0, .int .u8 0, .int .u8 0, .int .u8 0, .int .u8 0, .int .u8 0, .int .u8 0, .int .u8 0, .int .u8 0, .int .u8 0, .int .u8 0, .int .u8 0, .int .u8 0, .int .u8 0, .int .u8 0, .int .u8 0, .int .u8 0, .int .u8 0, .int .u8 0] 23)) from HM.out.alloc rfl 23 #[.int .u8 0, .int .u8 0, .int .u8 0, .int .u8 0, .int .u8 0, .int .u8 0, .int .u8 0, .int .u8 0, .int .u8 0, .int .u8 0, .int .u8 0, .int .u8 0, .int .u8 0, .int .u8 0, .int .u8 0, .int .u8 0, .int .u8 0, .int .u8 0, .int .u8 0, .int .u8 0, .int .u8 0, .int .u8 0, .int .u8 0, .int .u8 0, .int .u8 0, .int .u8 0, .int .u8 0, .int .u8 0, .int .u8 0, .int .u8 0, .int .u8 0, .int .u8 0] (aeZ 32) rfl)
          generalize wy4.alloc (.cells #[.int .u8 0, .int .u8 0, .int .u8 0, .int .u8 0, .int .u8 0, .int .u8 0, .int .u8 0, .int .u8 0, .int .u8 0, .int .u8 0, .int .u8 0, .int .u8 0, .int .u8 0, .int .u8 0, .int .u8 0, .int .u8 0, .int .u8 0, .int .u8 0, .int .u8 0, .int .u8 0, .int .u8 0, .int .u8 0, .int .u8 0, .int .u8 0, .int .u8 0, .int .u8 0, .int .u8 0, .int .u8 0, .int .u8 0, .int .u8 0, .int .u8 0, .int .u8 0] 23) = wy5 at HM ⊢
          generalize wy4.heap.size = P11 at HM ⊢
          refine hK.out _ _ (((HM.out.erase 0).erase 0)) (fun hHeld => ?_)
          clear hK K
          (try simp only [Act.put, List.setIfInBounds_toArray, List.set_cons_zero, List.set_cons_succ])
          refine step_one 8 rfl (by kernel_rfl) (fun K hK => ?_)
          clear hHeld
          refine step_store_blk _ rfl 23 (.tmp 10) (.tmp 21) rfl P10 ((mulL a u).map u8v) rfl (by show Value.agg cx = _; rw [HC.out.2.2.1]) 23 (aeZ 32) (HM.out.blk 1 rfl) (cells32 (mulL a u) (mulL_length _ _)) (by rw [List.length_map, (mulL_length _ _)]; rfl) (by intro v hv; obtain ⟨_, _, rfl⟩ := List.mem_map.1 hv; rfl) ?_
          intro wy6 hb hg
          replace HM := Lib.hid (show Mem wb [blkE P11 23 (aeZ 32), blkE P10 23 ((mulL a u).map u8v)] wy6 from HM.out.put 1 rfl _ hg hb)
          clear hb hg
          refine hK.out _ _ (((HM.out.erase 0).erase 0)) (fun hHeld => ?_)
          clear hK K
          (try simp only [Act.put])
          refine step_one 9 rfl (by kernel_rfl) (fun K hK => ?_)
          clear hHeld
          refine step_store_blk _ rfl 23 (.tmp 11) (.tmp 24) rfl P11 ((mulL a p).map u8v) rfl (by show Value.agg cy = _; rw [HP2.out.2]) 23 (aeZ 32) (HM.out.blk 0 rfl) (cells32 (mulL a p) (mulL_length _ _)) (by rw [List.length_map, (mulL_length _ _)]; rfl) (by intro v hv; obtain ⟨_, _, rfl⟩ := List.mem_map.1 hv; rfl) ?_
          intro wy7 hb hg
          replace HM := Lib.hid (show Mem wb [blkE P11 23 ((mulL a p).map u8v), blkE P10 23 ((mulL a u).map u8v)] wy7 from HM.out.put 0 rfl _ hg hb)
          clear hb hg
          refine hK.out _ _ (((HM.out.erase 0).erase 0)) (fun hHeld => ?_)
          clear hK K
          (try simp only [Act.put])
          refine wpAnyH_done (by kernel_rfl) ?_ _
          go_wp2_with fail
          go_meet
          exact ⟨P10, P11, rfl, rfl, HM.out.blk 1 rfl, HM.out.blk 0 rfl, (HB.out.1).below HM.out.bel (HB.out.1).lt, (HB.out.2.1).below HM.out.bel (HB.out.2.1).lt, (HB.out.2.2.1).below HM.out.bel (HB.out.2.2.1).lt, (HB.out.2.2.2).trans (HM.out.bel.mono (HB.out.2.2.2).size)⟩
        · clear hHeld
          go_simp
          replace HM := Lib.hid (show Mem wb [blkE wy3.heap.size 23 (aeZ 32), blkE P10 23 (aeZ 32)] (wy3.alloc (.cells #[.int .u8 0, .int .u8 0, .int .u8 0, .int .u8 0, .int .u8 0, .int .u8 0, .int .u8 0, .int .u8 0, .int .u8 0, .int .u8 0, .int .u8 0, .int .u8 0, .int .u8 0, .int .u8 0, .int .u8 0, .int .u8 0, .int .u8 0, .int .u8 0, .int .u8 0, .int .u8 0, .int .u8 0, .int .u8 0, .int .u8 0, .int .u8 0, .int .u8 0, .int .u8 0, .int .u8 0, .int .u8 0, .int .u8 0, .int .u8 0, .int .u8 0, .int .u8 0] 23)) from HM.out.alloc rfl 23 #[.int .u8 0, .int .u8 0, .int .u8 0, .int .u8 0, .int .u8 0, .int .u8 0, .int .u8 0, .int .u8 0, .int .u8 0, .int .u8 0, .int .u8 0, .int .u8 0, .int .u8 0, .int .u8 0, .int .u8 0, .int .u8 0, .int .u8 0, .int .u8 0, .int .u8 0, .int .u8 0, .int .u8 0, .int .u8 0, .int .u8 0, .int .u8 0, .int .u8 0, .int .u8 0, .int .u8 0, .int .u8 0, .int .u8 0, .int .u8 0, .int .u8 0, .int .u8 0] (aeZ 32) rfl)
          generalize wy3.alloc (.cells #[.int .u8 0, .int .u8 0, .int .u8 0, .int .u8 0, .int .u8 0, .int .u8 0, .int .u8 0, .int .u8 0, .int .u8 0, .int .u8 0, .int .u8 0, .int .u8 0, .int .u8 0, .int .u8 0, .int .u8 0, .int .u8 0, .int .u8 0, .int .u8 0, .int .u8 0, .int .u8 0, .int .u8 0, .int .u8 0, .int .u8 0, .int .u8 0, .int .u8 0, .int .u8 0, .int .u8 0, .int .u8 0, .int .u8 0, .int .u8 0, .int .u8 0, .int .u8 0] 23) = wy4 at HM ⊢
          generalize wy3.heap.size = P11 at HM ⊢
          refine hK.out _ _ (((HM.out.erase 0).erase 0)) (fun hHeld => ?_)
          clear hK K
          (try simp only [Act.put, List.setIfInBounds_toArray, List.set_cons_zero, List.set_cons_succ])
          refine step_one 5 rfl (by kernel_rfl) (fun K hK => ?_)
          clear hHeld
          go_simp
          refine (HR2.out _).mono ?_
          rintro e wy5 ⟨rfl, hb⟩
          replace HM := Lib.hid (show Mem wb [blkE P11 23 (aeZ 32), blkE P10 23 (aeZ 32)] wy5 from HM.out.below hb)
          clear hb
          go_wp2_with fail
          refine hK.out _ _ (((HM.out.erase 0).erase 0)) (fun hHeld => ?_)
          clear hK K
          (try simp only [Act.put, List.setIfInBounds_toArray, List.set_cons_zero, List.set_cons_succ])
          refine step_one 8 rfl (by kernel_rfl) (fun K hK => ?_)
          clear hHeld
          refine step_store_blk _ rfl 23 (.tmp 10) (.tmp 21) rfl P10 ((mulL a u).map u8v) rfl (by show Value.agg cx = _; rw [HC.out.2.2.1]) 23 (aeZ 32) (HM.out.blk 1 rfl) (cells32 (mulL a u) (mulL_length _ _)) (by rw [List.length_map, (mulL_length _ _)]; rfl) (by intro v hv; obtain ⟨_, _, rfl⟩ := List.mem_map.1 hv; rfl) ?_
          intro wy6 hb hg
          replace HM := Lib.hid (show Mem wb [blkE P11 23 (aeZ 32), blkE P10 23 ((mulL a u).map u8v)] wy6 from HM.out.put 1 rfl _ hg hb)
          clear hb hg
          refine hK.out _ _ (((HM.out.erase 0).erase 0)) (fun hHeld => ?_)
          clear hK K
          (try simp only [Act.put])
          refine step_one 9 rfl (by kernel_rfl) (fun K hK => ?_)
          clear hHeld
          refine step_store_blk _ rfl 23 (.tmp 11) (.tmp 24) rfl P11 ((mulL a p).map u8v) rfl (by show Value.agg cy = _; rw [HP2.out.2]) 23 (aeZ 32) (HM.out.blk 0 rfl) (cells32 (mulL a p) (mulL_length _ _)) (by rw [List.length_map, (mulL_length _ _)]; rfl) (by intro v hv; obtain ⟨_, _, rfl⟩ := List.mem_map.1 hv; rfl) ?_
          intro wy7 hb hg
          replace HM := Lib.hid (show Mem wb [blkE P11 23 ((mulL a p).map u8v), blkE P10 23 ((mulL a u).map u8v)] wy7 from HM.out.put 0 rfl _ hg hb)
          clear hb hg
          refine hK.out _ _ (((HM.out.erase 0).erase 0)) (fun hHeld => ?_)
          clear hK K
          (try simp only [Act.put])
          refine wpAnyH_done (by kernel_rfl) ?_ _
          go_wp2_with fail
          go_meet
          exact ⟨P10, P11, rfl, rfl, HM.out.blk 1 rfl, HM.out.blk 0 rfl, (HB.out.1).below HM.out.bel (HB.out.1).lt, (HB.out.2.1).below HM.out.bel (HB.out.2.1).lt, (HB.out.2.2.1).below HM.out.bel (HB.out.2.2.1).lt, (HB.out.2.2.2).trans (HM.out.bel.mono (HB.out.2.2.2).size)⟩
      · clear hHeld
        go_simp
        replace HM := Lib.hid (show Mem wb [blkE wy2.heap.size 23 (aeZ 32), blkE P10 23 (aeZ 32)] (wy2.alloc (.cells #[.int .u8 0, .int .u8 0, .int .u8 0, .int .u8 0, .int .u8 0, .int .u8 0, .int .u8 0, .int .u8 0, .int .u8 0, .int .u8 0, .int .u8 0, .int .u8 0, .int .u8 0, .int .u8 0, .int .u8 0, .int .u8 0, .int .u8 0, .int .u8 0, .int .u8 0, .int .u8 0, .int .u8 0, .int .u8 0, .int .u8 0, .int .u8 0, .int .u8 0, .int .u8 0, .int .u8 0, .int .u8 0, .int .u8 0, .int .u8 0, .int .u8 0, .int .u8 0] 23)) from HM.out.alloc rfl 23 #[.int .u8 0, .int .u8 0, .int .u8 0, .int .u8 0, .int .u8 0, .int .u8 0, .int .u8 0, .int .u8 0, .int .u8 0, .int .u8 0, .int .u8 0, .int .u8 0, .int .u8 0, .int .u8 0, .int .u8 0, .int .u8 0, .int .u8 0, .int .u8 0, .int .u8 0, .int .u8 0, .int .u8 0, .int .u8 0, .int .u8 0, .int .u8 0, .int .u8 0, .int .u8 0, .int .u8 0, .int .u8 0, .int .u8 0, .int .u8 0, .int .u8 0, .int .u8 0] (aeZ 32) rfl)
        generalize wy2.alloc (.cells #[.int .u8 0, .int .u8 0, .int .u8 0, .int .u8 0, .int .u8 0, .int .u8 0, .int .u8 0, .int .u8 0, .int .u8 0, .int .u8 0, .int .u8 0, .int .u8 0, .int .u8 0, .int .u8 0, .int .u8 0, .int .u8 0, .int .u8 0, .int .u8 0, .int .u8 0, .int .u8 0, .int .u8 0, .int .u8 0, .int .u8 0, .int .u8 0, .int .u8 0, .int .u8 0, .int .u8 0, .int .u8 0, .int .u8 0, .int .u8 0, .int .u8 0, .int .u8 0] 23) = wy3 at HM ⊢
        generalize wy2.heap.size = P11 at HM ⊢
        refine hK.out _ _ (((HM.out.erase 0).erase 0)) (fun hHeld => ?_)
        clear hK K
        (try simp only [Act.put, List.setIfInBounds_toArray, List.set_cons_zero, List.set_cons_succ])
        refine step_one 2 rfl (by kernel_rfl) (fun K hK => ?_)
        clear hHeld
        go_simp
        refine (HR1.out _).mono ?_
        rintro e wy4 ⟨rfl, hb⟩
        replace HM := Lib.hid (show Mem wb [blkE P11 23 (aeZ 32), blkE P10 23 (aeZ 32)] wy4 from HM.out.below hb)
        clear hb
        go_wp2_with fail
        refine hK.out _ _ (((HM.out.erase 0).erase 0)) (fun hHeld => ?_)
        clear hK K
        (try simp only [Act.put, List.setIfInBounds_toArray, List.set_cons_zero, List.set_cons_succ])
        refine step_one 5 rfl (by kernel_rfl) (fun K hK => ?_)
        clear hHeld
        go_simp
        refine (HR2.out _).mono ?_
        rintro e wy5 ⟨rfl, hb⟩
        replace HM := Lib.hid (show Mem wb [blkE P11 23 (aeZ 32), blkE P10 23 (aeZ 32)] wy5 from HM.out.below hb)
        clear hb
        go_wp2_with fail
        refine hK.out _ _ (((HM.out.erase 0).erase 0)) (fun hHeld => ?_)
        clear hK K
        (try simp only [Act.put, List.setIfInBounds_toArray, List.set_cons_zero, List.set_cons_succ])
        refine step_one 8 rfl (by kernel_rfl) (fun K hK => ?_)
        clear hHeld
        refine step_store_blk _ rfl 23 (.tmp 10) (.tmp 21) rfl P10 ((mulL a u).map u8v) rfl (by show Value.agg cx = _; rw [HC.out.2.2.1]) 23 (aeZ 32) (HM.out.blk 1 rfl) (cells32 (mulL a u) (mulL_length _ _)) (by rw [List.length_map, (mulL_length _ _)]; rfl) (by intro v hv; obtain ⟨_, _, rfl⟩ := List.mem_map.1 hv; rfl) ?_
        intro wy6 hb hg
        replace HM := Lib.hid (show Mem wb [blkE P11 23 (aeZ 32), blkE P10 23 ((mulL a u).map u8v)] wy6 from HM.out.put 1 rfl _ hg hb)
        clear hb hg
        refine hK.out _ _ (((HM.out.erase 0).erase 0)) (fun hHeld => ?_)
        clear hK K
        (try simp only [Act.put])
        refine step_one 9 rfl (by kernel_rfl) (fun K hK => ?_)
        clear hHeld
        refine step_store_blk _ rfl 23 (.tmp 11) (.tmp 24) rfl P11 ((mulL a p).map u8v) rfl (by show Value.agg cy = _; rw [HP2.out.2]) 23 (aeZ 32) (HM.out.blk 0 rfl) (cells32 (mulL a p) (mulL_length _ _)) (by rw [List.length_map, (mulL_length _ _)]; rfl) (by intro v hv; obtain ⟨_, _, rfl⟩ := List.mem_map.1 hv; rfl) ?_
        intro wy7 hb hg
        replace HM := Lib.hid (show Mem wb [blkE P11 23 ((mulL a p).map u8v), blkE P10 23 ((mulL a u).map u8v)] wy7 from HM.out.put 0 rfl _ hg hb)
        clear hb hg
        refine hK.out _ _ (((HM.out.erase 0).erase 0)) (fun hHeld => ?_)
        clear hK K
        (try simp only [Act.put])
        refine wpAnyH_done (by kernel_rfl) ?_ _
        go_wp2_with fail
        go_meet
        exact ⟨P10, P11, rfl, rfl, HM.out.blk 1 rfl, HM.out.blk 0 rfl, (HB.out.1).below HM.out.bel (HB.out.1).lt, (HB.out.2.1).below HM.out.bel (HB.out.2.1).lt, (HB.out.2.2.1).below HM.out.bel (HB.out.2.2.1).lt, (HB.out.2.2.2).trans (HM.out.bel.mono (HB.out.2.2.2).size)⟩
    · clear hHeld
      go_simp
      replace HM := Lib.hid (show Mem wb [blkE wd1.heap.size 23 (aeZ 32)] (wd1.alloc (.cells #[.int .u8 0, .int .u8 0, .int .u8 0, .int .u8 0, .int .u8 0, .int .u8 0, .int .u8 0, .int .u8 0, .int .u8 0, .int .u8 0, .int .u8 0, .int .u8 0, .int .u8 0, .int .u8 0, .int .u8 0, .int .u8 0, .int .u8 0, .int .u8 0, .int .u8 0, .int .u8 0, .int .u8 0, .int .u8 0, .int .u8 0, .int .u8 0, .int .u8 0, .int .u8 0, .int .u8 0, .int .u8 0, .int .u8 0, .int .u8 0, .int .u8 0, .int .u8 0] 23)) from HM.out.alloc rfl 23 #[.int .u8 0, .int .u8 0, .int .u8 0, .int .u8 0, .int .u8 0, .int .u8 0, .int .u8 0, .int .u8 0, .int .u8 0, .int .u8 0, .int .u8 0, .int .u8 0, .int .u8 0, .int .u8 0, .int .u8 0, .int .u8 0, .int .u8 0, .int .u8 0, .int .u8 0, .int .u8 0, .int .u8 0, .int .u8 0, .int .u8 0, .int .u8 0, .int .u8 0, .int .u8 0, .int .u8 0, .int .u8 0, .int .u8 0, .int .u8 0, .int .u8 0, .int .u8 0] (aeZ 32) rfl)
      generalize wd1.alloc (.cells #[.int .u8 0, .int .u8 0, .int .u8 0, .int .u8 0, .int .u8 0, .int .u8 0, .int .u8 0, .int .u8 0, .int .u8 0, .int .u8 0, .int .u8 0, .int .u8 0, .int .u8 0, .int .u8 0, .int .u8 0, .int .u8 0, .int .u8 0, .int .u8 0, .int .u8 0, .int .u8 0, .int .u8 0, .int .u8 0, .int .u8 0, .int .u8 0, .int .u8 0, .int .u8 0, .int .u8 0, .int .u8 0, .int .u8 0, .int .u8 0, .int .u8 0, .int .u8 0] 23) = wy2 at HM ⊢
      generalize wd1.heap.size = P11 at HM ⊢
      refine hK.out _ _ ((HM.out.erase 0)) (fun hHeld => ?_)
      clear hK K
      (try simp only [Act.put, List.setIfInBounds_toArray, List.set_cons_zero, List.set_cons_succ])
      refine step_two 2 6 rfl rfl (by kernel_rfl) (fun K hK => ?_) (fun K hK => ?_)
      · clear hHeld
        go_simp
        refine (HR1.out _).mono ?_
        rintro e wy3 ⟨rfl, hb⟩
        replace HM := Lib.hid (show Mem wb [blkE P11 23 (aeZ 32)] wy3 from HM.out.below hb)
        clear hb
        go_wp2_with fail
        refine hK.out _ _ ((HM.out.erase 0)) (fun hHeld => ?_)
        clear hK K
        (try simp only [Act.put, List.setIfInBounds_toArray, List.set_cons_zero, List.set_cons_succ])
        refine step_two 5 6 rfl rfl (by kernel_rfl) (fun K hK => ?_) (fun K hK => ?_)
        · clear hHeld
          go_simp
          refine (HR2.out _).mono ?_
          rintro e wy4 ⟨rfl, hb⟩
          replace HM := Lib.hid (show Mem wb [blkE P11 23 (aeZ 32)] wy4 from HM.out.below hb)
          clear hb
          go_wp2_with fail
          refine hK.out _ _ ((HM.out.erase 0)) (fun hHeld => ?_)
          clear hK K
          (try simp only [Act.put, List.setIfInBounds_toArray, List.set_cons_zero, List.set_cons_succ])
          refine step_one 6 rfl (by kernel_rfl) (fun K hK => ?_)
          clear hHeld
          go_simp
          replace HM := Lib.hid (show Mem wb [blkE wy4.heap.size 23 (aeZ 32), blkE P11 23 (aeZ 32)] (wy4.alloc (.cells #[.int .u8 0, .int .u8 0, .int .u8 0, .int .u8 0, .int .u8 0, .int .u8 0, .int .u8 0, .int .u8 0, .int .u8 0, .int .u8 0, .int .u8 0, .int .u8 0, .int .u8 0, .int .u8 0, .int .u8 0, .int .u8 0, .int .u8 0, .int .u8 0, .int .u8 0, .int .u8 0, .int .u8 0, .int .u8 0, .int .u8 0, .int .u8 0, .int .u8 0, .int .u8 0, .int .u8 0, .int .u8 0, .int .u8 0, .int .u8 0, .int .u8 0, .int .u8 0] 23)) from HM.out.alloc rfl 23 #[.int .u8 0, .int .u8 0, .int .u8 0, .int .u8 0, .int .u8 0, .int .u8 0, .int .u8 0, .int .u8 0, .int .u8 0, .int .u8 0, .int .u8 0, .int .u8 0, .int .u8 0, .int .u8 0, .int .u8 0, .int .u8 0, .int .u8 0, .int .u8 0, .int .u8 0, .int .u8 0, .int .u8 0, .int .u8 0, .int .u8 0, .int .u8 0, .int .u8 0, .int .u8 0, .int .u8 0, .int .u8 0, .int .u8 0, .int .u8 0, .int .u8 0, .int .u8 0] (aeZ 32) rfl)
          generalize wy4.alloc (.cells #[.int .u8 0, .int .u8 0, .int .u8 0, .int .u8 0, .int .u8 0, .int .u8 0, .int .u8 0, .int .u8 0, .int .u8 0, .int .u8 0, .int .u8 0, .int .u8 0, .int .u8 0, .int .u8 0, .int .u8 0, .int .u8 0, .int .u8 0, .int .u8 0, .int .u8 0, .int .u8 0, .int .u8 0, .int .u8 0, .int .u8 0, .int .u8 0, .int .u8 0, .int .u8 0, .int .u8 0, .int .u8 0, .int .u8 0, .int .u8 0, .int .u8 0, .int .u8 0] 23) = wy5 at HM ⊢
          generalize wy4.heap.size = P10 at HM ⊢
          refine hK.out _ _ (((HM.out.erase 0).erase 0)) (fun hHeld => ?_)
          clear hK K
          (try simp only [Act.put, List.setIfInBounds_toArray, List.set_cons_zero, List.set_cons_succ])
          refine step_one 8 rfl (by kernel_rfl) (fun K hK => ?_)
          clear hHeld
          refine step_store_blk _ rfl 23 (.tmp 10) (.tmp 21) rfl P10 ((mulL a u).map u8v) rfl (by show Value.agg cx = _; rw [HC.out.2.2.1]) 23 (aeZ 32) (HM.out.blk 0 rfl) (cells32 (mulL a u) (mulL_length _ _)) (by rw [List.length_map, (mulL_length _ _)]; rfl) (by intro v hv; obtain ⟨_, _, rfl⟩ := List.mem_map.1 hv; rfl) ?_
          intro wy6 hb hg
          replace HM := Lib.hid (show Mem wb [blkE P10 23 ((mulL a u).map u8v), blkE P11 23 (aeZ 32)] wy6 from HM.out.put 0 rfl _ hg hb)
          clear hb hg
          refine hK.out _ _ (((HM.out.erase 0).erase 0)) (fun hHeld => ?_)
          clear hK K
          (try simp only [Act.put])
          refine step_one 9 rfl (by kernel_rfl) (fun K hK => ?_)
          clear hHeld
          refine step_store_blk _ rfl 23 (.tmp 11) (.tmp 24) rfl P11 ((mulL a p).map u8v) rfl (by show Value.agg cy = _; rw [HP2.out.2]) 23 (aeZ 32) (HM.out.blk 1 rfl) (cells32 (mulL a p) (mulL_length _ _)) (by rw [List.length_map, (mulL_length _ _)]; rfl) (by intro v hv; obtain ⟨_, _, rfl⟩ := List.mem_map.1 hv; rfl) ?_
          intro wy7 hb hg
          replace HM := Lib.hid (show Mem wb [blkE P10 23 ((mulL a u).map u8v), blkE P11 23 ((mulL a p).map u8v)] wy7 from HM.out.put 1 rfl _ hg hb)
          clear hb hg
          refine hK.out _ _ (((HM.out.erase 0).erase 0)) (fun hHeld => ?_)
          clear hK K
          (try simp only [Act.put])
          refine wpAnyH_done (by kernel_rfl) ?_ _
          go_wp2_with fail
          go_meet
          exact ⟨P10, P11, rfl, rfl, HM.out.blk 0 rfl, HM.out.blk 1 rfl, (HB.out.1).below HM.out.bel (HB.out.1).lt, (HB.out.2.1).below HM.out.bel (HB.out.2.1).lt, (HB.out.2.2.1).below HM.out.bel (HB.out.2.2.1).lt, (HB.out.2.2.2).trans (HM.out.bel.mono (HB.out.2.2.2).size)⟩
        · clear hHeld
          go_simp
          replace HM := Lib.hid (show Mem wb [blkE wy3.heap.size 23 (aeZ 32), blkE P11 23 (aeZ 32)] (wy3.alloc (.cells #[.int .u8 0, .int .u8 0, .int .u8 0, .int .u8 0, .int .u8 0, .int .u8 0, .int .u8 0, .int .u8 0, .int .u8 0, .int .u8 0, .int .u8 0, .int .u8 0, .int .u8 0, .int .u8 0, .int .u8 0, .int .u8 0, .int .u8 0, .int .u8 0, .int .u8 0, .int .u8 0, .int .u8 0, .int .u8 0, .int .u8 0, .int .u8 0, .int .u8 0, .int .u8 0, .int .u8 0, .int .u8 0, .int .u8 0, .int .u8 0, .int .u8 0, .int .u8 0] 23)) from HM.out.alloc rfl 23 #[.int .u8 0, .int .u8 0, .int .u8 0, .int .u8 0, .int .u8 0, .int .u8 0, .int .u8 0, .int .u8 0, .int .u8 0, .int .u8 0, .int .u8 0, .int .u8 0, .int .u8 0, .int .u8 0, .int .u8 0, .int .u8 0, .int .u8 0, .int .u8 0, .int .u8 0, .int .u8 0, .int .u8 0, .int .u8 0, .int .u8 0, .int .u8 0, .int .u8 0, .int .u8 0, .int .u8 0, .int .u8 0, .int .u8 0, .int .u8 0, .int .u8 0, .int .u8 0] (aeZ 32) rfl)
          generalize wy3.alloc (.cells #[.int .u8 0, .int .u8 0, .int .u8 0, .int .u8 0, .int .u8 0, .int .u8 0, .int .u8 0, .int .u8 0, .int .u8 0, .int .u8 0, .int .u8 0, .int .u8 0, .int .u8 0, .int .u8 0, .int .u8 0, .int .u8 0, .int .u8 0, .int .u8 0, .int .u8 0, .int .u8 0, .int .u8 0, .int .u8 0, .int .u8 0, .int .u8 0, .int .u8 0, .int .u8 0, .int .u8 0, .int .u8 0, .int .u8 0, .int .u8 0, .int .u8 0, .int .u8 0] 23) = wy4 at HM ⊢
          generalize wy3.heap.size = P10 at HM ⊢
          refine hK.out _ _ (((HM.out.erase 0).erase 0)) (fun hHeld => ?_)
          clear hK K
          (try simp only [Act.put, List.setIfInBounds_toArray, List.set_cons_zero, List.set_cons_succ])
          refine step_one 5 rfl (by kernel_rfl) (fun K hK => ?_)
          clear hHeld
          go_simp
          refine (HR2.out _).mono ?_
          rintro e wy5 ⟨rfl, hb⟩
          replace HM := Lib.hid (show Mem wb [blkE P10 23 (aeZ 32), blkE P11 23 (aeZ 32)] wy5 from HM.out.below hb)
          clear hb
          go_wp2_with fail
          refine hK.out _ _ (((HM.out.erase 0).erase 0)) (fun hHeld => ?_)
          clear hK K
          (try simp only [Act.put, List.setIfInBounds_toArray, List.set_cons_zero, List.set_cons_succ])
          refine step_one 8 rfl (by kernel_rfl) (fun K hK => ?_)
          clear hHeld
          refine step_store_blk _ rfl 23 (.tmp 10) (.tmp 21) rfl P10 ((mulL a u).map u8v) rfl (by show Value.agg cx = _; rw [HC.out.2.2.1]) 23 (aeZ 32) (HM.out.blk 0 rfl) (cells32 (mulL a u) (mulL_length _ _)) (by rw [List.length_map, (mulL_length _ _)]; rfl) (by intro v hv; obtain ⟨_, _, rfl⟩ := List.mem_map.1 hv; rfl) ?_
          intro wy6 hb hg
          replace HM := Lib.hid (show Mem wb [blkE P10 23 ((mulL a u).map u8v), blkE P11 23 (aeZ 32)] wy6 from HM.out.put 0 rfl _ hg hb)
          clear hb hg
          refine hK.out _ _ (((HM.out.erase 0).erase 0)) (fun hHeld => ?_)
          clear hK K
          (try simp only [Act.put])
          refine step_one 9 rfl (by kernel_rfl) (fun K hK => ?_)
          clear hHeld
          refine step_store_blk _ rfl 23 (.tmp 11) (.tmp 24) rfl P11 ((mulL a p).map u8v) rfl (by show Value.agg cy = _; rw [HP2.out.2]) 23 (aeZ 32) (HM.out.blk 1 rfl) (cells32 (mulL a p) (mulL_length _ _)) (by rw [List.length_map, (mulL_length _ _)]; rfl) (by intro v hv; obtain ⟨_, _, rfl⟩ := List.mem_map.1 hv; rfl) ?_
          intro wy7 hb hg
          replace HM := Lib.hid (show Mem wb [blkE P10 23 ((mulL a u).map u8v), blkE P11 23 ((mulL a p).map u8v)] wy7 from HM.out.put 1 rfl _ hg hb)
          clear hb hg
          refine hK.out _ _ (((HM.out.erase 0).erase 0)) (fun hHeld => ?_)
          clear hK K
          (try simp only [Act.put])
          refine wpAnyH_done (by kernel_rfl) ?_ _
          go_wp2_with fail
          go_meet
          exact ⟨P10, P11, rfl, rfl, HM.out.blk 0 rfl, HM.out.blk 1 rfl, (HB.out.1).below HM.out.bel (HB.out.1).lt, (HB.out.2.1).below HM.out.bel (HB.out.2.1).lt, (HB.out.2.2.1).below HM.out.bel (HB.out.2.2.1).lt, (HB.out.2.2.2).trans (HM.out.bel.mono (HB.out.2.2.2).size)⟩
      · clear hHeld
        go_simp
        replace HM := Lib.hid (show Mem wb [blkE wy2.heap.size 23 (aeZ 32), blkE P11 23 (aeZ 32)] (wy2.alloc (.cells #[.int .u8 0, .int .u8 0, .int .u8 0, .int .u8 0, .int .u8 0, .int .u8 0, .int .u8 0, .int .u8 0, .int .u8 0, .int .u8 0, .int .u8 0, .int .u8 0, .int .u8 0, .int .u8 0, .int .u8 0, .int .u8 0, .int .u8 0, .int .u8 0, .int .u8 0, .int .u8 0, .int .u8 0, .int .u8 0, .int .u8 0, .int .u8 0, .int .u8 0, .int .u8 0, .int .u8 0, .int .u8 0, .int .u8 0, .int .u8 0, .int .u8 0, .int .u8 0] 23)) from HM.out.alloc rfl 23 #[.int .u8 0, .int .u8 0, .int .u8 0, .int .u8 0, .int .u8 0, .int .u8 0, .int .u8 0, .int .u8 0, .int .u8 0, .int .u8 0, .int .u8 0, .int .u8 0, .int .u8 0, .int .u8 0, .int .u8 0, .int .u8 0, .int .u8 0, .int .u8 0, .int .u8 0, .int .u8 0, .int .u8 0, .int .u8 0, .int .u8 0, .int .u8 0, .int .u8 0, .int .u8 0, .int .u8 0, .int .u8 0, .int .u8 0, .int .u8 0, .int .u8 0, .int .u8 0] (aeZ 32) rfl)
        generalize wy2.alloc (.cells #[.int .u8 0, .int .u8 0, .int .u8 0, .int .u8 0, .int .u8 0, .int .u8 0, .int .u8 0, .int .u8 0, .int .u8 0, .int .u8 0, .int .u8 0, .int .u8 0, .int .u8 0, .int .u8 0, .int .u8 0, .int .u8 0, .int .u8 0, .int .u8 0, .int .u8 0, .int .u8 0, .int .u8 0, .int .u8 0, .int .u8 0, .int .u8 0, .int .u8 0, .int .u8 0, .int .u8 0, .int .u8 0, .int .u8 0, .int .u8 0, .int .u8 0, .int .u8 0] 23) = wy3 at HM ⊢
        generalize wy2.heap.size = P10 at HM ⊢
        refine hK.out _ _ (((HM.out.erase 0).erase 0)) (fun hHeld => ?_)
        clear hK K
        (try simp only [Act.put, List.setIfInBounds_toArray, List.set_cons_zero, List.set_cons_succ])
        refine step_one 2 rfl (by kernel_rfl) (fun K hK => ?_)
        clear hHeld
        go_simp
        refine (HR1.out _).mono ?_
        rintro e wy4 ⟨rfl, hb⟩
        replace HM := Lib.hid (show Mem wb [blkE P10 23 (aeZ 32), blkE P11 23 (aeZ 32)] wy4 from HM.out.below hb)
        clear hb
        go_wp2_with fail
        refine hK.out _ _ (((HM.out.erase 0).erase 0)) (fun hHeld => ?_)
        clear hK K
        (try simp only [Act.put, List.setIfInBounds_toArray, List.set_cons_zero, List.set_cons_succ])
        refine step_one 5 rfl (by kernel_rfl) (fun K hK => ?_)
        clear hHeld
        go_simp
        refine (HR2.out _).mono ?_
        rintro e wy5 ⟨rfl, hb⟩
        replace HM := Lib.hid (show Mem wb [blkE P10 23 (aeZ 32), blkE P11 23 (aeZ 32)] wy5 from HM.out.below hb)
        clear hb
        go_wp2_with fail
        refine hK.out _ _ (((HM.out.erase 0).erase 0)) (fun hHeld => ?_)
        clear hK K
        (try simp only [Act.put, List.setIfInBounds_toArray, List.set_cons_zero, List.set_cons_succ])
        refine step_one 8 rfl (by kernel_rfl) (fun K hK => ?_)
        clear hHeld
        refine step_store_blk _ rfl 23 (.tmp 10) (.tmp 21) rfl P10 ((mulL a u).map u8v) rfl (by show Value.agg cx = _; rw [HC.out.2.2.1]) 23 (aeZ 32) (HM.out.blk 0 rfl) (cells32 (mulL a u) (mulL_length _ _)) (by rw [List.length_map, (mulL_length _ _)]; rfl) (by intro v hv; obtain ⟨_, _, rfl⟩ := List.mem_map.1 hv; rfl) ?_
        intro wy6 hb hg
        replace HM := Lib.hid (show Mem wb [blkE P10 23 ((mulL a u).map u8v), blkE P11 23 (aeZ 32)] wy6 from HM.out.put 0 rfl _ hg hb)
        clear hb hg
        refine hK.out _ _ (((HM.out.erase 0).erase 0)) (fun hHeld => ?_)
        clear hK K
        (try simp only [Act.put])
        refine step_one 9 rfl (by kernel_rfl) (fun K hK => ?_)
        clear hHeld
        refine step_store_blk _ rfl 23 (.tmp 11) (.tmp 24) rfl P11 ((mulL a p).map u8v) rfl (by show Value.agg cy = _; rw [HP2.out.2]) 23 (aeZ 32) (HM.out.blk 1 rfl) (cells32 (mulL a p) (mulL_length _ _)) (by rw [List.length_map, (mulL_length _ _)]; rfl) (by intro v hv; obtain ⟨_, _, rfl⟩ := List.mem_map.1 hv; rfl) ?_
        intro wy7 hb hg
        replace HM := Lib.hid (show Mem wb [blkE P10 23 ((mulL a u).map u8v), blkE P11 23 ((mulL a p).map u8v)] wy7 from HM.out.put 1 rfl _ hg hb)
        clear hb hg
        refine hK.out _ _ (((HM.out.erase 0).erase 0)) (fun hHeld => ?_)
        clear hK K
        (try simp only [Act.put])
        refine wpAnyH_done (by kernel_rfl) ?_ _
        go_wp2_with fail
        go_meet
        exact ⟨P10, P11, rfl, rfl, HM.out.blk 0 rfl, HM.out.blk 1 rfl, (HB.out.1).below HM.out.bel (HB.out.1).lt, (HB.out.2.1).below HM.out.bel (HB.out.2.1).lt, (HB.out.2.2.1).below HM.out.bel (HB.out.2.2.1).lt, (HB.out.2.2.2).trans (HM.out.bel.mono (HB.out.2.2.2).size)⟩
  case rest =>
  clear HB
  revert wc
  intro wb hcut
  obtain ⟨P10, P11, rfl, rfl, hcut⟩ := hcut
  have HB := Lib.hid hcut
  clear hcut
  go_wp2_with (first | (refine wpList_load_blk rfl 23 (.tmp 4) rfl w.heap.size rfl 23 (a.map u8v) (HB.out.2.2.1) 32 5 Try.underlying23 (cells32 a HL.out.1) ?_; rw [HC.out.1]) | (refine wpList_load_blk rfl 23 (.tmp 9) rfl P9 rfl 23 (p.map u8v) (HB.out.2.2.2.2.1) 32 5 Try.underlying23 (cells32 p HP.out.1) ?_; rw [HP.out.2]))
  refine (HSH.out _).mono ?_
  rintro e w3 ⟨rfl, hb⟩
  have HM := Lib.hid (show Mem wb [] w3 from (Mem.nil wb).below hb)
  clear hb
  have HA := Lib.hid (show Mem wb [blkE w3.heap.size 23 (aeZ 32)] (w3.alloc (.cells #[.int .u8 0, .int .u8 0, .int .u8 0, .int .u8 0, .int .u8 0, .int .u8 0, .int .u8 0, .int .u8 0, .int .u8 0, .int .u8 0, .int .u8 0, .int .u8 0, .int .u8 0, .int .u8 0, .int .u8 0, .int .u8 0, .int .u8 0, .int .u8 0, .int .u8 0, .int .u8 0, .int .u8 0, .int .u8 0, .int .u8 0, .int .u8 0, .int .u8 0, .int .u8 0, .int .u8 0, .int .u8 0, .int .u8 0, .int .u8 0, .int .u8 0, .int .u8 0] 23)) from HM.out.alloc rfl 23 #[.int .u8 0, .int .u8 0, .int .u8 0, .int .u8 0, .int .u8 0, .int .u8 0, .int .u8 0, .int .u8 0, .int .u8 0, .int .u8 0, .int .u8 0, .int .u8 0, .int .u8 0, .int .u8 0, .int .u8 0, .int .u8 0, .int .u8 0, .int .u8 0, .int .u8 0, .int .u8 0, .int .u8 0, .int .u8 0, .int .u8 0, .int .u8 0, .int .u8 0, .int .u8 0, .int .u8 0, .int .u8 0, .int .u8 0, .int .u8 0, .int .u8 0, .int .u8 0] (aeZ 32) rfl)
  go_upto_region 4 with (refine wpList_store_blk rfl 23 (.tmp 12) (.tmp 29) rfl w3.heap.size ((mulL a p).map u8v) rfl (by show Value.agg cy = _; rw [HP2.out.2]) 23 (aeZ 32) (HA.out.blk 0 rfl) (cells32 _ (mulL_length a p)) (by rw [List.length_map, mulL_length]; rfl) (u8v_one _) ?_; intro v3 hb9 hg9)
  (try simp only [Act.put])
  replace HM := Lib.hid (show Mem wb [blkE w3.heap.size 23 ((mulL a p).map u8v)] v3 from HA.out.put 0 rfl _ hg9 hb9)
  clear HA hb9 hg9
  generalize w3.heap.size = P12 at HM ⊢
  have HB2 := Lib.hid (show Blk v3 P12 23 ((mulL a p).map u8v) ∧ Blk v3 P10 23 ((mulL a u).map u8v) ∧ Blk v3 P11 23 ((mulL a p).map u8v) ∧ Blk v3 w.heap.size 23 (a.map u8v) ∧ Blk v3 (w.heap.size + 1) 23 (u.map u8v) ∧ Blk v3 P9 23 (p.map u8v) ∧ Below w.heap.size w v3 from ⟨HM.out.blk 0 rfl, (HB.out.1).below HM.out.bel (HB.out.1).lt, (HB.out.2.1).below HM.out.bel (HB.out.2.1).lt, (HB.out.2.2.1).below HM.out.bel (HB.out.2.2.1).lt, (HB.out.2.2.2.1).below HM.out.bel (HB.out.2.2.2.1).lt, (HB.out.2.2.2.2.1).below HM.out.bel (HB.out.2.2.2.2.1).lt, (HB.out.2.2.2.2.2).trans (HM.out.bel.mono (HB.out.2.2.2.2.2).size)⟩)
  clear HB HM
  have HB := HB2
  clear HB2
  revert v3
  intro wb HB
  go_wp2_with (first | (refine wpList_load_blk rfl 23 (.tmp 4) rfl w.heap.size rfl 23 (a.map u8v) (HB.out.2.2.2.1) 32 5 Try.underlying23 (cells32 a HL.out.1) ?_; rw [HC.out.1]) | (refine wpList_load_blk rfl 23 (.tmp 9) rfl P9 rfl 23 (p.map u8v) (HB.out.2.2.2.2.2.1) 32 5 Try.underlying23 (cells32 p HP.out.1) ?_; rw [HP.out.2]))
  refine (HRS.out _).mono ?_
  rintro e w4 ⟨rfl, hb⟩
  have HM := Lib.hid (show Mem wb [] w4 from (Mem.nil wb).below hb)
  clear hb
  have HA := Lib.hid (show Mem wb [blkE w4.heap.size 23 (aeZ 32)] (w4.alloc (.cells #[.int .u8 0, .int .u8 0, .int .u8 0, .int .u8 0, .int .u8 0, .int .u8 0, .int .u8 0, .int .u8 0, .int .u8 0, .int .u8 0, .int .u8 0, .int .u8 0, .int .u8 0, .int .u8 0, .int .u8 0, .int .u8 0, .int .u8 0, .int .u8 0, .int .u8 0, .int .u8 0, .int .u8 0, .int .u8 0, .int .u8 0, .int .u8 0, .int .u8 0, .int .u8 0, .int .u8 0, .int .u8 0, .int .u8 0, .int .u8 0, .int .u8 0, .int .u8 0] 23)) from HM.out.alloc rfl 23 #[.int .u8 0, .int .u8 0, .int .u8 0, .int .u8 0, .int .u8 0, .int .u8 0, .int .u8 0, .int .u8 0, .int .u8 0, .int .u8 0, .int .u8 0, .int .u8 0, .int .u8 0, .int .u8 0, .int .u8 0, .int .u8 0, .int .u8 0, .int .u8 0, .int .u8 0, .int .u8 0, .int .u8 0, .int .u8 0, .int .u8 0, .int .u8 0, .int .u8 0, .int .u8 0, .int .u8 0, .int .u8 0, .int .u8 0, .int .u8 0, .int .u8 0, .int .u8 0] (aeZ 32) rfl)
  go_upto_region 5 with (refine wpList_store_blk rfl 23 (.tmp 14) (.tmp 35) rfl w4.heap.size ((mulL a p).map u8v) rfl (by show Value.agg cy = _; rw [HP2.out.2]) 23 (aeZ 32) (HA.out.blk 0 rfl) (cells32 _ (mulL_length a p)) (by rw [List.length_map, mulL_length]; rfl) (u8v_one _) ?_; intro v4 hb9 hg9)
  (try simp only [Act.put])
  replace HM := Lib.hid (show Mem wb [blkE w4.heap.size 23 ((mulL a p).map u8v)] v4 from HA.out.put 0 rfl _ hg9 hb9)
  clear HA hb9 hg9
  generalize w4.heap.size = P14 at HM ⊢
  have HB2 := Lib.hid (show Blk v4 P14 23 ((mulL a p).map u8v) ∧ Blk v4 P12 23 ((mulL a p).map u8v) ∧ Blk v4 P10 23 ((mulL a u).map u8v) ∧ Blk v4 P11 23 ((mulL a p).map u8v) ∧ Blk v4 w.heap.size 23 (a.map u8v) ∧ Blk v4 (w.heap.size + 1) 23 (u.map u8v) ∧ Blk v4 P9 23 (p.map u8v) ∧ Below w.heap.size w v4 from ⟨HM.out.blk 0 rfl, (HB.out.1).below HM.out.bel (HB.out.1).lt, (HB.out.2.1).below HM.out.bel (HB.out.2.1).lt, (HB.out.2.2.1).below HM.out.bel (HB.out.2.2.1).lt, (HB.out.2.2.2.1).below HM.out.bel (HB.out.2.2.2.1).lt, (HB.out.2.2.2.2.1).below HM.out.bel (HB.out.2.2.2.2.1).lt, (HB.out.2.2.2.2.2.1).below HM.out.bel (HB.out.2.2.2.2.2.1).lt, (HB.out.2.2.2.2.2.2).trans (HM.out.bel.mono (HB.out.2.2.2.2.2.2).size)⟩)
  clear HB HM
  have HB := HB2
  clear HB2
  revert v4
  intro wb HB
  have HM := Lib.hid (Mem.nil wb)
  have hee : ((er : Int) == (er : Int)) = true := by simp
  refine wp_region_held_drew (S := fun W' => Mem wb [] W') (by kernel_rfl) ((HM.out).drew) (fun hHeld => ?_)
  replace HM := Lib.hid HM.out.drew
  generalize wb.drew = wd1 at HM hHeld ⊢
  refine take_first (v := .agg ca) 0 rfl (by kernel_rfl) (by kernel_rfl) (by kernel_rfl) (fun _ _ _ h => h) (by rw [← HC.out.1]; exact yields_load_blk (by rfl) 23 (.tmp 4) rfl w.heap.size rfl 23 (a.map u8v) (fun w' hb => (HB.out.2.2.2.2.1).below hb.bel (HB.out.2.2.2.2.1).lt) 32 5 Try.underlying23 (cells32 a HL.out.1)) (by assumption) ?_
  (try simp only [Act.put, List.setIfInBounds_toArray, List.set_cons_zero, List.set_cons_succ])
  refine take_first (v := .agg cu) 1 rfl (by kernel_rfl) (by kernel_rfl) (by kernel_rfl) (fun _ _ _ h => h) (by rw [← HC.out.2.1]; exact yields_load_blk (by rfl) 23 (.tmp 5) rfl (w.heap.size + 1) rfl 23 (u.map u8v) (fun w' hb => (HB.out.2.2.2.2.2.1).below hb.bel (HB.out.2.2.2.2.2.1).lt) 32 5 Try.underlying23 (cells32 u HL.out.2)) (by assumption) ?_
  (try simp only [Act.put, List.setIfInBounds_toArray, List.set_cons_zero, List.set_cons_succ])
  refine take_first (v := .agg cx) 3 rfl (by kernel_rfl) (by kernel_rfl) (by kernel_rfl) (fun _ _ _ h => h) (by rw [← HC.out.2.2.1]; exact yields_load_blk (by rfl) 23 (.tmp 10) rfl P10 rfl 23 ((mulL a u).map u8v) (fun w' hb => (HB.out.2.2.1).below hb.bel (HB.out.2.2.1).lt) 32 5 Try.underlying23 (cells32 _ (mulL_length a u))) (by assumption) ?_
  (try simp only [Act.put, List.setIfInBounds_toArray, List.set_cons_zero, List.set_cons_succ])
  refine step_one 2 rfl (by kernel_rfl) (fun K hK => ?_)
  clear hHeld
  go_simp
  refine (HM1.out _).mono ?_
  rintro e wy2 ⟨rfl, hb⟩
  replace HM := Lib.hid (show Mem wb [] wy2 from HM.out.below hb)
  clear hb
  go_wp2_with fail
  refine hK.out _ _ (HM.out) (fun hHeld => ?_)
  clear hK K
  (try simp only [Act.put, List.setIfInBounds_toArray, List.set_cons_zero, List.set_cons_succ])
  refine take_first (v := ?_) 4 rfl (by kernel_rfl) (by kernel_rfl) (by kernel_rfl) (fun _ _ _ h => h) (Or.inl ⟨by rfl, ?_⟩) (by assumption) ?_
  rotate_left
  · (intro w hSw; (try dsimp only at hSw); have ex := HE1.out w; go_simp; try with_reducible rfl)
  (try simp only [Act.put, List.setIfInBounds_toArray, List.set_cons_zero, List.set_cons_succ])
  refine take_first (v := ?_) 5 rfl (by kernel_rfl) (by kernel_rfl) (by kernel_rfl) (fun _ _ _ h => h) (Or.inl ⟨by rfl, ?_⟩) (by assumption) ?_
  rotate_left
  · (intro w hSw; (try dsimp only at hSw); go_simp; try with_reducible rfl)
  (try simp only [Act.put, List.setIfInBounds_toArray, List.set_cons_zero, List.set_cons_succ])
  refine take_first (v := .agg ca) 6 rfl (by kernel_rfl) (by kernel_rfl) (by kernel_rfl) (fun _ _ _ h => h) (by rw [← HC.out.1]; exact yields_load_blk (by rfl) 23 (.tmp 4) rfl w.heap.size rfl 23 (a.map u8v) (fun w' hb => (HB.out.2.2.2.2.1).below hb.bel (HB.out.2.2.2.2.1).lt) 32 5 Try.underlying23 (cells32 a HL.out.1)) (by assumption) ?_
  (try simp only [Act.put, List.setIfInBounds_toArray, List.set_cons_zero, List.set_cons_succ])
  refine take_first (v := .agg cp) 7 rfl (by kernel_rfl) (by kernel_rfl) (by kernel_rfl) (fun _ _ _ h => h) (by rw [← HP.out.2]; exact yields_load_blk (by rfl) 23 (.tmp 9) rfl P9 rfl 23 (p.map u8v) (fun w' hb => (HB.out.2.2.2.2.2.2.1).below hb.bel (HB.out.2.2.2.2.2.2.1).lt) 32 5 Try.underlying23 (cells32 p HP.out.1)) (by assumption) ?_
  (try simp only [Act.put, List.setIfInBounds_toArray, List.set_cons_zero, List.set_cons_succ])
  refine take_first (v := .agg cy) 9 rfl (by kernel_rfl) (by kernel_rfl) (by kernel_rfl) (fun _ _ _ h => h) (by rw [← HP2.out.2]; exact yields_load_blk (by rfl) 23 (.tmp 11) rfl P11 rfl 23 ((mulL a p).map u8v) (fun w' hb => (HB.out.2.2.2.1).below hb.bel (HB.out.2.2.2.1).lt) 32 5 Try.underlying23 (cells32 _ (mulL_length a p))) (by assumption) ?_
  (try simp only [Act.put, List.setIfInBounds_toArray, List.set_cons_zero, List.set_cons_succ])
  refine step_one 8 rfl (by kernel_rfl) (fun K hK => ?_)
  clear hHeld
  go_simp
  refine (HM2.out _).mono ?_
  rintro e wy3 ⟨rfl, hb⟩
  replace HM := Lib.hid (show Mem wb [] wy3 from HM.out.below hb)
  clear hb
  go_wp2_with fail
  refine hK.out _ _ (HM.out) (fun hHeld => ?_)
  clear hK K
  (try simp only [Act.put, List.setIfInBounds_toArray, List.set_cons_zero, List.set_cons_succ])
  refine take_first (v := ?_) 10 rfl (by kernel_rfl) (by kernel_rfl) (by kernel_rfl) (fun _ _ _ h => h) (Or.inl ⟨by rfl, ?_⟩) (by assumption) ?_
  rotate_left
  · (intro w hSw; (try dsimp only at hSw); have ex := HE2.out w; go_simp; try with_reducible rfl)
  (try simp only [Act.put, List.setIfInBounds_toArray, List.set_cons_zero, List.set_cons_succ])
  refine take_first (v := ?_) 11 rfl (by kernel_rfl) (by kernel_rfl) (by kernel_rfl) (fun _ _ _ h => h) (Or.inl ⟨by rfl, ?_⟩) (by assumption) ?_
  rotate_left
  · (intro w hSw; (try dsimp only at hSw); go_simp; try with_reducible rfl)
  (try simp only [Act.put, List.setIfInBounds_toArray, List.set_cons_zero, List.set_cons_succ])
  refine take_first (v := ?_) 12 rfl (by kernel_rfl) (by kernel_rfl) (by kernel_rfl) (fun _ _ _ h => h) (Or.inl ⟨by rfl, ?_⟩) (by assumption) ?_
  rotate_left
  · (intro w hSw; (try dsimp only at hSw); go_simp; try with_reducible rfl)
  (try simp only [Act.put, List.setIfInBounds_toArray, List.set_cons_zero, List.set_cons_succ])
  refine take_first (v := .agg cy) 13 rfl (by kernel_rfl) (by kernel_rfl) (by kernel_rfl) (fun _ _ _ h => h) (by rw [← HP2.out.2]; exact yields_load_blk (by rfl) 23 (.tmp 12) rfl P12 rfl 23 ((mulL a p).map u8v) (fun w' hb => (HB.out.2.1).below hb.bel (HB.out.2.1).lt) 32 5 Try.underlying23 (cells32 _ (mulL_length a p))) (by assumption) ?_
  (try simp only [Act.put, List.setIfInBounds_toArray, List.set_cons_zero, List.set_cons_succ])
  refine take_first (v := .agg cy) 14 rfl (by kernel_rfl) (by kernel_rfl) (by kernel_rfl) (fun _ _ _ h => h) (by rw [← HP2.out.2]; exact yields_load_blk (by rfl) 23 (.tmp 14) rfl P14 rfl 23 ((mulL a p).map u8v) (fun w' hb => (HB.out.1).below hb.bel (HB.out.1).lt) 32 5 Try.underlying23 (cells32 _ (mulL_length a p))) (by assumption) ?_
  (try simp only [Act.put, List.setIfInBounds_toArray, List.set_cons_zero, List.set_cons_succ])
  refine take_first (v := ?_) 15 rfl (by kernel_rfl) (by kernel_rfl) (by kernel_rfl) (fun _ _ _ h => h) (Or.inl ⟨by rfl, ?_⟩) (by assumption) ?_
  rotate_left
  · (intro w hSw; (try dsimp only at hSw); have ex := HE2.out w; go_simp; try with_reducible rfl)
  (try simp only [Act.put, List.setIfInBounds_toArray, List.set_cons_zero, List.set_cons_succ])
  refine take_first (v := ?_) 16 rfl (by kernel_rfl) (by kernel_rfl) (by kernel_rfl) (fun _ _ _ h => h) (Or.inl ⟨by rfl, ?_⟩) (by assumption) ?_
  rotate_left
  · (intro w hSw; (try dsimp only at hSw); go_simp; try with_reducible rfl)
  (try simp only [Act.put, List.setIfInBounds_toArray, List.set_cons_zero, List.set_cons_succ])
  refine take_first (v := ?_) 17 rfl (by kernel_rfl) (by kernel_rfl) (by kernel_rfl) (fun _ _ _ h => h) (Or.inl ⟨by rfl, ?_⟩) (by assumption) ?_
  rotate_left
  · (intro w hSw; (try dsimp only at hSw); go_simp; try with_reducible rfl)
  (try simp only [Act.put, List.setIfInBounds_toArray, List.set_cons_zero, List.set_cons_succ])
  refine take_first (v := ?_) 18 rfl (by kernel_rfl) (by kernel_rfl) (by kernel_rfl) (fun _ _ _ h => h) (Or.inl ⟨by rfl, ?_⟩) (by assumption) ?_
  rotate_left
  · (intro w hSw; (try dsimp only at hSw); go_simp; try with_reducible rfl)
  (try simp only [Act.put, List.setIfInBounds_toArray, List.set_cons_zero, List.set_cons_succ])
  refine take_first (v := ?_) 19 rfl (by kernel_rfl) (by kernel_rfl) (by kernel_rfl) (fun _ _ _ h => h) (Or.inl ⟨by rfl, ?_⟩) (by assumption) ?_
  rotate_left
  · (intro w hSw; (try dsimp only at hSw); go_simp; try with_reducible rfl)
  (try simp only [Act.put, List.setIfInBounds_toArray, List.set_cons_zero, List.set_cons_succ])
  refine take_first (v := ?_) 20 rfl (by kernel_rfl) (by kernel_rfl) (by kernel_rfl) (fun _ _ _ h => h) (Or.inl ⟨by rfl, ?_⟩) (by assumption) ?_
  rotate_left
  · (intro w hSw; (try dsimp only at hSw); go_simp; try with_reducible rfl)
  (try simp only [Act.put, List.setIfInBounds_toArray, List.set_cons_zero, List.set_cons_succ])
  refine take_first (v := ?_) 21 rfl (by kernel_rfl) (by kernel_rfl) (by kernel_rfl) (fun _ _ _ h => h) (Or.inl ⟨by rfl, ?_⟩) (by assumption) ?_
  rotate_left
  · (intro w hSw; (try dsimp only at hSw); go_simp; try with_reducible rfl)
  (try simp only [Act.put, List.setIfInBounds_toArray, List.set_cons_zero, List.set_cons_succ])
  refine take_first (v := ?_) 22 rfl (by kernel_rfl) (by kernel_rfl) (by kernel_rfl) (fun _ _ _ h => h) (Or.inl ⟨by rfl, ?_⟩) (by assumption) ?_
  rotate_left
  · (intro w hSw; (try dsimp only at hSw); go_simp; try with_reducible rfl)
  (try simp only [Act.put, List.setIfInBounds_toArray, List.set_cons_zero, List.set_cons_succ])
  refine step_one 23 rfl (by kernel_rfl) (fun K hK => ?_)
  clear hHeld
  go_simp
  refine (HBG.out _).mono ?_
  rintro e wy4 ⟨rfl, hb⟩
  replace HM := Lib.hid (show Mem wb [] wy4 from HM.out.below hb)
  clear hb
  go_wp2_with fail
  refine hK.out _ _ (HM.out) (fun hHeld => ?_)
  clear hK K
  (try simp only [Act.put, List.setIfInBounds_toArray, List.set_cons_zero, List.set_cons_succ])
  refine take_first (v := ?_) 24 rfl (by kernel_rfl) (by kernel_rfl) (by kernel_rfl) (fun _ _ _ h => h) (Or.inl ⟨by rfl, ?_⟩) (by assumption) ?_
  rotate_left
  · (intro w hSw; (try dsimp only at hSw); go_simp; try with_reducible rfl)
  (try simp only [Act.put, List.setIfInBounds_toArray, List.set_cons_zero, List.set_cons_succ])
  refine take_first (v := ?_) 25 rfl (by kernel_rfl) (by kernel_rfl) (by kernel_rfl) (fun _ _ _ h => h) (Or.inl ⟨by rfl, ?_⟩) (by assumption) ?_
  rotate_left
  · (intro w hSw; (try dsimp only at hSw); go_simp; try with_reducible rfl)
  (try simp only [Act.put, List.setIfInBounds_toArray, List.set_cons_zero, List.set_cons_succ])
  refine wpAnyH_done (by kernel_rfl) ?_ _
  have HF := Lib.hid ((HB.out.2.2.2.2.2.2.2).trans (HM.out.bel.mono (HB.out.2.2.2.2.2.2.2).size))
  clear HM
  go_wp2_with fail
  go_ret
  exact ⟨rfl, HF.out⟩
end Go.Proofs.Ytgdgecehmnokdaa
