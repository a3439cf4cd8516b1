/-
  CurvePublics returns true for every input, and changes nothing that was there: the walk, over what is asked of curve.Clamp, Public and Mul.
-/
import Derived.Test.YtgdgecehmnokdaaCells32
import Derived.Test.YtgdgecehmnokdaaCuC
namespace Go.Proofs.Ytgdgecehmnokdaa
open Go.RowKit

set_option maxRecDepth 100000 in
set_option maxHeartbeats 4000000 in
theorem cu_publics_walk (HCC : CuClampC) (HPC : CuPublicC) (HMU : CuMulC) (w : World) (k : List UInt8) (hk : k.length = 32) :
    Calls Try.prog 4 #[.agg (k.map u8v).toArray] w fun e w' => e = .returned (.bool true) ∧ Below w.heap.size w w' := by
  obtain ⟨i0, hi, hz0, hz1, hz2⟩ := info_parts Try.info5
  have C1 := fun W : World => HCC k hk W
  have C2 := fun W : World => refClamp_any k hk W
  have C3 := fun W : World => HPC k hk W
  have C4 := fun W : World => refPublic_any k hk W
  have e1 := fun w' : World => run_key_eq (P := Try.prog) 23 5 32 Try.underlying23 Try.underlying5 i0 hi hz1 (clampL k) (clampL k) (by rw [clampL_length]; exact hk) (by rw [clampL_length]; exact hk) w'
  have e2 := fun w' : World => run_key_eq (P := Try.prog) 23 5 32 Try.underlying23 Try.underlying5 i0 hi hz1 (mulL k nineL) (mulL k nineL) (mulL_length _ _) (mulL_length _ _) w'
  rw [show (clampL k == clampL k) = true by simp] at e1
  rw [show (mulL k nineL == mulL k nineL) = true by simp] at e2
  obtain ⟨ck, hck⟩ : ∃ c, (k.map u8v).toArray = c := ⟨_, rfl⟩
  obtain ⟨cc, hcc⟩ : ∃ c, ((clampL k).map u8v).toArray = c := ⟨_, rfl⟩
  obtain ⟨cm, hcm⟩ : ∃ c, ((mulL k nineL).map u8v).toArray = c := ⟨_, rfl⟩
  rw [hck, hcc] at C1 C2
  rw [hck, hcm] at C3 C4
  rw [hcc] at e1
  rw [hcm] at e2
  rw [hck]
  have HM := Lib.hid (show Mem w [blkE w.heap.size 23 (k.map u8v)] (w.alloc (.cells ck 23)) from (Mem.nil w).alloc rfl 23 ck (k.map u8v) hck.symm)
  have HC := Lib.hid (And.intro hck (And.intro hcc hcm))
  have HL := Lib.hid hk
  have HCL := Lib.hid C1
  have HRC := Lib.hid C2
  have HPU := Lib.hid C3
  have HRP := Lib.hid C4
  have HE1 := Lib.hid e1
  have HE2 := Lib.hid e2
  have HBG := Lib.hid (fun W : World => cu_begun_any HMU W)
  clear C1 C2 C3 C4 e1 e2 hck hcc hcm hk HCC HPC HMU
  go_enter Try.func4, Try.ntmps4
  go_upto_region 1 with fail
  generalize w.alloc (.cells ck 23) = w1 at HM ⊢
  refine wp_region_held_drew (S := fun W' => Mem w [blkE w.heap.size 23 (k.map u8v)] W') (by kernel_rfl) ((HM.out).drew) (fun hHeld => ?_)
  replace HM := Lib.hid HM.out.drew
  generalize w1.drew = wd1 at HM hHeld ⊢
  refine take_first (v := .agg ck) 0 rfl (by kernel_rfl) (by kernel_rfl) (by kernel_rfl) (fun _ _ _ h => h) (by rw [← HC.out.1]; exact yields_load_blk (by rfl) 23 (.tmp 1) rfl w.heap.size rfl 23 (k.map u8v) (fun w' hb => hb.blk 0 rfl) 32 5 Try.underlying23 (cells32 k HL.out)) (by assumption) ?_
  (try simp only [Act.put, List.setIfInBounds_toArray, List.set_cons_zero, List.set_cons_succ])
  refine take_first (v := .agg ck) 2 rfl (by kernel_rfl) (by kernel_rfl) (by kernel_rfl) (fun _ _ _ h => h) (by rw [← HC.out.1]; exact yields_load_blk (by rfl) 23 (.tmp 1) rfl w.heap.size rfl 23 (k.map u8v) (fun w' hb => hb.blk 0 rfl) 32 5 Try.underlying23 (cells32 k HL.out)) (by assumption) ?_
  (try simp only [Act.put, List.setIfInBounds_toArray, List.set_cons_zero, List.set_cons_succ])
  refine step_one 1 rfl (by kernel_rfl) (fun K hK => ?_)
  clear hHeld
  go_simp
  refine (HCL.out _).mono ?_
  rintro e wy2 ⟨rfl, hb⟩
  replace HM := Lib.hid (show Mem w [blkE w.heap.size 23 (k.map u8v)] wy2 from HM.out.below hb)
  clear hb
  go_wp2_with fail
  refine hK.out _ _ (HM.out) (fun hHeld => ?_)
  clear hK K
  (try simp only [Act.put, List.setIfInBounds_toArray, List.set_cons_zero, List.set_cons_succ])
  refine step_one 3 rfl (by kernel_rfl) (fun K hK => ?_)
  clear hHeld
  go_simp
  refine (HRC.out _).mono ?_
  rintro e wy3 ⟨rfl, hb⟩
  replace HM := Lib.hid (show Mem w [blkE w.heap.size 23 (k.map u8v)] wy3 from HM.out.below hb)
  clear hb
  go_wp2_with fail
  refine hK.out _ _ (HM.out) (fun hHeld => ?_)
  clear hK K
  (try simp only [Act.put, List.setIfInBounds_toArray, List.set_cons_zero, List.set_cons_succ])
  refine take_first (v := ?_) 4 rfl (by kernel_rfl) (by kernel_rfl) (by kernel_rfl) (fun _ _ _ h => h) (Or.inl ⟨by rfl, ?_⟩) (by assumption) ?_
  rotate_left
  · (intro w hSw; (try dsimp only at hSw); have ex := HE1.out w; go_simp; try with_reducible rfl)
  (try simp only [Act.put, List.setIfInBounds_toArray, List.set_cons_zero, List.set_cons_succ])
  refine take_first (v := ?_) 5 rfl (by kernel_rfl) (by kernel_rfl) (by kernel_rfl) (fun _ _ _ h => h) (Or.inl ⟨by rfl, ?_⟩) (by assumption) ?_
  rotate_left
  · (intro w hSw; (try dsimp only at hSw); go_simp; try with_reducible rfl)
  (try simp only [Act.put, List.setIfInBounds_toArray, List.set_cons_zero, List.set_cons_succ])
  refine take_first (v := .agg ck) 6 rfl (by kernel_rfl) (by kernel_rfl) (by kernel_rfl) (fun _ _ _ h => h) (by rw [← HC.out.1]; exact yields_load_blk (by rfl) 23 (.tmp 1) rfl w.heap.size rfl 23 (k.map u8v) (fun w' hb => hb.blk 0 rfl) 32 5 Try.underlying23 (cells32 k HL.out)) (by assumption) ?_
  (try simp only [Act.put, List.setIfInBounds_toArray, List.set_cons_zero, List.set_cons_succ])
  refine take_first (v := .agg ck) 8 rfl (by kernel_rfl) (by kernel_rfl) (by kernel_rfl) (fun _ _ _ h => h) (by rw [← HC.out.1]; exact yields_load_blk (by rfl) 23 (.tmp 1) rfl w.heap.size rfl 23 (k.map u8v) (fun w' hb => hb.blk 0 rfl) 32 5 Try.underlying23 (cells32 k HL.out)) (by assumption) ?_
  (try simp only [Act.put, List.setIfInBounds_toArray, List.set_cons_zero, List.set_cons_succ])
  refine step_one 7 rfl (by kernel_rfl) (fun K hK => ?_)
  clear hHeld
  go_simp
  refine (HPU.out _).mono ?_
  rintro e wy4 ⟨rfl, hb⟩
  replace HM := Lib.hid (show Mem w [blkE w.heap.size 23 (k.map u8v)] wy4 from HM.out.below hb)
  clear hb
  go_wp2_with fail
  refine hK.out _ _ (HM.out) (fun hHeld => ?_)
  clear hK K
  (try simp only [Act.put, List.setIfInBounds_toArray, List.set_cons_zero, List.set_cons_succ])
  refine step_one 9 rfl (by kernel_rfl) (fun K hK => ?_)
  clear hHeld
  go_simp
  refine (HRP.out _).mono ?_
  rintro e wy5 ⟨rfl, hb⟩
  replace HM := Lib.hid (show Mem w [blkE w.heap.size 23 (k.map u8v)] wy5 from HM.out.below hb)
  clear hb
  go_wp2_with fail
  refine hK.out _ _ (HM.out) (fun hHeld => ?_)
  clear hK K
  (try simp only [Act.put, List.setIfInBounds_toArray, List.set_cons_zero, List.set_cons_succ])
  refine take_first (v := ?_) 10 rfl (by kernel_rfl) (by kernel_rfl) (by kernel_rfl) (fun _ _ _ h => h) (Or.inl ⟨by rfl, ?_⟩) (by assumption) ?_
  rotate_left
  · (intro w hSw; (try dsimp only at hSw); have ex := HE2.out w; go_simp; try with_reducible rfl)
  (try simp only [Act.put, List.setIfInBounds_toArray, List.set_cons_zero, List.set_cons_succ])
  refine take_first (v := ?_) 11 rfl (by kernel_rfl) (by kernel_rfl) (by kernel_rfl) (fun _ _ _ h => h) (Or.inl ⟨by rfl, ?_⟩) (by assumption) ?_
  rotate_left
  · (intro w hSw; (try dsimp only at hSw); go_simp; try with_reducible rfl)
  (try simp only [Act.put, List.setIfInBounds_toArray, List.set_cons_zero, List.set_cons_succ])
  refine take_first (v := ?_) 12 rfl (by kernel_rfl) (by kernel_rfl) (by kernel_rfl) (fun _ _ _ h => h) (Or.inl ⟨by rfl, ?_⟩) (by assumption) ?_
  rotate_left
  · (intro w hSw; (try dsimp only at hSw); go_simp; try with_reducible rfl)
  (try simp only [Act.put, List.setIfInBounds_toArray, List.set_cons_zero, List.set_cons_succ])
  refine step_one 13 rfl (by kernel_rfl) (fun K hK => ?_)
  clear hHeld
  go_simp
  refine (HBG.out _).mono ?_
  rintro e wy6 ⟨rfl, hb⟩
  replace HM := Lib.hid (show Mem w [blkE w.heap.size 23 (k.map u8v)] wy6 from HM.out.below hb)
  clear hb
  go_wp2_with fail
  refine hK.out _ _ (HM.out) (fun hHeld => ?_)
  clear hK K
  (try simp only [Act.put, List.setIfInBounds_toArray, List.set_cons_zero, List.set_cons_succ])
  refine take_first (v := ?_) 14 rfl (by kernel_rfl) (by kernel_rfl) (by kernel_rfl) (fun _ _ _ h => h) (Or.inl ⟨by rfl, ?_⟩) (by assumption) ?_
  rotate_left
  · (intro w hSw; (try dsimp only at hSw); go_simp; try with_reducible rfl)
  (try simp only [Act.put, List.setIfInBounds_toArray, List.set_cons_zero, List.set_cons_succ])
  refine take_first (v := ?_) 15 rfl (by kernel_rfl) (by kernel_rfl) (by kernel_rfl) (fun _ _ _ h => h) (Or.inl ⟨by rfl, ?_⟩) (by assumption) ?_
  rotate_left
  · (intro w hSw; (try dsimp only at hSw); go_simp; try with_reducible rfl)
  (try simp only [Act.put, List.setIfInBounds_toArray, List.set_cons_zero, List.set_cons_succ])
  refine wpAnyH_done (by kernel_rfl) ?_ _
  have HF := Lib.hid HM.out.bel
  clear HM
  go_wp2_with fail
  go_ret
  exact ⟨rfl, HF.out⟩
end Go.Proofs.Ytgdgecehmnokdaa
