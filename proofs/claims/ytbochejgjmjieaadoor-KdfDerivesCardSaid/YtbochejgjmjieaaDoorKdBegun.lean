/-
  The sanity check of layer 7's laws: the first key does not depend on how many are asked for.
-/
import Derived.Test.YtbochejgjmjieaaDoorCells32
import Derived.Test.YtbochejgjmjieaaDoorKdSame
import Derived.Test.YtbochejgjmjieaaDoorBlBegun
import Derived.Lib.SlBytesConst
import Derived.Deep.DeepCutAuto
import Derived.RegionTactic
namespace Go.Proofs.YtbochejgjmjieaaDoor
open Go.RowKit

set_option maxRecDepth 100000 in
set_option maxHeartbeats 8000000 in
theorem kd_begun_any (HX : KdExpandC) (w : World) (hlv : LvKdf w) : Calls Tryd.prog 13 #[] w fun e w' => e = .returned (.bool true) ∧ Below w.heap.size w w' := by
  have HM := Lib.hid (Mem.nil w)
  have HXC := Lib.hid HX
  have HLV := Lib.hid hlv
  clear hlv
  clear HX
  obtain ⟨t1, ht1⟩ : ∃ t, tB (hmacB [1] [2]) 1 = t := ⟨_, rfl⟩
  obtain ⟨t2, ht2⟩ : ∃ t, tB (hmacB [1] [2]) 2 = t := ⟨_, rfl⟩
  obtain ⟨t3, ht3⟩ : ∃ t, tB (hmacB [1] [2]) 3 = t := ⟨_, rfl⟩
  have X1 := Lib.hid (show expandB [1] [2] 1 = [t1] by rw [expandB, if_neg (by omega), ← ht1]; rfl)
  have X3 := Lib.hid (show expandB [1] [2] 3 = [t1, t2, t3] by rw [expandB, if_neg (by omega), ← ht1, ← ht2, ← ht3]; rfl)
  have L1 : t1.length = 32 := by rw [← ht1]; exact tB_length _ _
  have L2 : t2.length = 32 := by rw [← ht2]; exact tB_length _ _
  have L3 : t3.length = 32 := by rw [← ht3]; exact tB_length _ _
  have HL := Lib.hid (And.intro L1 (And.intro L2 L3))
  have HNZ := Lib.hid (show (t1 == List.replicate 32 0) = false by rw [← ht1]; exact kd_first)
  clear ht1 ht2 ht3 L1 L2 L3
  go_enter Tryd.func13, Tryd.ntmps13
  go_wp2_with fail
  have HB0 := Lib.hid (show Below w.heap.size w ((w.alloc (.cells #[.int .u8 1] 5)).alloc (.cells #[.int .u8 2] 5)) from ((Below.refl _ _).alloc (Nat.le_refl _) _).alloc (by simp) _)
  replace HM := Lib.hid ((HM.out.alloc rfl 5 #[.int .u8 1] [.int .u8 1] rfl).alloc rfl 5 #[.int .u8 2] [.int .u8 2] rfl)
  rw [show (w.alloc (.cells #[.int .u8 1] 5)).heap.size = w.heap.size + 1 by simp] at HM
  generalize ((w.alloc (.cells #[.int .u8 1] 5)).alloc (.cells #[.int .u8 2] 5)) = w1 at HM HB0 ⊢
  refine (HXC.out (some ⟨w.heap.size, 0, none⟩) 1 1 [1] (Nat.le_refl _) (by unfold maxLen; omega) (by omega) (some ⟨w.heap.size + 1, 0, none⟩) 1 1 [2] (Nat.le_refl _) (by unfold maxLen; omega) (by omega) 1 (by omega) (by omega) _ (HLV.out.below HM.out.bel) (blk_all (l := [1]) (HM.out.blk 1 rfl) rfl) (blk_all (l := [2]) (HM.out.blk 0 rfl) rfl)).mono ?_
  rintro e w2 ⟨A1, c1, rfl, ho, hb⟩
  rw [X1.out] at ho ⊢
  have HK1 := Lib.hid (RdKeys.of_own (ks := [t1]) rfl (by simpa using HL.out.1) ho)
  replace HM := Lib.hid ((HM.out.below hb).erase 0 |>.erase 0)
  simp only [List.eraseIdx] at HM
  clear ho hb HB0
  rw [show ([t1] : List (List UInt8)).length = 1 from rfl]
  go_wp2_with fail
  have HB0 := Lib.hid (show Below w2.heap.size w2 ((w2.alloc (.cells #[.int .u8 1] 5)).alloc (.cells #[.int .u8 2] 5)) from ((Below.refl _ _).alloc (Nat.le_refl _) _).alloc (by simp) _)
  replace HM := Lib.hid ((HM.out.alloc rfl 5 #[.int .u8 1] [.int .u8 1] rfl).alloc rfl 5 #[.int .u8 2] [.int .u8 2] rfl)
  rw [show (w2.alloc (.cells #[.int .u8 1] 5)).heap.size = w2.heap.size + 1 by simp] at HM
  generalize ((w2.alloc (.cells #[.int .u8 1] 5)).alloc (.cells #[.int .u8 2] 5)) = w3 at HM HB0 ⊢
  refine (HXC.out (some ⟨w2.heap.size, 0, none⟩) 1 1 [1] (Nat.le_refl _) (by unfold maxLen; omega) (by omega) (some ⟨w2.heap.size + 1, 0, none⟩) 1 1 [2] (Nat.le_refl _) (by unfold maxLen; omega) (by omega) 3 (by omega) (by omega) _ (HLV.out.below HM.out.bel) (blk_all (l := [1]) (HM.out.blk 1 rfl) rfl) (blk_all (l := [2]) (HM.out.blk 0 rfl) rfl)).mono ?_
  rintro e w4 ⟨A3, c3, rfl, ho, hb⟩
  rw [X3.out] at ho ⊢
  have HK3 := Lib.hid (RdKeys.of_own (ks := [t1, t2, t3]) rfl (by simpa using HL.out) ho)
  have HS := Lib.hid (show w2.heap.size ≤ w4.heap.size from Nat.le_trans HB0.out.size hb.size)
  replace HK1 := Lib.hid ((HK1.out.below HB0.out).below (hb.mono HB0.out.size))
  replace HM := Lib.hid ((HM.out.below hb).erase 0 |>.erase 0)
  simp only [List.eraseIdx] at HM
  clear ho hb HB0
  rw [show ([t1, t2, t3] : List (List UInt8)).length = 3 from rfl]
  obtain ⟨b1, o1, rfl, hb1, hc1⟩ := HK1.out.2.2 (by simp)
  obtain ⟨b3, o3, rfl, hb3, hc3⟩ := HK3.out.2.2 (by simp)
  have HLA := Lib.hid (show ∀ W, Below w4.heap.size w4 W → ∀ q v, (t1.map u8v)[q]? = some v → W.cell? ⟨b1, o1 + q, none⟩ = some v from fun W hW q v hv =>
    (World.cell?_of_block (hW.block b1 (Nat.lt_of_lt_of_le hb1 HS.out))).trans (hc1 _ v (by simpa [keysV] using hv)))
  have HLB := Lib.hid (show ∀ W, Below w4.heap.size w4 W → ∀ q v, (t1.map u8v)[q]? = some v → W.cell? ⟨b3, o3 + q, none⟩ = some v from fun W hW q v hv =>
    (World.cell?_of_block (hW.block b3 hb3)).trans (hc3 _ v (by simpa using keysV_row [t1, t2, t3] (by simpa using HL.out) 0 (by simp) q v hv)))
  obtain ⟨i0, hi, hz0, hz1, hz2⟩ := info_parts Tryd.info5
  have e2 := fun w' : World => run_key_eq (P := Tryd.prog) 30 5 32 Tryd.underlying30 Tryd.underlying5 i0 hi hz1 t1 (List.replicate 32 0) HL.out.1 (by simp) w'
  rw [HNZ.out, show ((List.replicate 32 0 : List UInt8).map u8v).toArray = #[.int .u8 0, .int .u8 0, .int .u8 0, .int .u8 0, .int .u8 0, .int .u8 0, .int .u8 0, .int .u8 0, .int .u8 0, .int .u8 0, .int .u8 0, .int .u8 0, .int .u8 0, .int .u8 0, .int .u8 0, .int .u8 0, .int .u8 0, .int .u8 0, .int .u8 0, .int .u8 0, .int .u8 0, .int .u8 0, .int .u8 0, .int .u8 0, .int .u8 0, .int .u8 0, .int .u8 0, .int .u8 0, .int .u8 0, .int .u8 0, .int .u8 0, .int .u8 0] from rfl] at e2
  have e1 := fun w' : World => run_key_same t1 HL.out.1 w'
  obtain ⟨ck, hck⟩ : ∃ c, (t1.map u8v).toArray = c := ⟨_, rfl⟩
  rw [hck] at e1 e2
  have HCK := Lib.hid hck
  clear hck hc1 hc3 hi hz0 hz1 hz2
  have HF := Lib.hid HM.out.bel
  go_upto_region 2 with fail
  refine wp_region_held_drew (S := fun W' => Below w4.heap.size w4 W') (by kernel_rfl) ((Below.refl _ _).drew) (fun hHeld => ?_)
  refine take_first (v := ?_) 0 rfl (by kernel_rfl) (by kernel_rfl) (by kernel_rfl) (fun _ _ _ h => h) (Or.inl ⟨by rfl, ?_⟩) (by assumption) ?_
  rotate_left
  · (intro w hSw; (try dsimp only at hSw); go_simp; try with_reducible rfl)
  (try simp only [Act.put, List.setIfInBounds_toArray, List.set_cons_zero, List.set_cons_succ])
  refine take_first (v := ?_) 1 rfl (by kernel_rfl) (by kernel_rfl) (by kernel_rfl) (fun _ _ _ h => h) (Or.inl ⟨by rfl, ?_⟩) (by assumption) ?_
  rotate_left
  · (intro w hSw; (try dsimp only at hSw); go_simp; try with_reducible rfl)
  (try simp only [Act.put, List.setIfInBounds_toArray, List.set_cons_zero, List.set_cons_succ])
  refine take_first (v := ?_) 2 rfl (by kernel_rfl) (by kernel_rfl) (by kernel_rfl) (fun _ _ _ h => h) (Or.inl ⟨by rfl, ?_⟩) (by assumption) ?_
  rotate_left
  · (intro w hSw; (try dsimp only at hSw); go_simp; try with_reducible rfl)
  (try simp only [Act.put, List.setIfInBounds_toArray, List.set_cons_zero, List.set_cons_succ])
  refine take_first (v := ?_) 3 rfl (by kernel_rfl) (by kernel_rfl) (by kernel_rfl) (fun _ _ _ h => h) (Or.inl ⟨by rfl, ?_⟩) (by assumption) ?_
  rotate_left
  · (intro w hSw; (try dsimp only at hSw); go_simp; try with_reducible rfl)
  (try simp only [Act.put, List.setIfInBounds_toArray, List.set_cons_zero, List.set_cons_succ])
  refine take_first (v := ?_) 4 rfl (by kernel_rfl) (by kernel_rfl) (by kernel_rfl) (fun _ _ _ h => h) (Or.inl ⟨by rfl, ?_⟩) (by assumption) ?_
  rotate_left
  · (intro w hSw; (try dsimp only at hSw); go_simp; try with_reducible rfl)
  (try simp only [Act.put, List.setIfInBounds_toArray, List.set_cons_zero, List.set_cons_succ])
  refine take_first (v := ?_) 5 rfl (by kernel_rfl) (by kernel_rfl) (by kernel_rfl) (fun _ _ _ h => h) (Or.inl ⟨by rfl, ?_⟩) (by assumption) ?_
  rotate_left
  · (intro w hSw; (try dsimp only at hSw); go_simp; try with_reducible rfl)
  (try simp only [Act.put, List.setIfInBounds_toArray, List.set_cons_zero, List.set_cons_succ])
  refine take_first (v := ?_) 6 rfl (by kernel_rfl) (by kernel_rfl) (by kernel_rfl) (fun _ _ _ h => h) (Or.inl ⟨by rfl, ?_⟩) (by assumption) ?_
  rotate_left
  · (intro w hSw; (try dsimp only at hSw); go_simp; try with_reducible rfl)
  (try simp only [Act.put, List.setIfInBounds_toArray, List.set_cons_zero, List.set_cons_succ])
  refine take_first (v := ?_) 7 rfl (by kernel_rfl) (by kernel_rfl) (by kernel_rfl) (fun _ _ _ h => h) (Or.inl ⟨by rfl, ?_⟩) (by assumption) ?_
  rotate_left
  · (intro w hSw; (try dsimp only at hSw); go_simp; try with_reducible rfl)
  (try simp only [Act.put, List.setIfInBounds_toArray, List.set_cons_zero, List.set_cons_succ])
  refine take_first (v := ?_) 8 rfl (by kernel_rfl) (by kernel_rfl) (by kernel_rfl) (fun _ _ _ h => h) (Or.inl ⟨by rfl, ?_⟩) (by assumption) ?_
  rotate_left
  · (intro w hSw; (try dsimp only at hSw); go_simp; try with_reducible rfl)
  (try simp only [Act.put, List.setIfInBounds_toArray, List.set_cons_zero, List.set_cons_succ])
  refine take_first (v := ?_) 9 rfl (by kernel_rfl) (by kernel_rfl) (by kernel_rfl) (fun _ _ _ h => h) (Or.inl ⟨by rfl, ?_⟩) (by assumption) ?_
  rotate_left
  · (intro w hSw; (try dsimp only at hSw); go_simp; try with_reducible rfl)
  (try simp only [Act.put, List.setIfInBounds_toArray, List.set_cons_zero, List.set_cons_succ])
  refine take_first (v := ?_) 10 rfl (by kernel_rfl) (by kernel_rfl) (by kernel_rfl) (fun _ _ _ h => h) (Or.inl ⟨by rfl, ?_⟩) (by assumption) ?_
  rotate_left
  · (intro w hSw; (try dsimp only at hSw); go_simp; try with_reducible rfl)
  (try simp only [Act.put, List.setIfInBounds_toArray, List.set_cons_zero, List.set_cons_succ])
  refine take_first (v := .agg ck) 11 rfl (by kernel_rfl) (by kernel_rfl) (by kernel_rfl) (fun _ _ _ h => h) (by rw [← HCK.out]; exact yields_load_off (by rfl) 30 (.tmp 19) rfl b1 _ rfl _ (fun W hW => HLA.out W hW) 32 5 Tryd.underlying30 (cells32 _ HL.out.1)) (by assumption) ?_
  (try simp only [Act.put, List.setIfInBounds_toArray, List.set_cons_zero, List.set_cons_succ])
  refine take_first (v := ?_) 12 rfl (by kernel_rfl) (by kernel_rfl) (by kernel_rfl) (fun _ _ _ h => h) (Or.inl ⟨by rfl, ?_⟩) (by assumption) ?_
  rotate_left
  · (intro w hSw; (try dsimp only at hSw); go_simp; try with_reducible rfl)
  (try simp only [Act.put, List.setIfInBounds_toArray, List.set_cons_zero, List.set_cons_succ])
  refine take_first (v := ?_) 13 rfl (by kernel_rfl) (by kernel_rfl) (by kernel_rfl) (fun _ _ _ h => h) (Or.inl ⟨by rfl, ?_⟩) (by assumption) ?_
  rotate_left
  · (intro w hSw; (try dsimp only at hSw); go_simp; try with_reducible rfl)
  (try simp only [Act.put, List.setIfInBounds_toArray, List.set_cons_zero, List.set_cons_succ])
  refine take_first (v := .agg ck) 14 rfl (by kernel_rfl) (by kernel_rfl) (by kernel_rfl) (fun _ _ _ h => h) (by rw [← HCK.out]; exact yields_load_off (by rfl) 30 (.tmp 22) rfl b3 _ rfl _ (fun W hW => HLB.out W hW) 32 5 Tryd.underlying30 (cells32 _ HL.out.1)) (by assumption) ?_
  (try simp only [Act.put, List.setIfInBounds_toArray, List.set_cons_zero, List.set_cons_succ])
  refine take_first (v := ?_) 15 rfl (by kernel_rfl) (by kernel_rfl) (by kernel_rfl) (fun _ _ _ h => h) (Or.inl ⟨by rfl, ?_⟩) (by assumption) ?_
  rotate_left
  · (intro w hSw; (try dsimp only at hSw); go_simp; try with_reducible rfl)
  (try simp only [Act.put, List.setIfInBounds_toArray, List.set_cons_zero, List.set_cons_succ])
  refine take_first (v := ?_) 16 rfl (by kernel_rfl) (by kernel_rfl) (by kernel_rfl) (fun _ _ _ h => h) (Or.inl ⟨by rfl, ?_⟩) (by assumption) ?_
  rotate_left
  · (intro w hSw; (try dsimp only at hSw); go_simp; try with_reducible rfl)
  (try simp only [Act.put, List.setIfInBounds_toArray, List.set_cons_zero, List.set_cons_succ])
  refine take_first (v := ?_) 17 rfl (by kernel_rfl) (by kernel_rfl) (by kernel_rfl) (fun _ _ _ h => h) (Or.inl ⟨by rfl, ?_⟩) (by assumption) ?_
  rotate_left
  · (intro w hSw; (try dsimp only at hSw); go_simp; try with_reducible rfl)
  (try simp only [Act.put, List.setIfInBounds_toArray, List.set_cons_zero, List.set_cons_succ])
  refine take_first (v := ?_) 18 rfl (by kernel_rfl) (by kernel_rfl) (by kernel_rfl) (fun _ _ _ h => h) (Or.inl ⟨by rfl, ?_⟩) (by assumption) ?_
  rotate_left
  · (intro w hSw; (try dsimp only at hSw); go_simp; try with_reducible rfl)
  (try simp only [Act.put, List.setIfInBounds_toArray, List.set_cons_zero, List.set_cons_succ])
  refine take_first (v := ?_) 19 rfl (by kernel_rfl) (by kernel_rfl) (by kernel_rfl) (fun _ _ _ h => h) (Or.inl ⟨by rfl, ?_⟩) (by assumption) ?_
  rotate_left
  · (intro w hSw; (try dsimp only at hSw); go_simp; try with_reducible rfl)
  (try simp only [Act.put, List.setIfInBounds_toArray, List.set_cons_zero, List.set_cons_succ])
  refine take_first (v := .agg ck) 20 rfl (by kernel_rfl) (by kernel_rfl) (by kernel_rfl) (fun _ _ _ h => h) (by rw [← HCK.out]; exact yields_load_off (by rfl) 30 (.tmp 28) rfl b1 _ rfl _ (fun W hW => HLA.out W hW) 32 5 Tryd.underlying30 (cells32 _ HL.out.1)) (by assumption) ?_
  (try simp only [Act.put, List.setIfInBounds_toArray, List.set_cons_zero, List.set_cons_succ])
  refine take_first (v := ?_) 21 rfl (by kernel_rfl) (by kernel_rfl) (by kernel_rfl) (fun _ _ _ h => h) (Or.inl ⟨by rfl, ?_⟩) (by assumption) ?_
  rotate_left
  · (intro w hSw; (try dsimp only at hSw); go_simp; try with_reducible rfl)
  (try simp only [Act.put, List.setIfInBounds_toArray, List.set_cons_zero, List.set_cons_succ])
  refine take_first (v := ?_) 22 rfl (by kernel_rfl) (by kernel_rfl) (by kernel_rfl) (fun _ _ _ h => h) (Or.inl ⟨by rfl, ?_⟩) (by assumption) ?_
  rotate_left
  · (intro w hSw; (try dsimp only at hSw); go_simp; try with_reducible rfl)
  (try simp only [Act.put, List.setIfInBounds_toArray, List.set_cons_zero, List.set_cons_succ])
  refine take_first (v := ?_) 23 rfl (by kernel_rfl) (by kernel_rfl) (by kernel_rfl) (fun _ _ _ h => h) (Or.inl ⟨by rfl, ?_⟩) (by assumption) ?_
  rotate_left
  · (intro w hSw; (try dsimp only at hSw); go_simp; try with_reducible rfl)
  (try simp only [Act.put, List.setIfInBounds_toArray, List.set_cons_zero, List.set_cons_succ])
  refine take_first (v := ?_) 24 rfl (by kernel_rfl) (by kernel_rfl) (by kernel_rfl) (fun _ _ _ h => h) (Or.inl ⟨by rfl, ?_⟩) (by assumption) ?_
  rotate_left
  · (intro w hSw; (try dsimp only at hSw); go_simp; try with_reducible rfl)
  (try simp only [Act.put, List.setIfInBounds_toArray, List.set_cons_zero])
  refine wpAnyH_done (by kernel_rfl) ?_ _
  go_wp2_with fail
  go_ret
  exact ⟨rfl, HF.out.drew⟩
end Go.Proofs.YtbochejgjmjieaaDoor
