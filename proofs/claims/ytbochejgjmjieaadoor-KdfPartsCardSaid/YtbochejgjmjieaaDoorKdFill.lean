/-
  The contracts of kdf.fill, maskedHash and Hmac of the program. No statement is proved here.
-/
import Derived.Test.YtbochejgjmjieaaDoorCells32
import Derived.Test.YtbochejgjmjieaaDoorKdC
import Derived.Test.YtbochejgjmjieaaDoorBlUse
import Derived.Test.YtbochejgjmjieaaDoorBlProg
namespace Go.Proofs.YtbochejgjmjieaaDoor
open Go.RowKit

theorem kd_cells64 (l : List UInt8) (h : l.length = 64) : (Tryd.prog.info? 37).map (·.size) = some (l.map u8v).length := by
  rw [List.length_map, h]; kernel_rfl
theorem kd_infoBS : (Tryd.prog.info? 22).map (fun i => (i.zero, i.size, i.bytes)) = some (some (.slice none 0 0), 1, 24) := by kernel_rfl

set_option maxRecDepth 100000 in
set_option maxHeartbeats 8000000 in
theorem kdFill_any (Ak : Option Addr) (nk ck : Nat) (key : List UInt8) (hkc : nk ≤ ck) (hkm : ck ≤ maxLen) (hk3 : nk ≤ 1000) (w : World) (hlv : LvKdf w) (hrk : Rd w w.heap.size Ak nk key) :
    Calls Tryd.prog 15 #[.slice Ak nk ck] w fun e w' => e = .returned (.agg ((to64 (hkeyB key)).map u8v).toArray) ∧ Below w.heap.size w w' := by
  have HM := Lib.hid (show Mem w [blkE (w.heap.size + 1) 37 ((List.replicate 64 (0 : UInt8)).map u8v), blkE w.heap.size 37 (aeZ 64)] ((w.alloc (.cells #[.int .u8 0, .int .u8 0, .int .u8 0, .int .u8 0, .int .u8 0, .int .u8 0, .int .u8 0, .int .u8 0, .int .u8 0, .int .u8 0, .int .u8 0, .int .u8 0, .int .u8 0, .int .u8 0, .int .u8 0, .int .u8 0, .int .u8 0, .int .u8 0, .int .u8 0, .int .u8 0, .int .u8 0, .int .u8 0, .int .u8 0, .int .u8 0, .int .u8 0, .int .u8 0, .int .u8 0, .int .u8 0, .int .u8 0, .int .u8 0, .int .u8 0, .int .u8 0, .int .u8 0, .int .u8 0, .int .u8 0, .int .u8 0, .int .u8 0, .int .u8 0, .int .u8 0, .int .u8 0, .int .u8 0, .int .u8 0, .int .u8 0, .int .u8 0, .int .u8 0, .int .u8 0, .int .u8 0, .int .u8 0, .int .u8 0, .int .u8 0, .int .u8 0, .int .u8 0, .int .u8 0, .int .u8 0, .int .u8 0, .int .u8 0, .int .u8 0, .int .u8 0, .int .u8 0, .int .u8 0, .int .u8 0, .int .u8 0, .int .u8 0, .int .u8 0] 37)).alloc (.cells #[.int .u8 0, .int .u8 0, .int .u8 0, .int .u8 0, .int .u8 0, .int .u8 0, .int .u8 0, .int .u8 0, .int .u8 0, .int .u8 0, .int .u8 0, .int .u8 0, .int .u8 0, .int .u8 0, .int .u8 0, .int .u8 0, .int .u8 0, .int .u8 0, .int .u8 0, .int .u8 0, .int .u8 0, .int .u8 0, .int .u8 0, .int .u8 0, .int .u8 0, .int .u8 0, .int .u8 0, .int .u8 0, .int .u8 0, .int .u8 0, .int .u8 0, .int .u8 0, .int .u8 0, .int .u8 0, .int .u8 0, .int .u8 0, .int .u8 0, .int .u8 0, .int .u8 0, .int .u8 0, .int .u8 0, .int .u8 0, .int .u8 0, .int .u8 0, .int .u8 0, .int .u8 0, .int .u8 0, .int .u8 0, .int .u8 0, .int .u8 0, .int .u8 0, .int .u8 0, .int .u8 0, .int .u8 0, .int .u8 0, .int .u8 0, .int .u8 0, .int .u8 0, .int .u8 0, .int .u8 0, .int .u8 0, .int .u8 0, .int .u8 0, .int .u8 0] 37)) from ((Mem.nil w).alloc rfl 37 #[.int .u8 0, .int .u8 0, .int .u8 0, .int .u8 0, .int .u8 0, .int .u8 0, .int .u8 0, .int .u8 0, .int .u8 0, .int .u8 0, .int .u8 0, .int .u8 0, .int .u8 0, .int .u8 0, .int .u8 0, .int .u8 0, .int .u8 0, .int .u8 0, .int .u8 0, .int .u8 0, .int .u8 0, .int .u8 0, .int .u8 0, .int .u8 0, .int .u8 0, .int .u8 0, .int .u8 0, .int .u8 0, .int .u8 0, .int .u8 0, .int .u8 0, .int .u8 0, .int .u8 0, .int .u8 0, .int .u8 0, .int .u8 0, .int .u8 0, .int .u8 0, .int .u8 0, .int .u8 0, .int .u8 0, .int .u8 0, .int .u8 0, .int .u8 0, .int .u8 0, .int .u8 0, .int .u8 0, .int .u8 0, .int .u8 0, .int .u8 0, .int .u8 0, .int .u8 0, .int .u8 0, .int .u8 0, .int .u8 0, .int .u8 0, .int .u8 0, .int .u8 0, .int .u8 0, .int .u8 0, .int .u8 0, .int .u8 0, .int .u8 0, .int .u8 0] (aeZ 64) rfl).alloc (by simp) 37 #[.int .u8 0, .int .u8 0, .int .u8 0, .int .u8 0, .int .u8 0, .int .u8 0, .int .u8 0, .int .u8 0, .int .u8 0, .int .u8 0, .int .u8 0, .int .u8 0, .int .u8 0, .int .u8 0, .int .u8 0, .int .u8 0, .int .u8 0, .int .u8 0, .int .u8 0, .int .u8 0, .int .u8 0, .int .u8 0, .int .u8 0, .int .u8 0, .int .u8 0, .int .u8 0, .int .u8 0, .int .u8 0, .int .u8 0, .int .u8 0, .int .u8 0, .int .u8 0, .int .u8 0, .int .u8 0, .int .u8 0, .int .u8 0, .int .u8 0, .int .u8 0, .int .u8 0, .int .u8 0, .int .u8 0, .int .u8 0, .int .u8 0, .int .u8 0, .int .u8 0, .int .u8 0, .int .u8 0, .int .u8 0, .int .u8 0, .int .u8 0, .int .u8 0, .int .u8 0, .int .u8 0, .int .u8 0, .int .u8 0, .int .u8 0, .int .u8 0, .int .u8 0, .int .u8 0, .int .u8 0, .int .u8 0, .int .u8 0, .int .u8 0, .int .u8 0] ((List.replicate 64 (0 : UInt8)).map u8v) rfl)
  have HLV := Lib.hid hlv
  have HK := Lib.hid hrk
  have HKL := Lib.hid hrk.1
  have hkb := hkeyB_length key
  have HTL := Lib.hid (to64_length (hkeyB key) hkb)
  have HP := Lib.hid (putL_zeros (hkeyB key) hkb)
  obtain ⟨tk, htk⟩ : ∃ l, to64 (hkeyB key) = l := ⟨_, rfl⟩
  rw [htk] at HTL HP ⊢
  obtain ⟨ct, hct⟩ : ∃ c, (tk.map u8v).toArray = c := ⟨_, rfl⟩
  rw [hct]
  have HCT := Lib.hid hct
  clear htk hct hkb
  by_cases h64 : 64 < nk
  · have d64 : decide ((nk : Int) > 64) = true := by simp; omega
    have hkk : hkeyB key = hashB 32 [] key := by rw [hkeyB, if_pos (by rw [HKL.out]; exact h64)]
    have hkl : (hkeyB key).length = 32 := by rw [hkk]; exact hashB_length _ _ _ (by omega)
    obtain ⟨kk, hkke⟩ : ∃ l, hkeyB key = l := ⟨_, rfl⟩
    rw [hkke] at hkk hkl HP
    have HKK := Lib.hid hkk
    have HLK := Lib.hid hkl
    clear hkk hkl hkke hlv hrk
    obtain ⟨ckk, hckk⟩ : ∃ c, (kk.map u8v).toArray = c := ⟨_, rfl⟩
    have HCK := Lib.hid hckk
    clear hckk
    go_enter Tryd.func15, Tryd.ntmps15
    go_upto_region 2 with fail
    generalize ((w.alloc (.cells #[.int .u8 0, .int .u8 0, .int .u8 0, .int .u8 0, .int .u8 0, .int .u8 0, .int .u8 0, .int .u8 0, .int .u8 0, .int .u8 0, .int .u8 0, .int .u8 0, .int .u8 0, .int .u8 0, .int .u8 0, .int .u8 0, .int .u8 0, .int .u8 0, .int .u8 0, .int .u8 0, .int .u8 0, .int .u8 0, .int .u8 0, .int .u8 0, .int .u8 0, .int .u8 0, .int .u8 0, .int .u8 0, .int .u8 0, .int .u8 0, .int .u8 0, .int .u8 0, .int .u8 0, .int .u8 0, .int .u8 0, .int .u8 0, .int .u8 0, .int .u8 0, .int .u8 0, .int .u8 0, .int .u8 0, .int .u8 0, .int .u8 0, .int .u8 0, .int .u8 0, .int .u8 0, .int .u8 0, .int .u8 0, .int .u8 0, .int .u8 0, .int .u8 0, .int .u8 0, .int .u8 0, .int .u8 0, .int .u8 0, .int .u8 0, .int .u8 0, .int .u8 0, .int .u8 0, .int .u8 0, .int .u8 0, .int .u8 0, .int .u8 0, .int .u8 0] 37)).alloc (.cells #[.int .u8 0, .int .u8 0, .int .u8 0, .int .u8 0, .int .u8 0, .int .u8 0, .int .u8 0, .int .u8 0, .int .u8 0, .int .u8 0, .int .u8 0, .int .u8 0, .int .u8 0, .int .u8 0, .int .u8 0, .int .u8 0, .int .u8 0, .int .u8 0, .int .u8 0, .int .u8 0, .int .u8 0, .int .u8 0, .int .u8 0, .int .u8 0, .int .u8 0, .int .u8 0, .int .u8 0, .int .u8 0, .int .u8 0, .int .u8 0, .int .u8 0, .int .u8 0, .int .u8 0, .int .u8 0, .int .u8 0, .int .u8 0, .int .u8 0, .int .u8 0, .int .u8 0, .int .u8 0, .int .u8 0, .int .u8 0, .int .u8 0, .int .u8 0, .int .u8 0, .int .u8 0, .int .u8 0, .int .u8 0, .int .u8 0, .int .u8 0, .int .u8 0, .int .u8 0, .int .u8 0, .int .u8 0, .int .u8 0, .int .u8 0, .int .u8 0, .int .u8 0, .int .u8 0, .int .u8 0, .int .u8 0, .int .u8 0, .int .u8 0, .int .u8 0] 37)) = w1 at HM ⊢
    go_wp2_with fail
    clear d64
    replace HM := Lib.hid (show Mem w [blkE w1.heap.size 22 [.slice Ak nk ck], blkE (w.heap.size + 1) 37 ((List.replicate 64 (0 : UInt8)).map u8v), blkE w.heap.size 37 (aeZ 64)] (w1.alloc (.cells #[.slice Ak nk ck] 22)) from HM.out.alloc rfl 22 #[.slice Ak nk ck] [.slice Ak nk ck] rfl)
    generalize w1.alloc (.cells #[.slice Ak nk ck] 22) = w2 at HM ⊢
    generalize w1.heap.size = Q at HM ⊢
    refine (hash_one blHashC Q 22 Ak nk ck key hkc hkm (by omega) _ (HLV.out.below HM.out.bel) (HM.out.blk 0 rfl) (HM.out.arg HK.out)).mono ?_
    rintro e w3 ⟨rfl, hb⟩
    rw [← HKK.out, HCK.out]
    replace HM := Lib.hid (show Mem w [blkE (w.heap.size + 1) 37 ((List.replicate 64 (0 : UInt8)).map u8v), blkE w.heap.size 37 (aeZ 64)] w3 from (HM.out.below hb).erase 0)
    clear hb HLV HK
    have HA := Lib.hid (HM.out.alloc rfl 30 #[.int .u8 0, .int .u8 0, .int .u8 0, .int .u8 0, .int .u8 0, .int .u8 0, .int .u8 0, .int .u8 0, .int .u8 0, .int .u8 0, .int .u8 0, .int .u8 0, .int .u8 0, .int .u8 0, .int .u8 0, .int .u8 0, .int .u8 0, .int .u8 0, .int .u8 0, .int .u8 0, .int .u8 0, .int .u8 0, .int .u8 0, .int .u8 0, .int .u8 0, .int .u8 0, .int .u8 0, .int .u8 0, .int .u8 0, .int .u8 0, .int .u8 0, .int .u8 0] (aeZ 32) rfl)
    go_upto_region 4 with (refine wpList_store_blk rfl 30 (.tmp 4) (.tmp 10) rfl w3.heap.size (kk.map u8v) rfl (by show Value.agg ckk = _; rw [HCK.out]) 30 (aeZ 32) (HA.out.blk 0 rfl) (cells32 kk HLK.out) (by rw [List.length_map, HLK.out]; rfl) (u8v_one _) ?_; intro w4 hb4 hg4)
    replace HM := Lib.hid (show Mem w [blkE w3.heap.size 30 (kk.map u8v), blkE (w.heap.size + 1) 37 ((List.replicate 64 (0 : UInt8)).map u8v), blkE w.heap.size 37 (aeZ 64)] w4 from HA.out.put 0 rfl _ hg4 hb4)
    clear hb4 hg4 HA
    generalize w3.heap.size = P at HM ⊢
    refine wp_region_held_drew (S := fun W' => Mem w [blkE P 30 (kk.map u8v), blkE w.heap.size 37 (aeZ 64)] W') (by kernel_rfl) (((HM.out.erase 1)).drew) (fun hHeld => ?_)
    replace HM := Lib.hid HM.out.drew
    generalize w4.drew = wd1 at HM hHeld ⊢
    refine take_first (v := ?_) 0 rfl (by kernel_rfl) (by kernel_rfl) (by kernel_rfl) (fun _ _ _ h => h) (Or.inl ⟨by rfl, ?_⟩) (by assumption) ?_
    rotate_left
    · (intro w hSw; (try dsimp only at hSw); go_simp; try with_reducible rfl)
    (try simp only [Act.put, List.setIfInBounds_toArray, List.set_cons_zero, List.set_cons_succ])
    refine take_first (v := ?_) 1 rfl (by kernel_rfl) (by kernel_rfl) (by kernel_rfl) (fun _ _ _ h => h) (Or.inl ⟨by rfl, ?_⟩) (by assumption) ?_
    rotate_left
    · (intro w hSw; (try dsimp only at hSw); go_simp; try with_reducible rfl)
    (try simp only [Act.put, List.setIfInBounds_toArray, List.set_cons_zero, List.set_cons_succ])
    refine step_one 2 rfl (by kernel_rfl) (fun K hK => ?_)
    clear hHeld
    refine step_copy_bytes _ rfl (.tmp 11) (.tmp 12) 22 22 (by rfl) 5 Tryd.underlying22 (by kernel_rfl) (w.heap.size + 1) 0 64 64 ⟨P, 0, none⟩ 32 32 (by rfl) (by rfl) ((List.replicate 64 (0 : UInt8)).map u8v) 37 (HM.out.blk 1 rfl) ((kk).map u8v) (by rw [List.length_map, HLK.out]; rfl) (show Rd wd1 wd1.heap.size (some ⟨P, 0, none⟩) 32 kk from blk_all (HM.out.blk 0 rfl) HLK.out).src (by rw [List.length_map, List.length_map, HLK.out]; decide) (u8v_one _) ?_
    intro wy2 hb hg
    rw [putL_map] at hb
    replace HM := Lib.hid (show Mem w [blkE P 30 (kk.map u8v), blkE (w.heap.size + 1) 37 ((putL (List.replicate 64 (0 : UInt8)) 0 kk).map u8v), blkE w.heap.size 37 (aeZ 64)] wy2 from HM.out.put 1 rfl _ hg hb)
    clear hb hg
    refine hK.out _ _ ((HM.out.erase 1)) (fun hHeld => ?_)
    clear hK K
    (try simp only [Act.put, List.setIfInBounds_toArray, List.set_cons_zero, List.set_cons_succ])
    refine wpAnyH_done (by kernel_rfl) ?_ _
    rw [HP.out] at HM
    replace HM := Lib.hid (show Mem w [blkE (w.heap.size + 1) 37 (tk.map u8v), blkE w.heap.size 37 (aeZ 64)] wy2 from HM.out.erase 0)
    clear hHeld
    go_wp2_with (first | (refine wpList_load_blk rfl 37 (.tmp 3) rfl (w.heap.size + 1) rfl 37 (tk.map u8v) (HM.out.blk 0 rfl) 64 5 Tryd.underlying37 (kd_cells64 tk HTL.out) ?_; rw [HCT.out]) | (refine wpList_store_blk rfl 37 (.tmp 2) (.tmp 17) rfl w.heap.size (tk.map u8v) rfl (by show Value.agg ct = _; rw [HCT.out]) 37 (aeZ 64) (HM.out.blk 1 rfl) (kd_cells64 tk HTL.out) (by rw [List.length_map, HTL.out]; rfl) (u8v_one _) ?_; intro w9 hb9 hg9))
    exact bodyPost_ret (results_blk rfl _ _ w.heap.size 37 (tk.map u8v) 64 5 rfl hb9 Tryd.underlying37 (kd_cells64 tk HTL.out)) rfl ⟨by rw [HCT.out], (HM.out.put 1 rfl _ hg9 hb9).bel⟩
  · have d64 : decide ((nk : Int) > 64) = false := by simp; omega
    have hkk : hkeyB key = key := by rw [hkeyB, if_neg (by rw [HKL.out]; exact h64)]
    rw [hkk] at HP
    clear hkk hlv hrk
    go_enter Tryd.func15, Tryd.ntmps15
    go_upto_region 2 with fail
    generalize ((w.alloc (.cells #[.int .u8 0, .int .u8 0, .int .u8 0, .int .u8 0, .int .u8 0, .int .u8 0, .int .u8 0, .int .u8 0, .int .u8 0, .int .u8 0, .int .u8 0, .int .u8 0, .int .u8 0, .int .u8 0, .int .u8 0, .int .u8 0, .int .u8 0, .int .u8 0, .int .u8 0, .int .u8 0, .int .u8 0, .int .u8 0, .int .u8 0, .int .u8 0, .int .u8 0, .int .u8 0, .int .u8 0, .int .u8 0, .int .u8 0, .int .u8 0, .int .u8 0, .int .u8 0, .int .u8 0, .int .u8 0, .int .u8 0, .int .u8 0, .int .u8 0, .int .u8 0, .int .u8 0, .int .u8 0, .int .u8 0, .int .u8 0, .int .u8 0, .int .u8 0, .int .u8 0, .int .u8 0, .int .u8 0, .int .u8 0, .int .u8 0, .int .u8 0, .int .u8 0, .int .u8 0, .int .u8 0, .int .u8 0, .int .u8 0, .int .u8 0, .int .u8 0, .int .u8 0, .int .u8 0, .int .u8 0, .int .u8 0, .int .u8 0, .int .u8 0, .int .u8 0] 37)).alloc (.cells #[.int .u8 0, .int .u8 0, .int .u8 0, .int .u8 0, .int .u8 0, .int .u8 0, .int .u8 0, .int .u8 0, .int .u8 0, .int .u8 0, .int .u8 0, .int .u8 0, .int .u8 0, .int .u8 0, .int .u8 0, .int .u8 0, .int .u8 0, .int .u8 0, .int .u8 0, .int .u8 0, .int .u8 0, .int .u8 0, .int .u8 0, .int .u8 0, .int .u8 0, .int .u8 0, .int .u8 0, .int .u8 0, .int .u8 0, .int .u8 0, .int .u8 0, .int .u8 0, .int .u8 0, .int .u8 0, .int .u8 0, .int .u8 0, .int .u8 0, .int .u8 0, .int .u8 0, .int .u8 0, .int .u8 0, .int .u8 0, .int .u8 0, .int .u8 0, .int .u8 0, .int .u8 0, .int .u8 0, .int .u8 0, .int .u8 0, .int .u8 0, .int .u8 0, .int .u8 0, .int .u8 0, .int .u8 0, .int .u8 0, .int .u8 0, .int .u8 0, .int .u8 0, .int .u8 0, .int .u8 0, .int .u8 0, .int .u8 0, .int .u8 0, .int .u8 0] 37)) = w1 at HM ⊢
    go_upto_region 6 with (refine wpList_copy_rd _ rfl (.tmp 14) (.tmp 15) 22 22 rfl 5 Tryd.underlying22 (by kernel_rfl) (w.heap.size + 1) 64 64 Ak nk ck rfl rfl (List.replicate 64 (0 : UInt8)) 37 (HM.out.blk 0 rfl) _ key (HM.out.arg HK.out) (by omega) (by simp) ?_; intro w5 hb hg; rw [HP.out] at hb)
    clear d64
    replace HM := Lib.hid (show Mem w [blkE (w.heap.size + 1) 37 (tk.map u8v), blkE w.heap.size 37 (aeZ 64)] w5 from HM.out.put 0 rfl _ hg hb)
    clear hb hg
    go_wp2_with (first | (refine wpList_load_blk rfl 37 (.tmp 3) rfl (w.heap.size + 1) rfl 37 (tk.map u8v) (HM.out.blk 0 rfl) 64 5 Tryd.underlying37 (kd_cells64 tk HTL.out) ?_; rw [HCT.out]) | (refine wpList_store_blk rfl 37 (.tmp 2) (.tmp 17) rfl w.heap.size (tk.map u8v) rfl (by show Value.agg ct = _; rw [HCT.out]) 37 (aeZ 64) (HM.out.blk 1 rfl) (kd_cells64 tk HTL.out) (by rw [List.length_map, HTL.out]; rfl) (u8v_one _) ?_; intro w9 hb9 hg9))
    exact bodyPost_ret (results_blk rfl _ _ w.heap.size 37 (tk.map u8v) 64 5 rfl hb9 Tryd.underlying37 (kd_cells64 tk HTL.out)) rfl ⟨by rw [HCT.out], (HM.out.put 1 rfl _ hg9 hb9).bel⟩

/-- the first j bytes are masked -/
def maskB (k : List UInt8) (m : UInt8) (j : Nat) : List UInt8 := (k.take j).map (· ^^^ m) ++ k.drop j
theorem maskB_length (k : List UInt8) (m : UInt8) (j : Nat) : (maskB k m j).length = k.length := by
  simp only [maskB, List.length_append, List.length_map, List.length_take, List.length_drop]; omega
theorem maskB_get (k : List UInt8) (m : UInt8) (j : Nat) (h : j < k.length) : (maskB k m j).getD j 0 = k.getD j 0 := by
  have e : ((k.take j).map (· ^^^ m)).length = j := by rw [List.length_map, List.length_take]; omega
  rw [maskB, List.getD_eq_getElem?_getD, List.getElem?_append_right (by omega), e, Nat.sub_self, List.getElem?_drop, Nat.add_zero, List.getD_eq_getElem?_getD]
theorem maskB_set (k : List UInt8) (m : UInt8) (j : Nat) (h : j < k.length) : (maskB k m j).set j (k.getD j 0 ^^^ m) = maskB k m (j + 1) := by
  have e : ((k.take j).map (· ^^^ m)).length = j := by rw [List.length_map, List.length_take]; omega
  rw [maskB, maskB, List.set_append_right _ _ (by omega), e, Nat.sub_self, List.drop_eq_getElem_cons h, List.set_cons_zero, List.take_succ_eq_append_getElem h, List.map_append, List.append_assoc, List.getD_eq_getElem?_getD, List.getElem?_eq_getElem h]
  rfl
theorem maskB_all (k : List UInt8) (m : UInt8) (h : k.length = 64) : maskB k m 64 = k.map (· ^^^ m) := by
  rw [maskB, List.take_of_length_le (by omega), List.drop_eq_nil_of_le (by omega), List.append_nil]
theorem xpad_to64 (k : List UInt8) (m : UInt8) (h : k.length ≤ 64) : (to64 k).map (· ^^^ m) = xpadB k m 64 := by
  apply List.ext_getElem
  · rw [List.length_map, to64_length k h, xpadB_length]
  · intro i h1 h2
    rw [List.length_map, to64_length k h] at h1
    simp only [xpadB, List.getElem_map, List.getElem_range, to64, List.getElem_append, List.getD_eq_getElem?_getD]
    split
    · rename_i hi
      rw [List.getElem?_eq_getElem hi]
      rfl
    · rename_i hi
      rw [List.getElem?_eq_none (by omega), List.getElem_replicate]
      rfl
def partV (p : Part) : Value := .slice p.A p.n p.c
theorem partV_one (ps : List Part) : ∀ v ∈ ps.map partV, v.oneCell' = true := by
  intro v hv
  obtain ⟨p, _, rfl⟩ := List.mem_map.1 hv
  rfl
/-- append of parts onto a row of slices of the call's own -/
theorem wpList_append_parts {P : Program} (w : World) {ops : Array Oper} {rest : List Oper} {o : Oper} {a : Act} {Q : Exit → Act → World → Prop} (hgd : o.guard = none) (s x : Operand) (t : TypeId)
    (ho : o.op = .call { callee := .builtin .append, args := #[s, x], argTypes := #[t, t] })
    (base : Nat) (e : TypeId) (i : TypeInfo) (z : Value) (bytes : Nat) (ht : P.underlying t = some (.slice e)) (hi : P.info? e = some i) (hz : i.zero = some z) (hsize : i.size = 1) (hby : i.bytes = bytes) (hbs : bytes ≤ 1000) (hzs : z.cells.size = 1)
    (v : Value) (n : Nat) (xs : List Value) (hs : a.eval s = v) (hown : w.ownsRow base e 1 v n xs) (B : Nat) (A : Option Addr) (c : Nat) (ps : List Part) (m : Nat) (hm : ps.length = m) (hx : a.eval x = .slice A m c) (hr : PartsRd w B A ps) (h63 : n + m ≤ 1000) (hbase : base ≤ w.heap.size)
    (h : ∀ v' w', w'.ownsRow base e 1 v' (n + m) (xs ++ ps.map partV) → w.grownBy w' v.ownBlock → wpList P ops Q rest (a.put o.dst v') w') : wpList P ops Q (o :: rest) a w := by
  subst hm
  have hb : (n + ps.length) * bytes ≤ 140737488355328 := Nat.le_trans (Nat.mul_le_mul h63 hbs) (by omega)
  rcases A with _ | ad
  · have hl : ps = [] := by
      rcases ps with _ | ⟨p, ps⟩
      · rfl
      · obtain ⟨_, h, _⟩ := hr (by simp)
        cases h
    subst hl
    refine wpList_plain hgd fun K hK => ?_
    unfold Oper.wp execOp
    simp only [ho, resolve, invoke, builtin, Sem.run_bind, Sem.run_pure, Result.andThen_ok, List.map_toArray, List.map_cons, List.map_nil, hs, hx]
    simp only [List.length_nil, run_append_none (P := P) w base t o.type e i 1 ht hi v n xs hown c, Result.andThen_ok]
    exact hK _ _ (h v w (by simpa using hown) ⟨rfl, rfl, rfl, Nat.le_refl _, fun _ _ _ => rfl⟩)
  · refine wpList_append_own w hgd s x t ho base e i z 1 bytes ht hi hz hsize hby hzs (by omega) v n xs hs hown ad ps.length c (ps.map partV) hx (by simp) (fun j u hu => ?_) (partV_one ps) (by unfold maxLen; omega) hb hbase (fun v' w' h1 h2 _ => h v' w' h1 h2)
    have hj : j < ps.length := by simpa using (List.getElem?_eq_some_iff.1 hu).1
    obtain ⟨g, he, _, hc⟩ := hr (by omega)
    cases he
    rw [Go.WideShapes.add_plain, Nat.zero_add, (hc j hj).1]
    simpa [partV, hj] using hu
theorem PartsRd.of_own {W : World} {base e n c : Nat} {A : Option Addr} {ps : List Part} (ho : W.ownsRow base e 1 (.slice A n c) n (ps.map partV)) (h : ∀ p ∈ ps, Rd W W.heap.size p.A p.n p.l) : PartsRd W W.heap.size A ps := fun h0 => by
  have hl : ps.length = n := by simpa using ho.1
  rcases ho.2 with ⟨_, h0'⟩ | ⟨g, cap, cur, hv, _, hg, _⟩
  · omega
  · simp only [Value.slice.injEq] at hv
    obtain ⟨rfl, _, rfl⟩ := hv
    refine ⟨g, rfl, (ho.lt g rfl).2, fun j hj => ⟨?_, h _ (List.getElem_mem hj)⟩⟩
    rw [ho.cellAt j (by omega)]
    simp [partV, hj]
theorem flat_cons (p : Part) (ps : List Part) : flat (p :: ps) (ps.length + 1) = p.l ++ flat ps ps.length := by
  simp [flat]
theorem Blk.byt {w : World} {g : Nat} {t : TypeId} {l : List UInt8} (h : Blk w g t (l.map u8v)) (i : Nat) (hi : i < l.length) : w.cell? ⟨g, i, none⟩ = some (.int .u8 ((l.getD i 0).toNat : Int)) := by
  rw [h.cell i]
  simp [u8v, hi, List.getD]

set_option maxRecDepth 100000 in
set_option maxHeartbeats 8000000 in
theorem kdMask_any (k : List UInt8) (hk : k.length = 64) (m : UInt8) (mi : Int) (hmi : mi = (m.toNat : Int)) (c : Nat) (A : Option Addr) (ps : List Part) (hps : ps.length ≤ 50) (hfl : (flat ps ps.length).length ≤ 4000) (hok : ∀ p ∈ ps, p.n ≤ p.c ∧ p.c ≤ maxLen) (w : World) (hlv : LvKdf w) (hp : PartsRd w w.heap.size A ps) :
    Calls Tryd.prog 16 #[.agg (k.map u8v).toArray, .int .u8 mi, .slice A ps.length c] w fun e w' => e = .returned (.agg ((hashB 32 [] (k.map (· ^^^ m) ++ flat ps ps.length)).map u8v).toArray) ∧ Below w.heap.size w w' := by
  subst hmi
  obtain ⟨ck, hck⟩ : ∃ x, (k.map u8v).toArray = x := ⟨_, rfl⟩
  rw [hck]
  have HM := Lib.hid (show Mem w [blkE (w.heap.size + 1) 30 (aeZ 32), blkE w.heap.size 37 (k.map u8v)] ((w.alloc (.cells ck 37)).alloc (.cells #[.int .u8 0, .int .u8 0, .int .u8 0, .int .u8 0, .int .u8 0, .int .u8 0, .int .u8 0, .int .u8 0, .int .u8 0, .int .u8 0, .int .u8 0, .int .u8 0, .int .u8 0, .int .u8 0, .int .u8 0, .int .u8 0, .int .u8 0, .int .u8 0, .int .u8 0, .int .u8 0, .int .u8 0, .int .u8 0, .int .u8 0, .int .u8 0, .int .u8 0, .int .u8 0, .int .u8 0, .int .u8 0, .int .u8 0, .int .u8 0, .int .u8 0, .int .u8 0] 30)) from ((Mem.nil w).alloc rfl 37 ck (k.map u8v) hck.symm).alloc (by simp) 30 #[.int .u8 0, .int .u8 0, .int .u8 0, .int .u8 0, .int .u8 0, .int .u8 0, .int .u8 0, .int .u8 0, .int .u8 0, .int .u8 0, .int .u8 0, .int .u8 0, .int .u8 0, .int .u8 0, .int .u8 0, .int .u8 0, .int .u8 0, .int .u8 0, .int .u8 0, .int .u8 0, .int .u8 0, .int .u8 0, .int .u8 0, .int .u8 0, .int .u8 0, .int .u8 0, .int .u8 0, .int .u8 0, .int .u8 0, .int .u8 0, .int .u8 0, .int .u8 0] (aeZ 32) rfl)
  have HLV := Lib.hid hlv
  have HL := Lib.hid hk
  have HPR := Lib.hid (fun (W : World) (hb : Below w.heap.size w W) => (hp.below hb : PartsRd W w.heap.size A ps))
  have HOK := Lib.hid hok
  have HFL := Lib.hid hfl
  obtain ⟨np, hnp⟩ : ∃ n, ps.length = n := ⟨_, rfl⟩
  have HNP := Lib.hid hnp
  rw [hnp] at hps ⊢
  obtain ⟨hv, hhv⟩ : ∃ l, hashB 32 [] (k.map (· ^^^ m) ++ flat ps np) = l := ⟨_, rfl⟩
  have HHL := Lib.hid (show hv.length = 32 by rw [← hhv]; exact hashB_length _ _ _ (by omega))
  have HHV := Lib.hid hhv
  rw [hhv]
  obtain ⟨ch, hch⟩ : ∃ c, (hv.map u8v).toArray = c := ⟨_, rfl⟩
  rw [hch]
  have HCH := Lib.hid hch
  clear hck hk hlv hp hok hfl hnp hhv hch
  obtain ⟨is, his, hz0, hz1, hz2⟩ := info_parts kd_infoBS
  go_enter Tryd.func16, Tryd.ntmps16
  go_upto_region 1 with fail
  generalize ((w.alloc (.cells ck 37)).alloc (.cells #[.int .u8 0, .int .u8 0, .int .u8 0, .int .u8 0, .int .u8 0, .int .u8 0, .int .u8 0, .int .u8 0, .int .u8 0, .int .u8 0, .int .u8 0, .int .u8 0, .int .u8 0, .int .u8 0, .int .u8 0, .int .u8 0, .int .u8 0, .int .u8 0, .int .u8 0, .int .u8 0, .int .u8 0, .int .u8 0, .int .u8 0, .int .u8 0, .int .u8 0, .int .u8 0, .int .u8 0, .int .u8 0, .int .u8 0, .int .u8 0, .int .u8 0, .int .u8 0] 30)) = w1 at HM ⊢
  go_wp2_with fail
  go_loopw [8] (fun i wr => ∃ j : Nat, j ≤ 64 ∧ i = .int .i64 (j : Int) ∧ Mem w [blkE (w.heap.size + 1) 30 (aeZ 32), blkE w.heap.size 37 ((maskB k m j).map u8v)] wr) (fun i _ => 64 - (intOf i).toNat)
  case atStart => exact ⟨0, by omega, rfl, HM.out⟩
  case round =>
    clear HM
    obtain ⟨j, hj, rfl, hmj⟩ := hrel
    have HM := Lib.hid hmj
    clear hmj
    by_cases hlt : j < 64
    · have d : decide ((j : Int) < 64) = true := by simp; omega
      have fx := (HM.out.blk 1 rfl).byt j (by rw [maskB_length, HL.out]; exact hlt)
      have zx := (HM.out.blk 1 rfl).frozen j
      rw [maskB_get k m j (by rw [HL.out]; exact hlt)] at fx
      obtain ⟨X, hX⟩ : ∃ x, k.getD j 0 = x := ⟨_, rfl⟩
      obtain ⟨Y, hY⟩ : ∃ y, X ^^^ m = y := ⟨_, rfl⟩
      rw [hX] at fx
      have hx := u8_xor_lit X m
      rw [hY] at hx
      have HS := Lib.hid (show Mem w [blkE (w.heap.size + 1) 30 (aeZ 32), blkE w.heap.size 37 ((maskB k m (j + 1)).map u8v)] (wr.setCell ⟨w.heap.size, j, none⟩ (.int .u8 (Y.toNat : Int))) from by
        have h := HM.out.setCell 1 rfl j (u8v Y)
        rw [← List.map_set, ← hY, ← hX, maskB_set k m j (by rw [HL.out]; exact hlt)] at h
        rw [← hY, ← hX]
        exact h)
      clear hX hY HM
      go_wp2_with fail
      go_roundw
      case rel => exact ⟨j + 1, by omega, by go_num, HS.out⟩
      case measure => simp [intOf]; omega
    · obtain rfl : j = 64 := by omega
      rw [show ((64 : Nat) : Int) = 64 from rfl]
      have hml : (maskB k m 64).length = 64 := by rw [maskB_length, HL.out]
      rw [maskB_all k m HL.out] at HM hml
      have HML := Lib.hid hml
      have HHE := Lib.hid HHV.out
      obtain ⟨kx, hkx⟩ : ∃ l, k.map (· ^^^ m) = l := ⟨_, rfl⟩
      rw [hkx] at HM HML HHE
      clear hml hkx HHV
      have HM2 := HM.out.alloc rfl 22 #[.slice (some ⟨w.heap.size, 0, none⟩) 64 64] [.slice (some ⟨w.heap.size, 0, none⟩) 64 64] rfl
      have hown1 : (wr.alloc (.cells #[Value.slice (some ⟨w.heap.size, 0, none⟩) 64 64] 22)).ownsRow wr.heap.size 22 1 (.slice (some ⟨wr.heap.size, 0, none⟩) 1 1) 1 [.slice (some ⟨w.heap.size, 0, none⟩) 64 64] := ⟨rfl, .inr ⟨wr.heap.size, 1, #[.slice (some ⟨w.heap.size, 0, none⟩) 64 64], rfl, Nat.le_refl _, HM2.blk 0 rfl, Nat.le_refl _, by unfold maxLen; omega, rfl, rfl⟩⟩
      have HO := Lib.hid hown1
      clear hown1 HM2
      go_wp2_with (refine wpList_append_parts _ rfl (.tmp 19) (.tmp 20) 36 rfl wr.heap.size 22 is _ _ Tryd.underlying36 his hz0 hz1 hz2 (by omega) (by rfl) _ 1 _ rfl HO.out w.heap.size A c ps np HNP.out rfl (HPR.out _ (HM.out.bel.trans (((Below.refl _ _).alloc (Nat.le_refl _) _).mono HM.out.size))) (by omega) (by simp) ?_; intro v5 w5 ho5 hg5)
      obtain ⟨A5, c5, rfl, _⟩ := own_slice ho5
      have hb5 : Below wr.heap.size wr w5 := ((Below.refl wr.heap.size wr).alloc (Nat.le_refl _) (.cells #[Value.slice (some ⟨w.heap.size, 0, none⟩) 64 64] 22)).grown hg5 (by simp) (fun k hk => by
        have hk : some wr.heap.size = some k := hk
        injection hk with hk
        omega)
      replace HM := Lib.hid (HM.out.below hb5)
      have hpr5 := HPR.out w5 HM.out.bel
      have e1 : ((⟨some ⟨w.heap.size, 0, none⟩, 64, 64, kx⟩ : Part) :: ps).length = 1 + np := by rw [List.length_cons, HNP.out]; omega
      have hf : flat ((⟨some ⟨w.heap.size, 0, none⟩, 64, 64, kx⟩ : Part) :: ps) (1 + np) = kx ++ flat ps np := by
        rw [Nat.add_comm, ← HNP.out]; exact flat_cons _ _
      have ho5' : w5.ownsRow wr.heap.size 22 1 (.slice A5 (1 + np) c5) (1 + np) (((⟨some ⟨w.heap.size, 0, none⟩, 64, 64, kx⟩ : Part) :: ps).map partV) := ho5
      have JC := blHashC c5 A5 ((⟨some ⟨w.heap.size, 0, none⟩, 64, 64, kx⟩ : Part) :: ps) ⟨by rw [e1]; omega, by rw [e1, hf, List.length_append, HML.out]; have := HFL.out; rw [HNP.out] at this; omega, fun p hp => by
        rcases List.mem_cons.1 hp with rfl | hp
        · exact ⟨Nat.le_refl _, show 64 ≤ maxLen by unfold maxLen; omega⟩
        · exact HOK.out p hp⟩ (by rw [e1]; exact (own_addr ho5).1) (own_addr ho5).2.1 w5 (HLV.out.below HM.out.bel) (by
        refine PartsRd.of_own ho5' (fun p hp => ?_)
        rcases List.mem_cons.1 hp with rfl | hp
        · exact blk_all (HM.out.blk 1 rfl) HML.out
        · obtain ⟨j, hj, rfl⟩ := List.getElem_of_mem hp
          obtain ⟨_, _, _, hc⟩ := hpr5 (by omega)
          exact (hc j hj).2.mono HM.out.size)
      rw [e1, hf, HHE.out, HCH.out] at JC
      refine JC.mono ?_
      rintro e w6 ⟨rfl, hb⟩
      replace HM := Lib.hid (HM.out.below hb)
      clear JC hb hb5 hpr5 ho5 ho5' hg5 HO e1 hf
      go_wp2_with (refine wpList_store_blk rfl 30 (.tmp 6) (.tmp 22) rfl (w.heap.size + 1) (hv.map u8v) rfl (by show Value.agg ch = _; rw [HCH.out]) 30 (aeZ 32) (HM.out.blk 0 rfl) (cells32 hv HHL.out) (by rw [List.length_map, HHL.out]; rfl) (u8v_one _) ?_; intro w9 hb9 hg9)
      exact bodyPost_ret (results_blk rfl _ _ (w.heap.size + 1) 30 (hv.map u8v) 32 5 rfl hb9 Tryd.underlying30 (cells32 hv HHL.out)) rfl ⟨by rw [HCH.out], (HM.out.put 0 rfl _ hg9 hb9).bel⟩
theorem kdMask_one (k : List UInt8) (hk : k.length = 64) (ck : Array Value) (hck : (k.map u8v).toArray = ck) (m : UInt8) (mi : Int) (hmi : mi = (m.toNat : Int)) (g : Nat) (t : TypeId) (A : Option Addr) (n c : Nat) (l : List UInt8) (hn : n ≤ c) (hc : c ≤ maxLen) (hs : n ≤ 1000) (w : World) (hlv : LvKdf w) (hb : Blk w g t [.slice A n c]) (hr : Rd w w.heap.size A n l) :
    Calls Tryd.prog 16 #[.agg ck, .int .u8 mi, .slice (some ⟨g, 0, none⟩) 1 1] w fun e w' => e = .returned (.agg ((hashB 32 [] (k.map (· ^^^ m) ++ l)).map u8v).toArray) ∧ Below w.heap.size w w' := by
  have hf : flat ([⟨A, n, c, l⟩] : List Part) 1 = l := by simp [flat]
  have h := kdMask_any k hk m mi hmi 1 (some ⟨g, 0, none⟩) [⟨A, n, c, l⟩] (by simp) (by show (flat _ 1).length ≤ _; rw [hf, hr.1]; omega) (fun p hp => by cases List.mem_singleton.1 hp; exact ⟨hn, hc⟩) w hlv (parts_one hb hr)
  rw [show ([⟨A, n, c, l⟩] : List Part).length = 1 from rfl, hf, hck] at h
  exact h

set_option maxRecDepth 100000 in
set_option maxHeartbeats 8000000 in
theorem kdHmacC : KdHmacC := by
  intro Ak nk ck key hkc hkm hnk c A ps hps hfl hok hpc hcm w hlv hrk hp
  have HM := Lib.hid (show Mem w [blkE w.heap.size 30 (aeZ 32)] (w.alloc (.cells #[.int .u8 0, .int .u8 0, .int .u8 0, .int .u8 0, .int .u8 0, .int .u8 0, .int .u8 0, .int .u8 0, .int .u8 0, .int .u8 0, .int .u8 0, .int .u8 0, .int .u8 0, .int .u8 0, .int .u8 0, .int .u8 0, .int .u8 0, .int .u8 0, .int .u8 0, .int .u8 0, .int .u8 0, .int .u8 0, .int .u8 0, .int .u8 0, .int .u8 0, .int .u8 0, .int .u8 0, .int .u8 0, .int .u8 0, .int .u8 0, .int .u8 0, .int .u8 0] 30)) from (Mem.nil w).alloc rfl 30 #[.int .u8 0, .int .u8 0, .int .u8 0, .int .u8 0, .int .u8 0, .int .u8 0, .int .u8 0, .int .u8 0, .int .u8 0, .int .u8 0, .int .u8 0, .int .u8 0, .int .u8 0, .int .u8 0, .int .u8 0, .int .u8 0, .int .u8 0, .int .u8 0, .int .u8 0, .int .u8 0, .int .u8 0, .int .u8 0, .int .u8 0, .int .u8 0, .int .u8 0, .int .u8 0, .int .u8 0, .int .u8 0, .int .u8 0, .int .u8 0, .int .u8 0, .int .u8 0] (aeZ 32) rfl)
  have HLV := Lib.hid hlv
  have HK := Lib.hid hrk
  have hkb := hkeyB_length key
  have HTL := Lib.hid (to64_length (hkeyB key) hkb)
  obtain ⟨np, hnp⟩ : ∃ n, ps.length = n := ⟨_, rfl⟩
  have HME := Lib.hid (show hmacB key (flat ps np) = hashB 32 [] ((to64 (hkeyB key)).map (· ^^^ 0x5c) ++ hashB 32 [] ((to64 (hkeyB key)).map (· ^^^ 0x36) ++ flat ps np)) by rw [hmacB, xpad_to64 _ _ hkb, xpad_to64 _ _ hkb])
  have HZL := Lib.hid (hmacB_length key (flat ps np))
  have FC := Lib.hid (fun (W : World) h1 h2 => kdFill_any Ak nk ck key hkc hkm hnk W h1 h2)
  have HPR := Lib.hid (fun (W : World) (hb : Below w.heap.size w W) => (hp.below hb : PartsRd W w.heap.size A ps))
  have MC := Lib.hid (fun (tk : List UInt8) (ht : tk.length = 64) (W : World) (h1 : LvKdf W) (h2 : PartsRd W W.heap.size A ps) => kdMask_any tk ht 0x36 54 rfl c A ps hps (by omega) hok W h1 h2)
  rw [hnp] at MC ⊢
  obtain ⟨tk, htk⟩ : ∃ l, to64 (hkeyB key) = l := ⟨_, rfl⟩
  rw [htk] at HTL HME FC
  obtain ⟨ct, hct⟩ : ∃ c, (tk.map u8v).toArray = c := ⟨_, rfl⟩
  rw [hct] at FC
  have HCT := Lib.hid hct
  have hil : (hashB 32 [] (tk.map (· ^^^ 0x36) ++ flat ps np)).length = 32 := hashB_length _ _ _ (by omega)
  replace MC := Lib.hid (MC.out tk HTL.out)
  rw [hct] at MC
  obtain ⟨il, hie⟩ : ∃ l, hashB 32 [] (tk.map (· ^^^ 0x36) ++ flat ps np) = l := ⟨_, rfl⟩
  rw [hie] at hil HME MC
  have HIL := Lib.hid hil
  obtain ⟨ci, hci⟩ : ∃ c, (il.map u8v).toArray = c := ⟨_, rfl⟩
  rw [hci] at MC
  have HCI := Lib.hid hci
  obtain ⟨hz, hhz⟩ : ∃ l, hmacB key (flat ps np) = l := ⟨_, rfl⟩
  rw [hhz] at HME HZL ⊢
  have HZE := Lib.hid HME.out.symm
  obtain ⟨cz, hcz⟩ : ∃ c, (hz.map u8v).toArray = c := ⟨_, rfl⟩
  rw [hcz]
  have HCZ := Lib.hid hcz
  clear HME hkb hnp htk hct hil hie hci hhz hcz hlv hrk hp hfl hok hpc hcm hps
  go_enter Tryd.func11, Tryd.ntmps11
  go_upto_region 1 with fail
  generalize w.alloc (.cells #[.int .u8 0, .int .u8 0, .int .u8 0, .int .u8 0, .int .u8 0, .int .u8 0, .int .u8 0, .int .u8 0, .int .u8 0, .int .u8 0, .int .u8 0, .int .u8 0, .int .u8 0, .int .u8 0, .int .u8 0, .int .u8 0, .int .u8 0, .int .u8 0, .int .u8 0, .int .u8 0, .int .u8 0, .int .u8 0, .int .u8 0, .int .u8 0, .int .u8 0, .int .u8 0, .int .u8 0, .int .u8 0, .int .u8 0, .int .u8 0, .int .u8 0, .int .u8 0] 30) = w1 at HM ⊢
  go_wp2_with fail
  refine (FC.out _ (HLV.out.below HM.out.bel) (HM.out.arg HK.out)).mono ?_
  rintro e w2 ⟨rfl, hb⟩
  replace HM := Lib.hid (HM.out.below hb)
  clear hb FC HK
  have HA := Lib.hid (HM.out.alloc rfl 37 #[.int .u8 0, .int .u8 0, .int .u8 0, .int .u8 0, .int .u8 0, .int .u8 0, .int .u8 0, .int .u8 0, .int .u8 0, .int .u8 0, .int .u8 0, .int .u8 0, .int .u8 0, .int .u8 0, .int .u8 0, .int .u8 0, .int .u8 0, .int .u8 0, .int .u8 0, .int .u8 0, .int .u8 0, .int .u8 0, .int .u8 0, .int .u8 0, .int .u8 0, .int .u8 0, .int .u8 0, .int .u8 0, .int .u8 0, .int .u8 0, .int .u8 0, .int .u8 0, .int .u8 0, .int .u8 0, .int .u8 0, .int .u8 0, .int .u8 0, .int .u8 0, .int .u8 0, .int .u8 0, .int .u8 0, .int .u8 0, .int .u8 0, .int .u8 0, .int .u8 0, .int .u8 0, .int .u8 0, .int .u8 0, .int .u8 0, .int .u8 0, .int .u8 0, .int .u8 0, .int .u8 0, .int .u8 0, .int .u8 0, .int .u8 0, .int .u8 0, .int .u8 0, .int .u8 0, .int .u8 0, .int .u8 0, .int .u8 0, .int .u8 0, .int .u8 0] (aeZ 64) rfl)
  go_upto_region 2 with (refine wpList_store_blk rfl 37 (.tmp 5) (.tmp 8) rfl w2.heap.size (tk.map u8v) rfl (by show Value.agg ct = _; rw [HCT.out]) 37 (aeZ 64) (HA.out.blk 0 rfl) (kd_cells64 tk HTL.out) (by rw [List.length_map, HTL.out]; rfl) (u8v_one _) ?_; intro w3 hb3 hg3)
  replace HM := Lib.hid (HA.out.put 0 rfl _ hg3 hb3)
  clear hb3 hg3 HA
  replace HM := Lib.hid (show Mem w [blkE w2.heap.size 37 (tk.map u8v), blkE w.heap.size 30 (aeZ 32)] w3 from HM.out)
  generalize w2.heap.size = F at HM ⊢
  go_wp2_with (refine wpList_load_blk rfl 37 (.tmp 5) rfl F rfl 37 (tk.map u8v) (HM.out.blk 0 rfl) 64 5 Tryd.underlying37 (kd_cells64 tk HTL.out) ?_; rw [HCT.out])
  refine (MC.out _ (HLV.out.below HM.out.bel) (fun h0 => by
    obtain ⟨g, e, hg, hc⟩ := HPR.out _ HM.out.bel h0
    exact ⟨g, e, Nat.lt_of_lt_of_le hg HM.out.size, fun j hj => ⟨(hc j hj).1, (hc j hj).2.mono HM.out.size⟩⟩)).mono ?_
  rintro e w4 ⟨rfl, hb⟩
  replace HM := Lib.hid (HM.out.below hb)
  clear hb MC HPR
  have HA := Lib.hid (HM.out.alloc rfl 30 #[.int .u8 0, .int .u8 0, .int .u8 0, .int .u8 0, .int .u8 0, .int .u8 0, .int .u8 0, .int .u8 0, .int .u8 0, .int .u8 0, .int .u8 0, .int .u8 0, .int .u8 0, .int .u8 0, .int .u8 0, .int .u8 0, .int .u8 0, .int .u8 0, .int .u8 0, .int .u8 0, .int .u8 0, .int .u8 0, .int .u8 0, .int .u8 0, .int .u8 0, .int .u8 0, .int .u8 0, .int .u8 0, .int .u8 0, .int .u8 0, .int .u8 0, .int .u8 0] (aeZ 32) rfl)
  go_upto_region 3 with (refine wpList_store_blk rfl 30 (.tmp 6) (.tmp 11) rfl w4.heap.size (il.map u8v) rfl (by show Value.agg ci = _; rw [HCI.out]) 30 (aeZ 32) (HA.out.blk 0 rfl) (cells32 il HIL.out) (by rw [List.length_map, HIL.out]; rfl) (u8v_one _) ?_; intro w6 hb6 hg6)
  replace HM := Lib.hid (show Mem w [blkE w4.heap.size 30 (il.map u8v), blkE F 37 (tk.map u8v), blkE w.heap.size 30 (aeZ 32)] w6 from HA.out.put 0 rfl _ hg6 hb6)
  clear hb6 hg6 HA
  generalize w4.heap.size = P at HM ⊢
  refine wp_region_held_drew (S := fun W' => Mem w [blkE P 30 (il.map u8v), blkE F 37 (tk.map u8v)] W') (by kernel_rfl) (((HM.out.erase 2)).drew) (fun hHeld => ?_)
  replace HM := Lib.hid HM.out.drew
  generalize w6.drew = wd1 at HM hHeld ⊢
  refine take_first (v := .agg ct) 0 rfl (by kernel_rfl) (by kernel_rfl) (by kernel_rfl) (fun _ _ _ h => h) (by rw [← HCT.out]; exact yields_load_blk (by rfl) 37 (.tmp 5) rfl F rfl 37 (tk.map u8v) (fun w' hb => hb.blk 1 rfl) 64 5 Tryd.underlying37 (kd_cells64 tk HTL.out)) (by assumption) ?_
  (try simp only [Act.put, List.setIfInBounds_toArray, List.set_cons_zero, List.set_cons_succ])
  refine take_first (v := ?_) 1 rfl (by kernel_rfl) (by kernel_rfl) (by kernel_rfl) (fun _ _ _ h => h) (Or.inl ⟨by rfl, ?_⟩) (by assumption) ?_
  rotate_left
  · (intro w hSw; (try dsimp only at hSw); go_simp; try with_reducible rfl)
  (try simp only [Act.put, List.setIfInBounds_toArray, List.set_cons_zero, List.set_cons_succ])
  refine step_one 2 rfl (by kernel_rfl) (fun K hK => ?_)
  clear hHeld
  go_simp
  replace HM := Lib.hid (show Mem w [blkE wd1.heap.size 22 ([Value.slice (some ⟨P, 0, none⟩) 32 32]), blkE P 30 (il.map u8v), blkE F 37 (tk.map u8v), blkE w.heap.size 30 (aeZ 32)] (wd1.alloc (.cells #[Value.slice (some ⟨P, 0, none⟩) 32 32] 22)) from HM.out.alloc rfl 22 #[Value.slice (some ⟨P, 0, none⟩) 32 32] ([Value.slice (some ⟨P, 0, none⟩) 32 32]) rfl)
  generalize wd1.alloc (.cells #[Value.slice (some ⟨P, 0, none⟩) 32 32] 22) = wy2 at HM ⊢
  generalize wd1.heap.size = Q at HM ⊢
  refine hK.out _ _ (((HM.out.erase 0).erase 2)) (fun hHeld => ?_)
  clear hK K
  (try simp only [Act.put, List.setIfInBounds_toArray, List.set_cons_zero, List.set_cons_succ])
  refine wpAnyH_stronger (T := fun W' => Mem w [blkE Q 22 ([Value.slice (some ⟨P, 0, none⟩) 32 32]), blkE P 30 (il.map u8v), blkE F 37 (tk.map u8v)] W') (fun _ h' => h'.erase 0) _ _ _ _ ?_
  replace hHeld := (HM.out.erase 3)
  refine step_one 3 rfl (by kernel_rfl) (fun K hK => ?_)
  clear hHeld
  go_simp
  refine (kdMask_one tk HTL.out ct HCT.out 0x5c 92 rfl Q 22 (some ⟨P, 0, none⟩) 32 32 il (Nat.le_refl _) (by unfold maxLen; omega) (by omega) _ (HLV.out.below HM.out.bel) (HM.out.blk 0 rfl) (blk_all (HM.out.blk 1 rfl) HIL.out)).mono ?_
  rintro e wy3 ⟨rfl, hb⟩
  replace HM := Lib.hid (show Mem w [blkE Q 22 ([Value.slice (some ⟨P, 0, none⟩) 32 32]), blkE P 30 (il.map u8v), blkE F 37 (tk.map u8v), blkE w.heap.size 30 (aeZ 32)] wy3 from HM.out.below hb)
  rw [HZE.out, HCZ.out]
  clear hb
  go_wp2_with fail
  refine hK.out _ _ ((HM.out.erase 3)) (fun hHeld => ?_)
  clear hK K
  (try simp only [Act.put, List.setIfInBounds_toArray, List.set_cons_zero, List.set_cons_succ])
  refine step_one 4 rfl (by kernel_rfl) (fun K hK => ?_)
  clear hHeld
  refine step_store_blk _ rfl 30 (.tmp 4) (.tmp 15) rfl w.heap.size (hz.map u8v) rfl (by show Value.agg cz = _; rw [HCZ.out]) 30 (aeZ 32) (HM.out.blk 3 rfl) (cells32 hz HZL.out) (by rw [List.length_map, HZL.out]; rfl) (by intro v hv; obtain ⟨_, _, rfl⟩ := List.mem_map.1 hv; rfl) ?_
  intro wy4 hb hg
  replace HM := Lib.hid (show Mem w [blkE Q 22 ([Value.slice (some ⟨P, 0, none⟩) 32 32]), blkE P 30 (il.map u8v), blkE F 37 (tk.map u8v), blkE w.heap.size 30 (hz.map u8v)] wy4 from HM.out.put 3 rfl _ hg hb)
  clear hb hg
  refine hK.out _ _ ((HM.out.erase 3)) (fun hHeld => ?_)
  clear hK K
  (try simp only [Act.put])
  refine wpAnyH_done (by kernel_rfl) ?_ _
  clear hHeld
  go_wp2_with fail
  exact bodyPost_ret (results_blk rfl _ _ w.heap.size 30 (hz.map u8v) 32 5 rfl (HM.out.blk 3 rfl) Tryd.underlying30 (cells32 hz HZL.out)) rfl ⟨by rw [HCZ.out], HM.out.bel⟩
end Go.Proofs.YtbochejgjmjieaaDoor
