/-
  The contract of the program's DecodeTransport. No statement is proved here.
-/
import Derived.Test.YtaolhndbpgjlcaaMsPArr
import Derived.Test.YtaolhndbpgjlcaaClone
import Derived.Test.YtaolhndbpgjlcaaMsTr
import Derived.Test.YtaolhndbpgjlcaaEnt
namespace Go.Proofs.Ytaolhndbpgjlcaa
open Go.RowKit

set_option maxRecDepth 100000 in
set_option maxHeartbeats 8000000 in
theorem msDecTC : MsDecTC 20 := by
  intro A n c l hnc hcm hn w hr
  have HKD := Lib.hid (msKindC A n c l hnc hcm hn)
  have HR := Lib.hid hr
  have hl : l.length = n := hr.1
  have HM := Lib.hid (show Mem w [blkE w.heap.size 40 [Value.int .u32 0, .int .u64 0, .slice none 0 0]] (w.alloc (.cells #[.int .u32 0, .int .u64 0, .slice none 0 0] 40)) from (Mem.nil w).alloc rfl 40 #[.int .u32 0, .int .u64 0, .slice none 0 0] [Value.int .u32 0, .int .u64 0, .slice none 0 0] rfl)
  obtain ⟨k, hk⟩ : ∃ q, kindB l = q := ⟨_, rfl⟩
  have HBZ := Lib.hid (show Try.prog.built 40 [] = some #[.int .u32 0, .int .u64 0, .slice none 0 0] from by kernel_rfl)
  rw [hk] at HKD
  clear hr
  go_enter Try.func20, Try.ntmps20
  go_upto_region 1 with fail
  generalize w.alloc (.cells #[.int .u32 0, .int .u64 0, .slice none 0 0] 40) = w1 at HM ⊢
  go_wp2_with fail
  refine (HKD.out _ (HM.out.arg HR.out)).mono ?_
  rintro e w2 ⟨rfl, hb⟩
  replace HM := Lib.hid (HM.out.below hb)
  clear hb
  by_cases hk4 : k = 4
  case neg =>
    have ek : ((k : Int) != 4) = true := by rw [bne_iff_ne]; omega
    have HE := Lib.hid (show decT l = (⟨0, 0, []⟩, 4) from by rw [decT, if_neg (by rw [hk]; exact hk4)])
    clear hk hk4 hl hnc hcm hn
    go_wp2_with (first | (refine wpList_build_as rfl 40 [] rfl #[.int .u32 0, .int .u64 0, .slice none 0 0] ?_ ?_; exact HBZ.out) | (refine wpList_store_blk rfl 40 (.tmp 2) (.tmp 7) rfl w.heap.size [Value.int .u32 0, .int .u64 0, .slice none 0 0] rfl (by rfl) 40 [Value.int .u32 0, .int .u64 0, .slice none 0 0] (HM.out.blk 0 rfl) (by kernel_rfl) (by rfl) tran_one ?_; intro w9 hb9 hg9))
    exact bodyPost_ret (results_obj_tmp rfl _ _ w.heap.size 40 [Value.int .u32 0, .int .u64 0, .slice none 0 0] _ rfl hb9 Try.underlying40 rfl (by kernel_rfl)) rfl ⟨none, 0, by rw [HE.out]; rfl, by rw [HE.out]; exact Rd.nil _ _ _, (HM.out.put 0 rfl _ hg9 hb9).bel⟩
  subst hk4
  have hll := kindB_four hk
  have HE := Lib.hid (show decT l = (⟨numL ((l.drop 4).take 4), numL ((l.drop 8).take 8), l.drop 16⟩, 0) from by rw [decT, if_pos hk])
  have HL := Lib.hid hl
  obtain ⟨b, off, rfl, -, -⟩ := HR.out.at_ (by omega)
  have HS4 := Lib.hid (fun W => slice_lhm (some ⟨b, off, none⟩) n c 4 8 8 (by omega) (by omega) (by omega) W)
  rw [addrOf_lt b off 4 8 (by omega), show 8 - 4 = 4 from rfl] at HS4
  have HS8 := Lib.hid (fun W => slice_lhm (some ⟨b, off, none⟩) n c 8 16 16 (by omega) (by omega) (by omega) W)
  rw [addrOf_lt b off 8 16 (by omega), show 16 - 8 = 8 from rfl] at HS8
  have HS16 := Lib.hid (fun W => slice_lhm (some ⟨b, off, none⟩) n c 16 n n (by omega) (by omega) (by omega) W)
  rw [addrOf_lt b off 16 n (by omega)] at HS16
  have HCL := Lib.hid (fun W (h : Rd W W.heap.size (some ⟨b, off, none⟩) n l) => cloneOwn_any (some ⟨b, off + 16, none⟩) (n - 16) (n - 16) (l.drop 16) (by omega) W (h.drop 16 b off rfl (by omega)))
  have HN := Lib.hid (fun W (h : Rd W W.heap.size (some ⟨b, off, none⟩) n l) => pReadIndex_any (some ⟨b, off + 4, none⟩) 4 ((l.drop 4).take 4) W ((h.drop 4 b off rfl (by omega)).take (by omega)))
  have H8 := Lib.hid (fun W (h : Rd W W.heap.size (some ⟨b, off, none⟩) n l) => readLittle_any W.heap.size (some ⟨b, off + 8, none⟩) 8 8 ((l.drop 8).take 8) (by omega) W ((h.drop 8 b off rfl (by omega)).take (m := 8) (by omega)))
  have e8 : ((l.drop 8).take 8).take 8 = (l.drop 8).take 8 := List.take_of_length_le (by rw [List.length_take]; omega)
  rw [e8] at H8
  have hlen16 : (l.drop 16).length = n - 16 := by rw [List.length_drop, hl]
  have HE' := HE.out
  obtain ⟨v, hv⟩ : ∃ z, numL ((l.drop 4).take 4) = z := ⟨_, rfl⟩
  obtain ⟨u, hu⟩ : ∃ z, numL ((l.drop 8).take 8) = z := ⟨_, rfl⟩
  rw [hv] at HN
  rw [hu] at H8
  rw [hv, hu] at HE'
  replace HE := Lib.hid (show decT l = (⟨v, u, l.drop 16⟩, 0) ∧ (l.drop 16).length = n - 16 from ⟨HE', hlen16⟩)
  clear HE' hv hu hk hl HKD e8 hlen16
  go_upto_region 3 with fail
  refine wp_region_held_drew (S := fun W' => Mem w [] W') (by kernel_rfl) (((HM.out.erase 0)).drew) (fun hHeld => ?_)
  replace HM := Lib.hid HM.out.drew
  generalize w2.drew = wd1 at HM hHeld ⊢
  refine take_first (v := ?_) 0 rfl (by kernel_rfl) (by kernel_rfl) (by kernel_rfl) (fun _ _ _ h => h) (Or.inl ⟨by rfl, ?_⟩) (by assumption) ?_
  rotate_left
  · (intro w hSw; (try dsimp only at hSw); go_simp; try with_reducible rfl)
  (try simp only [Act.put, List.setIfInBounds_toArray, List.set_cons_zero, List.set_cons_succ])
  refine take_first (v := ?_) 1 rfl (by kernel_rfl) (by kernel_rfl) (by kernel_rfl) (fun _ _ _ h => h) (Or.inl ⟨by rfl, ?_⟩) (by assumption) ?_
  rotate_left
  · (intro w hSw; (try dsimp only at hSw); have hs := HS4.out w; rw [show ((4 : Nat) : Int) = 4 from rfl, show ((8 : Nat) : Int) = 8 from rfl] at hs; go_simp; try with_reducible rfl)
  (try simp only [Act.put, List.setIfInBounds_toArray, List.set_cons_zero, List.set_cons_succ])
  refine take_first (v := ?_) 3 rfl (by kernel_rfl) (by kernel_rfl) (by kernel_rfl) (fun _ _ _ h => h) (Or.inl ⟨by rfl, ?_⟩) (by assumption) ?_
  rotate_left
  · (intro w hSw; (try dsimp only at hSw); go_simp; try with_reducible rfl)
  (try simp only [Act.put, List.setIfInBounds_toArray, List.set_cons_zero, List.set_cons_succ])
  refine take_first (v := ?_) 4 rfl (by kernel_rfl) (by kernel_rfl) (by kernel_rfl) (fun _ _ _ h => h) (Or.inl ⟨by rfl, ?_⟩) (by assumption) ?_
  rotate_left
  · (intro w hSw; (try dsimp only at hSw); have hs := HS8.out w; rw [show ((8 : Nat) : Int) = 8 from rfl, show ((16 : Nat) : Int) = 16 from rfl] at hs; go_simp; try with_reducible rfl)
  (try simp only [Act.put, List.setIfInBounds_toArray, List.set_cons_zero, List.set_cons_succ])
  refine take_first (v := ?_) 6 rfl (by kernel_rfl) (by kernel_rfl) (by kernel_rfl) (fun _ _ _ h => h) (Or.inl ⟨by rfl, ?_⟩) (by assumption) ?_
  rotate_left
  · (intro w hSw; (try dsimp only at hSw); go_simp; try with_reducible rfl)
  (try simp only [Act.put, List.setIfInBounds_toArray, List.set_cons_zero, List.set_cons_succ])
  refine take_first (v := ?_) 7 rfl (by kernel_rfl) (by kernel_rfl) (by kernel_rfl) (fun _ _ _ h => h) (Or.inl ⟨by rfl, ?_⟩) (by assumption) ?_
  rotate_left
  · (intro w hSw; (try dsimp only at hSw); go_simp; try with_reducible rfl)
  (try simp only [Act.put, List.setIfInBounds_toArray, List.set_cons_zero, List.set_cons_succ])
  refine take_first (v := ?_) 8 rfl (by kernel_rfl) (by kernel_rfl) (by kernel_rfl) (fun _ _ _ h => h) (Or.inl ⟨by rfl, ?_⟩) (by assumption) ?_
  rotate_left
  · (intro w hSw; (try dsimp only at hSw); go_simp; try with_reducible rfl)
  (try simp only [Act.put, List.setIfInBounds_toArray, List.set_cons_zero, List.set_cons_succ])
  refine take_first (v := ?_) 9 rfl (by kernel_rfl) (by kernel_rfl) (by kernel_rfl) (fun _ _ _ h => h) (Or.inl ⟨by rfl, ?_⟩) (by assumption) ?_
  rotate_left
  · (intro w hSw; (try dsimp only at hSw); go_simp; try with_reducible rfl)
  (try simp only [Act.put, List.setIfInBounds_toArray, List.set_cons_zero, List.set_cons_succ])
  refine take_first (v := ?_) 10 rfl (by kernel_rfl) (by kernel_rfl) (by kernel_rfl) (fun _ _ _ h => h) (Or.inl ⟨by rfl, ?_⟩) (by assumption) ?_
  rotate_left
  · (intro w hSw; (try dsimp only at hSw); go_simp; try with_reducible rfl)
  (try simp only [Act.put, List.setIfInBounds_toArray, List.set_cons_zero, List.set_cons_succ])
  refine take_first (v := ?_) 11 rfl (by kernel_rfl) (by kernel_rfl) (by kernel_rfl) (fun _ _ _ h => h) (Or.inl ⟨by rfl, ?_⟩) (by assumption) ?_
  rotate_left
  · (intro w hSw; (try dsimp only at hSw); have hs := HS16.out w; rw [show ((16 : Nat) : Int) = 16 from rfl] at hs; go_simp; try with_reducible rfl)
  (try simp only [Act.put, List.setIfInBounds_toArray, List.set_cons_zero, List.set_cons_succ])
  refine step_one 2 rfl (by kernel_rfl) (fun K hK => ?_)
  clear hHeld
  go_simp
  refine (HN.out _ (HM.out.arg HR.out)).mono ?_
  rintro e wy ⟨rfl, rfl⟩
  go_wp2_with fail
  refine hK.out _ _ ((HM.out.erase 0)) (fun hHeld => ?_)
  clear hK K
  (try simp only [Act.put, List.setIfInBounds_toArray, List.set_cons_zero, List.set_cons_succ])
  refine step_one 5 rfl (by kernel_rfl) (fun K hK => ?_)
  clear hHeld
  go_simp
  refine (H8.out _ (HM.out.arg HR.out)).mono ?_
  rintro e wy ⟨rfl, rfl⟩
  go_wp2_with fail
  refine hK.out _ _ ((HM.out.erase 0)) (fun hHeld => ?_)
  clear hK K
  (try simp only [Act.put, List.setIfInBounds_toArray, List.set_cons_zero, List.set_cons_succ])
  refine step_one 12 rfl (by kernel_rfl) (fun K hK => ?_)
  clear hHeld
  go_simp
  refine (HCL.out _ (HM.out.arg HR.out)).mono ?_
  rintro e wy2 ⟨A9, c9, rfl, hown, hb9⟩
  have hm9 := HM.out.callRd hb9 hown
  generalize wy2.heap.size = w9h at hm9
  generalize wd1.heap.size = Q at hm9
  replace HM := Lib.hid (show Mem w [rdE Q w9h A9 (n - 16) (l.drop 16), blkE w.heap.size 40 [Value.int .u32 0, .int .u64 0, .slice none 0 0]] wy2 from hm9)
  clear hm9 hb9 hown
  have HBT := Lib.hid (tran_built v u A9 (n - 16) c9)
  go_wp2_with fail
  refine hK.out _ _ (((HM.out.erase 0).erase 0)) (fun hHeld => ?_)
  clear hK K
  (try simp only [Act.put, List.setIfInBounds_toArray, List.set_cons_zero, List.set_cons_succ])
  refine take_first (v := .agg (tranC v u A9 (n - 16) c9).toArray) 13 rfl (by kernel_rfl) (by kernel_rfl) (by kernel_rfl) (fun _ _ _ h => h) (yields_build_obj (by rfl) 40 [(0, .tmp 10), (1, .tmp 13), (2, .tmp 20)] rfl (tranC v u A9 (n - 16) c9).toArray HBT.out) (by assumption) ?_
  (try simp only [Act.put, List.setIfInBounds_toArray, List.set_cons_zero, List.set_cons_succ])
  refine step_one 14 rfl (by kernel_rfl) (fun K hK => ?_)
  clear hHeld
  refine step_store_blk _ rfl 40 (.tmp 2) (.tmp 21) rfl w.heap.size (tranC v u A9 (n - 16) c9) rfl (by rfl) 40 [Value.int .u32 0, .int .u64 0, .slice none 0 0] (HM.out.blk 1 rfl) (by kernel_rfl) (by rfl) tran_one ?_
  intro wy3 hb hg
  replace HM := Lib.hid (show Mem w [rdE Q w9h A9 (n - 16) (l.drop 16), blkE w.heap.size 40 (tranC v u A9 (n - 16) c9)] wy3 from HM.out.put 1 rfl _ hg hb)
  clear hb hg
  refine hK.out _ _ (((HM.out.erase 0).erase 0)) (fun hHeld => ?_)
  clear hK K
  (try simp only [Act.put])
  refine take_first (v := ?_) 15 rfl (by kernel_rfl) (by kernel_rfl) (by kernel_rfl) (fun _ _ _ h => h) (Or.inl ⟨by rfl, ?_⟩) (by assumption) ?_
  rotate_left
  · (intro w hSw; (try dsimp only at hSw); go_simp; try with_reducible rfl)
  (try simp only [Act.put, List.setIfInBounds_toArray, List.set_cons_zero, List.set_cons_succ])
  refine wpAnyH_done (by kernel_rfl) ?_ _
  clear hHeld
  have HF := Lib.hid HM.out
  clear HM
  go_wp2_with fail
  exact bodyPost_ret (results_obj_tmp rfl _ _ w.heap.size 40 (tranC v u A9 (n - 16) c9) _ rfl (HF.out.blk 1 rfl) Try.underlying40 rfl (by kernel_rfl)) rfl ⟨A9, c9, by rw [HE.out.1]; simp only [HE.out.2]; rfl, by rw [HE.out.1]; simp only [HE.out.2]; exact (HF.out.rd 0 rfl), HF.out.bel⟩
end Go.Proofs.Ytaolhndbpgjlcaa
