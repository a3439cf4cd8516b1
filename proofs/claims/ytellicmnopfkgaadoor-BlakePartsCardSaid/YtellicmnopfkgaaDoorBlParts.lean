/-
  BlakeParts returns true for every input, and changes nothing that was there: the walk, over what is asked of blake.Hash and Code.
-/
import Derived.Test.YtellicmnopfkgaaDoorBlUse
import Derived.Test.YtellicmnopfkgaaDoorBlSame
import Derived.Test.YtellicmnopfkgaaDoorBlBegun
import Derived.Test.YtellicmnopfkgaaDoorSliceOf
import Derived.Test.YtellicmnopfkgaaDoorCut
import Derived.RegionTactic
import Derived.Test.YtellicmnopfkgaaDoorBlBegun6
import Derived.Test.YtellicmnopfkgaaDoorBlUseC
import Derived.Test.YtellicmnopfkgaaDoorBlSameT
import Derived.Test.YtellicmnopfkgaaDoorBlCc
namespace Go.Proofs.YtellicmnopfkgaaDoor
open Go.RowKit

set_option maxRecDepth 100000 in
set_option maxHeartbeats 16000000 in
theorem bl_parts_walk (HH : BlHashC) (HC : BlCodeC) (w : World) (hlv : LvBlake w) (Ak : Option Addr) (nk ck : Nat) (lk : List UInt8) (Ad : Option Addr) (nd cd : Nat) (ld : List UInt8) (ia ja : Nat) (hkc : nk ≤ ck) (hkm : ck ≤ maxLen) (hrk : Rd w w.heap.size Ak nk lk) (hdc : nd ≤ cd) (hdm : cd ≤ maxLen) (hrd : Rd w w.heap.size Ad nd ld) (hia : ia ≤ 255) (hja : ja ≤ 255) :
    Calls Tryd.prog 5 #[.slice Ak nk ck, .slice Ad nd cd, .int .u8 (ia : Int), .int .u8 (ja : Int)] w fun e w' => e = .returned (.bool true) ∧ Below w.heap.size w w' := by
  have HM := Lib.hid (Mem.nil w)
  have HK := Lib.hid hrk
  have HD := Lib.hid hrd
  have HHC := Lib.hid HH
  have HLV := Lib.hid hlv
  clear hlv
  have HCC := Lib.hid HC
  have HBG := Lib.hid (bl_begun_any HH)
  clear hrk hrd HH HC
  go_enter Tryd.func5, Tryd.ntmps5
  go_wp2_with fail
  refine (cut_any _ Ak nk ck 32 lk hkc hkm _ (HK.out.below HM.out.bel)).mono ?_
  rintro e wc ⟨rfl, hcut, rfl⟩
  clear hcut
  go_wp2_with fail
  refine (cut_any _ Ad nd cd 200 ld hdc hdm _ (HD.out.below HM.out.bel)).mono ?_
  rintro e wc ⟨rfl, hcut, rfl⟩
  clear hcut
  obtain ⟨kn, hkn⟩ : ∃ n, min nk 32 = n := ⟨_, rfl⟩
  obtain ⟨dn, hdn⟩ : ∃ n, min nd 200 = n := ⟨_, rfl⟩
  have k1 : kn ≤ ck := by omega
  have k2 : kn ≤ 32 := by omega
  have d1 : dn ≤ cd := by omega
  have d2 : dn ≤ 200 := by omega
  replace HK := Lib.hid (HK.out.take (m := kn) (by omega))
  replace HD := Lib.hid (HD.out.take (m := dn) (by omega))
  rw [hkn, hdn]
  clear hkn hdn
  generalize lk.take kn = kl at HK
  generalize ld.take dn = dl at HD
  obtain ⟨i, hi⟩ : ∃ n, min ia dn = n := ⟨_, rfl⟩
  obtain ⟨jm, hjm⟩ : ∃ n, min ja dn = n := ⟨_, rfl⟩
  obtain ⟨j, hj⟩ : ∃ n, max i jm = n := ⟨_, rfl⟩
  have hid : i ≤ dn := by omega
  have hij : i ≤ j := by omega
  have hjd : j ≤ dn := by omega
  have m1 : (if dn < ia then (dn : Int) else (ia : Int)) = (i : Int) := by split <;> omega
  have m2 : (if (dn : Int) < (ia : Int) then (dn : Int) else (ia : Int)) = (i : Int) := by split <;> omega
  have m3 : (if dn < ja then (dn : Int) else (ja : Int)) = (jm : Int) := by split <;> omega
  have m4 : (if (dn : Int) < (ja : Int) then (dn : Int) else (ja : Int)) = (jm : Int) := by split <;> omega
  have m5 : (if i < jm then (jm : Int) else (i : Int)) = (j : Int) := by split <;> omega
  have m6 : (if (i : Int) < (jm : Int) then (jm : Int) else (i : Int)) = (j : Int) := by split <;> omega
  clear hi hj hjm
  have R1 := Lib.hid (HD.out.take (m := i) hid)
  have R2 := Lib.hid (show Rd w w.heap.size (addrOf Ad i cd) (j - i) ((dl.take j).drop i) from by
    have h := (HD.out.take (m := j) hjd).behind i cd hij (by omega)
    exact h)
  have R3 := Lib.hid (HD.out.behind j cd hjd d1)
  have R4 := Lib.hid (HD.out.behind i cd hid d1)
  have F3 := Lib.hid (show dl.take i ++ (dl.take j).drop i ++ dl.drop j = dl by
    rw [show dl.take i = (dl.take j).take i by rw [List.take_take, Nat.min_eq_left hij], List.take_append_drop, List.take_append_drop])
  have F4 := Lib.hid (show dl.take i ++ [] ++ dl.drop i = dl by rw [List.append_nil, List.take_append_drop])
  generalize dl.take i = l1 at R1 F3 F4
  generalize (dl.take j).drop i = l2 at R2 F3
  generalize dl.drop j = l3 at R3 F3
  generalize dl.drop i = l4 at R4 F4
  obtain ⟨h32, hh32⟩ : ∃ c, ((hashB 32 [] dl).map u8v).toArray = c := ⟨_, rfl⟩
  obtain ⟨h16, hh16⟩ : ∃ c, ((codeB kl dl).map u8v).toArray = c := ⟨_, rfl⟩
  have HE32 := Lib.hid (fun w' : World => run_key_same (hashB 32 [] dl) (hashB_length _ _ _ (by omega)) w')
  have HE16 := Lib.hid (fun w' : World => run_tag_eq (codeB kl dl) (codeB_length _ _) w')
  rw [hh32] at HE32
  rw [hh16] at HE16
  have HH32 := Lib.hid hh32
  have HH16 := Lib.hid hh16
  clear hh32 hh16
  go_upto_region 4 with fail
  clear m1 m2 m3 m4 m5 m6
  have bi : (i : Int) ≤ (cd : Int) := by omega
  refine wp_region_held_drew (S := fun W' => Mem w [] W') (by kernel_rfl) ((HM.out).drew) (fun hHeld => ?_)
  replace HM := Lib.hid HM.out.drew
  generalize w.drew = wd1 at HM hHeld ⊢
  refine take_first (v := ?_) 0 rfl (by kernel_rfl) (by kernel_rfl) (by kernel_rfl) (fun _ _ _ h => h) (Or.inl ⟨by rfl, ?_⟩) (by assumption) ?_
  rotate_left
  · (intro w hSw; (try dsimp only at hSw); go_simp; try with_reducible rfl)
  (try simp only [Act.put, List.setIfInBounds_toArray, List.set_cons_zero, List.set_cons_succ])
  refine take_first (v := ?_) 1 rfl (by kernel_rfl) (by kernel_rfl) (by kernel_rfl) (fun _ _ _ h => h) (Or.inl ⟨by rfl, ?_⟩) (by assumption) ?_
  rotate_left
  · (intro w hSw; (try dsimp only at hSw); go_simp; try with_reducible rfl)
  (try simp only [Act.put, List.setIfInBounds_toArray, List.set_cons_zero, List.set_cons_succ])
  refine take_first (v := ?_) 2 rfl (by kernel_rfl) (by kernel_rfl) (by kernel_rfl) (fun _ _ _ h => h) (Or.inl ⟨by rfl, ?_⟩) (by assumption) ?_
  rotate_left
  · (intro w hSw; (try dsimp only at hSw); go_simp; try with_reducible rfl)
  (try simp only [Act.put, List.setIfInBounds_toArray, List.set_cons_zero, List.set_cons_succ])
  refine take_first (v := ?_) 3 rfl (by kernel_rfl) (by kernel_rfl) (by kernel_rfl) (fun _ _ _ h => h) (Or.inl ⟨by rfl, ?_⟩) (by assumption) ?_
  rotate_left
  · (intro w hSw; (try dsimp only at hSw); go_simp; try with_reducible rfl)
  (try simp only [Act.put, List.setIfInBounds_toArray, List.set_cons_zero, List.set_cons_succ])
  refine take_first (v := ?_) 4 rfl (by kernel_rfl) (by kernel_rfl) (by kernel_rfl) (fun _ _ _ h => h) (Or.inl ⟨by rfl, ?_⟩) (by assumption) ?_
  rotate_left
  · (intro w hSw; (try dsimp only at hSw); go_simp; try with_reducible rfl)
  (try simp only [Act.put, List.setIfInBounds_toArray, List.set_cons_zero, List.set_cons_succ])
  refine take_first (v := ?_) 5 rfl (by kernel_rfl) (by kernel_rfl) (by kernel_rfl) (fun _ _ _ h => h) (Or.inl ⟨by rfl, ?_⟩) (by assumption) ?_
  rotate_left
  · (intro w hSw; (try dsimp only at hSw); go_simp; try with_reducible rfl)
  (try simp only [Act.put, List.setIfInBounds_toArray, List.set_cons_zero, List.set_cons_succ])
  refine take_first (v := ?_) 6 rfl (by kernel_rfl) (by kernel_rfl) (by kernel_rfl) (fun _ _ _ h => h) (Or.inl ⟨by rfl, ?_⟩) (by assumption) ?_
  rotate_left
  · (intro w hSw; (try dsimp only at hSw); have s := slice_lh Ad dn cd i j hij hjd d1 w; go_simp; try with_reducible rfl)
  (try simp only [Act.put, List.setIfInBounds_toArray, List.set_cons_zero, List.set_cons_succ])
  refine take_first (v := ?_) 7 rfl (by kernel_rfl) (by kernel_rfl) (by kernel_rfl) (fun _ _ _ h => h) (Or.inl ⟨by rfl, ?_⟩) (by assumption) ?_
  rotate_left
  · (intro w hSw; (try dsimp only at hSw); go_simp; try with_reducible rfl)
  (try simp only [Act.put, List.setIfInBounds_toArray, List.set_cons_zero, List.set_cons_succ])
  refine take_first (v := ?_) 8 rfl (by kernel_rfl) (by kernel_rfl) (by kernel_rfl) (fun _ _ _ h => h) (Or.inl ⟨by rfl, ?_⟩) (by assumption) ?_
  rotate_left
  · (intro w hSw; (try dsimp only at hSw); go_simp; try with_reducible rfl)
  (try simp only [Act.put, List.setIfInBounds_toArray, List.set_cons_zero, List.set_cons_succ])
  refine take_first (v := ?_) 9 rfl (by kernel_rfl) (by kernel_rfl) (by kernel_rfl) (fun _ _ _ h => h) (Or.inl ⟨by rfl, ?_⟩) (by assumption) ?_
  rotate_left
  · (intro w hSw; (try dsimp only at hSw); have s := slice_l Ad dn cd j hjd w; go_simp; try with_reducible rfl)
  (try simp only [Act.put, List.setIfInBounds_toArray, List.set_cons_zero, List.set_cons_succ])
  refine take_first (v := ?_) 12 rfl (by kernel_rfl) (by kernel_rfl) (by kernel_rfl) (fun _ _ _ h => h) (Or.inl ⟨by rfl, ?_⟩) (by assumption) ?_
  rotate_left
  · (intro w hSw; (try dsimp only at hSw); go_simp; try with_reducible rfl)
  (try simp only [Act.put, List.setIfInBounds_toArray, List.set_cons_zero, List.set_cons_succ])
  refine step_two 10 13 rfl rfl (by kernel_rfl) (fun K hK => ?_) (fun K hK => ?_)
  · clear hHeld
    go_simp
    replace HM := Lib.hid (show Mem w [blkE wd1.heap.size 22 ([Value.slice Ad i cd, .slice (addrOf Ad i cd) (j - i) (cd - i), .slice (addrOf Ad j cd) (dn - j) (cd - j)])] (wd1.alloc (.cells #[Value.slice Ad i cd, .slice (addrOf Ad i cd) (j - i) (cd - i), .slice (addrOf Ad j cd) (dn - j) (cd - j)] 22)) from HM.out.alloc rfl 22 #[Value.slice Ad i cd, .slice (addrOf Ad i cd) (j - i) (cd - i), .slice (addrOf Ad j cd) (dn - j) (cd - j)] ([Value.slice Ad i cd, .slice (addrOf Ad i cd) (j - i) (cd - i), .slice (addrOf Ad j cd) (dn - j) (cd - j)]) rfl)
    generalize wd1.alloc (.cells #[Value.slice Ad i cd, .slice (addrOf Ad i cd) (j - i) (cd - i), .slice (addrOf Ad j cd) (dn - j) (cd - j)] 22) = wy2 at HM ⊢
    generalize wd1.heap.size = Q10 at HM ⊢
    refine hK.out _ _ ((HM.out.erase 0)) (fun hHeld => ?_)
    clear hK K
    (try simp only [Act.put, List.setIfInBounds_toArray, List.set_cons_zero, List.set_cons_succ])
    refine wpAnyH_stronger (T := fun W' => Mem w [blkE Q10 22 ([Value.slice Ad i cd, .slice (addrOf Ad i cd) (j - i) (cd - i), .slice (addrOf Ad j cd) (dn - j) (cd - j)])] W') (fun _ h' => h'.erase 0) _ _ _ _ ?_
    replace hHeld := HM.out
    refine step_two 11 13 rfl rfl (by kernel_rfl) (fun K hK => ?_) (fun K hK => ?_)
    · clear hHeld
      go_simp
      refine (hash_three HHC.out Q10 22 Ad i cd l1 (addrOf Ad i cd) (j - i) (cd - i) l2 (addrOf Ad j cd) (dn - j) (cd - j) l3 (by omega) hdm (by omega) (by omega) (by omega) (by omega) (by omega) (by omega) (by omega) _ (HLV.out.below HM.out.bel) (HM.out.blk 0 rfl) (HM.out.arg R1.out) (HM.out.arg R2.out) (HM.out.arg R3.out)).mono ?_
      rintro e wy3 ⟨rfl, hb⟩
      replace HM := Lib.hid (show Mem w [blkE Q10 22 ([Value.slice Ad i cd, .slice (addrOf Ad i cd) (j - i) (cd - i), .slice (addrOf Ad j cd) (dn - j) (cd - j)])] wy3 from HM.out.below hb)
      rw [F3.out, HH32.out]
      clear hb
      go_wp2_with fail
      refine hK.out _ _ (HM.out) (fun hHeld => ?_)
      clear hK K
      (try simp only [Act.put, List.setIfInBounds_toArray, List.set_cons_zero, List.set_cons_succ])
      refine step_one 13 rfl (by kernel_rfl) (fun K hK => ?_)
      clear hHeld
      go_simp
      replace HM := Lib.hid (show Mem w [blkE wy3.heap.size 22 ([Value.slice Ad dn cd]), blkE Q10 22 ([Value.slice Ad i cd, .slice (addrOf Ad i cd) (j - i) (cd - i), .slice (addrOf Ad j cd) (dn - j) (cd - j)])] (wy3.alloc (.cells #[Value.slice Ad dn cd] 22)) from HM.out.alloc rfl 22 #[Value.slice Ad dn cd] ([Value.slice Ad dn cd]) rfl)
      generalize wy3.alloc (.cells #[Value.slice Ad dn cd] 22) = wy4 at HM ⊢
      generalize wy3.heap.size = Q13 at HM ⊢
      refine hK.out _ _ ((HM.out.erase 0)) (fun hHeld => ?_)
      clear hK K
      (try simp only [Act.put, List.setIfInBounds_toArray, List.set_cons_zero, List.set_cons_succ])
      refine wpAnyH_stronger (T := fun W' => Mem w [blkE Q13 22 ([Value.slice Ad dn cd]), blkE Q10 22 ([Value.slice Ad i cd, .slice (addrOf Ad i cd) (j - i) (cd - i), .slice (addrOf Ad j cd) (dn - j) (cd - j)])] W') (fun _ h' => h'.erase 0) _ _ _ _ ?_
      replace hHeld := HM.out
      refine step_one 14 rfl (by kernel_rfl) (fun K hK => ?_)
      clear hHeld
      go_simp
      refine (hash_one HHC.out Q13 22 Ad dn cd dl d1 hdm (by omega) _ (HLV.out.below HM.out.bel) (HM.out.blk 0 rfl) (HM.out.arg HD.out)).mono ?_
      rintro e wy5 ⟨rfl, hb⟩
      replace HM := Lib.hid (show Mem w [blkE Q13 22 ([Value.slice Ad dn cd]), blkE Q10 22 ([Value.slice Ad i cd, .slice (addrOf Ad i cd) (j - i) (cd - i), .slice (addrOf Ad j cd) (dn - j) (cd - j)])] wy5 from HM.out.below hb)
      rw [HH32.out]
      clear hb
      go_wp2_with fail
      refine hK.out _ _ (HM.out) (fun hHeld => ?_)
      clear hK K
      (try simp only [Act.put, List.setIfInBounds_toArray, List.set_cons_zero, List.set_cons_succ])
      refine take_first (v := ?_) 15 rfl (by kernel_rfl) (by kernel_rfl) (by kernel_rfl) (fun _ _ _ h => h) (Or.inl ⟨by rfl, ?_⟩) (by assumption) ?_
      rotate_left
      · (intro w hSw; (try dsimp only at hSw); have ex := HE32.out w; go_simp; try with_reducible rfl)
      (try simp only [Act.put, List.setIfInBounds_toArray, List.set_cons_zero, List.set_cons_succ])
      refine take_first (v := ?_) 16 rfl (by kernel_rfl) (by kernel_rfl) (by kernel_rfl) (fun _ _ _ h => h) (Or.inl ⟨by rfl, ?_⟩) (by assumption) ?_
      rotate_left
      · (intro w hSw; (try dsimp only at hSw); go_simp; try with_reducible rfl)
      (try simp only [Act.put, List.setIfInBounds_toArray, List.set_cons_zero, List.set_cons_succ])
      refine take_first (v := ?_) 17 rfl (by kernel_rfl) (by kernel_rfl) (by kernel_rfl) (fun _ _ _ h => h) (Or.inl ⟨by rfl, ?_⟩) (by assumption) ?_
      rotate_left
      · (intro w hSw; (try dsimp only at hSw); go_simp; try with_reducible rfl)
      (try simp only [Act.put, List.setIfInBounds_toArray, List.set_cons_zero, List.set_cons_succ])
      refine take_first (v := ?_) 18 rfl (by kernel_rfl) (by kernel_rfl) (by kernel_rfl) (fun _ _ _ h => h) (Or.inl ⟨by rfl, ?_⟩) (by assumption) ?_
      rotate_left
      · (intro w hSw; (try dsimp only at hSw); go_simp; try with_reducible rfl)
      (try simp only [Act.put, List.setIfInBounds_toArray, List.set_cons_zero, List.set_cons_succ])
      refine take_first (v := ?_) 19 rfl (by kernel_rfl) (by kernel_rfl) (by kernel_rfl) (fun _ _ _ h => h) (Or.inl ⟨by rfl, ?_⟩) (by assumption) ?_
      rotate_left
      · (intro w hSw; (try dsimp only at hSw); go_simp; try with_reducible rfl)
      (try simp only [Act.put, List.setIfInBounds_toArray, List.set_cons_zero, List.set_cons_succ])
      refine take_first (v := ?_) 20 rfl (by kernel_rfl) (by kernel_rfl) (by kernel_rfl) (fun _ _ _ h => h) (Or.inl ⟨by rfl, ?_⟩) (by assumption) ?_
      rotate_left
      · (intro w hSw; (try dsimp only at hSw); go_simp; try with_reducible rfl)
      (try simp only [Act.put, List.setIfInBounds_toArray, List.set_cons_zero, List.set_cons_succ])
      refine take_first (v := ?_) 21 rfl (by kernel_rfl) (by kernel_rfl) (by kernel_rfl) (fun _ _ _ h => h) (Or.inl ⟨by rfl, ?_⟩) (by assumption) ?_
      rotate_left
      · (intro w hSw; (try dsimp only at hSw); go_simp; try with_reducible rfl)
      (try simp only [Act.put, List.setIfInBounds_toArray, List.set_cons_zero, List.set_cons_succ])
      refine take_first (v := ?_) 22 rfl (by kernel_rfl) (by kernel_rfl) (by kernel_rfl) (fun _ _ _ h => h) (Or.inl ⟨by rfl, ?_⟩) (by assumption) ?_
      rotate_left
      · (intro w hSw; (try dsimp only at hSw); go_simp; try with_reducible rfl)
      (try simp only [Act.put, List.setIfInBounds_toArray, List.set_cons_zero, List.set_cons_succ])
      refine take_first (v := ?_) 23 rfl (by kernel_rfl) (by kernel_rfl) (by kernel_rfl) (fun _ _ _ h => h) (Or.inl ⟨by rfl, ?_⟩) (by assumption) ?_
      rotate_left
      · (intro w hSw; (try dsimp only at hSw); have s := slice_l Ad dn cd i hid w; go_simp; try with_reducible rfl)
      (try simp only [Act.put, List.setIfInBounds_toArray, List.set_cons_zero, List.set_cons_succ])
      refine take_first (v := ?_) 26 rfl (by kernel_rfl) (by kernel_rfl) (by kernel_rfl) (fun _ _ _ h => h) (Or.inl ⟨by rfl, ?_⟩) (by assumption) ?_
      rotate_left
      · (intro w hSw; (try dsimp only at hSw); go_simp; try with_reducible rfl)
      (try simp only [Act.put, List.setIfInBounds_toArray, List.set_cons_zero, List.set_cons_succ])
      refine take_first (v := ?_) 27 rfl (by kernel_rfl) (by kernel_rfl) (by kernel_rfl) (fun _ _ _ h => h) (Or.inl ⟨by rfl, ?_⟩) (by assumption) ?_
      rotate_left
      · (intro w hSw; (try dsimp only at hSw); go_simp; try with_reducible rfl)
      (try simp only [Act.put, List.setIfInBounds_toArray, List.set_cons_zero, List.set_cons_succ])
      refine step_two 24 28 rfl rfl (by kernel_rfl) (fun K hK => ?_) (fun K hK => ?_)
      · clear hHeld
        go_simp
        replace HM := Lib.hid (show Mem w [blkE wy5.heap.size 22 ([Value.slice Ad i cd, .slice none 0 0, .slice (addrOf Ad i cd) (dn - i) (cd - i)]), blkE Q13 22 ([Value.slice Ad dn cd]), blkE Q10 22 ([Value.slice Ad i cd, .slice (addrOf Ad i cd) (j - i) (cd - i), .slice (addrOf Ad j cd) (dn - j) (cd - j)])] (wy5.alloc (.cells #[Value.slice Ad i cd, .slice none 0 0, .slice (addrOf Ad i cd) (dn - i) (cd - i)] 22)) from HM.out.alloc rfl 22 #[Value.slice Ad i cd, .slice none 0 0, .slice (addrOf Ad i cd) (dn - i) (cd - i)] ([Value.slice Ad i cd, .slice none 0 0, .slice (addrOf Ad i cd) (dn - i) (cd - i)]) rfl)
        generalize wy5.alloc (.cells #[Value.slice Ad i cd, .slice none 0 0, .slice (addrOf Ad i cd) (dn - i) (cd - i)] 22) = wy6 at HM ⊢
        generalize wy5.heap.size = Q24 at HM ⊢
        refine hK.out _ _ ((HM.out.erase 0)) (fun hHeld => ?_)
        clear hK K
        (try simp only [Act.put, List.setIfInBounds_toArray, List.set_cons_zero, List.set_cons_succ])
        refine wpAnyH_stronger (T := fun W' => Mem w [blkE Q24 22 ([Value.slice Ad i cd, .slice none 0 0, .slice (addrOf Ad i cd) (dn - i) (cd - i)]), blkE Q13 22 ([Value.slice Ad dn cd]), blkE Q10 22 ([Value.slice Ad i cd, .slice (addrOf Ad i cd) (j - i) (cd - i), .slice (addrOf Ad j cd) (dn - j) (cd - j)])] W') (fun _ h' => h'.erase 0) _ _ _ _ ?_
        replace hHeld := HM.out
        refine step_two 25 28 rfl rfl (by kernel_rfl) (fun K hK => ?_) (fun K hK => ?_)
        · clear hHeld
          go_simp
          refine (code_three HCC.out Ak kn ck kl k1 hkm (by omega) Q24 22 Ad i cd l1 none 0 0 [] (addrOf Ad i cd) (dn - i) (cd - i) l4 (by omega) hdm (by omega) (Nat.le_refl _) (Nat.zero_le _) (by omega) (by omega) (by omega) (by omega) _ (HLV.out.below HM.out.bel) (HM.out.blk 0 rfl) (HM.out.arg HK.out) (HM.out.arg R1.out) (Rd.nil _ _ _) (HM.out.arg R4.out)).mono ?_
          rintro e wy7 ⟨rfl, hb⟩
          replace HM := Lib.hid (show Mem w [blkE Q24 22 ([Value.slice Ad i cd, .slice none 0 0, .slice (addrOf Ad i cd) (dn - i) (cd - i)]), blkE Q13 22 ([Value.slice Ad dn cd]), blkE Q10 22 ([Value.slice Ad i cd, .slice (addrOf Ad i cd) (j - i) (cd - i), .slice (addrOf Ad j cd) (dn - j) (cd - j)])] wy7 from HM.out.below hb)
          rw [F4.out, HH16.out]
          clear hb
          go_wp2_with fail
          refine hK.out _ _ (HM.out) (fun hHeld => ?_)
          clear hK K
          (try simp only [Act.put, List.setIfInBounds_toArray, List.set_cons_zero, List.set_cons_succ])
          refine step_one 28 rfl (by kernel_rfl) (fun K hK => ?_)
          clear hHeld
          go_simp
          replace HM := Lib.hid (show Mem w [blkE wy7.heap.size 22 ([Value.slice Ad dn cd]), blkE Q24 22 ([Value.slice Ad i cd, .slice none 0 0, .slice (addrOf Ad i cd) (dn - i) (cd - i)]), blkE Q13 22 ([Value.slice Ad dn cd]), blkE Q10 22 ([Value.slice Ad i cd, .slice (addrOf Ad i cd) (j - i) (cd - i), .slice (addrOf Ad j cd) (dn - j) (cd - j)])] (wy7.alloc (.cells #[Value.slice Ad dn cd] 22)) from HM.out.alloc rfl 22 #[Value.slice Ad dn cd] ([Value.slice Ad dn cd]) rfl)
          generalize wy7.alloc (.cells #[Value.slice Ad dn cd] 22) = wy8 at HM ⊢
          generalize wy7.heap.size = Q28 at HM ⊢
          refine hK.out _ _ ((HM.out.erase 0)) (fun hHeld => ?_)
          clear hK K
          (try simp only [Act.put, List.setIfInBounds_toArray, List.set_cons_zero, List.set_cons_succ])
          refine wpAnyH_stronger (T := fun W' => Mem w [blkE Q28 22 ([Value.slice Ad dn cd]), blkE Q24 22 ([Value.slice Ad i cd, .slice none 0 0, .slice (addrOf Ad i cd) (dn - i) (cd - i)]), blkE Q13 22 ([Value.slice Ad dn cd]), blkE Q10 22 ([Value.slice Ad i cd, .slice (addrOf Ad i cd) (j - i) (cd - i), .slice (addrOf Ad j cd) (dn - j) (cd - j)])] W') (fun _ h' => h'.erase 0) _ _ _ _ ?_
          replace hHeld := HM.out
          refine step_one 29 rfl (by kernel_rfl) (fun K hK => ?_)
          clear hHeld
          go_simp
          refine (code_one HCC.out Ak kn ck kl k1 hkm (by omega) Q28 22 Ad dn cd dl d1 hdm (by omega) _ (HLV.out.below HM.out.bel) (HM.out.blk 0 rfl) (HM.out.arg HK.out) (HM.out.arg HD.out)).mono ?_
          rintro e wy9 ⟨rfl, hb⟩
          replace HM := Lib.hid (show Mem w [blkE Q28 22 ([Value.slice Ad dn cd]), blkE Q24 22 ([Value.slice Ad i cd, .slice none 0 0, .slice (addrOf Ad i cd) (dn - i) (cd - i)]), blkE Q13 22 ([Value.slice Ad dn cd]), blkE Q10 22 ([Value.slice Ad i cd, .slice (addrOf Ad i cd) (j - i) (cd - i), .slice (addrOf Ad j cd) (dn - j) (cd - j)])] wy9 from HM.out.below hb)
          rw [HH16.out]
          clear hb
          go_wp2_with fail
          refine hK.out _ _ (HM.out) (fun hHeld => ?_)
          clear hK K
          (try simp only [Act.put, List.setIfInBounds_toArray, List.set_cons_zero, List.set_cons_succ])
          refine take_first (v := ?_) 30 rfl (by kernel_rfl) (by kernel_rfl) (by kernel_rfl) (fun _ _ _ h => h) (Or.inl ⟨by rfl, ?_⟩) (by assumption) ?_
          rotate_left
          · (intro w hSw; (try dsimp only at hSw); have ex := HE16.out w; go_simp; try with_reducible rfl)
          (try simp only [Act.put, List.setIfInBounds_toArray, List.set_cons_zero, List.set_cons_succ])
          refine take_first (v := ?_) 31 rfl (by kernel_rfl) (by kernel_rfl) (by kernel_rfl) (fun _ _ _ h => h) (Or.inl ⟨by rfl, ?_⟩) (by assumption) ?_
          rotate_left
          · (intro w hSw; (try dsimp only at hSw); go_simp; try with_reducible rfl)
          (try simp only [Act.put, List.setIfInBounds_toArray, List.set_cons_zero, List.set_cons_succ])
          refine take_first (v := ?_) 32 rfl (by kernel_rfl) (by kernel_rfl) (by kernel_rfl) (fun _ _ _ h => h) (Or.inl ⟨by rfl, ?_⟩) (by assumption) ?_
          rotate_left
          · (intro w hSw; (try dsimp only at hSw); go_simp; try with_reducible rfl)
          (try simp only [Act.put, List.setIfInBounds_toArray, List.set_cons_zero, List.set_cons_succ])
          refine step_one 33 rfl (by kernel_rfl) (fun K hK => ?_)
          clear hHeld
          go_simp
          refine (HBG.out _ (HLV.out.below HM.out.bel)).mono ?_
          rintro e wy10 ⟨rfl, hb⟩
          replace HM := Lib.hid (show Mem w [blkE Q28 22 ([Value.slice Ad dn cd]), blkE Q24 22 ([Value.slice Ad i cd, .slice none 0 0, .slice (addrOf Ad i cd) (dn - i) (cd - i)]), blkE Q13 22 ([Value.slice Ad dn cd]), blkE Q10 22 ([Value.slice Ad i cd, .slice (addrOf Ad i cd) (j - i) (cd - i), .slice (addrOf Ad j cd) (dn - j) (cd - j)])] wy10 from HM.out.below hb)
          clear hb
          go_wp2_with fail
          refine hK.out _ _ (HM.out) (fun hHeld => ?_)
          clear hK K
          (try simp only [Act.put, List.setIfInBounds_toArray, List.set_cons_zero, List.set_cons_succ])
          refine take_first (v := ?_) 34 rfl (by kernel_rfl) (by kernel_rfl) (by kernel_rfl) (fun _ _ _ h => h) (Or.inl ⟨by rfl, ?_⟩) (by assumption) ?_
          rotate_left
          · (intro w hSw; (try dsimp only at hSw); go_simp; try with_reducible rfl)
          (try simp only [Act.put, List.setIfInBounds_toArray, List.set_cons_zero, List.set_cons_succ])
          refine take_first (v := ?_) 35 rfl (by kernel_rfl) (by kernel_rfl) (by kernel_rfl) (fun _ _ _ h => h) (Or.inl ⟨by rfl, ?_⟩) (by assumption) ?_
          rotate_left
          · (intro w hSw; (try dsimp only at hSw); go_simp; try with_reducible rfl)
          (try simp only [Act.put, List.setIfInBounds_toArray, List.set_cons_zero, List.set_cons_succ])
          refine wpAnyH_done (by kernel_rfl) ?_ _
          have HF := Lib.hid HM.out.bel
          clear HM hHeld
          go_wp2_with fail
          go_ret
          exact ⟨rfl, HF.out⟩
        · clear hHeld
          go_simp
          replace HM := Lib.hid (show Mem w [blkE wy6.heap.size 22 ([Value.slice Ad dn cd]), blkE Q24 22 ([Value.slice Ad i cd, .slice none 0 0, .slice (addrOf Ad i cd) (dn - i) (cd - i)]), blkE Q13 22 ([Value.slice Ad dn cd]), blkE Q10 22 ([Value.slice Ad i cd, .slice (addrOf Ad i cd) (j - i) (cd - i), .slice (addrOf Ad j cd) (dn - j) (cd - j)])] (wy6.alloc (.cells #[Value.slice Ad dn cd] 22)) from HM.out.alloc rfl 22 #[Value.slice Ad dn cd] ([Value.slice Ad dn cd]) rfl)
          generalize wy6.alloc (.cells #[Value.slice Ad dn cd] 22) = wy7 at HM ⊢
          generalize wy6.heap.size = Q28 at HM ⊢
          refine hK.out _ _ ((HM.out.erase 0)) (fun hHeld => ?_)
          clear hK K
          (try simp only [Act.put, List.setIfInBounds_toArray, List.set_cons_zero, List.set_cons_succ])
          refine wpAnyH_stronger (T := fun W' => Mem w [blkE Q28 22 ([Value.slice Ad dn cd]), blkE Q24 22 ([Value.slice Ad i cd, .slice none 0 0, .slice (addrOf Ad i cd) (dn - i) (cd - i)]), blkE Q13 22 ([Value.slice Ad dn cd]), blkE Q10 22 ([Value.slice Ad i cd, .slice (addrOf Ad i cd) (j - i) (cd - i), .slice (addrOf Ad j cd) (dn - j) (cd - j)])] W') (fun _ h' => h'.erase 0) _ _ _ _ ?_
          replace hHeld := HM.out
          refine step_one 25 rfl (by kernel_rfl) (fun K hK => ?_)
          clear hHeld
          go_simp
          refine (code_three HCC.out Ak kn ck kl k1 hkm (by omega) Q24 22 Ad i cd l1 none 0 0 [] (addrOf Ad i cd) (dn - i) (cd - i) l4 (by omega) hdm (by omega) (Nat.le_refl _) (Nat.zero_le _) (by omega) (by omega) (by omega) (by omega) _ (HLV.out.below HM.out.bel) (HM.out.blk 1 rfl) (HM.out.arg HK.out) (HM.out.arg R1.out) (Rd.nil _ _ _) (HM.out.arg R4.out)).mono ?_
          rintro e wy8 ⟨rfl, hb⟩
          replace HM := Lib.hid (show Mem w [blkE Q28 22 ([Value.slice Ad dn cd]), blkE Q24 22 ([Value.slice Ad i cd, .slice none 0 0, .slice (addrOf Ad i cd) (dn - i) (cd - i)]), blkE Q13 22 ([Value.slice Ad dn cd]), blkE Q10 22 ([Value.slice Ad i cd, .slice (addrOf Ad i cd) (j - i) (cd - i), .slice (addrOf Ad j cd) (dn - j) (cd - j)])] wy8 from HM.out.below hb)
          rw [F4.out, HH16.out]
          clear hb
          go_wp2_with fail
          refine hK.out _ _ (HM.out) (fun hHeld => ?_)
          clear hK K
          (try simp only [Act.put, List.setIfInBounds_toArray, List.set_cons_zero, List.set_cons_succ])
          refine step_one 29 rfl (by kernel_rfl) (fun K hK => ?_)
          clear hHeld
          go_simp
          refine (code_one HCC.out Ak kn ck kl k1 hkm (by omega) Q28 22 Ad dn cd dl d1 hdm (by omega) _ (HLV.out.below HM.out.bel) (HM.out.blk 0 rfl) (HM.out.arg HK.out) (HM.out.arg HD.out)).mono ?_
          rintro e wy9 ⟨rfl, hb⟩
          replace HM := Lib.hid (show Mem w [blkE Q28 22 ([Value.slice Ad dn cd]), blkE Q24 22 ([Value.slice Ad i cd, .slice none 0 0, .slice (addrOf Ad i cd) (dn - i) (cd - i)]), blkE Q13 22 ([Value.slice Ad dn cd]), blkE Q10 22 ([Value.slice Ad i cd, .slice (addrOf Ad i cd) (j - i) (cd - i), .slice (addrOf Ad j cd) (dn - j) (cd - j)])] wy9 from HM.out.below hb)
          rw [HH16.out]
          clear hb
          go_wp2_with fail
          refine hK.out _ _ (HM.out) (fun hHeld => ?_)
          clear hK K
          (try simp only [Act.put, List.setIfInBounds_toArray, List.set_cons_zero, List.set_cons_succ])
          refine take_first (v := ?_) 30 rfl (by kernel_rfl) (by kernel_rfl) (by kernel_rfl) (fun _ _ _ h => h) (Or.inl ⟨by rfl, ?_⟩) (by assumption) ?_
          rotate_left
          · (intro w hSw; (try dsimp only at hSw); have ex := HE16.out w; go_simp; try with_reducible rfl)
          (try simp only [Act.put, List.setIfInBounds_toArray, List.set_cons_zero, List.set_cons_succ])
          refine take_first (v := ?_) 31 rfl (by kernel_rfl) (by kernel_rfl) (by kernel_rfl) (fun _ _ _ h => h) (Or.inl ⟨by rfl, ?_⟩) (by assumption) ?_
          rotate_left
          · (intro w hSw; (try dsimp only at hSw); go_simp; try with_reducible rfl)
          (try simp only [Act.put, List.setIfInBounds_toArray, List.set_cons_zero, List.set_cons_succ])
          refine take_first (v := ?_) 32 rfl (by kernel_rfl) (by kernel_rfl) (by kernel_rfl) (fun _ _ _ h => h) (Or.inl ⟨by rfl, ?_⟩) (by assumption) ?_
          rotate_left
          · (intro w hSw; (try dsimp only at hSw); go_simp; try with_reducible rfl)
          (try simp only [Act.put, List.setIfInBounds_toArray, List.set_cons_zero, List.set_cons_succ])
          refine step_one 33 rfl (by kernel_rfl) (fun K hK => ?_)
          clear hHeld
          go_simp
          refine (HBG.out _ (HLV.out.below HM.out.bel)).mono ?_
          rintro e wy10 ⟨rfl, hb⟩
          replace HM := Lib.hid (show Mem w [blkE Q28 22 ([Value.slice Ad dn cd]), blkE Q24 22 ([Value.slice Ad i cd, .slice none 0 0, .slice (addrOf Ad i cd) (dn - i) (cd - i)]), blkE Q13 22 ([Value.slice Ad dn cd]), blkE Q10 22 ([Value.slice Ad i cd, .slice (addrOf Ad i cd) (j - i) (cd - i), .slice (addrOf Ad j cd) (dn - j) (cd - j)])] wy10 from HM.out.below hb)
          clear hb
          go_wp2_with fail
          refine hK.out _ _ (HM.out) (fun hHeld => ?_)
          clear hK K
          (try simp only [Act.put, List.setIfInBounds_toArray, List.set_cons_zero, List.set_cons_succ])
          refine take_first (v := ?_) 34 rfl (by kernel_rfl) (by kernel_rfl) (by kernel_rfl) (fun _ _ _ h => h) (Or.inl ⟨by rfl, ?_⟩) (by assumption) ?_
          rotate_left
          · (intro w hSw; (try dsimp only at hSw); go_simp; try with_reducible rfl)
          (try simp only [Act.put, List.setIfInBounds_toArray, List.set_cons_zero, List.set_cons_succ])
          refine take_first (v := ?_) 35 rfl (by kernel_rfl) (by kernel_rfl) (by kernel_rfl) (fun _ _ _ h => h) (Or.inl ⟨by rfl, ?_⟩) (by assumption) ?_
          rotate_left
          · (intro w hSw; (try dsimp only at hSw); go_simp; try with_reducible rfl)
          (try simp only [Act.put, List.setIfInBounds_toArray, List.set_cons_zero, List.set_cons_succ])
          refine wpAnyH_done (by kernel_rfl) ?_ _
          have HF := Lib.hid HM.out.bel
          clear HM hHeld
          go_wp2_with fail
          go_ret
          exact ⟨rfl, HF.out⟩
      · clear hHeld
        go_simp
        replace HM := Lib.hid (show Mem w [blkE wy5.heap.size 22 ([Value.slice Ad dn cd]), blkE Q13 22 ([Value.slice Ad dn cd]), blkE Q10 22 ([Value.slice Ad i cd, .slice (addrOf Ad i cd) (j - i) (cd - i), .slice (addrOf Ad j cd) (dn - j) (cd - j)])] (wy5.alloc (.cells #[Value.slice Ad dn cd] 22)) from HM.out.alloc rfl 22 #[Value.slice Ad dn cd] ([Value.slice Ad dn cd]) rfl)
        generalize wy5.alloc (.cells #[Value.slice Ad dn cd] 22) = wy6 at HM ⊢
        generalize wy5.heap.size = Q28 at HM ⊢
        refine hK.out _ _ ((HM.out.erase 0)) (fun hHeld => ?_)
        clear hK K
        (try simp only [Act.put, List.setIfInBounds_toArray, List.set_cons_zero, List.set_cons_succ])
        refine wpAnyH_stronger (T := fun W' => Mem w [blkE Q28 22 ([Value.slice Ad dn cd]), blkE Q13 22 ([Value.slice Ad dn cd]), blkE Q10 22 ([Value.slice Ad i cd, .slice (addrOf Ad i cd) (j - i) (cd - i), .slice (addrOf Ad j cd) (dn - j) (cd - j)])] W') (fun _ h' => h'.erase 0) _ _ _ _ ?_
        replace hHeld := HM.out
        refine step_one 24 rfl (by kernel_rfl) (fun K hK => ?_)
        clear hHeld
        go_simp
        replace HM := Lib.hid (show Mem w [blkE wy6.heap.size 22 ([Value.slice Ad i cd, .slice none 0 0, .slice (addrOf Ad i cd) (dn - i) (cd - i)]), blkE Q28 22 ([Value.slice Ad dn cd]), blkE Q13 22 ([Value.slice Ad dn cd]), blkE Q10 22 ([Value.slice Ad i cd, .slice (addrOf Ad i cd) (j - i) (cd - i), .slice (addrOf Ad j cd) (dn - j) (cd - j)])] (wy6.alloc (.cells #[Value.slice Ad i cd, .slice none 0 0, .slice (addrOf Ad i cd) (dn - i) (cd - i)] 22)) from HM.out.alloc rfl 22 #[Value.slice Ad i cd, .slice none 0 0, .slice (addrOf Ad i cd) (dn - i) (cd - i)] ([Value.slice Ad i cd, .slice none 0 0, .slice (addrOf Ad i cd) (dn - i) (cd - i)]) rfl)
        generalize wy6.alloc (.cells #[Value.slice Ad i cd, .slice none 0 0, .slice (addrOf Ad i cd) (dn - i) (cd - i)] 22) = wy7 at HM ⊢
        generalize wy6.heap.size = Q24 at HM ⊢
        refine hK.out _ _ ((HM.out.erase 0)) (fun hHeld => ?_)
        clear hK K
        (try simp only [Act.put, List.setIfInBounds_toArray, List.set_cons_zero, List.set_cons_succ])
        refine wpAnyH_stronger (T := fun W' => Mem w [blkE Q24 22 ([Value.slice Ad i cd, .slice none 0 0, .slice (addrOf Ad i cd) (dn - i) (cd - i)]), blkE Q28 22 ([Value.slice Ad dn cd]), blkE Q13 22 ([Value.slice Ad dn cd]), blkE Q10 22 ([Value.slice Ad i cd, .slice (addrOf Ad i cd) (j - i) (cd - i), .slice (addrOf Ad j cd) (dn - j) (cd - j)])] W') (fun _ h' => h'.erase 0) _ _ _ _ ?_
        replace hHeld := HM.out
        refine step_one 25 rfl (by kernel_rfl) (fun K hK => ?_)
        clear hHeld
        go_simp
        refine (code_three HCC.out Ak kn ck kl k1 hkm (by omega) Q24 22 Ad i cd l1 none 0 0 [] (addrOf Ad i cd) (dn - i) (cd - i) l4 (by omega) hdm (by omega) (Nat.le_refl _) (Nat.zero_le _) (by omega) (by omega) (by omega) (by omega) _ (HLV.out.below HM.out.bel) (HM.out.blk 0 rfl) (HM.out.arg HK.out) (HM.out.arg R1.out) (Rd.nil _ _ _) (HM.out.arg R4.out)).mono ?_
        rintro e wy8 ⟨rfl, hb⟩
        replace HM := Lib.hid (show Mem w [blkE Q24 22 ([Value.slice Ad i cd, .slice none 0 0, .slice (addrOf Ad i cd) (dn - i) (cd - i)]), blkE Q28 22 ([Value.slice Ad dn cd]), blkE Q13 22 ([Value.slice Ad dn cd]), blkE Q10 22 ([Value.slice Ad i cd, .slice (addrOf Ad i cd) (j - i) (cd - i), .slice (addrOf Ad j cd) (dn - j) (cd - j)])] wy8 from HM.out.below hb)
        rw [F4.out, HH16.out]
        clear hb
        go_wp2_with fail
        refine hK.out _ _ (HM.out) (fun hHeld => ?_)
        clear hK K
        (try simp only [Act.put, List.setIfInBounds_toArray, List.set_cons_zero, List.set_cons_succ])
        refine step_one 29 rfl (by kernel_rfl) (fun K hK => ?_)
        clear hHeld
        go_simp
        refine (code_one HCC.out Ak kn ck kl k1 hkm (by omega) Q28 22 Ad dn cd dl d1 hdm (by omega) _ (HLV.out.below HM.out.bel) (HM.out.blk 1 rfl) (HM.out.arg HK.out) (HM.out.arg HD.out)).mono ?_
        rintro e wy9 ⟨rfl, hb⟩
        replace HM := Lib.hid (show Mem w [blkE Q24 22 ([Value.slice Ad i cd, .slice none 0 0, .slice (addrOf Ad i cd) (dn - i) (cd - i)]), blkE Q28 22 ([Value.slice Ad dn cd]), blkE Q13 22 ([Value.slice Ad dn cd]), blkE Q10 22 ([Value.slice Ad i cd, .slice (addrOf Ad i cd) (j - i) (cd - i), .slice (addrOf Ad j cd) (dn - j) (cd - j)])] wy9 from HM.out.below hb)
        rw [HH16.out]
        clear hb
        go_wp2_with fail
        refine hK.out _ _ (HM.out) (fun hHeld => ?_)
        clear hK K
        (try simp only [Act.put, List.setIfInBounds_toArray, List.set_cons_zero, List.set_cons_succ])
        refine take_first (v := ?_) 30 rfl (by kernel_rfl) (by kernel_rfl) (by kernel_rfl) (fun _ _ _ h => h) (Or.inl ⟨by rfl, ?_⟩) (by assumption) ?_
        rotate_left
        · (intro w hSw; (try dsimp only at hSw); have ex := HE16.out w; go_simp; try with_reducible rfl)
        (try simp only [Act.put, List.setIfInBounds_toArray, List.set_cons_zero, List.set_cons_succ])
        refine take_first (v := ?_) 31 rfl (by kernel_rfl) (by kernel_rfl) (by kernel_rfl) (fun _ _ _ h => h) (Or.inl ⟨by rfl, ?_⟩) (by assumption) ?_
        rotate_left
        · (intro w hSw; (try dsimp only at hSw); go_simp; try with_reducible rfl)
        (try simp only [Act.put, List.setIfInBounds_toArray, List.set_cons_zero, List.set_cons_succ])
        refine take_first (v := ?_) 32 rfl (by kernel_rfl) (by kernel_rfl) (by kernel_rfl) (fun _ _ _ h => h) (Or.inl ⟨by rfl, ?_⟩) (by assumption) ?_
        rotate_left
        · (intro w hSw; (try dsimp only at hSw); go_simp; try with_reducible rfl)
        (try simp only [Act.put, List.setIfInBounds_toArray, List.set_cons_zero, List.set_cons_succ])
        refine step_one 33 rfl (by kernel_rfl) (fun K hK => ?_)
        clear hHeld
        go_simp
        refine (HBG.out _ (HLV.out.below HM.out.bel)).mono ?_
        rintro e wy10 ⟨rfl, hb⟩
        replace HM := Lib.hid (show Mem w [blkE Q24 22 ([Value.slice Ad i cd, .slice none 0 0, .slice (addrOf Ad i cd) (dn - i) (cd - i)]), blkE Q28 22 ([Value.slice Ad dn cd]), blkE Q13 22 ([Value.slice Ad dn cd]), blkE Q10 22 ([Value.slice Ad i cd, .slice (addrOf Ad i cd) (j - i) (cd - i), .slice (addrOf Ad j cd) (dn - j) (cd - j)])] wy10 from HM.out.below hb)
        clear hb
        go_wp2_with fail
        refine hK.out _ _ (HM.out) (fun hHeld => ?_)
        clear hK K
        (try simp only [Act.put, List.setIfInBounds_toArray, List.set_cons_zero, List.set_cons_succ])
        refine take_first (v := ?_) 34 rfl (by kernel_rfl) (by kernel_rfl) (by kernel_rfl) (fun _ _ _ h => h) (Or.inl ⟨by rfl, ?_⟩) (by assumption) ?_
        rotate_left
        · (intro w hSw; (try dsimp only at hSw); go_simp; try with_reducible rfl)
        (try simp only [Act.put, List.setIfInBounds_toArray, List.set_cons_zero, List.set_cons_succ])
        refine take_first (v := ?_) 35 rfl (by kernel_rfl) (by kernel_rfl) (by kernel_rfl) (fun _ _ _ h => h) (Or.inl ⟨by rfl, ?_⟩) (by assumption) ?_
        rotate_left
        · (intro w hSw; (try dsimp only at hSw); go_simp; try with_reducible rfl)
        (try simp only [Act.put, List.setIfInBounds_toArray, List.set_cons_zero, List.set_cons_succ])
        refine wpAnyH_done (by kernel_rfl) ?_ _
        have HF := Lib.hid HM.out.bel
        clear HM hHeld
        go_wp2_with fail
        go_ret
        exact ⟨rfl, HF.out⟩
    · clear hHeld
      go_simp
      replace HM := Lib.hid (show Mem w [blkE wy2.heap.size 22 ([Value.slice Ad dn cd]), blkE Q10 22 ([Value.slice Ad i cd, .slice (addrOf Ad i cd) (j - i) (cd - i), .slice (addrOf Ad j cd) (dn - j) (cd - j)])] (wy2.alloc (.cells #[Value.slice Ad dn cd] 22)) from HM.out.alloc rfl 22 #[Value.slice Ad dn cd] ([Value.slice Ad dn cd]) rfl)
      generalize wy2.alloc (.cells #[Value.slice Ad dn cd] 22) = wy3 at HM ⊢
      generalize wy2.heap.size = Q13 at HM ⊢
      refine hK.out _ _ ((HM.out.erase 0)) (fun hHeld => ?_)
      clear hK K
      (try simp only [Act.put, List.setIfInBounds_toArray, List.set_cons_zero, List.set_cons_succ])
      refine wpAnyH_stronger (T := fun W' => Mem w [blkE Q13 22 ([Value.slice Ad dn cd]), blkE Q10 22 ([Value.slice Ad i cd, .slice (addrOf Ad i cd) (j - i) (cd - i), .slice (addrOf Ad j cd) (dn - j) (cd - j)])] W') (fun _ h' => h'.erase 0) _ _ _ _ ?_
      replace hHeld := HM.out
      refine step_one 11 rfl (by kernel_rfl) (fun K hK => ?_)
      clear hHeld
      go_simp
      refine (hash_three HHC.out Q10 22 Ad i cd l1 (addrOf Ad i cd) (j - i) (cd - i) l2 (addrOf Ad j cd) (dn - j) (cd - j) l3 (by omega) hdm (by omega) (by omega) (by omega) (by omega) (by omega) (by omega) (by omega) _ (HLV.out.below HM.out.bel) (HM.out.blk 1 rfl) (HM.out.arg R1.out) (HM.out.arg R2.out) (HM.out.arg R3.out)).mono ?_
      rintro e wy4 ⟨rfl, hb⟩
      replace HM := Lib.hid (show Mem w [blkE Q13 22 ([Value.slice Ad dn cd]), blkE Q10 22 ([Value.slice Ad i cd, .slice (addrOf Ad i cd) (j - i) (cd - i), .slice (addrOf Ad j cd) (dn - j) (cd - j)])] wy4 from HM.out.below hb)
      rw [F3.out, HH32.out]
      clear hb
      go_wp2_with fail
      refine hK.out _ _ (HM.out) (fun hHeld => ?_)
      clear hK K
      (try simp only [Act.put, List.setIfInBounds_toArray, List.set_cons_zero, List.set_cons_succ])
      refine step_one 14 rfl (by kernel_rfl) (fun K hK => ?_)
      clear hHeld
      go_simp
      refine (hash_one HHC.out Q13 22 Ad dn cd dl d1 hdm (by omega) _ (HLV.out.below HM.out.bel) (HM.out.blk 0 rfl) (HM.out.arg HD.out)).mono ?_
      rintro e wy5 ⟨rfl, hb⟩
      replace HM := Lib.hid (show Mem w [blkE Q13 22 ([Value.slice Ad dn cd]), blkE Q10 22 ([Value.slice Ad i cd, .slice (addrOf Ad i cd) (j - i) (cd - i), .slice (addrOf Ad j cd) (dn - j) (cd - j)])] wy5 from HM.out.below hb)
      rw [HH32.out]
      clear hb
      go_wp2_with fail
      refine hK.out _ _ (HM.out) (fun hHeld => ?_)
      clear hK K
      (try simp only [Act.put, List.setIfInBounds_toArray, List.set_cons_zero, List.set_cons_succ])
      refine take_first (v := ?_) 15 rfl (by kernel_rfl) (by kernel_rfl) (by kernel_rfl) (fun _ _ _ h => h) (Or.inl ⟨by rfl, ?_⟩) (by assumption) ?_
      rotate_left
      · (intro w hSw; (try dsimp only at hSw); have ex := HE32.out w; go_simp; try with_reducible rfl)
      (try simp only [Act.put, List.setIfInBounds_toArray, List.set_cons_zero, List.set_cons_succ])
      refine take_first (v := ?_) 16 rfl (by kernel_rfl) (by kernel_rfl) (by kernel_rfl) (fun _ _ _ h => h) (Or.inl ⟨by rfl, ?_⟩) (by assumption) ?_
      rotate_left
      · (intro w hSw; (try dsimp only at hSw); go_simp; try with_reducible rfl)
      (try simp only [Act.put, List.setIfInBounds_toArray, List.set_cons_zero, List.set_cons_succ])
      refine take_first (v := ?_) 17 rfl (by kernel_rfl) (by kernel_rfl) (by kernel_rfl) (fun _ _ _ h => h) (Or.inl ⟨by rfl, ?_⟩) (by assumption) ?_
      rotate_left
      · (intro w hSw; (try dsimp only at hSw); go_simp; try with_reducible rfl)
      (try simp only [Act.put, List.setIfInBounds_toArray, List.set_cons_zero, List.set_cons_succ])
      refine take_first (v := ?_) 18 rfl (by kernel_rfl) (by kernel_rfl) (by kernel_rfl) (fun _ _ _ h => h) (Or.inl ⟨by rfl, ?_⟩) (by assumption) ?_
      rotate_left
      · (intro w hSw; (try dsimp only at hSw); go_simp; try with_reducible rfl)
      (try simp only [Act.put, List.setIfInBounds_toArray, List.set_cons_zero, List.set_cons_succ])
      refine take_first (v := ?_) 19 rfl (by kernel_rfl) (by kernel_rfl) (by kernel_rfl) (fun _ _ _ h => h) (Or.inl ⟨by rfl, ?_⟩) (by assumption) ?_
      rotate_left
      · (intro w hSw; (try dsimp only at hSw); go_simp; try with_reducible rfl)
      (try simp only [Act.put, List.setIfInBounds_toArray, List.set_cons_zero, List.set_cons_succ])
      refine take_first (v := ?_) 20 rfl (by kernel_rfl) (by kernel_rfl) (by kernel_rfl) (fun _ _ _ h => h) (Or.inl ⟨by rfl, ?_⟩) (by assumption) ?_
      rotate_left
      · (intro w hSw; (try dsimp only at hSw); go_simp; try with_reducible rfl)
      (try simp only [Act.put, List.setIfInBounds_toArray, List.set_cons_zero, List.set_cons_succ])
      refine take_first (v := ?_) 21 rfl (by kernel_rfl) (by kernel_rfl) (by kernel_rfl) (fun _ _ _ h => h) (Or.inl ⟨by rfl, ?_⟩) (by assumption) ?_
      rotate_left
      · (intro w hSw; (try dsimp only at hSw); go_simp; try with_reducible rfl)
      (try simp only [Act.put, List.setIfInBounds_toArray, List.set_cons_zero, List.set_cons_succ])
      refine take_first (v := ?_) 22 rfl (by kernel_rfl) (by kernel_rfl) (by kernel_rfl) (fun _ _ _ h => h) (Or.inl ⟨by rfl, ?_⟩) (by assumption) ?_
      rotate_left
      · (intro w hSw; (try dsimp only at hSw); go_simp; try with_reducible rfl)
      (try simp only [Act.put, List.setIfInBounds_toArray, List.set_cons_zero, List.set_cons_succ])
      refine take_first (v := ?_) 23 rfl (by kernel_rfl) (by kernel_rfl) (by kernel_rfl) (fun _ _ _ h => h) (Or.inl ⟨by rfl, ?_⟩) (by assumption) ?_
      rotate_left
      · (intro w hSw; (try dsimp only at hSw); have s := slice_l Ad dn cd i hid w; go_simp; try with_reducible rfl)
      (try simp only [Act.put, List.setIfInBounds_toArray, List.set_cons_zero, List.set_cons_succ])
      refine take_first (v := ?_) 26 rfl (by kernel_rfl) (by kernel_rfl) (by kernel_rfl) (fun _ _ _ h => h) (Or.inl ⟨by rfl, ?_⟩) (by assumption) ?_
      rotate_left
      · (intro w hSw; (try dsimp only at hSw); go_simp; try with_reducible rfl)
      (try simp only [Act.put, List.setIfInBounds_toArray, List.set_cons_zero, List.set_cons_succ])
      refine take_first (v := ?_) 27 rfl (by kernel_rfl) (by kernel_rfl) (by kernel_rfl) (fun _ _ _ h => h) (Or.inl ⟨by rfl, ?_⟩) (by assumption) ?_
      rotate_left
      · (intro w hSw; (try dsimp only at hSw); go_simp; try with_reducible rfl)
      (try simp only [Act.put, List.setIfInBounds_toArray, List.set_cons_zero, List.set_cons_succ])
      refine step_two 24 28 rfl rfl (by kernel_rfl) (fun K hK => ?_) (fun K hK => ?_)
      · clear hHeld
        go_simp
        replace HM := Lib.hid (show Mem w [blkE wy5.heap.size 22 ([Value.slice Ad i cd, .slice none 0 0, .slice (addrOf Ad i cd) (dn - i) (cd - i)]), blkE Q13 22 ([Value.slice Ad dn cd]), blkE Q10 22 ([Value.slice Ad i cd, .slice (addrOf Ad i cd) (j - i) (cd - i), .slice (addrOf Ad j cd) (dn - j) (cd - j)])] (wy5.alloc (.cells #[Value.slice Ad i cd, .slice none 0 0, .slice (addrOf Ad i cd) (dn - i) (cd - i)] 22)) from HM.out.alloc rfl 22 #[Value.slice Ad i cd, .slice none 0 0, .slice (addrOf Ad i cd) (dn - i) (cd - i)] ([Value.slice Ad i cd, .slice none 0 0, .slice (addrOf Ad i cd) (dn - i) (cd - i)]) rfl)
        generalize wy5.alloc (.cells #[Value.slice Ad i cd, .slice none 0 0, .slice (addrOf Ad i cd) (dn - i) (cd - i)] 22) = wy6 at HM ⊢
        generalize wy5.heap.size = Q24 at HM ⊢
        refine hK.out _ _ ((HM.out.erase 0)) (fun hHeld => ?_)
        clear hK K
        (try simp only [Act.put, List.setIfInBounds_toArray, List.set_cons_zero, List.set_cons_succ])
        refine wpAnyH_stronger (T := fun W' => Mem w [blkE Q24 22 ([Value.slice Ad i cd, .slice none 0 0, .slice (addrOf Ad i cd) (dn - i) (cd - i)]), blkE Q13 22 ([Value.slice Ad dn cd]), blkE Q10 22 ([Value.slice Ad i cd, .slice (addrOf Ad i cd) (j - i) (cd - i), .slice (addrOf Ad j cd) (dn - j) (cd - j)])] W') (fun _ h' => h'.erase 0) _ _ _ _ ?_
        replace hHeld := HM.out
        refine step_two 25 28 rfl rfl (by kernel_rfl) (fun K hK => ?_) (fun K hK => ?_)
        · clear hHeld
          go_simp
          refine (code_three HCC.out Ak kn ck kl k1 hkm (by omega) Q24 22 Ad i cd l1 none 0 0 [] (addrOf Ad i cd) (dn - i) (cd - i) l4 (by omega) hdm (by omega) (Nat.le_refl _) (Nat.zero_le _) (by omega) (by omega) (by omega) (by omega) _ (HLV.out.below HM.out.bel) (HM.out.blk 0 rfl) (HM.out.arg HK.out) (HM.out.arg R1.out) (Rd.nil _ _ _) (HM.out.arg R4.out)).mono ?_
          rintro e wy7 ⟨rfl, hb⟩
          replace HM := Lib.hid (show Mem w [blkE Q24 22 ([Value.slice Ad i cd, .slice none 0 0, .slice (addrOf Ad i cd) (dn - i) (cd - i)]), blkE Q13 22 ([Value.slice Ad dn cd]), blkE Q10 22 ([Value.slice Ad i cd, .slice (addrOf Ad i cd) (j - i) (cd - i), .slice (addrOf Ad j cd) (dn - j) (cd - j)])] wy7 from HM.out.below hb)
          rw [F4.out, HH16.out]
          clear hb
          go_wp2_with fail
          refine hK.out _ _ (HM.out) (fun hHeld => ?_)
          clear hK K
          (try simp only [Act.put, List.setIfInBounds_toArray, List.set_cons_zero, List.set_cons_succ])
          refine step_one 28 rfl (by kernel_rfl) (fun K hK => ?_)
          clear hHeld
          go_simp
          replace HM := Lib.hid (show Mem w [blkE wy7.heap.size 22 ([Value.slice Ad dn cd]), blkE Q24 22 ([Value.slice Ad i cd, .slice none 0 0, .slice (addrOf Ad i cd) (dn - i) (cd - i)]), blkE Q13 22 ([Value.slice Ad dn cd]), blkE Q10 22 ([Value.slice Ad i cd, .slice (addrOf Ad i cd) (j - i) (cd - i), .slice (addrOf Ad j cd) (dn - j) (cd - j)])] (wy7.alloc (.cells #[Value.slice Ad dn cd] 22)) from HM.out.alloc rfl 22 #[Value.slice Ad dn cd] ([Value.slice Ad dn cd]) rfl)
          generalize wy7.alloc (.cells #[Value.slice Ad dn cd] 22) = wy8 at HM ⊢
          generalize wy7.heap.size = Q28 at HM ⊢
          refine hK.out _ _ ((HM.out.erase 0)) (fun hHeld => ?_)
          clear hK K
          (try simp only [Act.put, List.setIfInBounds_toArray, List.set_cons_zero, List.set_cons_succ])
          refine wpAnyH_stronger (T := fun W' => Mem w [blkE Q28 22 ([Value.slice Ad dn cd]), blkE Q24 22 ([Value.slice Ad i cd, .slice none 0 0, .slice (addrOf Ad i cd) (dn - i) (cd - i)]), blkE Q13 22 ([Value.slice Ad dn cd]), blkE Q10 22 ([Value.slice Ad i cd, .slice (addrOf Ad i cd) (j - i) (cd - i), .slice (addrOf Ad j cd) (dn - j) (cd - j)])] W') (fun _ h' => h'.erase 0) _ _ _ _ ?_
          replace hHeld := HM.out
          refine step_one 29 rfl (by kernel_rfl) (fun K hK => ?_)
          clear hHeld
          go_simp
          refine (code_one HCC.out Ak kn ck kl k1 hkm (by omega) Q28 22 Ad dn cd dl d1 hdm (by omega) _ (HLV.out.below HM.out.bel) (HM.out.blk 0 rfl) (HM.out.arg HK.out) (HM.out.arg HD.out)).mono ?_
          rintro e wy9 ⟨rfl, hb⟩
          replace HM := Lib.hid (show Mem w [blkE Q28 22 ([Value.slice Ad dn cd]), blkE Q24 22 ([Value.slice Ad i cd, .slice none 0 0, .slice (addrOf Ad i cd) (dn - i) (cd - i)]), blkE Q13 22 ([Value.slice Ad dn cd]), blkE Q10 22 ([Value.slice Ad i cd, .slice (addrOf Ad i cd) (j - i) (cd - i), .slice (addrOf Ad j cd) (dn - j) (cd - j)])] wy9 from HM.out.below hb)
          rw [HH16.out]
          clear hb
          go_wp2_with fail
          refine hK.out _ _ (HM.out) (fun hHeld => ?_)
          clear hK K
          (try simp only [Act.put, List.setIfInBounds_toArray, List.set_cons_zero, List.set_cons_succ])
          refine take_first (v := ?_) 30 rfl (by kernel_rfl) (by kernel_rfl) (by kernel_rfl) (fun _ _ _ h => h) (Or.inl ⟨by rfl, ?_⟩) (by assumption) ?_
          rotate_left
          · (intro w hSw; (try dsimp only at hSw); have ex := HE16.out w; go_simp; try with_reducible rfl)
          (try simp only [Act.put, List.setIfInBounds_toArray, List.set_cons_zero, List.set_cons_succ])
          refine take_first (v := ?_) 31 rfl (by kernel_rfl) (by kernel_rfl) (by kernel_rfl) (fun _ _ _ h => h) (Or.inl ⟨by rfl, ?_⟩) (by assumption) ?_
          rotate_left
          · (intro w hSw; (try dsimp only at hSw); go_simp; try with_reducible rfl)
          (try simp only [Act.put, List.setIfInBounds_toArray, List.set_cons_zero, List.set_cons_succ])
          refine take_first (v := ?_) 32 rfl (by kernel_rfl) (by kernel_rfl) (by kernel_rfl) (fun _ _ _ h => h) (Or.inl ⟨by rfl, ?_⟩) (by assumption) ?_
          rotate_left
          · (intro w hSw; (try dsimp only at hSw); go_simp; try with_reducible rfl)
          (try simp only [Act.put, List.setIfInBounds_toArray, List.set_cons_zero, List.set_cons_succ])
          refine step_one 33 rfl (by kernel_rfl) (fun K hK => ?_)
          clear hHeld
          go_simp
          refine (HBG.out _ (HLV.out.below HM.out.bel)).mono ?_
          rintro e wy10 ⟨rfl, hb⟩
          replace HM := Lib.hid (show Mem w [blkE Q28 22 ([Value.slice Ad dn cd]), blkE Q24 22 ([Value.slice Ad i cd, .slice none 0 0, .slice (addrOf Ad i cd) (dn - i) (cd - i)]), blkE Q13 22 ([Value.slice Ad dn cd]), blkE Q10 22 ([Value.slice Ad i cd, .slice (addrOf Ad i cd) (j - i) (cd - i), .slice (addrOf Ad j cd) (dn - j) (cd - j)])] wy10 from HM.out.below hb)
          clear hb
          go_wp2_with fail
          refine hK.out _ _ (HM.out) (fun hHeld => ?_)
          clear hK K
          (try simp only [Act.put, List.setIfInBounds_toArray, List.set_cons_zero, List.set_cons_succ])
          refine take_first (v := ?_) 34 rfl (by kernel_rfl) (by kernel_rfl) (by kernel_rfl) (fun _ _ _ h => h) (Or.inl ⟨by rfl, ?_⟩) (by assumption) ?_
          rotate_left
          · (intro w hSw; (try dsimp only at hSw); go_simp; try with_reducible rfl)
          (try simp only [Act.put, List.setIfInBounds_toArray, List.set_cons_zero, List.set_cons_succ])
          refine take_first (v := ?_) 35 rfl (by kernel_rfl) (by kernel_rfl) (by kernel_rfl) (fun _ _ _ h => h) (Or.inl ⟨by rfl, ?_⟩) (by assumption) ?_
          rotate_left
          · (intro w hSw; (try dsimp only at hSw); go_simp; try with_reducible rfl)
          (try simp only [Act.put, List.setIfInBounds_toArray, List.set_cons_zero, List.set_cons_succ])
          refine wpAnyH_done (by kernel_rfl) ?_ _
          have HF := Lib.hid HM.out.bel
          clear HM hHeld
          go_wp2_with fail
          go_ret
          exact ⟨rfl, HF.out⟩
        · clear hHeld
          go_simp
          replace HM := Lib.hid (show Mem w [blkE wy6.heap.size 22 ([Value.slice Ad dn cd]), blkE Q24 22 ([Value.slice Ad i cd, .slice none 0 0, .slice (addrOf Ad i cd) (dn - i) (cd - i)]), blkE Q13 22 ([Value.slice Ad dn cd]), blkE Q10 22 ([Value.slice Ad i cd, .slice (addrOf Ad i cd) (j - i) (cd - i), .slice (addrOf Ad j cd) (dn - j) (cd - j)])] (wy6.alloc (.cells #[Value.slice Ad dn cd] 22)) from HM.out.alloc rfl 22 #[Value.slice Ad dn cd] ([Value.slice Ad dn cd]) rfl)
          generalize wy6.alloc (.cells #[Value.slice Ad dn cd] 22) = wy7 at HM ⊢
          generalize wy6.heap.size = Q28 at HM ⊢
          refine hK.out _ _ ((HM.out.erase 0)) (fun hHeld => ?_)
          clear hK K
          (try simp only [Act.put, List.setIfInBounds_toArray, List.set_cons_zero, List.set_cons_succ])
          refine wpAnyH_stronger (T := fun W' => Mem w [blkE Q28 22 ([Value.slice Ad dn cd]), blkE Q24 22 ([Value.slice Ad i cd, .slice none 0 0, .slice (addrOf Ad i cd) (dn - i) (cd - i)]), blkE Q13 22 ([Value.slice Ad dn cd]), blkE Q10 22 ([Value.slice Ad i cd, .slice (addrOf Ad i cd) (j - i) (cd - i), .slice (addrOf Ad j cd) (dn - j) (cd - j)])] W') (fun _ h' => h'.erase 0) _ _ _ _ ?_
          replace hHeld := HM.out
          refine step_one 25 rfl (by kernel_rfl) (fun K hK => ?_)
          clear hHeld
          go_simp
          refine (code_three HCC.out Ak kn ck kl k1 hkm (by omega) Q24 22 Ad i cd l1 none 0 0 [] (addrOf Ad i cd) (dn - i) (cd - i) l4 (by omega) hdm (by omega) (Nat.le_refl _) (Nat.zero_le _) (by omega) (by omega) (by omega) (by omega) _ (HLV.out.below HM.out.bel) (HM.out.blk 1 rfl) (HM.out.arg HK.out) (HM.out.arg R1.out) (Rd.nil _ _ _) (HM.out.arg R4.out)).mono ?_
          rintro e wy8 ⟨rfl, hb⟩
          replace HM := Lib.hid (show Mem w [blkE Q28 22 ([Value.slice Ad dn cd]), blkE Q24 22 ([Value.slice Ad i cd, .slice none 0 0, .slice (addrOf Ad i cd) (dn - i) (cd - i)]), blkE Q13 22 ([Value.slice Ad dn cd]), blkE Q10 22 ([Value.slice Ad i cd, .slice (addrOf Ad i cd) (j - i) (cd - i), .slice (addrOf Ad j cd) (dn - j) (cd - j)])] wy8 from HM.out.below hb)
          rw [F4.out, HH16.out]
          clear hb
          go_wp2_with fail
          refine hK.out _ _ (HM.out) (fun hHeld => ?_)
          clear hK K
          (try simp only [Act.put, List.setIfInBounds_toArray, List.set_cons_zero, List.set_cons_succ])
          refine step_one 29 rfl (by kernel_rfl) (fun K hK => ?_)
          clear hHeld
          go_simp
          refine (code_one HCC.out Ak kn ck kl k1 hkm (by omega) Q28 22 Ad dn cd dl d1 hdm (by omega) _ (HLV.out.below HM.out.bel) (HM.out.blk 0 rfl) (HM.out.arg HK.out) (HM.out.arg HD.out)).mono ?_
          rintro e wy9 ⟨rfl, hb⟩
          replace HM := Lib.hid (show Mem w [blkE Q28 22 ([Value.slice Ad dn cd]), blkE Q24 22 ([Value.slice Ad i cd, .slice none 0 0, .slice (addrOf Ad i cd) (dn - i) (cd - i)]), blkE Q13 22 ([Value.slice Ad dn cd]), blkE Q10 22 ([Value.slice Ad i cd, .slice (addrOf Ad i cd) (j - i) (cd - i), .slice (addrOf Ad j cd) (dn - j) (cd - j)])] wy9 from HM.out.below hb)
          rw [HH16.out]
          clear hb
          go_wp2_with fail
          refine hK.out _ _ (HM.out) (fun hHeld => ?_)
          clear hK K
          (try simp only [Act.put, List.setIfInBounds_toArray, List.set_cons_zero, List.set_cons_succ])
          refine take_first (v := ?_) 30 rfl (by kernel_rfl) (by kernel_rfl) (by kernel_rfl) (fun _ _ _ h => h) (Or.inl ⟨by rfl, ?_⟩) (by assumption) ?_
          rotate_left
          · (intro w hSw; (try dsimp only at hSw); have ex := HE16.out w; go_simp; try with_reducible rfl)
          (try simp only [Act.put, List.setIfInBounds_toArray, List.set_cons_zero, List.set_cons_succ])
          refine take_first (v := ?_) 31 rfl (by kernel_rfl) (by kernel_rfl) (by kernel_rfl) (fun _ _ _ h => h) (Or.inl ⟨by rfl, ?_⟩) (by assumption) ?_
          rotate_left
          · (intro w hSw; (try dsimp only at hSw); go_simp; try with_reducible rfl)
          (try simp only [Act.put, List.setIfInBounds_toArray, List.set_cons_zero, List.set_cons_succ])
          refine take_first (v := ?_) 32 rfl (by kernel_rfl) (by kernel_rfl) (by kernel_rfl) (fun _ _ _ h => h) (Or.inl ⟨by rfl, ?_⟩) (by assumption) ?_
          rotate_left
          · (intro w hSw; (try dsimp only at hSw); go_simp; try with_reducible rfl)
          (try simp only [Act.put, List.setIfInBounds_toArray, List.set_cons_zero, List.set_cons_succ])
          refine step_one 33 rfl (by kernel_rfl) (fun K hK => ?_)
          clear hHeld
          go_simp
          refine (HBG.out _ (HLV.out.below HM.out.bel)).mono ?_
          rintro e wy10 ⟨rfl, hb⟩
          replace HM := Lib.hid (show Mem w [blkE Q28 22 ([Value.slice Ad dn cd]), blkE Q24 22 ([Value.slice Ad i cd, .slice none 0 0, .slice (addrOf Ad i cd) (dn - i) (cd - i)]), blkE Q13 22 ([Value.slice Ad dn cd]), blkE Q10 22 ([Value.slice Ad i cd, .slice (addrOf Ad i cd) (j - i) (cd - i), .slice (addrOf Ad j cd) (dn - j) (cd - j)])] wy10 from HM.out.below hb)
          clear hb
          go_wp2_with fail
          refine hK.out _ _ (HM.out) (fun hHeld => ?_)
          clear hK K
          (try simp only [Act.put, List.setIfInBounds_toArray, List.set_cons_zero, List.set_cons_succ])
          refine take_first (v := ?_) 34 rfl (by kernel_rfl) (by kernel_rfl) (by kernel_rfl) (fun _ _ _ h => h) (Or.inl ⟨by rfl, ?_⟩) (by assumption) ?_
          rotate_left
          · (intro w hSw; (try dsimp only at hSw); go_simp; try with_reducible rfl)
          (try simp only [Act.put, List.setIfInBounds_toArray, List.set_cons_zero, List.set_cons_succ])
          refine take_first (v := ?_) 35 rfl (by kernel_rfl) (by kernel_rfl) (by kernel_rfl) (fun _ _ _ h => h) (Or.inl ⟨by rfl, ?_⟩) (by assumption) ?_
          rotate_left
          · (intro w hSw; (try dsimp only at hSw); go_simp; try with_reducible rfl)
          (try simp only [Act.put, List.setIfInBounds_toArray, List.set_cons_zero, List.set_cons_succ])
          refine wpAnyH_done (by kernel_rfl) ?_ _
          have HF := Lib.hid HM.out.bel
          clear HM hHeld
          go_wp2_with fail
          go_ret
          exact ⟨rfl, HF.out⟩
      · clear hHeld
        go_simp
        replace HM := Lib.hid (show Mem w [blkE wy5.heap.size 22 ([Value.slice Ad dn cd]), blkE Q13 22 ([Value.slice Ad dn cd]), blkE Q10 22 ([Value.slice Ad i cd, .slice (addrOf Ad i cd) (j - i) (cd - i), .slice (addrOf Ad j cd) (dn - j) (cd - j)])] (wy5.alloc (.cells #[Value.slice Ad dn cd] 22)) from HM.out.alloc rfl 22 #[Value.slice Ad dn cd] ([Value.slice Ad dn cd]) rfl)
        generalize wy5.alloc (.cells #[Value.slice Ad dn cd] 22) = wy6 at HM ⊢
        generalize wy5.heap.size = Q28 at HM ⊢
        refine hK.out _ _ ((HM.out.erase 0)) (fun hHeld => ?_)
        clear hK K
        (try simp only [Act.put, List.setIfInBounds_toArray, List.set_cons_zero, List.set_cons_succ])
        refine wpAnyH_stronger (T := fun W' => Mem w [blkE Q28 22 ([Value.slice Ad dn cd]), blkE Q13 22 ([Value.slice Ad dn cd]), blkE Q10 22 ([Value.slice Ad i cd, .slice (addrOf Ad i cd) (j - i) (cd - i), .slice (addrOf Ad j cd) (dn - j) (cd - j)])] W') (fun _ h' => h'.erase 0) _ _ _ _ ?_
        replace hHeld := HM.out
        refine step_one 24 rfl (by kernel_rfl) (fun K hK => ?_)
        clear hHeld
        go_simp
        replace HM := Lib.hid (show Mem w [blkE wy6.heap.size 22 ([Value.slice Ad i cd, .slice none 0 0, .slice (addrOf Ad i cd) (dn - i) (cd - i)]), blkE Q28 22 ([Value.slice Ad dn cd]), blkE Q13 22 ([Value.slice Ad dn cd]), blkE Q10 22 ([Value.slice Ad i cd, .slice (addrOf Ad i cd) (j - i) (cd - i), .slice (addrOf Ad j cd) (dn - j) (cd - j)])] (wy6.alloc (.cells #[Value.slice Ad i cd, .slice none 0 0, .slice (addrOf Ad i cd) (dn - i) (cd - i)] 22)) from HM.out.alloc rfl 22 #[Value.slice Ad i cd, .slice none 0 0, .slice (addrOf Ad i cd) (dn - i) (cd - i)] ([Value.slice Ad i cd, .slice none 0 0, .slice (addrOf Ad i cd) (dn - i) (cd - i)]) rfl)
        generalize wy6.alloc (.cells #[Value.slice Ad i cd, .slice none 0 0, .slice (addrOf Ad i cd) (dn - i) (cd - i)] 22) = wy7 at HM ⊢
        generalize wy6.heap.size = Q24 at HM ⊢
        refine hK.out _ _ ((HM.out.erase 0)) (fun hHeld => ?_)
        clear hK K
        (try simp only [Act.put, List.setIfInBounds_toArray, List.set_cons_zero, List.set_cons_succ])
        refine wpAnyH_stronger (T := fun W' => Mem w [blkE Q24 22 ([Value.slice Ad i cd, .slice none 0 0, .slice (addrOf Ad i cd) (dn - i) (cd - i)]), blkE Q28 22 ([Value.slice Ad dn cd]), blkE Q13 22 ([Value.slice Ad dn cd]), blkE Q10 22 ([Value.slice Ad i cd, .slice (addrOf Ad i cd) (j - i) (cd - i), .slice (addrOf Ad j cd) (dn - j) (cd - j)])] W') (fun _ h' => h'.erase 0) _ _ _ _ ?_
        replace hHeld := HM.out
        refine step_one 25 rfl (by kernel_rfl) (fun K hK => ?_)
        clear hHeld
        go_simp
        refine (code_three HCC.out Ak kn ck kl k1 hkm (by omega) Q24 22 Ad i cd l1 none 0 0 [] (addrOf Ad i cd) (dn - i) (cd - i) l4 (by omega) hdm (by omega) (Nat.le_refl _) (Nat.zero_le _) (by omega) (by omega) (by omega) (by omega) _ (HLV.out.below HM.out.bel) (HM.out.blk 0 rfl) (HM.out.arg HK.out) (HM.out.arg R1.out) (Rd.nil _ _ _) (HM.out.arg R4.out)).mono ?_
        rintro e wy8 ⟨rfl, hb⟩
        replace HM := Lib.hid (show Mem w [blkE Q24 22 ([Value.slice Ad i cd, .slice none 0 0, .slice (addrOf Ad i cd) (dn - i) (cd - i)]), blkE Q28 22 ([Value.slice Ad dn cd]), blkE Q13 22 ([Value.slice Ad dn cd]), blkE Q10 22 ([Value.slice Ad i cd, .slice (addrOf Ad i cd) (j - i) (cd - i), .slice (addrOf Ad j cd) (dn - j) (cd - j)])] wy8 from HM.out.below hb)
        rw [F4.out, HH16.out]
        clear hb
        go_wp2_with fail
        refine hK.out _ _ (HM.out) (fun hHeld => ?_)
        clear hK K
        (try simp only [Act.put, List.setIfInBounds_toArray, List.set_cons_zero, List.set_cons_succ])
        refine step_one 29 rfl (by kernel_rfl) (fun K hK => ?_)
        clear hHeld
        go_simp
        refine (code_one HCC.out Ak kn ck kl k1 hkm (by omega) Q28 22 Ad dn cd dl d1 hdm (by omega) _ (HLV.out.below HM.out.bel) (HM.out.blk 1 rfl) (HM.out.arg HK.out) (HM.out.arg HD.out)).mono ?_
        rintro e wy9 ⟨rfl, hb⟩
        replace HM := Lib.hid (show Mem w [blkE Q24 22 ([Value.slice Ad i cd, .slice none 0 0, .slice (addrOf Ad i cd) (dn - i) (cd - i)]), blkE Q28 22 ([Value.slice Ad dn cd]), blkE Q13 22 ([Value.slice Ad dn cd]), blkE Q10 22 ([Value.slice Ad i cd, .slice (addrOf Ad i cd) (j - i) (cd - i), .slice (addrOf Ad j cd) (dn - j) (cd - j)])] wy9 from HM.out.below hb)
        rw [HH16.out]
        clear hb
        go_wp2_with fail
        refine hK.out _ _ (HM.out) (fun hHeld => ?_)
        clear hK K
        (try simp only [Act.put, List.setIfInBounds_toArray, List.set_cons_zero, List.set_cons_succ])
        refine take_first (v := ?_) 30 rfl (by kernel_rfl) (by kernel_rfl) (by kernel_rfl) (fun _ _ _ h => h) (Or.inl ⟨by rfl, ?_⟩) (by assumption) ?_
        rotate_left
        · (intro w hSw; (try dsimp only at hSw); have ex := HE16.out w; go_simp; try with_reducible rfl)
        (try simp only [Act.put, List.setIfInBounds_toArray, List.set_cons_zero, List.set_cons_succ])
        refine take_first (v := ?_) 31 rfl (by kernel_rfl) (by kernel_rfl) (by kernel_rfl) (fun _ _ _ h => h) (Or.inl ⟨by rfl, ?_⟩) (by assumption) ?_
        rotate_left
        · (intro w hSw; (try dsimp only at hSw); go_simp; try with_reducible rfl)
        (try simp only [Act.put, List.setIfInBounds_toArray, List.set_cons_zero, List.set_cons_succ])
        refine take_first (v := ?_) 32 rfl (by kernel_rfl) (by kernel_rfl) (by kernel_rfl) (fun _ _ _ h => h) (Or.inl ⟨by rfl, ?_⟩) (by assumption) ?_
        rotate_left
        · (intro w hSw; (try dsimp only at hSw); go_simp; try with_reducible rfl)
        (try simp only [Act.put, List.setIfInBounds_toArray, List.set_cons_zero, List.set_cons_succ])
        refine step_one 33 rfl (by kernel_rfl) (fun K hK => ?_)
        clear hHeld
        go_simp
        refine (HBG.out _ (HLV.out.below HM.out.bel)).mono ?_
        rintro e wy10 ⟨rfl, hb⟩
        replace HM := Lib.hid (show Mem w [blkE Q24 22 ([Value.slice Ad i cd, .slice none 0 0, .slice (addrOf Ad i cd) (dn - i) (cd - i)]), blkE Q28 22 ([Value.slice Ad dn cd]), blkE Q13 22 ([Value.slice Ad dn cd]), blkE Q10 22 ([Value.slice Ad i cd, .slice (addrOf Ad i cd) (j - i) (cd - i), .slice (addrOf Ad j cd) (dn - j) (cd - j)])] wy10 from HM.out.below hb)
        clear hb
        go_wp2_with fail
        refine hK.out _ _ (HM.out) (fun hHeld => ?_)
        clear hK K
        (try simp only [Act.put, List.setIfInBounds_toArray, List.set_cons_zero, List.set_cons_succ])
        refine take_first (v := ?_) 34 rfl (by kernel_rfl) (by kernel_rfl) (by kernel_rfl) (fun _ _ _ h => h) (Or.inl ⟨by rfl, ?_⟩) (by assumption) ?_
        rotate_left
        · (intro w hSw; (try dsimp only at hSw); go_simp; try with_reducible rfl)
        (try simp only [Act.put, List.setIfInBounds_toArray, List.set_cons_zero, List.set_cons_succ])
        refine take_first (v := ?_) 35 rfl (by kernel_rfl) (by kernel_rfl) (by kernel_rfl) (fun _ _ _ h => h) (Or.inl ⟨by rfl, ?_⟩) (by assumption) ?_
        rotate_left
        · (intro w hSw; (try dsimp only at hSw); go_simp; try with_reducible rfl)
        (try simp only [Act.put, List.setIfInBounds_toArray, List.set_cons_zero, List.set_cons_succ])
        refine wpAnyH_done (by kernel_rfl) ?_ _
        have HF := Lib.hid HM.out.bel
        clear HM hHeld
        go_wp2_with fail
        go_ret
        exact ⟨rfl, HF.out⟩
  · clear hHeld
    go_simp
    replace HM := Lib.hid (show Mem w [blkE wd1.heap.size 22 ([Value.slice Ad dn cd])] (wd1.alloc (.cells #[Value.slice Ad dn cd] 22)) from HM.out.alloc rfl 22 #[Value.slice Ad dn cd] ([Value.slice Ad dn cd]) rfl)
    generalize wd1.alloc (.cells #[Value.slice Ad dn cd] 22) = wy2 at HM ⊢
    generalize wd1.heap.size = Q13 at HM ⊢
    refine hK.out _ _ ((HM.out.erase 0)) (fun hHeld => ?_)
    clear hK K
    (try simp only [Act.put, List.setIfInBounds_toArray, List.set_cons_zero, List.set_cons_succ])
    refine wpAnyH_stronger (T := fun W' => Mem w [blkE Q13 22 ([Value.slice Ad dn cd])] W') (fun _ h' => h'.erase 0) _ _ _ _ ?_
    replace hHeld := HM.out
    refine step_one 10 rfl (by kernel_rfl) (fun K hK => ?_)
    clear hHeld
    go_simp
    replace HM := Lib.hid (show Mem w [blkE wy2.heap.size 22 ([Value.slice Ad i cd, .slice (addrOf Ad i cd) (j - i) (cd - i), .slice (addrOf Ad j cd) (dn - j) (cd - j)]), blkE Q13 22 ([Value.slice Ad dn cd])] (wy2.alloc (.cells #[Value.slice Ad i cd, .slice (addrOf Ad i cd) (j - i) (cd - i), .slice (addrOf Ad j cd) (dn - j) (cd - j)] 22)) from HM.out.alloc rfl 22 #[Value.slice Ad i cd, .slice (addrOf Ad i cd) (j - i) (cd - i), .slice (addrOf Ad j cd) (dn - j) (cd - j)] ([Value.slice Ad i cd, .slice (addrOf Ad i cd) (j - i) (cd - i), .slice (addrOf Ad j cd) (dn - j) (cd - j)]) rfl)
    generalize wy2.alloc (.cells #[Value.slice Ad i cd, .slice (addrOf Ad i cd) (j - i) (cd - i), .slice (addrOf Ad j cd) (dn - j) (cd - j)] 22) = wy3 at HM ⊢
    generalize wy2.heap.size = Q10 at HM ⊢
    refine hK.out _ _ ((HM.out.erase 0)) (fun hHeld => ?_)
    clear hK K
    (try simp only [Act.put, List.setIfInBounds_toArray, List.set_cons_zero, List.set_cons_succ])
    refine wpAnyH_stronger (T := fun W' => Mem w [blkE Q10 22 ([Value.slice Ad i cd, .slice (addrOf Ad i cd) (j - i) (cd - i), .slice (addrOf Ad j cd) (dn - j) (cd - j)]), blkE Q13 22 ([Value.slice Ad dn cd])] W') (fun _ h' => h'.erase 0) _ _ _ _ ?_
    replace hHeld := HM.out
    refine step_one 11 rfl (by kernel_rfl) (fun K hK => ?_)
    clear hHeld
    go_simp
    refine (hash_three HHC.out Q10 22 Ad i cd l1 (addrOf Ad i cd) (j - i) (cd - i) l2 (addrOf Ad j cd) (dn - j) (cd - j) l3 (by omega) hdm (by omega) (by omega) (by omega) (by omega) (by omega) (by omega) (by omega) _ (HLV.out.below HM.out.bel) (HM.out.blk 0 rfl) (HM.out.arg R1.out) (HM.out.arg R2.out) (HM.out.arg R3.out)).mono ?_
    rintro e wy4 ⟨rfl, hb⟩
    replace HM := Lib.hid (show Mem w [blkE Q10 22 ([Value.slice Ad i cd, .slice (addrOf Ad i cd) (j - i) (cd - i), .slice (addrOf Ad j cd) (dn - j) (cd - j)]), blkE Q13 22 ([Value.slice Ad dn cd])] wy4 from HM.out.below hb)
    rw [F3.out, HH32.out]
    clear hb
    go_wp2_with fail
    refine hK.out _ _ (HM.out) (fun hHeld => ?_)
    clear hK K
    (try simp only [Act.put, List.setIfInBounds_toArray, List.set_cons_zero, List.set_cons_succ])
    refine step_one 14 rfl (by kernel_rfl) (fun K hK => ?_)
    clear hHeld
    go_simp
    refine (hash_one HHC.out Q13 22 Ad dn cd dl d1 hdm (by omega) _ (HLV.out.below HM.out.bel) (HM.out.blk 1 rfl) (HM.out.arg HD.out)).mono ?_
    rintro e wy5 ⟨rfl, hb⟩
    replace HM := Lib.hid (show Mem w [blkE Q10 22 ([Value.slice Ad i cd, .slice (addrOf Ad i cd) (j - i) (cd - i), .slice (addrOf Ad j cd) (dn - j) (cd - j)]), blkE Q13 22 ([Value.slice Ad dn cd])] wy5 from HM.out.below hb)
    rw [HH32.out]
    clear hb
    go_wp2_with fail
    refine hK.out _ _ (HM.out) (fun hHeld => ?_)
    clear hK K
    (try simp only [Act.put, List.setIfInBounds_toArray, List.set_cons_zero, List.set_cons_succ])
    refine take_first (v := ?_) 15 rfl (by kernel_rfl) (by kernel_rfl) (by kernel_rfl) (fun _ _ _ h => h) (Or.inl ⟨by rfl, ?_⟩) (by assumption) ?_
    rotate_left
    · (intro w hSw; (try dsimp only at hSw); have ex := HE32.out w; go_simp; try with_reducible rfl)
    (try simp only [Act.put, List.setIfInBounds_toArray, List.set_cons_zero, List.set_cons_succ])
    refine take_first (v := ?_) 16 rfl (by kernel_rfl) (by kernel_rfl) (by kernel_rfl) (fun _ _ _ h => h) (Or.inl ⟨by rfl, ?_⟩) (by assumption) ?_
    rotate_left
    · (intro w hSw; (try dsimp only at hSw); go_simp; try with_reducible rfl)
    (try simp only [Act.put, List.setIfInBounds_toArray, List.set_cons_zero, List.set_cons_succ])
    refine take_first (v := ?_) 17 rfl (by kernel_rfl) (by kernel_rfl) (by kernel_rfl) (fun _ _ _ h => h) (Or.inl ⟨by rfl, ?_⟩) (by assumption) ?_
    rotate_left
    · (intro w hSw; (try dsimp only at hSw); go_simp; try with_reducible rfl)
    (try simp only [Act.put, List.setIfInBounds_toArray, List.set_cons_zero, List.set_cons_succ])
    refine take_first (v := ?_) 18 rfl (by kernel_rfl) (by kernel_rfl) (by kernel_rfl) (fun _ _ _ h => h) (Or.inl ⟨by rfl, ?_⟩) (by assumption) ?_
    rotate_left
    · (intro w hSw; (try dsimp only at hSw); go_simp; try with_reducible rfl)
    (try simp only [Act.put, List.setIfInBounds_toArray, List.set_cons_zero, List.set_cons_succ])
    refine take_first (v := ?_) 19 rfl (by kernel_rfl) (by kernel_rfl) (by kernel_rfl) (fun _ _ _ h => h) (Or.inl ⟨by rfl, ?_⟩) (by assumption) ?_
    rotate_left
    · (intro w hSw; (try dsimp only at hSw); go_simp; try with_reducible rfl)
    (try simp only [Act.put, List.setIfInBounds_toArray, List.set_cons_zero, List.set_cons_succ])
    refine take_first (v := ?_) 20 rfl (by kernel_rfl) (by kernel_rfl) (by kernel_rfl) (fun _ _ _ h => h) (Or.inl ⟨by rfl, ?_⟩) (by assumption) ?_
    rotate_left
    · (intro w hSw; (try dsimp only at hSw); go_simp; try with_reducible rfl)
    (try simp only [Act.put, List.setIfInBounds_toArray, List.set_cons_zero, List.set_cons_succ])
    refine take_first (v := ?_) 21 rfl (by kernel_rfl) (by kernel_rfl) (by kernel_rfl) (fun _ _ _ h => h) (Or.inl ⟨by rfl, ?_⟩) (by assumption) ?_
    rotate_left
    · (intro w hSw; (try dsimp only at hSw); go_simp; try with_reducible rfl)
    (try simp only [Act.put, List.setIfInBounds_toArray, List.set_cons_zero, List.set_cons_succ])
    refine take_first (v := ?_) 22 rfl (by kernel_rfl) (by kernel_rfl) (by kernel_rfl) (fun _ _ _ h => h) (Or.inl ⟨by rfl, ?_⟩) (by assumption) ?_
    rotate_left
    · (intro w hSw; (try dsimp only at hSw); go_simp; try with_reducible rfl)
    (try simp only [Act.put, List.setIfInBounds_toArray, List.set_cons_zero, List.set_cons_succ])
    refine take_first (v := ?_) 23 rfl (by kernel_rfl) (by kernel_rfl) (by kernel_rfl) (fun _ _ _ h => h) (Or.inl ⟨by rfl, ?_⟩) (by assumption) ?_
    rotate_left
    · (intro w hSw; (try dsimp only at hSw); have s := slice_l Ad dn cd i hid w; go_simp; try with_reducible rfl)
    (try simp only [Act.put, List.setIfInBounds_toArray, List.set_cons_zero, List.set_cons_succ])
    refine take_first (v := ?_) 26 rfl (by kernel_rfl) (by kernel_rfl) (by kernel_rfl) (fun _ _ _ h => h) (Or.inl ⟨by rfl, ?_⟩) (by assumption) ?_
    rotate_left
    · (intro w hSw; (try dsimp only at hSw); go_simp; try with_reducible rfl)
    (try simp only [Act.put, List.setIfInBounds_toArray, List.set_cons_zero, List.set_cons_succ])
    refine take_first (v := ?_) 27 rfl (by kernel_rfl) (by kernel_rfl) (by kernel_rfl) (fun _ _ _ h => h) (Or.inl ⟨by rfl, ?_⟩) (by assumption) ?_
    rotate_left
    · (intro w hSw; (try dsimp only at hSw); go_simp; try with_reducible rfl)
    (try simp only [Act.put, List.setIfInBounds_toArray, List.set_cons_zero, List.set_cons_succ])
    refine step_two 24 28 rfl rfl (by kernel_rfl) (fun K hK => ?_) (fun K hK => ?_)
    · clear hHeld
      go_simp
      replace HM := Lib.hid (show Mem w [blkE wy5.heap.size 22 ([Value.slice Ad i cd, .slice none 0 0, .slice (addrOf Ad i cd) (dn - i) (cd - i)]), blkE Q10 22 ([Value.slice Ad i cd, .slice (addrOf Ad i cd) (j - i) (cd - i), .slice (addrOf Ad j cd) (dn - j) (cd - j)]), blkE Q13 22 ([Value.slice Ad dn cd])] (wy5.alloc (.cells #[Value.slice Ad i cd, .slice none 0 0, .slice (addrOf Ad i cd) (dn - i) (cd - i)] 22)) from HM.out.alloc rfl 22 #[Value.slice Ad i cd, .slice none 0 0, .slice (addrOf Ad i cd) (dn - i) (cd - i)] ([Value.slice Ad i cd, .slice none 0 0, .slice (addrOf Ad i cd) (dn - i) (cd - i)]) rfl)
      generalize wy5.alloc (.cells #[Value.slice Ad i cd, .slice none 0 0, .slice (addrOf Ad i cd) (dn - i) (cd - i)] 22) = wy6 at HM ⊢
      generalize wy5.heap.size = Q24 at HM ⊢
      refine hK.out _ _ ((HM.out.erase 0)) (fun hHeld => ?_)
      clear hK K
      (try simp only [Act.put, List.setIfInBounds_toArray, List.set_cons_zero, List.set_cons_succ])
      refine wpAnyH_stronger (T := fun W' => Mem w [blkE Q24 22 ([Value.slice Ad i cd, .slice none 0 0, .slice (addrOf Ad i cd) (dn - i) (cd - i)]), blkE Q10 22 ([Value.slice Ad i cd, .slice (addrOf Ad i cd) (j - i) (cd - i), .slice (addrOf Ad j cd) (dn - j) (cd - j)]), blkE Q13 22 ([Value.slice Ad dn cd])] W') (fun _ h' => h'.erase 0) _ _ _ _ ?_
      replace hHeld := HM.out
      refine step_two 25 28 rfl rfl (by kernel_rfl) (fun K hK => ?_) (fun K hK => ?_)
      · clear hHeld
        go_simp
        refine (code_three HCC.out Ak kn ck kl k1 hkm (by omega) Q24 22 Ad i cd l1 none 0 0 [] (addrOf Ad i cd) (dn - i) (cd - i) l4 (by omega) hdm (by omega) (Nat.le_refl _) (Nat.zero_le _) (by omega) (by omega) (by omega) (by omega) _ (HLV.out.below HM.out.bel) (HM.out.blk 0 rfl) (HM.out.arg HK.out) (HM.out.arg R1.out) (Rd.nil _ _ _) (HM.out.arg R4.out)).mono ?_
        rintro e wy7 ⟨rfl, hb⟩
        replace HM := Lib.hid (show Mem w [blkE Q24 22 ([Value.slice Ad i cd, .slice none 0 0, .slice (addrOf Ad i cd) (dn - i) (cd - i)]), blkE Q10 22 ([Value.slice Ad i cd, .slice (addrOf Ad i cd) (j - i) (cd - i), .slice (addrOf Ad j cd) (dn - j) (cd - j)]), blkE Q13 22 ([Value.slice Ad dn cd])] wy7 from HM.out.below hb)
        rw [F4.out, HH16.out]
        clear hb
        go_wp2_with fail
        refine hK.out _ _ (HM.out) (fun hHeld => ?_)
        clear hK K
        (try simp only [Act.put, List.setIfInBounds_toArray, List.set_cons_zero, List.set_cons_succ])
        refine step_one 28 rfl (by kernel_rfl) (fun K hK => ?_)
        clear hHeld
        go_simp
        replace HM := Lib.hid (show Mem w [blkE wy7.heap.size 22 ([Value.slice Ad dn cd]), blkE Q24 22 ([Value.slice Ad i cd, .slice none 0 0, .slice (addrOf Ad i cd) (dn - i) (cd - i)]), blkE Q10 22 ([Value.slice Ad i cd, .slice (addrOf Ad i cd) (j - i) (cd - i), .slice (addrOf Ad j cd) (dn - j) (cd - j)]), blkE Q13 22 ([Value.slice Ad dn cd])] (wy7.alloc (.cells #[Value.slice Ad dn cd] 22)) from HM.out.alloc rfl 22 #[Value.slice Ad dn cd] ([Value.slice Ad dn cd]) rfl)
        generalize wy7.alloc (.cells #[Value.slice Ad dn cd] 22) = wy8 at HM ⊢
        generalize wy7.heap.size = Q28 at HM ⊢
        refine hK.out _ _ ((HM.out.erase 0)) (fun hHeld => ?_)
        clear hK K
        (try simp only [Act.put, List.setIfInBounds_toArray, List.set_cons_zero, List.set_cons_succ])
        refine wpAnyH_stronger (T := fun W' => Mem w [blkE Q28 22 ([Value.slice Ad dn cd]), blkE Q24 22 ([Value.slice Ad i cd, .slice none 0 0, .slice (addrOf Ad i cd) (dn - i) (cd - i)]), blkE Q10 22 ([Value.slice Ad i cd, .slice (addrOf Ad i cd) (j - i) (cd - i), .slice (addrOf Ad j cd) (dn - j) (cd - j)]), blkE Q13 22 ([Value.slice Ad dn cd])] W') (fun _ h' => h'.erase 0) _ _ _ _ ?_
        replace hHeld := HM.out
        refine step_one 29 rfl (by kernel_rfl) (fun K hK => ?_)
        clear hHeld
        go_simp
        refine (code_one HCC.out Ak kn ck kl k1 hkm (by omega) Q28 22 Ad dn cd dl d1 hdm (by omega) _ (HLV.out.below HM.out.bel) (HM.out.blk 0 rfl) (HM.out.arg HK.out) (HM.out.arg HD.out)).mono ?_
        rintro e wy9 ⟨rfl, hb⟩
        replace HM := Lib.hid (show Mem w [blkE Q28 22 ([Value.slice Ad dn cd]), blkE Q24 22 ([Value.slice Ad i cd, .slice none 0 0, .slice (addrOf Ad i cd) (dn - i) (cd - i)]), blkE Q10 22 ([Value.slice Ad i cd, .slice (addrOf Ad i cd) (j - i) (cd - i), .slice (addrOf Ad j cd) (dn - j) (cd - j)]), blkE Q13 22 ([Value.slice Ad dn cd])] wy9 from HM.out.below hb)
        rw [HH16.out]
        clear hb
        go_wp2_with fail
        refine hK.out _ _ (HM.out) (fun hHeld => ?_)
        clear hK K
        (try simp only [Act.put, List.setIfInBounds_toArray, List.set_cons_zero, List.set_cons_succ])
        refine take_first (v := ?_) 30 rfl (by kernel_rfl) (by kernel_rfl) (by kernel_rfl) (fun _ _ _ h => h) (Or.inl ⟨by rfl, ?_⟩) (by assumption) ?_
        rotate_left
        · (intro w hSw; (try dsimp only at hSw); have ex := HE16.out w; go_simp; try with_reducible rfl)
        (try simp only [Act.put, List.setIfInBounds_toArray, List.set_cons_zero, List.set_cons_succ])
        refine take_first (v := ?_) 31 rfl (by kernel_rfl) (by kernel_rfl) (by kernel_rfl) (fun _ _ _ h => h) (Or.inl ⟨by rfl, ?_⟩) (by assumption) ?_
        rotate_left
        · (intro w hSw; (try dsimp only at hSw); go_simp; try with_reducible rfl)
        (try simp only [Act.put, List.setIfInBounds_toArray, List.set_cons_zero, List.set_cons_succ])
        refine take_first (v := ?_) 32 rfl (by kernel_rfl) (by kernel_rfl) (by kernel_rfl) (fun _ _ _ h => h) (Or.inl ⟨by rfl, ?_⟩) (by assumption) ?_
        rotate_left
        · (intro w hSw; (try dsimp only at hSw); go_simp; try with_reducible rfl)
        (try simp only [Act.put, List.setIfInBounds_toArray, List.set_cons_zero, List.set_cons_succ])
        refine step_one 33 rfl (by kernel_rfl) (fun K hK => ?_)
        clear hHeld
        go_simp
        refine (HBG.out _ (HLV.out.below HM.out.bel)).mono ?_
        rintro e wy10 ⟨rfl, hb⟩
        replace HM := Lib.hid (show Mem w [blkE Q28 22 ([Value.slice Ad dn cd]), blkE Q24 22 ([Value.slice Ad i cd, .slice none 0 0, .slice (addrOf Ad i cd) (dn - i) (cd - i)]), blkE Q10 22 ([Value.slice Ad i cd, .slice (addrOf Ad i cd) (j - i) (cd - i), .slice (addrOf Ad j cd) (dn - j) (cd - j)]), blkE Q13 22 ([Value.slice Ad dn cd])] wy10 from HM.out.below hb)
        clear hb
        go_wp2_with fail
        refine hK.out _ _ (HM.out) (fun hHeld => ?_)
        clear hK K
        (try simp only [Act.put, List.setIfInBounds_toArray, List.set_cons_zero, List.set_cons_succ])
        refine take_first (v := ?_) 34 rfl (by kernel_rfl) (by kernel_rfl) (by kernel_rfl) (fun _ _ _ h => h) (Or.inl ⟨by rfl, ?_⟩) (by assumption) ?_
        rotate_left
        · (intro w hSw; (try dsimp only at hSw); go_simp; try with_reducible rfl)
        (try simp only [Act.put, List.setIfInBounds_toArray, List.set_cons_zero, List.set_cons_succ])
        refine take_first (v := ?_) 35 rfl (by kernel_rfl) (by kernel_rfl) (by kernel_rfl) (fun _ _ _ h => h) (Or.inl ⟨by rfl, ?_⟩) (by assumption) ?_
        rotate_left
        · (intro w hSw; (try dsimp only at hSw); go_simp; try with_reducible rfl)
        (try simp only [Act.put, List.setIfInBounds_toArray, List.set_cons_zero, List.set_cons_succ])
        refine wpAnyH_done (by kernel_rfl) ?_ _
        have HF := Lib.hid HM.out.bel
        clear HM hHeld
        go_wp2_with fail
        go_ret
        exact ⟨rfl, HF.out⟩
      · clear hHeld
        go_simp
        replace HM := Lib.hid (show Mem w [blkE wy6.heap.size 22 ([Value.slice Ad dn cd]), blkE Q24 22 ([Value.slice Ad i cd, .slice none 0 0, .slice (addrOf Ad i cd) (dn - i) (cd - i)]), blkE Q10 22 ([Value.slice Ad i cd, .slice (addrOf Ad i cd) (j - i) (cd - i), .slice (addrOf Ad j cd) (dn - j) (cd - j)]), blkE Q13 22 ([Value.slice Ad dn cd])] (wy6.alloc (.cells #[Value.slice Ad dn cd] 22)) from HM.out.alloc rfl 22 #[Value.slice Ad dn cd] ([Value.slice Ad dn cd]) rfl)
        generalize wy6.alloc (.cells #[Value.slice Ad dn cd] 22) = wy7 at HM ⊢
        generalize wy6.heap.size = Q28 at HM ⊢
        refine hK.out _ _ ((HM.out.erase 0)) (fun hHeld => ?_)
        clear hK K
        (try simp only [Act.put, List.setIfInBounds_toArray, List.set_cons_zero, List.set_cons_succ])
        refine wpAnyH_stronger (T := fun W' => Mem w [blkE Q28 22 ([Value.slice Ad dn cd]), blkE Q24 22 ([Value.slice Ad i cd, .slice none 0 0, .slice (addrOf Ad i cd) (dn - i) (cd - i)]), blkE Q10 22 ([Value.slice Ad i cd, .slice (addrOf Ad i cd) (j - i) (cd - i), .slice (addrOf Ad j cd) (dn - j) (cd - j)]), blkE Q13 22 ([Value.slice Ad dn cd])] W') (fun _ h' => h'.erase 0) _ _ _ _ ?_
        replace hHeld := HM.out
        refine step_one 25 rfl (by kernel_rfl) (fun K hK => ?_)
        clear hHeld
        go_simp
        refine (code_three HCC.out Ak kn ck kl k1 hkm (by omega) Q24 22 Ad i cd l1 none 0 0 [] (addrOf Ad i cd) (dn - i) (cd - i) l4 (by omega) hdm (by omega) (Nat.le_refl _) (Nat.zero_le _) (by omega) (by omega) (by omega) (by omega) _ (HLV.out.below HM.out.bel) (HM.out.blk 1 rfl) (HM.out.arg HK.out) (HM.out.arg R1.out) (Rd.nil _ _ _) (HM.out.arg R4.out)).mono ?_
        rintro e wy8 ⟨rfl, hb⟩
        replace HM := Lib.hid (show Mem w [blkE Q28 22 ([Value.slice Ad dn cd]), blkE Q24 22 ([Value.slice Ad i cd, .slice none 0 0, .slice (addrOf Ad i cd) (dn - i) (cd - i)]), blkE Q10 22 ([Value.slice Ad i cd, .slice (addrOf Ad i cd) (j - i) (cd - i), .slice (addrOf Ad j cd) (dn - j) (cd - j)]), blkE Q13 22 ([Value.slice Ad dn cd])] wy8 from HM.out.below hb)
        rw [F4.out, HH16.out]
        clear hb
        go_wp2_with fail
        refine hK.out _ _ (HM.out) (fun hHeld => ?_)
        clear hK K
        (try simp only [Act.put, List.setIfInBounds_toArray, List.set_cons_zero, List.set_cons_succ])
        refine step_one 29 rfl (by kernel_rfl) (fun K hK => ?_)
        clear hHeld
        go_simp
        refine (code_one HCC.out Ak kn ck kl k1 hkm (by omega) Q28 22 Ad dn cd dl d1 hdm (by omega) _ (HLV.out.below HM.out.bel) (HM.out.blk 0 rfl) (HM.out.arg HK.out) (HM.out.arg HD.out)).mono ?_
        rintro e wy9 ⟨rfl, hb⟩
        replace HM := Lib.hid (show Mem w [blkE Q28 22 ([Value.slice Ad dn cd]), blkE Q24 22 ([Value.slice Ad i cd, .slice none 0 0, .slice (addrOf Ad i cd) (dn - i) (cd - i)]), blkE Q10 22 ([Value.slice Ad i cd, .slice (addrOf Ad i cd) (j - i) (cd - i), .slice (addrOf Ad j cd) (dn - j) (cd - j)]), blkE Q13 22 ([Value.slice Ad dn cd])] wy9 from HM.out.below hb)
        rw [HH16.out]
        clear hb
        go_wp2_with fail
        refine hK.out _ _ (HM.out) (fun hHeld => ?_)
        clear hK K
        (try simp only [Act.put, List.setIfInBounds_toArray, List.set_cons_zero, List.set_cons_succ])
        refine take_first (v := ?_) 30 rfl (by kernel_rfl) (by kernel_rfl) (by kernel_rfl) (fun _ _ _ h => h) (Or.inl ⟨by rfl, ?_⟩) (by assumption) ?_
        rotate_left
        · (intro w hSw; (try dsimp only at hSw); have ex := HE16.out w; go_simp; try with_reducible rfl)
        (try simp only [Act.put, List.setIfInBounds_toArray, List.set_cons_zero, List.set_cons_succ])
        refine take_first (v := ?_) 31 rfl (by kernel_rfl) (by kernel_rfl) (by kernel_rfl) (fun _ _ _ h => h) (Or.inl ⟨by rfl, ?_⟩) (by assumption) ?_
        rotate_left
        · (intro w hSw; (try dsimp only at hSw); go_simp; try with_reducible rfl)
        (try simp only [Act.put, List.setIfInBounds_toArray, List.set_cons_zero, List.set_cons_succ])
        refine take_first (v := ?_) 32 rfl (by kernel_rfl) (by kernel_rfl) (by kernel_rfl) (fun _ _ _ h => h) (Or.inl ⟨by rfl, ?_⟩) (by assumption) ?_
        rotate_left
        · (intro w hSw; (try dsimp only at hSw); go_simp; try with_reducible rfl)
        (try simp only [Act.put, List.setIfInBounds_toArray, List.set_cons_zero, List.set_cons_succ])
        refine step_one 33 rfl (by kernel_rfl) (fun K hK => ?_)
        clear hHeld
        go_simp
        refine (HBG.out _ (HLV.out.below HM.out.bel)).mono ?_
        rintro e wy10 ⟨rfl, hb⟩
        replace HM := Lib.hid (show Mem w [blkE Q28 22 ([Value.slice Ad dn cd]), blkE Q24 22 ([Value.slice Ad i cd, .slice none 0 0, .slice (addrOf Ad i cd) (dn - i) (cd - i)]), blkE Q10 22 ([Value.slice Ad i cd, .slice (addrOf Ad i cd) (j - i) (cd - i), .slice (addrOf Ad j cd) (dn - j) (cd - j)]), blkE Q13 22 ([Value.slice Ad dn cd])] wy10 from HM.out.below hb)
        clear hb
        go_wp2_with fail
        refine hK.out _ _ (HM.out) (fun hHeld => ?_)
        clear hK K
        (try simp only [Act.put, List.setIfInBounds_toArray, List.set_cons_zero, List.set_cons_succ])
        refine take_first (v := ?_) 34 rfl (by kernel_rfl) (by kernel_rfl) (by kernel_rfl) (fun _ _ _ h => h) (Or.inl ⟨by rfl, ?_⟩) (by assumption) ?_
        rotate_left
        · (intro w hSw; (try dsimp only at hSw); go_simp; try with_reducible rfl)
        (try simp only [Act.put, List.setIfInBounds_toArray, List.set_cons_zero, List.set_cons_succ])
        refine take_first (v := ?_) 35 rfl (by kernel_rfl) (by kernel_rfl) (by kernel_rfl) (fun _ _ _ h => h) (Or.inl ⟨by rfl, ?_⟩) (by assumption) ?_
        rotate_left
        · (intro w hSw; (try dsimp only at hSw); go_simp; try with_reducible rfl)
        (try simp only [Act.put, List.setIfInBounds_toArray, List.set_cons_zero, List.set_cons_succ])
        refine wpAnyH_done (by kernel_rfl) ?_ _
        have HF := Lib.hid HM.out.bel
        clear HM hHeld
        go_wp2_with fail
        go_ret
        exact ⟨rfl, HF.out⟩
    · clear hHeld
      go_simp
      replace HM := Lib.hid (show Mem w [blkE wy5.heap.size 22 ([Value.slice Ad dn cd]), blkE Q10 22 ([Value.slice Ad i cd, .slice (addrOf Ad i cd) (j - i) (cd - i), .slice (addrOf Ad j cd) (dn - j) (cd - j)]), blkE Q13 22 ([Value.slice Ad dn cd])] (wy5.alloc (.cells #[Value.slice Ad dn cd] 22)) from HM.out.alloc rfl 22 #[Value.slice Ad dn cd] ([Value.slice Ad dn cd]) rfl)
      generalize wy5.alloc (.cells #[Value.slice Ad dn cd] 22) = wy6 at HM ⊢
      generalize wy5.heap.size = Q28 at HM ⊢
      refine hK.out _ _ ((HM.out.erase 0)) (fun hHeld => ?_)
      clear hK K
      (try simp only [Act.put, List.setIfInBounds_toArray, List.set_cons_zero, List.set_cons_succ])
      refine wpAnyH_stronger (T := fun W' => Mem w [blkE Q28 22 ([Value.slice Ad dn cd]), blkE Q10 22 ([Value.slice Ad i cd, .slice (addrOf Ad i cd) (j - i) (cd - i), .slice (addrOf Ad j cd) (dn - j) (cd - j)]), blkE Q13 22 ([Value.slice Ad dn cd])] W') (fun _ h' => h'.erase 0) _ _ _ _ ?_
      replace hHeld := HM.out
      refine step_one 24 rfl (by kernel_rfl) (fun K hK => ?_)
      clear hHeld
      go_simp
      replace HM := Lib.hid (show Mem w [blkE wy6.heap.size 22 ([Value.slice Ad i cd, .slice none 0 0, .slice (addrOf Ad i cd) (dn - i) (cd - i)]), blkE Q28 22 ([Value.slice Ad dn cd]), blkE Q10 22 ([Value.slice Ad i cd, .slice (addrOf Ad i cd) (j - i) (cd - i), .slice (addrOf Ad j cd) (dn - j) (cd - j)]), blkE Q13 22 ([Value.slice Ad dn cd])] (wy6.alloc (.cells #[Value.slice Ad i cd, .slice none 0 0, .slice (addrOf Ad i cd) (dn - i) (cd - i)] 22)) from HM.out.alloc rfl 22 #[Value.slice Ad i cd, .slice none 0 0, .slice (addrOf Ad i cd) (dn - i) (cd - i)] ([Value.slice Ad i cd, .slice none 0 0, .slice (addrOf Ad i cd) (dn - i) (cd - i)]) rfl)
      generalize wy6.alloc (.cells #[Value.slice Ad i cd, .slice none 0 0, .slice (addrOf Ad i cd) (dn - i) (cd - i)] 22) = wy7 at HM ⊢
      generalize wy6.heap.size = Q24 at HM ⊢
      refine hK.out _ _ ((HM.out.erase 0)) (fun hHeld => ?_)
      clear hK K
      (try simp only [Act.put, List.setIfInBounds_toArray, List.set_cons_zero, List.set_cons_succ])
      refine wpAnyH_stronger (T := fun W' => Mem w [blkE Q24 22 ([Value.slice Ad i cd, .slice none 0 0, .slice (addrOf Ad i cd) (dn - i) (cd - i)]), blkE Q28 22 ([Value.slice Ad dn cd]), blkE Q10 22 ([Value.slice Ad i cd, .slice (addrOf Ad i cd) (j - i) (cd - i), .slice (addrOf Ad j cd) (dn - j) (cd - j)]), blkE Q13 22 ([Value.slice Ad dn cd])] W') (fun _ h' => h'.erase 0) _ _ _ _ ?_
      replace hHeld := HM.out
      refine step_one 25 rfl (by kernel_rfl) (fun K hK => ?_)
      clear hHeld
      go_simp
      refine (code_three HCC.out Ak kn ck kl k1 hkm (by omega) Q24 22 Ad i cd l1 none 0 0 [] (addrOf Ad i cd) (dn - i) (cd - i) l4 (by omega) hdm (by omega) (Nat.le_refl _) (Nat.zero_le _) (by omega) (by omega) (by omega) (by omega) _ (HLV.out.below HM.out.bel) (HM.out.blk 0 rfl) (HM.out.arg HK.out) (HM.out.arg R1.out) (Rd.nil _ _ _) (HM.out.arg R4.out)).mono ?_
      rintro e wy8 ⟨rfl, hb⟩
      replace HM := Lib.hid (show Mem w [blkE Q24 22 ([Value.slice Ad i cd, .slice none 0 0, .slice (addrOf Ad i cd) (dn - i) (cd - i)]), blkE Q28 22 ([Value.slice Ad dn cd]), blkE Q10 22 ([Value.slice Ad i cd, .slice (addrOf Ad i cd) (j - i) (cd - i), .slice (addrOf Ad j cd) (dn - j) (cd - j)]), blkE Q13 22 ([Value.slice Ad dn cd])] wy8 from HM.out.below hb)
      rw [F4.out, HH16.out]
      clear hb
      go_wp2_with fail
      refine hK.out _ _ (HM.out) (fun hHeld => ?_)
      clear hK K
      (try simp only [Act.put, List.setIfInBounds_toArray, List.set_cons_zero, List.set_cons_succ])
      refine step_one 29 rfl (by kernel_rfl) (fun K hK => ?_)
      clear hHeld
      go_simp
      refine (code_one HCC.out Ak kn ck kl k1 hkm (by omega) Q28 22 Ad dn cd dl d1 hdm (by omega) _ (HLV.out.below HM.out.bel) (HM.out.blk 1 rfl) (HM.out.arg HK.out) (HM.out.arg HD.out)).mono ?_
      rintro e wy9 ⟨rfl, hb⟩
      replace HM := Lib.hid (show Mem w [blkE Q24 22 ([Value.slice Ad i cd, .slice none 0 0, .slice (addrOf Ad i cd) (dn - i) (cd - i)]), blkE Q28 22 ([Value.slice Ad dn cd]), blkE Q10 22 ([Value.slice Ad i cd, .slice (addrOf Ad i cd) (j - i) (cd - i), .slice (addrOf Ad j cd) (dn - j) (cd - j)]), blkE Q13 22 ([Value.slice Ad dn cd])] wy9 from HM.out.below hb)
      rw [HH16.out]
      clear hb
      go_wp2_with fail
      refine hK.out _ _ (HM.out) (fun hHeld => ?_)
      clear hK K
      (try simp only [Act.put, List.setIfInBounds_toArray, List.set_cons_zero, List.set_cons_succ])
      refine take_first (v := ?_) 30 rfl (by kernel_rfl) (by kernel_rfl) (by kernel_rfl) (fun _ _ _ h => h) (Or.inl ⟨by rfl, ?_⟩) (by assumption) ?_
      rotate_left
      · (intro w hSw; (try dsimp only at hSw); have ex := HE16.out w; go_simp; try with_reducible rfl)
      (try simp only [Act.put, List.setIfInBounds_toArray, List.set_cons_zero, List.set_cons_succ])
      refine take_first (v := ?_) 31 rfl (by kernel_rfl) (by kernel_rfl) (by kernel_rfl) (fun _ _ _ h => h) (Or.inl ⟨by rfl, ?_⟩) (by assumption) ?_
      rotate_left
      · (intro w hSw; (try dsimp only at hSw); go_simp; try with_reducible rfl)
      (try simp only [Act.put, List.setIfInBounds_toArray, List.set_cons_zero, List.set_cons_succ])
      refine take_first (v := ?_) 32 rfl (by kernel_rfl) (by kernel_rfl) (by kernel_rfl) (fun _ _ _ h => h) (Or.inl ⟨by rfl, ?_⟩) (by assumption) ?_
      rotate_left
      · (intro w hSw; (try dsimp only at hSw); go_simp; try with_reducible rfl)
      (try simp only [Act.put, List.setIfInBounds_toArray, List.set_cons_zero, List.set_cons_succ])
      refine step_one 33 rfl (by kernel_rfl) (fun K hK => ?_)
      clear hHeld
      go_simp
      refine (HBG.out _ (HLV.out.below HM.out.bel)).mono ?_
      rintro e wy10 ⟨rfl, hb⟩
      replace HM := Lib.hid (show Mem w [blkE Q24 22 ([Value.slice Ad i cd, .slice none 0 0, .slice (addrOf Ad i cd) (dn - i) (cd - i)]), blkE Q28 22 ([Value.slice Ad dn cd]), blkE Q10 22 ([Value.slice Ad i cd, .slice (addrOf Ad i cd) (j - i) (cd - i), .slice (addrOf Ad j cd) (dn - j) (cd - j)]), blkE Q13 22 ([Value.slice Ad dn cd])] wy10 from HM.out.below hb)
      clear hb
      go_wp2_with fail
      refine hK.out _ _ (HM.out) (fun hHeld => ?_)
      clear hK K
      (try simp only [Act.put, List.setIfInBounds_toArray, List.set_cons_zero, List.set_cons_succ])
      refine take_first (v := ?_) 34 rfl (by kernel_rfl) (by kernel_rfl) (by kernel_rfl) (fun _ _ _ h => h) (Or.inl ⟨by rfl, ?_⟩) (by assumption) ?_
      rotate_left
      · (intro w hSw; (try dsimp only at hSw); go_simp; try with_reducible rfl)
      (try simp only [Act.put, List.setIfInBounds_toArray, List.set_cons_zero, List.set_cons_succ])
      refine take_first (v := ?_) 35 rfl (by kernel_rfl) (by kernel_rfl) (by kernel_rfl) (fun _ _ _ h => h) (Or.inl ⟨by rfl, ?_⟩) (by assumption) ?_
      rotate_left
      · (intro w hSw; (try dsimp only at hSw); go_simp; try with_reducible rfl)
      (try simp only [Act.put, List.setIfInBounds_toArray, List.set_cons_zero, List.set_cons_succ])
      refine wpAnyH_done (by kernel_rfl) ?_ _
      have HF := Lib.hid HM.out.bel
      clear HM hHeld
      go_wp2_with fail
      go_ret
      exact ⟨rfl, HF.out⟩
end Go.Proofs.YtellicmnopfkgaaDoor
