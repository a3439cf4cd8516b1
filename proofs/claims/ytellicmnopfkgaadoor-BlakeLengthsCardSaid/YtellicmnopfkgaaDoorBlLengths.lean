/-
  BlakeLengths returns true for every input, and changes nothing that was there: the walk, over what is asked of blake.Sum, Hash and Code.
-/
import Derived.Test.YtellicmnopfkgaaDoorCells32
import Derived.Test.YtellicmnopfkgaaDoorBlUse
import Derived.Test.YtellicmnopfkgaaDoorBlBegun
import Derived.Test.YtellicmnopfkgaaDoorCut
import Derived.RegionTactic
import Derived.Test.YtellicmnopfkgaaDoorBlBegun6
import Derived.Test.YtellicmnopfkgaaDoorBlUseC
import Derived.Test.YtellicmnopfkgaaDoorBlCc
namespace Go.Proofs.YtellicmnopfkgaaDoor
open Go.RowKit

theorem bl_conv {w : World} {B n : Nat} {A : Option Addr} {l : List UInt8} (h : Rd w B A n l) (c : Nat) : (convert 22 9 (.slice A n c)).run Tryd.prog w = .ok (.string ⟨l.toArray⟩) w :=
  run_string_of_rd (P := Tryd.prog) 22 9 5 c Tryd.underlying22 Tryd.underlying5 Tryd.underlying9 h

set_option maxRecDepth 100000 in
set_option maxHeartbeats 8000000 in
theorem bl_lengths_walk (HS : BlSumC) (HH : BlHashC) (HC : BlCodeC) (w : World) (hlv : LvBlake w) (ia : Nat) (Ak : Option Addr) (nk ck : Nat) (lk : List UInt8) (Ad : Option Addr) (nd cd : Nat) (ld : List UInt8) (hia : ia ≤ 255) (hkc : nk ≤ ck) (hkm : ck ≤ maxLen) (hrk : Rd w w.heap.size Ak nk lk) (hdc : nd ≤ cd) (hdm : cd ≤ maxLen) (hrd : Rd w w.heap.size Ad nd ld) :
    Calls Tryd.prog 6 #[.int .u8 (ia : Int), .slice Ak nk ck, .slice Ad nd cd] w fun e w' => e = .returned (.bool true) ∧ Below w.heap.size w w' := by
  have HM := Lib.hid (Mem.nil w)
  have HK := Lib.hid hrk
  have HD := Lib.hid hrd
  have HSC := Lib.hid HS
  have HLV := Lib.hid hlv
  clear hlv
  have HHC := Lib.hid HH
  have HCC := Lib.hid HC
  have HBG := Lib.hid (bl_begun_any HH)
  clear hrk hrd HS HH HC
  go_enter Tryd.func6, Tryd.ntmps6
  go_wp2_with fail
  refine (cut_any _ Ak nk ck 32 lk hkc hkm _ (HK.out.below HM.out.bel)).mono ?_
  rintro e wc ⟨rfl, hcut, rfl⟩
  clear hcut
  go_wp2_with fail
  refine (cut_any _ Ad nd cd 100 ld hdc hdm _ (HD.out.below HM.out.bel)).mono ?_
  rintro e wc ⟨rfl, hcut, rfl⟩
  clear hcut
  obtain ⟨kn, hkn⟩ : ∃ n, min nk 32 = n := ⟨_, rfl⟩
  obtain ⟨dn, hdn⟩ : ∃ n, min nd 100 = n := ⟨_, rfl⟩
  have k1 : kn ≤ ck := by omega
  have k2 : kn ≤ 32 := by omega
  have d1 : dn ≤ cd := by omega
  have d2 : dn ≤ 100 := by omega
  replace HK := Lib.hid (HK.out.take (m := kn) (by omega))
  replace HD := Lib.hid (HD.out.take (m := dn) (by omega))
  rw [hkn, hdn]
  clear hkn hdn
  generalize lk.take kn = kl at HK
  generalize ld.take dn = dl at HD
  have HKL := Lib.hid (show kl.length ≤ 32 by rw [HK.out.1]; exact k2)
  obtain ⟨bn, hbn⟩ : ∃ n, 1 + ia % 32 = n := ⟨_, rfl⟩
  have b1 : 1 ≤ bn := by omega
  have b2 : bn ≤ 32 := by omega
  have e1 : (1 : Int) + (ia : Int) % 32 = (bn : Int) := by omega
  have e2 : IntKind.i64.wrap ((1 : Int) + (ia : Int) % 32) = (bn : Int) := by rw [e1]; exact IntWalk.i64_in _ (by omega)
  go_wp2_with fail
  clear e1 e2
  refine (HSC.out (bn : Int) (by omega) (by omega) Ak Ad kn ck dn cd kl dl k1 hkm d1 hdm (by omega) (by omega) _ HLV.out HK.out HD.out).mono ?_
  rintro e w2 ⟨Ab, cb, rfl, hr, _, _, hb⟩
  rw [sumB_ok (bn : Int) bn rfl b1 b2 kl dl HKL.out] at hr ⊢
  dsimp only at hr ⊢
  rw [hashB_length bn kl dl b2] at hr ⊢
  replace HM := Lib.hid (HM.out.below hb)
  clear hr hb
  go_wp2_with fail
  refine (HSC.out 16 (by omega) (by omega) Ak Ad kn ck dn cd kl dl k1 hkm d1 hdm (by omega) (by omega) _ (HLV.out.below HM.out.bel) (HM.out.arg HK.out) (HM.out.arg HD.out)).mono ?_
  rintro e w3 ⟨Ac, cc, rfl, hr, _, _, hb⟩
  rw [sumB_ok 16 16 rfl (by omega) (by omega) kl dl HKL.out] at hr ⊢
  dsimp only at hr ⊢
  rw [hashB_length 16 kl dl (by omega)] at hr ⊢
  have HC16 := Lib.hid (hashB_length 16 kl dl (by omega))
  have HCO := Lib.hid (codeB_ok kl dl HKL.out)
  obtain ⟨c16, hc16⟩ : ∃ l, hashB 16 kl dl = l := ⟨_, rfl⟩
  rw [hc16] at hr HC16 HCO
  clear hc16
  replace HM := Lib.hid (show Mem w [rdE w2.heap.size w3.heap.size Ac 16 c16] w3 from HM.out.call hb _ rfl rfl hr)
  clear hr hb
  go_wp2_with fail
  replace HM := Lib.hid (HM.out.alloc rfl 22 #[.slice Ad dn cd] [.slice Ad dn cd] rfl)
  generalize w3.alloc (.cells #[.slice Ad dn cd] 22) = w4 at HM ⊢
  generalize w3.heap.size = QT at HM ⊢
  refine (code_one HCC.out Ak kn ck kl k1 hkm (by omega) QT 22 Ad dn cd dl d1 hdm (by omega) _ (HLV.out.below HM.out.bel) (HM.out.blk 0 rfl) (HM.out.arg HK.out) (HM.out.arg HD.out)).mono ?_
  rintro e w5 ⟨rfl, hb⟩
  rw [HCO.out]
  obtain ⟨t16, ht16⟩ : ∃ c, (c16.map u8v).toArray = c := ⟨_, rfl⟩
  rw [ht16]
  have HT16 := Lib.hid ht16
  clear ht16
  replace HM := Lib.hid (show Mem w [rdE w2.heap.size QT Ac 16 c16] w5 from (HM.out.below hb).erase 0)
  clear hb HCO
  have HA := Lib.hid (HM.out.alloc rfl 36 #[.int .u8 0, .int .u8 0, .int .u8 0, .int .u8 0, .int .u8 0, .int .u8 0, .int .u8 0, .int .u8 0, .int .u8 0, .int .u8 0, .int .u8 0, .int .u8 0, .int .u8 0, .int .u8 0, .int .u8 0, .int .u8 0] (aeZ 16) rfl)
  go_upto_region 6 with (refine wpList_store_blk rfl 36 (.tmp 14) (.tmp 42) rfl w5.heap.size (c16.map u8v) rfl (by show Value.agg t16 = _; rw [HT16.out]) 36 (aeZ 16) (HA.out.blk 0 rfl) (tagCells c16 HC16.out) (by rw [List.length_map, HC16.out]; rfl) (u8v_one _) ?_; intro w6 hb6 hg6)
  replace HM := Lib.hid (show Mem w [blkE w5.heap.size 36 (c16.map u8v), rdE w2.heap.size QT Ac 16 c16] w6 from HA.out.put 0 rfl _ hg6 hb6)
  clear hb6 hg6 HA HT16
  generalize w5.heap.size = PT at HM ⊢
  go_wp2_with fail
  refine (HSC.out 32 (by omega) (by omega) none Ad 0 0 dn cd [] dl (Nat.le_refl _) (Nat.zero_le _) d1 hdm (by omega) (by omega) _ (HLV.out.below HM.out.bel) (Rd.nil _ _ _) (HM.out.arg HD.out)).mono ?_
  rintro e w7 ⟨Ah, chh, rfl, hr, _, _, hb⟩
  rw [sumB_ok 32 32 rfl (by omega) (by omega) [] dl (by simp)] at hr ⊢
  dsimp only at hr ⊢
  rw [hashB_length 32 [] dl (by omega)] at hr ⊢
  have HC32 := Lib.hid (hashB_length 32 [] dl (by omega))
  obtain ⟨c32, hc32⟩ : ∃ l, hashB 32 [] dl = l := ⟨_, rfl⟩
  rw [hc32] at hr HC32
  have HCE := Lib.hid hc32
  clear hc32
  replace HM := Lib.hid (show Mem w [rdE w6.heap.size w7.heap.size Ah 32 c32, blkE PT 36 (c16.map u8v), rdE w2.heap.size QT Ac 16 c16] w7 from HM.out.call hb _ rfl rfl hr)
  clear hr hb
  go_wp2_with fail
  replace HM := Lib.hid (HM.out.alloc rfl 22 #[.slice Ad dn cd] [.slice Ad dn cd] rfl)
  generalize w7.alloc (.cells #[.slice Ad dn cd] 22) = w8 at HM ⊢
  generalize w7.heap.size = QK at HM ⊢
  refine (hash_one HHC.out QK 22 Ad dn cd dl d1 hdm (by omega) _ (HLV.out.below HM.out.bel) (HM.out.blk 0 rfl) (HM.out.arg HD.out)).mono ?_
  rintro e w9 ⟨rfl, hb⟩
  rw [HCE.out]
  obtain ⟨t32, ht32⟩ : ∃ c, (c32.map u8v).toArray = c := ⟨_, rfl⟩
  rw [ht32]
  have HT32 := Lib.hid ht32
  clear ht32
  replace HM := Lib.hid (show Mem w [rdE w6.heap.size QK Ah 32 c32, blkE PT 36 (c16.map u8v), rdE w2.heap.size QT Ac 16 c16] w9 from (HM.out.below hb).erase 0)
  clear hb HCE
  have HA := Lib.hid (HM.out.alloc rfl 33 #[.int .u8 0, .int .u8 0, .int .u8 0, .int .u8 0, .int .u8 0, .int .u8 0, .int .u8 0, .int .u8 0, .int .u8 0, .int .u8 0, .int .u8 0, .int .u8 0, .int .u8 0, .int .u8 0, .int .u8 0, .int .u8 0, .int .u8 0, .int .u8 0, .int .u8 0, .int .u8 0, .int .u8 0, .int .u8 0, .int .u8 0, .int .u8 0, .int .u8 0, .int .u8 0, .int .u8 0, .int .u8 0, .int .u8 0, .int .u8 0, .int .u8 0, .int .u8 0] (aeZ 32) rfl)
  go_upto_region 8 with (refine wpList_store_blk rfl 33 (.tmp 17) (.tmp 50) rfl w9.heap.size (c32.map u8v) rfl (by show Value.agg t32 = _; rw [HT32.out]) 33 (aeZ 32) (HA.out.blk 0 rfl) (cells32 c32 HC32.out) (by rw [List.length_map, HC32.out]; rfl) (u8v_one _) ?_; intro w10 hb6 hg6)
  replace HM := Lib.hid (show Mem w [blkE w9.heap.size 33 (c32.map u8v), rdE w6.heap.size QK Ah 32 c32, blkE PT 36 (c16.map u8v), rdE w2.heap.size QT Ac 16 c16] w10 from HA.out.put 0 rfl _ hg6 hb6)
  clear hb6 hg6 HA HT32
  generalize w9.heap.size = PK at HM ⊢
  refine wp_region_held_drew (S := fun W' => Mem w [blkE PK 33 (c32.map u8v), rdE w6.heap.size QK Ah 32 c32, blkE PT 36 (c16.map u8v), rdE w2.heap.size QT Ac 16 c16] W') (by kernel_rfl) ((HM.out).drew) (fun hHeld => ?_)
  replace HM := Lib.hid HM.out.drew
  generalize w10.drew = wd1 at HM hHeld ⊢
  refine take_first (v := ?_) 0 rfl (by kernel_rfl) (by kernel_rfl) (by kernel_rfl) (fun _ _ _ h => h) (Or.inl ⟨by rfl, ?_⟩) (by assumption) ?_
  rotate_left
  · (intro w hSw; (try dsimp only at hSw); go_simp; try with_reducible rfl)
  (try simp only [Act.put, List.setIfInBounds_toArray, List.set_cons_zero, List.set_cons_succ])
  refine take_first (v := ?_) 1 rfl (by kernel_rfl) (by kernel_rfl) (by kernel_rfl) (fun _ _ _ h => h) (Or.inl ⟨by rfl, ?_⟩) (by assumption) ?_
  rotate_left
  · (intro w hSw; (try dsimp only at hSw); go_simp; try with_reducible rfl)
  (try simp only [Act.put, List.setIfInBounds_toArray, List.set_cons_zero, List.set_cons_succ])
  refine take_first (v := ?_) 2 rfl (by kernel_rfl) (by kernel_rfl) (by kernel_rfl) (fun _ _ _ h => h) (Or.inl ⟨by rfl, ?_⟩) (by assumption) ?_
  rotate_left
  · (intro w hSw; (try dsimp only at hSw); go_simp; try with_reducible rfl)
  (try simp only [Act.put, List.setIfInBounds_toArray, List.set_cons_zero, List.set_cons_succ])
  refine take_first (v := ?_) 3 rfl (by kernel_rfl) (by kernel_rfl) (by kernel_rfl) (fun _ _ _ h => h) (Or.inl ⟨by rfl, ?_⟩) (by assumption) ?_
  rotate_left
  · (intro w hSw; (try dsimp only at hSw); go_simp; try with_reducible rfl)
  (try simp only [Act.put, List.setIfInBounds_toArray, List.set_cons_zero, List.set_cons_succ])
  refine take_first (v := ?_) 4 rfl (by kernel_rfl) (by kernel_rfl) (by kernel_rfl) (fun _ _ _ h => h) (Or.inl ⟨by rfl, ?_⟩) (by assumption) ?_
  rotate_left
  · (intro w hSw; (try dsimp only at hSw); go_simp; try with_reducible rfl)
  (try simp only [Act.put, List.setIfInBounds_toArray, List.set_cons_zero, List.set_cons_succ])
  refine take_first (v := ?_) 5 rfl (by kernel_rfl) (by kernel_rfl) (by kernel_rfl) (fun _ _ _ h => h) (Or.inl ⟨by rfl, ?_⟩) (by assumption) ?_
  rotate_left
  · (intro w hSw; (try dsimp only at hSw); go_simp; try with_reducible rfl)
  (try simp only [Act.put, List.setIfInBounds_toArray, List.set_cons_zero, List.set_cons_succ])
  refine take_first (v := ?_) 6 rfl (by kernel_rfl) (by kernel_rfl) (by kernel_rfl) (fun _ _ _ h => h) (Or.inl ⟨by rfl, ?_⟩) (by assumption) ?_
  rotate_left
  · (intro w hSw; (try dsimp only at hSw); go_simp; try with_reducible rfl)
  (try simp only [Act.put, List.setIfInBounds_toArray, List.set_cons_zero, List.set_cons_succ])
  refine take_first (v := ?_) 7 rfl (by kernel_rfl) (by kernel_rfl) (by kernel_rfl) (fun _ _ _ h => h) (Or.inl ⟨by rfl, ?_⟩) (by assumption) ?_
  rotate_left
  · (intro w hSw; (try dsimp only at hSw); go_simp; try with_reducible rfl)
  (try simp only [Act.put, List.setIfInBounds_toArray, List.set_cons_zero, List.set_cons_succ])
  refine take_first (v := ?_) 8 rfl (by kernel_rfl) (by kernel_rfl) (by kernel_rfl) (fun _ _ _ h => h) (Or.inl ⟨by rfl, ?_⟩) (by assumption) ?_
  rotate_left
  · (intro w hSw; (try dsimp only at hSw); go_simp; try with_reducible rfl)
  (try simp only [Act.put, List.setIfInBounds_toArray, List.set_cons_zero, List.set_cons_succ])
  refine take_first (v := ?_) 9 rfl (by kernel_rfl) (by kernel_rfl) (by kernel_rfl) (fun _ _ _ h => h) (Or.inl ⟨by rfl, ?_⟩) (by assumption) ?_
  rotate_left
  · (intro w hSw; (try dsimp only at hSw); go_simp; try with_reducible rfl)
  (try simp only [Act.put, List.setIfInBounds_toArray, List.set_cons_zero, List.set_cons_succ])
  refine take_first (v := ?_) 10 rfl (by kernel_rfl) (by kernel_rfl) (by kernel_rfl) (fun _ _ _ h => h) (Or.inl ⟨by rfl, ?_⟩) (by assumption) ?_
  rotate_left
  · (intro w hSw; (try dsimp only at hSw); go_simp; try with_reducible rfl)
  (try simp only [Act.put, List.setIfInBounds_toArray, List.set_cons_zero, List.set_cons_succ])
  refine take_first (v := ?_) 11 rfl (by kernel_rfl) (by kernel_rfl) (by kernel_rfl) (fun _ _ _ h => h) (Or.inl ⟨by rfl, ?_⟩) (by assumption) ?_
  rotate_left
  · (intro w hSw; (try dsimp only at hSw); go_simp; try with_reducible rfl)
  (try simp only [Act.put, List.setIfInBounds_toArray, List.set_cons_zero, List.set_cons_succ])
  refine take_first (v := ?_) 12 rfl (by kernel_rfl) (by kernel_rfl) (by kernel_rfl) (fun _ _ _ h => h) (Or.inl ⟨by rfl, ?_⟩) (by assumption) ?_
  rotate_left
  · (intro w hSw; (try dsimp only at hSw); go_simp; try with_reducible rfl)
  (try simp only [Act.put, List.setIfInBounds_toArray, List.set_cons_zero, List.set_cons_succ])
  refine take_first (v := ?_) 13 rfl (by kernel_rfl) (by kernel_rfl) (by kernel_rfl) (fun _ _ _ h => h) (Or.inl ⟨by rfl, ?_⟩) (by assumption) ?_
  rotate_left
  · (intro w hSw; (try dsimp only at hSw); go_simp; try with_reducible rfl)
  (try simp only [Act.put, List.setIfInBounds_toArray, List.set_cons_zero, List.set_cons_succ])
  refine take_first (v := ?_) 14 rfl (by kernel_rfl) (by kernel_rfl) (by kernel_rfl) (fun _ _ _ h => h) (Or.inl ⟨by rfl, ?_⟩) (by assumption) ?_
  rotate_left
  · (intro w hSw; (try dsimp only at hSw); go_simp; try with_reducible rfl)
  (try simp only [Act.put, List.setIfInBounds_toArray, List.set_cons_zero, List.set_cons_succ])
  refine take_first (v := ?_) 15 rfl (by kernel_rfl) (by kernel_rfl) (by kernel_rfl) (fun _ _ _ h => h) (Or.inl ⟨by rfl, ?_⟩) (by assumption) ?_
  rotate_left
  · (intro w hSw; (try dsimp only at hSw); go_simp; try with_reducible rfl)
  (try simp only [Act.put, List.setIfInBounds_toArray, List.set_cons_zero, List.set_cons_succ])
  refine take_first (v := ?_) 16 rfl (by kernel_rfl) (by kernel_rfl) (by kernel_rfl) (fun _ _ _ h => h) (Or.inl ⟨by rfl, ?_⟩) (by assumption) ?_
  rotate_left
  · (intro w hSw; (try dsimp only at hSw); go_simp; try with_reducible rfl)
  (try simp only [Act.put, List.setIfInBounds_toArray, List.set_cons_zero, List.set_cons_succ])
  refine take_first (v := ?_) 17 rfl (by kernel_rfl) (by kernel_rfl) (by kernel_rfl) (fun _ _ _ h => h) (Or.inl ⟨by rfl, ?_⟩) (by assumption) ?_
  rotate_left
  · (intro w hSw; (try dsimp only at hSw); go_simp; try with_reducible rfl)
  (try simp only [Act.put, List.setIfInBounds_toArray, List.set_cons_zero, List.set_cons_succ])
  refine take_first (v := ?_) 18 rfl (by kernel_rfl) (by kernel_rfl) (by kernel_rfl) (fun _ _ _ h => h) (Or.inl ⟨by rfl, ?_⟩) (by assumption) ?_
  rotate_left
  · (intro w hSw; (try dsimp only at hSw); have cv : (convert 22 9 (.slice Ac 16 cc)).run Tryd.prog w = .ok (.string ⟨c16.toArray⟩) w := bl_conv (Mem.rd hSw 3 rfl) cc; go_simp; try with_reducible rfl)
  (try simp only [Act.put, List.setIfInBounds_toArray, List.set_cons_zero, List.set_cons_succ])
  refine take_first (v := ?_) 19 rfl (by kernel_rfl) (by kernel_rfl) (by kernel_rfl) (fun _ _ _ h => h) (Or.inl ⟨by rfl, ?_⟩) (by assumption) ?_
  rotate_left
  · (intro w hSw; (try dsimp only at hSw); go_simp; try with_reducible rfl)
  (try simp only [Act.put, List.setIfInBounds_toArray, List.set_cons_zero, List.set_cons_succ])
  refine take_first (v := ?_) 20 rfl (by kernel_rfl) (by kernel_rfl) (by kernel_rfl) (fun _ _ _ h => h) (Or.inl ⟨by rfl, ?_⟩) (by assumption) ?_
  rotate_left
  · (intro w hSw; (try dsimp only at hSw); have cv : (convert 22 9 (.slice (some ⟨PT, 0, none⟩) 16 16)).run Tryd.prog w = .ok (.string ⟨c16.toArray⟩) w := bl_conv (blk_all (Mem.blk hSw 2 rfl) HC16.out) 16; go_simp; try with_reducible rfl)
  (try simp only [Act.put, List.setIfInBounds_toArray, List.set_cons_zero, List.set_cons_succ])
  refine take_first (v := ?_) 21 rfl (by kernel_rfl) (by kernel_rfl) (by kernel_rfl) (fun _ _ _ h => h) (Or.inl ⟨by rfl, ?_⟩) (by assumption) ?_
  rotate_left
  · (intro w hSw; (try dsimp only at hSw); go_simp; try with_reducible rfl)
  (try simp only [Act.put, List.setIfInBounds_toArray, List.set_cons_zero, List.set_cons_succ])
  refine take_first (v := ?_) 22 rfl (by kernel_rfl) (by kernel_rfl) (by kernel_rfl) (fun _ _ _ h => h) (Or.inl ⟨by rfl, ?_⟩) (by assumption) ?_
  rotate_left
  · (intro w hSw; (try dsimp only at hSw); go_simp; try with_reducible rfl)
  (try simp only [Act.put, List.setIfInBounds_toArray, List.set_cons_zero, List.set_cons_succ])
  refine take_first (v := ?_) 23 rfl (by kernel_rfl) (by kernel_rfl) (by kernel_rfl) (fun _ _ _ h => h) (Or.inl ⟨by rfl, ?_⟩) (by assumption) ?_
  rotate_left
  · (intro w hSw; (try dsimp only at hSw); go_simp; try with_reducible rfl)
  (try simp only [Act.put, List.setIfInBounds_toArray, List.set_cons_zero, List.set_cons_succ])
  refine take_first (v := ?_) 24 rfl (by kernel_rfl) (by kernel_rfl) (by kernel_rfl) (fun _ _ _ h => h) (Or.inl ⟨by rfl, ?_⟩) (by assumption) ?_
  rotate_left
  · (intro w hSw; (try dsimp only at hSw); go_simp; try with_reducible rfl)
  (try simp only [Act.put, List.setIfInBounds_toArray, List.set_cons_zero, List.set_cons_succ])
  refine take_first (v := ?_) 25 rfl (by kernel_rfl) (by kernel_rfl) (by kernel_rfl) (fun _ _ _ h => h) (Or.inl ⟨by rfl, ?_⟩) (by assumption) ?_
  rotate_left
  · (intro w hSw; (try dsimp only at hSw); have cv : (convert 22 9 (.slice Ah 32 chh)).run Tryd.prog w = .ok (.string ⟨c32.toArray⟩) w := bl_conv (Mem.rd hSw 1 rfl) chh; go_simp; try with_reducible rfl)
  (try simp only [Act.put, List.setIfInBounds_toArray, List.set_cons_zero, List.set_cons_succ])
  refine take_first (v := ?_) 26 rfl (by kernel_rfl) (by kernel_rfl) (by kernel_rfl) (fun _ _ _ h => h) (Or.inl ⟨by rfl, ?_⟩) (by assumption) ?_
  rotate_left
  · (intro w hSw; (try dsimp only at hSw); go_simp; try with_reducible rfl)
  (try simp only [Act.put, List.setIfInBounds_toArray, List.set_cons_zero, List.set_cons_succ])
  refine take_first (v := ?_) 27 rfl (by kernel_rfl) (by kernel_rfl) (by kernel_rfl) (fun _ _ _ h => h) (Or.inl ⟨by rfl, ?_⟩) (by assumption) ?_
  rotate_left
  · (intro w hSw; (try dsimp only at hSw); have cv : (convert 22 9 (.slice (some ⟨PK, 0, none⟩) 32 32)).run Tryd.prog w = .ok (.string ⟨c32.toArray⟩) w := bl_conv (blk_all (Mem.blk hSw 0 rfl) HC32.out) 32; go_simp; try with_reducible rfl)
  (try simp only [Act.put, List.setIfInBounds_toArray, List.set_cons_zero, List.set_cons_succ])
  refine take_first (v := ?_) 28 rfl (by kernel_rfl) (by kernel_rfl) (by kernel_rfl) (fun _ _ _ h => h) (Or.inl ⟨by rfl, ?_⟩) (by assumption) ?_
  rotate_left
  · (intro w hSw; (try dsimp only at hSw); go_simp; try with_reducible rfl)
  (try simp only [Act.put, List.setIfInBounds_toArray, List.set_cons_zero, List.set_cons_succ])
  refine take_first (v := ?_) 29 rfl (by kernel_rfl) (by kernel_rfl) (by kernel_rfl) (fun _ _ _ h => h) (Or.inl ⟨by rfl, ?_⟩) (by assumption) ?_
  rotate_left
  · (intro w hSw; (try dsimp only at hSw); go_simp; try with_reducible rfl)
  (try simp only [Act.put, List.setIfInBounds_toArray, List.set_cons_zero, List.set_cons_succ])
  refine take_first (v := ?_) 30 rfl (by kernel_rfl) (by kernel_rfl) (by kernel_rfl) (fun _ _ _ h => h) (Or.inl ⟨by rfl, ?_⟩) (by assumption) ?_
  rotate_left
  · (intro w hSw; (try dsimp only at hSw); go_simp; try with_reducible rfl)
  (try simp only [Act.put, List.setIfInBounds_toArray, List.set_cons_zero, List.set_cons_succ])
  refine step_one 31 rfl (by kernel_rfl) (fun K hK => ?_)
  clear hHeld
  go_simp
  refine (HBG.out _ (HLV.out.below HM.out.bel)).mono ?_
  rintro e wy2 ⟨rfl, hb⟩
  replace HM := Lib.hid (show Mem w [blkE PK 33 (c32.map u8v), rdE w6.heap.size QK Ah 32 c32, blkE PT 36 (c16.map u8v), rdE w2.heap.size QT Ac 16 c16] wy2 from HM.out.below hb)
  clear hb
  go_wp2_with fail
  refine hK.out _ _ (HM.out) (fun hHeld => ?_)
  clear hK K
  (try simp only [Act.put, List.setIfInBounds_toArray, List.set_cons_zero, List.set_cons_succ])
  refine take_first (v := ?_) 32 rfl (by kernel_rfl) (by kernel_rfl) (by kernel_rfl) (fun _ _ _ h => h) (Or.inl ⟨by rfl, ?_⟩) (by assumption) ?_
  rotate_left
  · (intro w hSw; (try dsimp only at hSw); go_simp; try with_reducible rfl)
  (try simp only [Act.put, List.setIfInBounds_toArray, List.set_cons_zero, List.set_cons_succ])
  refine take_first (v := ?_) 33 rfl (by kernel_rfl) (by kernel_rfl) (by kernel_rfl) (fun _ _ _ h => h) (Or.inl ⟨by rfl, ?_⟩) (by assumption) ?_
  rotate_left
  · (intro w hSw; (try dsimp only at hSw); go_simp; try with_reducible rfl)
  (try simp only [Act.put, List.setIfInBounds_toArray, List.set_cons_zero, List.set_cons_succ])
  refine wpAnyH_done (by kernel_rfl) ?_ _
  have HF := Lib.hid HM.out.bel
  clear HM hHeld
  go_wp2_with fail
  go_ret
  exact ⟨rfl, HF.out⟩
end Go.Proofs.YtellicmnopfkgaaDoor
