/-
  BlakeCodes returns true for every input, and changes nothing that was there: the walk, over what is asked of blake.Hash and Code.
-/
import Derived.Test.YtellicmnopfkgaaDoorBlUseR
import Derived.Test.YtellicmnopfkgaaDoorBlBegun
import Derived.Test.YtellicmnopfkgaaDoorBlSame
import Derived.Test.YtellicmnopfkgaaDoorCut
import Derived.Test.YtellicmnopfkgaaDoorBlBegun6
import Derived.Test.YtellicmnopfkgaaDoorBlUseC
import Derived.Test.YtellicmnopfkgaaDoorBlUseRC
import Derived.Test.YtellicmnopfkgaaDoorBlSameT
import Derived.Test.YtellicmnopfkgaaDoorBlCc
namespace Go.Proofs.YtellicmnopfkgaaDoor
open Go.RowKit

set_option maxRecDepth 100000 in
set_option maxHeartbeats 8000000 in
theorem bl_codes_walk (HH : BlHashC) (HC : BlCodeC) (w : World) (hlv : LvBlake w) (Ak : Option Addr) (nk ck : Nat) (lk : List UInt8) (Aa : Option Addr) (na ca : Nat) (la : List UInt8) (Ab : Option Addr) (nb cb : Nat) (lb : List UInt8) (hkc : nk ≤ ck) (hkm : ck ≤ maxLen) (hrk : Rd w w.heap.size Ak nk lk) (hac : na ≤ ca) (ham : ca ≤ maxLen) (hra : Rd w w.heap.size Aa na la) (hbc : nb ≤ cb) (hbm : cb ≤ maxLen) (hrb : Rd w w.heap.size Ab nb lb) :
    Calls Tryd.prog 4 #[.slice Ak nk ck, .slice Aa na ca, .slice Ab nb cb] w fun e w' => e = .returned (.bool true) ∧ Below w.heap.size w w' := by
  have HM := Lib.hid (Mem.nil w)
  have HK := Lib.hid hrk
  have HA := Lib.hid hra
  have HB := Lib.hid hrb
  have HHC := Lib.hid HH
  have HLV := Lib.hid hlv
  clear hlv
  have HCC := Lib.hid HC
  have HBG := Lib.hid (bl_begun_any HH)
  clear hrk hra hrb HH HC
  go_enter Tryd.func4, Tryd.ntmps4
  go_wp2_with fail
  refine (cut_any _ Ak nk ck 40 lk hkc hkm _ (HK.out.below HM.out.bel)).mono ?_
  rintro e wc ⟨rfl, hcut, rfl⟩
  clear hcut
  go_wp2_with fail
  refine (cut_any _ Aa na ca 100 la hac ham _ (HA.out.below HM.out.bel)).mono ?_
  rintro e wc ⟨rfl, hcut, rfl⟩
  clear hcut
  go_wp2_with fail
  refine (cut_any _ Ab nb cb 100 lb hbc hbm _ (HB.out.below HM.out.bel)).mono ?_
  rintro e wc ⟨rfl, hcut, rfl⟩
  clear hcut
  obtain ⟨kn, hkn⟩ : ∃ n, min nk 40 = n := ⟨_, rfl⟩
  obtain ⟨an, han⟩ : ∃ n, min na 100 = n := ⟨_, rfl⟩
  obtain ⟨bn, hbn⟩ : ∃ n, min nb 100 = n := ⟨_, rfl⟩
  have k1 : kn ≤ ck := by omega
  have k2 : kn ≤ 40 := by omega
  have a1 : an ≤ ca := by omega
  have a2 : an ≤ 100 := by omega
  have b1 : bn ≤ cb := by omega
  have b2 : bn ≤ 100 := by omega
  replace HK := Lib.hid (HK.out.take (m := kn) (by omega))
  replace HA := Lib.hid (HA.out.take (m := an) (by omega))
  replace HB := Lib.hid (HB.out.take (m := bn) (by omega))
  rw [hkn, han, hbn]
  clear hkn han hbn
  generalize lk.take kn = kl at HK
  generalize la.take an = la at HA
  generalize lb.take bn = lb at HB
  obtain ⟨h32, hh32⟩ : ∃ c, ((hashB 32 [] (la ++ lb)).map u8v).toArray = c := ⟨_, rfl⟩
  obtain ⟨h16, hh16⟩ : ∃ c, ((codeB kl (la ++ lb)).map u8v).toArray = c := ⟨_, rfl⟩
  obtain ⟨g32, hg32⟩ : ∃ c, ((hashB 32 [] []).map u8v).toArray = c := ⟨_, rfl⟩
  obtain ⟨g16, hg16⟩ : ∃ c, ((codeB kl []).map u8v).toArray = c := ⟨_, rfl⟩
  have e1 := fun w' : World => run_key_same (hashB 32 [] (la ++ lb)) (hashB_length _ _ _ (by omega)) w'
  have e2 := fun w' : World => run_tag_eq (codeB kl (la ++ lb)) (codeB_length _ _) w'
  have e3 := fun w' : World => run_key_same (hashB 32 [] []) (hashB_length _ _ _ (by omega)) w'
  have e4 := fun w' : World => run_tag_eq (codeB kl []) (codeB_length _ _) w'
  rw [hh32] at e1
  rw [hh16] at e2
  rw [hg32] at e3
  rw [hg16] at e4
  have HH32 := Lib.hid hh32
  have HH16 := Lib.hid hh16
  have HG32 := Lib.hid hg32
  have HG16 := Lib.hid hg16
  clear hh32 hh16 hg32 hg16
  go_wp2_with fail
  replace HM := Lib.hid (show Mem w [blkE w.heap.size 22 [Value.slice Aa an ca, .slice Ab bn cb]] (w.alloc (.cells #[Value.slice Aa an ca, .slice Ab bn cb] 22)) from HM.out.alloc rfl 22 #[Value.slice Aa an ca, .slice Ab bn cb] [Value.slice Aa an ca, .slice Ab bn cb] rfl)
  generalize w.alloc (.cells #[Value.slice Aa an ca, .slice Ab bn cb] 22) = w1 at HM ⊢
  generalize w.heap.size = Q1 at HM ⊢
  refine (hash_two HHC.out Q1 22 Aa an ca la Ab bn cb lb a1 ham (by omega) b1 hbm (by omega) _ (HLV.out.below HM.out.bel) (HM.out.blk 0 rfl) (HM.out.arg HA.out) (HM.out.arg HB.out)).mono ?_
  rintro e w2 ⟨rfl, hb⟩
  rw [HH32.out]
  replace HM := Lib.hid (show Mem w [] w2 from (HM.out.below hb).erase 0)
  clear hb
  go_wp2_with fail
  replace HM := Lib.hid (show Mem w [blkE w2.heap.size 22 [Value.slice Aa an ca, .slice Ab bn cb]] (w2.alloc (.cells #[Value.slice Aa an ca, .slice Ab bn cb] 22)) from HM.out.alloc rfl 22 #[Value.slice Aa an ca, .slice Ab bn cb] [Value.slice Aa an ca, .slice Ab bn cb] rfl)
  generalize w2.alloc (.cells #[Value.slice Aa an ca, .slice Ab bn cb] 22) = w3 at HM ⊢
  generalize w2.heap.size = Q2 at HM ⊢
  refine (ref_hash_two Q2 22 Aa an ca la Ab bn cb lb a1 ham (by omega) b1 hbm (by omega) _ (HM.out.blk 0 rfl) (HM.out.arg HA.out) (HM.out.arg HB.out)).mono ?_
  rintro e w4 ⟨rfl, hb⟩
  rw [HH32.out]
  replace HM := Lib.hid (show Mem w [] w4 from (HM.out.below hb).erase 0)
  clear hb
  go_wp2_with fail
  replace HM := Lib.hid (show Mem w [blkE w4.heap.size 22 [Value.slice Aa an ca, .slice Ab bn cb]] (w4.alloc (.cells #[Value.slice Aa an ca, .slice Ab bn cb] 22)) from HM.out.alloc rfl 22 #[Value.slice Aa an ca, .slice Ab bn cb] [Value.slice Aa an ca, .slice Ab bn cb] rfl)
  generalize w4.alloc (.cells #[Value.slice Aa an ca, .slice Ab bn cb] 22) = w5 at HM ⊢
  generalize w4.heap.size = Q3 at HM ⊢
  refine (code_two HCC.out Ak kn ck kl k1 hkm (by omega) Q3 22 Aa an ca la Ab bn cb lb a1 ham (by omega) b1 hbm (by omega) _ (HLV.out.below HM.out.bel) (HM.out.blk 0 rfl) (HM.out.arg HK.out) (HM.out.arg HA.out) (HM.out.arg HB.out)).mono ?_
  rintro e w6 ⟨rfl, hb⟩
  rw [HH16.out]
  replace HM := Lib.hid (show Mem w [] w6 from (HM.out.below hb).erase 0)
  clear hb
  go_wp2_with fail
  replace HM := Lib.hid (show Mem w [blkE w6.heap.size 22 [Value.slice Aa an ca, .slice Ab bn cb]] (w6.alloc (.cells #[Value.slice Aa an ca, .slice Ab bn cb] 22)) from HM.out.alloc rfl 22 #[Value.slice Aa an ca, .slice Ab bn cb] [Value.slice Aa an ca, .slice Ab bn cb] rfl)
  generalize w6.alloc (.cells #[Value.slice Aa an ca, .slice Ab bn cb] 22) = w7 at HM ⊢
  generalize w6.heap.size = Q4 at HM ⊢
  refine (ref_code_two Ak kn ck kl Q4 22 Aa an ca la Ab bn cb lb a1 ham (by omega) b1 hbm (by omega) _ (HM.out.blk 0 rfl) (HM.out.arg HK.out) (HM.out.arg HA.out) (HM.out.arg HB.out)).mono ?_
  rintro e w8 ⟨rfl, hb⟩
  rw [HH16.out]
  replace HM := Lib.hid (show Mem w [] w8 from (HM.out.below hb).erase 0)
  clear hb
  go_wp2_with fail
  refine (hash_none HHC.out _ (HLV.out.below HM.out.bel)).mono ?_
  rintro e w9 ⟨rfl, hb⟩
  rw [HG32.out]
  replace HM := Lib.hid (show Mem w [] w9 from HM.out.below hb)
  clear hb
  go_wp2_with fail
  refine (ref_hash_none _).mono ?_
  rintro e w10 ⟨rfl, hb⟩
  rw [HG32.out]
  replace HM := Lib.hid (show Mem w [] w10 from HM.out.below hb)
  clear hb
  go_wp2_with fail
  refine (code_none HCC.out Ak kn ck kl k1 hkm (by omega) _ (HLV.out.below HM.out.bel) (HM.out.arg HK.out)).mono ?_
  rintro e w11 ⟨rfl, hb⟩
  rw [HG16.out]
  replace HM := Lib.hid (show Mem w [] w11 from HM.out.below hb)
  clear hb
  go_wp2_with fail
  refine (ref_code_none Ak kn ck kl _ (HM.out.arg HK.out)).mono ?_
  rintro e w12 ⟨rfl, hb⟩
  rw [HG16.out]
  replace HM := Lib.hid (show Mem w [] w12 from HM.out.below hb)
  clear hb
  go_wp2_with fail
  clear e1 e2 e3 e4
  refine (HBG.out _ (HLV.out.below HM.out.bel)).mono ?_
  rintro e w13 ⟨rfl, hb⟩
  have HF := Lib.hid (HM.out.below hb).bel
  clear hb HM
  go_wp2_with fail
  go_ret
  exact ⟨rfl, HF.out⟩
end Go.Proofs.YtellicmnopfkgaaDoor
