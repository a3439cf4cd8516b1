/-
  The contract of the program's seal. The contracts of message's small functions, and of Kind. The program's Join of a list of slices, its headers, and numbers as slices somewhere. The contract of the program's EncodeInitiation. What is asked of the function that SealInitiation hands on holds of the landed one. What is asked of SealInitiation holds of the landed function. The contract of the program's hasCodes. The contract of codec.Equal: the same length and the same bytes (as XEqual, without Join). What is asked of CheckMac1 holds of the landed function. No statement is proved here.
-/
import Derived.Deep.QuietTactic
import Derived.BigQuiet
import Derived.RegionTactic
import Derived.BigRegion
import Derived.Deep.RegionWith
import Derived.Deep.DeepCutAuto
import Derived.Outline
import Derived.Shelf.Abstract
import Derived.Laws.BitsAllLaws
import Derived.Maps.AppendAt
import Derived.Test.YtlddafkikkaonaaGreatDoorMacsRepliesB16
namespace Go.Proofs.YtlddafkikkaonaaGreatDoor
open Go.RowKit
set_option maxRecDepth 100000 in
set_option maxHeartbeats 8000000 in
theorem seal_any {F k T : Nat} (hk : k = 1 ∨ k = 2) (hF : McEncF F k T) (hE : ∀ (args : Array Value) (W : World), (callFunc F args).run Tryz.prog W = .ok (.enter F args) W) (p ck : List UInt8) (hp : p.length = 32) (hck : ck.length = 16) (has : Bool) (m : MsgM) (hok : m.ok k) (w0 w : World) (E : List Ent) (i G : Nat) (hei : E[i]? = some (blkE G T m.cells)) (hlv : LvBlake w0) (hm : Mem w0 E w) :
 Calls Tryz.prog 39 #[.agg (p.map u8v).toArray, .bool has, .agg (ck.map u8v).toArray, .func (.func F) #[] #[.pointer (some ⟨G, 0, none⟩)]] w fun e w' => ∃ A c, e = .returned (.tuple #[.slice A (msLen k) c, .agg ((macM p k m).map u8v).toArray]) ∧ msLen k ≤ c ∧ c ≤ maxLen ∧ ∃ m' : MsgM, Mem w0 (rdE w.heap.size w'.heap.size A (msLen k) (encB k (sealM p has ck k m)) :: E.set i (blkE G T m'.cells)) w' := by
 have HEI := Lib.hid hei
 have HF := Lib.hid hF
 have HK := Lib.hid hk
 have HP := Lib.hid hp
 have HCK := Lib.hid hck
 have HOK := Lib.hid hok
 have HLV := Lib.hid hlv
 obtain ⟨zl, hz⟩ : ∃ z, List.replicate 16 (0 : UInt8) = z := ⟨_, rfl⟩
 have hzl : zl.length = 16 := by rw [← hz]; exact List.length_replicate
 have HZ := Lib.hid hzl
 have HO0 := Lib.hid (withC_ok hk hok hzl hzl)
 obtain ⟨n, hn⟩ : ∃ z, msLen k = z := ⟨_, rfl⟩
 have HN := Lib.hid (show msLen k = n ∧ 32 ≤ n ∧ n ≤ 1000 from ⟨hn, by rcases hk with rfl | rfl <;> (subst hn; decide), by rcases hk with rfl | rfl <;> (subst hn; decide)⟩)
 obtain ⟨pre, hpre⟩ : ∃ z, (encB k m).take (n - 32) = z := ⟨_, rfl⟩
 obtain ⟨mt, hmt⟩ : ∃ z, macM p k m = z := ⟨_, rfl⟩
 have HML := Lib.hid (show mt.length = 16 from by rw [← hmt]; exact macM_length _ _ _)
 have HMAC := Lib.hid (show mac1B p pre = mt from by rw [← hpre, ← hmt, macM, hn])
 obtain ⟨q1, hq1⟩ : ∃ z, n - 32 = z := ⟨_, rfl⟩
 obtain ⟨q2, hq2⟩ : ∃ z, n - 16 = z := ⟨_, rfl⟩
 have HQ := Lib.hid (show q1 + 32 = n ∧ q2 + 16 = n ∧ (n : Int) - 32 = (q1 : Int) ∧ (n : Int) - 16 = (q2 : Int) from ⟨by have := HN.out; omega, by have := HN.out; omega, by have := HN.out; omega, by have := HN.out; omega⟩)
 have HT0 := Lib.hid (show (encB k (withC k m zl zl)).take q1 = pre from by rw [← hq1, ← hpre, ← hn]; exact withC_pre hk hok)
 have HO1 := Lib.hid (withC_ok hk hok HML.out hzl)
 have HW1 := Lib.hid (show withC k (withC k m zl zl) mt zl = withC k m mt zl from withC_twice hok hk)
 have HT1 := Lib.hid (show (encB k (withC k m mt zl)).take q2 = pre ++ mt from by rw [← hq2, ← hpre, ← hn]; exact withC_pre2 hk hok HML.out)
 have HSE := Lib.hid (show sealM p has ck k m = withC k m mt (if has then codeB ck (pre ++ mt) else zl) from by rw [← hmt, ← hpre, ← hn, ← hz]; rfl)
 have HMT := Lib.hid hmt
 obtain ⟨cp, hcp⟩ : ∃ z, (p.map u8v).toArray = z := ⟨_, rfl⟩
 obtain ⟨cc, hcc⟩ : ∃ z, (ck.map u8v).toArray = z := ⟨_, rfl⟩
 rw [hcp, hcc]
 have HM := Lib.hid (show Mem w0 (blkE (w.heap.size + 1 + 1 + 1 + 1) 27 (zl.map u8v) :: blkE (w.heap.size + 1 + 1 + 1) 27 (zl.map u8v) :: blkE (w.heap.size + 1 + 1) 27 ((List.replicate 16 (0 : UInt8)).map u8v) :: blkE (w.heap.size + 1) 27 (ck.map u8v) :: blkE w.heap.size 23 (p.map u8v) :: E) (((((w.alloc (.cells cp 23)).alloc (.cells cc 27)).alloc (.cells zb16 27)).alloc (.cells zb16 27)).alloc (.cells zb16 27)) from ((((hm.alloc rfl 23 cp (p.map u8v) hcp.symm).alloc (by simp) 27 cc (ck.map u8v) hcc.symm).alloc (by simp) 27 zb16 ((List.replicate 16 (0 : UInt8)).map u8v) rfl).alloc (by simp) 27 zb16 (zl.map u8v) (by rw [← hz]; rfl)).alloc (by simp) 27 zb16 (zl.map u8v) (by rw [← hz]; rfl))
 have HCP := Lib.hid hcp
 have HCC := Lib.hid hcc
 clear hei hcp hcc hz hq1 hq2 hmt hpre hn hzl hlv hok hck hp hk hF hm
 go_enter Tryz.func39, Tryz.ntmps39
 go_upto_region 2 with fail
 generalize (((((w.alloc (.cells cp 23)).alloc (.cells cc 27)).alloc (.cells zb16 27)).alloc (.cells zb16 27)).alloc (.cells zb16 27)) = w1 at HM ⊢
 go_wp2_with (first | (refine wpList_load_blk rfl 27 (.tmp 10) rfl (w.heap.size + 1 + 1 + 1) rfl 27 (zl.map u8v) (HM.out.blk 1 rfl) 16 5 Tryz.underlying27 (ae_cellsT zl HZ.out) ?_) | (refine wpList_load_blk rfl 27 (.tmp 11) rfl (w.heap.size + 1 + 1 + 1 + 1) rfl 27 (zl.map u8v) (HM.out.blk 0 rfl) 16 5 Tryz.underlying27 (ae_cellsT zl HZ.out) ?_))
 have hce := HF.out m HOK.out zl zl HZ.out HZ.out w0 _ (blkE (w.heap.size + 1 + 1 + 1 + 1) 27 (zl.map u8v) :: blkE (w.heap.size + 1 + 1 + 1) 27 (zl.map u8v) :: blkE (w.heap.size + 1 + 1) 27 ((List.replicate 16 (0 : UInt8)).map u8v) :: blkE (w.heap.size + 1) 27 (ck.map u8v) :: blkE w.heap.size 23 (p.map u8v) :: E) (i + 5) G HEI.out HM.out
 rw [HN.out.1] at hce
 refine hce.mono ?_
 rintro e we1 ⟨A1, c1, rfl, hc1, hx1, hm1⟩
 replace HM := Lib.hid (show Mem w0 (rdE w1.heap.size we1.heap.size A1 n (encB k (withC k m zl zl)) :: blkE (w.heap.size + 1 + 1 + 1 + 1) 27 (zl.map u8v) :: blkE (w.heap.size + 1 + 1 + 1) 27 (zl.map u8v) :: blkE (w.heap.size + 1 + 1) 27 ((List.replicate 16 (0 : UInt8)).map u8v) :: blkE (w.heap.size + 1) 27 (ck.map u8v) :: blkE w.heap.size 23 (p.map u8v) :: E.set i (blkE G T (withC k m zl zl).cells)) we1 from hm1)
 clear hce hm1
 obtain ⟨gb1, go1, hA, -, -⟩ := (HM.out.get 0 rfl).2 (by have := HN.out; omega)
 subst hA
 have HC1 := Lib.hid (And.intro hc1 hx1)
 clear hc1 hx1
 go_wp2_with fail
 have hcpl := codePlaces_any (some ⟨gb1, go1, none⟩) n c1 (by have := HN.out; omega)
 rw [HQ.out.2.2.1, HQ.out.2.2.2] at hcpl
 refine (hcpl _).mono ?_
 rintro e w2 ⟨rfl, hb⟩
 replace HM := Lib.hid (show Mem w0 (rdE w1.heap.size we1.heap.size (some ⟨gb1, go1, none⟩) n (encB k (withC k m zl zl)) :: blkE (w.heap.size + 1 + 1 + 1 + 1) 27 (zl.map u8v) :: blkE (w.heap.size + 1 + 1 + 1) 27 (zl.map u8v) :: blkE (w.heap.size + 1 + 1) 27 ((List.replicate 16 (0 : UInt8)).map u8v) :: blkE (w.heap.size + 1) 27 (ck.map u8v) :: blkE w.heap.size 23 (p.map u8v) :: E.set i (blkE G T (withC k m zl zl).cells)) w2 from HM.out.below hb)
 clear hb hcpl
 go_upto_region 4 with fail
 obtain ⟨cmt, hct⟩ : ∃ z, (mt.map u8v).toArray = z := ⟨_, rfl⟩
 have HCT := Lib.hid hct
 have HMC := Lib.hid (fun c W hc hx hl (h : Rd W W.heap.size (some ⟨gb1, go1, none⟩) q1 pre) => mcMac1C p HP.out (some ⟨gb1, go1, none⟩) q1 c pre hc hx (by have := HQ.out; have := HN.out; omega) W hl h)
 rw [HMAC.out, hct, HCP.out] at HMC
 have HS1 := Lib.hid (slice_h (some ⟨gb1, go1, none⟩) ⟨gb1, go1, rfl⟩ n c1 q1 (by have := HQ.out; have := HN.out; have := HC1.out; omega))
 clear hct
 refine wp_region_held_drew (S := fun W' => Mem w0 (rdE w1.heap.size we1.heap.size (some ⟨gb1, go1, none⟩) n (encB k (withC k m zl zl)) :: blkE (w.heap.size + 1 + 1 + 1 + 1) 27 (zl.map u8v) :: blkE (w.heap.size + 1 + 1) 27 ((List.replicate 16 (0 : UInt8)).map u8v) :: blkE (w.heap.size + 1) 27 (ck.map u8v) :: blkE w.heap.size 23 (p.map u8v) :: E.set i (blkE G T (withC k m zl zl).cells)) W') (by kernel_rfl) (((HM.out.erase 2)).drew) (fun hHeld => ?_)
 replace HM := Lib.hid HM.out.drew
 generalize w2.drew = wd1 at HM hHeld ⊢
 refine tf (v := .agg cp) 0 rfl (by rw [← HCP.out]; exact yields_load_blk (by rfl) 23 (.tmp 4) rfl w.heap.size rfl 23 (p.map u8v) (fun w' hb => Mem.blk hb 4 rfl) 32 5 Tryz.underlying23 (cells32 p HP.out)) ?_
 (try simp only [Act.put, sA, s0, s1])
 refine tf (v := ?_) 1 rfl (Or.inl ⟨by rfl, ?_⟩) ?_
 rotate_left
 · (intro w hSw; (try dsimp only at hSw); go_simp; try with_reducible rfl)
 (try simp only [Act.put, sA, s0, s1])
 refine tf (v := ?_) 2 rfl (Or.inl ⟨by rfl, ?_⟩) ?_
 rotate_left
 · (intro w hSw; (try dsimp only at hSw); go_simp; try with_reducible rfl)
 (try simp only [Act.put, sA, s0, s1])
 refine tf (v := ?_) 3 rfl (Or.inl ⟨by rfl, ?_⟩) ?_
 rotate_left
 · (intro w hSw; (try dsimp only at hSw); have hs := HS1.out w; go_simp; try with_reducible rfl)
 (try simp only [Act.put, sA, s0, s1])
 refine so 4 rfl fun K hK => ?_
 clear hHeld
 go_simp
 refine (HMC.out c1 _ (by have := HQ.out; have := HN.out; have := HC1.out; omega) HC1.out.2 (HLV.out.below HM.out.bel) (by rw [← HT0.out]; exact (HM.out.rd 0 rfl).take (m := q1) (by have := HQ.out; omega))).mono ?_
 rintro e wy2 ⟨rfl, hb⟩
 replace HM := Lib.hid (show Mem w0 (rdE w1.heap.size we1.heap.size (some ⟨gb1, go1, none⟩) n (encB k (withC k m zl zl)) :: blkE (w.heap.size + 1 + 1 + 1 + 1) 27 (zl.map u8v) :: blkE (w.heap.size + 1 + 1 + 1) 27 (zl.map u8v) :: blkE (w.heap.size + 1 + 1) 27 ((List.replicate 16 (0 : UInt8)).map u8v) :: blkE (w.heap.size + 1) 27 (ck.map u8v) :: blkE w.heap.size 23 (p.map u8v) :: E.set i (blkE G T (withC k m zl zl).cells)) wy2 from HM.out.below hb)
 clear hb
 go_wp2_with fail
 refine hK.out _ _ ((HM.out.erase 2)) (fun hHeld => ?_)
 clear hK K
 (try simp only [Act.put, sA, s0, s1])
 refine so 5 rfl fun K hK => ?_
 clear hHeld
 refine step_store_blk _ rfl 27 (.tmp 10) (.tmp 28) rfl (w.heap.size + 1 + 1 + 1) (mt.map u8v) rfl (by show Value.agg cmt = _; rw [HCT.out]) 27 (zl.map u8v) (HM.out.blk 2 rfl) (ae_cellsT mt HML.out) (by rw [List.length_map, List.length_map, HML.out, HZ.out]) (by intro v hv; obtain ⟨_, _, rfl⟩ := List.mem_map.1 hv; rfl) ?_
 intro wy3 hb hg
 replace HM := Lib.hid (show Mem w0 (rdE w1.heap.size we1.heap.size (some ⟨gb1, go1, none⟩) n (encB k (withC k m zl zl)) :: blkE (w.heap.size + 1 + 1 + 1 + 1) 27 (zl.map u8v) :: blkE (w.heap.size + 1 + 1 + 1) 27 (mt.map u8v) :: blkE (w.heap.size + 1 + 1) 27 ((List.replicate 16 (0 : UInt8)).map u8v) :: blkE (w.heap.size + 1) 27 (ck.map u8v) :: blkE w.heap.size 23 (p.map u8v) :: E.set i (blkE G T (withC k m zl zl).cells)) wy3 from HM.out.put 2 rfl _ hg hb)
 clear hb hg
 refine hK.out _ _ ((HM.out.erase 2)) (fun hHeld => ?_)
 clear hK K
 (try simp only [Act.put])
 refine wpAnyH_done (by kernel_rfl) ?_ _
 clear hHeld
 generalize hwf : wy3 = w4 at HM ⊢
 clear hwf
 replace HM := Lib.hid (show Mem w0 (blkE (w.heap.size + 1 + 1 + 1 + 1) 27 (zl.map u8v) :: blkE (w.heap.size + 1 + 1 + 1) 27 (mt.map u8v) :: blkE (w.heap.size + 1 + 1) 27 ((List.replicate 16 (0 : UInt8)).map u8v) :: blkE (w.heap.size + 1) 27 (ck.map u8v) :: blkE w.heap.size 23 (p.map u8v) :: E.set i (blkE G T (withC k m zl zl).cells)) w4 from HM.out.erase 0)
 clear HMC HS1 HC1 HT0
 go_wp2_with (first | (refine wpList_load_blk rfl 27 (.tmp 10) rfl (w.heap.size + 1 + 1 + 1) rfl 27 (mt.map u8v) (HM.out.blk 1 rfl) 16 5 Tryz.underlying27 (ae_cellsT mt HML.out) ?_) | (refine wpList_load_blk rfl 27 (.tmp 11) rfl (w.heap.size + 1 + 1 + 1 + 1) rfl 27 (zl.map u8v) (HM.out.blk 0 rfl) 16 5 Tryz.underlying27 (ae_cellsT zl HZ.out) ?_))
 have hce := HF.out (withC k m zl zl) HO0.out mt zl HML.out HZ.out w0 _ (blkE (w.heap.size + 1 + 1 + 1 + 1) 27 (zl.map u8v) :: blkE (w.heap.size + 1 + 1 + 1) 27 (mt.map u8v) :: blkE (w.heap.size + 1 + 1) 27 ((List.replicate 16 (0 : UInt8)).map u8v) :: blkE (w.heap.size + 1) 27 (ck.map u8v) :: blkE w.heap.size 23 (p.map u8v) :: E.set i (blkE G T (withC k m zl zl).cells)) (i + 5) G (mem_set_get HEI.out) HM.out
 rw [HN.out.1, HW1.out] at hce
 refine hce.mono ?_
 rintro e we2 ⟨A2, c2, rfl, hc2, hx2, hm2⟩
 replace HM := Lib.hid (show Mem w0 (rdE w4.heap.size we2.heap.size A2 n (encB k (withC k m mt zl)) :: blkE (w.heap.size + 1 + 1 + 1 + 1) 27 (zl.map u8v) :: blkE (w.heap.size + 1 + 1 + 1) 27 (mt.map u8v) :: blkE (w.heap.size + 1 + 1) 27 ((List.replicate 16 (0 : UInt8)).map u8v) :: blkE (w.heap.size + 1) 27 (ck.map u8v) :: blkE w.heap.size 23 (p.map u8v) :: E.set i (blkE G T (withC k m mt zl).cells)) we2 from (by have h : Mem w0 (rdE w4.heap.size we2.heap.size A2 n (encB k (withC k m mt zl)) :: blkE (w.heap.size + 1 + 1 + 1 + 1) 27 (zl.map u8v) :: blkE (w.heap.size + 1 + 1 + 1) 27 (mt.map u8v) :: blkE (w.heap.size + 1 + 1) 27 ((List.replicate 16 (0 : UInt8)).map u8v) :: blkE (w.heap.size + 1) 27 (ck.map u8v) :: blkE w.heap.size 23 (p.map u8v) :: (E.set i (blkE G T (withC k m zl zl).cells)).set i (blkE G T (withC k m mt zl).cells)) we2 := hm2; rw [mem_set_set] at h; exact h))
 clear hce hm2
 obtain ⟨gb2, go2, hA, -, -⟩ := (HM.out.get 0 rfl).2 (by have := HN.out; omega)
 subst hA
 have HC2 := Lib.hid (And.intro hc2 hx2)
 clear hc2 hx2
 cases has
 ·
  replace HSE := Lib.hid (show sealM p false ck k m = withC k m mt zl from HSE.out)
  go_upto_region 9 with fail
  refine wp_region_held_drew (S := fun W' => Mem w0 (rdE w4.heap.size we2.heap.size (some ⟨gb2, go2, none⟩) n (encB k (withC k m mt zl)) :: blkE (w.heap.size + 1 + 1 + 1 + 1) 27 (zl.map u8v) :: blkE (w.heap.size + 1 + 1 + 1) 27 (mt.map u8v) :: blkE (w.heap.size + 1) 27 (ck.map u8v) :: blkE w.heap.size 23 (p.map u8v) :: E.set i (blkE G T (withC k m mt zl).cells)) W') (by kernel_rfl) (((HM.out.erase 3)).drew) (fun hHeld => ?_)
  replace HM := Lib.hid HM.out.drew
  generalize we2.drew = wd1 at HM hHeld ⊢
  refine tf (v := ?_) 0 rfl (Or.inl ⟨by rfl, ?_⟩) ?_
  rotate_left
  · (intro w hSw; (try dsimp only at hSw); go_simp; try with_reducible rfl)
  (try simp only [Act.put, sA, s0, s1])
  refine tf (v := .agg cmt) 1 rfl (by rw [← HCT.out]; exact yields_load_blk (by rfl) 27 (.tmp 10) rfl (w.heap.size + 1 + 1 + 1) rfl 27 (mt.map u8v) (fun w' hb => Mem.blk hb 2 rfl) 16 5 Tryz.underlying27 (ae_cellsT mt HML.out)) ?_
  (try simp only [Act.put, sA, s0, s1])
  refine tf (v := ?_) 2 rfl (Or.inl ⟨by rfl, ?_⟩) ?_
  rotate_left
  · (intro w hSw; (try dsimp only at hSw); go_simp; try with_reducible rfl)
  (try simp only [Act.put, sA, s0, s1])
  refine so 3 rfl fun K hK => ?_
  clear hHeld
  refine step_store_blk _ rfl 27 (.tmp 9) (.tmp 44) rfl (w.heap.size + 1 + 1) (mt.map u8v) rfl (by show Value.agg cmt = _; rw [HCT.out]) 27 ((List.replicate 16 (0 : UInt8)).map u8v) (HM.out.blk 3 rfl) (ae_cellsT mt HML.out) (by rw [List.length_map, List.length_map, HML.out]; rfl) (by intro v hv; obtain ⟨_, _, rfl⟩ := List.mem_map.1 hv; rfl) ?_
  intro wy2 hb hg
  replace HM := Lib.hid (show Mem w0 (rdE w4.heap.size we2.heap.size (some ⟨gb2, go2, none⟩) n (encB k (withC k m mt zl)) :: blkE (w.heap.size + 1 + 1 + 1 + 1) 27 (zl.map u8v) :: blkE (w.heap.size + 1 + 1 + 1) 27 (mt.map u8v) :: blkE (w.heap.size + 1 + 1) 27 (mt.map u8v) :: blkE (w.heap.size + 1) 27 (ck.map u8v) :: blkE w.heap.size 23 (p.map u8v) :: E.set i (blkE G T (withC k m mt zl).cells)) wy2 from HM.out.put 3 rfl _ hg hb)
  clear hb hg
  refine hK.out _ _ ((HM.out.erase 3)) (fun hHeld => ?_)
  clear hK K
  (try simp only [Act.put])
  refine wpAnyH_done (by kernel_rfl) ?_ _
  clear hHeld
  go_wp2_with fail
  refine bodyPost_ret (results_tmp_obj rfl _ _ (w.heap.size + 1 + 1) 27 (mt.map u8v) _ rfl (HM.out.blk 3 rfl) Tryz.underlying27 rfl (ae_cellsT mt HML.out)) rfl ?_
  rw [HMT.out, HN.out.1, HSE.out]
  exact ⟨some ⟨gb2, go2, none⟩, c2, rfl, HC2.out.1, HC2.out.2, (withC k m mt zl), widen5 HM.out rfl⟩
 ·
  obtain ⟨s2, hs2⟩ : ∃ z, codeB ck (pre ++ mt) = z := ⟨_, rfl⟩
  have HSL := Lib.hid (show s2.length = 16 from by rw [← hs2]; exact codeB_length _ _)
  replace HSE := Lib.hid (show sealM p true ck k m = withC k m mt s2 from by rw [HSE.out, ← hs2]; rfl)
  have HW2 := Lib.hid (show withC k (withC k m mt zl) mt s2 = withC k m mt s2 from withC_twice HOK.out HK.out)
  obtain ⟨cs2, hcs2⟩ : ∃ z, (s2.map u8v).toArray = z := ⟨_, rfl⟩
  have HCS := Lib.hid hcs2
  have HMC := Lib.hid (fun c W hc hx hl (h : Rd W W.heap.size (some ⟨gb2, go2, none⟩) q2 (pre ++ mt)) => mac2_any ck HCK.out (some ⟨gb2, go2, none⟩) q2 c (pre ++ mt) hc hx (by have := HQ.out; have := HN.out; omega) W hl h)
  rw [hs2, hcs2, HCC.out] at HMC
  have HS1 := Lib.hid (slice_h (some ⟨gb2, go2, none⟩) ⟨gb2, go2, rfl⟩ n c2 q2 (by have := HQ.out; have := HN.out; have := HC2.out; omega))
  clear hs2 hcs2
  go_upto_region 7 with fail
  refine wp_region_held_drew (S := fun W' => Mem w0 (rdE w4.heap.size we2.heap.size (some ⟨gb2, go2, none⟩) n (encB k (withC k m mt zl)) :: blkE (w.heap.size + 1 + 1 + 1) 27 (mt.map u8v) :: blkE (w.heap.size + 1 + 1) 27 ((List.replicate 16 (0 : UInt8)).map u8v) :: blkE (w.heap.size + 1) 27 (ck.map u8v) :: blkE w.heap.size 23 (p.map u8v) :: E.set i (blkE G T (withC k m mt zl).cells)) W') (by kernel_rfl) (((HM.out.erase 1)).drew) (fun hHeld => ?_)
  replace HM := Lib.hid HM.out.drew
  generalize we2.drew = wd1 at HM hHeld ⊢
  refine tf (v := .agg cc) 0 rfl (by rw [← HCC.out]; exact yields_load_blk (by rfl) 27 (.tmp 6) rfl (w.heap.size + 1) rfl 27 (ck.map u8v) (fun w' hb => Mem.blk hb 3 rfl) 16 5 Tryz.underlying27 (ae_cellsT ck HCK.out)) ?_
  (try simp only [Act.put, sA, s0, s1])
  refine tf (v := ?_) 1 rfl (Or.inl ⟨by rfl, ?_⟩) ?_
  rotate_left
  · (intro w hSw; (try dsimp only at hSw); go_simp; try with_reducible rfl)
  (try simp only [Act.put, sA, s0, s1])
  refine tf (v := ?_) 2 rfl (Or.inl ⟨by rfl, ?_⟩) ?_
  rotate_left
  · (intro w hSw; (try dsimp only at hSw); go_simp; try with_reducible rfl)
  (try simp only [Act.put, sA, s0, s1])
  refine tf (v := ?_) 3 rfl (Or.inl ⟨by rfl, ?_⟩) ?_
  rotate_left
  · (intro w hSw; (try dsimp only at hSw); have hs := HS1.out w; go_simp; try with_reducible rfl)
  (try simp only [Act.put, sA, s0, s1])
  refine so 4 rfl fun K hK => ?_
  clear hHeld
  go_simp
  refine (HMC.out c2 _ (by have := HQ.out; have := HN.out; have := HC2.out; omega) HC2.out.2 (HLV.out.below HM.out.bel) (by rw [← HT1.out]; exact (HM.out.rd 0 rfl).take (m := q2) (by have := HQ.out; omega))).mono ?_
  rintro e wy2 ⟨rfl, hb⟩
  replace HM := Lib.hid (show Mem w0 (rdE w4.heap.size we2.heap.size (some ⟨gb2, go2, none⟩) n (encB k (withC k m mt zl)) :: blkE (w.heap.size + 1 + 1 + 1 + 1) 27 (zl.map u8v) :: blkE (w.heap.size + 1 + 1 + 1) 27 (mt.map u8v) :: blkE (w.heap.size + 1 + 1) 27 ((List.replicate 16 (0 : UInt8)).map u8v) :: blkE (w.heap.size + 1) 27 (ck.map u8v) :: blkE w.heap.size 23 (p.map u8v) :: E.set i (blkE G T (withC k m mt zl).cells)) wy2 from HM.out.below hb)
  clear hb
  go_wp2_with fail
  refine hK.out _ _ ((HM.out.erase 1)) (fun hHeld => ?_)
  clear hK K
  (try simp only [Act.put, sA, s0, s1])
  refine so 5 rfl fun K hK => ?_
  clear hHeld
  refine step_store_blk _ rfl 27 (.tmp 11) (.tmp 38) rfl (w.heap.size + 1 + 1 + 1 + 1) (s2.map u8v) rfl (by show Value.agg cs2 = _; rw [HCS.out]) 27 (zl.map u8v) (HM.out.blk 1 rfl) (ae_cellsT s2 HSL.out) (by rw [List.length_map, List.length_map, HSL.out, HZ.out]) (by intro v hv; obtain ⟨_, _, rfl⟩ := List.mem_map.1 hv; rfl) ?_
  intro wy3 hb hg
  replace HM := Lib.hid (show Mem w0 (rdE w4.heap.size we2.heap.size (some ⟨gb2, go2, none⟩) n (encB k (withC k m mt zl)) :: blkE (w.heap.size + 1 + 1 + 1 + 1) 27 (s2.map u8v) :: blkE (w.heap.size + 1 + 1 + 1) 27 (mt.map u8v) :: blkE (w.heap.size + 1 + 1) 27 ((List.replicate 16 (0 : UInt8)).map u8v) :: blkE (w.heap.size + 1) 27 (ck.map u8v) :: blkE w.heap.size 23 (p.map u8v) :: E.set i (blkE G T (withC k m mt zl).cells)) wy3 from HM.out.put 1 rfl _ hg hb)
  clear hb hg
  refine hK.out _ _ ((HM.out.erase 1)) (fun hHeld => ?_)
  clear hK K
  (try simp only [Act.put])
  refine wpAnyH_done (by kernel_rfl) ?_ _
  clear hHeld
  generalize hwf : wy3 = w4 at HM ⊢
  clear hwf
  replace HM := Lib.hid (show Mem w0 (blkE (w.heap.size + 1 + 1 + 1 + 1) 27 (s2.map u8v) :: blkE (w.heap.size + 1 + 1 + 1) 27 (mt.map u8v) :: blkE (w.heap.size + 1 + 1) 27 ((List.replicate 16 (0 : UInt8)).map u8v) :: blkE (w.heap.size + 1) 27 (ck.map u8v) :: blkE w.heap.size 23 (p.map u8v) :: E.set i (blkE G T (withC k m mt zl).cells)) w4 from HM.out.erase 0)
  clear HMC HS1 HC2 HT1
  go_wp2_with (first | (refine wpList_load_blk rfl 27 (.tmp 10) rfl (w.heap.size + 1 + 1 + 1) rfl 27 (mt.map u8v) (HM.out.blk 1 rfl) 16 5 Tryz.underlying27 (ae_cellsT mt HML.out) ?_) | (refine wpList_load_blk rfl 27 (.tmp 11) rfl (w.heap.size + 1 + 1 + 1 + 1) rfl 27 (s2.map u8v) (HM.out.blk 0 rfl) 16 5 Tryz.underlying27 (ae_cellsT s2 HSL.out) ?_))
  have hce := HF.out (withC k m mt zl) HO1.out mt s2 HML.out HSL.out w0 _ (blkE (w.heap.size + 1 + 1 + 1 + 1) 27 (s2.map u8v) :: blkE (w.heap.size + 1 + 1 + 1) 27 (mt.map u8v) :: blkE (w.heap.size + 1 + 1) 27 ((List.replicate 16 (0 : UInt8)).map u8v) :: blkE (w.heap.size + 1) 27 (ck.map u8v) :: blkE w.heap.size 23 (p.map u8v) :: E.set i (blkE G T (withC k m mt zl).cells)) (i + 5) G (mem_set_get HEI.out) HM.out
  rw [HN.out.1, HW2.out] at hce
  refine hce.mono ?_
  rintro e we3 ⟨A3, c3, rfl, hc3, hx3, hm3⟩
  replace HM := Lib.hid (show Mem w0 (rdE w4.heap.size we3.heap.size A3 n (encB k (withC k m mt s2)) :: blkE (w.heap.size + 1 + 1 + 1 + 1) 27 (s2.map u8v) :: blkE (w.heap.size + 1 + 1 + 1) 27 (mt.map u8v) :: blkE (w.heap.size + 1 + 1) 27 ((List.replicate 16 (0 : UInt8)).map u8v) :: blkE (w.heap.size + 1) 27 (ck.map u8v) :: blkE w.heap.size 23 (p.map u8v) :: E.set i (blkE G T (withC k m mt s2).cells)) we3 from (by have h : Mem w0 (rdE w4.heap.size we3.heap.size A3 n (encB k (withC k m mt s2)) :: blkE (w.heap.size + 1 + 1 + 1 + 1) 27 (s2.map u8v) :: blkE (w.heap.size + 1 + 1 + 1) 27 (mt.map u8v) :: blkE (w.heap.size + 1 + 1) 27 ((List.replicate 16 (0 : UInt8)).map u8v) :: blkE (w.heap.size + 1) 27 (ck.map u8v) :: blkE w.heap.size 23 (p.map u8v) :: (E.set i (blkE G T (withC k m mt zl).cells)).set i (blkE G T (withC k m mt s2).cells)) we3 := hm3; rw [mem_set_set] at h; exact h))
  clear hce hm3
  obtain ⟨gb3, go3, hA, -, -⟩ := (HM.out.get 0 rfl).2 (by have := HN.out; omega)
  subst hA
  have HC3 := Lib.hid (And.intro hc3 hx3)
  clear hc3 hx3
  go_upto_region 9 with fail
  refine wp_region_held_drew (S := fun W' => Mem w0 (rdE w4.heap.size we3.heap.size (some ⟨gb3, go3, none⟩) n (encB k (withC k m mt s2)) :: blkE (w.heap.size + 1 + 1 + 1 + 1) 27 (s2.map u8v) :: blkE (w.heap.size + 1 + 1 + 1) 27 (mt.map u8v) :: blkE (w.heap.size + 1) 27 (ck.map u8v) :: blkE w.heap.size 23 (p.map u8v) :: E.set i (blkE G T (withC k m mt s2).cells)) W') (by kernel_rfl) (((HM.out.erase 3)).drew) (fun hHeld => ?_)
  replace HM := Lib.hid HM.out.drew
  generalize we3.drew = wd1 at HM hHeld ⊢
  refine tf (v := ?_) 0 rfl (Or.inl ⟨by rfl, ?_⟩) ?_
  rotate_left
  · (intro w hSw; (try dsimp only at hSw); go_simp; try with_reducible rfl)
  (try simp only [Act.put, sA, s0, s1])
  refine tf (v := .agg cmt) 1 rfl (by rw [← HCT.out]; exact yields_load_blk (by rfl) 27 (.tmp 10) rfl (w.heap.size + 1 + 1 + 1) rfl 27 (mt.map u8v) (fun w' hb => Mem.blk hb 2 rfl) 16 5 Tryz.underlying27 (ae_cellsT mt HML.out)) ?_
  (try simp only [Act.put, sA, s0, s1])
  refine tf (v := ?_) 2 rfl (Or.inl ⟨by rfl, ?_⟩) ?_
  rotate_left
  · (intro w hSw; (try dsimp only at hSw); go_simp; try with_reducible rfl)
  (try simp only [Act.put, sA, s0, s1])
  refine so 3 rfl fun K hK => ?_
  clear hHeld
  refine step_store_blk _ rfl 27 (.tmp 9) (.tmp 44) rfl (w.heap.size + 1 + 1) (mt.map u8v) rfl (by show Value.agg cmt = _; rw [HCT.out]) 27 ((List.replicate 16 (0 : UInt8)).map u8v) (HM.out.blk 3 rfl) (ae_cellsT mt HML.out) (by rw [List.length_map, List.length_map, HML.out]; rfl) (by intro v hv; obtain ⟨_, _, rfl⟩ := List.mem_map.1 hv; rfl) ?_
  intro wy2 hb hg
  replace HM := Lib.hid (show Mem w0 (rdE w4.heap.size we3.heap.size (some ⟨gb3, go3, none⟩) n (encB k (withC k m mt s2)) :: blkE (w.heap.size + 1 + 1 + 1 + 1) 27 (s2.map u8v) :: blkE (w.heap.size + 1 + 1 + 1) 27 (mt.map u8v) :: blkE (w.heap.size + 1 + 1) 27 (mt.map u8v) :: blkE (w.heap.size + 1) 27 (ck.map u8v) :: blkE w.heap.size 23 (p.map u8v) :: E.set i (blkE G T (withC k m mt s2).cells)) wy2 from HM.out.put 3 rfl _ hg hb)
  clear hb hg
  refine hK.out _ _ ((HM.out.erase 3)) (fun hHeld => ?_)
  clear hK K
  (try simp only [Act.put])
  refine wpAnyH_done (by kernel_rfl) ?_ _
  clear hHeld
  go_wp2_with fail
  refine bodyPost_ret (results_tmp_obj rfl _ _ (w.heap.size + 1 + 1) 27 (mt.map u8v) _ rfl (HM.out.blk 3 rfl) Tryz.underlying27 rfl (ae_cellsT mt HML.out)) rfl ?_
  rw [HMT.out, HN.out.1, HSE.out]
  exact ⟨some ⟨gb3, go3, none⟩, c3, rfl, HC3.out.1, HC3.out.2, (withC k m mt s2), widen5 HM.out rfl⟩
set_option maxRecDepth 100000 in
theorem pHeader_any (v : Nat) (hv : v < 4294967296) (w : World) :
 Calls Tryz.prog 31 #[.int .i64 (v : Int)] w fun e w' => ∃ A c, e = .returned (.slice A 4 c) ∧ Rd w' w'.heap.size A 4 (littleL v 4) ∧ Below w.heap.size w w' := by
 have HC := Lib.hid (little_any v (by omega) 4 (by omega) (by omega) w)
 have h1 : IntKind.u64.wrap (v : Int) = (v : Int) := by rw [IntKind.wrap_u64]; omega
 have h2 : (v : Int) % 18446744073709551616 = (v : Int) := by omega
 go_enter Tryz.func31, Tryz.ntmps31
 go_wp2_with fail
 refine HC.out.mono ?_
 rintro e w1 ⟨rfl, ho, hb⟩
 have HO := Lib.hid (And.intro (Rd.of_own ho) hb)
 clear ho hb
 go_wp2_with fail
 go_ret
 exact ⟨_, _, rfl, HO.out.1, HO.out.2⟩
set_option maxRecDepth 100000 in
theorem pIndex_any (v : Nat) (hv : v < 4294967296) (w : World) :
 Calls Tryz.prog 32 #[.int .u32 (v : Int)] w fun e w' => ∃ A c, e = .returned (.slice A 4 c) ∧ Rd w' w'.heap.size A 4 (littleL v 4) ∧ Below w.heap.size w w' := by
 have HC := Lib.hid (little_any v (by omega) 4 (by omega) (by omega) w)
 have h1 : IntKind.u64.wrap (v : Int) = (v : Int) := by rw [IntKind.wrap_u64]; omega
 have h2 : (v : Int) % 18446744073709551616 = (v : Int) := by omega
 go_enter Tryz.func32, Tryz.ntmps32
 go_wp2_with fail
 refine HC.out.mono ?_
 rintro e w1 ⟨rfl, ho, hb⟩
 have HO := Lib.hid (And.intro (Rd.of_own ho) hb)
 clear ho hb
 go_wp2_with fail
 go_ret
 exact ⟨_, _, rfl, HO.out.1, HO.out.2⟩
theorem four_lt {l : List UInt8} (h : l.length ≤ 4) : numL l < 4294967296 :=
 Nat.lt_of_lt_of_le (numL_lt l) (Nat.pow_le_pow_right (n := 256) (by omega) h)
set_option maxRecDepth 100000 in
theorem pReadIndex_any (A : Option Addr) (c : Nat) (l : List UInt8) (w : World) (hr : Rd w w.heap.size A 4 l) :
 Calls Tryz.prog 34 #[.slice A 4 c] w fun e w' => e = .returned (.int .u32 (numL l : Int)) ∧ w = w' := by
 have HC := Lib.hid (readLittle_any w.heap.size A 4 c l (by omega) w hr)
 have hlt : numL l < 4294967296 := four_lt (by rw [hr.1]; omega)
 have e8 : l.take 8 = l := List.take_of_length_le (by rw [hr.1]; omega)
 rw [e8] at HC
 generalize numL l = v at HC hlt
 have h1 : IntKind.u32.wrap (v : Int) = (v : Int) := by rw [IntKind.wrap_u32]; omega
 have h2 : (v : Int) % 4294967296 = (v : Int) := by omega
 clear hr e8
 go_enter Tryz.func34, Tryz.ntmps34
 go_wp2_with fail
 refine HC.out.mono ?_
 rintro e w1 ⟨rfl, rfl⟩
 go_wp2_with fail
 go_ret
 exact ⟨rfl, rfl⟩
/-- the sizes that a kind can have -/
def fitB (k n : Nat) : Bool := if k = 1 then decide (n = 148) else if k = 2 then decide (n = 92) else if k = 3 then decide (n = 64) else if k = 4 then decide (32 ≤ n ∧ n ≤ 2100) else false
set_option maxRecDepth 100000 in
set_option maxHeartbeats 4000000 in
theorem fits_any (k n : Nat) (w : World) :
 Calls Tryz.prog 57 #[.int .i64 (k : Int), .int .i64 (n : Int)] w fun e w' => e = .returned (.bool (fitB k n)) ∧ w = w' := by
 by_cases h1 : k = 1
 ·
  subst h1
  obtain ⟨t, ht⟩ : ∃ t, decide (n = 148) = t := ⟨_, rfl⟩
  have e1 : ((n : Int) == 148) = t := by rw [← ht]; by_cases h : n = 148 <;> simp [h]; omega
  have hf : fitB 1 n = t := by rw [fitB, if_pos rfl, ht]
  clear ht
  go_enter Tryz.func57, Tryz.ntmps57
  go_wp2
  go_ret
  exact ⟨by rw [hf]; rfl, rfl⟩
 have d1 : ((k : Int) == 1) = false := by rw [beq_eq_false_iff_ne]; omega
 by_cases h2 : k = 2
 ·
  subst h2
  obtain ⟨t, ht⟩ : ∃ t, decide (n = 92) = t := ⟨_, rfl⟩
  have e1 : ((n : Int) == 92) = t := by rw [← ht]; by_cases h : n = 92 <;> simp [h]; omega
  have hf : fitB 2 n = t := by rw [fitB, if_neg (by omega), if_pos rfl, ht]
  clear ht d1 h1
  go_enter Tryz.func57, Tryz.ntmps57
  go_wp2
  go_ret
  exact ⟨by rw [hf]; rfl, rfl⟩
 have d2 : ((k : Int) == 2) = false := by rw [beq_eq_false_iff_ne]; omega
 by_cases h3 : k = 3
 ·
  subst h3
  obtain ⟨t, ht⟩ : ∃ t, decide (n = 64) = t := ⟨_, rfl⟩
  have e1 : ((n : Int) == 64) = t := by rw [← ht]; by_cases h : n = 64 <;> simp [h]; omega
  have hf : fitB 3 n = t := by rw [fitB, if_neg (by omega), if_neg (by omega), if_pos rfl, ht]
  clear ht d1 d2 h1 h2
  go_enter Tryz.func57, Tryz.ntmps57
  go_wp2
  go_ret
  exact ⟨by rw [hf]; rfl, rfl⟩
 have d3 : ((k : Int) == 3) = false := by rw [beq_eq_false_iff_ne]; omega
 by_cases h4 : k = 4
 ·
  subst h4
  by_cases hn : 32 ≤ n
  ·
   have en : decide ((32 : Int) ≤ (n : Int)) = true := by simp; omega
   by_cases hm : n ≤ 2100
   ·
    have em : decide ((n : Int) ≤ 2100) = true := by simp; omega
    have hf : fitB 4 n = true := by rw [fitB, if_neg (by omega), if_neg (by omega), if_neg (by omega), if_pos rfl]; simp; omega
    go_enter Tryz.func57, Tryz.ntmps57
    go_wp2
    go_ret
    exact ⟨by rw [hf]; rfl, rfl⟩
   ·
    have em : decide ((n : Int) ≤ 2100) = false := by simp; omega
    have hf : fitB 4 n = false := by rw [fitB, if_neg (by omega), if_neg (by omega), if_neg (by omega), if_pos rfl]; simp; omega
    go_enter Tryz.func57, Tryz.ntmps57
    go_wp2
    go_ret
    exact ⟨by rw [hf]; rfl, rfl⟩
  ·
   have en : decide ((32 : Int) ≤ (n : Int)) = false := by simp; omega
   have hf : fitB 4 n = false := by rw [fitB, if_neg (by omega), if_neg (by omega), if_neg (by omega), if_pos rfl]; simp; omega
   go_enter Tryz.func57, Tryz.ntmps57
   go_wp2
   go_ret
   exact ⟨by rw [hf]; rfl, rfl⟩
 have d4 : ((k : Int) == 4) = false := by rw [beq_eq_false_iff_ne]; omega
 have hf : fitB k n = false := by rw [fitB, if_neg h1, if_neg h2, if_neg h3, if_neg h4]
 go_enter Tryz.func57, Tryz.ntmps57
 go_wp2
 go_ret
 exact ⟨by rw [hf]; rfl, rfl⟩
theorem kindB_fit {l : List UInt8} (h4 : 4 ≤ l.length) : kindB l = if fitB (numL (l.take 4)) l.length then numL (l.take 4) else 0 := by
 obtain ⟨a, b, c, d, r, rfl⟩ : ∃ a b c d r, l = a :: b :: c :: d :: r := by
  match l, h4 with
  | a :: b :: c :: d :: r, _ => exact ⟨a, b, c, d, r, rfl⟩
 have hv : numL ((a :: b :: c :: d :: r).take 4) = a.toNat + 256 * (b.toNat + 256 * (c.toNat + 256 * d.toNat)) := by simp [numL]
 generalize hn : (a :: b :: c :: d :: r).length = n at *
 have ha := a.toNat_lt
 have hz : ∀ x : UInt8, x ≠ 0 → x.toNat ≠ 0 := fun x hx h => hx (UInt8.toNat.inj (by simpa using h))
 by_cases h0 : b ≠ 0 ∨ c ≠ 0 ∨ d ≠ 0
 ·
  have hk : kindB (a :: b :: c :: d :: r) = 0 := by
   rw [kindB, if_neg (by omega), if_pos]
   exact h0
  have hbig : 5 ≤ numL ((a :: b :: c :: d :: r).take 4) := by
   rw [hv]
   rcases h0 with h | h | h
   · have := hz _ h; omega
   · have := hz _ h; omega
   · have := hz _ h; omega
  have hfb : fitB (numL ((a :: b :: c :: d :: r).take 4)) n = false := by rw [fitB, if_neg (by omega), if_neg (by omega), if_neg (by omega), if_neg (by omega)]
  rw [hk, hfb]
  rfl
 ·
  obtain ⟨rfl, rfl, rfl⟩ : b = 0 ∧ c = 0 ∧ d = 0 := by
   refine ⟨?_, ?_, ?_⟩ <;> (apply Classical.byContradiction; intro h; apply h0; simp [h])
  have hv2 : numL ((a :: 0 :: 0 :: 0 :: r).take 4) = a.toNat := by rw [hv]; simp
  rw [kindB_some (by omega) rfl rfl rfl, hv2, hn]
  show (if (a.toNat = 1 ∧ n = 148) ∨ (a.toNat = 2 ∧ n = 92) ∨ (a.toNat = 3 ∧ n = 64) ∨ (a.toNat = 4 ∧ 32 ≤ n ∧ n ≤ 2100) then a.toNat else 0) = _
  generalize a.toNat = x
  unfold fitB
  by_cases h1 : x = 1
  · subst h1; simp
  by_cases h2 : x = 2
  · subst h2; simp
  by_cases h3 : x = 3
  · subst h3; simp
  by_cases h4 : x = 4
  · subst h4; simp
  simp [h1, h2, h3, h4]
set_option maxRecDepth 100000 in
set_option maxHeartbeats 4000000 in
theorem msKindC : MsKindC 33 := by
 intro A n c l hnc _h2 hn6 w hr
 have hl : l.length = n := hr.1
 by_cases h4 : n < 4
 ·
  have d4 : decide ((n : Int) < 4) = true := by simp; omega
  have hK : kindB l = 0 := by rw [kindB, if_pos (by omega)]
  clear hl hr
  go_enter Tryz.func33, Tryz.ntmps33
  go_wp2
  go_ret
  exact ⟨ret_int (by rw [hK]; rfl), Below.refl _ _⟩
 have d4 : decide ((n : Int) < 4) = false := by simp; omega
 obtain ⟨b, off, rfl, -, -⟩ := hr.at_ (by omega)
 have HC := Lib.hid (readLittle_any w.heap.size (some ⟨b, off, none⟩) 4 4 (l.take 4) (by omega) w (hr.take (by omega)))
 have hsl := slice_hm b off n c 4 4 (by omega) (by omega) w
 have hK := kindB_fit (l := l) (by omega)
 have hlt : numL (l.take 4) < 4294967296 := four_lt (by rw [List.length_take]; omega)
 rw [List.take_of_length_le (show (l.take 4).length ≤ 8 by rw [List.length_take]; omega)] at HC
 rw [hl] at hK
 generalize numL (l.take 4) = v at HC hlt hK
 have HF := Lib.hid (fits_any v n w)
 have h1 : IntKind.i64.wrap (v : Int) = (v : Int) := by rw [IntKind.wrap_i64]; omega
 have HK := Lib.hid hK
 clear hK hr hl
 rw [show ((4 : Nat) : Int) = 4 from rfl] at hsl
 obtain ⟨t, ht⟩ : ∃ t, fitB v n = t := ⟨_, rfl⟩
 rw [ht] at HF HK
 clear ht
 cases t with
 | false =>
  go_enter Tryz.func33, Tryz.ntmps33
  go_wp2_with fail
  refine HC.out.mono ?_
  rintro e w1 ⟨rfl, rfl⟩
  clear hsl
  go_wp2_with fail
  refine HF.out.mono ?_
  rintro e w1 ⟨rfl, rfl⟩
  go_wp2_with fail
  go_ret
  exact ⟨ret_int (by rw [HK.out, if_neg (by decide)]; rfl), Below.refl _ _⟩
 | true =>
  go_enter Tryz.func33, Tryz.ntmps33
  go_wp2_with fail
  refine HC.out.mono ?_
  rintro e w1 ⟨rfl, rfl⟩
  clear hsl
  go_wp2_with fail
  refine HF.out.mono ?_
  rintro e w1 ⟨rfl, rfl⟩
  go_wp2_with fail
  go_ret
  exact ⟨ret_int (by rw [HK.out]; simp), Below.refl _ _⟩
theorem coJoin_new (g : Nat) (t : TypeId) (ps : List Part) (k : Nat) (hk : ps.length = k) (hk1 : k ≤ 1000) (L : List UInt8) (hL : (ps.map Part.l).flatten = L) (M : Nat) (hM : L.length = M) (hM6 : M ≤ 1000000) (w : World) (hb : Blk w g t (ps.map Part.v)) (hr : ∀ p ∈ ps, Rd w w.heap.size p.A p.n p.l) :
 Calls Tryz.prog 30 #[.slice (some ⟨g, 0, none⟩) k k] w fun e w' => ∃ A' c', e = .returned (.slice A' M c') ∧ M ≤ c' ∧ c' ≤ maxLen ∧ RdIn w.heap.size w'.heap.size A' M L w' ∧ Below w.heap.size w w' := by
 subst hk
 have hf : flat ps ps.length = L := by rw [flat, List.take_of_length_le (Nat.le_refl _), hL]
 have hJ := coJoin_any w.heap.size ps.length (some ⟨g, 0, none⟩) ps (by omega) (by rw [hf, hM]; exact hM6) w (Nat.le_refl _) (parts_rd hb hr)
 refine hJ.mono ?_
 rintro e w' ⟨A', c', he, ho, hbl⟩
 rw [hf, hM] at he ho
 obtain ⟨q1, q2, _⟩ := own_addr ho
 exact ⟨A', c', he, q1, q2, RdIn.of_own ho, hbl⟩
theorem head_little : ∀ k : Nat, k ≤ 4 → littleL k 4 = msHead k := by
 intro k hk
 match k, hk with
 | 0, _ => decide +kernel
 | 1, _ => decide +kernel
 | 2, _ => decide +kernel
 | 3, _ => decide +kernel
 | 4, _ => decide +kernel
theorem pHeader_k (k : Nat) (hk : k ≤ 4) (w : World) :
 Calls Tryz.prog 31 #[.int .i64 (k : Int)] w fun e w' => ∃ A c, e = .returned (.slice A 4 c) ∧ Rd w' w'.heap.size A 4 (msHead k) ∧ Below w.heap.size w w' := by
 rw [← head_little k hk]
 exact pHeader_any k (by omega) w
theorem encParts1 (s : Nat) (bs : List UInt8) (hb : bs.length = 140) : (msHead 1 ++ (littleL s 4 ++ ((bs.drop 0).take 32 ++ ((bs.drop 32).take 48 ++ ((bs.drop 80).take 28 ++ ((bs.drop 108).take 16 ++ ((bs.drop 124).take 16))))))) = encB 1 (MsgM.mk [s] bs) := by
 have e : (bs.drop 0).take 32 ++ ((bs.drop 32).take 48 ++ ((bs.drop 80).take 28 ++ ((bs.drop 108).take 16 ++ ((bs.drop 124).take 16)))) = bs := by
  apply List.ext_getElem
  · simp only [List.length_append, List.length_take, List.length_drop]; omega
  ·
   intro i h1 h2
   simp only [List.getElem_append, List.getElem_take, List.getElem_drop, List.length_take, List.length_drop]
   repeat' split
   all_goals (congr 1; omega)
 rw [e]
 simp only [encB, numsB, List.flatMap_cons, List.flatMap_nil, List.append_nil, List.append_assoc]
set_option maxRecDepth 100000 in
set_option maxHeartbeats 8000000 in
theorem msEncN1 : MsEncNC 41 1 := by
 intro m0 hok w
 obtain ⟨nums, bs⟩ := m0
 obtain ⟨s, hnum⟩ : ∃ s, nums = [s] := by
  have h := hok.1
  match nums, h with
  | [s], _ => exact ⟨s, rfl⟩
 subst hnum
 have HOK := Lib.hid hok
 have HH := Lib.hid (fun W => show Calls Tryz.prog 31 #[.int .i64 1] W (fun e w' => ∃ A c, e = .returned (.slice A 4 c) ∧ Rd w' w'.heap.size A 4 (msHead 1) ∧ Below W.heap.size W w') from pHeader_k 1 (by omega) W)
 have HU0 := Lib.hid (pIndex_any s (hok.2.2 s (by simp)))
 have HLEN := Lib.hid (show (encB 1 (MsgM.mk [s] bs)).length = 148 from encB_length hok)
 have hfl := encParts1 s bs hok.2.1
 obtain ⟨cm, hcm⟩ : ∃ z, (MsgM.mk [s] bs).cells.toArray = z := ⟨_, rfl⟩
 have HM := Lib.hid (show Lows w [blkL w.heap.size 54 (MsgM.mk [s] bs).cells] (w.alloc (.cells cm 54)) from (Lows.nil w).alloc 54 cm (MsgM.mk [s] bs).cells hcm.symm)
 rw [hcm]
 have HFL := Lib.hid (show ([(msHead 1 : List UInt8), (littleL s 4 : List UInt8), ((bs.drop 0).take 32 : List UInt8), ((bs.drop 32).take 48 : List UInt8), ((bs.drop 80).take 28 : List UInt8), ((bs.drop 108).take 16 : List UInt8), ((bs.drop 124).take 16 : List UInt8)] : List (List UInt8)).flatten = encB 1 (MsgM.mk [s] bs) from by
  rw [← hfl]; simp only [List.flatten_cons, List.flatten_nil, List.append_nil])
 clear hok hfl hcm
 go_enter Tryz.func41, Tryz.ntmps41
 go_upto_region 1 with fail
 generalize w.alloc (.cells cm 54) = w1 at HM ⊢
 refine wp_region_held_drew (S := fun W' => Lows w [blkL w.heap.size 54 (MsgM.mk [s] bs).cells] W') (by kernel_rfl) (HM.out.drew) (fun hHeld => ?_)
 replace HM := Lib.hid HM.out.drew
 generalize w1.drew = wd1 at HM hHeld ⊢
 refine tf (v := ?_) 1 rfl (Or.inl ⟨by rfl, ?_⟩) ?_
 rotate_left
 · (intro w hSw; (try dsimp only at hSw); go_simp; try with_reducible rfl)
 (try simp only [Act.put, sA, s0, s1])
 refine tf (v := ?_) 2 rfl (Or.inl ⟨by rfl, ?_⟩) ?_
 rotate_left
 · (intro w hSw; (try dsimp only at hSw); have fl := msg_num (Lows.blk hSw 0 rfl) 0 s rfl; go_simp; try with_reducible rfl)
 (try simp only [Act.put, sA, s0, s1])
 refine tf (v := ?_) 4 rfl (Or.inl ⟨by rfl, ?_⟩) ?_
 rotate_left
 · (intro w hSw; (try dsimp only at hSw); go_simp; try with_reducible rfl)
 (try simp only [Act.put, sA, s0, s1])
 refine tf (v := ?_) 5 rfl (Or.inl ⟨by rfl, ?_⟩) ?_
 rotate_left
 · (intro w hSw; (try dsimp only at hSw); go_simp; try with_reducible rfl)
 (try simp only [Act.put, sA, s0, s1])
 refine tf (v := ?_) 6 rfl (Or.inl ⟨by rfl, ?_⟩) ?_
 rotate_left
 · (intro w hSw; (try dsimp only at hSw); go_simp; try with_reducible rfl)
 (try simp only [Act.put, sA, s0, s1])
 refine tf (v := ?_) 7 rfl (Or.inl ⟨by rfl, ?_⟩) ?_
 rotate_left
 · (intro w hSw; (try dsimp only at hSw); go_simp; try with_reducible rfl)
 (try simp only [Act.put, sA, s0, s1])
 refine tf (v := ?_) 8 rfl (Or.inl ⟨by rfl, ?_⟩) ?_
 rotate_left
 · (intro w hSw; (try dsimp only at hSw); go_simp; try with_reducible rfl)
 (try simp only [Act.put, sA, s0, s1])
 refine tf (v := ?_) 9 rfl (Or.inl ⟨by rfl, ?_⟩) ?_
 rotate_left
 · (intro w hSw; (try dsimp only at hSw); go_simp; try with_reducible rfl)
 (try simp only [Act.put, sA, s0, s1])
 refine tf (v := ?_) 10 rfl (Or.inl ⟨by rfl, ?_⟩) ?_
 rotate_left
 · (intro w hSw; (try dsimp only at hSw); go_simp; try with_reducible rfl)
 (try simp only [Act.put, sA, s0, s1])
 refine tf (v := ?_) 11 rfl (Or.inl ⟨by rfl, ?_⟩) ?_
 rotate_left
 · (intro w hSw; (try dsimp only at hSw); go_simp; try with_reducible rfl)
 (try simp only [Act.put, sA, s0, s1])
 refine tf (v := ?_) 12 rfl (Or.inl ⟨by rfl, ?_⟩) ?_
 rotate_left
 · (intro w hSw; (try dsimp only at hSw); go_simp; try with_reducible rfl)
 (try simp only [Act.put, sA, s0, s1])
 refine tf (v := ?_) 13 rfl (Or.inl ⟨by rfl, ?_⟩) ?_
 rotate_left
 · (intro w hSw; (try dsimp only at hSw); go_simp; try with_reducible rfl)
 (try simp only [Act.put, sA, s0, s1])
 refine so 0 rfl fun K hK => ?_
 clear hHeld
 go_simp
 refine (HH.out _).mono ?_
 rintro e wy2 ⟨Ah, ch, rfl, hr, hb⟩
 replace HM := Lib.hid (show Lows w [rdL Ah 4 (msHead 1), blkL w.heap.size 54 (MsgM.mk [s] bs).cells] wy2 from (HM.out.below hb).cons (rdL Ah 4 (msHead 1)) (hr))
 clear hb
 go_wp2_with fail
 refine hK.out _ _ (HM.out.tail 0) (fun hHeld => ?_)
 clear hK K
 (try simp only [Act.put, sA, s0, s1])
 refine wpAnyH_stronger (T := fun W' => Lows w [rdL Ah 4 (msHead 1), blkL w.heap.size 54 (MsgM.mk [s] bs).cells] W') (fun _ h' => (h'.tail 0)) _ _ _ _ ?_
 replace hHeld := HM.out
 refine so 3 rfl fun K hK => ?_
 clear hHeld
 go_simp
 refine (HU0.out _).mono ?_
 rintro e wy3 ⟨A0, c0, rfl, hr, hb⟩
 replace HM := Lib.hid (show Lows w [rdL A0 4 (littleL s 4), rdL Ah 4 (msHead 1), blkL w.heap.size 54 (MsgM.mk [s] bs).cells] wy3 from (HM.out.below hb).cons (rdL A0 4 (littleL s 4)) (hr))
 clear hb
 go_wp2_with fail
 refine hK.out _ _ (HM.out.tail 0) (fun hHeld => ?_)
 clear hK K
 (try simp only [Act.put, sA, s0, s1])
 refine wpAnyH_stronger (T := fun W' => Lows w [rdL A0 4 (littleL s 4), rdL Ah 4 (msHead 1), blkL w.heap.size 54 (MsgM.mk [s] bs).cells] W') (fun _ h' => (h'.tail 0)) _ _ _ _ ?_
 replace hHeld := HM.out
 refine so 14 rfl fun K hK => ?_
 clear hHeld
 go_simp
 have hm9 := HM.out.alloc 29 #[.slice Ah 4 ch, .slice A0 4 c0, .slice (some ⟨w.heap.size, 1, none⟩) 32 32, .slice (some ⟨w.heap.size, 33, none⟩) 48 48, .slice (some ⟨w.heap.size, 81, none⟩) 28 28, .slice (some ⟨w.heap.size, 109, none⟩) 16 16, .slice (some ⟨w.heap.size, 125, none⟩) 16 16] ([.slice Ah 4 ch, .slice A0 4 c0, .slice (some ⟨w.heap.size, 1, none⟩) 32 32, .slice (some ⟨w.heap.size, 33, none⟩) 48 48, .slice (some ⟨w.heap.size, 81, none⟩) 28 28, .slice (some ⟨w.heap.size, 109, none⟩) 16 16, .slice (some ⟨w.heap.size, 125, none⟩) 16 16]) rfl
 generalize wy3.alloc (.cells #[.slice Ah 4 ch, .slice A0 4 c0, .slice (some ⟨w.heap.size, 1, none⟩) 32 32, .slice (some ⟨w.heap.size, 33, none⟩) 48 48, .slice (some ⟨w.heap.size, 81, none⟩) 28 28, .slice (some ⟨w.heap.size, 109, none⟩) 16 16, .slice (some ⟨w.heap.size, 125, none⟩) 16 16] 29) = wy4 at hm9 ⊢
 generalize wy3.heap.size = g7 at hm9 ⊢
 replace HM := Lib.hid (show Lows w [blkL g7 29 ([.slice Ah 4 ch, .slice A0 4 c0, .slice (some ⟨w.heap.size, 1, none⟩) 32 32, .slice (some ⟨w.heap.size, 33, none⟩) 48 48, .slice (some ⟨w.heap.size, 81, none⟩) 28 28, .slice (some ⟨w.heap.size, 109, none⟩) 16 16, .slice (some ⟨w.heap.size, 125, none⟩) 16 16]), rdL A0 4 (littleL s 4), rdL Ah 4 (msHead 1), blkL w.heap.size 54 (MsgM.mk [s] bs).cells] wy4 from hm9)
 clear hm9
 refine hK.out _ _ (HM.out.tail 0) (fun hHeld => ?_)
 clear hK K
 (try simp only [Act.put, sA, s0, s1])
 refine wpAnyH_stronger (T := fun W' => Lows w [blkL g7 29 ([.slice Ah 4 ch, .slice A0 4 c0, .slice (some ⟨w.heap.size, 1, none⟩) 32 32, .slice (some ⟨w.heap.size, 33, none⟩) 48 48, .slice (some ⟨w.heap.size, 81, none⟩) 28 28, .slice (some ⟨w.heap.size, 109, none⟩) 16 16, .slice (some ⟨w.heap.size, 125, none⟩) 16 16]), rdL A0 4 (littleL s 4), rdL Ah 4 (msHead 1), blkL w.heap.size 54 (MsgM.mk [s] bs).cells] W') (fun _ h' => (h'.tail 0)) _ _ _ _ ?_
 replace hHeld := HM.out
 refine so 15 rfl fun K hK => ?_
 clear hHeld
 go_simp
 refine (coJoin_new g7 29 [⟨Ah, 4, ch, msHead 1⟩, ⟨A0, 4, c0, littleL s 4⟩, ⟨(some ⟨w.heap.size, 1, none⟩), 32, 32, (bs.drop 0).take 32⟩, ⟨(some ⟨w.heap.size, 33, none⟩), 48, 48, (bs.drop 32).take 48⟩, ⟨(some ⟨w.heap.size, 81, none⟩), 28, 28, (bs.drop 80).take 28⟩, ⟨(some ⟨w.heap.size, 109, none⟩), 16, 16, (bs.drop 108).take 16⟩, ⟨(some ⟨w.heap.size, 125, none⟩), 16, 16, (bs.drop 124).take 16⟩] 7 rfl (by omega) (encB 1 (MsgM.mk [s] bs)) HFL.out 148 HLEN.out (by omega) _ (HM.out.blk 0 rfl) (by
  intro p hp
  simp only [List.mem_cons, List.not_mem_nil, or_false] at hp
  rcases hp with rfl | rfl | rfl | rfl | rfl | rfl | rfl
  · exact HM.out.rd 2 rfl
  · exact HM.out.rd 1 rfl
  · exact msg_rd (HM.out.blk 3 rfl) HOK.out 1 0 32 rfl (by decide)
  · exact msg_rd (HM.out.blk 3 rfl) HOK.out 33 32 48 rfl (by decide)
  · exact msg_rd (HM.out.blk 3 rfl) HOK.out 81 80 28 rfl (by decide)
  · exact msg_rd (HM.out.blk 3 rfl) HOK.out 109 108 16 rfl (by decide)
  · exact msg_rd (HM.out.blk 3 rfl) HOK.out 125 124 16 rfl (by decide)
  )).mono ?_
 rintro e wy5 ⟨A9, c9, rfl, hc1, hc2, hr, hb⟩
 have HRES := Lib.hid (And.intro hc1 (And.intro hc2 (And.intro (hr.from_ HM.out.size) (HM.out.below hb).bel)))
 replace HM := Lib.hid (show Lows w [blkL g7 29 ([.slice Ah 4 ch, .slice A0 4 c0, .slice (some ⟨w.heap.size, 1, none⟩) 32 32, .slice (some ⟨w.heap.size, 33, none⟩) 48 48, .slice (some ⟨w.heap.size, 81, none⟩) 28 28, .slice (some ⟨w.heap.size, 109, none⟩) 16 16, .slice (some ⟨w.heap.size, 125, none⟩) 16 16]), rdL A0 4 (littleL s 4), rdL Ah 4 (msHead 1), blkL w.heap.size 54 (MsgM.mk [s] bs).cells] wy5 from HM.out.below hb)
 clear hr hb hc1 hc2
 go_wp2_with fail
 refine hK.out _ _ (HM.out) (fun hHeld => ?_)
 clear hK K
 (try simp only [Act.put, sA, s0, s1])
 refine tf (v := ?_) 16 rfl (Or.inl ⟨by rfl, ?_⟩) ?_
 rotate_left
 · (intro w hSw; (try dsimp only at hSw); go_simp; try with_reducible rfl)
 (try simp only [Act.put, sA, s0, s1])
 refine wpAnyH_done (by kernel_rfl) ?_ _
 clear HM hHeld
 go_wp2_with fail
 go_ret
 exact ⟨A9, c9, rfl, HRES.out.1, HRES.out.2.1, HRES.out.2.2.1, HRES.out.2.2.2⟩
set_option maxRecDepth 100000 in
set_option maxHeartbeats 4000000 in
theorem mcEnc1 : McEncF 40 1 54 := by
 intro m hok f s hf hs w0 w E i G he hm
 have HF := Lib.hid hf
 have HS := Lib.hid hs
 have HE := Lib.hid he
 have hml := MsgM.cells_length hok
 have HML := Lib.hid (show m.cells.length = 141 from hml)
 have HEN := Lib.hid (msEncN1 (withC 1 m f s) (withC_ok (.inl rfl) hok hf hs))
 have hwl := MsgM.cells_length (withC_ok (.inl rfl) hok hf hs)
 have HUM := Lib.hid (show (Tryz.prog.info? 54).map (·.size) = some (withC 1 m f s).cells.length from by rw [hwl]; kernel_rfl)
 have HSC := Lib.hid (show setL (setL m.cells 109 (f.map u8v)) 125 (s.map u8v) = (withC 1 m f s).cells from set_codes (.inl rfl) hok f s hf hs 109 125 rfl rfl)
 obtain ⟨cf, hcf⟩ : ∃ z, (f.map u8v).toArray = z := ⟨_, rfl⟩
 obtain ⟨cs, hcs⟩ : ∃ z, (s.map u8v).toArray = z := ⟨_, rfl⟩
 obtain ⟨cm, hcm⟩ : ∃ z, (withC 1 m f s).cells.toArray = z := ⟨_, rfl⟩
 rw [hcm] at HEN
 rw [hcf, hcs]
 have HM := Lib.hid (show Mem w0 (blkE (w.heap.size + 1) 27 (s.map u8v) :: blkE w.heap.size 27 (f.map u8v) :: E) ((w.alloc (.cells cf 27)).alloc (.cells cs 27)) from (hm.alloc rfl 27 cf (f.map u8v) hcf.symm).alloc (by simp) 27 cs (s.map u8v) hcs.symm)
 have HCF := Lib.hid hcf
 have HCS := Lib.hid hcs
 have HCM := Lib.hid hcm
 have HLT := Lib.hid (show G < w.heap.size from (hm.blk i he).lt)
 clear hcf hcs hcm hf hs he hm hok hml hwl
 go_enter Tryz.func40, Tryz.ntmps40
 go_upto_region 1 with fail
 generalize ((w.alloc (.cells cf 27)).alloc (.cells cs 27)) = w1 at HM ⊢
 have HNE := Lib.hid (show w.heap.size ≠ G ∧ w.heap.size + 1 ≠ G from ⟨by have := HLT.out; omega, by have := HLT.out; omega⟩)
 refine wp_region_held_drew (S := fun W' => Blk W' w.heap.size 27 (f.map u8v) ∧ Blk W' (w.heap.size + 1) 27 (s.map u8v)) (by kernel_rfl) ⟨HM.out.drew.blk 1 rfl, HM.out.drew.blk 0 rfl⟩ (fun hHeld => ?_)
 replace HM := Lib.hid HM.out.drew
 generalize w1.drew = wd1 at HM hHeld ⊢
 refine tf (v := .agg cf) 0 rfl (by rw [← HCF.out]; exact yields_load_blk (by rfl) 27 (.tmp 3) rfl w.heap.size rfl 27 (f.map u8v) (fun w' hb => hb.1) 16 5 Tryz.underlying27 (ae_cellsT f HF.out)) ?_
 (try simp only [Act.put, sA, s0, s1])
 refine tf (v := .agg cs) 1 rfl (by rw [← HCS.out]; exact yields_load_blk (by rfl) 27 (.tmp 4) rfl (w.heap.size + 1) rfl 27 (s.map u8v) (fun w' hb => hb.2) 16 5 Tryz.underlying27 (ae_cellsT s HS.out)) ?_
 (try simp only [Act.put, sA, s0, s1])
 refine tf (v := ?_) 2 rfl (Or.inl ⟨by rfl, ?_⟩) ?_
 rotate_left
 · (intro w hSw; (try dsimp only at hSw); go_simp; try with_reducible rfl)
 (try simp only [Act.put, sA, s0, s1])
 refine so 3 rfl fun K hK => ?_
 clear hHeld
 refine step_store_obj rfl 27 (.tmp 8) (.tmp 6) rfl G 109 (f.map u8v) rfl (by show Value.agg cf = _; rw [HCF.out]) 54 m.cells (HM.out.blk (i + 2) HE.out) (ae_cellsT f HF.out) (by rw [List.length_map, HF.out, HML.out]; omega) (u8v_one _) ?_
 intro wy2 hb hg
 replace HM := Lib.hid (show Mem w0 (blkE (w.heap.size + 1) 27 (s.map u8v) :: blkE w.heap.size 27 (f.map u8v) :: E.set i (blkE G 54 (setL m.cells 109 (f.map u8v)))) wy2 from HM.out.put (i + 2) HE.out _ hg hb)
 clear hb hg
 refine hK.out _ _ (⟨HM.out.blk 1 rfl, HM.out.blk 0 rfl⟩) (fun hHeld => ?_)
 clear hK K
 (try simp only [Act.put])
 refine tf (v := ?_) 4 rfl (Or.inl ⟨by rfl, ?_⟩) ?_
 rotate_left
 · (intro w hSw; (try dsimp only at hSw); go_simp; try with_reducible rfl)
 (try simp only [Act.put, sA, s0, s1])
 refine so 5 rfl fun K hK => ?_
 clear hHeld
 refine step_store_obj rfl 27 (.tmp 9) (.tmp 7) rfl G 125 (s.map u8v) rfl (by show Value.agg cs = _; rw [HCS.out]) 54 (setL m.cells 109 (f.map u8v)) (HM.out.blk (i + 2) (mem_set_get HE.out)) (ae_cellsT s HS.out) (by rw [List.length_map, HS.out, setL_len _ _ _ (by rw [List.length_map, HF.out, HML.out]; omega), HML.out]; omega) (u8v_one _) ?_
 intro wy3 hb hg
 rw [HSC.out] at hb
 have hm3 := HM.out.put (i + 2) (mem_set_get HE.out) _ hg hb
 replace HM := Lib.hid (show Mem w0 (blkE (w.heap.size + 1) 27 (s.map u8v) :: blkE w.heap.size 27 (f.map u8v) :: E.set i (blkE G 54 (withC 1 m f s).cells)) wy3 from by
  have h := hm3
  simp only [List.set_cons_succ, mem_set_set] at h
  exact h)
 clear hb hg hm3
 refine hK.out _ _ (⟨HM.out.blk 1 rfl, HM.out.blk 0 rfl⟩) (fun hHeld => ?_)
 clear hK K
 (try simp only [Act.put])
 refine wpAnyH_done (by kernel_rfl) ?_ _
 clear hHeld
 have HG := Lib.hid (HM.out.blk (i + 2) (mem_set_get HE.out))
 go_wp2_with (refine wpList_load_obj rfl 54 (.tmp 2) rfl G 0 rfl (withC 1 m f s).cells HG.out.all _ Tryz.underlying54 rfl HUM.out ?_)
 rw [HCM.out]
 refine (HEN.out _).mono ?_
 rintro e wy4 ⟨A, c, rfl, h1, h2, hr, hb⟩
 have HR := Lib.hid (And.intro h1 (And.intro h2 hr))
 replace HM := Lib.hid ((HM.out.call hb (rdE wy3.heap.size wy4.heap.size A 148 (encB 1 (withC 1 m f s))) rfl rfl hr))
 clear hb h1 h2 hr
 go_wp2_with fail
 go_ret
 exact ⟨A, c, rfl, HR.out.1, HR.out.2.1, widen HM.out rfl rfl rfl⟩
set_option maxRecDepth 100000 in
set_option maxHeartbeats 4000000 in
theorem mcSealI : McSealC 20 1 := by
 intro p ck hp hck has m hok w hlv
 have HP := Lib.hid hp
 have HK := Lib.hid hck
 have HLV := Lib.hid hlv
 have HOK := Lib.hid hok
 obtain ⟨cp, hcp⟩ : ∃ z, (p.map u8v).toArray = z := ⟨_, rfl⟩
 obtain ⟨cc, hcc⟩ : ∃ z, (ck.map u8v).toArray = z := ⟨_, rfl⟩
 obtain ⟨cm, hcm⟩ : ∃ z, m.cells.toArray = z := ⟨_, rfl⟩
 have HSA := Lib.hid (fun W G (E : List Ent) i hei (hm : Mem w E W) => seal_any (F := 40) (k := 1) (T := 54) (.inl rfl) mcEnc1 (enters_of Tryz.func40 (by kernel_rfl) rfl) p ck hp hck has m hok w W E i G hei hlv hm)
 obtain ⟨mt, hmt⟩ : ∃ z, macM p 1 m = z := ⟨_, rfl⟩
 have HML := Lib.hid (show mt.length = 16 from by rw [← hmt]; exact macM_length _ _ _)
 obtain ⟨cmt, hct⟩ : ∃ z, (mt.map u8v).toArray = z := ⟨_, rfl⟩
 rw [hmt, hct, hcp, hcc] at HSA
 rw [hmt, hct, hcp, hcc, hcm]
 have HCT := Lib.hid hct
 have HM := Lib.hid (show Mem w [blkE (w.heap.size + 1 + 1 + 1) 27 ((List.replicate 16 (0 : UInt8)).map u8v), blkE (w.heap.size + 1 + 1) 54 m.cells, blkE (w.heap.size + 1) 27 (ck.map u8v), blkE w.heap.size 23 (p.map u8v)] ((((w.alloc (.cells cp 23)).alloc (.cells cc 27)).alloc (.cells cm 54)).alloc (.cells zb16 27)) from ((((Mem.nil w).alloc rfl 23 cp (p.map u8v) hcp.symm).alloc (by simp) 27 cc (ck.map u8v) hcc.symm).alloc (by simp) 54 cm m.cells hcm.symm).alloc (by simp) 27 zb16 ((List.replicate 16 (0 : UInt8)).map u8v) rfl)
 have HCP := Lib.hid hcp
 have HCC := Lib.hid hcc
 clear hcp hcc hcm hmt hct hp hck hok hlv
 go_enter Tryz.func20, Tryz.ntmps20
 go_upto_region 1 with fail
 generalize ((((w.alloc (.cells cp 23)).alloc (.cells cc 27)).alloc (.cells cm 54)).alloc (.cells zb16 27)) = w1 at HM ⊢
 have hmf : ∀ (fn : Fn) (first cap : Array Value) (w : World), (Instr.makeFunc fn first cap).run Tryz.prog w = .ok (.func fn first cap) w := fun _ _ _ _ => rfl
 go_wp2_with (first | (refine wpList_load_blk rfl 23 (.tmp 4) rfl w.heap.size rfl 23 (p.map u8v) (HM.out.blk 3 rfl) 32 5 Tryz.underlying23 (cells32 p HP.out) ?_) | (refine wpList_load_blk rfl 27 (.tmp 6) rfl (w.heap.size + 1) rfl 27 (ck.map u8v) (HM.out.blk 2 rfl) 16 5 Tryz.underlying27 (ae_cellsT ck HK.out) ?_))
 clear hmf
 rw [HCP.out, HCC.out]
 refine (HSA.out w1 (w.heap.size + 1 + 1) [blkE (w.heap.size + 1 + 1 + 1) 27 ((List.replicate 16 (0 : UInt8)).map u8v), blkE (w.heap.size + 1 + 1) 54 m.cells, blkE (w.heap.size + 1) 27 (ck.map u8v), blkE w.heap.size 23 (p.map u8v)] 1 rfl HM.out).mono ?_
 rintro e w2 ⟨A, c, rfl, h1, h2, m', hm⟩
 have HC := Lib.hid (And.intro h1 h2)
 replace HM := Lib.hid (show Mem w [rdE w1.heap.size w2.heap.size A 148 (encB 1 (sealM p has ck 1 m)), blkE (w.heap.size + 1 + 1 + 1) 27 ((List.replicate 16 (0 : UInt8)).map u8v), blkE (w.heap.size + 1 + 1) 54 m'.cells, blkE (w.heap.size + 1) 27 (ck.map u8v), blkE w.heap.size 23 (p.map u8v)] w2 from hm)
 clear h1 h2 hm HSA
 go_wp2_with (refine wpList_store_blk rfl 27 (.tmp 9) (.tmp 16) rfl (w.heap.size + 1 + 1 + 1) (mt.map u8v) rfl (by show Value.agg cmt = _; rw [HCT.out]) 27 ((List.replicate 16 (0 : UInt8)).map u8v) (HM.out.blk 1 rfl) (ae_cellsT mt HML.out) (by rw [List.length_map, List.length_map, HML.out]; rfl) (u8v_one _) ?_; intro w9 hb hg)
 replace HM := Lib.hid (HM.out.put 1 rfl _ hg hb)
 exact bodyPost_ret (results_tmp_obj rfl _ _ (w.heap.size + 1 + 1 + 1) 27 (mt.map u8v) _ rfl (HM.out.blk 1 rfl) Tryz.underlying27 rfl (ae_cellsT mt HML.out)) rfl ⟨A, c, by rw [HCT.out]; rfl, HC.out.1, HC.out.2, Mem.rdIn0 HM.out (by omega), HM.out.bel⟩
set_option maxRecDepth 100000 in
theorem hasCodes_any (A : Option Addr) (n c : Nat) (l : List UInt8) (hnc : n ≤ c) (hcm : c ≤ maxLen) (hn : n ≤ 100000) (w : World) (hr : Rd w w.heap.size A n l) :
 Calls Tryz.prog 42 #[.slice A n c] w fun e w' => e = .returned (.bool (codedB l)) ∧ Below w.heap.size w w' := by
 have HK := Lib.hid (msKindC A n c l hnc hcm hn)
 have HR := Lib.hid hr
 have HCB := Lib.hid (show codedB l = (kindB l == 1 || kindB l == 2) from rfl)
 generalize kindB l = k at HK HCB
 clear hr
 go_enter Tryz.func42, Tryz.ntmps42
 go_wp2_with fail
 refine (HK.out _ HR.out).mono ?_
 rintro e w1 ⟨rfl, hb⟩
 have HB := Lib.hid hb
 clear hb
 by_cases h1 : k = 1
 ·
  subst h1
  go_wp2
  go_ret
  exact ⟨by rw [HCB.out]; rfl, HB.out⟩
 ·
  have e1 : ((k : Int) == 1) = false := by rw [beq_eq_false_iff_ne]; omega
  have hk : codedB l = ((k : Int) == 2) := by
   rw [HCB.out, show (k == 1) = false from by simpa using h1, Bool.false_or]
   by_cases h2 : k = 2
   · subst h2; rfl
   · rw [show (k == 2) = false from by simpa using h2, show ((k : Int) == 2) = false from by rw [beq_eq_false_iff_ne]; omega]
  have h1' : ¬ ((k : Int) = 1) := by omega
  clear h1
  go_wp2
  go_ret
  exact ⟨by rw [hk]; rfl, HB.out⟩
theorem or_zero (a b : Nat) : a ||| b = 0 ↔ a = 0 ∧ b = 0 := Nat.or_eq_zero_iff
theorem xor_zero (a b : Nat) : a ^^^ b = 0 ↔ a = b := by
 constructor
 ·
  intro h
  apply Nat.eq_of_testBit_eq
  intro i
  have := congrArg (fun x => x.testBit i) h
  simp only [Nat.testBit_xor, Nat.zero_testBit] at this
  simpa using this
 ·
  rintro rfl
  simp
/-- one round of Equal -/
theorem equal_step (d : Nat) (a b : UInt8) (hd : d < 256) : ∃ d' : Nat, d' < 256 ∧ bits BinOp.or IntKind.u8 (d : Int) (bits BinOp.xor IntKind.u8 (a.toNat : Int) (b.toNat : Int)) = (d' : Int) ∧ (d' = 0 ↔ d = 0 ∧ a = b) := by
 have h1 := a.toNat_lt
 have h2 := b.toNat_lt
 have hx : a.toNat ^^^ b.toNat < 2 ^ 8 := Nat.xor_lt_two_pow h1 h2
 refine ⟨d ||| (a.toNat ^^^ b.toNat), Nat.or_lt_two_pow hd hx, ?_, ?_⟩
 · rw [u8_xor_nat _ _ (by omega) (by omega), u8_or_nat _ _ (by omega) (by omega)]
 · rw [or_zero, xor_zero, UInt8.toNat_inj]
theorem take_eq_step (la lb : List UInt8) (j : Nat) (ha : j < la.length) (hb : j < lb.length) : la.take (j + 1) = lb.take (j + 1) ↔ la.take j = lb.take j ∧ la[j] = lb[j] := by
 rw [List.take_succ_eq_append_getElem ha, List.take_succ_eq_append_getElem hb]
 constructor
 ·
  intro h
  have h2 := List.append_inj h (by simp; omega)
  exact ⟨h2.1, by simpa using h2.2⟩
 ·
  rintro ⟨h1, h2⟩
  rw [h1, h2]
set_option maxRecDepth 100000 in
theorem equal_any (B n n' c c' : Nat) (A A' : Option Addr) (la lb : List UInt8) (hn : n ≤ 1000000) (hn' : n' ≤ 1000000) (w : World) (hB : B ≤ w.heap.size) (ha : Rd w B A n la) (hb : Rd w B A' n' lb) :
 Calls Tryz.prog 45 #[.slice A n c, .slice A' n' c'] w fun e w' => e = .returned (.bool (la == lb)) ∧ Below w.heap.size w w' := by
 have hla : la.length = n := ha.1
 have hlb : lb.length = n' := hb.1
 have HA := Lib.hid ha
 have HB := Lib.hid hb
 have HLA := Lib.hid hla
 have HLB := Lib.hid hlb
 clear ha hb hla hlb
 by_cases hne : n = n'
 ·
  subst hne
  go_enter Tryz.func45, Tryz.ntmps45
  go_wp2
  go_loopw [5, 14, 6] (fun d i _ wr => ∃ j dn : Nat, j ≤ n ∧ i = .int .i64 j ∧ dn < 256 ∧ d = .int .u8 dn ∧ (dn = 0 ↔ la.take j = lb.take j) ∧ Below w.heap.size w wr) (fun _ i _ _ => n - (intOf i).toNat)
  case atStart => exact ⟨0, 0, by omega, rfl, by omega, rfl, by simp, Below.refl _ _⟩
  case round =>
   obtain ⟨j, dn, hj, rfl, hd, rfl, hiff, hbl⟩ := hrel
   by_cases hlt : j < n
   ·
    obtain ⟨b1, o1, rfl, hb1, hc1⟩ := HA.out.at_ (by omega)
    obtain ⟨b2, o2, rfl, hb2, hc2⟩ := HB.out.at_ (by omega)
    have hja : j < la.length := by have := HLA.out; omega
    have hjb : j < lb.length := by have := HLB.out; omega
    have q1 := (hbl.cell (p := ⟨b1, o1 + j, none⟩) (Nat.lt_of_lt_of_le hb1 hB)).trans (hc1 j hja)
    have q2 := (hbl.cell (p := ⟨b2, o2 + j, none⟩) (Nat.lt_of_lt_of_le hb2 hB)).trans (hc2 j hjb)
    clear hc1 hc2
    obtain ⟨d', hd', hbits, hz⟩ := equal_step dn la[j] lb[j] hd
    have HI := Lib.hid hiff
    have HZ := Lib.hid hz
    clear hiff hz
    go_wp2
    go_quiet (fail)
    go_wp2
    go_roundw
    case rel => exact ⟨j + 1, d', by omega, by go_num, hd', rfl, by rw [take_eq_step _ _ _ hja hjb, HZ.out, HI.out], below_drewN hbl _⟩
    case measure => simp [intOf]; omega
   ·
    obtain rfl : j = n := by omega
    rw [List.take_of_length_le (by have := HLA.out; omega), List.take_of_length_le (by have := HLB.out; omega)] at hiff
    have hfin : ((dn : Int) == 0) = (la == lb) := by
     rw [Bool.eq_iff_iff, beq_iff_eq, beq_iff_eq, ← hiff]
     omega
    have HF := Lib.hid hfin
    clear hfin hiff
    go_wp2
    go_ret
    exact ⟨by rw [← HF.out]; rfl, hbl⟩
 ·
  have hfin : (la == lb) = false := by
   rw [beq_eq_false_iff_ne]
   intro h
   have := HLA.out
   have := HLB.out
   rw [h] at *
   omega
  rw [hfin]
  have hne' : ((n : Int) == (n' : Int)) = false := by
   rw [beq_eq_false_iff_ne]; omega
  clear hfin
  go_enter Tryz.func45, Tryz.ntmps45
  go_wp2
  go_ret
  exact ⟨rfl, Below.refl _ _⟩
set_option maxRecDepth 100000 in
set_option maxHeartbeats 8000000 in
theorem mcCheck1C : McCheck1C 21 := by
 intro p hp A n c l hnc hcm hn w hlv hr
 have HR := Lib.hid hr
 have HP := Lib.hid hp
 have HLV := Lib.hid hlv
 have HNN := Lib.hid (And.intro hnc (And.intro hcm hn))
 have HCD := Lib.hid (hasCodes_any A n c l hnc hcm hn)
 have HV := Lib.hid (show check1B p l = (codedB l && mac1B p (l.take (l.length - 32)) == (l.drop (l.length - 32)).take 16) from rfl)
 obtain ⟨cp, hcp⟩ : ∃ z, (p.map u8v).toArray = z := ⟨_, rfl⟩
 rw [hcp]
 have HCP := Lib.hid hcp
 have HM := Lib.hid (show Mem w [blkE w.heap.size 23 (p.map u8v)] (w.alloc (.cells cp 23)) from (Mem.nil w).alloc rfl 23 cp (p.map u8v) hcp.symm)
 clear hcp hr hp hlv
 have hcl := fun h : codedB l = true => codedB_len h
 have hln := HR.out.1
 generalize hcd : codedB l = cd at HCD HV hcl
 go_enter Tryz.func21, Tryz.ntmps21
 go_upto_region 1 with fail
 generalize (w.alloc (.cells cp 23)) = w1 at HM ⊢
 go_wp2_with fail
 refine (HCD.out w1 (HM.out.arg HR.out)).mono ?_
 rintro e w2 ⟨rfl, hb⟩
 replace HM := Lib.hid (show Mem w [blkE w.heap.size 23 (p.map u8v)] w2 from HM.out.below hb)
 clear hb HCD
 cases cd
 ·
  go_wp2
  go_ret
  exact ⟨by rw [HV.out]; rfl, HM.out.bel⟩
 ·
  replace hcl := hcl rfl
  rw [hln] at hcl
  obtain ⟨m, hm⟩ : ∃ m, n - 32 = m := ⟨_, rfl⟩
  obtain ⟨k, hk⟩ : ∃ k, n - 16 = k := ⟨_, rfl⟩
  obtain ⟨gb, go, rfl, -, -⟩ := HR.out.at_ (by omega)
  have hpl := codePlaces_any (some ⟨gb, go, none⟩) n c hn
  rw [show (n : Int) - 32 = ((m : Nat) : Int) from by omega, show (n : Int) - 16 = ((k : Nat) : Int) from by omega] at hpl
  have HPL := Lib.hid hpl
  have HSL := Lib.hid (slice_lh (some ⟨gb, go, none⟩) n c m k (by omega) (by omega) hnc)
  rw [addrOf_lt gb go m c (by omega), show k - m = 16 from by omega] at HSL
  have HSH := Lib.hid (slice_h (some ⟨gb, go, none⟩) ⟨gb, go, rfl⟩ n c m (by omega))
  have HRT := Lib.hid (HR.out.take (m := m) (by omega))
  have hrd := HR.out.drop m gb go rfl (by omega)
  have HRD := Lib.hid (hrd.take (m := 16) (by omega))
  have HMC := Lib.hid (fun W hl (h : Rd W W.heap.size (some ⟨gb, go, none⟩) m (l.take m)) => mcMac1C p HP.out (some ⟨gb, go, none⟩) m c (l.take m) (by omega) hcm (by omega) W hl h)
  replace HV := Lib.hid (show check1B p l = ((l.drop m).take 16 == mac1B p (l.take m)) from by rw [HV.out, Bool.true_and, hln, hm, BEq.comm])
  obtain ⟨mt, hmt⟩ : ∃ z, mac1B p (l.take m) = z := ⟨_, rfl⟩
  have HML := Lib.hid (show mt.length = 16 from by rw [← hmt]; exact mac1B_length _ _)
  rw [hmt] at HMC HV
  obtain ⟨cm, hcm⟩ : ∃ z, (mt.map u8v).toArray = z := ⟨_, rfl⟩
  rw [hcm, HCP.out] at HMC
  have HCM := Lib.hid hcm
  have HEQ := Lib.hid (fun W A' (ha : Rd W W.heap.size (some ⟨gb, go + m, none⟩) 16 ((l.drop m).take 16)) (hb : Rd W W.heap.size A' 16 mt) => equal_any W.heap.size 16 16 (c - m) 16 (some ⟨gb, go + m, none⟩) A' ((l.drop m).take 16) mt (by omega) (by omega) W (Nat.le_refl _) ha hb)
  clear hmt hcm hpl hrd
  go_wp2_with fail
  refine (HPL.out _).mono ?_
  rintro e w3 ⟨rfl, hb⟩
  replace HM := Lib.hid (show Mem w [blkE w.heap.size 23 (p.map u8v)] w3 from HM.out.below hb)
  clear hb HPL
  go_upto_region 4 with fail
  refine wp_region_held_drew (S := fun W' => Mem w [blkE w.heap.size 23 (p.map u8v)] W') (by kernel_rfl) ((HM.out).drew) (fun hHeld => ?_)
  replace HM := Lib.hid HM.out.drew
  generalize w3.drew = wd1 at HM hHeld ⊢
  refine tf (v := .agg cp) 0 rfl (by rw [← HCP.out]; exact yields_load_blk (by rfl) 23 (.tmp 2) rfl w.heap.size rfl 23 (p.map u8v) (fun w' hb => Mem.blk hb 0 rfl) 32 5 Tryz.underlying23 (cells32 p HP.out)) ?_
  (try simp only [Act.put, sA, s0, s1])
  refine tf (v := ?_) 1 rfl (Or.inl ⟨by rfl, ?_⟩) ?_
  rotate_left
  · (intro w hSw; (try dsimp only at hSw); go_simp; try with_reducible rfl)
  (try simp only [Act.put, sA, s0, s1])
  refine tf (v := ?_) 2 rfl (Or.inl ⟨by rfl, ?_⟩) ?_
  rotate_left
  · (intro w hSw; (try dsimp only at hSw); go_simp; try with_reducible rfl)
  (try simp only [Act.put, sA, s0, s1])
  refine tf (v := ?_) 3 rfl (Or.inl ⟨by rfl, ?_⟩) ?_
  rotate_left
  · (intro w hSw; (try dsimp only at hSw); have hs := HSH.out w; go_simp; try with_reducible rfl)
  (try simp only [Act.put, sA, s0, s1])
  refine step_two 4 5 rfl rfl (by kernel_rfl) (fun K hK => ?_) (fun K hK => ?_)
  ·
   clear hHeld
   go_simp
   refine (HMC.out _ (HLV.out.below HM.out.bel) (HM.out.arg HRT.out)).mono ?_
   rintro e wy2 ⟨rfl, hb⟩
   replace HM := Lib.hid (show Mem w [blkE w.heap.size 23 (p.map u8v)] wy2 from HM.out.below hb)
   clear hb
   go_wp2_with fail
   refine hK.out _ _ (HM.out) (fun hHeld => ?_)
   clear hK K
   (try simp only [Act.put, sA, s0, s1])
   refine so 5 rfl fun K hK => ?_
   clear hHeld
   go_simp
   replace HM := Lib.hid (show Mem w [blkE wy2.heap.size 27 ((List.replicate 16 (0 : UInt8)).map u8v), blkE w.heap.size 23 (p.map u8v)] (wy2.alloc (.cells zb16 27)) from HM.out.alloc rfl 27 zb16 ((List.replicate 16 (0 : UInt8)).map u8v) rfl)
   generalize wy2.alloc (.cells zb16 27) = wy3 at HM ⊢
   generalize wy2.heap.size = GM at HM ⊢
   refine hK.out _ _ ((HM.out.erase 0)) (fun hHeld => ?_)
   clear hK K
   (try simp only [Act.put, sA, s0, s1])
   refine so 6 rfl fun K hK => ?_
   clear hHeld
   refine step_store_blk _ rfl 27 (.tmp 7) (.tmp 20) rfl GM (mt.map u8v) rfl (by show Value.agg cm = _; rw [HCM.out]) 27 ((List.replicate 16 (0 : UInt8)).map u8v) (HM.out.blk 0 rfl) (ae_cellsT mt HML.out) (by rw [List.length_map, List.length_map, HML.out]; rfl) (by intro v hv; obtain ⟨_, _, rfl⟩ := List.mem_map.1 hv; rfl) ?_
   intro wy4 hb hg
   replace HM := Lib.hid (show Mem w [blkE GM 27 (mt.map u8v), blkE w.heap.size 23 (p.map u8v)] wy4 from HM.out.put 0 rfl _ hg hb)
   clear hb hg
   refine hK.out _ _ ((HM.out.erase 0)) (fun hHeld => ?_)
   clear hK K
   (try simp only [Act.put])
   refine wpAnyH_done (by kernel_rfl) ?_ _
   clear hHeld
   generalize hwq : wy4 = w5 at HM ⊢
   clear hwq
   go_upto_region 5 with fail
   refine wp_region_held_drew (S := fun W' => Mem w [blkE GM 27 (mt.map u8v), blkE w.heap.size 23 (p.map u8v)] W') (by kernel_rfl) ((HM.out).drew) (fun hHeld => ?_)
   replace HM := Lib.hid HM.out.drew
   generalize w5.drew = wd1 at HM hHeld ⊢
   refine tf (v := ?_) 0 rfl (Or.inl ⟨by rfl, ?_⟩) ?_
   rotate_left
   · (intro w hSw; (try dsimp only at hSw); go_simp; try with_reducible rfl)
   (try simp only [Act.put, sA, s0, s1])
   refine tf (v := ?_) 1 rfl (Or.inl ⟨by rfl, ?_⟩) ?_
   rotate_left
   · (intro w hSw; (try dsimp only at hSw); go_simp; try with_reducible rfl)
   (try simp only [Act.put, sA, s0, s1])
   refine tf (v := ?_) 2 rfl (Or.inl ⟨by rfl, ?_⟩) ?_
   rotate_left
   · (intro w hSw; (try dsimp only at hSw); go_simp; try with_reducible rfl)
   (try simp only [Act.put, sA, s0, s1])
   refine tf (v := ?_) 3 rfl (Or.inl ⟨by rfl, ?_⟩) ?_
   rotate_left
   · (intro w hSw; (try dsimp only at hSw); have hs := HSL.out w; go_simp; try with_reducible rfl)
   (try simp only [Act.put, sA, s0, s1])
   refine tf (v := ?_) 4 rfl (Or.inl ⟨by rfl, ?_⟩) ?_
   rotate_left
   · (intro w hSw; (try dsimp only at hSw); go_simp; try with_reducible rfl)
   (try simp only [Act.put, sA, s0, s1])
   refine so 5 rfl fun K hK => ?_
   clear hHeld
   go_simp
   refine (HEQ.out _ (some ⟨GM, 0, none⟩) (HM.out.arg HRD.out) (blk_all (HM.out.blk 0 rfl) HML.out)).mono ?_
   rintro e wy2 ⟨rfl, hb⟩
   replace HM := Lib.hid (show Mem w [blkE GM 27 (mt.map u8v), blkE w.heap.size 23 (p.map u8v)] wy2 from HM.out.below hb)
   clear hb
   go_wp2_with fail
   refine hK.out _ _ (HM.out) (fun hHeld => ?_)
   clear hK K
   (try simp only [Act.put, sA, s0, s1])
   refine tf (v := ?_) 6 rfl (Or.inl ⟨by rfl, ?_⟩) ?_
   rotate_left
   · (intro w hSw; (try dsimp only at hSw); go_simp; try with_reducible rfl)
   (try simp only [Act.put, sA, s0, s1])
   refine wpAnyH_done (by kernel_rfl) ?_ _
   clear hHeld
   go_wp2
   go_ret
   exact ⟨by rw [HV.out]; rfl, HM.out.bel⟩
  ·
   clear hHeld
   go_simp
   replace HM := Lib.hid (show Mem w [blkE wd1.heap.size 27 ((List.replicate 16 (0 : UInt8)).map u8v), blkE w.heap.size 23 (p.map u8v)] (wd1.alloc (.cells zb16 27)) from HM.out.alloc rfl 27 zb16 ((List.replicate 16 (0 : UInt8)).map u8v) rfl)
   generalize wd1.alloc (.cells zb16 27) = wy2 at HM ⊢
   generalize wd1.heap.size = GM at HM ⊢
   refine hK.out _ _ ((HM.out.erase 0)) (fun hHeld => ?_)
   clear hK K
   (try simp only [Act.put, sA, s0, s1])
   refine so 4 rfl fun K hK => ?_
   clear hHeld
   go_simp
   refine (HMC.out _ (HLV.out.below HM.out.bel) (HM.out.arg HRT.out)).mono ?_
   rintro e wy3 ⟨rfl, hb⟩
   replace HM := Lib.hid (show Mem w [blkE GM 27 ((List.replicate 16 (0 : UInt8)).map u8v), blkE w.heap.size 23 (p.map u8v)] wy3 from HM.out.below hb)
   clear hb
   go_wp2_with fail
   refine hK.out _ _ ((HM.out.erase 0)) (fun hHeld => ?_)
   clear hK K
   (try simp only [Act.put, sA, s0, s1])
   refine so 6 rfl fun K hK => ?_
   clear hHeld
   refine step_store_blk _ rfl 27 (.tmp 7) (.tmp 20) rfl GM (mt.map u8v) rfl (by show Value.agg cm = _; rw [HCM.out]) 27 ((List.replicate 16 (0 : UInt8)).map u8v) (HM.out.blk 0 rfl) (ae_cellsT mt HML.out) (by rw [List.length_map, List.length_map, HML.out]; rfl) (by intro v hv; obtain ⟨_, _, rfl⟩ := List.mem_map.1 hv; rfl) ?_
   intro wy4 hb hg
   replace HM := Lib.hid (show Mem w [blkE GM 27 (mt.map u8v), blkE w.heap.size 23 (p.map u8v)] wy4 from HM.out.put 0 rfl _ hg hb)
   clear hb hg
   refine hK.out _ _ ((HM.out.erase 0)) (fun hHeld => ?_)
   clear hK K
   (try simp only [Act.put])
   refine wpAnyH_done (by kernel_rfl) ?_ _
   clear hHeld
   generalize hwq : wy4 = w5 at HM ⊢
   clear hwq
   go_upto_region 5 with fail
   refine wp_region_held_drew (S := fun W' => Mem w [blkE GM 27 (mt.map u8v), blkE w.heap.size 23 (p.map u8v)] W') (by kernel_rfl) ((HM.out).drew) (fun hHeld => ?_)
   replace HM := Lib.hid HM.out.drew
   generalize w5.drew = wd1 at HM hHeld ⊢
   refine tf (v := ?_) 0 rfl (Or.inl ⟨by rfl, ?_⟩) ?_
   rotate_left
   · (intro w hSw; (try dsimp only at hSw); go_simp; try with_reducible rfl)
   (try simp only [Act.put, sA, s0, s1])
   refine tf (v := ?_) 1 rfl (Or.inl ⟨by rfl, ?_⟩) ?_
   rotate_left
   · (intro w hSw; (try dsimp only at hSw); go_simp; try with_reducible rfl)
   (try simp only [Act.put, sA, s0, s1])
   refine tf (v := ?_) 2 rfl (Or.inl ⟨by rfl, ?_⟩) ?_
   rotate_left
   · (intro w hSw; (try dsimp only at hSw); go_simp; try with_reducible rfl)
   (try simp only [Act.put, sA, s0, s1])
   refine tf (v := ?_) 3 rfl (Or.inl ⟨by rfl, ?_⟩) ?_
   rotate_left
   · (intro w hSw; (try dsimp only at hSw); have hs := HSL.out w; go_simp; try with_reducible rfl)
   (try simp only [Act.put, sA, s0, s1])
   refine tf (v := ?_) 4 rfl (Or.inl ⟨by rfl, ?_⟩) ?_
   rotate_left
   · (intro w hSw; (try dsimp only at hSw); go_simp; try with_reducible rfl)
   (try simp only [Act.put, sA, s0, s1])
   refine so 5 rfl fun K hK => ?_
   clear hHeld
   go_simp
   refine (HEQ.out _ (some ⟨GM, 0, none⟩) (HM.out.arg HRD.out) (blk_all (HM.out.blk 0 rfl) HML.out)).mono ?_
   rintro e wy2 ⟨rfl, hb⟩
   replace HM := Lib.hid (show Mem w [blkE GM 27 (mt.map u8v), blkE w.heap.size 23 (p.map u8v)] wy2 from HM.out.below hb)
   clear hb
   go_wp2_with fail
   refine hK.out _ _ (HM.out) (fun hHeld => ?_)
   clear hK K
   (try simp only [Act.put, sA, s0, s1])
   refine tf (v := ?_) 6 rfl (Or.inl ⟨by rfl, ?_⟩) ?_
   rotate_left
   · (intro w hSw; (try dsimp only at hSw); go_simp; try with_reducible rfl)
   (try simp only [Act.put, sA, s0, s1])
   refine wpAnyH_done (by kernel_rfl) ?_ _
   clear hHeld
   go_wp2
   go_ret
   exact ⟨by rw [HV.out]; rfl, HM.out.bel⟩
end Go.Proofs.YtlddafkikkaonaaGreatDoor
