/-
  What is asked of CheckMac1 holds of the landed function. MacsSeals returns true for every input, by what the landed functions give. No statement is proved here.
-/
import Derived.Test.YtlddafkikkaonaaDoorMacsSealsB12
namespace Go.Proofs.YtlddafkikkaonaaDoor
open Go.RowKit

set_option maxRecDepth 100000 in
set_option maxHeartbeats 8000000 in
theorem mcCheck1C : McCheck1C 17 := by
  intro p hp A n c l hnc hcm hn w hlv hr
  have HR := Lib.hid hr
  have HP := Lib.hid hp
  have HLV := Lib.hid hlv
  have HNN := Lib.hid (And.intro hnc (And.intro hcm hn))
  have HCD := Lib.hid (hasCodes_any A n c l hnc hcm hn)
  have HV := Lib.hid (show check1B p l = (codedB l && mac1B p (l.take (l.length - 32)) == (l.drop (l.length - 32)).take 16) from rfl)
  obtain ⟨cp, hcp⟩ : ∃ z, (p.map u8v).toArray = z := ⟨_, rfl⟩
  rw [hcp]
  have HCP := Lib.hid hcp
  have HM := Lib.hid (show Mem w [blkE w.heap.size 23 (p.map u8v)] (w.alloc (.cells cp 23)) from (Mem.nil w).alloc rfl 23 cp (p.map u8v) hcp.symm)
  clear hcp hr hp hlv
  have hcl := fun h : codedB l = true => codedB_len h
  have hln := HR.out.1
  generalize hcd : codedB l = cd at HCD HV hcl
  go_enter Tryd.func17, Tryd.ntmps17
  go_upto_region 1 with fail
  generalize (w.alloc (.cells cp 23)) = w1 at HM ⊢
  go_wp2_with fail
  refine (HCD.out w1 (HM.out.arg HR.out)).mono ?_
  rintro e w2 ⟨rfl, hb⟩
  replace HM := Lib.hid (show Mem w [blkE w.heap.size 23 (p.map u8v)] w2 from HM.out.below hb)
  clear hb HCD
  cases cd
  · go_wp2
    go_ret
    exact ⟨by rw [HV.out]; rfl, HM.out.bel⟩
  · replace hcl := hcl rfl
    rw [hln] at hcl
    obtain ⟨m, hm⟩ : ∃ m, n - 32 = m := ⟨_, rfl⟩
    obtain ⟨k, hk⟩ : ∃ k, n - 16 = k := ⟨_, rfl⟩
    obtain ⟨gb, go, rfl, -, -⟩ := HR.out.at_ (by omega)
    have hpl := codePlaces_any (some ⟨gb, go, none⟩) n c hn
    rw [show (n : Int) - 32 = ((m : Nat) : Int) from by omega, show (n : Int) - 16 = ((k : Nat) : Int) from by omega] at hpl
    have HPL := Lib.hid hpl
    have HSL := Lib.hid (slice_lh (some ⟨gb, go, none⟩) n c m k (by omega) (by omega) hnc)
    rw [addrOf_lt gb go m c (by omega), show k - m = 16 from by omega] at HSL
    have HSH := Lib.hid (slice_h (some ⟨gb, go, none⟩) ⟨gb, go, rfl⟩ n c m (by omega))
    have HRT := Lib.hid (HR.out.take (m := m) (by omega))
    have hrd := HR.out.drop m gb go rfl (by omega)
    have HRD := Lib.hid (hrd.take (m := 16) (by omega))
    have HMC := Lib.hid (fun W hl (h : Rd W W.heap.size (some ⟨gb, go, none⟩) m (l.take m)) => mcMac1C p HP.out (some ⟨gb, go, none⟩) m c (l.take m) (by omega) hcm (by omega) W hl h)
    replace HV := Lib.hid (show check1B p l = ((l.drop m).take 16 == mac1B p (l.take m)) from by rw [HV.out, Bool.true_and, hln, hm, BEq.comm])
    obtain ⟨mt, hmt⟩ : ∃ z, mac1B p (l.take m) = z := ⟨_, rfl⟩
    have HML := Lib.hid (show mt.length = 16 from by rw [← hmt]; exact mac1B_length _ _)
    rw [hmt] at HMC HV
    obtain ⟨cm, hcm⟩ : ∃ z, (mt.map u8v).toArray = z := ⟨_, rfl⟩
    rw [hcm, HCP.out] at HMC
    have HCM := Lib.hid hcm
    have HEQ := Lib.hid (fun W A' (ha : Rd W W.heap.size (some ⟨gb, go + m, none⟩) 16 ((l.drop m).take 16)) (hb : Rd W W.heap.size A' 16 mt) => equal_any W.heap.size 16 16 (c - m) 16 (some ⟨gb, go + m, none⟩) A' ((l.drop m).take 16) mt (by omega) (by omega) W (Nat.le_refl _) ha hb)
    clear hmt hcm hpl hrd
    go_wp2_with fail
    refine (HPL.out _).mono ?_
    rintro e w3 ⟨rfl, hb⟩
    replace HM := Lib.hid (show Mem w [blkE w.heap.size 23 (p.map u8v)] w3 from HM.out.below hb)
    clear hb HPL
    go_upto_region 4 with fail
    refine wp_region_held_drew (S := fun W' => Mem w [blkE w.heap.size 23 (p.map u8v)] W') (by kernel_rfl) ((HM.out).drew) (fun hHeld => ?_)
    replace HM := Lib.hid HM.out.drew
    generalize w3.drew = wd1 at HM hHeld ⊢
    refine take_first (v := .agg cp) 0 rfl (by kernel_rfl) (by kernel_rfl) (by kernel_rfl) (fun _ _ _ h => h) (by rw [← HCP.out]; exact yields_load_blk (by rfl) 23 (.tmp 2) rfl w.heap.size rfl 23 (p.map u8v) (fun w' hb => Mem.blk hb 0 rfl) 32 5 Tryd.underlying23 (cells32 p HP.out)) (by assumption) ?_
    (try simp only [Act.put, List.setIfInBounds_toArray, List.set_cons_zero, List.set_cons_succ])
    refine take_first (v := ?_) 1 rfl (by kernel_rfl) (by kernel_rfl) (by kernel_rfl) (fun _ _ _ h => h) (Or.inl ⟨by rfl, ?_⟩) (by assumption) ?_
    rotate_left
    · (intro w hSw; (try dsimp only at hSw); go_simp; try with_reducible rfl)
    (try simp only [Act.put, List.setIfInBounds_toArray, List.set_cons_zero, List.set_cons_succ])
    refine take_first (v := ?_) 2 rfl (by kernel_rfl) (by kernel_rfl) (by kernel_rfl) (fun _ _ _ h => h) (Or.inl ⟨by rfl, ?_⟩) (by assumption) ?_
    rotate_left
    · (intro w hSw; (try dsimp only at hSw); go_simp; try with_reducible rfl)
    (try simp only [Act.put, List.setIfInBounds_toArray, List.set_cons_zero, List.set_cons_succ])
    refine take_first (v := ?_) 3 rfl (by kernel_rfl) (by kernel_rfl) (by kernel_rfl) (fun _ _ _ h => h) (Or.inl ⟨by rfl, ?_⟩) (by assumption) ?_
    rotate_left
    · (intro w hSw; (try dsimp only at hSw); have hs := HSH.out w; go_simp; try with_reducible rfl)
    (try simp only [Act.put, List.setIfInBounds_toArray, List.set_cons_zero, List.set_cons_succ])
    refine step_two 4 5 rfl rfl (by kernel_rfl) (fun K hK => ?_) (fun K hK => ?_)
    · clear hHeld
      go_simp
      refine (HMC.out _ (HLV.out.below HM.out.bel) (HM.out.arg HRT.out)).mono ?_
      rintro e wy2 ⟨rfl, hb⟩
      replace HM := Lib.hid (show Mem w [blkE w.heap.size 23 (p.map u8v)] wy2 from HM.out.below hb)
      clear hb
      go_wp2_with fail
      refine hK.out _ _ (HM.out) (fun hHeld => ?_)
      clear hK K
      (try simp only [Act.put, List.setIfInBounds_toArray, List.set_cons_zero, List.set_cons_succ])
      refine step_one 5 rfl (by kernel_rfl) (fun K hK => ?_)
      clear hHeld
      go_simp
      replace HM := Lib.hid (show Mem w [blkE wy2.heap.size 30 ((List.replicate 16 (0 : UInt8)).map u8v), blkE w.heap.size 23 (p.map u8v)] (wy2.alloc (.cells #[.int .u8 0, .int .u8 0, .int .u8 0, .int .u8 0, .int .u8 0, .int .u8 0, .int .u8 0, .int .u8 0, .int .u8 0, .int .u8 0, .int .u8 0, .int .u8 0, .int .u8 0, .int .u8 0, .int .u8 0, .int .u8 0] 30)) from HM.out.alloc rfl 30 #[.int .u8 0, .int .u8 0, .int .u8 0, .int .u8 0, .int .u8 0, .int .u8 0, .int .u8 0, .int .u8 0, .int .u8 0, .int .u8 0, .int .u8 0, .int .u8 0, .int .u8 0, .int .u8 0, .int .u8 0, .int .u8 0] ((List.replicate 16 (0 : UInt8)).map u8v) rfl)
      generalize wy2.alloc (.cells #[.int .u8 0, .int .u8 0, .int .u8 0, .int .u8 0, .int .u8 0, .int .u8 0, .int .u8 0, .int .u8 0, .int .u8 0, .int .u8 0, .int .u8 0, .int .u8 0, .int .u8 0, .int .u8 0, .int .u8 0, .int .u8 0] 30) = wy3 at HM ⊢
      generalize wy2.heap.size = GM at HM ⊢
      refine hK.out _ _ ((HM.out.erase 0)) (fun hHeld => ?_)
      clear hK K
      (try simp only [Act.put, List.setIfInBounds_toArray, List.set_cons_zero, List.set_cons_succ])
      refine step_one 6 rfl (by kernel_rfl) (fun K hK => ?_)
      clear hHeld
      refine step_store_blk _ rfl 30 (.tmp 7) (.tmp 20) rfl GM (mt.map u8v) rfl (by show Value.agg cm = _; rw [HCM.out]) 30 ((List.replicate 16 (0 : UInt8)).map u8v) (HM.out.blk 0 rfl) (ae_cellsT mt HML.out) (by rw [List.length_map, List.length_map, HML.out]; rfl) (by intro v hv; obtain ⟨_, _, rfl⟩ := List.mem_map.1 hv; rfl) ?_
      intro wy4 hb hg
      replace HM := Lib.hid (show Mem w [blkE GM 30 (mt.map u8v), blkE w.heap.size 23 (p.map u8v)] wy4 from HM.out.put 0 rfl _ hg hb)
      clear hb hg
      refine hK.out _ _ ((HM.out.erase 0)) (fun hHeld => ?_)
      clear hK K
      (try simp only [Act.put])
      refine wpAnyH_done (by kernel_rfl) ?_ _
      clear hHeld
      generalize hwq : wy4 = w5 at HM ⊢
      clear hwq
      go_upto_region 5 with fail
      refine wp_region_held_drew (S := fun W' => Mem w [blkE GM 30 (mt.map u8v), blkE w.heap.size 23 (p.map u8v)] W') (by kernel_rfl) ((HM.out).drew) (fun hHeld => ?_)
      replace HM := Lib.hid HM.out.drew
      generalize w5.drew = wd1 at HM hHeld ⊢
      refine take_first (v := ?_) 0 rfl (by kernel_rfl) (by kernel_rfl) (by kernel_rfl) (fun _ _ _ h => h) (Or.inl ⟨by rfl, ?_⟩) (by assumption) ?_
      rotate_left
      · (intro w hSw; (try dsimp only at hSw); go_simp; try with_reducible rfl)
      (try simp only [Act.put, List.setIfInBounds_toArray, List.set_cons_zero, List.set_cons_succ])
      refine take_first (v := ?_) 1 rfl (by kernel_rfl) (by kernel_rfl) (by kernel_rfl) (fun _ _ _ h => h) (Or.inl ⟨by rfl, ?_⟩) (by assumption) ?_
      rotate_left
      · (intro w hSw; (try dsimp only at hSw); go_simp; try with_reducible rfl)
      (try simp only [Act.put, List.setIfInBounds_toArray, List.set_cons_zero, List.set_cons_succ])
      refine take_first (v := ?_) 2 rfl (by kernel_rfl) (by kernel_rfl) (by kernel_rfl) (fun _ _ _ h => h) (Or.inl ⟨by rfl, ?_⟩) (by assumption) ?_
      rotate_left
      · (intro w hSw; (try dsimp only at hSw); go_simp; try with_reducible rfl)
      (try simp only [Act.put, List.setIfInBounds_toArray, List.set_cons_zero, List.set_cons_succ])
      refine take_first (v := ?_) 3 rfl (by kernel_rfl) (by kernel_rfl) (by kernel_rfl) (fun _ _ _ h => h) (Or.inl ⟨by rfl, ?_⟩) (by assumption) ?_
      rotate_left
      · (intro w hSw; (try dsimp only at hSw); have hs := HSL.out w; go_simp; try with_reducible rfl)
      (try simp only [Act.put, List.setIfInBounds_toArray, List.set_cons_zero, List.set_cons_succ])
      refine take_first (v := ?_) 4 rfl (by kernel_rfl) (by kernel_rfl) (by kernel_rfl) (fun _ _ _ h => h) (Or.inl ⟨by rfl, ?_⟩) (by assumption) ?_
      rotate_left
      · (intro w hSw; (try dsimp only at hSw); go_simp; try with_reducible rfl)
      (try simp only [Act.put, List.setIfInBounds_toArray, List.set_cons_zero, List.set_cons_succ])
      refine step_one 5 rfl (by kernel_rfl) (fun K hK => ?_)
      clear hHeld
      go_simp
      refine (HEQ.out _ (some ⟨GM, 0, none⟩) (HM.out.arg HRD.out) (blk_all (HM.out.blk 0 rfl) HML.out)).mono ?_
      rintro e wy2 ⟨rfl, hb⟩
      replace HM := Lib.hid (show Mem w [blkE GM 30 (mt.map u8v), blkE w.heap.size 23 (p.map u8v)] wy2 from HM.out.below hb)
      clear hb
      go_wp2_with fail
      refine hK.out _ _ (HM.out) (fun hHeld => ?_)
      clear hK K
      (try simp only [Act.put, List.setIfInBounds_toArray, List.set_cons_zero, List.set_cons_succ])
      refine take_first (v := ?_) 6 rfl (by kernel_rfl) (by kernel_rfl) (by kernel_rfl) (fun _ _ _ h => h) (Or.inl ⟨by rfl, ?_⟩) (by assumption) ?_
      rotate_left
      · (intro w hSw; (try dsimp only at hSw); go_simp; try with_reducible rfl)
      (try simp only [Act.put, List.setIfInBounds_toArray, List.set_cons_zero, List.set_cons_succ])
      refine wpAnyH_done (by kernel_rfl) ?_ _
      clear hHeld
      go_wp2
      go_ret
      exact ⟨by rw [HV.out]; rfl, HM.out.bel⟩
    · clear hHeld
      go_simp
      replace HM := Lib.hid (show Mem w [blkE wd1.heap.size 30 ((List.replicate 16 (0 : UInt8)).map u8v), blkE w.heap.size 23 (p.map u8v)] (wd1.alloc (.cells #[.int .u8 0, .int .u8 0, .int .u8 0, .int .u8 0, .int .u8 0, .int .u8 0, .int .u8 0, .int .u8 0, .int .u8 0, .int .u8 0, .int .u8 0, .int .u8 0, .int .u8 0, .int .u8 0, .int .u8 0, .int .u8 0] 30)) from HM.out.alloc rfl 30 #[.int .u8 0, .int .u8 0, .int .u8 0, .int .u8 0, .int .u8 0, .int .u8 0, .int .u8 0, .int .u8 0, .int .u8 0, .int .u8 0, .int .u8 0, .int .u8 0, .int .u8 0, .int .u8 0, .int .u8 0, .int .u8 0] ((List.replicate 16 (0 : UInt8)).map u8v) rfl)
      generalize wd1.alloc (.cells #[.int .u8 0, .int .u8 0, .int .u8 0, .int .u8 0, .int .u8 0, .int .u8 0, .int .u8 0, .int .u8 0, .int .u8 0, .int .u8 0, .int .u8 0, .int .u8 0, .int .u8 0, .int .u8 0, .int .u8 0, .int .u8 0] 30) = wy2 at HM ⊢
      generalize wd1.heap.size = GM at HM ⊢
      refine hK.out _ _ ((HM.out.erase 0)) (fun hHeld => ?_)
      clear hK K
      (try simp only [Act.put, List.setIfInBounds_toArray, List.set_cons_zero, List.set_cons_succ])
      refine step_one 4 rfl (by kernel_rfl) (fun K hK => ?_)
      clear hHeld
      go_simp
      refine (HMC.out _ (HLV.out.below HM.out.bel) (HM.out.arg HRT.out)).mono ?_
      rintro e wy3 ⟨rfl, hb⟩
      replace HM := Lib.hid (show Mem w [blkE GM 30 ((List.replicate 16 (0 : UInt8)).map u8v), blkE w.heap.size 23 (p.map u8v)] wy3 from HM.out.below hb)
      clear hb
      go_wp2_with fail
      refine hK.out _ _ ((HM.out.erase 0)) (fun hHeld => ?_)
      clear hK K
      (try simp only [Act.put, List.setIfInBounds_toArray, List.set_cons_zero, List.set_cons_succ])
      refine step_one 6 rfl (by kernel_rfl) (fun K hK => ?_)
      clear hHeld
      refine step_store_blk _ rfl 30 (.tmp 7) (.tmp 20) rfl GM (mt.map u8v) rfl (by show Value.agg cm = _; rw [HCM.out]) 30 ((List.replicate 16 (0 : UInt8)).map u8v) (HM.out.blk 0 rfl) (ae_cellsT mt HML.out) (by rw [List.length_map, List.length_map, HML.out]; rfl) (by intro v hv; obtain ⟨_, _, rfl⟩ := List.mem_map.1 hv; rfl) ?_
      intro wy4 hb hg
      replace HM := Lib.hid (show Mem w [blkE GM 30 (mt.map u8v), blkE w.heap.size 23 (p.map u8v)] wy4 from HM.out.put 0 rfl _ hg hb)
      clear hb hg
      refine hK.out _ _ ((HM.out.erase 0)) (fun hHeld => ?_)
      clear hK K
      (try simp only [Act.put])
      refine wpAnyH_done (by kernel_rfl) ?_ _
      clear hHeld
      generalize hwq : wy4 = w5 at HM ⊢
      clear hwq
      go_upto_region 5 with fail
      refine wp_region_held_drew (S := fun W' => Mem w [blkE GM 30 (mt.map u8v), blkE w.heap.size 23 (p.map u8v)] W') (by kernel_rfl) ((HM.out).drew) (fun hHeld => ?_)
      replace HM := Lib.hid HM.out.drew
      generalize w5.drew = wd1 at HM hHeld ⊢
      refine take_first (v := ?_) 0 rfl (by kernel_rfl) (by kernel_rfl) (by kernel_rfl) (fun _ _ _ h => h) (Or.inl ⟨by rfl, ?_⟩) (by assumption) ?_
      rotate_left
      · (intro w hSw; (try dsimp only at hSw); go_simp; try with_reducible rfl)
      (try simp only [Act.put, List.setIfInBounds_toArray, List.set_cons_zero, List.set_cons_succ])
      refine take_first (v := ?_) 1 rfl (by kernel_rfl) (by kernel_rfl) (by kernel_rfl) (fun _ _ _ h => h) (Or.inl ⟨by rfl, ?_⟩) (by assumption) ?_
      rotate_left
      · (intro w hSw; (try dsimp only at hSw); go_simp; try with_reducible rfl)
      (try simp only [Act.put, List.setIfInBounds_toArray, List.set_cons_zero, List.set_cons_succ])
      refine take_first (v := ?_) 2 rfl (by kernel_rfl) (by kernel_rfl) (by kernel_rfl) (fun _ _ _ h => h) (Or.inl ⟨by rfl, ?_⟩) (by assumption) ?_
      rotate_left
      · (intro w hSw; (try dsimp only at hSw); go_simp; try with_reducible rfl)
      (try simp only [Act.put, List.setIfInBounds_toArray, List.set_cons_zero, List.set_cons_succ])
      refine take_first (v := ?_) 3 rfl (by kernel_rfl) (by kernel_rfl) (by kernel_rfl) (fun _ _ _ h => h) (Or.inl ⟨by rfl, ?_⟩) (by assumption) ?_
      rotate_left
      · (intro w hSw; (try dsimp only at hSw); have hs := HSL.out w; go_simp; try with_reducible rfl)
      (try simp only [Act.put, List.setIfInBounds_toArray, List.set_cons_zero, List.set_cons_succ])
      refine take_first (v := ?_) 4 rfl (by kernel_rfl) (by kernel_rfl) (by kernel_rfl) (fun _ _ _ h => h) (Or.inl ⟨by rfl, ?_⟩) (by assumption) ?_
      rotate_left
      · (intro w hSw; (try dsimp only at hSw); go_simp; try with_reducible rfl)
      (try simp only [Act.put, List.setIfInBounds_toArray, List.set_cons_zero, List.set_cons_succ])
      refine step_one 5 rfl (by kernel_rfl) (fun K hK => ?_)
      clear hHeld
      go_simp
      refine (HEQ.out _ (some ⟨GM, 0, none⟩) (HM.out.arg HRD.out) (blk_all (HM.out.blk 0 rfl) HML.out)).mono ?_
      rintro e wy2 ⟨rfl, hb⟩
      replace HM := Lib.hid (show Mem w [blkE GM 30 (mt.map u8v), blkE w.heap.size 23 (p.map u8v)] wy2 from HM.out.below hb)
      clear hb
      go_wp2_with fail
      refine hK.out _ _ (HM.out) (fun hHeld => ?_)
      clear hK K
      (try simp only [Act.put, List.setIfInBounds_toArray, List.set_cons_zero, List.set_cons_succ])
      refine take_first (v := ?_) 6 rfl (by kernel_rfl) (by kernel_rfl) (by kernel_rfl) (fun _ _ _ h => h) (Or.inl ⟨by rfl, ?_⟩) (by assumption) ?_
      rotate_left
      · (intro w hSw; (try dsimp only at hSw); go_simp; try with_reducible rfl)
      (try simp only [Act.put, List.setIfInBounds_toArray, List.set_cons_zero, List.set_cons_succ])
      refine wpAnyH_done (by kernel_rfl) ?_ _
      clear hHeld
      go_wp2
      go_ret
      exact ⟨by rw [HV.out]; rfl, HM.out.bel⟩
end Go.Proofs.YtlddafkikkaonaaDoor
namespace Go.Proofs.YtlddafkikkaonaaDoor
open Go.RowKit

theorem mc_seals_all (w : World) (hlv : LvBlake w) (p s : List UInt8) (A : Option Addr) (nb cb : Nat) (lp : List UInt8) (fa : AddrM) (port : Int) (has : Bool) (ck : List UInt8) (m1 m2 : MsgM) (hp : p.length = 32) (hs : s.length = 32) (hnc : nb ≤ cb) (hcm : cb ≤ maxLen) (hrp : Rd w w.heap.size A nb lp) (hfa : fa.ok) (_hport : -9223372036854775808 ≤ port ∧ port ≤ 9223372036854775807) (hck : ck.length = 16) (hok1 : m1.ok 1) (hok2 : m2.ok 2) :
    Calls Tryd.prog 3 #[.agg (p.map u8v).toArray, .agg (s.map u8v).toArray, .slice A nb cb, .agg (endC fa port).toArray, .bool has, .agg (ck.map u8v).toArray, .agg m1.cells.toArray, .agg m2.cells.toArray] w fun e w' => e = .returned (.bool true) ∧ Below w.heap.size w w' :=
  mc_seals_walk mcSealI mcSealR mcMac1C mcCookieC mcCheck1C w hlv p s hp hs A nb cb lp hnc hcm hrp fa hfa port has ck hck m1 m2 hok1 hok2
end Go.Proofs.YtlddafkikkaonaaDoor
