/-
  The reference's Same of configurations that are equal. The last peer of the parser's configuration in memory: its fields are written, a prefix is appended, a peer is appended. The contract of strings.Split at one byte. The parser's readLine: the line of the interface. The parser's readLine: an entry, over what its readEntry gives. No statement is proved here.
-/
import Derived.RegionTactic
import Derived.Deep.DeepCutAuto
import Derived.Laws.Cover3
import Derived.Carry
import Derived.Test.YtcbfchkhbngpkaaGreatDoorConfigReturnsB11
namespace Go.Proofs.YtcbfchkhbngpkaaGreatDoor
open Go.RowKit
set_option maxRecDepth 100000 in
set_option maxHeartbeats 8000000 in
theorem same_any (x : ConfM) (A A' : Option Addr) (n c c' : Nat) (w : World) (hc : x.ok) (hr : PeRd w w.heap.size A n x.peers) (hr' : PeRd w w.heap.size A' n x.peers) (hn : n ≤ 1000) (ha : ∀ p ∈ x.peers, p.al.length ≤ 1000) :
    Calls Tryz.prog 15 #[.agg (x.cells (.slice A n c)).toArray, .agg (x.cells (.slice A' n c')).toArray] w fun e w' => e = .returned (.bool true) ∧ Below w.heap.size w w' := by
  have HC := Lib.hid hc
  have HR := Lib.hid hr
  have HR2 := Lib.hid hr'
  have HA := Lib.hid ha
  have HN := Lib.hid hn
  have HLN := Lib.hid hr.len
  obtain ⟨ca, hca⟩ : ∃ z, (x.cells (.slice A n c)).toArray = z := ⟨_, rfl⟩
  obtain ⟨cb, hcb⟩ : ∃ z, (x.cells (.slice A' n c')).toArray = z := ⟨_, rfl⟩
  rw [hca, hcb]
  have HM := Lib.hid (show Mem w [blkE (w.heap.size + 1) 27 (x.cells (.slice A' n c')), blkE w.heap.size 27 (x.cells (.slice A n c))] ((w.alloc (.cells ca 27)).alloc (.cells cb 27)) from ((Mem.nil w).alloc rfl 27 ca _ hca.symm).alloc (by simp) 27 cb _ hcb.symm)
  have heq : ∀ W, (Op.equalIn 10000 24 (.agg (x.priv.map u8v).toArray) (.agg (x.priv.map u8v).toArray)).run Tryz.prog W = .ok true W := fun W => by simpa using key_eq x.priv x.priv hc.1 hc.1 W
  obtain ⟨kc, hkc⟩ : ∃ z, (x.priv.map u8v).toArray = z := ⟨_, rfl⟩
  rw [hkc] at heq
  have HKC := Lib.hid hkc
  have HEQ := Lib.hid heq
  clear hc hr hr' hn ha hca hcb heq hkc
  have sn : ((n : Int) != (n : Int)) = false := by simp
  go_enter Tryz.func15, Tryz.ntmps15
  go_upto_region 1 with fail
  generalize (w.alloc (.cells ca 27)).alloc (.cells cb 27) = w1 at HM ⊢
  have fp1 := conf_portA (HM.out.blk 1 rfl).all HC.out
  have fp2 := conf_portA (HM.out.blk 0 rfl).all HC.out
  have fa1 := conf_peersA (HM.out.blk 1 rfl).all HC.out
  have fa2 := conf_peersA (HM.out.blk 0 rfl).all HC.out
  obtain ⟨pt, hpt⟩ : ∃ z, x.port = z := ⟨_, rfl⟩
  rw [hpt] at fp1 fp2
  have sp : (pt != pt) = false := by simp
  clear hpt
  go_upto_region 3 with (first | ((with_reducible refine at_op (.load 24 (.tmp 9)) rfl ?_); refine wpList_load_obj_g (by rfl) 24 (.tmp 9) rfl w.heap.size 0 rfl (x.priv.map u8v) (conf_priv (HM.out.blk 1 rfl).all) _ Tryz.underlying24 rfl (key_cellsOf _ HC.out.1) ?_; rw [HKC.out]) | ((with_reducible refine at_op (.load 24 (.tmp 11)) rfl ?_); refine wpList_load_obj_g (by rfl) 24 (.tmp 11) rfl (w.heap.size + 1) 0 rfl (x.priv.map u8v) (conf_priv (HM.out.blk 0 rfl).all) _ Tryz.underlying24 rfl (key_cellsOf _ HC.out.1) ?_; rw [HKC.out]) | ((with_reducible refine at_op (.binOp .neq 24 (.tmp 10) (.tmp 12) 24) rfl ?_); refine wpList_neq_agg (by rfl) 24 _ 10 12 rfl kc kc true rfl rfl key_noguard (HEQ.out _) ?_))
  clear fp1 fp2 fa2 sp
  go_wp2_with fail
  clear fa1
  go_loopw [33] (fun i wr => ∃ j : Nat, j ≤ n ∧ i = .int .i64 (j : Int) ∧ Mem w [blkE (w.heap.size + 1) 27 (x.cells (.slice A' n c')), blkE w.heap.size 27 (x.cells (.slice A n c))] wr) (fun i _ => n - (intOf i).toNat)
  case atStart => exact ⟨0, Nat.zero_le _, rfl, HM.out⟩
  case round =>
    clear HM
    obtain ⟨j, hj, rfl, hm⟩ := hrel
    have HM := Lib.hid hm
    clear hm
    by_cases hjn : j < n
    · have d1 : decide ((j : Int) < (n : Int)) = true := by simp; omega
      obtain ⟨b1, o1, rfl⟩ := HR.out.addr (by omega)
      obtain ⟨b2, o2, rfl⟩ := HR2.out.addr (by omega)
      obtain ⟨p, hp⟩ : ∃ p, x.peers[j]? = some p := ⟨x.peers[j]'(by rw [HLN.out]; omega), List.getElem?_eq_getElem _⟩
      obtain ⟨hpk, A1, c1, hcc1, hcm1, hpf1, hbl1, hat1⟩ := HR.out.at j p hp
      obtain ⟨_, A2, c2, hcc2, hcm2, hpf2, hbl2, hat2⟩ := HR2.out.at j p hp
      have HPO := Lib.hid hpk
      have HAL := Lib.hid (HA.out p (List.mem_of_getElem? hp))
      have HPF1 := Lib.hid hpf1
      have HPF2 := Lib.hid hpf2
      have HAT1 := Lib.hid (show At wr b1 (o1 + j * 85) (p.cells (.slice A1 p.al.length c1)) ∧ b1 < wr.heap.size from ⟨hat1.mono HM.out.bel hbl1, Nat.lt_of_lt_of_le hbl1 HM.out.size⟩)
      have HAT2 := Lib.hid (show At wr b2 (o2 + j * 85) (p.cells (.slice A2 p.al.length c2)) ∧ b2 < wr.heap.size from ⟨hat2.mono HM.out.bel hbl2, Nat.lt_of_lt_of_le hbl2 HM.out.size⟩)
      have HF1 := Lib.hid (conf_peersA (HM.out.blk 1 rfl).all HC.out)
      have HF2 := Lib.hid (conf_peersA (HM.out.blk 0 rfl).all HC.out)
      obtain ⟨oc1, hoc1⟩ : ∃ z, (p.cells (.slice A1 p.al.length c1)).toArray = z := ⟨_, rfl⟩
      obtain ⟨oc2, hoc2⟩ : ∃ z, (p.cells (.slice A2 p.al.length c2)).toArray = z := ⟨_, rfl⟩
      have HOC1 := Lib.hid hoc1
      have HOC2 := Lib.hid hoc2
      obtain ⟨zs, hzs⟩ : ∃ z, (Tryz.zeroCells57 : Array Value).toList = z := ⟨_, rfl⟩
      have HZS := Lib.hid hzs
      have HZL := Lib.hid (show zs.length = 85 from by rw [← hzs]; rfl)
      have HMR := Lib.hid (Mem.nil wr)
      clear hp hpk hpf1 hpf2 hbl1 hbl2 hat1 hat2 hcc1 hcc2 hcm1 hcm2 hoc1 hoc2 hzs
      go_upto_region 6 with fail
      clear d1
      go_cut [6, 7] (fun v6 v7 wx => ∃ g1 g2, v6 = .pointer (some ⟨g1, 0, none⟩) ∧ v7 = .pointer (some ⟨g2, 0, none⟩) ∧ Blk wx g1 57 (p.cells (.slice A1 p.al.length c1)) ∧ Blk wx g2 57 (p.cells (.slice A2 p.al.length c2)) ∧ Below wr.heap.size wr wx)
      case first =>
        refine wp_region_held_drew (S := fun W' => Below wr.heap.size wr W') (by kernel_rfl) ((HMR.out.bel).drew) (fun hHeld => ?_)
        replace HMR := Lib.hid HMR.out.drew
        generalize wr.drew = wd1 at HMR hHeld ⊢
        refine take_first (v := ?_) 0 rfl (by kernel_rfl) (by kernel_rfl) (by kernel_rfl) (fun _ _ _ h => h) (Or.inl ⟨by rfl, ?_⟩) (by assumption) ?_
        rotate_left
        · (intro w hSw; (try dsimp only at hSw); go_simp; try with_reducible rfl)
        (try simp only [Act.put, List.setIfInBounds_toArray, List.set_cons_zero, List.set_cons_succ])
        refine take_first (v := ?_) 1 rfl (by kernel_rfl) (by kernel_rfl) (by kernel_rfl) (fun _ _ _ h => h) (Or.inl ⟨by rfl, ?_⟩) (by assumption) ?_
        rotate_left
        · (intro w hSw; (try dsimp only at hSw); (have fo := cell_below HF1.out hSw; go_simp; try with_reducible rfl))
        (try simp only [Act.put, List.setIfInBounds_toArray, List.set_cons_zero, List.set_cons_succ])
        refine take_first (v := ?_) 2 rfl (by kernel_rfl) (by kernel_rfl) (by kernel_rfl) (fun _ _ _ h => h) (Or.inl ⟨by rfl, ?_⟩) (by assumption) ?_
        rotate_left
        · (intro w hSw; (try dsimp only at hSw); go_simp; try with_reducible rfl)
        (try simp only [Act.put, List.setIfInBounds_toArray, List.set_cons_zero, List.set_cons_succ])
        refine take_first (v := ?_) 3 rfl (by kernel_rfl) (by kernel_rfl) (by kernel_rfl) (fun _ _ _ h => h) (Or.inl ⟨by rfl, ?_⟩) (by assumption) ?_
        rotate_left
        · (intro w hSw; (try dsimp only at hSw); go_simp; try with_reducible rfl)
        (try simp only [Act.put, List.setIfInBounds_toArray, List.set_cons_zero, List.set_cons_succ])
        refine take_first (v := .agg oc1) 4 rfl (by kernel_rfl) (by kernel_rfl) (by kernel_rfl) (fun _ _ _ h => h) (by rw [← HOC1.out]; exact yields_load_obj (by rfl) 57 (.tmp 39) rfl b1 _ rfl _ (fun W hW => (HAT1.out.1).mono hW HAT1.out.2) _ Tryz.underlying57 rfl (peer_cellsOf p HPO.out _)) (by assumption) ?_
        (try simp only [Act.put, List.setIfInBounds_toArray, List.set_cons_zero, List.set_cons_succ])
        refine take_first (v := ?_) 5 rfl (by kernel_rfl) (by kernel_rfl) (by kernel_rfl) (fun _ _ _ h => h) (Or.inl ⟨by rfl, ?_⟩) (by assumption) ?_
        rotate_left
        · (intro w hSw; (try dsimp only at hSw); go_simp; try with_reducible rfl)
        (try simp only [Act.put, List.setIfInBounds_toArray, List.set_cons_zero, List.set_cons_succ])
        refine take_first (v := ?_) 6 rfl (by kernel_rfl) (by kernel_rfl) (by kernel_rfl) (fun _ _ _ h => h) (Or.inl ⟨by rfl, ?_⟩) (by assumption) ?_
        rotate_left
        · (intro w hSw; (try dsimp only at hSw); (have fo := cell_below HF2.out hSw; go_simp; try with_reducible rfl))
        (try simp only [Act.put, List.setIfInBounds_toArray, List.set_cons_zero, List.set_cons_succ])
        refine take_first (v := ?_) 7 rfl (by kernel_rfl) (by kernel_rfl) (by kernel_rfl) (fun _ _ _ h => h) (Or.inl ⟨by rfl, ?_⟩) (by assumption) ?_
        rotate_left
        · (intro w hSw; (try dsimp only at hSw); go_simp; try with_reducible rfl)
        (try simp only [Act.put, List.setIfInBounds_toArray, List.set_cons_zero, List.set_cons_succ])
        refine take_first (v := ?_) 8 rfl (by kernel_rfl) (by kernel_rfl) (by kernel_rfl) (fun _ _ _ h => h) (Or.inl ⟨by rfl, ?_⟩) (by assumption) ?_
        rotate_left
        · (intro w hSw; (try dsimp only at hSw); go_simp; try with_reducible rfl)
        (try simp only [Act.put, List.setIfInBounds_toArray, List.set_cons_zero, List.set_cons_succ])
        refine take_first (v := .agg oc2) 9 rfl (by kernel_rfl) (by kernel_rfl) (by kernel_rfl) (fun _ _ _ h => h) (by rw [← HOC2.out]; exact yields_load_obj (by rfl) 57 (.tmp 44) rfl b2 _ rfl _ (fun W hW => (HAT2.out.1).mono hW HAT2.out.2) _ Tryz.underlying57 rfl (peer_cellsOf p HPO.out _)) (by assumption) ?_
        (try simp only [Act.put, List.setIfInBounds_toArray, List.set_cons_zero, List.set_cons_succ])
        refine step_two 10 11 rfl rfl (by kernel_rfl) (fun K hK => ?_) (fun K hK => ?_)
        · clear hHeld
          go_simp
          have hm9 : Mem wr [blkE wd1.heap.size 57 zs] (wd1.alloc (.cells Tryz.zeroCells57 57)) := HMR.out.alloc rfl 57 _ zs (by rw [← HZS.out])
          generalize wd1.alloc (.cells Tryz.zeroCells57 57) = wy2 at hm9 ⊢
          generalize wd1.heap.size = g1 at hm9 ⊢
          replace HMR := Lib.hid hm9
          clear hm9
          refine hK.out _ _ (HMR.out.bel) (fun hHeld => ?_)
          clear hK K
          (try simp only [Act.put, List.setIfInBounds_toArray, List.set_cons_zero, List.set_cons_succ])
          refine step_one 11 rfl (by kernel_rfl) (fun K hK => ?_)
          clear hHeld
          go_simp
          have hm9 : Mem wr [blkE wy2.heap.size 57 zs, blkE g1 57 zs] (wy2.alloc (.cells Tryz.zeroCells57 57)) := HMR.out.alloc rfl 57 _ zs (by rw [← HZS.out])
          generalize wy2.alloc (.cells Tryz.zeroCells57 57) = wy3 at hm9 ⊢
          generalize wy2.heap.size = g2 at hm9 ⊢
          replace HMR := Lib.hid hm9
          clear hm9
          refine hK.out _ _ (HMR.out.bel) (fun hHeld => ?_)
          clear hK K
          (try simp only [Act.put, List.setIfInBounds_toArray, List.set_cons_zero, List.set_cons_succ])
          refine step_one 12 rfl (by kernel_rfl) (fun K hK => ?_)
          clear hHeld
          refine step_store_blk _ rfl 57 (.tmp 6) (.tmp 40) rfl g1 (p.cells (.slice A1 p.al.length c1)) rfl (by show Value.agg oc1 = _; rw [HOC1.out]) 57 zs (HMR.out.blk 1 rfl) (peer_cellsOf p HPO.out _) (by rw [PeerM.cells_length HPO.out, HZL.out]) (peer_one p A1 _ c1) ?_
          intro wy4 hb hg
          replace HMR := Lib.hid (show Mem wr [blkE g2 57 zs, blkE g1 57 (p.cells (.slice A1 p.al.length c1))] wy4 from HMR.out.put 1 rfl _ hg hb)
          clear hb hg
          refine hK.out _ _ (HMR.out.bel) (fun hHeld => ?_)
          clear hK K
          (try simp only [Act.put])
          refine step_one 13 rfl (by kernel_rfl) (fun K hK => ?_)
          clear hHeld
          refine step_store_blk _ rfl 57 (.tmp 7) (.tmp 45) rfl g2 (p.cells (.slice A2 p.al.length c2)) rfl (by show Value.agg oc2 = _; rw [HOC2.out]) 57 zs (HMR.out.blk 0 rfl) (peer_cellsOf p HPO.out _) (by rw [PeerM.cells_length HPO.out, HZL.out]) (peer_one p A2 _ c2) ?_
          intro wy5 hb hg
          replace HMR := Lib.hid (show Mem wr [blkE g2 57 (p.cells (.slice A2 p.al.length c2)), blkE g1 57 (p.cells (.slice A1 p.al.length c1))] wy5 from HMR.out.put 0 rfl _ hg hb)
          clear hb hg
          refine hK.out _ _ (HMR.out.bel) (fun hHeld => ?_)
          clear hK K
          (try simp only [Act.put])
          refine wpAnyH_done (by kernel_rfl) ?_ _
          clear hHeld
          go_wp2_with fail
          go_meet
          exact ⟨g1, g2, rfl, rfl, HMR.out.blk 1 rfl, HMR.out.blk 0 rfl, HMR.out.bel⟩
        · clear hHeld
          go_simp
          have hm9 : Mem wr [blkE wd1.heap.size 57 zs] (wd1.alloc (.cells Tryz.zeroCells57 57)) := HMR.out.alloc rfl 57 _ zs (by rw [← HZS.out])
          generalize wd1.alloc (.cells Tryz.zeroCells57 57) = wy2 at hm9 ⊢
          generalize wd1.heap.size = g2 at hm9 ⊢
          replace HMR := Lib.hid hm9
          clear hm9
          refine hK.out _ _ (HMR.out.bel) (fun hHeld => ?_)
          clear hK K
          (try simp only [Act.put, List.setIfInBounds_toArray, List.set_cons_zero, List.set_cons_succ])
          refine step_one 10 rfl (by kernel_rfl) (fun K hK => ?_)
          clear hHeld
          go_simp
          have hm9 : Mem wr [blkE wy2.heap.size 57 zs, blkE g2 57 zs] (wy2.alloc (.cells Tryz.zeroCells57 57)) := HMR.out.alloc rfl 57 _ zs (by rw [← HZS.out])
          generalize wy2.alloc (.cells Tryz.zeroCells57 57) = wy3 at hm9 ⊢
          generalize wy2.heap.size = g1 at hm9 ⊢
          replace HMR := Lib.hid hm9
          clear hm9
          refine hK.out _ _ (HMR.out.bel) (fun hHeld => ?_)
          clear hK K
          (try simp only [Act.put, List.setIfInBounds_toArray, List.set_cons_zero, List.set_cons_succ])
          refine step_one 12 rfl (by kernel_rfl) (fun K hK => ?_)
          clear hHeld
          refine step_store_blk _ rfl 57 (.tmp 6) (.tmp 40) rfl g1 (p.cells (.slice A1 p.al.length c1)) rfl (by show Value.agg oc1 = _; rw [HOC1.out]) 57 zs (HMR.out.blk 0 rfl) (peer_cellsOf p HPO.out _) (by rw [PeerM.cells_length HPO.out, HZL.out]) (peer_one p A1 _ c1) ?_
          intro wy4 hb hg
          replace HMR := Lib.hid (show Mem wr [blkE g1 57 (p.cells (.slice A1 p.al.length c1)), blkE g2 57 zs] wy4 from HMR.out.put 0 rfl _ hg hb)
          clear hb hg
          refine hK.out _ _ (HMR.out.bel) (fun hHeld => ?_)
          clear hK K
          (try simp only [Act.put])
          refine step_one 13 rfl (by kernel_rfl) (fun K hK => ?_)
          clear hHeld
          refine step_store_blk _ rfl 57 (.tmp 7) (.tmp 45) rfl g2 (p.cells (.slice A2 p.al.length c2)) rfl (by show Value.agg oc2 = _; rw [HOC2.out]) 57 zs (HMR.out.blk 1 rfl) (peer_cellsOf p HPO.out _) (by rw [PeerM.cells_length HPO.out, HZL.out]) (peer_one p A2 _ c2) ?_
          intro wy5 hb hg
          replace HMR := Lib.hid (show Mem wr [blkE g1 57 (p.cells (.slice A1 p.al.length c1)), blkE g2 57 (p.cells (.slice A2 p.al.length c2))] wy5 from HMR.out.put 1 rfl _ hg hb)
          clear hb hg
          refine hK.out _ _ (HMR.out.bel) (fun hHeld => ?_)
          clear hK K
          (try simp only [Act.put])
          refine wpAnyH_done (by kernel_rfl) ?_ _
          clear hHeld
          go_wp2_with fail
          go_meet
          exact ⟨g1, g2, rfl, rfl, HMR.out.blk 0 rfl, HMR.out.blk 1 rfl, HMR.out.bel⟩
      obtain ⟨g1, g2, rfl, rfl, hb1, hb2, hbx⟩ := hcut
      have HB1 := Lib.hid hb1
      have HB2 := Lib.hid hb2
      replace HM := Lib.hid (HM.out.below hbx)
      have HX := Lib.hid hbx
      have heq1 : ∀ W, (Op.equalIn 10000 24 (.agg (p.pub.map u8v).toArray) (.agg (p.pub.map u8v).toArray)).run Tryz.prog W = .ok true W := fun W => by simpa using key_eq p.pub p.pub HPO.out.1 HPO.out.1 W
      have heq2 : ∀ W, (Op.equalIn 10000 24 (.agg (p.sha.map u8v).toArray) (.agg (p.sha.map u8v).toArray)).run Tryz.prog W = .ok true W := fun W => by simpa using key_eq p.sha p.sha HPO.out.2.1 HPO.out.2.1 W
      have heq3 : ∀ W, (Op.equalIn 10000 55 (.agg (prefC p.ea p.ep).toArray) (.agg (prefC p.ea p.ep).toArray)).run Tryz.prog W = .ok true W := fun W => by simpa using end_eqd p.ea p.ea p.ep p.ep HPO.out.2.2.1 HPO.out.2.2.1 HPO.out.2.2.2.1 HPO.out.2.2.2.1 W
      obtain ⟨k1, hk1⟩ : ∃ z, (p.pub.map u8v).toArray = z := ⟨_, rfl⟩
      obtain ⟨k2, hk2⟩ : ∃ z, (p.sha.map u8v).toArray = z := ⟨_, rfl⟩
      obtain ⟨ec, hec⟩ : ∃ z, (prefC p.ea p.ep).toArray = z := ⟨_, rfl⟩
      rw [hk1] at heq1
      rw [hk2] at heq2
      rw [hec] at heq3
      have HK1 := Lib.hid hk1
      have HK2 := Lib.hid hk2
      have HEC := Lib.hid hec
      have HE1 := Lib.hid heq1
      have HE2 := Lib.hid heq2
      have HE3 := Lib.hid heq3
      have fh1 := peer_has hb1.all HPO.out
      have fh2 := peer_has hb2.all HPO.out
      have fk1 := peer_keep hb1.all HPO.out
      have fk2 := peer_keep hb2.all HPO.out
      have fl1 := peer_al hb1 HPO.out
      have fl2 := peer_al hb2 HPO.out
      obtain ⟨u, hu⟩ : ∃ z, p.hasE = z := ⟨_, rfl⟩
      obtain ⟨kp, hkp⟩ : ∃ z, p.keep = z := ⟨_, rfl⟩
      obtain ⟨m, hm⟩ : ∃ z, p.al.length = z := ⟨_, rfl⟩
      rw [hu] at fh1 fh2
      rw [hkp] at fk1 fk2
      rw [hm] at fl1 fl2 HAL HPF1 HPF2
      have HG1 := Lib.hid fl1
      have HG2 := Lib.hid fl2
      have su : (u != u) = false := by simp
      have sk : (kp != kp) = false := by simp
      have sm : ((m : Int) != (m : Int)) = false := by simp
      clear hb1 hb2 hk1 hk2 hec heq1 heq2 heq3 hu hkp hbx HOC1 HOC2 HZS HZL HAT1 HAT2 HF1 HF2 HMR
      go_upto_region 9 with (first | ((with_reducible refine at_op (.load 24 (.tmp 46)) rfl ?_); refine wpList_load_obj_g (by rfl) 24 (.tmp 46) rfl g1 0 rfl (p.pub.map u8v) (peer_pubB HB1.out.all) _ Tryz.underlying24 rfl (key_cellsOf _ HPO.out.1) ?_; rw [HK1.out]) | ((with_reducible refine at_op (.load 24 (.tmp 48)) rfl ?_); refine wpList_load_obj_g (by rfl) 24 (.tmp 48) rfl g2 0 rfl (p.pub.map u8v) (peer_pubB HB2.out.all) _ Tryz.underlying24 rfl (key_cellsOf _ HPO.out.1) ?_; rw [HK1.out]) | ((with_reducible refine at_op (.binOp .neq 24 (.tmp 47) (.tmp 49) 24) rfl ?_); refine wpList_neq_agg (by rfl) 24 _ 47 49 rfl k1 k1 true rfl rfl key_noguard (HE1.out _) ?_) | ((with_reducible refine at_op (.load 24 (.tmp 52)) rfl ?_); refine wpList_load_obj_g (by rfl) 24 (.tmp 52) rfl g1 (0 + 32) rfl (p.sha.map u8v) (peer_sha HB1.out.all HPO.out) _ Tryz.underlying24 rfl (key_cellsOf _ HPO.out.2.1) ?_; rw [HK2.out]) | ((with_reducible refine at_op (.load 24 (.tmp 54)) rfl ?_); refine wpList_load_obj_g (by rfl) 24 (.tmp 54) rfl g2 (0 + 32) rfl (p.sha.map u8v) (peer_sha HB2.out.all HPO.out) _ Tryz.underlying24 rfl (key_cellsOf _ HPO.out.2.1) ?_; rw [HK2.out]) | ((with_reducible refine at_op (.binOp .neq 24 (.tmp 53) (.tmp 55) 24) rfl ?_); refine wpList_neq_agg (by rfl) 24 _ 53 55 rfl k2 k2 true rfl rfl key_noguard (HE2.out _) ?_) | ((with_reducible refine at_op (.load 55 (.tmp 66)) rfl ?_); refine wpList_load_obj_g (by rfl) 55 (.tmp 66) rfl g1 _ rfl (_) (peer_end HB1.out.all HPO.out) _ Tryz.underlying55 rfl (end_cellsOf p.ea HPO.out.2.2.1 p.ep) ?_; rw [HEC.out]) | ((with_reducible refine at_op (.load 55 (.tmp 68)) rfl ?_); refine wpList_load_obj_g (by rfl) 55 (.tmp 68) rfl g2 _ rfl (_) (peer_end HB2.out.all HPO.out) _ Tryz.underlying55 rfl (end_cellsOf p.ea HPO.out.2.2.1 p.ep) ?_; rw [HEC.out]) | ((with_reducible refine at_op (.binOp .neq 55 (.tmp 67) (.tmp 69) 55) rfl ?_); refine wpList_neq_agg (by rfl) 55 _ 67 69 rfl ec ec true rfl rfl end_noguard (HE3.out _) ?_))
      clear fh1 fh2 fk1 fk2 fl2 su sk sm HE1 HE2 HE3 HK1 HK2 HEC
      clear HX
      go_wp2_with fail
      clear fl1
      go_loopw [91] (fun i wr => ∃ q : Nat, q ≤ m ∧ i = .int .i64 (q : Int) ∧ Below wc.heap.size wc wr) (fun i _ => m - (intOf i).toNat)
      case atStart => exact ⟨0, Nat.zero_le _, rfl, Below.refl _ _⟩
      case round =>
        obtain ⟨k, hk, rfl, hb⟩ := hrel
        obtain ⟨wq, rfl⟩ : ∃ z, z = wr := ⟨wr, rfl⟩
        have HBI := Lib.hid hb
        clear hb
        by_cases hkm : k < m
        · have dk : decide ((k : Int) < (m : Int)) = true := by simp; omega
          obtain ⟨d1, e1, rfl⟩ := HPF1.out.1.addr (by omega)
          obtain ⟨d2, e2, rfl⟩ := HPF2.out.1.addr (by omega)
          obtain ⟨q, hq⟩ : ∃ q, p.al[k]? = some q := ⟨p.al[k]'(by rw [hm]; exact hkm), List.getElem?_eq_getElem _⟩
          have HQO := Lib.hid (HPF1.out.ok hq)
          have hmw := HM.out.below HBI.out
          have HQ1 := Lib.hid (show At wq d1 (e1 + k * 18) (prefC q.1 q.2) ∧ d1 < wq.heap.size from ⟨(HPF1.out.at k q hq).2.mono hmw.bel (HPF1.out.at k q hq).1, Nat.lt_of_lt_of_le (HPF1.out.at k q hq).1 hmw.size⟩)
          have HQ2 := Lib.hid (show At wq d2 (e2 + k * 18) (prefC q.1 q.2) ∧ d2 < wq.heap.size from ⟨(HPF2.out.at k q hq).2.mono hmw.bel (HPF2.out.at k q hq).1, Nat.lt_of_lt_of_le (HPF2.out.at k q hq).1 hmw.size⟩)
          have heqp := fun w' : World => pref_eqd q.1 q.1 q.2 q.2 HQO.out.1 HQO.out.1 HQO.out.2 HQO.out.2 w'
          simp only [and_self, decide_true] at heqp
          obtain ⟨qc, hqc⟩ : ∃ z, (prefC q.1 q.2).toArray = z := ⟨_, rfl⟩
          rw [hqc] at heqp
          have HEQP := Lib.hid heqp
          have HQC := Lib.hid hqc
          have HH1 := Lib.hid (cell_below HG1.out HBI.out)
          have HH2 := Lib.hid (cell_below HG2.out HBI.out)
          obtain ⟨q2, hq2⟩ : ∃ z, k + 1 = z := ⟨_, rfl⟩
          have e8 : (k : Int) + 1 = (q2 : Int) := by omega
          have w8' : IntKind.i64.wrap (q2 : Int) = (q2 : Int) := by have := HAL.out; rw [IntKind.wrap_i64]; omega
          have HK := Lib.hid (show q2 ≤ m ∧ m - q2 < m - k from by omega)
          clear hq hqc heqp hmw hq2
          go_upto_region 12 with fail
          clear dk
          refine wp_region_held_drew (S := fun W' => Below wq.heap.size wq W') (by kernel_rfl) ((Below.refl _ _).drew) (fun hHeld => ?_)
          refine take_first (v := ?_) 0 rfl (by kernel_rfl) (by kernel_rfl) (by kernel_rfl) (fun _ _ _ h => h) (Or.inl ⟨by rfl, ?_⟩) (by assumption) ?_
          rotate_left
          · (intro w hSw; (try dsimp only at hSw); go_simp; try with_reducible rfl)
          (try simp only [Act.put, List.setIfInBounds_toArray, List.set_cons_zero, List.set_cons_succ])
          refine take_first (v := ?_) 1 rfl (by kernel_rfl) (by kernel_rfl) (by kernel_rfl) (fun _ _ _ h => h) (Or.inl ⟨by rfl, ?_⟩) (by assumption) ?_
          rotate_left
          · (intro w hSw; (try dsimp only at hSw); (have fo := cell_below HH1.out hSw; go_simp; try with_reducible rfl))
          (try simp only [Act.put, List.setIfInBounds_toArray, List.set_cons_zero, List.set_cons_succ])
          refine take_first (v := ?_) 2 rfl (by kernel_rfl) (by kernel_rfl) (by kernel_rfl) (fun _ _ _ h => h) (Or.inl ⟨by rfl, ?_⟩) (by assumption) ?_
          rotate_left
          · (intro w hSw; (try dsimp only at hSw); go_simp; try with_reducible rfl)
          (try simp only [Act.put, List.setIfInBounds_toArray, List.set_cons_zero, List.set_cons_succ])
          refine take_first (v := ?_) 3 rfl (by kernel_rfl) (by kernel_rfl) (by kernel_rfl) (fun _ _ _ h => h) (Or.inl ⟨by rfl, ?_⟩) (by assumption) ?_
          rotate_left
          · (intro w hSw; (try dsimp only at hSw); go_simp; try with_reducible rfl)
          (try simp only [Act.put, List.setIfInBounds_toArray, List.set_cons_zero, List.set_cons_succ])
          refine take_first (v := .agg qc) 4 rfl (by kernel_rfl) (by kernel_rfl) (by kernel_rfl) (fun _ _ _ h => h) (by rw [← HQC.out]; exact yields_load_obj (by rfl) 60 (.tmp 97) rfl d1 _ rfl _ (fun W hW => (HQ1.out.1).mono hW HQ1.out.2) _ Tryz.underlying60 rfl (pref_cellsOf' q.1 HQO.out.1 q.2)) (by assumption) ?_
          (try simp only [Act.put, List.setIfInBounds_toArray, List.set_cons_zero, List.set_cons_succ])
          refine take_first (v := ?_) 5 rfl (by kernel_rfl) (by kernel_rfl) (by kernel_rfl) (fun _ _ _ h => h) (Or.inl ⟨by rfl, ?_⟩) (by assumption) ?_
          rotate_left
          · (intro w hSw; (try dsimp only at hSw); go_simp; try with_reducible rfl)
          (try simp only [Act.put, List.setIfInBounds_toArray, List.set_cons_zero, List.set_cons_succ])
          refine take_first (v := ?_) 6 rfl (by kernel_rfl) (by kernel_rfl) (by kernel_rfl) (fun _ _ _ h => h) (Or.inl ⟨by rfl, ?_⟩) (by assumption) ?_
          rotate_left
          · (intro w hSw; (try dsimp only at hSw); (have fo := cell_below HH2.out hSw; go_simp; try with_reducible rfl))
          (try simp only [Act.put, List.setIfInBounds_toArray, List.set_cons_zero, List.set_cons_succ])
          refine take_first (v := ?_) 7 rfl (by kernel_rfl) (by kernel_rfl) (by kernel_rfl) (fun _ _ _ h => h) (Or.inl ⟨by rfl, ?_⟩) (by assumption) ?_
          rotate_left
          · (intro w hSw; (try dsimp only at hSw); go_simp; try with_reducible rfl)
          (try simp only [Act.put, List.setIfInBounds_toArray, List.set_cons_zero, List.set_cons_succ])
          refine take_first (v := ?_) 8 rfl (by kernel_rfl) (by kernel_rfl) (by kernel_rfl) (fun _ _ _ h => h) (Or.inl ⟨by rfl, ?_⟩) (by assumption) ?_
          rotate_left
          · (intro w hSw; (try dsimp only at hSw); go_simp; try with_reducible rfl)
          (try simp only [Act.put, List.setIfInBounds_toArray, List.set_cons_zero, List.set_cons_succ])
          refine take_first (v := .agg qc) 9 rfl (by kernel_rfl) (by kernel_rfl) (by kernel_rfl) (fun _ _ _ h => h) (by rw [← HQC.out]; exact yields_load_obj (by rfl) 60 (.tmp 102) rfl d2 _ rfl _ (fun W hW => (HQ2.out.1).mono hW HQ2.out.2) _ Tryz.underlying60 rfl (pref_cellsOf' q.1 HQO.out.1 q.2)) (by assumption) ?_
          (try simp only [Act.put, List.setIfInBounds_toArray, List.set_cons_zero, List.set_cons_succ])
          refine take_first (v := .bool false) 10 rfl (by kernel_rfl) (by kernel_rfl) (by kernel_rfl) (fun _ _ _ h => h) (yields_cmp_agg true (by rfl) 60 60 98 103 rfl qc qc true rfl rfl prefix_noguard (fun w' => HEQP.out w')) (by assumption) ?_
          (try simp only [Act.put, List.setIfInBounds_toArray, List.set_cons_zero, List.set_cons_succ])
          refine wpAnyH_done (by kernel_rfl) ?_ _
          go_wp2
          go_roundw
          case rel => exact ⟨q2, HK.out.1, rfl, HBI.out.drew⟩
          case measure => simp [intOf]; exact HK.out.2
        · obtain rfl : k = m := by omega
          have d1 : decide ((k : Int) < (k : Int)) = false := by simp
          have HF := Lib.hid (HM.out.below HBI.out)
          obtain ⟨j2, hj2⟩ : ∃ z, j + 1 = z := ⟨_, rfl⟩
          have e8 : (j : Int) + 1 = (j2 : Int) := by omega
          have w8' : IntKind.i64.wrap (j2 : Int) = (j2 : Int) := by have := HN.out; rw [IntKind.wrap_i64]; omega
          have HJ2 := Lib.hid (show j2 ≤ n ∧ n - j2 < n - j from by omega)
          clear hj2 hj hjn
          go_wp2_with fail
          go_roundw
          case rel => exact ⟨j2, HJ2.out.1, rfl, HF.out⟩
          case measure => simp [intOf]; exact HJ2.out.2
    · obtain rfl : j = n := by omega
      have d1 : decide ((j : Int) < (j : Int)) = false := by simp
      have HF := Lib.hid HM.out.bel
      go_wp2
      go_ret
      exact ⟨rfl, HF.out⟩
end Go.Proofs.YtcbfchkhbngpkaaGreatDoor
namespace Go.Proofs.YtcbfchkhbngpkaaGreatDoor
open Go.RowKit

theorem peer_pub_set {p : PeerM} (h : p.ok) (v : Value) (k : List UInt8) (hk : k.length = 32) : setL (p.cells v) 0 (k.map u8v) = PeerM.cells { p with pub := k } v := by
  have h1 : (p.pub.map u8v).length = 32 := by rw [List.length_map, h.1]
  rw [setL, PeerM.cells, PeerM.cells, List.take_zero, List.nil_append, List.length_map, hk, Nat.zero_add, List.drop_append, List.drop_eq_nil_of_le (by omega), h1]
  simp
structure LastV (base gp m : Nat) (W : World) (c : ConfM) (sn : Option (List (List UInt8))) (line : Nat) (mv : Value) (g cp : Nat) (rest : List Value) (done : List PeerM) (vs : List Value) (p : PeerM) (x : Value) : Prop where
  ok : ({ c with peers := done ++ [p] } : ConfM).ok
  low : base ≤ gp
  ne : gp ≠ g
  gl : base ≤ g
  pb : Blk W gp 83 (psC c line mv (.slice (some ⟨g, 0, none⟩) (done.length + 1) cp))
  len : vs.length = done.length
  le : done.length + 1 ≤ cp
  mx : cp ≤ maxLen
  size : (done.length + 1) * 85 + rest.length = cp * 85
  blk : Blk W g 57 ((peersV (done ++ [p]) (vs ++ [x])).flatten ++ rest)
  own : ∀ (i : Nat) (q : PeerM) (y : Value), (done ++ [p])[i]? = some q → (vs ++ [x])[i]? = some y → W.ownsRow base 60 18 y q.al.length (pfsV q.al).flatten
  nd : (g :: (vs ++ [x]).filterMap Value.ownBlock).Nodup
  nin : gp ∉ (vs ++ [x]).filterMap Value.ownBlock
  seen : SeenAt base gp m (g :: (vs ++ [x]).filterMap Value.ownBlock) W mv sn
section
variable {base gp m : Nat} {W W' : World} {c : ConfM} {sn : Option (List (List UInt8))} {line : Nat} {mv : Value} {g cp : Nat} {rest : List Value} {done : List PeerM} {vs : List Value} {p : PeerM} {x : Value}
theorem LastV.pok (h : LastV base gp m W c sn line mv g cp rest done vs p x) : p.ok := h.ok.2.2 p (by simp)
theorem LastV.vlen (h : LastV base gp m W c sn line mv g cp rest done vs p x) : (vs ++ [x]).length = (done ++ [p]).length := by simp [h.len]
theorem LastV.xown (h : LastV base gp m W c sn line mv g cp rest done vs p x) : W.ownsRow base 60 18 x p.al.length (pfsV p.al).flatten :=
  h.own done.length p x (by simp) (by rw [← h.len]; simp)
theorem LastV.total (h : LastV base gp m W c sn line mv g cp rest done vs p x) : ((peersV (done ++ [p]) (vs ++ [x])).flatten ++ rest).length = cp * 85 := by
  have h1 := flat_length (peersV_cells h.vlen h.ok.2.2)
  rw [peersV_len _ _ h.vlen] at h1
  have := h.size
  simp only [List.length_append, List.length_cons, List.length_nil] at h1 ⊢
  omega
theorem LastV.at (h : LastV base gp m W c sn line mv g cp rest done vs p x) : At W g (done.length * 85) (p.cells x) :=
  blk_at h.blk (peersV_cells h.vlen h.ok.2.2) (peersV_at (by simp) (by rw [← h.len]; simp))
theorem LastV.vrow (h : LastV base gp m W c sn line mv g cp rest done vs p x) : W.ownsRow base 57 85 (.slice (some ⟨g, 0, none⟩) (done.length + 1) cp) (done.length + 1) (peersV (done ++ [p]) (vs ++ [x])).flatten := by
  have h1 := flat_length (peersV_cells h.vlen h.ok.2.2)
  rw [peersV_len _ _ h.vlen] at h1
  have hl : (done ++ [p]).length = done.length + 1 := by simp
  rw [hl] at h1
  refine ⟨h1, .inr ⟨g, cp, ((peersV (done ++ [p]) (vs ++ [x])).flatten ++ rest).toArray, rfl, h.gl, h.blk, h.le, h.mx, by simpa using h.total, ?_⟩⟩
  rw [← h1]
  exact List.take_left
theorem LastV.toPs (h : LastV base gp m W c sn line mv g cp rest done vs p x) : PsAt base gp m W ⟨{ c with peers := done ++ [p] }, sn⟩ line mv (.slice (some ⟨g, 0, none⟩) (done.length + 1) cp) (g :: (vs ++ [x]).filterMap Value.ownBlock) := by
  have hl : (done ++ [p]).length = done.length + 1 := by simp
  refine ⟨h.ok, h.low, h.nd, fun hm => ?_, h.pb, ⟨vs ++ [x], h.vlen, by rw [hl]; exact h.vrow, h.own, by rw [List.filterMap_cons]; rfl⟩, h.seen⟩
  rcases List.mem_cons.1 hm with e | e
  · exact h.ne e
  · exact h.nin e
theorem PsAt.last {s : PsM} {v : Value} {Bs : List Nat} (h : PsAt base gp m W s line mv v Bs) (hp : s.conf.peers = done ++ [p]) : ∃ g cp rest vs x, v = .slice (some ⟨g, 0, none⟩) (done.length + 1) cp ∧ LastV base gp m W s.conf s.seen line mv g cp rest done vs p x := by
  obtain ⟨vs0, hl, hr, ho, hB⟩ := h.peers
  rw [hp] at hl hr ho
  have hl1 : (done ++ [p]).length = done.length + 1 := by simp
  rw [hl1] at hl hr
  obtain ⟨vs, x, rfl⟩ : ∃ vs x, vs0 = vs ++ [x] := by
    rcases List.eq_nil_or_concat vs0 with rfl | ⟨vs, x, rfl⟩
    · simp at hl
    · exact ⟨vs, x, by simp⟩
  have hok := h.ok
  have hc : s.conf = { s.conf with peers := done ++ [p] } := by rw [← hp]
  have hvl : vs.length = done.length := by simpa using hl
  have hcs := flat_length (peersV_cells (ps := done ++ [p]) (vs := vs ++ [x]) (by simp [hvl]) (by rw [← hp]; exact hok.2.2))
  rw [peersV_len _ _ (by simp [hvl])] at hcs
  rcases hr.2 with ⟨_, h0⟩ | ⟨g, cp, cur, rfl, hbg, hg, hle, hmx, hsz, htk⟩
  · omega
  · have hcur : cur.toList = (peersV (done ++ [p]) (vs ++ [x])).flatten ++ cur.toList.drop ((done.length + 1) * 85) := by rw [← htk, List.take_append_drop]
    refine ⟨g, cp, cur.toList.drop ((done.length + 1) * 85), vs, x, rfl, ⟨by rw [← hc]; exact hok, h.low, fun e => ?_, hbg, h.blk, hvl, hle, hmx, ?_, ?_, ho, ?_, fun hm => ?_, ?_⟩⟩
    · exact h.nin (by rw [← hB, e]; simp [Value.ownBlock])
    · have hcl : cur.toList.length = cp * 85 := hsz
      rw [List.length_drop, hcl]
      have : (done.length + 1) * 85 ≤ cp * 85 := Nat.mul_le_mul_right _ hle
      omega
    · unfold Blk
      rw [← hcur]
      exact hg
    · have := h.nd
      rwa [← hB, List.filterMap_cons] at this
    · refine h.nin ?_
      rw [← hB, List.filterMap_cons]
      exact List.mem_cons_of_mem _ hm
    · have := h.seen
      rwa [← hB, List.filterMap_cons] at this
theorem LastV.below (h : LastV base gp m W c sn line mv g cp rest done vs p x) (hb : Below W.heap.size W W') : LastV base gp m W' c sn line mv g cp rest done vs p x := by
  have hlt : ∀ k ∈ g :: (vs ++ [x]).filterMap Value.ownBlock, k < W.heap.size := fun k hk => (h.toPs.peers.mem k (by have := h.toPs; exact hk)).2
  refine ⟨h.ok, h.low, h.ne, h.gl, h.pb.below hb h.pb.lt, h.len, h.le, h.mx, h.size, h.blk.below hb h.blk.lt, fun i q y hq hy => own_kept (h.own i q y hq hy) fun k hk => hb.block k (own_lt (h.own i q y hq hy) hk).2, h.nd, h.nin, h.seen.kept fun k h1 _ _ => hb.block k h1⟩
theorem LastV.mem (h : LastV base gp m W c sn line mv g cp rest done vs p x) : ∀ k ∈ g :: (vs ++ [x]).filterMap Value.ownBlock, base ≤ k ∧ k < W.heap.size := fun k hk => h.toPs.peers.mem k hk
/-- the blocks of the prefixes are none of the peers' -/
theorem LastV.sep (h : LastV base gp m W c sn line mv g cp rest done vs p x) {i k : Nat} {y : Value} (hy : (vs ++ [x])[i]? = some y) (hk : y.ownBlock = some k) : k ≠ g := fun e => by
  have hn := (List.nodup_cons.1 h.nd).1
  exact hn (List.mem_filterMap.2 ⟨y, List.mem_of_getElem? hy, e ▸ hk⟩)
theorem peersV_last (done : List PeerM) (vs : List Value) (p p' : PeerM) (x x' : Value) (hl : vs.length = done.length) : (peersV (done ++ [p]) (vs ++ [x])).set done.length (p'.cells x') = peersV (done ++ [p']) (vs ++ [x']) := by
  rw [← peersV_set]
  congr 1
  · rw [List.set_append_right _ _ (Nat.le_refl _), Nat.sub_self]; rfl
  · rw [← hl, List.set_append_right _ _ (Nat.le_refl _), Nat.sub_self]; rfl
/-- a part of the last peer is written, its prefixes stay -/
theorem LastV.put (h : LastV base gp m W c sn line mv g cp rest done vs p x) {p' : PeerM} (f : Nat) (xs : List Value) (hf : f + xs.length ≤ 85) (hs : setL (p.cells x) f xs = p'.cells x) (hok : p'.ok) (hal : p'.al = p.al) (hg : W.grownBy W' (some g)) (hb : Blk W' g 57 (setL ((peersV (done ++ [p]) (vs ++ [x])).flatten ++ rest) (done.length * 85 + f) xs)) : LastV base gp m W' c sn line mv g cp rest done vs p' x := by
  rw [flat_part (peersV_cells h.vlen h.ok.2.2) done.length _ (peersV_at (p := p) (x := x) (by simp) (by rw [← h.len]; simp)) f xs hf, hs, peersV_last _ _ _ _ _ _ h.len] at hb
  have hne : ∀ k, k < W.heap.size → k ≠ g → W'.heap[k]? = W.heap[k]? := fun k hk hkg => hg.block k hk (by intro e; injection e with e; exact hkg e)
  refine ⟨⟨h.ok.1, h.ok.2.1, fun q hq => ?_⟩, h.low, h.ne, h.gl, ?_, h.len, h.le, h.mx, h.size, hb, fun i q y hq hy => ?_, h.nd, h.nin, h.seen.kept fun k h1 _ h3 => hne k h1 (fun e => h3 (by rw [e]; exact List.mem_cons_self ..))⟩
  · rcases List.mem_append.1 hq with hq | hq
    · exact h.ok.2.2 q (List.mem_append_left _ hq)
    · rw [List.mem_singleton.1 hq]; exact hok
  · have := h.pb
    unfold Blk at this ⊢
    rw [hne gp h.pb.lt h.ne]
    exact this
  · have key : ∀ q0, (done ++ [p])[i]? = some q0 → q0.al = q.al → W'.ownsRow base 60 18 y q.al.length (pfsV q.al).flatten := fun q0 h0 he => by
      have := h.own i q0 y h0 hy
      rw [he] at this
      exact own_kept this fun k hk => hne k (own_lt this hk).2 (h.sep hy hk)
    by_cases hi : i < done.length
    · rw [List.getElem?_append_left hi] at hq
      exact key q (by rw [List.getElem?_append_left hi]; exact hq) rfl
    · have hi2 : i = done.length := by
        have := (List.getElem?_eq_some_iff.1 hq).1
        simp at this
        omega
      subst hi2
      rw [List.getElem?_append_right (Nat.le_refl _), Nat.sub_self] at hq
      have hq2 : p' = q := by simpa using hq
      subst hq2
      exact key p (by simp) hal.symm
/-- a single cell of it -/
theorem LastV.cell (h : LastV base gp m W c sn line mv g cp rest done vs p x) {p' : PeerM} (f : Nat) (u : Value) (hf : f < 85) (hs : (p.cells x).set f u = p'.cells x) (hok : p'.ok) (hal : p'.al = p.al) : LastV base gp m (W.setCell ⟨g, done.length * 85 + f, none⟩ u) c sn line mv g cp rest done vs p' x := by
  have hb := h.blk.set_ (done.length * 85 + f) u
  have hlt : done.length * 85 + f < ((peersV (done ++ [p]) (vs ++ [x])).flatten ++ rest).length := by
    rw [h.total]
    have := h.le
    omega
  rw [set_setL _ _ _ hlt] at hb
  exact h.put f [u] (by simp; omega) (by rw [← hs, set_setL _ _ _ (by rw [PeerM.cells_length h.pok]; exact hf)]) hok hal (grown_cell W g _ u) hb
/-- prefixes are appended: first the row of the prefixes grew, then the peer's cell is written -/
theorem LastV.more (h : LastV base gp m W c sn line mv g cp rest done vs p x) {W1 : World} {x' : Value} {al' : List (AddrM × Int)} (hg : W.grownBy W1 x.ownBlock) (ho : W1.ownsRow base 60 18 x' al'.length (pfsV al').flatten) (hx : x'.ownBlock = x.ownBlock ∨ x'.ownBlock = some W.heap.size) (hok : ({ p with al := al' } : PeerM).ok) :
    LastV base gp m (W1.setCell ⟨g, done.length * 85 + 84, none⟩ x') c sn line mv g cp rest done vs { p with al := al' } x' := by
  have hmem := h.mem
  have hnd := h.nd
  have hB : ∀ z : Value, (g :: (vs ++ [z]).filterMap Value.ownBlock) = (g :: vs.filterMap Value.ownBlock) ++ z.ownBlock.toList := fun z => by
    rw [List.filterMap_append, List.cons_append]
    congr 2
  have hsp : (g :: vs.filterMap Value.ownBlock).Nodup ∧ ∀ k ∈ g :: vs.filterMap Value.ownBlock, x.ownBlock ≠ some k := by
    rw [hB x] at hnd
    obtain ⟨h1, _, h3⟩ := List.nodup_append.1 hnd
    exact ⟨h1, fun k hk e => h3 k hk k (by rw [e]; simp) rfl⟩
  have hm0 : ∀ k ∈ g :: vs.filterMap Value.ownBlock, k < W.heap.size := fun k hk => (hmem k (by rw [hB x]; exact List.mem_append_left _ hk)).2
  have hx0 : ∀ k ∈ g :: vs.filterMap Value.ownBlock, x'.ownBlock ≠ some k := fun k hk e => by
    rcases hx with hx | hx
    · exact hsp.2 k hk (hx ▸ e)
    · rw [hx] at e
      injection e with e
      have := hm0 k hk
      omega
  have hk1 : ∀ k ∈ g :: vs.filterMap Value.ownBlock, W1.heap[k]? = W.heap[k]? := fun k hk => hg.block k (hm0 k hk) (fun e => hsp.2 k hk e.symm)
  have hxg : ∀ k, x'.ownBlock = some k → k ≠ g := fun k e he => hx0 g (List.mem_cons_self ..) (he ▸ e)
  have hxb : ∀ k, x.ownBlock = some k → base ≤ k ∧ k < W.heap.size := fun k e => own_lt h.xown e
  have hgp : x.ownBlock ≠ some gp := fun e => h.nin (List.mem_filterMap.2 ⟨x, by simp, e⟩)
  have hset : ∀ k, k ≠ g → (W1.setCell ⟨g, done.length * 85 + 84, none⟩ x').heap[k]? = W1.heap[k]? := fun k hk => Below.heap_setCell _ _ _ _ hk
  have hb1 : Blk W1 g 57 ((peersV (done ++ [p]) (vs ++ [x])).flatten ++ rest) := by
    have := h.blk
    unfold Blk at this ⊢
    rw [hk1 g (List.mem_cons_self ..)]
    exact this
  have hb2 := hb1.set_ (done.length * 85 + 84) x'
  have hlt : done.length * 85 + 84 < ((peersV (done ++ [p]) (vs ++ [x])).flatten ++ rest).length := by
    rw [h.total]
    have := h.le
    omega
  rw [set_setL _ _ _ hlt, flat_part (peersV_cells h.vlen h.ok.2.2) done.length _ (peersV_at (p := p) (x := x) (by simp) (by rw [← h.len]; simp)) 84 [x'] (by simp),
    ← set_setL _ _ _ (by rw [PeerM.cells_length h.pok]; omega), peer_set_al h.pok, show p.cells x' = PeerM.cells { p with al := al' } x' from rfl, peersV_last _ _ _ _ _ _ h.len] at hb2
  refine ⟨⟨h.ok.1, h.ok.2.1, fun q hq => ?_⟩, h.low, h.ne, h.gl, ?_, h.len, h.le, h.mx, h.size, hb2, fun i q y hq hy => ?_, ?_, fun hm => ?_, ?_⟩
  · rcases List.mem_append.1 hq with hq | hq
    · exact h.ok.2.2 q (List.mem_append_left _ hq)
    · rw [List.mem_singleton.1 hq]; exact hok
  · have := h.pb
    unfold Blk at this ⊢
    rw [hset gp h.ne, hg.block gp h.pb.lt (fun e => hgp e.symm)]
    exact this
  · by_cases hi : i < done.length
    · rw [List.getElem?_append_left hi] at hq
      rw [List.getElem?_append_left (by rw [h.len]; exact hi)] at hy
      have ho1 := h.own i q y (by rw [List.getElem?_append_left hi]; exact hq) (by rw [List.getElem?_append_left (by rw [h.len]; exact hi)]; exact hy)
      refine own_kept ho1 fun k hk => ?_
      have hkm : k ∈ g :: vs.filterMap Value.ownBlock := List.mem_cons_of_mem _ (List.mem_filterMap.2 ⟨y, List.mem_of_getElem? hy, hk⟩)
      rw [hset k (h.sep (i := i) (by rw [List.getElem?_append_left (by rw [h.len]; exact hi)]; exact hy) hk), hk1 k hkm]
    · have hi2 : i = done.length := by
        have := (List.getElem?_eq_some_iff.1 hq).1
        simp at this
        omega
      subst hi2
      rw [List.getElem?_append_right (Nat.le_refl _), Nat.sub_self] at hq
      rw [← h.len, List.getElem?_append_right (Nat.le_refl _), Nat.sub_self] at hy
      have hq2 : ({ p with al := al' } : PeerM) = q := by simpa using hq
      have hy2 : x' = y := by simpa using hy
      subst hq2 hy2
      exact own_kept ho fun k hk => hset k (hxg k hk)
  · rw [hB x', List.nodup_append]
    refine ⟨hsp.1, by cases x'.ownBlock <;> simp, fun a ha b hb e => ?_⟩
    subst e
    exact hx0 a ha (by
      cases hz : x'.ownBlock with
      | none => rw [hz] at hb; simp at hb
      | some k => rw [hz] at hb; simp at hb; rw [hb])
  · rw [List.filterMap_append] at hm
    rcases List.mem_append.1 hm with hm | hm
    · exact h.nin (by rw [List.filterMap_append]; exact List.mem_append_left _ hm)
    · obtain ⟨z, hz, hzk⟩ := List.mem_filterMap.1 hm
      rw [List.mem_singleton.1 hz] at hzk
      rcases hx with hx | hx
      · exact hgp (hx ▸ hzk)
      · rw [hx] at hzk
        injection hzk with hzk
        have := h.pb.lt
        omega
  · have hs := h.seen
    cases sn with
    | none => exact hs
    | some S =>
      obtain ⟨gm, h1, h2, h3, h4, h5, h6⟩ := hs
      have hgm0 : gm ∉ g :: vs.filterMap Value.ownBlock := fun e => h4 (by rw [hB x]; exact List.mem_append_left _ e)
      have hgx : x.ownBlock ≠ some gm := fun e => h4 (by rw [hB x, e]; simp)
      refine ⟨gm, h1, h2, h3, fun e => ?_, h5, h6.kept ?_⟩
      · rw [hB x'] at e
        rcases List.mem_append.1 e with e | e
        · exact hgm0 e
        · rcases hx with hx | hx
          · rw [hx] at e
            exact hgx (by
              cases hz : x.ownBlock with
              | none => rw [hz] at e; simp at e
              | some k => rw [hz] at e; simp at e; rw [e])
          · rw [hx] at e
            simp at e
            have := h6.lt
            omega
      · rw [hset gm (fun e => hgm0 (by rw [e]; exact List.mem_cons_self ..)), hg.block gm h6.lt (fun e => hgx e.symm)]
theorem LastV.later {m' : Nat} (h : LastV base gp m W c sn line mv g cp rest done vs p x) (hm : m ≤ m') : LastV base gp m' W c sn line mv g cp rest done vs p x := ⟨h.ok, h.low, h.ne, h.gl, h.pb, h.len, h.le, h.mx, h.size, h.blk, h.own, h.nd, h.nin, h.seen.mono hm⟩
end
end Go.Proofs.YtcbfchkhbngpkaaGreatDoor
namespace Go.Proofs.YtcbfchkhbngpkaaGreatDoor
open Go.RowKit

theorem count_split (c : UInt8) : ∀ (k : Nat) (l : List UInt8), l.length ≤ k → Lib.count l [c] + 1 = (splitB c l).length
  | 0, l, h => by
    obtain rfl : l = [] := List.eq_nil_of_length_eq_zero (by omega)
    rw [Lib.count_miss (by simp [Lib.index])]
    rfl
  | k + 1, l, h => by
    rcases index_at c l with ⟨h1, h2⟩ | ⟨a, r, rfl, h2, h3⟩
    · rw [Lib.count_miss h2, split_none h1]
      rfl
    · rw [Lib.count_hit (by simp) h3, split_at h2]
      have hd : (a ++ c :: r).drop (a.length + ([c] : List UInt8).length) = r := by
        rw [show a.length + ([c] : List UInt8).length = (a ++ [c]).length from by simp, show a ++ c :: r = (a ++ [c]) ++ r from by simp, List.drop_left]
      have ih := count_split c k r (by simp only [List.length_append, List.length_cons] at h; omega)
      rw [hd, List.length_cons]
      omega
theorem split_c (l : List UInt8) (ch : UInt8) (hl : l.length ≤ 1000000) (w : World) (hlv : LvCf w) :
    Calls Tryz.prog 152 #[.string ⟨l.toArray⟩, .string ⟨#[ch]⟩] w fun e w' => ∃ g, e = .returned (.slice (some ⟨g, 0, none⟩) (splitB ch l).length (splitB ch l).length) ∧ w.heap.size ≤ g ∧ g < w'.heap.size ∧ At w' g 0 ((splitB ch l).map strV) ∧ Below w.heap.size w w' := by
  obtain ⟨_, _, _, m, hm⟩ := hlv
  refine (sh_strings_Split ⟨l.toArray⟩ ⟨#[ch]⟩ m w (by rw [mk_size]; omega) hm (Nat.le_refl _)).mono ?_
  rintro e w' ⟨rfl, rfl⟩
  have hc : Lib.countB ⟨l.toArray⟩ ⟨#[ch]⟩ + 1 = (splitB ch l).length := by
    have h := count_split ch l.length l (Nat.le_refl _)
    exact h
  have hd := Lib.splitB_data ⟨#[ch]⟩ 0 (Lib.countB ⟨l.toArray⟩ ⟨#[ch]⟩) ⟨l.toArray⟩
  rw [mk_data] at hd
  have hk : Lib.splitK [ch] 0 (Lib.countB ⟨l.toArray⟩ ⟨#[ch]⟩) l = splitB ch l := by
    rcases splitK_cases ch (Lib.countB ⟨l.toArray⟩ ⟨#[ch]⟩) l with ⟨h, _⟩ | ⟨_, h, _⟩
    · exact h
    · omega
  have hd2 : (Lib.splitB ⟨#[ch]⟩ 0 (Lib.countB ⟨l.toArray⟩ ⟨#[ch]⟩) ⟨l.toArray⟩).map (·.data.toList) = splitB ch l := by rw [← hk]; exact hd
  have hmap : (splitB ch l).map strV = (Lib.splitB ⟨#[ch]⟩ 0 (Lib.countB ⟨l.toArray⟩ ⟨#[ch]⟩) ⟨l.toArray⟩).map Value.string := by
    rw [← hd2, List.map_map]
    exact List.map_congr_left fun x _ => by simp [strV]
  refine ⟨w.heap.size, by rw [hc], Nat.le_refl _, by simp, ?_, (Below.refl _ _).alloc (Nat.le_refl _) _⟩
  rw [hmap]
  intro j v hj
  rw [Nat.zero_add, World.cell?_alloc_at _ _ _ _ rfl]
  simpa using hj
end Go.Proofs.YtcbfchkhbngpkaaGreatDoor
namespace Go.Proofs.YtcbfchkhbngpkaaGreatDoor
open Go.RowKit

theorem eql_map_nil (m : Option Nat) (w : World) : (binOp .eql 81 (.map m) (.map none)).run Tryz.prog w = .ok (.bool m.isNone) w := by
  have h := run_equal_map_nil (P := Tryz.prog) w 81 9 4 m Tryz.underlying81
  simp [binOp, h, Result.andThen]
/-- a map is made and put into the parser -/
theorem made_map {base gp m : Nat} {W : World} {s : PsM} {line : Nat} {mv v : Value} {Bs : List Nat} (h : PsAt base gp m W s line mv v Bs) (hw : base ≤ W.heap.size) : PsAt base gp m ((W.alloc (.map #[] 0)).setCell ⟨gp, 35, none⟩ (.map (some W.heap.size))) ⟨s.conf, some []⟩ line (.map (some W.heap.size)) v Bs := by
  have hlt := h.blk.lt
  have h1 : PsAt base gp m (W.alloc (.map #[] 0)) s line mv v Bs := h.below ((Below.refl _ _).alloc (Nat.le_refl _) _)
  have hb := h1.blk.set_ 35 (.map (some W.heap.size))
  rw [psC_set_seen h.ok] at hb
  have hn := World.ownsMap_made W Tryz.prog 9 (plainElem (H := Unit) Tryz.prog 4)
  refine h.newMap hw rfl ⟨by simp, fun k hk hne => (Below.heap_setCell _ _ _ _ hne).trans (((Below.refl W.heap.size W).alloc (Nat.le_refl _) _).block k hk)⟩ ?_ hb
  exact NamesAt.kept (S := []) hn (Below.heap_setCell _ _ _ _ (by
    show W.heap.size ≠ gp
    omega))
set_option maxRecDepth 100000 in
set_option maxHeartbeats 8000000 in
theorem line_iface (w0 W : World) (gp m line : Nat) (s : PsM) (hb0 : Below w0.heap.size w0 W) (hp : PsA w0.heap.size gp m W s line) (h : s.seen = none) :
    Calls Tryz.prog 70 #[.pointer (some ⟨gp, 0, none⟩), .string ⟨tIface.toArray⟩] W fun e W' => e = .returned (.tuple #[]) ∧ PsA w0.heap.size gp (m + 1) W' ⟨s.conf, some []⟩ line ∧ Below w0.heap.size w0 W' := by
  obtain ⟨mv, v, Bs, hp⟩ := hp
  have hseen := hp.seen
  rw [h] at hseen
  obtain rfl : mv = .map none := hseen
  have HP := Lib.hid (hp.later (Nat.le_succ m))
  have HB := Lib.hid hb0
  have HPF := Lib.hid (fun W => hasPrefix_c tIface [35] W)
  have fs := hp.seenC
  have zx := hp.blk.frozen 35
  have hlt := hp.blk.lt
  have heq : ∀ W : World, (binOp .eql 81 (.map none) (.map none)).run Tryz.prog W = .ok (.bool true) W := fun W => eql_map_nil none W
  have hmm := @run_makeMap Tryz.prog
  clear hp hb0 h
  rw [show tIface.toArray = #[91, 73, 110, 116, 101, 114, 102, 97, 99, 101, 93] from rfl] at HPF ⊢
  go_enter Tryz.func70, Tryz.ntmps70
  go_wp2_with fail
  refine (HPF.out W).mono ?_
  rintro e w2 ⟨rfl, hb⟩
  replace HP := Lib.hid (HP.out.below hb)
  replace HB := Lib.hid (HB.out.trans (hb.mono HB.out.size))
  clear hb HPF fs zx hlt
  have fs := HP.out.seenC
  have zx := HP.out.blk.frozen 35
  rw [show ([35] : List UInt8).isPrefixOf tIface = false from by decide]
  go_wp2_with fail
  refine (require_true _).mono ?_
  rintro e w3 ⟨rfl, rfl⟩
  have HN := Lib.hid (made_map HP.out HB.out.size)
  have HB3 := Lib.hid (set_own (j := 35) (v := .map (some w3.heap.size)) (HB.out.alloc HB.out.size (.map #[] 0)) HP.out.low)
  have fs3 : (w3.alloc (.map #[] 0)).cell? ⟨gp, 35, none⟩ = some (.map none) := (cell_below fs ((Below.refl _ _).alloc (Nat.le_refl _) _))
  have zx3 : (w3.alloc (.map #[] 0)).frozen? ⟨gp, 35, none⟩ = false := (HP.out.below ((Below.refl _ _).alloc (Nat.le_refl _) (.map #[] 0))).blk.frozen 35
  clear fs zx
  go_wp2
  go_end0
  exact ⟨rfl, ⟨_, _, _, HN.out⟩, HB3.out⟩
end Go.Proofs.YtcbfchkhbngpkaaGreatDoor
namespace Go.Proofs.YtcbfchkhbngpkaaGreatDoor
open Go.RowKit

theorem dropWhile_le {α : Type} (p : α → Bool) (l : List α) : (l.dropWhile p).length ≤ l.length := (List.dropWhile_sublist p).length_le
theorem trimR_le (l cs : List UInt8) : (Lib.trimRightS l cs).length ≤ l.length := by
  unfold Lib.trimRightS
  have := dropWhile_le (cs.contains ·) l.reverse
  simpa using this
theorem trimL_le (l cs : List UInt8) : (Lib.trimLeftS l cs).length ≤ l.length := dropWhile_le _ l
theorem trim_le (l cs : List UInt8) : (Lib.trimS l cs).length ≤ l.length := Nat.le_trans (trimL_le _ _) (trimR_le _ _)
theorem cut_le (l p : List UInt8) : (Lib.cut l p).1.length ≤ l.length ∧ (Lib.cut l p).2.1.length ≤ l.length := by
  unfold Lib.cut
  split
  · simp only [List.length_take, List.length_drop]
    omega
  · simp
set_option maxRecDepth 100000 in
set_option maxHeartbeats 8000000 in
theorem line_entry (w0 W : World) (gp m line : Nat) (s t : PsM) (l : List UInt8) (hlv : LvCf w0) (hb0 : Below w0.heap.size w0 W) (hp : PsA w0.heap.size gp m W s line) (hl : l.length ≤ 4000)
    (h1 : ¬(l = [] ∨ l.head? = some 35)) (h2 : l ≠ tIface) (h3 : l ≠ tPeer) (h4 : (Lib.cut l [61]).2.2 = true)
    (HE : ∀ W', Below w0.heap.size w0 W' → PsA w0.heap.size gp m W' s line → Calls Tryz.prog 96 #[.pointer (some ⟨gp, 0, none⟩), .string ⟨(Lib.trimRightS (Lib.cut l [61]).1 bl2).toArray⟩, .string ⟨(Lib.trimLeftS (Lib.cut l [61]).2.1 bl2).toArray⟩] W' fun e W' => e = .returned (.tuple #[]) ∧ PsA w0.heap.size gp (m + 1) W' t line ∧ Below w0.heap.size w0 W') :
    Calls Tryz.prog 70 #[.pointer (some ⟨gp, 0, none⟩), .string ⟨l.toArray⟩] W fun e W' => e = .returned (.tuple #[]) ∧ PsA w0.heap.size gp (m + 1) W' t line ∧ Below w0.heap.size w0 W' := by
  have hle := cut_le l [61]
  have HP := Lib.hid hp
  have HB := Lib.hid hb0
  have hpf : ([35] : List UInt8).isPrefixOf l = false := by
    cases l with
    | nil => exact absurd (.inl rfl) h1
    | cons a r =>
      have : a ≠ 35 := fun e => h1 (.inr (by rw [e]; rfl))
      simp [List.isPrefixOf, Ne.symm this]
  obtain ⟨S, hS⟩ : ∃ S : ByteArray, ⟨l.toArray⟩ = S := ⟨_, rfl⟩
  have hpfc := fun W => hasPrefix_c l [35] W
  have hcut := fun W' (hb : Below w0.heap.size w0 W') => cut_c l [61] (by omega) W' (hlv.below hb)
  rw [hpf, hS] at hpfc
  rw [h4, hS] at hcut
  obtain ⟨q2, q3⟩ := text_eq S l [] hS false (decide_eq_false fun e => h1 (.inl e))
  obtain ⟨q4, q5⟩ := text_eq S l tIface hS false (decide_eq_false h2)
  obtain ⟨q6, q7⟩ := text_eq S l tPeer hS false (decide_eq_false h3)
  rw [show tIface = [91, 73, 110, 116, 101, 114, 102, 97, 99, 101, 93] from rfl] at q4 q5
  rw [show tPeer = [91, 80, 101, 101, 114, 93] from rfl] at q6 q7
  obtain ⟨nm, hnm⟩ : ∃ z, (Lib.cut l [61]).1 = z := ⟨_, rfl⟩
  obtain ⟨vl, hvl⟩ : ∃ z, (Lib.cut l [61]).2.1 = z := ⟨_, rfl⟩
  rw [hnm, hvl] at hle hcut HE
  have HLE := Lib.hid (And.intro hle hl)
  have HPF := Lib.hid hpfc
  have HCUT := Lib.hid hcut
  have HEN := Lib.hid HE
  obtain ⟨N, hN⟩ : ∃ S : ByteArray, ⟨nm.toArray⟩ = S := ⟨_, rfl⟩
  obtain ⟨V, hV⟩ : ∃ S : ByteArray, ⟨vl.toArray⟩ = S := ⟨_, rfl⟩
  have HN := Lib.hid hN
  have HV := Lib.hid hV
  rw [hS]
  clear hle hcut HE hpfc hS hpf h1 h2 h3 h4 hp hb0 hnm hvl hN hV hl hlv
  go_enter Tryz.func70, Tryz.ntmps70
  go_wp2_with fail
  refine (HPF.out W).mono ?_
  rintro e w2 ⟨rfl, hb⟩
  replace HP := Lib.hid (HP.out.below hb)
  replace HB := Lib.hid (HB.out.trans (hb.mono HB.out.size))
  clear hb HPF
  go_wp2_with fail
  have hc2 := HCUT.out _ HB.out
  rw [HN.out, HV.out] at hc2
  refine hc2.mono ?_
  rintro e w3 ⟨rfl, hb⟩
  replace HP := Lib.hid (HP.out.below hb)
  replace HB := Lib.hid (HB.out.trans (hb.mono HB.out.size))
  clear hb HCUT hc2
  go_wp2_with fail
  refine (require_true _).mono ?_
  rintro e w4 ⟨rfl, rfl⟩
  go_wp2_with fail
  have ht1 := trimR_c nm (by have := HLE.out; omega) w4
  rw [HN.out, show bl2.toArray = #[32, 9] from rfl] at ht1
  refine ht1.mono ?_
  rintro e w5 ⟨rfl, hb⟩
  replace HP := Lib.hid (HP.out.below hb)
  replace HB := Lib.hid (HB.out.trans (hb.mono HB.out.size))
  clear hb ht1
  go_wp2_with fail
  have ht2 := trimL_c vl (by have := HLE.out; omega) w5
  rw [HV.out, show bl2.toArray = #[32, 9] from rfl] at ht2
  refine ht2.mono ?_
  rintro e w6 ⟨rfl, hb⟩
  replace HP := Lib.hid (HP.out.below hb)
  replace HB := Lib.hid (HB.out.trans (hb.mono HB.out.size))
  clear hb ht2
  go_wp2_with fail
  refine (HEN.out w6 HB.out HP.out).mono ?_
  rintro e w7 ⟨rfl, hp7, hb7⟩
  have HP7 := Lib.hid hp7
  have HB7 := Lib.hid hb7
  clear hp7 hb7 HEN
  go_wp2
  go_end0
  exact ⟨rfl, HP7.out, HB7.out⟩
end Go.Proofs.YtcbfchkhbngpkaaGreatDoor
