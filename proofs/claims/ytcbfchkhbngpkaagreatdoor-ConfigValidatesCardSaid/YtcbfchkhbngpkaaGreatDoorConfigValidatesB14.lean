/-
  The contract of the reference's Format of configurations. The contract of an address that the statements are made of: Host. The sanity check of layer 13 holds, over what is asked of FormatPrefix and ParsePrefix. A slice built of arrays of one size, in a region that draws its order. No statement is proved here.
-/
import Derived.RegionTactic
import Derived.Deep.DeepCutAuto
import Derived.Test.YtcbfchkhbngpkaaGreatDoorConfigValidatesB13
namespace Go.Proofs.YtcbfchkhbngpkaaGreatDoor
open Go.RowKit

theorem refDec_int (n : Int) (h0 : 0 ≤ n) (h1 : n ≤ 9223372036854775807) (w : World) :
    Calls Tryz.prog 28 #[.int .i64 n] w fun e w' => e = .returned (.string ⟨(decT n.toNat).toArray⟩) ∧ Below w.heap.size w w' := by
  have h := refDecimal_any n.toNat (by omega) w
  rwa [Int.toNat_of_nonneg h0] at h
set_option maxRecDepth 100000 in
set_option maxHeartbeats 8000000 in
theorem refFormat_any (x : ConfM) (A : Option Addr) (n cap : Nat) (w : World) (hc : x.ok) (hr : PeRd w w.heap.size A n x.peers) (hn : n ≤ 1000) (ha : ∀ p ∈ x.peers, p.al.length ≤ 1000) (hcap : n ≤ cap) :
    Calls Tryz.prog 10 #[.agg (x.cells (.slice A n cap)).toArray] w fun e w' => e = .returned (.tuple #[.string ⟨(if validE x = 0 then fmtM x else []).toArray⟩, .int .i64 (validE x : Int)]) ∧ Below w.heap.size w w' := by
  have HC := Lib.hid hc
  have HR := Lib.hid hr
  have hva := fun W (hb : Below w.heap.size w W) => refValidate_any x A n cap W hc ((hr.below hb).mono hb.size) hn ha hcap
  have hu := conf_cellsOf x hc (.slice A n cap)
  obtain ⟨vE, hvE⟩ : ∃ z, validE x = z := ⟨_, rfl⟩
  obtain ⟨tx, htx0⟩ : ∃ z, (if validE x = 0 then fmtM x else []) = z := ⟨_, rfl⟩
  rw [htx0]
  rw [hvE] at hva ⊢
  have HVE := Lib.hid hvE
  have HTX0 := Lib.hid htx0
  clear hvE htx0
  obtain ⟨cs, hcs⟩ : ∃ z, x.cells (.slice A n cap) = z := ⟨_, rfl⟩
  have HCS := Lib.hid hcs
  rw [hcs] at hva hu ⊢
  obtain ⟨ca, hca⟩ : ∃ z, cs.toArray = z := ⟨_, rfl⟩
  rw [hca] at hva ⊢
  have HCA := Lib.hid hca
  have HVA := Lib.hid hva
  have HU := Lib.hid hu
  have hb0 := (Below.refl w.heap.size w).alloc (Nat.le_refl _) (.cells ca 27)
  have HB0 := Lib.hid hb0
  have HK0 := Lib.hid (show Blk (w.alloc (.cells ca 27)) w.heap.size 27 cs from by rw [← hca]; exact Blk.new w 27 cs)
  clear hc hr hva hu hcs hca hb0 hn ha hcap
  go_enter Tryz.func10, Tryz.ntmps10
  go_upto_region 1 with fail
  generalize w.alloc (.cells ca 27) = w1 at HB0 HK0 ⊢
  obtain ⟨g, hg⟩ : ∃ g, w.heap.size = g := ⟨_, rfl⟩
  have HKG := Lib.hid (show Blk w1 g 27 cs from by rw [← hg]; exact HK0.out)
  rw [hg]
  clear hg HK0
  have HAT := Lib.hid (fun (W : World) (h : Below w1.heap.size w1 W) => (show At W g 0 (x.cells (.slice A n cap)) from by rw [HCS.out]; exact (HKG.out.below h HKG.out.lt).all))
  go_wp2_with ((with_reducible refine at_op (.load 27 (.tmp 1)) rfl ?_); refine wpList_load_obj rfl 27 (.tmp 1) rfl g 0 rfl cs HKG.out.all _ Tryz.underlying27 rfl HU.out ?_; rw [HCA.out])
  refine (HVA.out _ HB0.out).mono ?_
  rintro e w2 ⟨rfl, hb⟩
  have HB1 := Lib.hid (show Below w1.heap.size w1 w2 from hb)
  clear hb HVA
  by_cases hv : vE = 0
  · obtain rfl := hv
    have HV := HVE
    have HTF := Lib.hid (show tx = fmtM x from by rw [← HTX0.out, if_pos HV.out])
    clear HTX0
    obtain ⟨pc, hpc⟩ : ∃ z, (x.priv.map u8v).toArray = z := ⟨_, rfl⟩
    have HPC := Lib.hid hpc
    have htx := fun W => refText_any x.priv HC.out.1 pc hpc.symm W
    have htl := textL_len x.priv HC.out.1
    obtain ⟨tp, htp⟩ : ∃ z, textL x.priv = z := ⟨_, rfl⟩
    rw [htp] at htx htl
    have HTX := Lib.hid htx
    have HTP := Lib.hid htp
    obtain ⟨hpo, hpn, hpa, hpr⟩ := validE_zero HV.out
    have hit := fun W => refDec_int x.port hpo.1 (by omega) W
    have hdl := decT_len x.port.toNat 10 (by omega) (by omega)
    obtain ⟨td, htd⟩ : ∃ z, decT x.port.toNat = z := ⟨_, rfl⟩
    rw [htd] at hit hdl
    have HIT := Lib.hid hit
    have HTD := Lib.hid htd
    have HVV := Lib.hid (And.intro hpn (And.intro hpa hpr))
    have HA1 := Lib.hid (fun W => add_text [91, 73, 110, 116, 101, 114, 102, 97, 99, 101, 93, 10, 80, 114, 105, 118, 97, 116, 101, 75, 101, 121, 32, 61, 32] tp (by simp) (by omega) W)
    have HA2 := Lib.hid (fun W => add_text ([91, 73, 110, 116, 101, 114, 102, 97, 99, 101, 93, 10, 80, 114, 105, 118, 97, 116, 101, 75, 101, 121, 32, 61, 32] ++ tp) [10, 76, 105, 115, 116, 101, 110, 80, 111, 114, 116, 32, 61, 32] (by simp; omega) (by simp) W)
    have HA3 := Lib.hid (fun W => add_text (([91, 73, 110, 116, 101, 114, 102, 97, 99, 101, 93, 10, 80, 114, 105, 118, 97, 116, 101, 75, 101, 121, 32, 61, 32] ++ tp) ++ [10, 76, 105, 115, 116, 101, 110, 80, 111, 114, 116, 32, 61, 32]) td (by simp; omega) (by omega) W)
    have HA4 := Lib.hid (fun W => add_text ((([91, 73, 110, 116, 101, 114, 102, 97, 99, 101, 93, 10, 80, 114, 105, 118, 97, 116, 101, 75, 101, 121, 32, 61, 32] ++ tp) ++ [10, 76, 105, 115, 116, 101, 110, 80, 111, 114, 116, 32, 61, 32]) ++ td) [10] (by simp; omega) (by simp) W)
    obtain ⟨s1, hs1⟩ : ∃ z, [91, 73, 110, 116, 101, 114, 102, 97, 99, 101, 93, 10, 80, 114, 105, 118, 97, 116, 101, 75, 101, 121, 32, 61, 32] ++ tp = z := ⟨_, rfl⟩
    rw [hs1] at HA1 HA2 HA3 HA4
    obtain ⟨s2, hs2⟩ : ∃ z, s1 ++ [10, 76, 105, 115, 116, 101, 110, 80, 111, 114, 116, 32, 61, 32] = z := ⟨_, rfl⟩
    rw [hs2] at HA2 HA3 HA4
    obtain ⟨s3, hs3⟩ : ∃ z, s2 ++ td = z := ⟨_, rfl⟩
    rw [hs3] at HA3 HA4
    obtain ⟨s4, hs4⟩ : ∃ z, s3 ++ [10] = z := ⟨_, rfl⟩
    rw [hs4] at HA4
    rw [show ([91, 73, 110, 116, 101, 114, 102, 97, 99, 101, 93, 10, 80, 114, 105, 118, 97, 116, 101, 75, 101, 121, 32, 61, 32] : List UInt8).toArray = #[91, 73, 110, 116, 101, 114, 102, 97, 99, 101, 93, 10, 80, 114, 105, 118, 97, 116, 101, 75, 101, 121, 32, 61, 32] from rfl] at HA1
    rw [show ([10, 76, 105, 115, 116, 101, 110, 80, 111, 114, 116, 32, 61, 32] : List UInt8).toArray = #[10, 76, 105, 115, 116, 101, 110, 80, 111, 114, 116, 32, 61, 32] from rfl] at HA2
    rw [show ([10] : List UInt8).toArray = #[10] from rfl] at HA4
    have HS4 := Lib.hid (show s4 = (tIface ++ [10]) ++ ((entT tPriv tp ++ [10]) ++ (entT tPort td ++ [10])) from by rw [← hs4, ← hs3, ← hs2, ← hs1]; simp [tIface, tPriv, tPort, entT])
    have HL4 := Lib.hid (show s4.length ≤ 500 from by rw [← hs4, ← hs3, ← hs2, ← hs1]; simp; omega)
    clear hpc htx htl htp hpo hpn hpa hpr hit hdl htd hs1 hs2 hs3 hs4
    have d0 : (((0 : Nat) : Int) != 0) = false := by decide
    go_upto_region 4 with fail
    clear d0
    go_cut [5] (fun v5 wx => v5 = .string ⟨s4.toArray⟩ ∧ Below w1.heap.size w1 wx)
    case first =>
      refine wp_region_held_drew (S := fun W' => Below w1.heap.size w1 W') (by kernel_rfl) (HB1.out.trans ((Below.refl _ _).drew.mono HB1.out.size)) (fun hHeld => ?_)
      generalize w2.drew = wd at hHeld ⊢
      refine take_first (v := ?_) 0 rfl (by kernel_rfl) (by kernel_rfl) (by kernel_rfl) (fun _ _ _ h => h) (Or.inl ⟨by rfl, ?_⟩) (by assumption) ?_
      rotate_left
      · (intro w hSw; (try dsimp only at hSw); go_simp; try with_reducible rfl)
      (try simp only [Act.put, List.setIfInBounds_toArray, List.set_cons_zero, List.set_cons_succ])
      refine take_first (v := .agg pc) 1 rfl (by kernel_rfl) (by kernel_rfl) (by kernel_rfl) (fun _ _ _ h => h) (by rw [← HPC.out]; exact yields_load_obj (by rfl) 24 (.tmp 15) rfl g 0 rfl _ (fun W hW => conf_priv (HAT.out W hW)) _ Tryz.underlying24 rfl (key_cellsOf _ HC.out.1)) (by assumption) ?_
      (try simp only [Act.put, List.setIfInBounds_toArray, List.set_cons_zero, List.set_cons_succ])
      refine take_first (v := ?_) 5 rfl (by kernel_rfl) (by kernel_rfl) (by kernel_rfl) (fun _ _ _ h => h) (Or.inl ⟨by rfl, ?_⟩) (by assumption) ?_
      rotate_left
      · (intro w hSw; (try dsimp only at hSw); go_simp; try with_reducible rfl)
      (try simp only [Act.put, List.setIfInBounds_toArray, List.set_cons_zero, List.set_cons_succ])
      refine take_first (v := ?_) 6 rfl (by kernel_rfl) (by kernel_rfl) (by kernel_rfl) (fun _ _ _ h => h) (Or.inl ⟨by rfl, ?_⟩) (by assumption) ?_
      rotate_left
      · (intro w hSw; (try dsimp only at hSw); have hpt := conf_port2 (HAT.out _ hSw) HC.out; go_simp; try with_reducible rfl)
      (try simp only [Act.put, List.setIfInBounds_toArray, List.set_cons_zero, List.set_cons_succ])
      refine step_one 2 rfl (by kernel_rfl) (fun K hK => ?_)
      go_simp
      refine (HTX.out _).mono ?_
      rintro e w3 ⟨rfl, hb⟩
      have hb2 := hHeld.trans (hb.mono hHeld.size)
      clear hb
      go_wp2_with fail
      refine hK.out _ _ hb2 (fun hHeld => ?_)
      clear hK K hb2
      (try simp only [Act.put, List.setIfInBounds_toArray, List.set_cons_zero, List.set_cons_succ])
      refine take_first (v := ?_) 3 rfl (by kernel_rfl) (by kernel_rfl) (by kernel_rfl) (fun _ _ _ h => h) (Or.inl ⟨by rfl, ?_⟩) (by assumption) ?_
      rotate_left
      · (intro w hSw; (try dsimp only at hSw); have had := HA1.out w; go_simp; try with_reducible rfl)
      (try simp only [Act.put, List.setIfInBounds_toArray, List.set_cons_zero, List.set_cons_succ])
      refine take_first (v := ?_) 4 rfl (by kernel_rfl) (by kernel_rfl) (by kernel_rfl) (fun _ _ _ h => h) (Or.inl ⟨by rfl, ?_⟩) (by assumption) ?_
      rotate_left
      · (intro w hSw; (try dsimp only at hSw); have had := HA2.out w; go_simp; try with_reducible rfl)
      (try simp only [Act.put, List.setIfInBounds_toArray, List.set_cons_zero, List.set_cons_succ])
      refine step_one 7 rfl (by kernel_rfl) (fun K hK => ?_)
      go_simp
      refine (HIT.out _).mono ?_
      rintro e w5 ⟨rfl, hb⟩
      have hb2 := hHeld.trans (hb.mono hHeld.size)
      clear hb
      go_wp2_with fail
      refine hK.out _ _ hb2 (fun hHeld => ?_)
      clear hK K hb2
      (try simp only [Act.put, List.setIfInBounds_toArray, List.set_cons_zero, List.set_cons_succ])
      refine take_first (v := ?_) 8 rfl (by kernel_rfl) (by kernel_rfl) (by kernel_rfl) (fun _ _ _ h => h) (Or.inl ⟨by rfl, ?_⟩) (by assumption) ?_
      rotate_left
      · (intro w hSw; (try dsimp only at hSw); have had := HA3.out w; go_simp; try with_reducible rfl)
      (try simp only [Act.put, List.setIfInBounds_toArray, List.set_cons_zero, List.set_cons_succ])
      refine take_first (v := ?_) 9 rfl (by kernel_rfl) (by kernel_rfl) (by kernel_rfl) (fun _ _ _ h => h) (Or.inl ⟨by rfl, ?_⟩) (by assumption) ?_
      rotate_left
      · (intro w hSw; (try dsimp only at hSw); have had := HA4.out w; go_simp; try with_reducible rfl)
      (try simp only [Act.put, List.setIfInBounds_toArray, List.set_cons_zero, List.set_cons_succ])
      refine take_first (v := ?_) 10 rfl (by kernel_rfl) (by kernel_rfl) (by kernel_rfl) (fun _ _ _ h => h) (Or.inl ⟨by rfl, ?_⟩) (by assumption) ?_
      rotate_left
      · (intro w hSw; (try dsimp only at hSw); go_simp; try with_reducible rfl)
      (try simp only [Act.put, List.setIfInBounds_toArray, List.set_cons_zero, List.set_cons_succ])
      refine wpAnyH_done (by kernel_rfl) ?_ _
      have HFN := Lib.hid hHeld
      clear hHeld
      go_wp2_with fail
      go_meet
      exact ⟨rfl, HFN.out⟩
    obtain ⟨rfl, hb⟩ := hcut
    have HB4 := Lib.hid hb
    have HLN := Lib.hid HR.out.len
    have HA := Lib.hid (show ∀ p ∈ x.peers, p.al.length ≤ 1000 from fun p hp => Nat.le_trans (HVV.out.2.1 p hp) (by omega))
    have HN8 := Lib.hid (show n ≤ 8 from by have := HLN.out; have := HVV.out.1; omega)
    have fo := conf_peersA (HAT.out _ hb) HC.out
    clear hb HA1 HA2 HA3 HA4 HTX HIT HPC HB1
    go_wp2_with fail
    clear fo
    go_loopw [5, 28] (fun v i wr => ∃ j : Nat, j ≤ n ∧ i = .int .i64 (j : Int) ∧ v = .string ⟨(s4 ++ (x.peers.take j).flatMap peerS).toArray⟩ ∧ Below w1.heap.size w1 wr) (fun _ i _ => n - (intOf i).toNat)
    case atStart => exact ⟨0, Nat.zero_le _, rfl, by simp, HB4.out⟩
    case round =>
      clear HB4
      obtain ⟨j, hj, rfl, rfl, hb⟩ := hrel
      have HB := Lib.hid hb
      clear hb
      obtain ⟨s0, hs0⟩ : ∃ z, s4 ++ (x.peers.take j).flatMap peerS = z := ⟨_, rfl⟩
      have HS0 := Lib.hid hs0
      rw [hs0]
      have HUL := Lib.hid (show s0.length ≤ 620000 from by
        have h1 := peersS_le (x.peers.take j) (fun p hp => ⟨HC.out.2.2 p (List.mem_of_mem_take hp), HVV.out.2.2 p (List.mem_of_mem_take hp), HVV.out.2.1 p (List.mem_of_mem_take hp)⟩)
        rw [List.length_take] at h1
        rw [← hs0, List.length_append]
        have := HL4.out
        have := HN8.out
        omega)
      clear hs0
      by_cases hjn : j < n
      · have d1 : decide ((j : Int) < (n : Int)) = true := by simp; omega
        obtain ⟨b, off, rfl⟩ := HR.out.addr (by omega)
        obtain ⟨p9, hp⟩ : ∃ p, x.peers[j]? = some p := ⟨x.peers[j]'(by rw [HLN.out]; omega), List.getElem?_eq_getElem _⟩
        obtain ⟨hpk, A9, c9, hcc, hcm, hpf, hbl, hat⟩ := HR.out.at j p9 hp
        have HP9 := Lib.hid (And.intro hp (And.intro hpk (HA.out p9 (List.mem_of_getElem? hp))))
        have HPF9 := Lib.hid hpf
        have HAT9 := Lib.hid (show At wr b (off + j * 85) (p9.cells (.slice A9 p9.al.length c9)) from fun q v hv => (World.cell?_of_block ((HB0.out.trans (HB.out.mono HB0.out.size)).block b hbl)).trans (hat q v hv))
        obtain ⟨oc9, hoc⟩ : ∃ z, (p9.cells (.slice A9 p9.al.length c9)).toArray = z := ⟨_, rfl⟩
        have HOC9 := Lib.hid hoc
        obtain ⟨zs, hzs⟩ : ∃ z, (#[.int .u8 0, .int .u8 0, .int .u8 0, .int .u8 0, .int .u8 0, .int .u8 0, .int .u8 0, .int .u8 0, .int .u8 0, .int .u8 0, .int .u8 0, .int .u8 0, .int .u8 0, .int .u8 0, .int .u8 0, .int .u8 0, .int .u8 0, .int .u8 0, .int .u8 0, .int .u8 0, .int .u8 0, .int .u8 0, .int .u8 0, .int .u8 0, .int .u8 0, .int .u8 0, .int .u8 0, .int .u8 0, .int .u8 0, .int .u8 0, .int .u8 0, .int .u8 0, .int .u8 0, .int .u8 0, .int .u8 0, .int .u8 0, .int .u8 0, .int .u8 0, .int .u8 0, .int .u8 0, .int .u8 0, .int .u8 0, .int .u8 0, .int .u8 0, .int .u8 0, .int .u8 0, .int .u8 0, .int .u8 0, .int .u8 0, .int .u8 0, .int .u8 0, .int .u8 0, .int .u8 0, .int .u8 0, .int .u8 0, .int .u8 0, .int .u8 0, .int .u8 0, .int .u8 0, .int .u8 0, .int .u8 0, .int .u8 0, .int .u8 0, .int .u8 0, .bool false, .bool false, .int .u8 0, .int .u8 0, .int .u8 0, .int .u8 0, .int .u8 0, .int .u8 0, .int .u8 0, .int .u8 0, .int .u8 0, .int .u8 0, .int .u8 0, .int .u8 0, .int .u8 0, .int .u8 0, .int .u8 0, .int .u8 0, .int .i64 0, .int .i64 0, .slice none 0 0] : Array Value).toList = z := ⟨_, rfl⟩
        have HZB := Lib.hid (show Blk (wr.alloc (.cells #[.int .u8 0, .int .u8 0, .int .u8 0, .int .u8 0, .int .u8 0, .int .u8 0, .int .u8 0, .int .u8 0, .int .u8 0, .int .u8 0, .int .u8 0, .int .u8 0, .int .u8 0, .int .u8 0, .int .u8 0, .int .u8 0, .int .u8 0, .int .u8 0, .int .u8 0, .int .u8 0, .int .u8 0, .int .u8 0, .int .u8 0, .int .u8 0, .int .u8 0, .int .u8 0, .int .u8 0, .int .u8 0, .int .u8 0, .int .u8 0, .int .u8 0, .int .u8 0, .int .u8 0, .int .u8 0, .int .u8 0, .int .u8 0, .int .u8 0, .int .u8 0, .int .u8 0, .int .u8 0, .int .u8 0, .int .u8 0, .int .u8 0, .int .u8 0, .int .u8 0, .int .u8 0, .int .u8 0, .int .u8 0, .int .u8 0, .int .u8 0, .int .u8 0, .int .u8 0, .int .u8 0, .int .u8 0, .int .u8 0, .int .u8 0, .int .u8 0, .int .u8 0, .int .u8 0, .int .u8 0, .int .u8 0, .int .u8 0, .int .u8 0, .int .u8 0, .bool false, .bool false, .int .u8 0, .int .u8 0, .int .u8 0, .int .u8 0, .int .u8 0, .int .u8 0, .int .u8 0, .int .u8 0, .int .u8 0, .int .u8 0, .int .u8 0, .int .u8 0, .int .u8 0, .int .u8 0, .int .u8 0, .int .u8 0, .int .i64 0, .int .i64 0, .slice none 0 0] 57)) wr.heap.size 57 zs from by rw [← hzs]; exact Blk.new wr 57 _)
        have HZL := Lib.hid (show zs.length = 85 from by rw [← hzs]; rfl)
        clear hp hpk hpf hbl hat hoc hcc hcm hzs
        go_upto_region 8 with (first | ((with_reducible refine at_op (.load 57 (.tmp 30)) rfl ?_); refine wpList_load_obj rfl 57 (.tmp 30) rfl b _ rfl _ HAT9.out _ Tryz.underlying57 rfl (peer_cellsOf p9 HP9.out.2.1 _) ?_; rw [HOC9.out]) | ((with_reducible refine at_op (.store 57 (.tmp 7) (.tmp 31)) rfl ?_); refine wpList_store_obj rfl 57 (.tmp 7) (.tmp 31) rfl wr.heap.size 0 (p9.cells (.slice A9 p9.al.length c9)) rfl (by show Value.agg oc9 = _; rw [HOC9.out]) 57 zs HZB.out (peer_cellsOf p9 HP9.out.2.1 _) (by rw [PeerM.cells_length HP9.out.2.1, HZL.out]; decide) (peer_one p9 A9 _ c9) ?_; intro w6 hb2 hg2))
        rw [setL_all zs _ (by rw [PeerM.cells_length HP9.out.2.1, HZL.out])] at hb2
        have hbl2 : Below wr.heap.size wr w6 := ((Below.refl _ _).alloc (Nat.le_refl _) _).grown hg2 (by simp) (by intro k hk; injection hk with hk; omega)
        have HBK9 := Lib.hid hb2
        have HW9 := Lib.hid (HB.out.trans (hbl2.mono HB.out.size))
        have HJ := Lib.hid hjn
        generalize wr.heap.size = g7 at HBK9 ⊢
        clear hb2 hg2 hbl2 HZB HZL HAT9 HB
        have HPR := Lib.hid (And.intro (HVV.out.2.2 p9 (List.mem_of_getElem? HP9.out.1)) (HVV.out.2.1 p9 (List.mem_of_getElem? HP9.out.1)))
        obtain ⟨kc, hkc⟩ : ∃ z, (p9.pub.map u8v).toArray = z := ⟨_, rfl⟩
        have HKC := Lib.hid hkc
        have htx := fun W => refText_any p9.pub HP9.out.2.1.1 kc hkc.symm W
        have htl := textL_len p9.pub HP9.out.2.1.1
        obtain ⟨tq, htq⟩ : ∃ z, textL p9.pub = z := ⟨_, rfl⟩
        rw [htq] at htx htl
        have HTQ := Lib.hid htq
        have HTX := Lib.hid htx
        clear hkc htx htq
        have HA1 := Lib.hid (fun W => add_text [10, 91, 80, 101, 101, 114, 93, 10, 80, 117, 98, 108, 105, 99, 75, 101, 121, 32, 61, 32] tq (by simp) (by omega) W)
        have HA2 := Lib.hid (fun W => add_text ([10, 91, 80, 101, 101, 114, 93, 10, 80, 117, 98, 108, 105, 99, 75, 101, 121, 32, 61, 32] ++ tq) [10] (by simp; omega) (by simp) W)
        have HA3 := Lib.hid (fun W => add_text s0 (([10, 91, 80, 101, 101, 114, 93, 10, 80, 117, 98, 108, 105, 99, 75, 101, 121, 32, 61, 32] ++ tq) ++ [10]) (by have := HUL.out; omega) (by simp; omega) W)
        obtain ⟨a1, ha1⟩ : ∃ z, [10, 91, 80, 101, 101, 114, 93, 10, 80, 117, 98, 108, 105, 99, 75, 101, 121, 32, 61, 32] ++ tq = z := ⟨_, rfl⟩
        rw [ha1] at HA1 HA2 HA3
        obtain ⟨a2, ha2⟩ : ∃ z, a1 ++ [10] = z := ⟨_, rfl⟩
        rw [ha2] at HA2 HA3
        obtain ⟨u2, hu2⟩ : ∃ z, s0 ++ a2 = z := ⟨_, rfl⟩
        rw [hu2] at HA3
        rw [show ([10, 91, 80, 101, 101, 114, 93, 10, 80, 117, 98, 108, 105, 99, 75, 101, 121, 32, 61, 32] : List UInt8).toArray = #[10, 91, 80, 101, 101, 114, 93, 10, 80, 117, 98, 108, 105, 99, 75, 101, 121, 32, 61, 32] from rfl] at HA1
        rw [show ([10] : List UInt8).toArray = #[10] from rfl] at HA2
        have HU2 := Lib.hid (show u2 = s0 ++ ([10] ++ (tPeer ++ [10]) ++ (entT tPub tq ++ [10])) from by rw [← hu2, ← ha2, ← ha1]; simp [entT, tPeer, tPub])
        have HUL2 := Lib.hid (show u2.length ≤ s0.length + 11010 from by rw [← hu2, ← ha2, ← ha1]; simp; omega)
        clear ha1 ha2 hu2
        have had1 := HA1.out
        have had2 := HA2.out
        have had3 := HA3.out
        clear htl
        go_wp2_with ((with_reducible refine at_op (.load 24 (.tmp 33)) rfl ?_); refine wpList_load_obj rfl 24 (.tmp 33) rfl g7 0 rfl (p9.pub.map u8v) (peer_pubB HBK9.out.all) _ Tryz.underlying24 rfl (key_cellsOf _ HP9.out.2.1.1) ?_; rw [HKC.out])
        refine (HTX.out _).mono ?_
        rintro e w7 ⟨rfl, hb⟩
        have HB7 := Lib.hid (HW9.out.trans (hb.mono HW9.out.size))
        have HK7 := Lib.hid (HBK9.out.below hb HBK9.out.lt)
        clear hb HTX HW9 HBK9
        go_upto_region 9 with fail
        clear had1 had2 had3 HA1 HA2 HA3
        obtain ⟨u, hu⟩ : ∃ z, u2 = z := ⟨_, rfl⟩
        have HUE2 := Lib.hid hu
        have HUL := Lib.hid (show u.length ≤ 631010 from by rw [← hu]; have := HUL.out; have := HUL2.out; omega)
        rw [hu]
        clear hu
        obtain ⟨y2, hy⟩ : ∃ z, (if p9.sha = List.replicate 32 0 then [] else entT tSha (textL p9.sha) ++ [10]) = z := ⟨_, rfl⟩
        have HY2 := Lib.hid hy
        clear hy
        have HYL2 := Lib.hid (show y2.length ≤ 11010 from by rw [← HY2.out]; exact if_len (by have := entT_len tSha (textL p9.sha) (by decide) (by have := textL_len p9.sha HP9.out.2.1.2.1; omega); simp only [List.length_append, List.length_cons, List.length_nil]; omega))
        obtain ⟨sc, hsc⟩ : ∃ z, (p9.sha.map u8v).toArray = z := ⟨_, rfl⟩
        obtain ⟨zk, hzk⟩ : ∃ z, ((List.replicate 32 (0 : UInt8)).map u8v).toArray = z := ⟨_, rfl⟩
        have HSC := Lib.hid hsc
        have HBZ := Lib.hid (show Tryz.prog.built 24 [] = some zk from by rw [← hzk]; kernel_rfl)
        have heq := fun W => key_eq p9.sha (List.replicate 32 0) HP9.out.2.1.2.1 (by simp) W
        rw [hsc, hzk] at heq
        have HTX := Lib.hid (fun W => refText_any p9.sha HP9.out.2.1.2.1 sc hsc.symm W)
        obtain ⟨b1, hb1⟩ : ∃ b, decide (p9.sha = List.replicate 32 0) = b := ⟨_, rfl⟩
        rw [hb1] at heq
        have HEQ := Lib.hid heq
        have HBB := Lib.hid hb1
        clear hsc hzk heq hb1
        go_upto_if 42 with (first | ((with_reducible refine at_op (.load 24 (.tmp 39)) rfl ?_); refine wpList_load_obj rfl 24 (.tmp 39) rfl g7 32 rfl (p9.sha.map u8v) (by simpa using peer_sha HK7.out.all HP9.out.2.1) _ Tryz.underlying24 rfl (key_cellsOf _ HP9.out.2.1.2.1) ?_; rw [HSC.out]) | (refine wpList_build_as rfl 24 [] rfl zk ?_ ?_; exact HBZ.out) | (refine wpList_neq_agg (by rfl) 24 24 40 41 rfl sc zk b1 rfl rfl key_noguard (HEQ.out _) ?_))
        (try simp only [Act.put, List.setIfInBounds_toArray, List.set_cons_zero, List.set_cons_succ])
        go_cut [5] (fun v5 wx => v5 = .string ⟨(u ++ y2).toArray⟩ ∧ Below w1.heap.size w1 wx ∧ Blk wx g7 57 (p9.cells (.slice A9 p9.al.length c9)))
        case first =>
         cases b1 with
         | true =>
          have HEE := Lib.hid (show y2 = [] from by rw [← HY2.out]; rw [if_pos (of_decide_eq_true HBB.out)])
          go_wp2_with fail
          go_meet
          exact ⟨by rw [HEE.out, List.append_nil], HB7.out, HK7.out⟩
         | false =>
          have htl := textL_len p9.sha HP9.out.2.1.2.1
          obtain ⟨tq2, htq⟩ : ∃ z, textL p9.sha = z := ⟨_, rfl⟩
          rw [htq] at htl HTX
          have HTQ2 := Lib.hid htq
          clear htq
          have HA1 := Lib.hid (fun W => add_text [80, 114, 101, 115, 104, 97, 114, 101, 100, 75, 101, 121, 32, 61, 32] tq2 (by simp) (by omega) W)
          have HA2 := Lib.hid (fun W => add_text ([80, 114, 101, 115, 104, 97, 114, 101, 100, 75, 101, 121, 32, 61, 32] ++ tq2) [10] (by simp; omega) (by simp) W)
          have HA3 := Lib.hid (fun W => add_text u (([80, 114, 101, 115, 104, 97, 114, 101, 100, 75, 101, 121, 32, 61, 32] ++ tq2) ++ [10]) (by have := HUL.out; omega) (by simp; omega) W)
          obtain ⟨a1, ha1⟩ : ∃ z, [80, 114, 101, 115, 104, 97, 114, 101, 100, 75, 101, 121, 32, 61, 32] ++ tq2 = z := ⟨_, rfl⟩
          rw [ha1] at HA1 HA2 HA3
          obtain ⟨a2, ha2⟩ : ∃ z, a1 ++ [10] = z := ⟨_, rfl⟩
          rw [ha2] at HA2 HA3
          obtain ⟨u2, hu2⟩ : ∃ z, u ++ a2 = z := ⟨_, rfl⟩
          rw [hu2] at HA3
          rw [show ([80, 114, 101, 115, 104, 97, 114, 101, 100, 75, 101, 121, 32, 61, 32] : List UInt8).toArray = #[80, 114, 101, 115, 104, 97, 114, 101, 100, 75, 101, 121, 32, 61, 32] from rfl] at HA1
          rw [show ([10] : List UInt8).toArray = #[10] from rfl] at HA2
          have HU2 := Lib.hid (show u2 = u ++ (entT tSha tq2 ++ [10]) from by rw [← hu2, ← ha2, ← ha1]; simp [entT, tSha])
          have HUL2 := Lib.hid (show u2.length ≤ u.length + 11010 from by rw [← hu2, ← ha2, ← ha1]; simp; omega)
          clear ha1 ha2 hu2
          have had1 := HA1.out
          have had2 := HA2.out
          have had3 := HA3.out
          have HYX := Lib.hid (show u ++ y2 = u2 from by rw [HU2.out, ← HY2.out, if_neg (of_decide_eq_false HBB.out), HTQ2.out])
          clear htl
          go_wp2_with ((with_reducible refine at_op (.load 24 (.tmp 44)) rfl ?_); refine wpList_load_obj rfl 24 (.tmp 44) rfl g7 32 rfl (p9.sha.map u8v) (by simpa using peer_sha HK7.out.all HP9.out.2.1) _ Tryz.underlying24 rfl (key_cellsOf _ HP9.out.2.1.2.1) ?_; rw [HSC.out])
          refine (HTX.out _).mono ?_
          rintro e w8 ⟨rfl, hb⟩
          have HB8 := Lib.hid (HB7.out.trans (hb.mono HB7.out.size))
          have HK8 := Lib.hid (HK7.out.below hb HK7.out.lt)
          clear hb
          go_wp2_with fail
          go_meet
          exact ⟨by rw [HYX.out], HB8.out, HK8.out⟩
        obtain ⟨rfl, hb, hk⟩ := hcut
        have HB7 := Lib.hid hb
        have HK7 := Lib.hid hk
        have HULp := HUL
        have HYL := Lib.hid (show y2.length ≤ 11010 from HYL2.out)
        clear hb hk
        clear HTX HEQ HBB HBZ HSC
        obtain ⟨u, hu⟩ : ∃ z, u ++ y2 = z := ⟨_, rfl⟩
        have HUE3 := Lib.hid hu
        have HUL := Lib.hid (show u.length ≤ 642020 from by rw [← hu]; rw [List.length_append]; have := HULp.out; have := HYL.out; omega)
        rw [hu]
        clear hu
        obtain ⟨y3, hy⟩ : ∃ z, (if p9.hasE then entT tEnd (endT p9.ea p9.ep) ++ [10] else []) = z := ⟨_, rfl⟩
        have HY3 := Lib.hid hy
        clear hy
        have HEPL := Lib.hid (fun (h : p9.hasE = true) => endT_le p9.ea p9.ep (rightE_port HPR.out.1 h))
        have HYL3 := Lib.hid (show y3.length ≤ 11010 from by
          rw [← HY3.out]
          split
          · rename_i hh
            have h1 := HEPL.out hh
            have h2 := entT_len tEnd (endT p9.ea p9.ep) (by decide) (by omega)
            simp only [List.length_append, List.length_cons, List.length_nil]
            omega
          · simp)
        have fo := peer_has HK7.out.all HP9.out.2.1
        rw [Nat.zero_add] at fo
        obtain ⟨b1, hb1⟩ : ∃ b, p9.hasE = b := ⟨_, rfl⟩
        rw [hb1] at fo
        have HBB := Lib.hid hb1
        clear hb1
        go_upto_if 51 with fail
        clear fo
        go_cut [5] (fun v5 wx => v5 = .string ⟨(u ++ y3).toArray⟩ ∧ Below w1.heap.size w1 wx ∧ Blk wx g7 57 (p9.cells (.slice A9 p9.al.length c9)))
        case first =>
         cases b1 with
         | false =>
          have HEE := Lib.hid (show y3 = [] from by rw [← HY3.out]; rw [HBB.out]; rfl)
          go_wp2_with fail
          go_meet
          exact ⟨by rw [HEE.out, List.append_nil], HB7.out, HK7.out⟩
         | true =>
          have htl := HEPL.out HBB.out
          obtain ⟨ec, hec⟩ : ∃ z, (prefC p9.ea p9.ep).toArray = z := ⟨_, rfl⟩
          have htx := fun W => refFmtEnd_any p9.ea HP9.out.2.1.2.2.1 p9.ep W
          obtain ⟨tq3, htq⟩ : ∃ z, endT p9.ea p9.ep = z := ⟨_, rfl⟩
          rw [htq] at htl htx
          rw [hec] at htx
          have HTX := Lib.hid htx
          have HEC := Lib.hid hec
          have HTQ3 := Lib.hid htq
          clear htq hec htx
          have HA1 := Lib.hid (fun W => add_text [69, 110, 100, 112, 111, 105, 110, 116, 32, 61, 32] tq3 (by simp) (by omega) W)
          have HA2 := Lib.hid (fun W => add_text ([69, 110, 100, 112, 111, 105, 110, 116, 32, 61, 32] ++ tq3) [10] (by simp; omega) (by simp) W)
          have HA3 := Lib.hid (fun W => add_text u (([69, 110, 100, 112, 111, 105, 110, 116, 32, 61, 32] ++ tq3) ++ [10]) (by have := HUL.out; omega) (by simp; omega) W)
          obtain ⟨a1, ha1⟩ : ∃ z, [69, 110, 100, 112, 111, 105, 110, 116, 32, 61, 32] ++ tq3 = z := ⟨_, rfl⟩
          rw [ha1] at HA1 HA2 HA3
          obtain ⟨a2, ha2⟩ : ∃ z, a1 ++ [10] = z := ⟨_, rfl⟩
          rw [ha2] at HA2 HA3
          obtain ⟨u2, hu2⟩ : ∃ z, u ++ a2 = z := ⟨_, rfl⟩
          rw [hu2] at HA3
          rw [show ([69, 110, 100, 112, 111, 105, 110, 116, 32, 61, 32] : List UInt8).toArray = #[69, 110, 100, 112, 111, 105, 110, 116, 32, 61, 32] from rfl] at HA1
          rw [show ([10] : List UInt8).toArray = #[10] from rfl] at HA2
          have HU2 := Lib.hid (show u2 = u ++ (entT tEnd tq3 ++ [10]) from by rw [← hu2, ← ha2, ← ha1]; simp [entT, tEnd])
          have HUL2 := Lib.hid (show u2.length ≤ u.length + 11010 from by rw [← hu2, ← ha2, ← ha1]; simp; omega)
          clear ha1 ha2 hu2
          have had1 := HA1.out
          have had2 := HA2.out
          have had3 := HA3.out
          have HYX := Lib.hid (show u ++ y3 = u2 from by rw [HU2.out, ← HY3.out, if_pos HBB.out, HTQ3.out])
          clear htl
          go_wp2_with ((with_reducible refine at_op (.load 55 (.tmp 53)) rfl ?_); refine wpList_load_obj rfl 55 (.tmp 53) rfl g7 65 rfl (prefC p9.ea p9.ep) (by simpa using peer_end HK7.out.all HP9.out.2.1) _ Tryz.underlying55 rfl (end_cellsOf p9.ea HP9.out.2.1.2.2.1 p9.ep) ?_; rw [HEC.out])
          refine (HTX.out _).mono ?_
          rintro e w8 ⟨rfl, hb⟩
          have HB8 := Lib.hid (HB7.out.trans (hb.mono HB7.out.size))
          have HK8 := Lib.hid (HK7.out.below hb HK7.out.lt)
          clear hb
          go_wp2_with fail
          go_meet
          exact ⟨by rw [HYX.out], HB8.out, HK8.out⟩
        obtain ⟨rfl, hb, hk⟩ := hcut
        have HB7 := Lib.hid hb
        have HK7 := Lib.hid hk
        have HULp := HUL
        have HYL := Lib.hid (show y3.length ≤ 11010 from HYL3.out)
        clear hb hk
        obtain ⟨u, hu⟩ : ∃ z, u ++ y3 = z := ⟨_, rfl⟩
        have HUE4 := Lib.hid hu
        have HUL := Lib.hid (show u.length ≤ 653030 from by rw [← hu]; rw [List.length_append]; have := HULp.out; have := HYL.out; omega)
        rw [hu]
        clear hu
        obtain ⟨y4, hy⟩ : ∃ z, (if p9.keep = 0 then [] else entT tKeep (decT p9.keep.toNat) ++ [10]) = z := ⟨_, rfl⟩
        have HY4 := Lib.hid hy
        clear hy
        have fo := peer_keep HK7.out.all HP9.out.2.1
        rw [Nat.zero_add] at fo
        obtain ⟨kp, hkp⟩ : ∃ z, p9.keep = z := ⟨_, rfl⟩
        rw [hkp] at fo HY4
        have HKR := Lib.hid (show 0 ≤ kp ∧ kp ≤ 1073741824 from by rw [← hkp]; exact rightK_le HPR.out.1)
        have HKP := Lib.hid hkp
        have HYL4 := Lib.hid (show y4.length ≤ 11010 from by rw [← HY4.out]; exact if_len (by have h1 := decT_len kp.toNat 10 (by omega) (by have := HKR.out; omega); have := entT_len tKeep (decT kp.toNat) (by decide) (by omega); simp only [List.length_append, List.length_cons, List.length_nil]; omega))
        clear hkp
        go_upto_if 61 with fail
        clear fo
        obtain ⟨b1, hb1⟩ : ∃ b, (kp != 0) = b := ⟨_, rfl⟩
        rw [hb1]
        have HBB := Lib.hid hb1
        clear hb1
        go_cut [5] (fun v5 wx => v5 = .string ⟨(u ++ y4).toArray⟩ ∧ Below w1.heap.size w1 wx ∧ Blk wx g7 57 (p9.cells (.slice A9 p9.al.length c9)))
        case first =>
         cases b1 with
         | false =>
          have HEE := Lib.hid (show y4 = [] from by rw [← HY4.out]; rw [if_pos (by simpa using HBB.out)])
          go_wp2_with fail
          go_meet
          exact ⟨by rw [HEE.out, List.append_nil], HB7.out, HK7.out⟩
         | true =>
          have HNE := Lib.hid (show ¬ kp = 0 from by simpa using HBB.out)
          have fo := peer_keep HK7.out.all HP9.out.2.1
          rw [Nat.zero_add, HKP.out] at fo
          have htl := decT_len kp.toNat 10 (by omega) (by have := HKR.out; omega)
          have htx := fun W => refDec_int kp HKR.out.1 (by have := HKR.out; omega) W
          obtain ⟨tq4, htq⟩ : ∃ z, decT kp.toNat = z := ⟨_, rfl⟩
          rw [htq] at htl htx
          have HTX := Lib.hid htx
          have HTQ4 := Lib.hid htq
          clear htq htx
          have HA1 := Lib.hid (fun W => add_text [80, 101, 114, 115, 105, 115, 116, 101, 110, 116, 75, 101, 101, 112, 97, 108, 105, 118, 101, 32, 61, 32] tq4 (by simp) (by omega) W)
          have HA2 := Lib.hid (fun W => add_text ([80, 101, 114, 115, 105, 115, 116, 101, 110, 116, 75, 101, 101, 112, 97, 108, 105, 118, 101, 32, 61, 32] ++ tq4) [10] (by simp; omega) (by simp) W)
          have HA3 := Lib.hid (fun W => add_text u (([80, 101, 114, 115, 105, 115, 116, 101, 110, 116, 75, 101, 101, 112, 97, 108, 105, 118, 101, 32, 61, 32] ++ tq4) ++ [10]) (by have := HUL.out; omega) (by simp; omega) W)
          obtain ⟨a1, ha1⟩ : ∃ z, [80, 101, 114, 115, 105, 115, 116, 101, 110, 116, 75, 101, 101, 112, 97, 108, 105, 118, 101, 32, 61, 32] ++ tq4 = z := ⟨_, rfl⟩
          rw [ha1] at HA1 HA2 HA3
          obtain ⟨a2, ha2⟩ : ∃ z, a1 ++ [10] = z := ⟨_, rfl⟩
          rw [ha2] at HA2 HA3
          obtain ⟨u2, hu2⟩ : ∃ z, u ++ a2 = z := ⟨_, rfl⟩
          rw [hu2] at HA3
          rw [show ([80, 101, 114, 115, 105, 115, 116, 101, 110, 116, 75, 101, 101, 112, 97, 108, 105, 118, 101, 32, 61, 32] : List UInt8).toArray = #[80, 101, 114, 115, 105, 115, 116, 101, 110, 116, 75, 101, 101, 112, 97, 108, 105, 118, 101, 32, 61, 32] from rfl] at HA1
          rw [show ([10] : List UInt8).toArray = #[10] from rfl] at HA2
          have HU2 := Lib.hid (show u2 = u ++ (entT tKeep tq4 ++ [10]) from by rw [← hu2, ← ha2, ← ha1]; simp [entT, tKeep])
          have HUL2 := Lib.hid (show u2.length ≤ u.length + 11010 from by rw [← hu2, ← ha2, ← ha1]; simp; omega)
          clear ha1 ha2 hu2
          have had1 := HA1.out
          have had2 := HA2.out
          have had3 := HA3.out
          have HYX := Lib.hid (show u ++ y4 = u2 from by rw [HU2.out, ← HY4.out, if_neg HNE.out, HTQ4.out])
          clear htl
          go_wp2_with fail
          refine (HTX.out _).mono ?_
          rintro e w8 ⟨rfl, hb⟩
          have HB8 := Lib.hid (HB7.out.trans (hb.mono HB7.out.size))
          have HK8 := Lib.hid (HK7.out.below hb HK7.out.lt)
          clear hb
          go_wp2_with fail
          go_meet
          exact ⟨by rw [HYX.out], HB8.out, HK8.out⟩
        obtain ⟨rfl, hb, hk⟩ := hcut
        have HB7 := Lib.hid hb
        have HK7 := Lib.hid hk
        have HULp := HUL
        have HYL := Lib.hid (show y4.length ≤ 11010 from HYL4.out)
        clear hb hk
        obtain ⟨u, hu⟩ : ∃ z, u ++ y4 = z := ⟨_, rfl⟩
        have HUE5 := Lib.hid hu
        have HUL := Lib.hid (show u.length ≤ 670000 from by rw [← hu, List.length_append]; have := HULp.out; have := HYL.out; omega)
        rw [hu]
        clear hu
        have HFIN := Lib.hid (show s0 ++ peerS p9 = u ++ (if p9.al.length = 0 then [] else entT tAll (psT p9.al) ++ [10]) from by
          rw [peerS_parts, ← HUE5.out, ← HUE4.out, ← HUE3.out, ← HUE2.out, HU2.out, ← HY2.out, ← HY3.out, ← HY4.out, ← HTQ.out, ← HKP.out]
          simp only [List.append_assoc])
        have fa := peer_al HK7.out HP9.out.2.1
        have HAL := Lib.hid (show ∀ i, (alT p9.al i).length ≤ 10100 from fun i => alT_le p9.al i HPR.out.2 (fun q hq => (HP9.out.2.1.2.2.2.2.2 q hq).2.2))
        obtain ⟨na, hna⟩ : ∃ z, p9.al.length = z := ⟨_, rfl⟩
        have HNA := Lib.hid hna
        rw [hna] at fa
        have HPF := Lib.hid (show PfRd w w.heap.size A9 na p9.al from by rw [← hna]; exact HPF9.out)
        have HN16 := Lib.hid (show na ≤ 16 from by rw [← hna]; exact HPR.out.2)
        clear hna
        go_wp2_with fail
        clear fa
        go_loopw [5, 72] (fun v i wr => ∃ m : Nat, m ≤ na ∧ i = .int .i64 (m : Int) ∧ v = .string ⟨(u ++ alT p9.al m).toArray⟩ ∧ Below w1.heap.size w1 wr ∧ Blk wr g7 57 (p9.cells (.slice A9 p9.al.length c9))) (fun _ i _ => na - (intOf i).toNat)
        case atStart => exact ⟨0, Nat.zero_le _, rfl, by rw [alT_zero, List.append_nil], HB7.out, HK7.out⟩
        case round =>
          clear HB7 HK7
          obtain ⟨m, hm, rfl, rfl, hb, hk⟩ := hrel
          obtain ⟨vt, hvt⟩ : ∃ z, u ++ alT p9.al m = z := ⟨_, rfl⟩
          have HVT := Lib.hid hvt
          have HVL := Lib.hid (show vt.length ≤ 690000 from by rw [← hvt, List.length_append]; have := HUL.out; have := HAL.out m; omega)
          rw [hvt]
          have HBM := Lib.hid hb
          have HKM := Lib.hid hk
          clear hvt hb hk
          by_cases hmn : m < na
          · have d1 : decide ((m : Int) < (na : Int)) = true := by simp; omega
            obtain ⟨bb, oo, rfl⟩ := HPF.out.1.addr (by omega)
            obtain ⟨q, hq⟩ : ∃ q, p9.al[m]? = some q := ⟨p9.al[m]'(by rw [HNA.out]; exact hmn), List.getElem?_eq_getElem _⟩
            have hok := HPF.out.2 q (List.mem_of_getElem? hq)
            have hat := HPF.out.1.at m (prefC q.1 q.2) (by rw [pfsV, List.getElem?_map, hq]; rfl)
            have HATQ := Lib.hid (hat.2.mono (HB0.out.trans (HBM.out.mono HB0.out.size)) hat.1)
            have HQ := Lib.hid (And.intro hq hok)
            obtain ⟨oq, hoq⟩ : ∃ z, (prefC q.1 q.2).toArray = z := ⟨_, rfl⟩
            have HOQ := Lib.hid hoq
            have HZB := Lib.hid (show Blk (wr.alloc (.cells (prefC addr0 0).toArray 60)) wr.heap.size 60 (prefC addr0 0) from Blk.new wr 60 (prefC addr0 0))
            have hal := (Below.refl wr.heap.size wr).alloc (Nat.le_refl _) (.cells (prefC addr0 0).toArray 60)
            have htx := fun W => refFmtPref_any q.1 hok.1 q.2 hok.2.1 hok.2.2 W
            have htl := prefT_le q.1 q.2 hok.2.2
            obtain ⟨tq, htq⟩ : ∃ z, prefT q.1 q.2 = z := ⟨_, rfl⟩
            rw [htq] at htx htl
            rw [hoq] at htx
            have HTX := Lib.hid htx
            have HTQ := Lib.hid htq
            clear hq hok hat hoq htx htq
            go_upto_region 18 with (first | ((with_reducible refine at_op (.load 60 (.tmp 75)) rfl ?_); refine wpList_load_obj rfl 60 (.tmp 75) rfl bb _ rfl _ HATQ.out _ Tryz.underlying60 rfl (pref_cellsOf' q.1 HQ.out.2.1 q.2) ?_; rw [HOQ.out]) | ((with_reducible refine at_op (.store 60 (.tmp 9) (.tmp 76)) rfl ?_); refine wpList_store_obj rfl 60 (.tmp 9) (.tmp 76) rfl wr.heap.size 0 (prefC q.1 q.2) rfl (by show Value.agg oq = _; rw [HOQ.out]) 60 (prefC addr0 0) HZB.out (pref_cellsOf' q.1 HQ.out.2.1 q.2) (by rw [prefC_length q.1 HQ.out.2.1]; decide) (pref_oneR q.1 q.2) ?_; intro w9 hb9 hg9))
            rw [setL_all _ _ (by rw [prefC_length q.1 HQ.out.2.1]; rfl)] at hb9
            have hbl9 : Below wr.heap.size wr w9 := hal.grown hg9 (by simp) (by intro k hk; injection hk with hk; omega)
            have HB9 := Lib.hid hb9
            have HBX := Lib.hid (HBM.out.trans (hbl9.mono HBM.out.size))
            have HKX := Lib.hid (HKM.out.below hbl9 HKM.out.lt)
            generalize wr.heap.size = g9 at HB9 ⊢
            clear hb9 hg9 hbl9 hal HZB HATQ HBM HKM
            obtain ⟨m2, hm2⟩ : ∃ z, m + 1 = z := ⟨_, rfl⟩
            have e8 : (m : Int) + 1 = (m2 : Int) := by omega
            have w8' : IntKind.i64.wrap (m2 : Int) = (m2 : Int) := by have := HN16.out; rw [IntKind.wrap_i64]; omega
            have HM2 := Lib.hid (show m2 ≤ na ∧ na - m2 < na - m ∧ m + 1 = m2 from by omega)
            clear hm2
            by_cases hm0 : m = 0
            · subst hm0
              clear hm hmn
              have HA1 := Lib.hid (fun W => add_text [65, 108, 108, 111, 119, 101, 100, 73, 80, 115, 32, 61, 32] tq (by simp) (by omega) W)
              have HA2 := Lib.hid (fun W => add_text vt ([65, 108, 108, 111, 119, 101, 100, 73, 80, 115, 32, 61, 32] ++ tq) (by have := HVL.out; omega) (by simp; omega) W)
              obtain ⟨a1, ha1⟩ : ∃ z, [65, 108, 108, 111, 119, 101, 100, 73, 80, 115, 32, 61, 32] ++ tq = z := ⟨_, rfl⟩
              rw [ha1] at HA1 HA2
              obtain ⟨v2, hv2⟩ : ∃ z, vt ++ a1 = z := ⟨_, rfl⟩
              rw [hv2] at HA2
              rw [show ([65, 108, 108, 111, 119, 101, 100, 73, 80, 115, 32, 61, 32] : List UInt8).toArray = #[65, 108, 108, 111, 119, 101, 100, 73, 80, 115, 32, 61, 32] from rfl] at HA1
              have HV2 := Lib.hid (show u ++ alT p9.al m2 = v2 from by
                rw [← hv2, ← ha1, ← HVT.out, ← HTQ.out, ← HM2.out.2.2, alT_first _ q HQ.out.1]; simp [alT_zero, entT, tAll])
              clear ha1 hv2 htl
              have had1 := HA1.out
              have had2 := HA2.out
              clear d1
              go_wp2_with ((with_reducible refine at_op (.load 60 (.tmp 9)) rfl ?_); refine wpList_load_obj rfl 60 (.tmp 9) rfl g9 0 rfl _ HB9.out.all _ Tryz.underlying60 rfl (pref_cellsOf' q.1 HQ.out.2.1 q.2) ?_; rw [HOQ.out])
              refine (HTX.out _).mono ?_
              rintro e w10 ⟨rfl, hb⟩
              have HB10 := Lib.hid (HBX.out.trans (hb.mono HBX.out.size))
              have HK10 := Lib.hid (HKX.out.below hb HKX.out.lt)
              clear hb
              go_wp2_with fail
              go_roundw
              case rel => exact ⟨m2, HM2.out.1, (by rw [← HM2.out.2.2]; rfl), by rw [HV2.out], HB10.out, HK10.out⟩
              case measure => simp [intOf]; have := HM2.out; omega
            · have d3 : ((m : Int) == 0) = false := by simpa using hm0
              have HMP := Lib.hid (show 0 < m from by omega)
              clear hm hmn
              have HA1 := Lib.hid (fun W => add_text [44, 32] tq (by simp) (by omega) W)
              have HA2 := Lib.hid (fun W => add_text vt ([44, 32] ++ tq) (by have := HVL.out; omega) (by simp; omega) W)
              obtain ⟨a1, ha1⟩ : ∃ z, [44, 32] ++ tq = z := ⟨_, rfl⟩
              rw [ha1] at HA1 HA2
              obtain ⟨v2, hv2⟩ : ∃ z, vt ++ a1 = z := ⟨_, rfl⟩
              rw [hv2] at HA2
              rw [show ([44, 32] : List UInt8).toArray = #[44, 32] from rfl] at HA1
              have HV2 := Lib.hid (show u ++ alT p9.al m2 = v2 from by
                rw [← hv2, ← ha1, ← HVT.out, ← HTQ.out, ← HM2.out.2.2, alT_next _ m q HQ.out.1 HMP.out]; simp)
              clear ha1 hv2 htl
              have had1 := HA1.out
              have had2 := HA2.out
              clear d1
              go_wp2_with ((with_reducible refine at_op (.load 60 (.tmp 9)) rfl ?_); refine wpList_load_obj rfl 60 (.tmp 9) rfl g9 0 rfl _ HB9.out.all _ Tryz.underlying60 rfl (pref_cellsOf' q.1 HQ.out.2.1 q.2) ?_; rw [HOQ.out])
              refine (HTX.out _).mono ?_
              rintro e w10 ⟨rfl, hb⟩
              have HB10 := Lib.hid (HBX.out.trans (hb.mono HBX.out.size))
              have HK10 := Lib.hid (HKX.out.below hb HKX.out.lt)
              clear hb
              go_wp2_with fail
              go_roundw
              case rel => exact ⟨m2, HM2.out.1, rfl, by rw [HV2.out], HB10.out, HK10.out⟩
              case measure => simp [intOf]; exact HM2.out.2.1
          · obtain rfl : m = na := by omega
            have d1 : decide ((m : Int) < (m : Int)) = false := by simp
            have fa := peer_al HKM.out HP9.out.2.1
            rw [HNA.out] at fa
            go_upto_region 22 with fail
            clear d1
            obtain ⟨j2, hj2⟩ : ∃ z, j + 1 = z := ⟨_, rfl⟩
            have e9 : (j : Int) + 1 = (j2 : Int) := by omega
            have w9' : IntKind.i64.wrap (j2 : Int) = (j2 : Int) := by have := HN8.out; have := HJ.out; rw [IntKind.wrap_i64]; omega
            have HJ2 := Lib.hid (show j2 ≤ n ∧ n - j2 < n - j from by have := HJ.out; omega)
            have HEND := Lib.hid (show s4 ++ (x.peers.take j2).flatMap peerS = u ++ (if p9.al.length = 0 then [] else entT tAll (psT p9.al) ++ [10]) from by
              rw [← hj2, take_snoc HP9.out.1, List.flatMap_append, ← List.append_assoc, HS0.out, ← HFIN.out]; simp)
            clear hj2 hm hmn
            by_cases h0 : 0 < m
            · have d4 : decide ((m : Int) > 0) = true := by simp; omega
              have d4b : decide (0 < m) = true := decide_eq_true h0
              have HA1 := Lib.hid (fun W => add_text vt [10] (by have := HVL.out; omega) (by simp) W)
              obtain ⟨v2, hv2⟩ : ∃ z, vt ++ [10] = z := ⟨_, rfl⟩
              rw [hv2, show ([10] : List UInt8).toArray = #[10] from rfl] at HA1
              have HV2 := Lib.hid (show s4 ++ (x.peers.take j2).flatMap peerS = v2 from by
                rw [HEND.out, ← hv2, ← HVT.out, HNA.out, if_neg (by omega), alT, if_neg (by omega), List.take_of_length_le (by rw [HNA.out]; exact Nat.le_refl _), List.append_assoc])
              have had1 := HA1.out
              clear hv2 h0
              go_wp2_with fail
              go_roundw
              case rel => exact ⟨j2, HJ2.out.1, rfl, by rw [HV2.out], HBM.out⟩
              case measure => simp [intOf]; exact HJ2.out.2
            · obtain rfl : m = 0 := by omega
              have d4 : decide (((0 : Nat) : Int) > 0) = false := by decide
              have HV2 := Lib.hid (show s4 ++ (x.peers.take j2).flatMap peerS = vt from by
                rw [HEND.out, ← HVT.out, if_pos HNA.out, alT_zero])
              clear h0
              go_wp2_with fail
              go_roundw
              case rel => exact ⟨j2, HJ2.out.1, rfl, by rw [HV2.out], HBM.out⟩
              case measure => simp [intOf]; exact HJ2.out.2
      · obtain rfl : j = n := by omega
        have d1 : decide ((j : Int) < (j : Int)) = false := by simp
        have HE := Lib.hid (show s0 = tx from by
          rw [← HS0.out, HTF.out, fmtM_peers, HS4.out, ← HTP.out, ← HTD.out, List.take_of_length_le (by rw [HLN.out]; exact Nat.le_refl _)])
        go_wp2_with fail
        go_ret2
        exact ⟨by rw [← HE.out]; rfl, HB0.out.trans (HB.out.mono HB0.out.size)⟩
  · have HTF := Lib.hid (show tx = [] from by rw [← HTX0.out, if_neg (by rw [HVE.out]; exact hv)])
    have d0 : ((vE : Int) != 0) = true := by simpa using hv
    have d1 : decide ((vE : Int) = 0) = false := by simpa using hv
    go_wp2_with fail
    go_ret2
    exact ⟨by rw [HTF.out]; rfl, (HB0.out.trans (HB1.out.mono HB0.out.size))⟩
end Go.Proofs.YtcbfchkhbngpkaaGreatDoor
namespace Go.Proofs.YtcbfchkhbngpkaaGreatDoor
open Go.RowKit

def hostB (u v : UInt8) : List UInt8 := [10, u, 0, v, 0, 0, 0, 0, 0, 0, 0, 0, 0, 0, 0, 0]
/-- the address 10.x.0.y -/
def hostM (x y : Nat) : AddrM := ⟨false, hostB (UInt8.ofNat x) (UInt8.ofNat y)⟩
theorem ip_built (u v : UInt8) : Tryz.prog.built 51 [(0, .int .u8 10), (1, .int .u8 (u.toNat : Int)), (2, .int .u8 0), (3, .int .u8 (v.toNat : Int))] = some ((hostB u v).map u8v).toArray := by kernel_rfl
theorem addr_built (l : List UInt8) (h : l.length = 16) : Tryz.prog.built 53 [(1, .agg (l.map u8v).toArray)] = some (AddrM.mk false l).cells.toArray := by
  rw [built_of 53 [1, 16] [[.bool false], (List.replicate 16 (0 : UInt8)).map u8v] rfl #[(0, 1), (1, 16)] (fun parts => by kernel_rfl) (fun i h => by
    match i, h with
    | 0, _ => rfl
    | 1, _ => rfl) _ (fun p hp => by
    simp only [List.mem_cons, List.not_mem_nil, or_false] at hp
    subst hp
    simp [Value.cells, h])]
  simp [AddrM.cells, Value.cells]
set_option maxRecDepth 100000 in
set_option maxHeartbeats 2000000 in
theorem caseHost_any (x y : Nat) (w : World) :
    Calls Tryz.prog 38 #[.int .i64 (x : Int), .int .i64 (y : Int)] w fun e w' => e = .returned (.agg (hostM x y).cells.toArray) ∧ Below w.heap.size w w' := by
  rw [hostM]
  have hw1 := codeByte_wrap x
  have hw2 := codeByte_wrap y
  generalize UInt8.ofNat x = u at hw1 ⊢
  generalize UInt8.ofNat y = v at hw2 ⊢
  have hb1 := ip_built u v
  have hb2 := addr_built (hostB u v) rfl
  have hok : (AddrM.mk false (hostB u v)).ok := rfl
  generalize hl : hostB u v = l at hb1 hb2 hok ⊢
  clear hl
  obtain ⟨ci, hci⟩ : ∃ c, (l.map u8v).toArray = c := ⟨_, rfl⟩
  obtain ⟨ca, hca⟩ : ∃ c, (AddrM.mk false l).cells.toArray = c := ⟨_, rfl⟩
  rw [hci] at hb1 hb2
  rw [hca] at hb2 ⊢
  have HB := Lib.hid (And.intro hb1 (And.intro hb2 hca))
  have HO := Lib.hid hok
  have HAL := Lib.hid (AddrM.cells_length HO.out)
  have HCO := Lib.hid (addr_cellsOf _ HO.out)
  clear hb1 hb2 hci hca hok
  have HM := Lib.hid (show Mem w [blkE w.heap.size 53 addr0.cells] (w.alloc (.cells #[.bool false, .int .u8 0, .int .u8 0, .int .u8 0, .int .u8 0, .int .u8 0, .int .u8 0, .int .u8 0, .int .u8 0, .int .u8 0, .int .u8 0, .int .u8 0, .int .u8 0, .int .u8 0, .int .u8 0, .int .u8 0, .int .u8 0] 53)) from (Mem.nil w).alloc rfl 53 #[.bool false, .int .u8 0, .int .u8 0, .int .u8 0, .int .u8 0, .int .u8 0, .int .u8 0, .int .u8 0, .int .u8 0, .int .u8 0, .int .u8 0, .int .u8 0, .int .u8 0, .int .u8 0, .int .u8 0, .int .u8 0, .int .u8 0] addr0.cells rfl)
  go_enter Tryz.func38, Tryz.ntmps38
  go_upto_region 1 with fail
  generalize w.alloc (.cells #[.bool false, .int .u8 0, .int .u8 0, .int .u8 0, .int .u8 0, .int .u8 0, .int .u8 0, .int .u8 0, .int .u8 0, .int .u8 0, .int .u8 0, .int .u8 0, .int .u8 0, .int .u8 0, .int .u8 0, .int .u8 0, .int .u8 0] 53) = w1 at HM ⊢
  go_wp2_with (first | (refine wpList_build_as rfl 51 [(0, .const (.int .u8 10)), (1, .tmp 6), (2, .const (.int .u8 0)), (3, .tmp 8)] rfl ci ?_ ?_; exact HB.out.1) | (refine wpList_build_as rfl 53 [(1, .tmp 9)] rfl ca ?_ ?_; exact HB.out.2.1) | (refine wpList_store_blk rfl 53 (.tmp 4) (.tmp 10) rfl w.heap.size (AddrM.mk false l).cells rfl (by show Value.agg ca = _; rw [HB.out.2.2]) 53 addr0.cells (HM.out.blk 0 rfl) HCO.out (by rw [HAL.out]; rfl) (AddrM.one _) ?_; intro w9 hb9 hg9))
  exact bodyPost_ret (results_obj rfl _ _ w.heap.size 53 (AddrM.mk false l).cells _ rfl hb9 Tryz.underlying53 rfl HCO.out) rfl ⟨by rw [HB.out.2.2], (HM.out.put 0 rfl _ hg9 hb9).bel⟩
end Go.Proofs.YtcbfchkhbngpkaaGreatDoor
namespace Go.Proofs.YtcbfchkhbngpkaaGreatDoor
open Go.RowKit

theorem begun_parse : prefP [49, 48, 46, 48, 46, 48, 46, 49, 47, 56] = ((addr0, 0), 5) := by kernel_rfl
theorem begun_format : prefT (maskM (hostM 0 0) 8) (8 : Int) = [49, 48, 46, 48, 46, 48, 46, 48, 47, 56] := by
  have hv : validM (maskM (hostM 0 0) 8) (8 : Int) = true := by decide +kernel
  have hs : soundM (maskM (hostM 0 0) 8) = true := by decide +kernel
  have h6 : (maskM (hostM 0 0) 8).six = false := rfl
  have e : ((List.range 4).map fun i => decT ((maskM (hostM 0 0) 8).ip.getD i 0).toNat) = [decT 10, decT 0, decT 0, decT 0] := by
    have h0 : ((maskM (hostM 0 0) 8).ip.getD 0 0).toNat = 10 := by decide +kernel
    have h1 : ((maskM (hostM 0 0) 8).ip.getD 1 0).toNat = 0 := by decide +kernel
    have h2 : ((maskM (hostM 0 0) 8).ip.getD 2 0).toNat = 0 := by decide +kernel
    have h3 : ((maskM (hostM 0 0) 8).ip.getD 3 0).toNat = 0 := by decide +kernel
    rw [range4]
    simp only [List.map_cons, List.map_nil, h0, h1, h2, h3]
  rw [prefT, if_neg (by rw [hv]; decide), addrT, if_neg (by rw [hs]; decide), if_neg (by rw [h6]; decide), e, show (8 : Int).toNat = 8 from rfl, show decT 10 = [49, 48] from by rw [decT_big (by omega), decT_small (by omega)]; rfl, show decT 0 = [48] from by rw [decT_small (by omega)]; rfl, show decT 8 = [56] from by rw [decT_small (by omega)]; rfl]
  rfl
set_option maxRecDepth 100000 in
set_option maxHeartbeats 4000000 in
theorem cf_begun_any (HFP : CfFmtPrefC 40) (HPP : CfParsePrefC 39) (w : World) (hlv : LvCf w) : Calls Tryz.prog 13 #[] w fun e w' => e = .returned (.bool true) ∧ Below w.heap.size w w' := by
  have HLV := Lib.hid hlv
  have hok0 : (hostM 0 0).ok := rfl
  have hok : (maskM (hostM 0 0) 8).ok := maskM_ok _ hok0 8
  have HH := Lib.hid (fun W : World => (show Calls Tryz.prog 38 #[.int .i64 0, .int .i64 0] W (fun e w' => e = .returned (.agg (hostM 0 0).cells.toArray) ∧ Below W.heap.size W w') from caseHost_any 0 0 W))
  have HK := Lib.hid (fun W : World => (show Calls Tryz.prog 37 #[.agg (hostM 0 0).cells.toArray, .int .i64 8] W (fun e w' => e = .returned (.agg (prefC (maskM (hostM 0 0) 8) (8 : Int)).toArray) ∧ Below W.heap.size W w') from caseMasked_any (hostM 0 0) hok0 8 (by omega) W))
  have HP := Lib.hid (fun (W : World) (hW : LvCf W) => (show Calls Tryz.prog 39 #[.string ⟨#[49, 48, 46, 48, 46, 48, 46, 49, 47, 56]⟩] W (fun e w' => e = .returned (.tuple #[.agg (prefC addr0 0).toArray, .int .i64 5]) ∧ Below W.heap.size W w') from by
    have h := HPP [49, 48, 46, 48, 46, 48, 46, 49, 47, 56] (by decide) W hW
    rw [begun_parse] at h
    exact h))
  have HF := Lib.hid (fun (W : World) (hW : LvCf W) => (show Calls Tryz.prog 40 #[.agg (prefC (maskM (hostM 0 0) 8) (8 : Int)).toArray] W (fun e w' => e = .returned (.string ⟨#[49, 48, 46, 48, 46, 48, 46, 48, 47, 56]⟩) ∧ Below W.heap.size W w') from by
    have h := HFP (maskM (hostM 0 0) 8) hok 8 (by omega) (by omega) W hW
    rw [begun_format] at h
    exact h))
  have HUP := Lib.hid (pref_cellsOf (maskM (hostM 0 0) 8) hok (8 : Int))
  have HU0 := Lib.hid (pref_cellsOf addr0 addr0_ok 0)
  have HZP := Lib.hid (show (prefC addr0 0).length = (prefC (maskM (hostM 0 0) 8) (8 : Int)).length from (prefC_length addr0 addr0_ok 0).trans (prefC_length _ hok _).symm)
  obtain ⟨ch, hch⟩ : ∃ z, (hostM 0 0).cells.toArray = z := ⟨_, rfl⟩
  obtain ⟨cm, hcm⟩ : ∃ z, (prefC (maskM (hostM 0 0) 8) (8 : Int)).toArray = z := ⟨_, rfl⟩
  obtain ⟨c0, hc0⟩ : ∃ z, (prefC addr0 0).toArray = z := ⟨_, rfl⟩
  rw [hch] at HH HK
  rw [hcm] at HK HF
  rw [hc0] at HP
  have HCM := Lib.hid hcm
  have HC0 := Lib.hid hc0
  have HM := Lib.hid (Mem.nil w)
  clear hch hcm hc0 hok0 hlv
  generalize maskM (hostM 0 0) 8 = mm at HCM HUP HZP
  go_enter Tryz.func13, Tryz.ntmps13
  go_wp2_with fail
  refine (HH.out _).mono ?_
  rintro e w1 ⟨rfl, hb⟩
  replace HM := Lib.hid (HM.out.below hb)
  clear hb HH
  go_wp2_with fail
  refine (HK.out _).mono ?_
  rintro e w2 ⟨rfl, hb⟩
  replace HM := Lib.hid (HM.out.below hb)
  have HMZ := Lib.hid (show Mem w [blkE w2.heap.size 60 (prefC addr0 0)] (w2.alloc (.cells #[.bool false, .int .u8 0, .int .u8 0, .int .u8 0, .int .u8 0, .int .u8 0, .int .u8 0, .int .u8 0, .int .u8 0, .int .u8 0, .int .u8 0, .int .u8 0, .int .u8 0, .int .u8 0, .int .u8 0, .int .u8 0, .int .u8 0, .int .i64 0] 60)) from HM.out.alloc rfl 60 #[.bool false, .int .u8 0, .int .u8 0, .int .u8 0, .int .u8 0, .int .u8 0, .int .u8 0, .int .u8 0, .int .u8 0, .int .u8 0, .int .u8 0, .int .u8 0, .int .u8 0, .int .u8 0, .int .u8 0, .int .u8 0, .int .u8 0, .int .i64 0] (prefC addr0 0) rfl)
  clear hb HK HM
  go_upto_region 2 with (refine wpList_store_blk rfl 60 (.tmp 1) (.tmp 5) rfl w2.heap.size (prefC mm (8 : Int)) rfl (by show Value.agg cm = _; rw [HCM.out]) 60 (prefC addr0 0) (HMZ.out.blk 0 rfl) HUP.out HZP.out (prefC_one _ _) ?_; intro w3 hb3 hg3)
  (try simp only [Act.put])
  have hm3 := HMZ.out.put 0 rfl _ hg3 hb3
  clear hb3 hg3 HMZ
  generalize w2.heap.size = g1 at hm3 ⊢
  have HM := Lib.hid (show Mem w [blkE g1 60 (prefC mm (8 : Int))] w3 from hm3)
  clear hm3
  go_wp2_with fail
  refine (HP.out _ (HLV.out.below HM.out.bel)).mono ?_
  rintro e w4 ⟨rfl, hb⟩
  replace HM := Lib.hid (show Mem w [blkE g1 60 (prefC mm (8 : Int))] w4 from HM.out.below hb)
  have HMZ := Lib.hid (show Mem w [blkE w4.heap.size 60 (prefC addr0 0), blkE g1 60 (prefC mm (8 : Int))] (w4.alloc (.cells #[.bool false, .int .u8 0, .int .u8 0, .int .u8 0, .int .u8 0, .int .u8 0, .int .u8 0, .int .u8 0, .int .u8 0, .int .u8 0, .int .u8 0, .int .u8 0, .int .u8 0, .int .u8 0, .int .u8 0, .int .u8 0, .int .u8 0, .int .i64 0] 60)) from HM.out.alloc rfl 60 #[.bool false, .int .u8 0, .int .u8 0, .int .u8 0, .int .u8 0, .int .u8 0, .int .u8 0, .int .u8 0, .int .u8 0, .int .u8 0, .int .u8 0, .int .u8 0, .int .u8 0, .int .u8 0, .int .u8 0, .int .u8 0, .int .u8 0, .int .i64 0] (prefC addr0 0) rfl)
  clear hb HP HM
  go_upto_region 3 with (refine wpList_store_blk rfl 60 (.tmp 2) (.tmp 8) rfl w4.heap.size (prefC addr0 0) rfl (by show Value.agg c0 = _; rw [HC0.out]) 60 (prefC addr0 0) (HMZ.out.blk 0 rfl) HU0.out rfl (prefC_one _ _) ?_; intro w5 hb5 hg5)
  (try simp only [Act.put])
  have hm5 := HMZ.out.put 0 rfl _ hg5 hb5
  clear hb5 hg5 HMZ
  generalize w4.heap.size = g2 at hm5 ⊢
  have HM := Lib.hid (show Mem w [blkE g2 60 (prefC addr0 0), blkE g1 60 (prefC mm (8 : Int))] w5 from hm5)
  clear hm5
  go_wp2_with (refine wpList_load_obj rfl 60 (.tmp 1) rfl g1 0 rfl (prefC mm (8 : Int)) (HM.out.blk 1 rfl).all _ Tryz.underlying60 rfl HUP.out ?_)
  rw [HCM.out]
  refine (HF.out _ (HLV.out.below HM.out.bel)).mono ?_
  rintro e w6 ⟨rfl, hb⟩
  have HB := Lib.hid (HM.out.below hb).bel
  clear hb HF HM
  go_wp2
  go_ret
  exact ⟨rfl, HB.out⟩
end Go.Proofs.YtcbfchkhbngpkaaGreatDoor
namespace Go.Proofs.YtcbfchkhbngpkaaGreatDoor
open Go.RowKit

theorem step_buildRows {P : Program} {w : World} {ops : Array Oper} {o : Oper} {act : Act} {K : Act → World → Prop} {Q : Exit → Act → World → Prop} {E : Prop} (hgd : o.guard = none) (ty e : TypeId) (k : Nat) (parts : List (Nat × Operand)) (ho : o.op = .buildSlice ty k parts.toArray)
    (rows : List (List Value)) (hk : rows.length = k) (hp : (parts.map fun p => (p.1, act.eval p.2)) = (rows.zipIdx 0).map fun x => (x.2, Value.agg x.1.toArray)) (n : Nat) (hu : P.underlying ty = some (.slice e)) (i : TypeInfo) (hi : P.info? e = some i) (hs : i.size = n) (z : Value) (hz : i.zero = some z) (hn0 : 0 < n) (hk0 : 0 < k) (hn1 : k * n ≤ 1000) (ha : ∀ r ∈ rows, r.length = n)
    (h : K (act.put o.dst (.slice (some ⟨w.heap.size, 0, none⟩) k k)) (w.alloc (.cells rows.flatten.toArray e))) : if Region.wanted o (yielded ops act.tmps) = true then Oper.wp P o act w K Q else E := by
  rw [if_pos (by simp [Region.wanted, hgd])]
  unfold Oper.wp execOp
  have hf := fun z : Array Value => fill_rows n rows 0 ((Array.range (k * n)).map (z[· % z.size]!)) ha (by simp [hk])
  have h24 : ¬ k * n > 2 ^ 24 := by omega
  have h20 : ¬ k * n = 0 := by have := Nat.mul_pos hk0 hn0; omega
  simp only [ho, Instr.buildSlice, Sem.run_bind, run_underlying hu, sizeOf, zeroValue, typeInfo, Result.andThen_ok]
  simp only [Nat.zero_mul, List.take_zero, List.nil_append] at hf
  have hf2 := hf z.cells
  simp [hi, hs, hz, h24, h20, newRow, hp, hf2]
  exact h
end Go.Proofs.YtcbfchkhbngpkaaGreatDoor
