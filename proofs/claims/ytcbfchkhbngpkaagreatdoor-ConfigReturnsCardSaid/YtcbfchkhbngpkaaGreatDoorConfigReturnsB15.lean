/-
  The walk of ConfigReturns. ConfigReturns returns true for every input: the walk, over what the program's functions do. No statement is proved here.
-/
import Derived.RegionTactic
import Derived.Deep.DeepCutAuto
import Derived.Test.YtcbfchkhbngpkaaGreatDoorConfigReturnsB14
namespace Go.Proofs.YtcbfchkhbngpkaaGreatDoor
open Go.RowKit
/-- what the law adds at one place -/
def baseC (c x : UInt8) : List UInt8 := if x.toNat % 4 = 0 then [c] else if x.toNat % 4 = 1 then [32, c] else if x.toNat % 4 = 2 then [9, c] else [c, 32]
theorem rd_cellA {w : World} {B n b off : Nat} {l : List UInt8} (h : Rd w B (some ⟨b, off, none⟩) n l) (k : Nat) (hk : k < l.length) : w.cell? ⟨b, off + k, none⟩ = some (.int .u8 ((l.getD k 0).toNat : Int)) := by
  obtain ⟨b', off', e, _, hc⟩ := h.2 (by have := h.1; omega)
  injection e with e
  injection e with e1 e2
  subst e1 e2
  rw [hc k hk, List.getD_eq_getElem?_getD, List.getElem?_eq_getElem hk]
  rfl
/-- what stands at a place behind the change, and the next place of the spaces -/
def outM (sp : List UInt8) (k : Nat) (x : UInt8) (sb : Bool) : List UInt8 := if sb = true then (if k < sp.length then chgC x (sp.getD k 0) else [x]) else [x]
def nextK (k : Nat) (sb : Bool) : Nat := if sb = true then k + 1 else k
theorem outM_le (sp : List UInt8) (k : Nat) (x : UInt8) (sb : Bool) : (outM sp k x sb).length ≤ 9 := by
  unfold outM
  split
  · split
    · exact chgC_le _ _
    · simp
  · simp
theorem nextK_le (k : Nat) (sb : Bool) : nextK k sb ≤ k + 1 := by
  unfold nextK
  split <;> omega
theorem chg_at (sp : List UInt8) (k : Nat) (x : UInt8) (r : List UInt8) : chgM (sp.drop k) (x :: r) = outM sp k x (isSep x r) ++ chgM (sp.drop (nextK k (isSep x r))) r := by
  rw [chgM_cons, outM, nextK]
  by_cases hs : isSep x r = true
  · rw [if_pos hs, if_pos hs, if_pos hs, List.tail_drop]
    congr 1
    by_cases hk : k < sp.length
    · rw [if_pos hk, List.drop_eq_getElem_cons hk, sepOut, List.getD_eq_getElem?_getD, List.getElem?_eq_getElem hk]
      rfl
    · rw [if_neg hk, List.drop_eq_nil_of_le (by omega), sepOut]
  · rw [if_neg hs, if_neg hs, if_neg hs]
    rfl
theorem sep_val (F : List UInt8) (j : Nat) : isSep (F.getD j 0) (F.drop (j + 1)) = ((decide (F.getD j 0 = 61) && (decide (j + 1 < F.length) && decide (F.getD (j + 1) 0 = 32))) || decide (F.getD j 0 = 10)) := by
  unfold isSep
  congr 2
  rw [List.head?_drop, List.getD_eq_getElem?_getD]
  by_cases h : j + 1 < F.length
  · rw [List.getElem?_eq_getElem h]
    simp [h]
  · rw [List.getElem?_eq_none (by omega)]
    simp [h]
theorem drop_at (F : List UInt8) (j : Nat) (h : j < F.length) : F.drop j = F.getD j 0 :: F.drop (j + 1) := by
  rw [List.drop_eq_getElem_cons h, List.getD_eq_getElem?_getD, List.getElem?_eq_getElem h]
  rfl
set_option maxRecDepth 100000 in
set_option maxHeartbeats 8000000 in
theorem cg_returns_walk (w : World) (A S : Option Addr) (n c sn sc : Nat) (l sp : List UInt8) (hnc : n ≤ c) (hcm : c ≤ maxLen) (hr : Rd w w.heap.size A n l) (hs : Rd w w.heap.size S sn sp) (hlv : LvCf w) :
    Calls Tryz.prog 4 #[.slice A n c, .slice S sn sc] w fun e w' => e = .returned (.bool true) ∧ Below w.heap.size w w' := by
  have HLV := Lib.hid hlv
  obtain ⟨k, hk⟩ : ∃ z, min n 200 = z := ⟨_, rfl⟩
  have HK := Lib.hid (show k ≤ n ∧ k ≤ 200 from by omega)
  have HRD := Lib.hid (hr.take HK.out.1)
  have HM0 := Lib.hid ((Lows.nil w).cons (rdL S sn sp) hs)
  clear hlv hr hs
  go_enter Tryz.func4, Tryz.ntmps4
  go_wp2_with fail
  refine (caseNew_any A n c 200 k (by omega) hnc hcm hk w).mono ?_
  rintro e w2 ⟨rfl, hmem⟩
  have hcod : CodesAt w2 w.heap.size A k c (l.take k) w.heap.size 0 := ⟨hmem.blk 0 rfl, HRD.out.below hmem.bel, Nat.le_refl _, (hmem.blk 0 rfl).lt, by have := HK.out.2; omega, Nat.zero_le _⟩
  have HCOD := Lib.hid hcod
  have HMB := Lib.hid hmem.bel
  clear hmem hcod hk
  go_wp2_with fail
  refine (caseConfig_any w.heap.size A k c (l.take k) w.heap.size 0 3 (by omega) w2 HCOD.out).mono ?_
  rintro e w3 ⟨x, Ax, cx, rfl, hxo, hxv, hxl, hxa, hxc, hxp, hb⟩
  have hbw := HMB.out.trans hb
  have HFS := Lib.hid (conf_short hxo hxv hxl hxa)
  obtain ⟨F, hF⟩ : ∃ z, fmtM x = z := ⟨_, rfl⟩
  have hvx : (validE x : Int) = 0 := by rw [hxv]; rfl
  have hp1 := fun W (h : LvCf W) => parse_chg x [] W h hxo hxv (by rw [chgM_nil]; have := HFS.out; omega)
  have hp2 := fun (hl : (chgM sp (fmtM x)).length ≤ 4000) W (h : LvCf W) => parse_chg x sp W h hxo hxv hl
  rw [chgM_nil] at hp1
  obtain ⟨nx, hnx⟩ : ∃ z, x.peers.length = z := ⟨_, rfl⟩
  have hfm := fun (A' : Option Addr) (c' : Nat) W (h : PeRd W W.heap.size A' nx x.peers) (hl : LvCf W) => format_any x A' nx c' W hxo h (by omega) (fun p hp => by have := hxa p hp; omega) hl
  have hsm := fun (A1 A2 : Option Addr) (c1 c2 : Nat) W (h1 : PeRd W W.heap.size A1 nx x.peers) (h2 : PeRd W W.heap.size A2 nx x.peers) => same_any x A1 A2 nx c1 c2 W hxo h1 h2 (by omega) (fun p hp => by have := hxa p hp; omega)
  simp only [hvx, if_pos hxv, hF] at hfm
  rw [hF] at hp1 hp2
  rw [hF] at HFS
  simp only [hnx] at hp1 hp2
  rw [hnx] at hxp ⊢
  have HM1 := Lib.hid (show Lows w [peL Ax nx x.peers, rdL S sn sp] w3 from (HM0.out.below hbw).cons (peL Ax nx x.peers) hxp)
  have HXO := Lib.hid hxo
  have HP1 := Lib.hid hp1
  have HP2 := Lib.hid hp2
  have HFM := Lib.hid hfm
  have HSM := Lib.hid hsm
  obtain ⟨xc, hxcc⟩ : ∃ z, (x.cells (.slice Ax nx cx)).toArray = z := ⟨_, rfl⟩
  rw [hxcc]
  have HXC := Lib.hid hxcc
  clear hbw hnx hF hvx hxo hxv hxl hxa hxc hxp hb hp1 hp2 hfm hsm hxcc HM0 HMB HCOD HRD HK
  have HZ := Lib.hid (Blk.new w3 27 confZ)
  go_upto_region 2 with ((with_reducible refine at_op (.store 27 (.tmp 5) (.tmp 22)) rfl ?_); refine wpList_store_obj rfl 27 (.tmp 5) (.tmp 22) rfl w3.heap.size 0 (x.cells (.slice Ax nx cx)) rfl (by show Value.agg xc = _; rw [HXC.out]) 27 confZ HZ.out (conf_cellsOf _ HXO.out _) (by rw [ConfM.cells_length HXO.out, confZ_length]; omega) (conf_one _ _ _ _) ?_; intro wb hb4 hg4)
  rw [setL_all confZ _ (by rw [ConfM.cells_length HXO.out, confZ_length])] at hb4
  have HM := Lib.hid (show Lows w [blkL w3.heap.size 27 (x.cells (.slice Ax nx cx)), peL Ax nx x.peers, rdL S sn sp] wb from HM1.out.stored hg4 hb4)
  clear hb4 hg4 HZ HM1
  generalize w3.heap.size = gx at HM ⊢
  have hf1 := HFM.out Ax cx wb (HM.out.get (f := peL Ax nx x.peers) 1 rfl) (HLV.out.below HM.out.bel)
  rw [HXC.out] at hf1
  obtain ⟨SF, hSF⟩ : ∃ S : ByteArray, ⟨F.toArray⟩ = S := ⟨_, rfl⟩
  have hp1 := HP1.out
  simp only [hSF] at hf1 hp1
  replace HP1 := Lib.hid hp1
  have HF1 := Lib.hid hf1
  have HSF := Lib.hid hSF
  clear hf1 hp1 hSF
  go_wp2_with ((with_reducible refine at_op (.load 27 (.tmp 5)) rfl ?_); refine wpList_load_obj_g (by rfl) 27 (.tmp 5) rfl gx 0 rfl _ (HM.out.blk 0 rfl).all _ Tryz.underlying27 rfl (conf_cellsOf _ HXO.out _) ?_; rw [HXC.out])
  refine HF1.out.mono ?_
  rintro e w4 ⟨rfl, hb⟩
  replace HM := Lib.hid (HM.out.below hb)
  clear hb HF1
  go_wp2_with fail
  refine (HP1.out _ (HLV.out.below HM.out.bel)).mono ?_
  rintro e w5 ⟨Ay, cy, rfl, hpe, _, hb⟩
  have HM2 := Lib.hid (show Lows w [peL Ay nx x.peers, blkL gx 27 (x.cells (.slice Ax nx cx)), peL Ax nx x.peers, rdL S sn sp] w5 from (HM.out.below hb).cons (peL Ay nx x.peers) hpe)
  obtain ⟨yc, hycc⟩ : ∃ z, (x.cells (.slice Ay nx cy)).toArray = z := ⟨_, rfl⟩
  rw [hycc]
  have HYC := Lib.hid hycc
  clear hpe hb HP1 HM hycc
  have HZ := Lib.hid (Blk.new w5 27 confZ)
  go_upto_region 4 with ((with_reducible refine at_op (.store 27 (.tmp 8) (.tmp 31)) rfl ?_); refine wpList_store_obj rfl 27 (.tmp 8) (.tmp 31) rfl w5.heap.size 0 (x.cells (.slice Ay nx cy)) rfl (by show Value.agg yc = _; rw [HYC.out]) 27 confZ HZ.out (conf_cellsOf _ HXO.out _) (by rw [ConfM.cells_length HXO.out, confZ_length]; omega) (conf_one _ _ _ _) ?_; intro wb hb4 hg4)
  rw [setL_all confZ _ (by rw [ConfM.cells_length HXO.out, confZ_length])] at hb4
  have HM := Lib.hid (show Lows w [blkL w5.heap.size 27 (x.cells (.slice Ay nx cy)), peL Ay nx x.peers, blkL gx 27 (x.cells (.slice Ax nx cx)), peL Ax nx x.peers, rdL S sn sp] wb from HM2.out.stored hg4 hb4)
  clear hb4 hg4 HZ HM2
  generalize w5.heap.size = gy at HM ⊢
  have hs1 := HSM.out Ax Ay cx cy wb (HM.out.get (f := peL Ax nx x.peers) 3 rfl) (HM.out.get (f := peL Ay nx x.peers) 1 rfl)
  rw [HXC.out, HYC.out] at hs1
  have HS1 := Lib.hid hs1
  clear hs1
  go_wp2_with (first | ((with_reducible refine at_op (.load 27 (.tmp 5)) rfl ?_); refine wpList_load_obj_g (by rfl) 27 (.tmp 5) rfl gx 0 rfl _ (HM.out.blk 2 rfl).all _ Tryz.underlying27 rfl (conf_cellsOf _ HXO.out _) ?_; rw [HXC.out]) | ((with_reducible refine at_op (.load 27 (.tmp 8)) rfl ?_); refine wpList_load_obj_g (by rfl) 27 (.tmp 8) rfl gy 0 rfl _ (HM.out.blk 0 rfl).all _ Tryz.underlying27 rfl (conf_cellsOf _ HXO.out _) ?_; rw [HYC.out]))
  refine HS1.out.mono ?_
  rintro e w6 ⟨rfl, hb⟩
  replace HM := Lib.hid (HM.out.below hb)
  clear hb HS1
  have hsz : SF.size = F.length := by rw [← HSF.out]; exact mk_size F
  have hat : ∀ i (h : i < SF.size), SF[i] = F.getD i 0 := by
    intro i h
    have hS := HSF.out
    subst hS
    have hi : i < F.length := by simpa [ByteArray.size] using h
    rw [getD_lt hi]
    rfl
  have HAT := Lib.hid hat
  have HZ := Lib.hid hsz
  have HL := Lib.hid (show SF.size ≤ 3500 from by rw [hsz]; exact HFS.out)
  clear hat hsz
  go_wp2_with fail
  go_loopw [11, 12, 13] (fun v11 v12 v13 wr => ∃ (j k : Nat) (tt : List UInt8), j ≤ SF.size ∧ k ≤ j ∧ v11 = .string ⟨tt.toArray⟩ ∧ v12 = .int .i64 (k : Int) ∧ v13 = .int .i64 (j : Int) ∧ tt.length ≤ 9 * j ∧ tt ++ chgM (sp.drop k) (F.drop j) = chgM sp F ∧ Lows w [blkL gy 27 (x.cells (.slice Ay nx cy)), peL Ay nx x.peers, blkL gx 27 (x.cells (.slice Ax nx cx)), peL Ax nx x.peers, rdL S sn sp] wr) (fun _ _ v13 _ => SF.size - (intOf v13).toNat)
  case atStart => exact ⟨0, 0, [], Nat.zero_le _, Nat.le_refl _, rfl, rfl, rfl, Nat.zero_le _, rfl, HM.out⟩
  case round =>
    clear HM
    obtain ⟨j, k, tt, hj, hkj, rfl, rfl, rfl, htl, hte, hm⟩ := hrel
    have HM := Lib.hid hm
    have hL := HL.out
    clear hm
    by_cases hlt : j < SF.size
    · have d0 : decide ((j : Int) < (SF.size : Int)) = true := by simp; omega
      have hlF : j < F.length := by have := HZ.out; omega
      have hcut := text_cut SF F HAT.out j hlt
      have hI : ∀ h, SF[(j : Int).toNat]'h = F.getD j 0 := fun h => by rw [HAT.out]; congr 1
      have hI1 : ∀ h, SF[((j : Int) + 1).toNat]'h = F.getD (j + 1) 0 := fun h => by rw [HAT.out]; congr 1
      have hK : ∀ h, SF[j]'h = F.getD j 0 := fun h => HAT.out j h
      have hK1 : ∀ h, SF[j + 1]'h = F.getD (j + 1) 0 := fun h => HAT.out (j + 1) h
      have hsep := sep_val F j
      obtain ⟨sb, hsb⟩ : ∃ b, isSep (F.getD j 0) (F.drop (j + 1)) = b := ⟨_, rfl⟩
      have hca := chg_at sp k (F.getD j 0) (F.drop (j + 1))
      rw [← drop_at F j hlF, hsb] at hca
      rw [hsb] at hsep
      obtain ⟨ch, hch⟩ : ∃ z, F.getD j 0 = z := ⟨_, rfl⟩
      obtain ⟨ny, hny⟩ : ∃ z, F.getD (j + 1) 0 = z := ⟨_, rfl⟩
      rw [hch, hny, ← HZ.out] at hsep
      rw [hch] at hca hI hcut hK
      rw [hny] at hI1 hK1
      obtain ⟨C, hC⟩ : ∃ S : ByteArray, ⟨[ch].toArray⟩ = S := ⟨_, rfl⟩
      have hcut2 : SF.extract j (j + 1) = C := by rw [hcut, ← hC]
      have hcut3 : SF.extract (j : Int).toNat ((j : Int) + 1).toNat = C := by
        rw [Int.toNat_natCast, show ((j : Int) + 1).toNat = j + 1 from by omega, hcut2]
      have HC := Lib.hid hC
      have HCA := Lib.hid hca
      have HSEP := Lib.hid hsep
      have HTE := Lib.hid (And.intro htl (And.intro hte hkj))
      have HLT := Lib.hid hlt
      have hwj : IntKind.i64.wrap ((j : Int) + 1) = (j : Int) + 1 := IntWalk.i64_in _ (by omega)
      have hj0 : (0 : Int) ≤ (j : Int) + 1 := by omega
      have hj1 : (j : Int) + 1 ≤ (SF.size : Int) := by omega
      have hj2 : (j : Int) ≤ (j : Int) + 1 := by omega
      have hj3 : (j : Int) < (SF.size : Int) := by omega
      have hnb := ny.toNat_lt
      have hcb := ch.toNat_lt
      clear hcut hsep hca hsb hC hch hny htl hte hkj hj hlF
      go_upto_region 11 with fail
      clear hcut2 hcut3 d0
      go_cut [80] (fun v80 wx => v80 = .bool sb ∧ wx = wr)
      case first =>
        by_cases h61 : ch = 61
        · obtain ⟨q1, q2⟩ := text_eq C [ch] [61] HC.out true (by rw [h61]; rfl)
          obtain ⟨q3, q4⟩ := text_eq C [ch] [10] HC.out false (by rw [h61]; decide)
          by_cases hnx : j + 1 < SF.size
          · have d1 : decide ((j : Int) + 1 < (SF.size : Int)) = true := by simp; omega
            have d2 : (j : Int) + 1 < (SF.size : Int) := by omega
            by_cases hy : ny = 32
            · have e1 : ((ny.toNat : Int) == 32) = true := by rw [hy]; rfl
              have HS := Lib.hid (show sb = true from by rw [HSEP.out]; simp [h61, hnx, hy])
              clear h61 hnx hy
              go_wp2_with fail
              go_meet
              exact ⟨by rw [HS.out], rfl⟩
            · have e1 : ((ny.toNat : Int) == 32) = false := by
                rw [beq_eq_false_iff_ne]
                intro e
                exact hy (UInt8.toNat_inj.1 (by simpa using (by omega : ny.toNat = 32)))
              have HS := Lib.hid (show sb = false from by rw [HSEP.out]; simp [h61, hnx, hy])
              clear h61 hnx hy
              go_wp2_with fail
              go_meet
              exact ⟨by rw [HS.out], rfl⟩
          · have d1 : decide ((j : Int) + 1 < (SF.size : Int)) = false := by simp; omega
            have HS := Lib.hid (show sb = false from by rw [HSEP.out]; simp [h61, hnx])
            clear h61 hnx
            go_wp2_with fail
            go_meet
            exact ⟨by rw [HS.out], rfl⟩
        · obtain ⟨q1, q2⟩ := text_eq C [ch] [61] HC.out false (by simp [h61])
          by_cases h10 : ch = 10
          · obtain ⟨q3, q4⟩ := text_eq C [ch] [10] HC.out true (by rw [h10]; rfl)
            have HS := Lib.hid (show sb = true from by rw [HSEP.out]; simp [h10])
            clear h61 h10
            go_wp2_with fail
            go_meet
            exact ⟨by rw [HS.out], rfl⟩
          · obtain ⟨q3, q4⟩ := text_eq C [ch] [10] HC.out false (by simp [h10])
            have HS := Lib.hid (show sb = false from by rw [HSEP.out]; simp [h61, h10])
            clear h61 h10
            go_wp2_with fail
            go_meet
            exact ⟨by rw [HS.out], rfl⟩
      obtain ⟨rfl, rfl⟩ := hcut
      obtain ⟨wr, rfl⟩ : ∃ z, z = wc := ⟨wc, rfl⟩
      clear hI1 hK1 HSEP
      have HTL := Lib.hid (show (outM sp k ch sb).length ≤ 9 from outM_le sp k ch sb)
      have HKL := Lib.hid (nextK_le k sb)
      go_upto_if 80 with fail
      go_cut [12, 14] (fun v12 v14 wx => v12 = .int .i64 (nextK k sb : Int) ∧ v14 = .string ⟨(outM sp k ch sb).toArray⟩ ∧ Lows w [blkL gy 27 (x.cells (.slice Ay nx cy)), peL Ay nx x.peers, blkL gx 27 (x.cells (.slice Ax nx cx)), peL Ax nx x.peers, rdL S sn sp] wx)
      case first =>
        cases sb with
        | false =>
          have HO := Lib.hid (show Value.string C = .string ⟨(outM sp k ch false).toArray⟩ from by rw [← HC.out]; rfl)
          go_wp2_with fail
          go_meet
          exact ⟨rfl, HO.out, HM.out⟩
        | true =>
          have hk9 : k ≤ 3500 := by have := HTE.out.2.2; omega
          have HSN := Lib.hid (show sp.length = sn from (HM.out.rd 4 rfl).1)
          by_cases hks : k < sn
          · have d1 : decide ((k : Int) < (sn : Int)) = true := by simp; omega
            have d2 : (k : Int) < (sn : Int) := by omega
            obtain ⟨bs, os, rfl, _, _⟩ := (HM.out.rd 4 rfl).at_ (by omega)
            obtain ⟨sx, hsx⟩ : ∃ z, sp.getD k 0 = z := ⟨_, rfl⟩
            have HCL := Lib.hid (show ∀ W, Lows w [blkL gy 27 (x.cells (.slice Ay nx cy)), peL Ay nx x.peers, blkL gx 27 (x.cells (.slice Ax nx cx)), peL Ax nx x.peers, rdL (some ⟨bs, os, none⟩) sn sp] W → W.cell? ⟨bs, os + k, none⟩ = some (.int .u8 (sx.toNat : Int)) from fun W h => by have hc := rd_cellA (h.rd 4 rfl) k (by rw [HSN.out]; exact hks); rwa [hsx] at hc)
            have HOU := Lib.hid (show outM sp k ch true = if ch = 10 ∧ sx.toNat % 7 = 0 then noteT else baseC ch sx from by rw [outM, if_pos rfl, if_pos (by rw [HSN.out]; exact hks), hsx]; rfl)
            have hx := HCL.out wr HM.out
            have fx : ∀ o, (wr.alloc o).cell? ⟨bs, os + k, none⟩ = some (.int .u8 (sx.toNat : Int)) := fun o => cell_below hx ((Below.refl _ _).alloc (Nat.le_refl _) o)
            have hadd1 := fun W => add_text [32] [ch] (by simp) (by simp) W
            have hadd2 := fun W => add_text [9] [ch] (by simp) (by simp) W
            have hadd3 := fun W => add_text [ch] [32] (by simp) (by simp) W
            obtain ⟨C1, hC1⟩ : ∃ S : ByteArray, ⟨([32] ++ [ch]).toArray⟩ = S := ⟨_, rfl⟩
            obtain ⟨C2, hC2⟩ : ∃ S : ByteArray, ⟨([9] ++ [ch]).toArray⟩ = S := ⟨_, rfl⟩
            obtain ⟨C3, hC3⟩ : ∃ S : ByteArray, ⟨([ch] ++ [32]).toArray⟩ = S := ⟨_, rfl⟩
            simp only [hC1, HC.out] at hadd1
            simp only [hC2, HC.out] at hadd2
            simp only [hC3, HC.out] at hadd3
            have HC1 := Lib.hid hC1
            have HC2 := Lib.hid hC2
            have HC3 := Lib.hid hC3
            have hxb := sx.toNat_lt
            clear hC1 hC2 hC3 hsx hks
            go_upto_region 13 with fail
            clear d1
            go_cut [14] (fun v14 wx => v14 = .string ⟨(baseC ch sx).toArray⟩ ∧ Lows w [blkL gy 27 (x.cells (.slice Ay nx cy)), peL Ay nx x.peers, blkL gx 27 (x.cells (.slice Ax nx cx)), peL Ax nx x.peers, rdL (some ⟨bs, os, none⟩) sn sp] wx)
            case first =>
              rcases (show sx.toNat % 4 = 0 ∨ sx.toNat % 4 = 1 ∨ sx.toNat % 4 = 2 ∨ sx.toNat % 4 = 3 by omega) with hm4 | hm4 | hm4 | hm4
              · have HB := Lib.hid (show Value.string C = .string ⟨(baseC ch sx).toArray⟩ from by
                  unfold baseC
                  rw [if_pos hm4, HC.out])
                have e1 : (sx.toNat : Int) % 4 = 0 := by omega
                have e2 : (sx.toNat : Int).tmod 4 = 0 := by rw [Int.tmod_eq_emod_of_nonneg (by omega)]; exact e1
                clear hm4
                go_wp2_with fail
                go_meet
                exact ⟨HB.out, HM.out.below ((Below.refl _ _).alloc (Nat.le_refl _) _)⟩
              · have HB := Lib.hid (show Value.string C1 = .string ⟨(baseC ch sx).toArray⟩ from by
                  unfold baseC
                  rw [if_neg (by omega), if_pos hm4, ← HC1.out]; rfl)
                have e1 : (sx.toNat : Int) % 4 = 1 := by omega
                have e2 : (sx.toNat : Int).tmod 4 = 1 := by rw [Int.tmod_eq_emod_of_nonneg (by omega)]; exact e1
                clear hm4
                go_wp2_with fail
                go_meet
                exact ⟨HB.out, HM.out.below ((Below.refl _ _).alloc (Nat.le_refl _) _)⟩
              · have HB := Lib.hid (show Value.string C2 = .string ⟨(baseC ch sx).toArray⟩ from by
                  unfold baseC
                  rw [if_neg (by omega), if_neg (by omega), if_pos hm4, ← HC2.out]; rfl)
                have e1 : (sx.toNat : Int) % 4 = 2 := by omega
                have e2 : (sx.toNat : Int).tmod 4 = 2 := by rw [Int.tmod_eq_emod_of_nonneg (by omega)]; exact e1
                clear hm4
                go_wp2_with fail
                go_meet
                exact ⟨HB.out, HM.out.below ((Below.refl _ _).alloc (Nat.le_refl _) _)⟩
              · have HB := Lib.hid (show Value.string C3 = .string ⟨(baseC ch sx).toArray⟩ from by
                  unfold baseC
                  rw [if_neg (by omega), if_neg (by omega), if_neg (by omega), ← HC3.out]; rfl)
                have e1 : (sx.toNat : Int) % 4 = 3 := by omega
                have e2 : (sx.toNat : Int).tmod 4 = 3 := by rw [Int.tmod_eq_emod_of_nonneg (by omega)]; exact e1
                clear hm4
                go_wp2_with fail
                go_meet
                exact ⟨HB.out, HM.out.below ((Below.refl _ _).alloc (Nat.le_refl _) _)⟩
            obtain ⟨rfl, hm⟩ := hcut
            have hx2 := HCL.out _ hm
            replace HM := Lib.hid hm
            clear hm hx fx hadd1 hadd2 hadd3 HC1 HC2 HC3
            by_cases h10 : ch = 10
            · have e1 : ((ch.toNat : Int) == 10) = true := by rw [h10]; rfl
              by_cases h7 : sx.toNat % 7 = 0
              · have e3 : (sx.toNat : Int) % 7 = 0 := by omega
                have e2 : (sx.toNat : Int).tmod 7 = 0 := by rw [Int.tmod_eq_emod_of_nonneg (by omega)]; exact e3
                have HF := Lib.hid (show Value.string ⟨#[10, 35, 32, 110, 111, 116, 101, 10, 10]⟩ = .string ⟨(outM sp k ch true).toArray⟩ from by rw [HOU.out, if_pos ⟨h10, h7⟩]; rfl)
                clear h10 h7
                go_wp2_with fail
                go_meet
                exact ⟨by show _ = Value.int .i64 ((k + 1 : Nat) : Int); go_num, HF.out, HM.out⟩
              · obtain ⟨r7, hr7⟩ : ∃ z, sx.toNat % 7 = z := ⟨_, rfl⟩
                have e3 : (sx.toNat : Int) % 7 = (r7 : Int) := by omega
                have e2 : (sx.toNat : Int).tmod 7 = (r7 : Int) := by rw [Int.tmod_eq_emod_of_nonneg (by omega)]; exact e3
                have w7' : IntKind.u8.wrap (r7 : Int) = (r7 : Int) := by rw [IntKind.wrap_u8]; omega
                have e4 : ((r7 : Int) == 0) = false := by rw [beq_eq_false_iff_ne]; omega
                have HF := Lib.hid (show Value.string ⟨(baseC ch sx).toArray⟩ = .string ⟨(outM sp k ch true).toArray⟩ from by rw [HOU.out, if_neg (fun h => h7 h.2)])
                clear h10 h7 hr7
                go_wp2_with fail
                go_meet
                exact ⟨by show _ = Value.int .i64 ((k + 1 : Nat) : Int); go_num, HF.out, HM.out⟩
            · have e1 : ((ch.toNat : Int) == 10) = false := by
                rw [beq_eq_false_iff_ne]
                intro e
                exact h10 (UInt8.toNat_inj.1 (by simpa using (by omega : ch.toNat = 10)))
              have HF := Lib.hid (show Value.string ⟨(baseC ch sx).toArray⟩ = .string ⟨(outM sp k ch true).toArray⟩ from by rw [HOU.out, if_neg (fun h => h10 h.1)])
              clear h10
              go_wp2_with fail
              go_meet
              exact ⟨by show _ = Value.int .i64 ((k + 1 : Nat) : Int); go_num, HF.out, HM.out⟩
          · have d1 : decide ((k : Int) < (sn : Int)) = false := by simp; omega
            have d2 : decide (k < sn) = false := decide_eq_false hks
            have HO := Lib.hid (show Value.string C = .string ⟨(outM sp k ch true).toArray⟩ from by rw [outM, if_pos rfl, if_neg (by rw [HSN.out]; exact hks), ← HC.out])
            clear hks
            go_wp2_with fail
            go_meet
            exact ⟨by show _ = Value.int .i64 ((k + 1 : Nat) : Int); go_num, HO.out, HM.out⟩
      obtain ⟨rfl, rfl, hm⟩ := hcut
      replace HM := Lib.hid hm
      clear hm hI hK
      obtain ⟨k2, hk2⟩ : ∃ z, nextK k sb = z := ⟨_, rfl⟩
      obtain ⟨o2, ho2⟩ : ∃ z, outM sp k ch sb = z := ⟨_, rfl⟩
      rw [hk2] at HKL HCA ⊢
      rw [ho2] at HTL HCA ⊢
      have hadd := fun W => add_text tt o2 (by have := HTE.out.1; omega) (by have := HTL.out; omega) W
      clear hk2 ho2 hwj hj0 hj1 hj2 hj3
      obtain ⟨j2, hj2⟩ : ∃ z, j + 1 = z := ⟨_, rfl⟩
      have e8 : (j : Int) + 1 = (j2 : Int) := by omega
      have w8' : IntKind.i64.wrap (j2 : Int) = (j2 : Int) := by rw [IntKind.wrap_i64]; omega
      have HN := Lib.hid (show j2 ≤ SF.size ∧ k2 ≤ j2 ∧ (tt ++ o2).length ≤ 9 * j2 ∧ SF.size - j2 < SF.size - j from by
        have h1 := HTE.out.1
        have h2 := HTE.out.2.2
        have h3 := HTL.out
        have h4 := HKL.out
        have h5 := HLT.out
        rw [List.length_append]
        omega)
      have HNE := Lib.hid (show (tt ++ o2) ++ chgM (sp.drop k2) (F.drop j2) = chgM sp F from by rw [List.append_assoc, ← hj2, ← HCA.out]; exact HTE.out.2.1)
      clear hj2
      go_wp2_with fail
      go_roundw
      case rel => exact ⟨j2, k2, tt ++ o2, HN.out.1, HN.out.2.1, rfl, rfl, rfl, HN.out.2.2.1, HNE.out, HM.out⟩
      case measure => simp [intOf]; exact HN.out.2.2.2
    · obtain rfl : j = SF.size := by omega
      have d0 : decide ((SF.size : Int) < (SF.size : Int)) = false := by simp
      have HT := Lib.hid (show tt = chgM sp F from by
        have h := hte
        rw [show F.drop SF.size = [] from List.drop_of_length_le (by rw [HZ.out]; exact Nat.le_refl _), chgM_end, List.append_nil] at h
        exact h)
      have HTB := Lib.hid (show tt.length ≤ 31500 from by omega)
      clear hte htl hkj hj hlt
      obtain ⟨TT, hTT⟩ : ∃ S : ByteArray, ⟨tt.toArray⟩ = S := ⟨_, rfl⟩
      have hts : TT.size = tt.length := by rw [← hTT]; exact mk_size tt
      rw [hTT]
      by_cases h4 : tt.length ≤ 4000
      · have hp2 := HP2.out (by rw [← HT.out]; exact h4)
        rw [← HT.out] at hp2
        simp only [hTT] at hp2
        have d4 : decide ((TT.size : Int) > 4000) = false := by simp; omega
        have d5 : decide (4000 < TT.size) = false := decide_eq_false (by omega)
        have HPZ := Lib.hid hp2
        clear hp2 hTT hts h4 HT HTB
        go_wp2_with fail
        refine (HPZ.out _ (HLV.out.below HM.out.bel)).mono ?_
        rintro e w9 ⟨Az, cz, rfl, hpe, _, hb⟩
        have HM2 := Lib.hid (show Lows w [peL Az nx x.peers, blkL gy 27 (x.cells (.slice Ay nx cy)), peL Ay nx x.peers, blkL gx 27 (x.cells (.slice Ax nx cx)), peL Ax nx x.peers, rdL S sn sp] w9 from (HM.out.below hb).cons (peL Az nx x.peers) hpe)
        obtain ⟨zc, hzcc⟩ : ∃ z, (x.cells (.slice Az nx cz)).toArray = z := ⟨_, rfl⟩
        rw [hzcc]
        have HZC := Lib.hid hzcc
        clear hpe hb HPZ HM hzcc d0
        have HZ := Lib.hid (Blk.new w9 27 confZ)
        go_upto_region 19 with ((with_reducible refine at_op (.store 27 (.tmp 15) (.tmp 120)) rfl ?_); refine wpList_store_obj rfl 27 (.tmp 15) (.tmp 120) rfl w9.heap.size 0 (x.cells (.slice Az nx cz)) rfl (by show Value.agg zc = _; rw [HZC.out]) 27 confZ HZ.out (conf_cellsOf _ HXO.out _) (by rw [ConfM.cells_length HXO.out, confZ_length]; omega) (conf_one _ _ _ _) ?_; intro wb hb4 hg4)
        rw [setL_all confZ _ (by rw [ConfM.cells_length HXO.out, confZ_length])] at hb4
        have HM := Lib.hid (show Lows w [blkL w9.heap.size 27 (x.cells (.slice Az nx cz)), peL Az nx x.peers, blkL gy 27 (x.cells (.slice Ay nx cy)), peL Ay nx x.peers, blkL gx 27 (x.cells (.slice Ax nx cx)), peL Ax nx x.peers, rdL S sn sp] wb from HM2.out.stored hg4 hb4)
        clear hb4 hg4 HZ HM2
        generalize w9.heap.size = gz at HM ⊢
        have hf1 := HFM.out Az cz wb (HM.out.get (f := peL Az nx x.peers) 1 rfl) (HLV.out.below HM.out.bel)
        rw [HZC.out] at hf1
        simp only [HSF.out] at hf1
        have HF1 := Lib.hid hf1
        clear hf1
        go_wp2_with ((with_reducible refine at_op (.load 27 (.tmp 15)) rfl ?_); refine wpList_load_obj_g (by rfl) 27 (.tmp 15) rfl gz 0 rfl _ (HM.out.blk 0 rfl).all _ Tryz.underlying27 rfl (conf_cellsOf _ HXO.out _) ?_; rw [HZC.out])
        refine HF1.out.mono ?_
        rintro e wa ⟨rfl, hb⟩
        replace HM := Lib.hid (HM.out.below hb)
        clear hb HF1
        have hs1 := HSM.out Ax Az cx cz wa (HM.out.get (f := peL Ax nx x.peers) 5 rfl) (HM.out.get (f := peL Az nx x.peers) 1 rfl)
        rw [HXC.out, HZC.out] at hs1
        have HS1 := Lib.hid hs1
        clear hs1
        go_wp2_with (first | ((with_reducible refine at_op (.load 27 (.tmp 5)) rfl ?_); refine wpList_load_obj_g (by rfl) 27 (.tmp 5) rfl gx 0 rfl _ (HM.out.blk 4 rfl).all _ Tryz.underlying27 rfl (conf_cellsOf _ HXO.out _) ?_; rw [HXC.out]) | ((with_reducible refine at_op (.load 27 (.tmp 15)) rfl ?_); refine wpList_load_obj_g (by rfl) 27 (.tmp 15) rfl gz 0 rfl _ (HM.out.blk 0 rfl).all _ Tryz.underlying27 rfl (conf_cellsOf _ HXO.out _) ?_; rw [HZC.out]))
        refine HS1.out.mono ?_
        rintro e wd ⟨rfl, hb⟩
        replace HM := Lib.hid (HM.out.below hb)
        clear hb HS1
        go_wp2_with fail
        refine (cf_begun_any cfFmtPrefC cfParsePrefC wd (HLV.out.below HM.out.bel)).mono ?_
        rintro e wz ⟨rfl, hb⟩
        have HF := Lib.hid (HM.out.below hb)
        clear hb HM
        go_wp2
        go_ret
        exact ⟨rfl, HF.out.bel⟩
      · have d4 : decide ((TT.size : Int) > 4000) = true := by simp; omega
        have d5 : decide (4000 < TT.size) = true := decide_eq_true (by omega)
        have hp2 := fun W => parse_long tt W (by omega) (by have := HTB.out; omega)
        simp only [hTT] at hp2
        have HPZ := Lib.hid hp2
        obtain ⟨tl, htl⟩ : ∃ z : List UInt8, (if validE conf0 = 0 then fmtM conf0 else []) = z := ⟨_, rfl⟩
        obtain ⟨ve, hve⟩ : ∃ z : Int, (validE conf0 : Int) = z := ⟨_, rfl⟩
        have hf1 := fun W (hl : LvCf W) => format_any conf0 none 0 0 W conf0_ok PeRd.nil (by omega) (by simp [conf0]) hl
        rw [htl, hve] at hf1
        have HC0 := Lib.hid conf0_ok
        obtain ⟨zc, hzcc⟩ : ∃ z, (conf0.cells (.slice none 0 0)).toArray = z := ⟨_, rfl⟩
        rw [hzcc] at hf1 hp2
        have HPZ := Lib.hid hp2
        have HZC := Lib.hid hzcc
        have HF1 := Lib.hid hf1
        clear hp2 hTT hts h4 HT HTB hf1 hzcc htl hve
        go_wp2_with fail
        refine (HPZ.out _).mono ?_
        rintro e w9 ⟨rfl, hb⟩
        replace HM := Lib.hid (HM.out.below hb)
        clear hb HPZ d0
        have HZ := Lib.hid (Blk.new w9 27 confZ)
        go_upto_region 19 with ((with_reducible refine at_op (.store 27 (.tmp 15) (.tmp 120)) rfl ?_); refine wpList_store_obj rfl 27 (.tmp 15) (.tmp 120) rfl w9.heap.size 0 (conf0.cells (.slice none 0 0)) rfl (by show Value.agg zc = _; rw [HZC.out]) 27 confZ HZ.out (conf_cellsOf _ HC0.out _) (by rw [ConfM.cells_length HC0.out, confZ_length]; omega) (conf_one _ _ _ _) ?_; intro wb hb4 hg4)
        rw [setL_all confZ _ (by rw [ConfM.cells_length HC0.out, confZ_length])] at hb4
        have HM2 := Lib.hid (show Lows w [blkL w9.heap.size 27 (conf0.cells (.slice none 0 0)), blkL gy 27 (x.cells (.slice Ay nx cy)), peL Ay nx x.peers, blkL gx 27 (x.cells (.slice Ax nx cx)), peL Ax nx x.peers, rdL S sn sp] wb from HM.out.stored hg4 hb4)
        clear hb4 hg4 HZ HM
        generalize w9.heap.size = gz at HM2 ⊢
        go_wp2_with ((with_reducible refine at_op (.load 27 (.tmp 15)) rfl ?_); refine wpList_load_obj_g (by rfl) 27 (.tmp 15) rfl gz 0 rfl _ (HM2.out.blk 0 rfl).all _ Tryz.underlying27 rfl (conf_cellsOf _ HC0.out _) ?_; rw [HZC.out])
        refine (HF1.out _ (HLV.out.below HM2.out.bel)).mono ?_
        rintro e wa ⟨rfl, hb⟩
        have HF := Lib.hid (HM2.out.below hb)
        clear hb HF1 HM2
        go_wp2
        go_ret
        exact ⟨rfl, HF.out.bel⟩
end Go.Proofs.YtcbfchkhbngpkaaGreatDoor
namespace Go.Proofs.YtcbfchkhbngpkaaGreatDoor
open Go.RowKit

theorem cg_returns_all (w : World) (hlv : LvCf w) (A : Option Addr) (n c : Nat) (l : List UInt8) (S : Option Addr) (sn sc : Nat) (sp : List UInt8) (hnc : n ≤ c) (hcm : c ≤ maxLen) (hr : Rd w w.heap.size A n l) (_ : sn ≤ sc) (_ : sc ≤ maxLen) (hs : Rd w w.heap.size S sn sp) :
    Calls Tryz.prog 4 #[.slice A n c, .slice S sn sc] w fun e w' => e = .returned (.bool true) ∧ Below w.heap.size w w' := cg_returns_walk w A S n c sn sc l sp hnc hcm hr hs hlv
end Go.Proofs.YtcbfchkhbngpkaaGreatDoor
