/-
  KdfParts returns true for every input, and changes nothing that was there: the walk, over what is asked of kdf.Hmac, Expand and blake.Hash.
-/
import Derived.Test.YtbochejgjmjieaaDoorCells32
import Derived.Test.YtbochejgjmjieaaDoorKdBegun
import Derived.Test.YtbochejgjmjieaaDoorBlUse
import Derived.Test.YtbochejgjmjieaaDoorBlSame
import Derived.Test.YtbochejgjmjieaaDoorSliceOf
import Derived.Test.YtbochejgjmjieaaDoorCut
import Derived.RegionTactic
namespace Go.Proofs.YtbochejgjmjieaaDoor
open Go.RowKit

theorem xpad_fill (l : List UInt8) (j m : Nat) (x : UInt8) : xpadB (l ++ List.replicate j 0) x m = xpadB l x m := by
  unfold xpadB
  congr 1
  funext i
  congr 1
  rw [List.getD_eq_getElem?_getD, List.getD_eq_getElem?_getD, List.getElem?_append]
  split
  · rfl
  · rename_i h
    rw [List.getElem?_replicate, List.getElem?_eq_none (by omega)]
    split <;> rfl
theorem hmac_fill (key data : List UInt8) (j : Nat) (h : (hkeyB key).length + j = 64) : hmacB (hkeyB key ++ List.replicate j 0) data = hmacB key data := by
  have e : hkeyB (hkeyB key ++ List.replicate j 0) = hkeyB key ++ List.replicate j 0 := by
    rw [hkeyB, if_neg (by rw [List.length_append, List.length_replicate]; omega)]
  rw [hmacB, hmacB, e, xpad_fill, xpad_fill]
/-- the key on its way to 64 bytes: a row of its own, or the hash value itself -/
def Filling (w : World) (s0 : List UInt8) (j : Nat) (v : Value) (W : World) : Prop :=
  ∃ B, MemB w B [] W ∧ s0.length + j ≤ 64 ∧ ((∃ A c, v = .slice A (s0.length + j) c ∧ s0.length + j ≤ c ∧ c ≤ maxLen ∧ W.ownsRow B 5 1 v (s0.length + j) ((s0 ++ List.replicate j 0).map u8v)) ∨ (j = 0 ∧ s0.length = 32 ∧ ∃ P, v = .slice (some ⟨P, 0, none⟩) 32 32 ∧ Blk W P 30 (s0.map u8v)))

set_option maxRecDepth 100000 in
set_option maxHeartbeats 16000000 in
theorem kd_parts_walk (HH : KdHmacC) (HB : BlHashC) (HX : KdExpandC) (w : World) (hlv : LvKdf w) (Ak : Option Addr) (nk ck : Nat) (lk : List UInt8) (Ad : Option Addr) (nd cd : Nat) (ld : List UInt8) (ia : Nat) (hkc : nk ≤ ck) (hkm : ck ≤ maxLen) (hrk : Rd w w.heap.size Ak nk lk) (hdc : nd ≤ cd) (hdm : cd ≤ maxLen) (hrd : Rd w w.heap.size Ad nd ld) (hia : ia ≤ 255) :
    Calls Tryd.prog 4 #[.slice Ak nk ck, .slice Ad nd cd, .int .u8 (ia : Int)] w fun e w' => e = .returned (.bool true) ∧ Below w.heap.size w w' := by
  obtain ⟨i0, hi, hz0, hz1, hz2⟩ := info_parts Tryd.info5
  have HM := Lib.hid (Mem.nil w)
  have HK := Lib.hid hrk
  have HD := Lib.hid hrd
  have HHC := Lib.hid HH
  have HLV := Lib.hid hlv
  clear hlv
  have HBC := Lib.hid HB
  have HBG := Lib.hid (kd_begun_any HX)
  clear hrk hrd HH HB HX
  go_enter Tryd.func4, Tryd.ntmps4
  go_wp2_with fail
  refine (cut_any _ Ak nk ck 90 lk hkc hkm _ (HK.out.below HM.out.bel)).mono ?_
  rintro e wc ⟨rfl, hcut, rfl⟩
  clear hcut
  go_wp2_with fail
  refine (cut_any _ Ad nd cd 100 ld hdc hdm _ (HD.out.below HM.out.bel)).mono ?_
  rintro e wc ⟨rfl, hcut, rfl⟩
  clear hcut
  obtain ⟨kn, hkn⟩ : ∃ n, min nk 90 = n := ⟨_, rfl⟩
  obtain ⟨dn, hdn⟩ : ∃ n, min nd 100 = n := ⟨_, rfl⟩
  have k1 : kn ≤ ck := by omega
  have k2 : kn ≤ 90 := by omega
  have d1 : dn ≤ cd := by omega
  have d2 : dn ≤ 100 := by omega
  replace HK := Lib.hid (HK.out.take (m := kn) (by omega))
  replace HD := Lib.hid (HD.out.take (m := dn) (by omega))
  rw [hkn, hdn]
  clear hkn hdn
  generalize lk.take kn = kl at HK
  generalize ld.take dn = dl at HD
  obtain ⟨i, hi2⟩ : ∃ n, min ia dn = n := ⟨_, rfl⟩
  have hid : i ≤ dn := by omega
  have hic : i ≤ cd := by omega
  have m1 : (if dn < ia then (dn : Int) else (ia : Int)) = (i : Int) := by split <;> omega
  have m2 : (if (dn : Int) < (ia : Int) then (dn : Int) else (ia : Int)) = (i : Int) := by split <;> omega
  clear hi2
  have R1 := Lib.hid (HD.out.take (m := i) hid)
  have R2 := Lib.hid (HD.out.behind i cd hid d1)
  have F2 := Lib.hid (List.take_append_drop i dl)
  generalize dl.take i = l1 at R1 F2
  generalize dl.drop i = l2 at R2 F2
  obtain ⟨r, hr⟩ : ∃ r, hmacB kl dl = r := ⟨_, rfl⟩
  have hrl : r.length = 32 := by rw [← hr]; exact hmacB_length _ _
  have hex := fun w' : World => run_key_same r hrl w'
  obtain ⟨cr, hcr⟩ : ∃ c, (r.map u8v).toArray = c := ⟨_, rfl⟩
  rw [hcr] at hex
  have HEX := Lib.hid hex
  have HCR := Lib.hid (show ((hmacB kl dl).map u8v).toArray = cr by rw [hr, hcr])
  clear hr hrl hex hcr
  have HKL := Lib.hid HK.out.1
  have HKT := Lib.hid (show (hkeyB kl).length ≤ 64 from hkeyB_length kl)
  go_upto_region 4 with (refine wpList_append_rd _ rfl (.const (.slice none 0 0)) (.tmp 21) 22 rfl w.heap.size 5 i0 (.int .u8 0) Tryd.underlying22 hi hz0 hz1 hz2 rfl (.slice none 0 0) 0 [] rfl (World.ownsRow_nil _ _ _ _) w.heap.size Ak kn ck kl rfl HK.out (by omega) (Nat.le_refl _) ?_; intro v4 w4 ho4 hg4; rw [Nat.zero_add, List.nil_append] at ho4)
  have hB4 : MemB w w.heap.size [] w4 := (Mem.nil w).fix.grown (World.ownsRow_nil w _ 5 1) hg4
  have H4 := Lib.hid (And.intro hB4 ho4)
  clear hB4 ho4 hg4 HM
  go_upto_if 25 with fail
  go_cut [10] (fun v wx => Filling w (hkeyB kl) 0 v wx)
  case first =>
    by_cases hk : 64 < kn
    · have dk : decide ((kn : Int) > 64) = true := by simp; omega
      have hh : hkeyB kl = hashB 32 [] kl := by rw [hkeyB, if_pos (by rw [HKL.out]; exact hk)]
      have hhl : (hashB 32 [] kl).length = 32 := hashB_length 32 [] kl (by omega)
      have HM := Lib.hid (show Mem w [] w4 from H4.out.1.mem)
      go_wp2_with fail
      replace HM := Lib.hid (show Mem w [blkE w4.heap.size 22 [.slice Ak kn ck]] (w4.alloc (.cells #[.slice Ak kn ck] 22)) from HM.out.alloc rfl 22 #[.slice Ak kn ck] [.slice Ak kn ck] rfl)
      generalize w4.alloc (.cells #[.slice Ak kn ck] 22) = w5 at HM ⊢
      refine (hash_one HBC.out w4.heap.size 22 Ak kn ck kl k1 hkm (by omega) _ (HLV.out.blake.below HM.out.bel) (HM.out.blk 0 rfl) (HM.out.arg HK.out)).mono ?_
      rintro e w6 ⟨rfl, hb⟩
      replace HM := Lib.hid (show Mem w [] w6 from (HM.out.below hb).erase 0)
      clear hb
      rw [← hh] at hhl ⊢
      obtain ⟨s0, hs0⟩ : ∃ s, hkeyB kl = s := ⟨_, rfl⟩
      rw [hs0] at hhl ⊢
      have HQ0 := Lib.hid hs0
      clear hh hs0
      obtain ⟨ch, hch⟩ : ∃ c, (s0.map u8v).toArray = c := ⟨_, rfl⟩
      rw [hch]
      have HS := Lib.hid (And.intro hhl hch)
      clear hhl hch
      have HA := Lib.hid (show Mem w [blkE w6.heap.size 30 (aeZ 32)] (w6.alloc (.cells #[.int .u8 0, .int .u8 0, .int .u8 0, .int .u8 0, .int .u8 0, .int .u8 0, .int .u8 0, .int .u8 0, .int .u8 0, .int .u8 0, .int .u8 0, .int .u8 0, .int .u8 0, .int .u8 0, .int .u8 0, .int .u8 0, .int .u8 0, .int .u8 0, .int .u8 0, .int .u8 0, .int .u8 0, .int .u8 0, .int .u8 0, .int .u8 0, .int .u8 0, .int .u8 0, .int .u8 0, .int .u8 0, .int .u8 0, .int .u8 0, .int .u8 0, .int .u8 0] 30)) from HM.out.alloc rfl 30 #[.int .u8 0, .int .u8 0, .int .u8 0, .int .u8 0, .int .u8 0, .int .u8 0, .int .u8 0, .int .u8 0, .int .u8 0, .int .u8 0, .int .u8 0, .int .u8 0, .int .u8 0, .int .u8 0, .int .u8 0, .int .u8 0, .int .u8 0, .int .u8 0, .int .u8 0, .int .u8 0, .int .u8 0, .int .u8 0, .int .u8 0, .int .u8 0, .int .u8 0, .int .u8 0, .int .u8 0, .int .u8 0, .int .u8 0, .int .u8 0, .int .u8 0, .int .u8 0] (aeZ 32) rfl)
      go_upto_region 6 with (refine wpList_store_blk rfl 30 (.tmp 11) (.tmp 28) rfl w6.heap.size (s0.map u8v) rfl (by show Value.agg ch = _; rw [HS.out.2]) 30 (aeZ 32) (HA.out.blk 0 rfl) (cells32 s0 HS.out.1) (by rw [List.length_map, HS.out.1]; rfl) (u8v_one _) ?_; intro w7 hb9 hg9)
      (try simp only [Act.put])
      replace HM := Lib.hid (show Mem w [blkE w6.heap.size 30 (s0.map u8v)] w7 from HA.out.put 0 rfl _ hg9 hb9)
      clear HA hb9 hg9
      generalize w6.heap.size = P at HM ⊢
      go_wp2_with fail
      go_meet
      rw [HQ0.out]
      exact ⟨w7.heap.size, (HM.out.erase 0).fix, by rw [HS.out.1]; omega, .inr ⟨rfl, HS.out.1, P, rfl, HM.out.blk 0 rfl⟩⟩
    · have dk : decide ((kn : Int) > 64) = false := by simp; omega
      have hh : hkeyB kl = kl := by rw [hkeyB, if_neg (by rw [HKL.out]; exact hk)]
      go_wp2_with fail
      go_meet
      rw [hh]
      refine ⟨w.heap.size, H4.out.1, by rw [HKL.out]; omega, .inl ?_⟩
      have ho := H4.out.2
      rw [List.replicate_zero, List.append_nil, Nat.add_zero, HKL.out]
      rcases ho.2 with ⟨hv, h0⟩ | ⟨g, cap, cur, hv, _, _, hcap, hmx, _⟩
      · exact ⟨none, 0, by rw [hv, h0], by omega, by unfold maxLen; omega, ho⟩
      · exact ⟨_, cap, hv, hcap, hmx, ho⟩
  case rest =>
    clear H4
    have HSM := Lib.hid (fun (j : Nat) (h : (hkeyB kl).length + j = 64) => hmac_fill kl dl j h)
    generalize hkeyB kl = s0 at hcut HKT HSM
    have HF0 := Lib.hid hcut
    clear hcut
    go_wp2_with fail
    go_loopw [10] (fun v wr => ∃ j, Filling w s0 j v wr) (fun v _ => 64 - lenS v)
    case atStart => exact ⟨0, HF0.out⟩
    case round =>
      clear HF0
      obtain ⟨j, B, hMB, hle, hrow⟩ := hrel
      have HMB := Lib.hid hMB
      clear hMB
      rcases hrow with ⟨A, c, rfl, hc1, hc2, ho⟩ | ⟨rfl, h32, P, rfl, hP⟩
      · have HO := Lib.hid ho
        clear ho
        by_cases hlt : s0.length + j < 64
        · have dl : decide (((s0.length + j : Nat) : Int) < 64) = true := by simp; omega
          have dl2 : decide ((s0.length : Int) + (j : Int) < 64) = true := by simp; omega
          have hbw : Below B wr (wr.alloc (.cells #[.int .u8 0] 5)) := (Below.refl _ _).alloc HMB.out.2.2 _
          have HMA := Lib.hid (HMB.out.below hbw)
          have HOA := Lib.hid (HO.out.alloc (.cells #[.int .u8 0] 5))
          have HR1 := Lib.hid (rd_new wr 5 [0])
          rw [show (([0] : List UInt8).map u8v).toArray = #[.int .u8 0] from rfl] at HR1
          clear hbw HMB HO
          go_wp2_with (refine wpList_append_rd _ rfl (.tmp 33) (.tmp 34) 22 rfl B 5 i0 (.int .u8 0) Tryd.underlying22 hi hz0 hz1 hz2 rfl (.slice A (s0.length + j) c) (s0.length + j) ((s0 ++ List.replicate j 0).map u8v) rfl HOA.out (wr.heap.size + 1) (some ⟨wr.heap.size, 0, none⟩) 1 1 [0] rfl HR1.out (by omega) HMA.out.2.2 ?_; intro v5 w5 ho5 hg5)
          have hrow : (s0 ++ List.replicate j 0).map u8v ++ ([0] : List UInt8).map u8v = (s0 ++ List.replicate (j + 1) 0).map u8v := by
            rw [List.replicate_succ', ← List.append_assoc, List.map_append (l₂ := [0])]
          rw [hrow] at ho5
          have HN := Lib.hid (HMA.out.grown HOA.out hg5)
          obtain ⟨A5, c5, rfl, q1, q2⟩ : ∃ A5 c5, v5 = .slice A5 (s0.length + j + 1) c5 ∧ s0.length + j + 1 ≤ c5 ∧ c5 ≤ maxLen := by
            rcases ho5.2 with ⟨hv, h0⟩ | ⟨g, cap, cur, hv, _, _, hcap, hmx, _⟩
            · omega
            · exact ⟨_, cap, hv, hcap, hmx⟩
          have HO5 := Lib.hid ho5
          clear ho5 hg5 hrow HMA HOA HR1
          go_wp2_with fail
          go_roundw
          case rel => exact ⟨j + 1, B, HN.out, by omega, .inl ⟨A5, c5, rfl, q1, q2, HO5.out⟩⟩
          case measure => simp [lenS]; omega
        · have h64 : s0.length + j = 64 := by omega
          have hsame := HSM.out j h64
          have hdl : decide (((s0.length + j : Nat) : Int) < 64) = false := by simp; omega
          have HO2 := Lib.hid (show wr.ownsRow B 5 1 (.slice A 64 c) 64 ((s0 ++ List.replicate j 0).map u8v) from by have h := HO.out; rw [h64] at h; exact h)
          rw [h64] at hc1 ⊢
          clear HO hlt hle hdl
          generalize s0 ++ List.replicate j 0 = sm at HO2 hsame
          have HM := Lib.hid (show Mem w [rdE B wr.heap.size A 64 sm] wr from HMB.out.row HO2.out)
          have HS := Lib.hid (And.intro hc1 hc2)
          have HSAME := Lib.hid hsame
          clear hsame hc1 hc2 HMB HO2 HSM h64
          go_upto_region 9 with fail
          refine wp_region_held_drew (S := fun W' => Mem w [rdE B wr.heap.size A 64 sm] W') (by kernel_rfl) ((HM.out).drew) (fun hHeld => ?_)
          replace HM := Lib.hid HM.out.drew
          generalize wr.drew = wd1 at HM hHeld ⊢
          refine take_first (v := ?_) 0 rfl (by kernel_rfl) (by kernel_rfl) (by kernel_rfl) (fun _ _ _ h => h) (Or.inl ⟨by rfl, ?_⟩) (by assumption) ?_
          rotate_left
          · (intro w hSw; (try dsimp only at hSw); go_simp; try with_reducible rfl)
          (try simp only [Act.put, List.setIfInBounds_toArray, List.set_cons_zero, List.set_cons_succ])
          refine take_first (v := ?_) 1 rfl (by kernel_rfl) (by kernel_rfl) (by kernel_rfl) (fun _ _ _ h => h) (Or.inl ⟨by rfl, ?_⟩) (by assumption) ?_
          rotate_left
          · (intro w hSw; (try dsimp only at hSw); go_simp; try with_reducible rfl)
          (try simp only [Act.put, List.setIfInBounds_toArray, List.set_cons_zero, List.set_cons_succ])
          refine take_first (v := ?_) 2 rfl (by kernel_rfl) (by kernel_rfl) (by kernel_rfl) (fun _ _ _ h => h) (Or.inl ⟨by rfl, ?_⟩) (by assumption) ?_
          rotate_left
          · (intro w hSw; (try dsimp only at hSw); go_simp; try with_reducible rfl)
          (try simp only [Act.put, List.setIfInBounds_toArray, List.set_cons_zero, List.set_cons_succ])
          refine take_first (v := ?_) 3 rfl (by kernel_rfl) (by kernel_rfl) (by kernel_rfl) (fun _ _ _ h => h) (Or.inl ⟨by rfl, ?_⟩) (by assumption) ?_
          rotate_left
          · (intro w hSw; (try dsimp only at hSw); go_simp; try with_reducible rfl)
          (try simp only [Act.put, List.setIfInBounds_toArray, List.set_cons_zero, List.set_cons_succ])
          refine take_first (v := ?_) 4 rfl (by kernel_rfl) (by kernel_rfl) (by kernel_rfl) (fun _ _ _ h => h) (Or.inl ⟨by rfl, ?_⟩) (by assumption) ?_
          rotate_left
          · (intro w hSw; (try dsimp only at hSw); go_simp; try with_reducible rfl)
          (try simp only [Act.put, List.setIfInBounds_toArray, List.set_cons_zero, List.set_cons_succ])
          refine take_first (v := ?_) 5 rfl (by kernel_rfl) (by kernel_rfl) (by kernel_rfl) (fun _ _ _ h => h) (Or.inl ⟨by rfl, ?_⟩) (by assumption) ?_
          rotate_left
          · (intro w hSw; (try dsimp only at hSw); go_simp; try with_reducible rfl)
          (try simp only [Act.put, List.setIfInBounds_toArray, List.set_cons_zero, List.set_cons_succ])
          refine take_first (v := ?_) 6 rfl (by kernel_rfl) (by kernel_rfl) (by kernel_rfl) (fun _ _ _ h => h) (Or.inl ⟨by rfl, ?_⟩) (by assumption) ?_
          rotate_left
          · (intro w hSw; (try dsimp only at hSw); have s := slice_l Ad dn cd i hid w; go_simp; try with_reducible rfl)
          (try simp only [Act.put, List.setIfInBounds_toArray, List.set_cons_zero, List.set_cons_succ])
          refine take_first (v := ?_) 9 rfl (by kernel_rfl) (by kernel_rfl) (by kernel_rfl) (fun _ _ _ h => h) (Or.inl ⟨by rfl, ?_⟩) (by assumption) ?_
          rotate_left
          · (intro w hSw; (try dsimp only at hSw); go_simp; try with_reducible rfl)
          (try simp only [Act.put, List.setIfInBounds_toArray, List.set_cons_zero, List.set_cons_succ])
          refine take_first (v := ?_) 10 rfl (by kernel_rfl) (by kernel_rfl) (by kernel_rfl) (fun _ _ _ h => h) (Or.inl ⟨by rfl, ?_⟩) (by assumption) ?_
          rotate_left
          · (intro w hSw; (try dsimp only at hSw); go_simp; try with_reducible rfl)
          (try simp only [Act.put, List.setIfInBounds_toArray, List.set_cons_zero, List.set_cons_succ])
          refine step_two 7 11 rfl rfl (by kernel_rfl) (fun K hK => ?_) (fun K hK => ?_)
          · clear hHeld
            go_simp
            replace HM := Lib.hid (show Mem w [blkE wd1.heap.size 22 ([Value.slice Ad i cd, .slice (addrOf Ad i cd) (dn - i) (cd - i)]), rdE B wr.heap.size A 64 sm] (wd1.alloc (.cells #[Value.slice Ad i cd, .slice (addrOf Ad i cd) (dn - i) (cd - i)] 22)) from HM.out.alloc rfl 22 #[Value.slice Ad i cd, .slice (addrOf Ad i cd) (dn - i) (cd - i)] ([Value.slice Ad i cd, .slice (addrOf Ad i cd) (dn - i) (cd - i)]) rfl)
            generalize wd1.alloc (.cells #[Value.slice Ad i cd, .slice (addrOf Ad i cd) (dn - i) (cd - i)] 22) = wy2 at HM ⊢
            generalize wd1.heap.size = Q8 at HM ⊢
            refine hK.out _ _ ((HM.out.erase 0)) (fun hHeld => ?_)
            clear hK K
            (try simp only [Act.put, List.setIfInBounds_toArray, List.set_cons_zero, List.set_cons_succ])
            refine wpAnyH_stronger (T := fun W' => Mem w [blkE Q8 22 ([Value.slice Ad i cd, .slice (addrOf Ad i cd) (dn - i) (cd - i)]), rdE B wr.heap.size A 64 sm] W') (fun _ h' => h'.erase 0) _ _ _ _ ?_
            replace hHeld := HM.out
            refine step_two 8 11 rfl rfl (by kernel_rfl) (fun K hK => ?_) (fun K hK => ?_)
            · clear hHeld
              go_simp
              refine (kd_hmac_two HHC.out Ak kn ck kl k1 hkm (by omega) Q8 22 Ad i cd l1 (by omega) hdm (by omega) (addrOf Ad i cd) (dn - i) (cd - i) l2 (by omega) (by omega) (by omega) _ (HLV.out.below HM.out.bel) (HM.out.arg HK.out) (HM.out.blk 0 rfl) (HM.out.arg R1.out) (HM.out.arg R2.out)).mono ?_
              rintro e wy3 ⟨rfl, hb⟩
              replace HM := Lib.hid (show Mem w [blkE Q8 22 ([Value.slice Ad i cd, .slice (addrOf Ad i cd) (dn - i) (cd - i)]), rdE B wr.heap.size A 64 sm] wy3 from HM.out.below hb)
              rw [F2.out, HCR.out]
              clear hb
              go_wp2_with fail
              refine hK.out _ _ (HM.out) (fun hHeld => ?_)
              clear hK K
              (try simp only [Act.put, List.setIfInBounds_toArray, List.set_cons_zero, List.set_cons_succ])
              refine step_one 11 rfl (by kernel_rfl) (fun K hK => ?_)
              clear hHeld
              go_simp
              replace HM := Lib.hid (show Mem w [blkE wy3.heap.size 22 ([Value.slice Ad dn cd]), blkE Q8 22 ([Value.slice Ad i cd, .slice (addrOf Ad i cd) (dn - i) (cd - i)]), rdE B wr.heap.size A 64 sm] (wy3.alloc (.cells #[Value.slice Ad dn cd] 22)) from HM.out.alloc rfl 22 #[Value.slice Ad dn cd] ([Value.slice Ad dn cd]) rfl)
              generalize wy3.alloc (.cells #[Value.slice Ad dn cd] 22) = wy4 at HM ⊢
              generalize wy3.heap.size = Q12 at HM ⊢
              refine hK.out _ _ ((HM.out.erase 0)) (fun hHeld => ?_)
              clear hK K
              (try simp only [Act.put, List.setIfInBounds_toArray, List.set_cons_zero, List.set_cons_succ])
              refine wpAnyH_stronger (T := fun W' => Mem w [blkE Q12 22 ([Value.slice Ad dn cd]), blkE Q8 22 ([Value.slice Ad i cd, .slice (addrOf Ad i cd) (dn - i) (cd - i)]), rdE B wr.heap.size A 64 sm] W') (fun _ h' => h'.erase 0) _ _ _ _ ?_
              replace hHeld := HM.out
              refine step_one 12 rfl (by kernel_rfl) (fun K hK => ?_)
              clear hHeld
              go_simp
              refine (kd_hmac_one HHC.out Ak kn ck kl k1 hkm (by omega) Q12 22 Ad dn cd dl d1 hdm (by omega) _ (HLV.out.below HM.out.bel) (HM.out.arg HK.out) (HM.out.blk 0 rfl) (HM.out.arg HD.out)).mono ?_
              rintro e wy5 ⟨rfl, hb⟩
              replace HM := Lib.hid (show Mem w [blkE Q12 22 ([Value.slice Ad dn cd]), blkE Q8 22 ([Value.slice Ad i cd, .slice (addrOf Ad i cd) (dn - i) (cd - i)]), rdE B wr.heap.size A 64 sm] wy5 from HM.out.below hb)
              rw [HCR.out]
              clear hb
              go_wp2_with fail
              refine hK.out _ _ (HM.out) (fun hHeld => ?_)
              clear hK K
              (try simp only [Act.put, List.setIfInBounds_toArray, List.set_cons_zero, List.set_cons_succ])
              refine take_first (v := ?_) 13 rfl (by kernel_rfl) (by kernel_rfl) (by kernel_rfl) (fun _ _ _ h => h) (Or.inl ⟨by rfl, ?_⟩) (by assumption) ?_
              rotate_left
              · (intro w hSw; (try dsimp only at hSw); have ex := HEX.out w; go_simp; try with_reducible rfl)
              (try simp only [Act.put, List.setIfInBounds_toArray, List.set_cons_zero, List.set_cons_succ])
              refine take_first (v := ?_) 14 rfl (by kernel_rfl) (by kernel_rfl) (by kernel_rfl) (fun _ _ _ h => h) (Or.inl ⟨by rfl, ?_⟩) (by assumption) ?_
              rotate_left
              · (intro w hSw; (try dsimp only at hSw); go_simp; try with_reducible rfl)
              (try simp only [Act.put, List.setIfInBounds_toArray, List.set_cons_zero, List.set_cons_succ])
              refine take_first (v := ?_) 15 rfl (by kernel_rfl) (by kernel_rfl) (by kernel_rfl) (fun _ _ _ h => h) (Or.inl ⟨by rfl, ?_⟩) (by assumption) ?_
              rotate_left
              · (intro w hSw; (try dsimp only at hSw); go_simp; try with_reducible rfl)
              (try simp only [Act.put, List.setIfInBounds_toArray, List.set_cons_zero, List.set_cons_succ])
              refine take_first (v := ?_) 16 rfl (by kernel_rfl) (by kernel_rfl) (by kernel_rfl) (fun _ _ _ h => h) (Or.inl ⟨by rfl, ?_⟩) (by assumption) ?_
              rotate_left
              · (intro w hSw; (try dsimp only at hSw); go_simp; try with_reducible rfl)
              (try simp only [Act.put, List.setIfInBounds_toArray, List.set_cons_zero, List.set_cons_succ])
              refine take_first (v := ?_) 19 rfl (by kernel_rfl) (by kernel_rfl) (by kernel_rfl) (fun _ _ _ h => h) (Or.inl ⟨by rfl, ?_⟩) (by assumption) ?_
              rotate_left
              · (intro w hSw; (try dsimp only at hSw); go_simp; try with_reducible rfl)
              (try simp only [Act.put, List.setIfInBounds_toArray, List.set_cons_zero, List.set_cons_succ])
              refine take_first (v := ?_) 20 rfl (by kernel_rfl) (by kernel_rfl) (by kernel_rfl) (fun _ _ _ h => h) (Or.inl ⟨by rfl, ?_⟩) (by assumption) ?_
              rotate_left
              · (intro w hSw; (try dsimp only at hSw); go_simp; try with_reducible rfl)
              (try simp only [Act.put, List.setIfInBounds_toArray, List.set_cons_zero, List.set_cons_succ])
              refine step_two 17 21 rfl rfl (by kernel_rfl) (fun K hK => ?_) (fun K hK => ?_)
              · clear hHeld
                go_simp
                replace HM := Lib.hid (show Mem w [blkE wy5.heap.size 22 ([Value.slice Ad dn cd]), blkE Q12 22 ([Value.slice Ad dn cd]), blkE Q8 22 ([Value.slice Ad i cd, .slice (addrOf Ad i cd) (dn - i) (cd - i)]), rdE B wr.heap.size A 64 sm] (wy5.alloc (.cells #[Value.slice Ad dn cd] 22)) from HM.out.alloc rfl 22 #[Value.slice Ad dn cd] ([Value.slice Ad dn cd]) rfl)
                generalize wy5.alloc (.cells #[Value.slice Ad dn cd] 22) = wy6 at HM ⊢
                generalize wy5.heap.size = Q18 at HM ⊢
                refine hK.out _ _ ((HM.out.erase 0)) (fun hHeld => ?_)
                clear hK K
                (try simp only [Act.put, List.setIfInBounds_toArray, List.set_cons_zero, List.set_cons_succ])
                refine wpAnyH_stronger (T := fun W' => Mem w [blkE Q18 22 ([Value.slice Ad dn cd]), blkE Q12 22 ([Value.slice Ad dn cd]), blkE Q8 22 ([Value.slice Ad i cd, .slice (addrOf Ad i cd) (dn - i) (cd - i)]), rdE B wr.heap.size A 64 sm] W') (fun _ h' => h'.erase 0) _ _ _ _ ?_
                replace hHeld := HM.out
                refine step_two 18 21 rfl rfl (by kernel_rfl) (fun K hK => ?_) (fun K hK => ?_)
                · clear hHeld
                  go_simp
                  refine (kd_hmac_one HHC.out A 64 c sm HS.out.1 HS.out.2 (by omega) Q18 22 Ad dn cd dl d1 hdm (by omega) _ (HLV.out.below HM.out.bel) (HM.out.rd 3 rfl) (HM.out.blk 0 rfl) (HM.out.arg HD.out)).mono ?_
                  rintro e wy7 ⟨rfl, hb⟩
                  replace HM := Lib.hid (show Mem w [blkE Q18 22 ([Value.slice Ad dn cd]), blkE Q12 22 ([Value.slice Ad dn cd]), blkE Q8 22 ([Value.slice Ad i cd, .slice (addrOf Ad i cd) (dn - i) (cd - i)]), rdE B wr.heap.size A 64 sm] wy7 from HM.out.below hb)
                  rw [HSAME.out, HCR.out]
                  clear hb
                  go_wp2_with fail
                  refine hK.out _ _ (HM.out) (fun hHeld => ?_)
                  clear hK K
                  (try simp only [Act.put, List.setIfInBounds_toArray, List.set_cons_zero, List.set_cons_succ])
                  refine step_one 21 rfl (by kernel_rfl) (fun K hK => ?_)
                  clear hHeld
                  go_simp
                  replace HM := Lib.hid (show Mem w [blkE wy7.heap.size 22 ([Value.slice Ad dn cd]), blkE Q18 22 ([Value.slice Ad dn cd]), blkE Q12 22 ([Value.slice Ad dn cd]), blkE Q8 22 ([Value.slice Ad i cd, .slice (addrOf Ad i cd) (dn - i) (cd - i)]), rdE B wr.heap.size A 64 sm] (wy7.alloc (.cells #[Value.slice Ad dn cd] 22)) from HM.out.alloc rfl 22 #[Value.slice Ad dn cd] ([Value.slice Ad dn cd]) rfl)
                  generalize wy7.alloc (.cells #[Value.slice Ad dn cd] 22) = wy8 at HM ⊢
                  generalize wy7.heap.size = Q22 at HM ⊢
                  refine hK.out _ _ ((HM.out.erase 0)) (fun hHeld => ?_)
                  clear hK K
                  (try simp only [Act.put, List.setIfInBounds_toArray, List.set_cons_zero, List.set_cons_succ])
                  refine wpAnyH_stronger (T := fun W' => Mem w [blkE Q22 22 ([Value.slice Ad dn cd]), blkE Q18 22 ([Value.slice Ad dn cd]), blkE Q12 22 ([Value.slice Ad dn cd]), blkE Q8 22 ([Value.slice Ad i cd, .slice (addrOf Ad i cd) (dn - i) (cd - i)]), rdE B wr.heap.size A 64 sm] W') (fun _ h' => h'.erase 0) _ _ _ _ ?_
                  replace hHeld := HM.out
                  refine step_one 22 rfl (by kernel_rfl) (fun K hK => ?_)
                  clear hHeld
                  go_simp
                  refine (kd_hmac_one HHC.out Ak kn ck kl k1 hkm (by omega) Q22 22 Ad dn cd dl d1 hdm (by omega) _ (HLV.out.below HM.out.bel) (HM.out.arg HK.out) (HM.out.blk 0 rfl) (HM.out.arg HD.out)).mono ?_
                  rintro e wy9 ⟨rfl, hb⟩
                  replace HM := Lib.hid (show Mem w [blkE Q22 22 ([Value.slice Ad dn cd]), blkE Q18 22 ([Value.slice Ad dn cd]), blkE Q12 22 ([Value.slice Ad dn cd]), blkE Q8 22 ([Value.slice Ad i cd, .slice (addrOf Ad i cd) (dn - i) (cd - i)]), rdE B wr.heap.size A 64 sm] wy9 from HM.out.below hb)
                  rw [HCR.out]
                  clear hb
                  go_wp2_with fail
                  refine hK.out _ _ (HM.out) (fun hHeld => ?_)
                  clear hK K
                  (try simp only [Act.put, List.setIfInBounds_toArray, List.set_cons_zero, List.set_cons_succ])
                  refine take_first (v := ?_) 23 rfl (by kernel_rfl) (by kernel_rfl) (by kernel_rfl) (fun _ _ _ h => h) (Or.inl ⟨by rfl, ?_⟩) (by assumption) ?_
                  rotate_left
                  · (intro w hSw; (try dsimp only at hSw); have ex := HEX.out w; go_simp; try with_reducible rfl)
                  (try simp only [Act.put, List.setIfInBounds_toArray, List.set_cons_zero, List.set_cons_succ])
                  refine take_first (v := ?_) 24 rfl (by kernel_rfl) (by kernel_rfl) (by kernel_rfl) (fun _ _ _ h => h) (Or.inl ⟨by rfl, ?_⟩) (by assumption) ?_
                  rotate_left
                  · (intro w hSw; (try dsimp only at hSw); go_simp; try with_reducible rfl)
                  (try simp only [Act.put, List.setIfInBounds_toArray, List.set_cons_zero, List.set_cons_succ])
                  refine take_first (v := ?_) 25 rfl (by kernel_rfl) (by kernel_rfl) (by kernel_rfl) (fun _ _ _ h => h) (Or.inl ⟨by rfl, ?_⟩) (by assumption) ?_
                  rotate_left
                  · (intro w hSw; (try dsimp only at hSw); go_simp; try with_reducible rfl)
                  (try simp only [Act.put, List.setIfInBounds_toArray, List.set_cons_zero, List.set_cons_succ])
                  refine step_one 26 rfl (by kernel_rfl) (fun K hK => ?_)
                  clear hHeld
                  go_simp
                  refine (HBG.out _ (HLV.out.below HM.out.bel)).mono ?_
                  rintro e wy10 ⟨rfl, hb⟩
                  replace HM := Lib.hid (show Mem w [blkE Q22 22 ([Value.slice Ad dn cd]), blkE Q18 22 ([Value.slice Ad dn cd]), blkE Q12 22 ([Value.slice Ad dn cd]), blkE Q8 22 ([Value.slice Ad i cd, .slice (addrOf Ad i cd) (dn - i) (cd - i)]), rdE B wr.heap.size A 64 sm] wy10 from HM.out.below hb)
                  clear hb
                  go_wp2_with fail
                  refine hK.out _ _ (HM.out) (fun hHeld => ?_)
                  clear hK K
                  (try simp only [Act.put, List.setIfInBounds_toArray, List.set_cons_zero, List.set_cons_succ])
                  refine take_first (v := ?_) 27 rfl (by kernel_rfl) (by kernel_rfl) (by kernel_rfl) (fun _ _ _ h => h) (Or.inl ⟨by rfl, ?_⟩) (by assumption) ?_
                  rotate_left
                  · (intro w hSw; (try dsimp only at hSw); go_simp; try with_reducible rfl)
                  (try simp only [Act.put, List.setIfInBounds_toArray, List.set_cons_zero, List.set_cons_succ])
                  refine take_first (v := ?_) 28 rfl (by kernel_rfl) (by kernel_rfl) (by kernel_rfl) (fun _ _ _ h => h) (Or.inl ⟨by rfl, ?_⟩) (by assumption) ?_
                  rotate_left
                  · (intro w hSw; (try dsimp only at hSw); go_simp; try with_reducible rfl)
                  (try simp only [Act.put, List.setIfInBounds_toArray, List.set_cons_zero, List.set_cons_succ])
                  refine wpAnyH_done (by kernel_rfl) ?_ _
                  have HF := Lib.hid HM.out.bel
                  clear HM hHeld
                  go_wp2_with fail
                  go_ret
                  exact ⟨rfl, HF.out⟩
                · clear hHeld
                  go_simp
                  replace HM := Lib.hid (show Mem w [blkE wy6.heap.size 22 ([Value.slice Ad dn cd]), blkE Q18 22 ([Value.slice Ad dn cd]), blkE Q12 22 ([Value.slice Ad dn cd]), blkE Q8 22 ([Value.slice Ad i cd, .slice (addrOf Ad i cd) (dn - i) (cd - i)]), rdE B wr.heap.size A 64 sm] (wy6.alloc (.cells #[Value.slice Ad dn cd] 22)) from HM.out.alloc rfl 22 #[Value.slice Ad dn cd] ([Value.slice Ad dn cd]) rfl)
                  generalize wy6.alloc (.cells #[Value.slice Ad dn cd] 22) = wy7 at HM ⊢
                  generalize wy6.heap.size = Q22 at HM ⊢
                  refine hK.out _ _ ((HM.out.erase 0)) (fun hHeld => ?_)
                  clear hK K
                  (try simp only [Act.put, List.setIfInBounds_toArray, List.set_cons_zero, List.set_cons_succ])
                  refine wpAnyH_stronger (T := fun W' => Mem w [blkE Q22 22 ([Value.slice Ad dn cd]), blkE Q18 22 ([Value.slice Ad dn cd]), blkE Q12 22 ([Value.slice Ad dn cd]), blkE Q8 22 ([Value.slice Ad i cd, .slice (addrOf Ad i cd) (dn - i) (cd - i)]), rdE B wr.heap.size A 64 sm] W') (fun _ h' => h'.erase 0) _ _ _ _ ?_
                  replace hHeld := HM.out
                  refine step_one 18 rfl (by kernel_rfl) (fun K hK => ?_)
                  clear hHeld
                  go_simp
                  refine (kd_hmac_one HHC.out A 64 c sm HS.out.1 HS.out.2 (by omega) Q18 22 Ad dn cd dl d1 hdm (by omega) _ (HLV.out.below HM.out.bel) (HM.out.rd 4 rfl) (HM.out.blk 1 rfl) (HM.out.arg HD.out)).mono ?_
                  rintro e wy8 ⟨rfl, hb⟩
                  replace HM := Lib.hid (show Mem w [blkE Q22 22 ([Value.slice Ad dn cd]), blkE Q18 22 ([Value.slice Ad dn cd]), blkE Q12 22 ([Value.slice Ad dn cd]), blkE Q8 22 ([Value.slice Ad i cd, .slice (addrOf Ad i cd) (dn - i) (cd - i)]), rdE B wr.heap.size A 64 sm] wy8 from HM.out.below hb)
                  rw [HSAME.out, HCR.out]
                  clear hb
                  go_wp2_with fail
                  refine hK.out _ _ (HM.out) (fun hHeld => ?_)
                  clear hK K
                  (try simp only [Act.put, List.setIfInBounds_toArray, List.set_cons_zero, List.set_cons_succ])
                  refine step_one 22 rfl (by kernel_rfl) (fun K hK => ?_)
                  clear hHeld
                  go_simp
                  refine (kd_hmac_one HHC.out Ak kn ck kl k1 hkm (by omega) Q22 22 Ad dn cd dl d1 hdm (by omega) _ (HLV.out.below HM.out.bel) (HM.out.arg HK.out) (HM.out.blk 0 rfl) (HM.out.arg HD.out)).mono ?_
                  rintro e wy9 ⟨rfl, hb⟩
                  replace HM := Lib.hid (show Mem w [blkE Q22 22 ([Value.slice Ad dn cd]), blkE Q18 22 ([Value.slice Ad dn cd]), blkE Q12 22 ([Value.slice Ad dn cd]), blkE Q8 22 ([Value.slice Ad i cd, .slice (addrOf Ad i cd) (dn - i) (cd - i)]), rdE B wr.heap.size A 64 sm] wy9 from HM.out.below hb)
                  rw [HCR.out]
                  clear hb
                  go_wp2_with fail
                  refine hK.out _ _ (HM.out) (fun hHeld => ?_)
                  clear hK K
                  (try simp only [Act.put, List.setIfInBounds_toArray, List.set_cons_zero, List.set_cons_succ])
                  refine take_first (v := ?_) 23 rfl (by kernel_rfl) (by kernel_rfl) (by kernel_rfl) (fun _ _ _ h => h) (Or.inl ⟨by rfl, ?_⟩) (by assumption) ?_
                  rotate_left
                  · (intro w hSw; (try dsimp only at hSw); have ex := HEX.out w; go_simp; try with_reducible rfl)
                  (try simp only [Act.put, List.setIfInBounds_toArray, List.set_cons_zero, List.set_cons_succ])
                  refine take_first (v := ?_) 24 rfl (by kernel_rfl) (by kernel_rfl) (by kernel_rfl) (fun _ _ _ h => h) (Or.inl ⟨by rfl, ?_⟩) (by assumption) ?_
                  rotate_left
                  · (intro w hSw; (try dsimp only at hSw); go_simp; try with_reducible rfl)
                  (try simp only [Act.put, List.setIfInBounds_toArray, List.set_cons_zero, List.set_cons_succ])
                  refine take_first (v := ?_) 25 rfl (by kernel_rfl) (by kernel_rfl) (by kernel_rfl) (fun _ _ _ h => h) (Or.inl ⟨by rfl, ?_⟩) (by assumption) ?_
                  rotate_left
                  · (intro w hSw; (try dsimp only at hSw); go_simp; try with_reducible rfl)
                  (try simp only [Act.put, List.setIfInBounds_toArray, List.set_cons_zero, List.set_cons_succ])
                  refine step_one 26 rfl (by kernel_rfl) (fun K hK => ?_)
                  clear hHeld
                  go_simp
                  refine (HBG.out _ (HLV.out.below HM.out.bel)).mono ?_
                  rintro e wy10 ⟨rfl, hb⟩
                  replace HM := Lib.hid (show Mem w [blkE Q22 22 ([Value.slice Ad dn cd]), blkE Q18 22 ([Value.slice Ad dn cd]), blkE Q12 22 ([Value.slice Ad dn cd]), blkE Q8 22 ([Value.slice Ad i cd, .slice (addrOf Ad i cd) (dn - i) (cd - i)]), rdE B wr.heap.size A 64 sm] wy10 from HM.out.below hb)
                  clear hb
                  go_wp2_with fail
                  refine hK.out _ _ (HM.out) (fun hHeld => ?_)
                  clear hK K
                  (try simp only [Act.put, List.setIfInBounds_toArray, List.set_cons_zero, List.set_cons_succ])
                  refine take_first (v := ?_) 27 rfl (by kernel_rfl) (by kernel_rfl) (by kernel_rfl) (fun _ _ _ h => h) (Or.inl ⟨by rfl, ?_⟩) (by assumption) ?_
                  rotate_left
                  · (intro w hSw; (try dsimp only at hSw); go_simp; try with_reducible rfl)
                  (try simp only [Act.put, List.setIfInBounds_toArray, List.set_cons_zero, List.set_cons_succ])
                  refine take_first (v := ?_) 28 rfl (by kernel_rfl) (by kernel_rfl) (by kernel_rfl) (fun _ _ _ h => h) (Or.inl ⟨by rfl, ?_⟩) (by assumption) ?_
                  rotate_left
                  · (intro w hSw; (try dsimp only at hSw); go_simp; try with_reducible rfl)
                  (try simp only [Act.put, List.setIfInBounds_toArray, List.set_cons_zero, List.set_cons_succ])
                  refine wpAnyH_done (by kernel_rfl) ?_ _
                  have HF := Lib.hid HM.out.bel
                  clear HM hHeld
                  go_wp2_with fail
                  go_ret
                  exact ⟨rfl, HF.out⟩
              · clear hHeld
                go_simp
                replace HM := Lib.hid (show Mem w [blkE wy5.heap.size 22 ([Value.slice Ad dn cd]), blkE Q12 22 ([Value.slice Ad dn cd]), blkE Q8 22 ([Value.slice Ad i cd, .slice (addrOf Ad i cd) (dn - i) (cd - i)]), rdE B wr.heap.size A 64 sm] (wy5.alloc (.cells #[Value.slice Ad dn cd] 22)) from HM.out.alloc rfl 22 #[Value.slice Ad dn cd] ([Value.slice Ad dn cd]) rfl)
                generalize wy5.alloc (.cells #[Value.slice Ad dn cd] 22) = wy6 at HM ⊢
                generalize wy5.heap.size = Q22 at HM ⊢
                refine hK.out _ _ ((HM.out.erase 0)) (fun hHeld => ?_)
                clear hK K
                (try simp only [Act.put, List.setIfInBounds_toArray, List.set_cons_zero, List.set_cons_succ])
                refine wpAnyH_stronger (T := fun W' => Mem w [blkE Q22 22 ([Value.slice Ad dn cd]), blkE Q12 22 ([Value.slice Ad dn cd]), blkE Q8 22 ([Value.slice Ad i cd, .slice (addrOf Ad i cd) (dn - i) (cd - i)]), rdE B wr.heap.size A 64 sm] W') (fun _ h' => h'.erase 0) _ _ _ _ ?_
                replace hHeld := HM.out
                refine step_one 17 rfl (by kernel_rfl) (fun K hK => ?_)
                clear hHeld
                go_simp
                replace HM := Lib.hid (show Mem w [blkE wy6.heap.size 22 ([Value.slice Ad dn cd]), blkE Q22 22 ([Value.slice Ad dn cd]), blkE Q12 22 ([Value.slice Ad dn cd]), blkE Q8 22 ([Value.slice Ad i cd, .slice (addrOf Ad i cd) (dn - i) (cd - i)]), rdE B wr.heap.size A 64 sm] (wy6.alloc (.cells #[Value.slice Ad dn cd] 22)) from HM.out.alloc rfl 22 #[Value.slice Ad dn cd] ([Value.slice Ad dn cd]) rfl)
                generalize wy6.alloc (.cells #[Value.slice Ad dn cd] 22) = wy7 at HM ⊢
                generalize wy6.heap.size = Q18 at HM ⊢
                refine hK.out _ _ ((HM.out.erase 0)) (fun hHeld => ?_)
                clear hK K
                (try simp only [Act.put, List.setIfInBounds_toArray, List.set_cons_zero, List.set_cons_succ])
                refine wpAnyH_stronger (T := fun W' => Mem w [blkE Q18 22 ([Value.slice Ad dn cd]), blkE Q22 22 ([Value.slice Ad dn cd]), blkE Q12 22 ([Value.slice Ad dn cd]), blkE Q8 22 ([Value.slice Ad i cd, .slice (addrOf Ad i cd) (dn - i) (cd - i)]), rdE B wr.heap.size A 64 sm] W') (fun _ h' => h'.erase 0) _ _ _ _ ?_
                replace hHeld := HM.out
                refine step_one 18 rfl (by kernel_rfl) (fun K hK => ?_)
                clear hHeld
                go_simp
                refine (kd_hmac_one HHC.out A 64 c sm HS.out.1 HS.out.2 (by omega) Q18 22 Ad dn cd dl d1 hdm (by omega) _ (HLV.out.below HM.out.bel) (HM.out.rd 4 rfl) (HM.out.blk 0 rfl) (HM.out.arg HD.out)).mono ?_
                rintro e wy8 ⟨rfl, hb⟩
                replace HM := Lib.hid (show Mem w [blkE Q18 22 ([Value.slice Ad dn cd]), blkE Q22 22 ([Value.slice Ad dn cd]), blkE Q12 22 ([Value.slice Ad dn cd]), blkE Q8 22 ([Value.slice Ad i cd, .slice (addrOf Ad i cd) (dn - i) (cd - i)]), rdE B wr.heap.size A 64 sm] wy8 from HM.out.below hb)
                rw [HSAME.out, HCR.out]
                clear hb
                go_wp2_with fail
                refine hK.out _ _ (HM.out) (fun hHeld => ?_)
                clear hK K
                (try simp only [Act.put, List.setIfInBounds_toArray, List.set_cons_zero, List.set_cons_succ])
                refine step_one 22 rfl (by kernel_rfl) (fun K hK => ?_)
                clear hHeld
                go_simp
                refine (kd_hmac_one HHC.out Ak kn ck kl k1 hkm (by omega) Q22 22 Ad dn cd dl d1 hdm (by omega) _ (HLV.out.below HM.out.bel) (HM.out.arg HK.out) (HM.out.blk 1 rfl) (HM.out.arg HD.out)).mono ?_
                rintro e wy9 ⟨rfl, hb⟩
                replace HM := Lib.hid (show Mem w [blkE Q18 22 ([Value.slice Ad dn cd]), blkE Q22 22 ([Value.slice Ad dn cd]), blkE Q12 22 ([Value.slice Ad dn cd]), blkE Q8 22 ([Value.slice Ad i cd, .slice (addrOf Ad i cd) (dn - i) (cd - i)]), rdE B wr.heap.size A 64 sm] wy9 from HM.out.below hb)
                rw [HCR.out]
                clear hb
                go_wp2_with fail
                refine hK.out _ _ (HM.out) (fun hHeld => ?_)
                clear hK K
                (try simp only [Act.put, List.setIfInBounds_toArray, List.set_cons_zero, List.set_cons_succ])
                refine take_first (v := ?_) 23 rfl (by kernel_rfl) (by kernel_rfl) (by kernel_rfl) (fun _ _ _ h => h) (Or.inl ⟨by rfl, ?_⟩) (by assumption) ?_
                rotate_left
                · (intro w hSw; (try dsimp only at hSw); have ex := HEX.out w; go_simp; try with_reducible rfl)
                (try simp only [Act.put, List.setIfInBounds_toArray, List.set_cons_zero, List.set_cons_succ])
                refine take_first (v := ?_) 24 rfl (by kernel_rfl) (by kernel_rfl) (by kernel_rfl) (fun _ _ _ h => h) (Or.inl ⟨by rfl, ?_⟩) (by assumption) ?_
                rotate_left
                · (intro w hSw; (try dsimp only at hSw); go_simp; try with_reducible rfl)
                (try simp only [Act.put, List.setIfInBounds_toArray, List.set_cons_zero, List.set_cons_succ])
                refine take_first (v := ?_) 25 rfl (by kernel_rfl) (by kernel_rfl) (by kernel_rfl) (fun _ _ _ h => h) (Or.inl ⟨by rfl, ?_⟩) (by assumption) ?_
                rotate_left
                · (intro w hSw; (try dsimp only at hSw); go_simp; try with_reducible rfl)
                (try simp only [Act.put, List.setIfInBounds_toArray, List.set_cons_zero, List.set_cons_succ])
                refine step_one 26 rfl (by kernel_rfl) (fun K hK => ?_)
                clear hHeld
                go_simp
                refine (HBG.out _ (HLV.out.below HM.out.bel)).mono ?_
                rintro e wy10 ⟨rfl, hb⟩
                replace HM := Lib.hid (show Mem w [blkE Q18 22 ([Value.slice Ad dn cd]), blkE Q22 22 ([Value.slice Ad dn cd]), blkE Q12 22 ([Value.slice Ad dn cd]), blkE Q8 22 ([Value.slice Ad i cd, .slice (addrOf Ad i cd) (dn - i) (cd - i)]), rdE B wr.heap.size A 64 sm] wy10 from HM.out.below hb)
                clear hb
                go_wp2_with fail
                refine hK.out _ _ (HM.out) (fun hHeld => ?_)
                clear hK K
                (try simp only [Act.put, List.setIfInBounds_toArray, List.set_cons_zero, List.set_cons_succ])
                refine take_first (v := ?_) 27 rfl (by kernel_rfl) (by kernel_rfl) (by kernel_rfl) (fun _ _ _ h => h) (Or.inl ⟨by rfl, ?_⟩) (by assumption) ?_
                rotate_left
                · (intro w hSw; (try dsimp only at hSw); go_simp; try with_reducible rfl)
                (try simp only [Act.put, List.setIfInBounds_toArray, List.set_cons_zero, List.set_cons_succ])
                refine take_first (v := ?_) 28 rfl (by kernel_rfl) (by kernel_rfl) (by kernel_rfl) (fun _ _ _ h => h) (Or.inl ⟨by rfl, ?_⟩) (by assumption) ?_
                rotate_left
                · (intro w hSw; (try dsimp only at hSw); go_simp; try with_reducible rfl)
                (try simp only [Act.put, List.setIfInBounds_toArray, List.set_cons_zero, List.set_cons_succ])
                refine wpAnyH_done (by kernel_rfl) ?_ _
                have HF := Lib.hid HM.out.bel
                clear HM hHeld
                go_wp2_with fail
                go_ret
                exact ⟨rfl, HF.out⟩
            · clear hHeld
              go_simp
              replace HM := Lib.hid (show Mem w [blkE wy2.heap.size 22 ([Value.slice Ad dn cd]), blkE Q8 22 ([Value.slice Ad i cd, .slice (addrOf Ad i cd) (dn - i) (cd - i)]), rdE B wr.heap.size A 64 sm] (wy2.alloc (.cells #[Value.slice Ad dn cd] 22)) from HM.out.alloc rfl 22 #[Value.slice Ad dn cd] ([Value.slice Ad dn cd]) rfl)
              generalize wy2.alloc (.cells #[Value.slice Ad dn cd] 22) = wy3 at HM ⊢
              generalize wy2.heap.size = Q12 at HM ⊢
              refine hK.out _ _ ((HM.out.erase 0)) (fun hHeld => ?_)
              clear hK K
              (try simp only [Act.put, List.setIfInBounds_toArray, List.set_cons_zero, List.set_cons_succ])
              refine wpAnyH_stronger (T := fun W' => Mem w [blkE Q12 22 ([Value.slice Ad dn cd]), blkE Q8 22 ([Value.slice Ad i cd, .slice (addrOf Ad i cd) (dn - i) (cd - i)]), rdE B wr.heap.size A 64 sm] W') (fun _ h' => h'.erase 0) _ _ _ _ ?_
              replace hHeld := HM.out
              refine step_one 8 rfl (by kernel_rfl) (fun K hK => ?_)
              clear hHeld
              go_simp
              refine (kd_hmac_two HHC.out Ak kn ck kl k1 hkm (by omega) Q8 22 Ad i cd l1 (by omega) hdm (by omega) (addrOf Ad i cd) (dn - i) (cd - i) l2 (by omega) (by omega) (by omega) _ (HLV.out.below HM.out.bel) (HM.out.arg HK.out) (HM.out.blk 1 rfl) (HM.out.arg R1.out) (HM.out.arg R2.out)).mono ?_
              rintro e wy4 ⟨rfl, hb⟩
              replace HM := Lib.hid (show Mem w [blkE Q12 22 ([Value.slice Ad dn cd]), blkE Q8 22 ([Value.slice Ad i cd, .slice (addrOf Ad i cd) (dn - i) (cd - i)]), rdE B wr.heap.size A 64 sm] wy4 from HM.out.below hb)
              rw [F2.out, HCR.out]
              clear hb
              go_wp2_with fail
              refine hK.out _ _ (HM.out) (fun hHeld => ?_)
              clear hK K
              (try simp only [Act.put, List.setIfInBounds_toArray, List.set_cons_zero, List.set_cons_succ])
              refine step_one 12 rfl (by kernel_rfl) (fun K hK => ?_)
              clear hHeld
              go_simp
              refine (kd_hmac_one HHC.out Ak kn ck kl k1 hkm (by omega) Q12 22 Ad dn cd dl d1 hdm (by omega) _ (HLV.out.below HM.out.bel) (HM.out.arg HK.out) (HM.out.blk 0 rfl) (HM.out.arg HD.out)).mono ?_
              rintro e wy5 ⟨rfl, hb⟩
              replace HM := Lib.hid (show Mem w [blkE Q12 22 ([Value.slice Ad dn cd]), blkE Q8 22 ([Value.slice Ad i cd, .slice (addrOf Ad i cd) (dn - i) (cd - i)]), rdE B wr.heap.size A 64 sm] wy5 from HM.out.below hb)
              rw [HCR.out]
              clear hb
              go_wp2_with fail
              refine hK.out _ _ (HM.out) (fun hHeld => ?_)
              clear hK K
              (try simp only [Act.put, List.setIfInBounds_toArray, List.set_cons_zero, List.set_cons_succ])
              refine take_first (v := ?_) 13 rfl (by kernel_rfl) (by kernel_rfl) (by kernel_rfl) (fun _ _ _ h => h) (Or.inl ⟨by rfl, ?_⟩) (by assumption) ?_
              rotate_left
              · (intro w hSw; (try dsimp only at hSw); have ex := HEX.out w; go_simp; try with_reducible rfl)
              (try simp only [Act.put, List.setIfInBounds_toArray, List.set_cons_zero, List.set_cons_succ])
              refine take_first (v := ?_) 14 rfl (by kernel_rfl) (by kernel_rfl) (by kernel_rfl) (fun _ _ _ h => h) (Or.inl ⟨by rfl, ?_⟩) (by assumption) ?_
              rotate_left
              · (intro w hSw; (try dsimp only at hSw); go_simp; try with_reducible rfl)
              (try simp only [Act.put, List.setIfInBounds_toArray, List.set_cons_zero, List.set_cons_succ])
              refine take_first (v := ?_) 15 rfl (by kernel_rfl) (by kernel_rfl) (by kernel_rfl) (fun _ _ _ h => h) (Or.inl ⟨by rfl, ?_⟩) (by assumption) ?_
              rotate_left
              · (intro w hSw; (try dsimp only at hSw); go_simp; try with_reducible rfl)
              (try simp only [Act.put, List.setIfInBounds_toArray, List.set_cons_zero, List.set_cons_succ])
              refine take_first (v := ?_) 16 rfl (by kernel_rfl) (by kernel_rfl) (by kernel_rfl) (fun _ _ _ h => h) (Or.inl ⟨by rfl, ?_⟩) (by assumption) ?_
              rotate_left
              · (intro w hSw; (try dsimp only at hSw); go_simp; try with_reducible rfl)
              (try simp only [Act.put, List.setIfInBounds_toArray, List.set_cons_zero, List.set_cons_succ])
              refine take_first (v := ?_) 19 rfl (by kernel_rfl) (by kernel_rfl) (by kernel_rfl) (fun _ _ _ h => h) (Or.inl ⟨by rfl, ?_⟩) (by assumption) ?_
              rotate_left
              · (intro w hSw; (try dsimp only at hSw); go_simp; try with_reducible rfl)
              (try simp only [Act.put, List.setIfInBounds_toArray, List.set_cons_zero, List.set_cons_succ])
              refine take_first (v := ?_) 20 rfl (by kernel_rfl) (by kernel_rfl) (by kernel_rfl) (fun _ _ _ h => h) (Or.inl ⟨by rfl, ?_⟩) (by assumption) ?_
              rotate_left
              · (intro w hSw; (try dsimp only at hSw); go_simp; try with_reducible rfl)
              (try simp only [Act.put, List.setIfInBounds_toArray, List.set_cons_zero, List.set_cons_succ])
              refine step_two 17 21 rfl rfl (by kernel_rfl) (fun K hK => ?_) (fun K hK => ?_)
              · clear hHeld
                go_simp
                replace HM := Lib.hid (show Mem w [blkE wy5.heap.size 22 ([Value.slice Ad dn cd]), blkE Q12 22 ([Value.slice Ad dn cd]), blkE Q8 22 ([Value.slice Ad i cd, .slice (addrOf Ad i cd) (dn - i) (cd - i)]), rdE B wr.heap.size A 64 sm] (wy5.alloc (.cells #[Value.slice Ad dn cd] 22)) from HM.out.alloc rfl 22 #[Value.slice Ad dn cd] ([Value.slice Ad dn cd]) rfl)
                generalize wy5.alloc (.cells #[Value.slice Ad dn cd] 22) = wy6 at HM ⊢
                generalize wy5.heap.size = Q18 at HM ⊢
                refine hK.out _ _ ((HM.out.erase 0)) (fun hHeld => ?_)
                clear hK K
                (try simp only [Act.put, List.setIfInBounds_toArray, List.set_cons_zero, List.set_cons_succ])
                refine wpAnyH_stronger (T := fun W' => Mem w [blkE Q18 22 ([Value.slice Ad dn cd]), blkE Q12 22 ([Value.slice Ad dn cd]), blkE Q8 22 ([Value.slice Ad i cd, .slice (addrOf Ad i cd) (dn - i) (cd - i)]), rdE B wr.heap.size A 64 sm] W') (fun _ h' => h'.erase 0) _ _ _ _ ?_
                replace hHeld := HM.out
                refine step_two 18 21 rfl rfl (by kernel_rfl) (fun K hK => ?_) (fun K hK => ?_)
                · clear hHeld
                  go_simp
                  refine (kd_hmac_one HHC.out A 64 c sm HS.out.1 HS.out.2 (by omega) Q18 22 Ad dn cd dl d1 hdm (by omega) _ (HLV.out.below HM.out.bel) (HM.out.rd 3 rfl) (HM.out.blk 0 rfl) (HM.out.arg HD.out)).mono ?_
                  rintro e wy7 ⟨rfl, hb⟩
                  replace HM := Lib.hid (show Mem w [blkE Q18 22 ([Value.slice Ad dn cd]), blkE Q12 22 ([Value.slice Ad dn cd]), blkE Q8 22 ([Value.slice Ad i cd, .slice (addrOf Ad i cd) (dn - i) (cd - i)]), rdE B wr.heap.size A 64 sm] wy7 from HM.out.below hb)
                  rw [HSAME.out, HCR.out]
                  clear hb
                  go_wp2_with fail
                  refine hK.out _ _ (HM.out) (fun hHeld => ?_)
                  clear hK K
                  (try simp only [Act.put, List.setIfInBounds_toArray, List.set_cons_zero, List.set_cons_succ])
                  refine step_one 21 rfl (by kernel_rfl) (fun K hK => ?_)
                  clear hHeld
                  go_simp
                  replace HM := Lib.hid (show Mem w [blkE wy7.heap.size 22 ([Value.slice Ad dn cd]), blkE Q18 22 ([Value.slice Ad dn cd]), blkE Q12 22 ([Value.slice Ad dn cd]), blkE Q8 22 ([Value.slice Ad i cd, .slice (addrOf Ad i cd) (dn - i) (cd - i)]), rdE B wr.heap.size A 64 sm] (wy7.alloc (.cells #[Value.slice Ad dn cd] 22)) from HM.out.alloc rfl 22 #[Value.slice Ad dn cd] ([Value.slice Ad dn cd]) rfl)
                  generalize wy7.alloc (.cells #[Value.slice Ad dn cd] 22) = wy8 at HM ⊢
                  generalize wy7.heap.size = Q22 at HM ⊢
                  refine hK.out _ _ ((HM.out.erase 0)) (fun hHeld => ?_)
                  clear hK K
                  (try simp only [Act.put, List.setIfInBounds_toArray, List.set_cons_zero, List.set_cons_succ])
                  refine wpAnyH_stronger (T := fun W' => Mem w [blkE Q22 22 ([Value.slice Ad dn cd]), blkE Q18 22 ([Value.slice Ad dn cd]), blkE Q12 22 ([Value.slice Ad dn cd]), blkE Q8 22 ([Value.slice Ad i cd, .slice (addrOf Ad i cd) (dn - i) (cd - i)]), rdE B wr.heap.size A 64 sm] W') (fun _ h' => h'.erase 0) _ _ _ _ ?_
                  replace hHeld := HM.out
                  refine step_one 22 rfl (by kernel_rfl) (fun K hK => ?_)
                  clear hHeld
                  go_simp
                  refine (kd_hmac_one HHC.out Ak kn ck kl k1 hkm (by omega) Q22 22 Ad dn cd dl d1 hdm (by omega) _ (HLV.out.below HM.out.bel) (HM.out.arg HK.out) (HM.out.blk 0 rfl) (HM.out.arg HD.out)).mono ?_
                  rintro e wy9 ⟨rfl, hb⟩
                  replace HM := Lib.hid (show Mem w [blkE Q22 22 ([Value.slice Ad dn cd]), blkE Q18 22 ([Value.slice Ad dn cd]), blkE Q12 22 ([Value.slice Ad dn cd]), blkE Q8 22 ([Value.slice Ad i cd, .slice (addrOf Ad i cd) (dn - i) (cd - i)]), rdE B wr.heap.size A 64 sm] wy9 from HM.out.below hb)
                  rw [HCR.out]
                  clear hb
                  go_wp2_with fail
                  refine hK.out _ _ (HM.out) (fun hHeld => ?_)
                  clear hK K
                  (try simp only [Act.put, List.setIfInBounds_toArray, List.set_cons_zero, List.set_cons_succ])
                  refine take_first (v := ?_) 23 rfl (by kernel_rfl) (by kernel_rfl) (by kernel_rfl) (fun _ _ _ h => h) (Or.inl ⟨by rfl, ?_⟩) (by assumption) ?_
                  rotate_left
                  · (intro w hSw; (try dsimp only at hSw); have ex := HEX.out w; go_simp; try with_reducible rfl)
                  (try simp only [Act.put, List.setIfInBounds_toArray, List.set_cons_zero, List.set_cons_succ])
                  refine take_first (v := ?_) 24 rfl (by kernel_rfl) (by kernel_rfl) (by kernel_rfl) (fun _ _ _ h => h) (Or.inl ⟨by rfl, ?_⟩) (by assumption) ?_
                  rotate_left
                  · (intro w hSw; (try dsimp only at hSw); go_simp; try with_reducible rfl)
                  (try simp only [Act.put, List.setIfInBounds_toArray, List.set_cons_zero, List.set_cons_succ])
                  refine take_first (v := ?_) 25 rfl (by kernel_rfl) (by kernel_rfl) (by kernel_rfl) (fun _ _ _ h => h) (Or.inl ⟨by rfl, ?_⟩) (by assumption) ?_
                  rotate_left
                  · (intro w hSw; (try dsimp only at hSw); go_simp; try with_reducible rfl)
                  (try simp only [Act.put, List.setIfInBounds_toArray, List.set_cons_zero, List.set_cons_succ])
                  refine step_one 26 rfl (by kernel_rfl) (fun K hK => ?_)
                  clear hHeld
                  go_simp
                  refine (HBG.out _ (HLV.out.below HM.out.bel)).mono ?_
                  rintro e wy10 ⟨rfl, hb⟩
                  replace HM := Lib.hid (show Mem w [blkE Q22 22 ([Value.slice Ad dn cd]), blkE Q18 22 ([Value.slice Ad dn cd]), blkE Q12 22 ([Value.slice Ad dn cd]), blkE Q8 22 ([Value.slice Ad i cd, .slice (addrOf Ad i cd) (dn - i) (cd - i)]), rdE B wr.heap.size A 64 sm] wy10 from HM.out.below hb)
                  clear hb
                  go_wp2_with fail
                  refine hK.out _ _ (HM.out) (fun hHeld => ?_)
                  clear hK K
                  (try simp only [Act.put, List.setIfInBounds_toArray, List.set_cons_zero, List.set_cons_succ])
                  refine take_first (v := ?_) 27 rfl (by kernel_rfl) (by kernel_rfl) (by kernel_rfl) (fun _ _ _ h => h) (Or.inl ⟨by rfl, ?_⟩) (by assumption) ?_
                  rotate_left
                  · (intro w hSw; (try dsimp only at hSw); go_simp; try with_reducible rfl)
                  (try simp only [Act.put, List.setIfInBounds_toArray, List.set_cons_zero, List.set_cons_succ])
                  refine take_first (v := ?_) 28 rfl (by kernel_rfl) (by kernel_rfl) (by kernel_rfl) (fun _ _ _ h => h) (Or.inl ⟨by rfl, ?_⟩) (by assumption) ?_
                  rotate_left
                  · (intro w hSw; (try dsimp only at hSw); go_simp; try with_reducible rfl)
                  (try simp only [Act.put, List.setIfInBounds_toArray, List.set_cons_zero, List.set_cons_succ])
                  refine wpAnyH_done (by kernel_rfl) ?_ _
                  have HF := Lib.hid HM.out.bel
                  clear HM hHeld
                  go_wp2_with fail
                  go_ret
                  exact ⟨rfl, HF.out⟩
                · clear hHeld
                  go_simp
                  replace HM := Lib.hid (show Mem w [blkE wy6.heap.size 22 ([Value.slice Ad dn cd]), blkE Q18 22 ([Value.slice Ad dn cd]), blkE Q12 22 ([Value.slice Ad dn cd]), blkE Q8 22 ([Value.slice Ad i cd, .slice (addrOf Ad i cd) (dn - i) (cd - i)]), rdE B wr.heap.size A 64 sm] (wy6.alloc (.cells #[Value.slice Ad dn cd] 22)) from HM.out.alloc rfl 22 #[Value.slice Ad dn cd] ([Value.slice Ad dn cd]) rfl)
                  generalize wy6.alloc (.cells #[Value.slice Ad dn cd] 22) = wy7 at HM ⊢
                  generalize wy6.heap.size = Q22 at HM ⊢
                  refine hK.out _ _ ((HM.out.erase 0)) (fun hHeld => ?_)
                  clear hK K
                  (try simp only [Act.put, List.setIfInBounds_toArray, List.set_cons_zero, List.set_cons_succ])
                  refine wpAnyH_stronger (T := fun W' => Mem w [blkE Q22 22 ([Value.slice Ad dn cd]), blkE Q18 22 ([Value.slice Ad dn cd]), blkE Q12 22 ([Value.slice Ad dn cd]), blkE Q8 22 ([Value.slice Ad i cd, .slice (addrOf Ad i cd) (dn - i) (cd - i)]), rdE B wr.heap.size A 64 sm] W') (fun _ h' => h'.erase 0) _ _ _ _ ?_
                  replace hHeld := HM.out
                  refine step_one 18 rfl (by kernel_rfl) (fun K hK => ?_)
                  clear hHeld
                  go_simp
                  refine (kd_hmac_one HHC.out A 64 c sm HS.out.1 HS.out.2 (by omega) Q18 22 Ad dn cd dl d1 hdm (by omega) _ (HLV.out.below HM.out.bel) (HM.out.rd 4 rfl) (HM.out.blk 1 rfl) (HM.out.arg HD.out)).mono ?_
                  rintro e wy8 ⟨rfl, hb⟩
                  replace HM := Lib.hid (show Mem w [blkE Q22 22 ([Value.slice Ad dn cd]), blkE Q18 22 ([Value.slice Ad dn cd]), blkE Q12 22 ([Value.slice Ad dn cd]), blkE Q8 22 ([Value.slice Ad i cd, .slice (addrOf Ad i cd) (dn - i) (cd - i)]), rdE B wr.heap.size A 64 sm] wy8 from HM.out.below hb)
                  rw [HSAME.out, HCR.out]
                  clear hb
                  go_wp2_with fail
                  refine hK.out _ _ (HM.out) (fun hHeld => ?_)
                  clear hK K
                  (try simp only [Act.put, List.setIfInBounds_toArray, List.set_cons_zero, List.set_cons_succ])
                  refine step_one 22 rfl (by kernel_rfl) (fun K hK => ?_)
                  clear hHeld
                  go_simp
                  refine (kd_hmac_one HHC.out Ak kn ck kl k1 hkm (by omega) Q22 22 Ad dn cd dl d1 hdm (by omega) _ (HLV.out.below HM.out.bel) (HM.out.arg HK.out) (HM.out.blk 0 rfl) (HM.out.arg HD.out)).mono ?_
                  rintro e wy9 ⟨rfl, hb⟩
                  replace HM := Lib.hid (show Mem w [blkE Q22 22 ([Value.slice Ad dn cd]), blkE Q18 22 ([Value.slice Ad dn cd]), blkE Q12 22 ([Value.slice Ad dn cd]), blkE Q8 22 ([Value.slice Ad i cd, .slice (addrOf Ad i cd) (dn - i) (cd - i)]), rdE B wr.heap.size A 64 sm] wy9 from HM.out.below hb)
                  rw [HCR.out]
                  clear hb
                  go_wp2_with fail
                  refine hK.out _ _ (HM.out) (fun hHeld => ?_)
                  clear hK K
                  (try simp only [Act.put, List.setIfInBounds_toArray, List.set_cons_zero, List.set_cons_succ])
                  refine take_first (v := ?_) 23 rfl (by kernel_rfl) (by kernel_rfl) (by kernel_rfl) (fun _ _ _ h => h) (Or.inl ⟨by rfl, ?_⟩) (by assumption) ?_
                  rotate_left
                  · (intro w hSw; (try dsimp only at hSw); have ex := HEX.out w; go_simp; try with_reducible rfl)
                  (try simp only [Act.put, List.setIfInBounds_toArray, List.set_cons_zero, List.set_cons_succ])
                  refine take_first (v := ?_) 24 rfl (by kernel_rfl) (by kernel_rfl) (by kernel_rfl) (fun _ _ _ h => h) (Or.inl ⟨by rfl, ?_⟩) (by assumption) ?_
                  rotate_left
                  · (intro w hSw; (try dsimp only at hSw); go_simp; try with_reducible rfl)
                  (try simp only [Act.put, List.setIfInBounds_toArray, List.set_cons_zero, List.set_cons_succ])
                  refine take_first (v := ?_) 25 rfl (by kernel_rfl) (by kernel_rfl) (by kernel_rfl) (fun _ _ _ h => h) (Or.inl ⟨by rfl, ?_⟩) (by assumption) ?_
                  rotate_left
                  · (intro w hSw; (try dsimp only at hSw); go_simp; try with_reducible rfl)
                  (try simp only [Act.put, List.setIfInBounds_toArray, List.set_cons_zero, List.set_cons_succ])
                  refine step_one 26 rfl (by kernel_rfl) (fun K hK => ?_)
                  clear hHeld
                  go_simp
                  refine (HBG.out _ (HLV.out.below HM.out.bel)).mono ?_
                  rintro e wy10 ⟨rfl, hb⟩
                  replace HM := Lib.hid (show Mem w [blkE Q22 22 ([Value.slice Ad dn cd]), blkE Q18 22 ([Value.slice Ad dn cd]), blkE Q12 22 ([Value.slice Ad dn cd]), blkE Q8 22 ([Value.slice Ad i cd, .slice (addrOf Ad i cd) (dn - i) (cd - i)]), rdE B wr.heap.size A 64 sm] wy10 from HM.out.below hb)
                  clear hb
                  go_wp2_with fail
                  refine hK.out _ _ (HM.out) (fun hHeld => ?_)
                  clear hK K
                  (try simp only [Act.put, List.setIfInBounds_toArray, List.set_cons_zero, List.set_cons_succ])
                  refine take_first (v := ?_) 27 rfl (by kernel_rfl) (by kernel_rfl) (by kernel_rfl) (fun _ _ _ h => h) (Or.inl ⟨by rfl, ?_⟩) (by assumption) ?_
                  rotate_left
                  · (intro w hSw; (try dsimp only at hSw); go_simp; try with_reducible rfl)
                  (try simp only [Act.put, List.setIfInBounds_toArray, List.set_cons_zero, List.set_cons_succ])
                  refine take_first (v := ?_) 28 rfl (by kernel_rfl) (by kernel_rfl) (by kernel_rfl) (fun _ _ _ h => h) (Or.inl ⟨by rfl, ?_⟩) (by assumption) ?_
                  rotate_left
                  · (intro w hSw; (try dsimp only at hSw); go_simp; try with_reducible rfl)
                  (try simp only [Act.put, List.setIfInBounds_toArray, List.set_cons_zero, List.set_cons_succ])
                  refine wpAnyH_done (by kernel_rfl) ?_ _
                  have HF := Lib.hid HM.out.bel
                  clear HM hHeld
                  go_wp2_with fail
                  go_ret
                  exact ⟨rfl, HF.out⟩
              · clear hHeld
                go_simp
                replace HM := Lib.hid (show Mem w [blkE wy5.heap.size 22 ([Value.slice Ad dn cd]), blkE Q12 22 ([Value.slice Ad dn cd]), blkE Q8 22 ([Value.slice Ad i cd, .slice (addrOf Ad i cd) (dn - i) (cd - i)]), rdE B wr.heap.size A 64 sm] (wy5.alloc (.cells #[Value.slice Ad dn cd] 22)) from HM.out.alloc rfl 22 #[Value.slice Ad dn cd] ([Value.slice Ad dn cd]) rfl)
                generalize wy5.alloc (.cells #[Value.slice Ad dn cd] 22) = wy6 at HM ⊢
                generalize wy5.heap.size = Q22 at HM ⊢
                refine hK.out _ _ ((HM.out.erase 0)) (fun hHeld => ?_)
                clear hK K
                (try simp only [Act.put, List.setIfInBounds_toArray, List.set_cons_zero, List.set_cons_succ])
                refine wpAnyH_stronger (T := fun W' => Mem w [blkE Q22 22 ([Value.slice Ad dn cd]), blkE Q12 22 ([Value.slice Ad dn cd]), blkE Q8 22 ([Value.slice Ad i cd, .slice (addrOf Ad i cd) (dn - i) (cd - i)]), rdE B wr.heap.size A 64 sm] W') (fun _ h' => h'.erase 0) _ _ _ _ ?_
                replace hHeld := HM.out
                refine step_one 17 rfl (by kernel_rfl) (fun K hK => ?_)
                clear hHeld
                go_simp
                replace HM := Lib.hid (show Mem w [blkE wy6.heap.size 22 ([Value.slice Ad dn cd]), blkE Q22 22 ([Value.slice Ad dn cd]), blkE Q12 22 ([Value.slice Ad dn cd]), blkE Q8 22 ([Value.slice Ad i cd, .slice (addrOf Ad i cd) (dn - i) (cd - i)]), rdE B wr.heap.size A 64 sm] (wy6.alloc (.cells #[Value.slice Ad dn cd] 22)) from HM.out.alloc rfl 22 #[Value.slice Ad dn cd] ([Value.slice Ad dn cd]) rfl)
                generalize wy6.alloc (.cells #[Value.slice Ad dn cd] 22) = wy7 at HM ⊢
                generalize wy6.heap.size = Q18 at HM ⊢
                refine hK.out _ _ ((HM.out.erase 0)) (fun hHeld => ?_)
                clear hK K
                (try simp only [Act.put, List.setIfInBounds_toArray, List.set_cons_zero, List.set_cons_succ])
                refine wpAnyH_stronger (T := fun W' => Mem w [blkE Q18 22 ([Value.slice Ad dn cd]), blkE Q22 22 ([Value.slice Ad dn cd]), blkE Q12 22 ([Value.slice Ad dn cd]), blkE Q8 22 ([Value.slice Ad i cd, .slice (addrOf Ad i cd) (dn - i) (cd - i)]), rdE B wr.heap.size A 64 sm] W') (fun _ h' => h'.erase 0) _ _ _ _ ?_
                replace hHeld := HM.out
                refine step_one 18 rfl (by kernel_rfl) (fun K hK => ?_)
                clear hHeld
                go_simp
                refine (kd_hmac_one HHC.out A 64 c sm HS.out.1 HS.out.2 (by omega) Q18 22 Ad dn cd dl d1 hdm (by omega) _ (HLV.out.below HM.out.bel) (HM.out.rd 4 rfl) (HM.out.blk 0 rfl) (HM.out.arg HD.out)).mono ?_
                rintro e wy8 ⟨rfl, hb⟩
                replace HM := Lib.hid (show Mem w [blkE Q18 22 ([Value.slice Ad dn cd]), blkE Q22 22 ([Value.slice Ad dn cd]), blkE Q12 22 ([Value.slice Ad dn cd]), blkE Q8 22 ([Value.slice Ad i cd, .slice (addrOf Ad i cd) (dn - i) (cd - i)]), rdE B wr.heap.size A 64 sm] wy8 from HM.out.below hb)
                rw [HSAME.out, HCR.out]
                clear hb
                go_wp2_with fail
                refine hK.out _ _ (HM.out) (fun hHeld => ?_)
                clear hK K
                (try simp only [Act.put, List.setIfInBounds_toArray, List.set_cons_zero, List.set_cons_succ])
                refine step_one 22 rfl (by kernel_rfl) (fun K hK => ?_)
                clear hHeld
                go_simp
                refine (kd_hmac_one HHC.out Ak kn ck kl k1 hkm (by omega) Q22 22 Ad dn cd dl d1 hdm (by omega) _ (HLV.out.below HM.out.bel) (HM.out.arg HK.out) (HM.out.blk 1 rfl) (HM.out.arg HD.out)).mono ?_
                rintro e wy9 ⟨rfl, hb⟩
                replace HM := Lib.hid (show Mem w [blkE Q18 22 ([Value.slice Ad dn cd]), blkE Q22 22 ([Value.slice Ad dn cd]), blkE Q12 22 ([Value.slice Ad dn cd]), blkE Q8 22 ([Value.slice Ad i cd, .slice (addrOf Ad i cd) (dn - i) (cd - i)]), rdE B wr.heap.size A 64 sm] wy9 from HM.out.below hb)
                rw [HCR.out]
                clear hb
                go_wp2_with fail
                refine hK.out _ _ (HM.out) (fun hHeld => ?_)
                clear hK K
                (try simp only [Act.put, List.setIfInBounds_toArray, List.set_cons_zero, List.set_cons_succ])
                refine take_first (v := ?_) 23 rfl (by kernel_rfl) (by kernel_rfl) (by kernel_rfl) (fun _ _ _ h => h) (Or.inl ⟨by rfl, ?_⟩) (by assumption) ?_
                rotate_left
                · (intro w hSw; (try dsimp only at hSw); have ex := HEX.out w; go_simp; try with_reducible rfl)
                (try simp only [Act.put, List.setIfInBounds_toArray, List.set_cons_zero, List.set_cons_succ])
                refine take_first (v := ?_) 24 rfl (by kernel_rfl) (by kernel_rfl) (by kernel_rfl) (fun _ _ _ h => h) (Or.inl ⟨by rfl, ?_⟩) (by assumption) ?_
                rotate_left
                · (intro w hSw; (try dsimp only at hSw); go_simp; try with_reducible rfl)
                (try simp only [Act.put, List.setIfInBounds_toArray, List.set_cons_zero, List.set_cons_succ])
                refine take_first (v := ?_) 25 rfl (by kernel_rfl) (by kernel_rfl) (by kernel_rfl) (fun _ _ _ h => h) (Or.inl ⟨by rfl, ?_⟩) (by assumption) ?_
                rotate_left
                · (intro w hSw; (try dsimp only at hSw); go_simp; try with_reducible rfl)
                (try simp only [Act.put, List.setIfInBounds_toArray, List.set_cons_zero, List.set_cons_succ])
                refine step_one 26 rfl (by kernel_rfl) (fun K hK => ?_)
                clear hHeld
                go_simp
                refine (HBG.out _ (HLV.out.below HM.out.bel)).mono ?_
                rintro e wy10 ⟨rfl, hb⟩
                replace HM := Lib.hid (show Mem w [blkE Q18 22 ([Value.slice Ad dn cd]), blkE Q22 22 ([Value.slice Ad dn cd]), blkE Q12 22 ([Value.slice Ad dn cd]), blkE Q8 22 ([Value.slice Ad i cd, .slice (addrOf Ad i cd) (dn - i) (cd - i)]), rdE B wr.heap.size A 64 sm] wy10 from HM.out.below hb)
                clear hb
                go_wp2_with fail
                refine hK.out _ _ (HM.out) (fun hHeld => ?_)
                clear hK K
                (try simp only [Act.put, List.setIfInBounds_toArray, List.set_cons_zero, List.set_cons_succ])
                refine take_first (v := ?_) 27 rfl (by kernel_rfl) (by kernel_rfl) (by kernel_rfl) (fun _ _ _ h => h) (Or.inl ⟨by rfl, ?_⟩) (by assumption) ?_
                rotate_left
                · (intro w hSw; (try dsimp only at hSw); go_simp; try with_reducible rfl)
                (try simp only [Act.put, List.setIfInBounds_toArray, List.set_cons_zero, List.set_cons_succ])
                refine take_first (v := ?_) 28 rfl (by kernel_rfl) (by kernel_rfl) (by kernel_rfl) (fun _ _ _ h => h) (Or.inl ⟨by rfl, ?_⟩) (by assumption) ?_
                rotate_left
                · (intro w hSw; (try dsimp only at hSw); go_simp; try with_reducible rfl)
                (try simp only [Act.put, List.setIfInBounds_toArray, List.set_cons_zero, List.set_cons_succ])
                refine wpAnyH_done (by kernel_rfl) ?_ _
                have HF := Lib.hid HM.out.bel
                clear HM hHeld
                go_wp2_with fail
                go_ret
                exact ⟨rfl, HF.out⟩
          · clear hHeld
            go_simp
            replace HM := Lib.hid (show Mem w [blkE wd1.heap.size 22 ([Value.slice Ad dn cd]), rdE B wr.heap.size A 64 sm] (wd1.alloc (.cells #[Value.slice Ad dn cd] 22)) from HM.out.alloc rfl 22 #[Value.slice Ad dn cd] ([Value.slice Ad dn cd]) rfl)
            generalize wd1.alloc (.cells #[Value.slice Ad dn cd] 22) = wy2 at HM ⊢
            generalize wd1.heap.size = Q12 at HM ⊢
            refine hK.out _ _ ((HM.out.erase 0)) (fun hHeld => ?_)
            clear hK K
            (try simp only [Act.put, List.setIfInBounds_toArray, List.set_cons_zero, List.set_cons_succ])
            refine wpAnyH_stronger (T := fun W' => Mem w [blkE Q12 22 ([Value.slice Ad dn cd]), rdE B wr.heap.size A 64 sm] W') (fun _ h' => h'.erase 0) _ _ _ _ ?_
            replace hHeld := HM.out
            refine step_one 7 rfl (by kernel_rfl) (fun K hK => ?_)
            clear hHeld
            go_simp
            replace HM := Lib.hid (show Mem w [blkE wy2.heap.size 22 ([Value.slice Ad i cd, .slice (addrOf Ad i cd) (dn - i) (cd - i)]), blkE Q12 22 ([Value.slice Ad dn cd]), rdE B wr.heap.size A 64 sm] (wy2.alloc (.cells #[Value.slice Ad i cd, .slice (addrOf Ad i cd) (dn - i) (cd - i)] 22)) from HM.out.alloc rfl 22 #[Value.slice Ad i cd, .slice (addrOf Ad i cd) (dn - i) (cd - i)] ([Value.slice Ad i cd, .slice (addrOf Ad i cd) (dn - i) (cd - i)]) rfl)
            generalize wy2.alloc (.cells #[Value.slice Ad i cd, .slice (addrOf Ad i cd) (dn - i) (cd - i)] 22) = wy3 at HM ⊢
            generalize wy2.heap.size = Q8 at HM ⊢
            refine hK.out _ _ ((HM.out.erase 0)) (fun hHeld => ?_)
            clear hK K
            (try simp only [Act.put, List.setIfInBounds_toArray, List.set_cons_zero, List.set_cons_succ])
            refine wpAnyH_stronger (T := fun W' => Mem w [blkE Q8 22 ([Value.slice Ad i cd, .slice (addrOf Ad i cd) (dn - i) (cd - i)]), blkE Q12 22 ([Value.slice Ad dn cd]), rdE B wr.heap.size A 64 sm] W') (fun _ h' => h'.erase 0) _ _ _ _ ?_
            replace hHeld := HM.out
            refine step_one 8 rfl (by kernel_rfl) (fun K hK => ?_)
            clear hHeld
            go_simp
            refine (kd_hmac_two HHC.out Ak kn ck kl k1 hkm (by omega) Q8 22 Ad i cd l1 (by omega) hdm (by omega) (addrOf Ad i cd) (dn - i) (cd - i) l2 (by omega) (by omega) (by omega) _ (HLV.out.below HM.out.bel) (HM.out.arg HK.out) (HM.out.blk 0 rfl) (HM.out.arg R1.out) (HM.out.arg R2.out)).mono ?_
            rintro e wy4 ⟨rfl, hb⟩
            replace HM := Lib.hid (show Mem w [blkE Q8 22 ([Value.slice Ad i cd, .slice (addrOf Ad i cd) (dn - i) (cd - i)]), blkE Q12 22 ([Value.slice Ad dn cd]), rdE B wr.heap.size A 64 sm] wy4 from HM.out.below hb)
            rw [F2.out, HCR.out]
            clear hb
            go_wp2_with fail
            refine hK.out _ _ (HM.out) (fun hHeld => ?_)
            clear hK K
            (try simp only [Act.put, List.setIfInBounds_toArray, List.set_cons_zero, List.set_cons_succ])
            refine step_one 12 rfl (by kernel_rfl) (fun K hK => ?_)
            clear hHeld
            go_simp
            refine (kd_hmac_one HHC.out Ak kn ck kl k1 hkm (by omega) Q12 22 Ad dn cd dl d1 hdm (by omega) _ (HLV.out.below HM.out.bel) (HM.out.arg HK.out) (HM.out.blk 1 rfl) (HM.out.arg HD.out)).mono ?_
            rintro e wy5 ⟨rfl, hb⟩
            replace HM := Lib.hid (show Mem w [blkE Q8 22 ([Value.slice Ad i cd, .slice (addrOf Ad i cd) (dn - i) (cd - i)]), blkE Q12 22 ([Value.slice Ad dn cd]), rdE B wr.heap.size A 64 sm] wy5 from HM.out.below hb)
            rw [HCR.out]
            clear hb
            go_wp2_with fail
            refine hK.out _ _ (HM.out) (fun hHeld => ?_)
            clear hK K
            (try simp only [Act.put, List.setIfInBounds_toArray, List.set_cons_zero, List.set_cons_succ])
            refine take_first (v := ?_) 13 rfl (by kernel_rfl) (by kernel_rfl) (by kernel_rfl) (fun _ _ _ h => h) (Or.inl ⟨by rfl, ?_⟩) (by assumption) ?_
            rotate_left
            · (intro w hSw; (try dsimp only at hSw); have ex := HEX.out w; go_simp; try with_reducible rfl)
            (try simp only [Act.put, List.setIfInBounds_toArray, List.set_cons_zero, List.set_cons_succ])
            refine take_first (v := ?_) 14 rfl (by kernel_rfl) (by kernel_rfl) (by kernel_rfl) (fun _ _ _ h => h) (Or.inl ⟨by rfl, ?_⟩) (by assumption) ?_
            rotate_left
            · (intro w hSw; (try dsimp only at hSw); go_simp; try with_reducible rfl)
            (try simp only [Act.put, List.setIfInBounds_toArray, List.set_cons_zero, List.set_cons_succ])
            refine take_first (v := ?_) 15 rfl (by kernel_rfl) (by kernel_rfl) (by kernel_rfl) (fun _ _ _ h => h) (Or.inl ⟨by rfl, ?_⟩) (by assumption) ?_
            rotate_left
            · (intro w hSw; (try dsimp only at hSw); go_simp; try with_reducible rfl)
            (try simp only [Act.put, List.setIfInBounds_toArray, List.set_cons_zero, List.set_cons_succ])
            refine take_first (v := ?_) 16 rfl (by kernel_rfl) (by kernel_rfl) (by kernel_rfl) (fun _ _ _ h => h) (Or.inl ⟨by rfl, ?_⟩) (by assumption) ?_
            rotate_left
            · (intro w hSw; (try dsimp only at hSw); go_simp; try with_reducible rfl)
            (try simp only [Act.put, List.setIfInBounds_toArray, List.set_cons_zero, List.set_cons_succ])
            refine take_first (v := ?_) 19 rfl (by kernel_rfl) (by kernel_rfl) (by kernel_rfl) (fun _ _ _ h => h) (Or.inl ⟨by rfl, ?_⟩) (by assumption) ?_
            rotate_left
            · (intro w hSw; (try dsimp only at hSw); go_simp; try with_reducible rfl)
            (try simp only [Act.put, List.setIfInBounds_toArray, List.set_cons_zero, List.set_cons_succ])
            refine take_first (v := ?_) 20 rfl (by kernel_rfl) (by kernel_rfl) (by kernel_rfl) (fun _ _ _ h => h) (Or.inl ⟨by rfl, ?_⟩) (by assumption) ?_
            rotate_left
            · (intro w hSw; (try dsimp only at hSw); go_simp; try with_reducible rfl)
            (try simp only [Act.put, List.setIfInBounds_toArray, List.set_cons_zero, List.set_cons_succ])
            refine step_two 17 21 rfl rfl (by kernel_rfl) (fun K hK => ?_) (fun K hK => ?_)
            · clear hHeld
              go_simp
              replace HM := Lib.hid (show Mem w [blkE wy5.heap.size 22 ([Value.slice Ad dn cd]), blkE Q8 22 ([Value.slice Ad i cd, .slice (addrOf Ad i cd) (dn - i) (cd - i)]), blkE Q12 22 ([Value.slice Ad dn cd]), rdE B wr.heap.size A 64 sm] (wy5.alloc (.cells #[Value.slice Ad dn cd] 22)) from HM.out.alloc rfl 22 #[Value.slice Ad dn cd] ([Value.slice Ad dn cd]) rfl)
              generalize wy5.alloc (.cells #[Value.slice Ad dn cd] 22) = wy6 at HM ⊢
              generalize wy5.heap.size = Q18 at HM ⊢
              refine hK.out _ _ ((HM.out.erase 0)) (fun hHeld => ?_)
              clear hK K
              (try simp only [Act.put, List.setIfInBounds_toArray, List.set_cons_zero, List.set_cons_succ])
              refine wpAnyH_stronger (T := fun W' => Mem w [blkE Q18 22 ([Value.slice Ad dn cd]), blkE Q8 22 ([Value.slice Ad i cd, .slice (addrOf Ad i cd) (dn - i) (cd - i)]), blkE Q12 22 ([Value.slice Ad dn cd]), rdE B wr.heap.size A 64 sm] W') (fun _ h' => h'.erase 0) _ _ _ _ ?_
              replace hHeld := HM.out
              refine step_two 18 21 rfl rfl (by kernel_rfl) (fun K hK => ?_) (fun K hK => ?_)
              · clear hHeld
                go_simp
                refine (kd_hmac_one HHC.out A 64 c sm HS.out.1 HS.out.2 (by omega) Q18 22 Ad dn cd dl d1 hdm (by omega) _ (HLV.out.below HM.out.bel) (HM.out.rd 3 rfl) (HM.out.blk 0 rfl) (HM.out.arg HD.out)).mono ?_
                rintro e wy7 ⟨rfl, hb⟩
                replace HM := Lib.hid (show Mem w [blkE Q18 22 ([Value.slice Ad dn cd]), blkE Q8 22 ([Value.slice Ad i cd, .slice (addrOf Ad i cd) (dn - i) (cd - i)]), blkE Q12 22 ([Value.slice Ad dn cd]), rdE B wr.heap.size A 64 sm] wy7 from HM.out.below hb)
                rw [HSAME.out, HCR.out]
                clear hb
                go_wp2_with fail
                refine hK.out _ _ (HM.out) (fun hHeld => ?_)
                clear hK K
                (try simp only [Act.put, List.setIfInBounds_toArray, List.set_cons_zero, List.set_cons_succ])
                refine step_one 21 rfl (by kernel_rfl) (fun K hK => ?_)
                clear hHeld
                go_simp
                replace HM := Lib.hid (show Mem w [blkE wy7.heap.size 22 ([Value.slice Ad dn cd]), blkE Q18 22 ([Value.slice Ad dn cd]), blkE Q8 22 ([Value.slice Ad i cd, .slice (addrOf Ad i cd) (dn - i) (cd - i)]), blkE Q12 22 ([Value.slice Ad dn cd]), rdE B wr.heap.size A 64 sm] (wy7.alloc (.cells #[Value.slice Ad dn cd] 22)) from HM.out.alloc rfl 22 #[Value.slice Ad dn cd] ([Value.slice Ad dn cd]) rfl)
                generalize wy7.alloc (.cells #[Value.slice Ad dn cd] 22) = wy8 at HM ⊢
                generalize wy7.heap.size = Q22 at HM ⊢
                refine hK.out _ _ ((HM.out.erase 0)) (fun hHeld => ?_)
                clear hK K
                (try simp only [Act.put, List.setIfInBounds_toArray, List.set_cons_zero, List.set_cons_succ])
                refine wpAnyH_stronger (T := fun W' => Mem w [blkE Q22 22 ([Value.slice Ad dn cd]), blkE Q18 22 ([Value.slice Ad dn cd]), blkE Q8 22 ([Value.slice Ad i cd, .slice (addrOf Ad i cd) (dn - i) (cd - i)]), blkE Q12 22 ([Value.slice Ad dn cd]), rdE B wr.heap.size A 64 sm] W') (fun _ h' => h'.erase 0) _ _ _ _ ?_
                replace hHeld := HM.out
                refine step_one 22 rfl (by kernel_rfl) (fun K hK => ?_)
                clear hHeld
                go_simp
                refine (kd_hmac_one HHC.out Ak kn ck kl k1 hkm (by omega) Q22 22 Ad dn cd dl d1 hdm (by omega) _ (HLV.out.below HM.out.bel) (HM.out.arg HK.out) (HM.out.blk 0 rfl) (HM.out.arg HD.out)).mono ?_
                rintro e wy9 ⟨rfl, hb⟩
                replace HM := Lib.hid (show Mem w [blkE Q22 22 ([Value.slice Ad dn cd]), blkE Q18 22 ([Value.slice Ad dn cd]), blkE Q8 22 ([Value.slice Ad i cd, .slice (addrOf Ad i cd) (dn - i) (cd - i)]), blkE Q12 22 ([Value.slice Ad dn cd]), rdE B wr.heap.size A 64 sm] wy9 from HM.out.below hb)
                rw [HCR.out]
                clear hb
                go_wp2_with fail
                refine hK.out _ _ (HM.out) (fun hHeld => ?_)
                clear hK K
                (try simp only [Act.put, List.setIfInBounds_toArray, List.set_cons_zero, List.set_cons_succ])
                refine take_first (v := ?_) 23 rfl (by kernel_rfl) (by kernel_rfl) (by kernel_rfl) (fun _ _ _ h => h) (Or.inl ⟨by rfl, ?_⟩) (by assumption) ?_
                rotate_left
                · (intro w hSw; (try dsimp only at hSw); have ex := HEX.out w; go_simp; try with_reducible rfl)
                (try simp only [Act.put, List.setIfInBounds_toArray, List.set_cons_zero, List.set_cons_succ])
                refine take_first (v := ?_) 24 rfl (by kernel_rfl) (by kernel_rfl) (by kernel_rfl) (fun _ _ _ h => h) (Or.inl ⟨by rfl, ?_⟩) (by assumption) ?_
                rotate_left
                · (intro w hSw; (try dsimp only at hSw); go_simp; try with_reducible rfl)
                (try simp only [Act.put, List.setIfInBounds_toArray, List.set_cons_zero, List.set_cons_succ])
                refine take_first (v := ?_) 25 rfl (by kernel_rfl) (by kernel_rfl) (by kernel_rfl) (fun _ _ _ h => h) (Or.inl ⟨by rfl, ?_⟩) (by assumption) ?_
                rotate_left
                · (intro w hSw; (try dsimp only at hSw); go_simp; try with_reducible rfl)
                (try simp only [Act.put, List.setIfInBounds_toArray, List.set_cons_zero, List.set_cons_succ])
                refine step_one 26 rfl (by kernel_rfl) (fun K hK => ?_)
                clear hHeld
                go_simp
                refine (HBG.out _ (HLV.out.below HM.out.bel)).mono ?_
                rintro e wy10 ⟨rfl, hb⟩
                replace HM := Lib.hid (show Mem w [blkE Q22 22 ([Value.slice Ad dn cd]), blkE Q18 22 ([Value.slice Ad dn cd]), blkE Q8 22 ([Value.slice Ad i cd, .slice (addrOf Ad i cd) (dn - i) (cd - i)]), blkE Q12 22 ([Value.slice Ad dn cd]), rdE B wr.heap.size A 64 sm] wy10 from HM.out.below hb)
                clear hb
                go_wp2_with fail
                refine hK.out _ _ (HM.out) (fun hHeld => ?_)
                clear hK K
                (try simp only [Act.put, List.setIfInBounds_toArray, List.set_cons_zero, List.set_cons_succ])
                refine take_first (v := ?_) 27 rfl (by kernel_rfl) (by kernel_rfl) (by kernel_rfl) (fun _ _ _ h => h) (Or.inl ⟨by rfl, ?_⟩) (by assumption) ?_
                rotate_left
                · (intro w hSw; (try dsimp only at hSw); go_simp; try with_reducible rfl)
                (try simp only [Act.put, List.setIfInBounds_toArray, List.set_cons_zero, List.set_cons_succ])
                refine take_first (v := ?_) 28 rfl (by kernel_rfl) (by kernel_rfl) (by kernel_rfl) (fun _ _ _ h => h) (Or.inl ⟨by rfl, ?_⟩) (by assumption) ?_
                rotate_left
                · (intro w hSw; (try dsimp only at hSw); go_simp; try with_reducible rfl)
                (try simp only [Act.put, List.setIfInBounds_toArray, List.set_cons_zero, List.set_cons_succ])
                refine wpAnyH_done (by kernel_rfl) ?_ _
                have HF := Lib.hid HM.out.bel
                clear HM hHeld
                go_wp2_with fail
                go_ret
                exact ⟨rfl, HF.out⟩
              · clear hHeld
                go_simp
                replace HM := Lib.hid (show Mem w [blkE wy6.heap.size 22 ([Value.slice Ad dn cd]), blkE Q18 22 ([Value.slice Ad dn cd]), blkE Q8 22 ([Value.slice Ad i cd, .slice (addrOf Ad i cd) (dn - i) (cd - i)]), blkE Q12 22 ([Value.slice Ad dn cd]), rdE B wr.heap.size A 64 sm] (wy6.alloc (.cells #[Value.slice Ad dn cd] 22)) from HM.out.alloc rfl 22 #[Value.slice Ad dn cd] ([Value.slice Ad dn cd]) rfl)
                generalize wy6.alloc (.cells #[Value.slice Ad dn cd] 22) = wy7 at HM ⊢
                generalize wy6.heap.size = Q22 at HM ⊢
                refine hK.out _ _ ((HM.out.erase 0)) (fun hHeld => ?_)
                clear hK K
                (try simp only [Act.put, List.setIfInBounds_toArray, List.set_cons_zero, List.set_cons_succ])
                refine wpAnyH_stronger (T := fun W' => Mem w [blkE Q22 22 ([Value.slice Ad dn cd]), blkE Q18 22 ([Value.slice Ad dn cd]), blkE Q8 22 ([Value.slice Ad i cd, .slice (addrOf Ad i cd) (dn - i) (cd - i)]), blkE Q12 22 ([Value.slice Ad dn cd]), rdE B wr.heap.size A 64 sm] W') (fun _ h' => h'.erase 0) _ _ _ _ ?_
                replace hHeld := HM.out
                refine step_one 18 rfl (by kernel_rfl) (fun K hK => ?_)
                clear hHeld
                go_simp
                refine (kd_hmac_one HHC.out A 64 c sm HS.out.1 HS.out.2 (by omega) Q18 22 Ad dn cd dl d1 hdm (by omega) _ (HLV.out.below HM.out.bel) (HM.out.rd 4 rfl) (HM.out.blk 1 rfl) (HM.out.arg HD.out)).mono ?_
                rintro e wy8 ⟨rfl, hb⟩
                replace HM := Lib.hid (show Mem w [blkE Q22 22 ([Value.slice Ad dn cd]), blkE Q18 22 ([Value.slice Ad dn cd]), blkE Q8 22 ([Value.slice Ad i cd, .slice (addrOf Ad i cd) (dn - i) (cd - i)]), blkE Q12 22 ([Value.slice Ad dn cd]), rdE B wr.heap.size A 64 sm] wy8 from HM.out.below hb)
                rw [HSAME.out, HCR.out]
                clear hb
                go_wp2_with fail
                refine hK.out _ _ (HM.out) (fun hHeld => ?_)
                clear hK K
                (try simp only [Act.put, List.setIfInBounds_toArray, List.set_cons_zero, List.set_cons_succ])
                refine step_one 22 rfl (by kernel_rfl) (fun K hK => ?_)
                clear hHeld
                go_simp
                refine (kd_hmac_one HHC.out Ak kn ck kl k1 hkm (by omega) Q22 22 Ad dn cd dl d1 hdm (by omega) _ (HLV.out.below HM.out.bel) (HM.out.arg HK.out) (HM.out.blk 0 rfl) (HM.out.arg HD.out)).mono ?_
                rintro e wy9 ⟨rfl, hb⟩
                replace HM := Lib.hid (show Mem w [blkE Q22 22 ([Value.slice Ad dn cd]), blkE Q18 22 ([Value.slice Ad dn cd]), blkE Q8 22 ([Value.slice Ad i cd, .slice (addrOf Ad i cd) (dn - i) (cd - i)]), blkE Q12 22 ([Value.slice Ad dn cd]), rdE B wr.heap.size A 64 sm] wy9 from HM.out.below hb)
                rw [HCR.out]
                clear hb
                go_wp2_with fail
                refine hK.out _ _ (HM.out) (fun hHeld => ?_)
                clear hK K
                (try simp only [Act.put, List.setIfInBounds_toArray, List.set_cons_zero, List.set_cons_succ])
                refine take_first (v := ?_) 23 rfl (by kernel_rfl) (by kernel_rfl) (by kernel_rfl) (fun _ _ _ h => h) (Or.inl ⟨by rfl, ?_⟩) (by assumption) ?_
                rotate_left
                · (intro w hSw; (try dsimp only at hSw); have ex := HEX.out w; go_simp; try with_reducible rfl)
                (try simp only [Act.put, List.setIfInBounds_toArray, List.set_cons_zero, List.set_cons_succ])
                refine take_first (v := ?_) 24 rfl (by kernel_rfl) (by kernel_rfl) (by kernel_rfl) (fun _ _ _ h => h) (Or.inl ⟨by rfl, ?_⟩) (by assumption) ?_
                rotate_left
                · (intro w hSw; (try dsimp only at hSw); go_simp; try with_reducible rfl)
                (try simp only [Act.put, List.setIfInBounds_toArray, List.set_cons_zero, List.set_cons_succ])
                refine take_first (v := ?_) 25 rfl (by kernel_rfl) (by kernel_rfl) (by kernel_rfl) (fun _ _ _ h => h) (Or.inl ⟨by rfl, ?_⟩) (by assumption) ?_
                rotate_left
                · (intro w hSw; (try dsimp only at hSw); go_simp; try with_reducible rfl)
                (try simp only [Act.put, List.setIfInBounds_toArray, List.set_cons_zero, List.set_cons_succ])
                refine step_one 26 rfl (by kernel_rfl) (fun K hK => ?_)
                clear hHeld
                go_simp
                refine (HBG.out _ (HLV.out.below HM.out.bel)).mono ?_
                rintro e wy10 ⟨rfl, hb⟩
                replace HM := Lib.hid (show Mem w [blkE Q22 22 ([Value.slice Ad dn cd]), blkE Q18 22 ([Value.slice Ad dn cd]), blkE Q8 22 ([Value.slice Ad i cd, .slice (addrOf Ad i cd) (dn - i) (cd - i)]), blkE Q12 22 ([Value.slice Ad dn cd]), rdE B wr.heap.size A 64 sm] wy10 from HM.out.below hb)
                clear hb
                go_wp2_with fail
                refine hK.out _ _ (HM.out) (fun hHeld => ?_)
                clear hK K
                (try simp only [Act.put, List.setIfInBounds_toArray, List.set_cons_zero, List.set_cons_succ])
                refine take_first (v := ?_) 27 rfl (by kernel_rfl) (by kernel_rfl) (by kernel_rfl) (fun _ _ _ h => h) (Or.inl ⟨by rfl, ?_⟩) (by assumption) ?_
                rotate_left
                · (intro w hSw; (try dsimp only at hSw); go_simp; try with_reducible rfl)
                (try simp only [Act.put, List.setIfInBounds_toArray, List.set_cons_zero, List.set_cons_succ])
                refine take_first (v := ?_) 28 rfl (by kernel_rfl) (by kernel_rfl) (by kernel_rfl) (fun _ _ _ h => h) (Or.inl ⟨by rfl, ?_⟩) (by assumption) ?_
                rotate_left
                · (intro w hSw; (try dsimp only at hSw); go_simp; try with_reducible rfl)
                (try simp only [Act.put, List.setIfInBounds_toArray, List.set_cons_zero, List.set_cons_succ])
                refine wpAnyH_done (by kernel_rfl) ?_ _
                have HF := Lib.hid HM.out.bel
                clear HM hHeld
                go_wp2_with fail
                go_ret
                exact ⟨rfl, HF.out⟩
            · clear hHeld
              go_simp
              replace HM := Lib.hid (show Mem w [blkE wy5.heap.size 22 ([Value.slice Ad dn cd]), blkE Q8 22 ([Value.slice Ad i cd, .slice (addrOf Ad i cd) (dn - i) (cd - i)]), blkE Q12 22 ([Value.slice Ad dn cd]), rdE B wr.heap.size A 64 sm] (wy5.alloc (.cells #[Value.slice Ad dn cd] 22)) from HM.out.alloc rfl 22 #[Value.slice Ad dn cd] ([Value.slice Ad dn cd]) rfl)
              generalize wy5.alloc (.cells #[Value.slice Ad dn cd] 22) = wy6 at HM ⊢
              generalize wy5.heap.size = Q22 at HM ⊢
              refine hK.out _ _ ((HM.out.erase 0)) (fun hHeld => ?_)
              clear hK K
              (try simp only [Act.put, List.setIfInBounds_toArray, List.set_cons_zero, List.set_cons_succ])
              refine wpAnyH_stronger (T := fun W' => Mem w [blkE Q22 22 ([Value.slice Ad dn cd]), blkE Q8 22 ([Value.slice Ad i cd, .slice (addrOf Ad i cd) (dn - i) (cd - i)]), blkE Q12 22 ([Value.slice Ad dn cd]), rdE B wr.heap.size A 64 sm] W') (fun _ h' => h'.erase 0) _ _ _ _ ?_
              replace hHeld := HM.out
              refine step_one 17 rfl (by kernel_rfl) (fun K hK => ?_)
              clear hHeld
              go_simp
              replace HM := Lib.hid (show Mem w [blkE wy6.heap.size 22 ([Value.slice Ad dn cd]), blkE Q22 22 ([Value.slice Ad dn cd]), blkE Q8 22 ([Value.slice Ad i cd, .slice (addrOf Ad i cd) (dn - i) (cd - i)]), blkE Q12 22 ([Value.slice Ad dn cd]), rdE B wr.heap.size A 64 sm] (wy6.alloc (.cells #[Value.slice Ad dn cd] 22)) from HM.out.alloc rfl 22 #[Value.slice Ad dn cd] ([Value.slice Ad dn cd]) rfl)
              generalize wy6.alloc (.cells #[Value.slice Ad dn cd] 22) = wy7 at HM ⊢
              generalize wy6.heap.size = Q18 at HM ⊢
              refine hK.out _ _ ((HM.out.erase 0)) (fun hHeld => ?_)
              clear hK K
              (try simp only [Act.put, List.setIfInBounds_toArray, List.set_cons_zero, List.set_cons_succ])
              refine wpAnyH_stronger (T := fun W' => Mem w [blkE Q18 22 ([Value.slice Ad dn cd]), blkE Q22 22 ([Value.slice Ad dn cd]), blkE Q8 22 ([Value.slice Ad i cd, .slice (addrOf Ad i cd) (dn - i) (cd - i)]), blkE Q12 22 ([Value.slice Ad dn cd]), rdE B wr.heap.size A 64 sm] W') (fun _ h' => h'.erase 0) _ _ _ _ ?_
              replace hHeld := HM.out
              refine step_one 18 rfl (by kernel_rfl) (fun K hK => ?_)
              clear hHeld
              go_simp
              refine (kd_hmac_one HHC.out A 64 c sm HS.out.1 HS.out.2 (by omega) Q18 22 Ad dn cd dl d1 hdm (by omega) _ (HLV.out.below HM.out.bel) (HM.out.rd 4 rfl) (HM.out.blk 0 rfl) (HM.out.arg HD.out)).mono ?_
              rintro e wy8 ⟨rfl, hb⟩
              replace HM := Lib.hid (show Mem w [blkE Q18 22 ([Value.slice Ad dn cd]), blkE Q22 22 ([Value.slice Ad dn cd]), blkE Q8 22 ([Value.slice Ad i cd, .slice (addrOf Ad i cd) (dn - i) (cd - i)]), blkE Q12 22 ([Value.slice Ad dn cd]), rdE B wr.heap.size A 64 sm] wy8 from HM.out.below hb)
              rw [HSAME.out, HCR.out]
              clear hb
              go_wp2_with fail
              refine hK.out _ _ (HM.out) (fun hHeld => ?_)
              clear hK K
              (try simp only [Act.put, List.setIfInBounds_toArray, List.set_cons_zero, List.set_cons_succ])
              refine step_one 22 rfl (by kernel_rfl) (fun K hK => ?_)
              clear hHeld
              go_simp
              refine (kd_hmac_one HHC.out Ak kn ck kl k1 hkm (by omega) Q22 22 Ad dn cd dl d1 hdm (by omega) _ (HLV.out.below HM.out.bel) (HM.out.arg HK.out) (HM.out.blk 1 rfl) (HM.out.arg HD.out)).mono ?_
              rintro e wy9 ⟨rfl, hb⟩
              replace HM := Lib.hid (show Mem w [blkE Q18 22 ([Value.slice Ad dn cd]), blkE Q22 22 ([Value.slice Ad dn cd]), blkE Q8 22 ([Value.slice Ad i cd, .slice (addrOf Ad i cd) (dn - i) (cd - i)]), blkE Q12 22 ([Value.slice Ad dn cd]), rdE B wr.heap.size A 64 sm] wy9 from HM.out.below hb)
              rw [HCR.out]
              clear hb
              go_wp2_with fail
              refine hK.out _ _ (HM.out) (fun hHeld => ?_)
              clear hK K
              (try simp only [Act.put, List.setIfInBounds_toArray, List.set_cons_zero, List.set_cons_succ])
              refine take_first (v := ?_) 23 rfl (by kernel_rfl) (by kernel_rfl) (by kernel_rfl) (fun _ _ _ h => h) (Or.inl ⟨by rfl, ?_⟩) (by assumption) ?_
              rotate_left
              · (intro w hSw; (try dsimp only at hSw); have ex := HEX.out w; go_simp; try with_reducible rfl)
              (try simp only [Act.put, List.setIfInBounds_toArray, List.set_cons_zero, List.set_cons_succ])
              refine take_first (v := ?_) 24 rfl (by kernel_rfl) (by kernel_rfl) (by kernel_rfl) (fun _ _ _ h => h) (Or.inl ⟨by rfl, ?_⟩) (by assumption) ?_
              rotate_left
              · (intro w hSw; (try dsimp only at hSw); go_simp; try with_reducible rfl)
              (try simp only [Act.put, List.setIfInBounds_toArray, List.set_cons_zero, List.set_cons_succ])
              refine take_first (v := ?_) 25 rfl (by kernel_rfl) (by kernel_rfl) (by kernel_rfl) (fun _ _ _ h => h) (Or.inl ⟨by rfl, ?_⟩) (by assumption) ?_
              rotate_left
              · (intro w hSw; (try dsimp only at hSw); go_simp; try with_reducible rfl)
              (try simp only [Act.put, List.setIfInBounds_toArray, List.set_cons_zero, List.set_cons_succ])
              refine step_one 26 rfl (by kernel_rfl) (fun K hK => ?_)
              clear hHeld
              go_simp
              refine (HBG.out _ (HLV.out.below HM.out.bel)).mono ?_
              rintro e wy10 ⟨rfl, hb⟩
              replace HM := Lib.hid (show Mem w [blkE Q18 22 ([Value.slice Ad dn cd]), blkE Q22 22 ([Value.slice Ad dn cd]), blkE Q8 22 ([Value.slice Ad i cd, .slice (addrOf Ad i cd) (dn - i) (cd - i)]), blkE Q12 22 ([Value.slice Ad dn cd]), rdE B wr.heap.size A 64 sm] wy10 from HM.out.below hb)
              clear hb
              go_wp2_with fail
              refine hK.out _ _ (HM.out) (fun hHeld => ?_)
              clear hK K
              (try simp only [Act.put, List.setIfInBounds_toArray, List.set_cons_zero, List.set_cons_succ])
              refine take_first (v := ?_) 27 rfl (by kernel_rfl) (by kernel_rfl) (by kernel_rfl) (fun _ _ _ h => h) (Or.inl ⟨by rfl, ?_⟩) (by assumption) ?_
              rotate_left
              · (intro w hSw; (try dsimp only at hSw); go_simp; try with_reducible rfl)
              (try simp only [Act.put, List.setIfInBounds_toArray, List.set_cons_zero, List.set_cons_succ])
              refine take_first (v := ?_) 28 rfl (by kernel_rfl) (by kernel_rfl) (by kernel_rfl) (fun _ _ _ h => h) (Or.inl ⟨by rfl, ?_⟩) (by assumption) ?_
              rotate_left
              · (intro w hSw; (try dsimp only at hSw); go_simp; try with_reducible rfl)
              (try simp only [Act.put, List.setIfInBounds_toArray, List.set_cons_zero, List.set_cons_succ])
              refine wpAnyH_done (by kernel_rfl) ?_ _
              have HF := Lib.hid HM.out.bel
              clear HM hHeld
              go_wp2_with fail
              go_ret
              exact ⟨rfl, HF.out⟩

      · have HP := Lib.hid hP
        have dl : decide ((32 : Int) < 64) = true := by decide
        have hbw : Below B wr (wr.alloc (.cells #[.int .u8 0] 5)) := (Below.refl _ _).alloc HMB.out.2.2 _
        have HMA := Lib.hid (HMB.out.below hbw)
        have HPA := Lib.hid (HP.out.alloc (.cells #[.int .u8 0] 5))
        have HZ := Lib.hid (Blk.new wr 5 [.int .u8 0])
        rw [show ([.int .u8 0] : List Value).toArray = #[.int .u8 0] from rfl] at HZ
        clear hbw HMB HP hP
        go_wp2_with (refine wpList_append_grows _ rfl (.tmp 33) (.tmp 34) 22 rfl 5 i0 (.int .u8 0) 1 1 Tryd.underlying22 hi hz0 hz1 hz2 rfl (by omega) (some ⟨P, 0, none⟩) 32 32 (s0.map u8v) rfl (fun h => by cases h) (by rw [List.length_map, h32]) (fun b hb j u hj => by injection hb with hb; subst hb; rw [Go.WideShapes.add_plain, Nat.zero_add, HPA.out.cell]; exact hj) ⟨wr.heap.size, 0, none⟩ 1 1 [.int .u8 0] rfl rfl (fun j u hj => by rw [Go.WideShapes.add_plain, Nat.zero_add, HZ.out.cell]; exact hj) (by intro v hv; simp at hv; subst hv; rfl) (by omega) (by unfold maxLen; omega) (by omega) ?_; intro v5 w5 ho5 hg5)
        have hrow : s0.map u8v ++ [.int .u8 0] = (s0 ++ List.replicate 1 0).map u8v := by rw [List.map_append]; rfl
        rw [hrow] at ho5
        obtain ⟨A5, c5, rfl, q1, q2⟩ : ∃ A5 c5, v5 = .slice A5 33 c5 ∧ 33 ≤ c5 ∧ c5 ≤ maxLen := by
          rcases ho5.2 with ⟨hv, h0⟩ | ⟨g, cap, cur, hv, _, _, hcap, hmx, _⟩
          · omega
          · exact ⟨_, cap, hv, hcap, hmx⟩
        have HO5 := Lib.hid ho5
        have HN := Lib.hid (show MemB w (wr.alloc (.cells #[.int .u8 0] 5)).heap.size [] w5 from HMA.out.mem.fix.below ((Below.refl _ _).grown hg5 (Nat.le_refl _) (fun k hk => by cases hk)))
        have HLE := Lib.hid (And.intro h32 hle)
        clear ho5 hg5 hrow HMA HPA HZ dl hle
        go_wp2_with fail
        go_roundw
        case rel => exact ⟨1, _, HN.out, by rw [HLE.out.1]; omega, .inl ⟨A5, c5, by rw [HLE.out.1], by rw [HLE.out.1]; exact q1, q2, by rw [HLE.out.1]; exact HO5.out⟩⟩
        case measure => simp [lenS]
end Go.Proofs.YtbochejgjmjieaaDoor
