/-
  The contract of the reference's compress. No statement is proved here.
-/
import Derived.Test.YtlddafkikkaonaaGreatDoorMacsRepliesB3
namespace Go.Proofs.YtlddafkikkaonaaGreatDoor
open Go.RowKit
theorem ordV_get (r i : Nat) (hi : i < 16) : (ordV r)[i]? = some (.int .i64 (ordN r i : Int)) := by
 simp [ordV, intv, hi]
/-- v0 to v15, as a loop over eight places lays them -/
def vbW (h : List UInt32) : Nat → List UInt32
 | 0 => List.replicate 16 0
 | j + 1 => ((vbW h j).set j (wd h j)).set (8 + j) (wd ivW j)
theorem vbW_length (h : List UInt32) : ∀ j, (vbW h j).length = 16
 | 0 => rfl
 | j + 1 => by rw [vbW, List.length_set, List.length_set, vbW_length h j]
theorem vbW_end (h : List UInt32) (hh : h.length = 8) : vbW h 8 = h ++ ivW := by
 match h, hh with
 | [_, _, _, _, _, _, _, _], _ => rfl
/-- the state, as the last loop changes it -/
def hdW (h v : List UInt32) : Nat → List UInt32
 | 0 => h
 | j + 1 => (hdW h v j).set j (wd (hdW h v j) j ^^^ (wd v j ^^^ wd v (8 + j)))
theorem hdW_length (h v : List UInt32) : ∀ j, (hdW h v j).length = h.length
 | 0 => rfl
 | j + 1 => by rw [hdW, List.length_set, hdW_length h v j]
theorem hdW_end (h v : List UInt32) (hh : h.length = 8) : hdW h v 8 = (List.range 8).map fun i => wd h i ^^^ (wd v i ^^^ wd v (8 + i)) := by
 match h, hh with
 | [_, _, _, _, _, _, _, _], _ => rfl
theorem fillW16 (b : List UInt8) : fillW (List.replicate 16 (0 : UInt32)) 0 (wordL b) 16 = wordsL b := by
 simp [fillW, wordsL, List.range_succ]
theorem u32_of (t : Nat) : ((t : Int) % 4294967296) = ((UInt32.ofNat t).toNat : Int) := by
 rw [UInt32.toNat_ofNat']; rfl
theorem u32_not (x : UInt32) : bits BinOp.xor IntKind.u32 IntKind.u32.max (x.toNat : Int) = ((~~~ x).toNat : Int) := by
 have h := u32_xor 4294967295 x
 rw [show (4294967295 : UInt32) ^^^ x = ~~~ x from by
  apply UInt32.toBitVec_inj.1
  rw [UInt32.toBitVec_xor, UInt32.toBitVec_not, BitVec.xor_comm]
  exact BitVec.xor_allOnes] at h
 exact h
set_option maxRecDepth 100000 in
set_option maxHeartbeats 16000000 in
theorem refCompress_any (h : List UInt32) (hh : h.length = 8) (db off cap : Nat) (b : List UInt8) (hcap : 64 ≤ cap) (hcm : cap ≤ maxLen) (t : Nat) (_ht : t < 18446744073709551616) (f : Bool) (w : World) (hr : Rd w w.heap.size (some ⟨db, off, none⟩) 64 b) :
 Calls Tryz.prog 67 #[.agg (h.map u32v).toArray, .slice (some ⟨db, off, none⟩) 64 cap, .int .u64 (t : Int), .bool f] w fun e w' => e = .returned (.agg ((compB h b t f).map u32v).toArray) ∧ Below w.heap.size w w' := by
 obtain ⟨ch, hch⟩ : ∃ c, (h.map u32v).toArray = c := ⟨_, rfl⟩
 rw [hch]
 have HM := Lib.hid (show Mem w [blkE (w.heap.size + 1 + 1 + 1) 86 ((List.replicate 16 (0 : UInt32)).map u32v), blkE (w.heap.size + 1 + 1) 86 ((List.replicate 16 (0 : UInt32)).map u32v), blkE (w.heap.size + 1) 92 (zw 8), blkE w.heap.size 92 ((h).map u32v)] ((((w.alloc (.cells ch 92)).alloc (.cells zw8_ 92)).alloc (.cells zw16_ 86)).alloc (.cells zw16_ 86)) from ((((Mem.nil w).alloc rfl 92 ch (h.map u32v) hch.symm).alloc (by simp) 92 zw8_ (zw 8) rfl).alloc (by simp) 86 zw16_ ((List.replicate 16 (0 : UInt32)).map u32v) rfl).alloc (by simp) 86 zw16_ ((List.replicate 16 (0 : UInt32)).map u32v) rfl)
 have HR := Lib.hid hr
 have HH := Lib.hid hh
 clear hch hr hh
 unfold maxLen at hcm
 go_enter Tryz.func67, Tryz.ntmps67
 go_upto_region 2 with fail
 generalize ((((w.alloc (.cells ch 92)).alloc (.cells zw8_ 92)).alloc (.cells zw16_ 86)).alloc (.cells zw16_ 86)) = w1 at HM ⊢
 go_wp2_with fail
 go_loopw [17, 11] (fun i _ wr => ∃ j : Nat, j ≤ 16 ∧ i = .int .i64 (j : Int) ∧ Mem w [blkE (w.heap.size + 1 + 1 + 1) 86 ((List.replicate 16 (0 : UInt32)).map u32v), blkE (w.heap.size + 1 + 1) 86 ((fillW (List.replicate 16 (0 : UInt32)) 0 (wordL b) j).map u32v), blkE (w.heap.size + 1) 92 (zw 8), blkE w.heap.size 92 ((h).map u32v)] wr) (fun i _ _ => 16 - (intOf i).toNat)
 case atStart => exact ⟨0, by omega, rfl, HM.out⟩
 case round =>
  clear HM
  obtain ⟨j, hj, rfl, hM⟩ := hrel
  have HM := Lib.hid hM
  clear hM
  by_cases hlt : j < 16
  ·
   have d16 : decide ((j : Int) < 16) = true := by simp; omega
   have rd := (((HM.out.arg HR.out).drop (4 * j) db off rfl (by omega)).take (m := 4) (by omega))
   have RL := Lib.hid (readRefLittle_any _ _ 4 (cap - 4 * j) _ (by omega) wr rd)
   have hlen : (fillW (List.replicate 16 (0 : UInt32)) 0 (wordL b) j).length = 16 := by rw [fillW_length]; rfl
   have fx := (HM.out.blk 1 rfl).word j (by omega)
   have zx := (HM.out.blk 1 rfl).frozen j
   have WW := Lib.hid (word_wrap b j)
   have HN := Lib.hid (show Mem w [blkE (w.heap.size + 1 + 1 + 1) 86 ((List.replicate 16 (0 : UInt32)).map u32v), blkE (w.heap.size + 1 + 1) 86 ((fillW (List.replicate 16 (0 : UInt32)) 0 (wordL b) (j + 1)).map u32v), blkE (w.heap.size + 1) 92 (zw 8), blkE w.heap.size 92 ((h).map u32v)] (wr.setCell ⟨(w.heap.size + 1 + 1), j, none⟩ (.int .u32 ((wordL b j).toNat : Int))) from by
    have h := HM.out.setCell 1 rfl j (u32v (wordL b j))
    rw [← List.map_set] at h
    rw [fillW, Nat.zero_add]
    exact h)
   clear rd hlen HM
   have b1 : 4 * (j : Int) + 4 ≤ (cap : Int) := by omega
   have b2 : ¬ cap = 4 * j := by omega
   go_wp2_with fail
   rw [show 4 * j + 4 - 4 * j = 4 by omega]
   refine RL.out.mono ?_
   rintro e w1 ⟨rfl, rfl⟩
   clear RL
   obtain ⟨M, hM⟩ : ∃ M, numL (((b.drop (4 * j)).take 4).take 8) = M := ⟨_, rfl⟩
   have WN := WW.out
   rw [hM] at WN ⊢
   clear hM WW
   go_wp2
   go_roundw
   case rel => exact ⟨j + 1, by omega, by go_num, HN.out⟩
   case measure => simp [intOf]; omega
  ·
   obtain rfl : j = 16 := by omega
   rw [fillW16] at HM
   obtain ⟨wm, hwm⟩ : ∃ m, wordsL b = m := ⟨_, rfl⟩
   rw [hwm] at HM
   have HWM := Lib.hid (show wm.length = 16 by rw [← hwm]; exact wordsL_length b)
   have HWE := Lib.hid hwm
   clear hwm
   obtain ⟨ci, hci⟩ : ∃ c, (ivW.map u32v).toArray = c := ⟨_, rfl⟩
   have IC := Lib.hid (show ∀ w' : World, Calls Tryz.prog 66 #[] w' fun e w'' => e = .returned (.agg ci) ∧ Below w'.heap.size w' w'' from by rw [← hci]; exact refInitial_any)
   have HCI := Lib.hid hci
   clear hci
   rw [show ((16 : Nat) : Int) = 16 from rfl]
   go_wp2_with fail
   refine (IC.out _).mono ?_
   rintro e w2 ⟨rfl, hb⟩
   replace HM := Lib.hid (HM.out.below hb)
   clear hb
   have HA := Lib.hid (HM.out.alloc rfl 92 zw8_ (zw 8) rfl)
   go_upto_region 8 with (refine wpList_store_blk rfl 92 (.tmp 12) (.tmp 32) rfl w2.heap.size (ivW.map u32v) rfl (by show Value.agg ci = _; rw [HCI.out]) 92 (zw 8) (HA.out.blk 0 rfl) (cellsW8 ivW rfl) rfl (u32v_one _) ?_; intro w3 hb3 hg3)
   replace HM := Lib.hid (show Mem w [blkE w2.heap.size 92 (ivW.map u32v), blkE (w.heap.size + 1 + 1 + 1) 86 ((List.replicate 16 (0 : UInt32)).map u32v), blkE (w.heap.size + 1 + 1) 86 ((wm).map u32v), blkE (w.heap.size + 1) 92 (zw 8), blkE w.heap.size 92 ((h).map u32v)] w3 from HA.out.put 0 rfl _ hg3 hb3)
   clear hb3 hg3 HA IC
   generalize w2.heap.size = P at HM ⊢
   go_wp2_with fail
   go_loopw [13] (fun i wr => ∃ j : Nat, j ≤ 8 ∧ i = .int .i64 (j : Int) ∧ Mem w [blkE P 92 (ivW.map u32v), blkE (w.heap.size + 1 + 1 + 1) 86 ((vbW h j).map u32v), blkE (w.heap.size + 1 + 1) 86 ((wm).map u32v), blkE (w.heap.size + 1) 92 (zw 8), blkE w.heap.size 92 ((h).map u32v)] wr) (fun i _ => 8 - (intOf i).toNat)
   case atStart => exact ⟨0, by omega, rfl, HM.out⟩
   case round =>
    clear HM
    obtain ⟨j, hj, rfl, hM⟩ := hrel
    have HM := Lib.hid hM
    clear hM
    by_cases hlt : j < 8
    ·
     have d8 : decide ((j : Int) < 8) = true := by simp; omega
     obtain ⟨X, hX⟩ : ∃ x, wd h j = x := ⟨_, rfl⟩
     obtain ⟨Y, hY⟩ : ∃ x, wd ivW j = x := ⟨_, rfl⟩
     have e8 : IntKind.i64.wrap (8 + (j : Int)) = 8 + (j : Int) := IntWalk.i64_in _ (by omega)
     have b8 : (8 : Int) + (j : Int) < 16 := by omega
     have b9 : (j : Int) < 16 := by omega
     have b11 : (0 : Int) ≤ 8 + (j : Int) := by omega
     have b12 : (8 + (j : Int)).toNat = 8 + j := by omega
     have b10 : (j : Int) < 8 := by omega
     go_upto_region 11 with fail
     refine wp_region_held_drew (S := fun W' => Mem w [blkE P 92 (ivW.map u32v), blkE (w.heap.size + 1 + 1) 86 ((wm).map u32v), blkE (w.heap.size + 1) 92 (zw 8), blkE w.heap.size 92 ((h).map u32v)] W') (by kernel_rfl) (((HM.out.erase 1)).drew) (fun hHeld => ?_)
     replace HM := Lib.hid HM.out.drew
     generalize wr.drew = wd1 at HM hHeld ⊢
     refine tf (v := ?_) 0 rfl (Or.inl ⟨by rfl, ?_⟩) ?_
     rotate_left
     · (intro w hSw; (try dsimp only at hSw); go_simp; try with_reducible rfl)
     (try simp only [Act.put, sA, s0, s1])
     refine tf (v := ?_) 1 rfl (Or.inl ⟨by rfl, ?_⟩) ?_
     rotate_left
     · (intro w hSw; (try dsimp only at hSw); go_simp; try with_reducible rfl)
     (try simp only [Act.put, sA, s0, s1])
     refine tf (v := ?_) 2 rfl (Or.inl ⟨by rfl, ?_⟩) ?_
     rotate_left
     · (intro w hSw; (try dsimp only at hSw); go_simp; try with_reducible rfl)
     (try simp only [Act.put, sA, s0, s1])
     refine tf (v := ?_) 3 rfl (Or.inl ⟨by rfl, ?_⟩) ?_
     rotate_left
     · (intro w hSw; (try dsimp only at hSw); go_simp; try with_reducible rfl)
     (try simp only [Act.put, sA, s0, s1])
     refine tf (v := ?_) 4 rfl (Or.inl ⟨by rfl, ?_⟩) ?_
     rotate_left
     · (intro w hSw; (try dsimp only at hSw); go_simp; try with_reducible rfl)
     (try simp only [Act.put, sA, s0, s1])
     refine tf (v := ?_) 6 rfl (Or.inl ⟨by rfl, ?_⟩) ?_
     rotate_left
     · (intro w hSw; (try dsimp only at hSw); go_simp; try with_reducible rfl)
     (try simp only [Act.put, sA, s0, s1])
     refine tf (v := ?_) 7 rfl (Or.inl ⟨by rfl, ?_⟩) ?_
     rotate_left
     · (intro w hSw; (try dsimp only at hSw); go_simp; try with_reducible rfl)
     (try simp only [Act.put, sA, s0, s1])
     refine step_two 5 8 rfl rfl (by kernel_rfl) (fun K hK => ?_) (fun K hK => ?_)
     ·
      clear hHeld
      have fx := (HM.out.blk 4 rfl).word j (by rw [HH.out]; exact hlt)
      rw [hX] at fx
      go_simp
      refine hK.out _ _ ((HM.out.erase 1)) (fun hHeld => ?_)
      clear hK K
      (try simp only [Act.put, sA, s0, s1])
      clear fx
      refine tf (v := ?_) 9 rfl (Or.inl ⟨by rfl, ?_⟩) ?_
      rotate_left
      · (intro w hSw; (try dsimp only at hSw); go_simp; try with_reducible rfl)
      (try simp only [Act.put, sA, s0, s1])
      refine step_two 8 10 rfl rfl (by kernel_rfl) (fun K hK => ?_) (fun K hK => ?_)
      ·
       clear hHeld
       have fx := (HM.out.blk 0 rfl).word j (by show j < 8; exact hlt)
       rw [hY] at fx
       go_simp
       refine hK.out _ _ ((HM.out.erase 1)) (fun hHeld => ?_)
       clear hK K
       (try simp only [Act.put, sA, s0, s1])
       clear fx
       refine so 10 rfl fun K hK => ?_
       clear hHeld
       have fx := (HM.out.blk 1 rfl).word j (by rw [vbW_length]; omega)
       have zx := (HM.out.blk 1 rfl).frozen j
       go_simp
       replace HM := Lib.hid (show Mem w [blkE P 92 (ivW.map u32v), blkE (w.heap.size + 1 + 1 + 1) 86 (((vbW h j).set j X).map u32v), blkE (w.heap.size + 1 + 1) 86 ((wm).map u32v), blkE (w.heap.size + 1) 92 (zw 8), blkE w.heap.size 92 ((h).map u32v)] (wd1.setCell ⟨(w.heap.size + 1 + 1 + 1), j, none⟩ (.int .u32 ((X).toNat : Int))) from by have h := HM.out.setCell 1 rfl j (u32v (X)); rw [← List.map_set] at h; exact h)
       clear fx zx
       generalize wd1.setCell ⟨(w.heap.size + 1 + 1 + 1), j, none⟩ (.int .u32 ((X).toNat : Int)) = wy2 at HM ⊢
       refine hK.out _ _ ((HM.out.erase 1)) (fun hHeld => ?_)
       clear hK K
       (try simp only [Act.put])
       refine tf (v := ?_) 11 rfl (Or.inl ⟨by rfl, ?_⟩) ?_
       rotate_left
       · (intro w hSw; (try dsimp only at hSw); go_simp; try with_reducible rfl)
       (try simp only [Act.put, sA, s0, s1])
       refine so 12 rfl fun K hK => ?_
       clear hHeld
       have fx := (HM.out.blk 1 rfl).word (8 + j) (by rw [List.length_set, vbW_length]; omega)
       have zx := (HM.out.blk 1 rfl).frozen (8 + j)
       go_simp
       replace HM := Lib.hid (show Mem w [blkE P 92 (ivW.map u32v), blkE (w.heap.size + 1 + 1 + 1) 86 ((((vbW h j).set j X).set (8 + j) Y).map u32v), blkE (w.heap.size + 1 + 1) 86 ((wm).map u32v), blkE (w.heap.size + 1) 92 (zw 8), blkE w.heap.size 92 ((h).map u32v)] (wy2.setCell ⟨(w.heap.size + 1 + 1 + 1), (8 + j), none⟩ (.int .u32 ((Y).toNat : Int))) from by have h := HM.out.setCell 1 rfl (8 + j) (u32v (Y)); rw [← List.map_set] at h; exact h)
       clear fx zx
       generalize wy2.setCell ⟨(w.heap.size + 1 + 1 + 1), (8 + j), none⟩ (.int .u32 ((Y).toNat : Int)) = wy3 at HM ⊢
       refine hK.out _ _ ((HM.out.erase 1)) (fun hHeld => ?_)
       clear hK K
       (try simp only [Act.put])
       refine wpAnyH_done (by kernel_rfl) ?_ _
       replace HM := Lib.hid (show Mem w [blkE P 92 (ivW.map u32v), blkE (w.heap.size + 1 + 1 + 1) 86 ((vbW h (j + 1)).map u32v), blkE (w.heap.size + 1 + 1) 86 ((wm).map u32v), blkE (w.heap.size + 1) 92 (zw 8), blkE w.heap.size 92 ((h).map u32v)] wy3 from by have h := HM.out; rw [← hX, ← hY] at h; exact h)
       go_wp2
       refine ⟨⟨j + 1, by omega, by go_num, HM.out⟩, ?_⟩
       simp [intOf]; omega
      ·
       clear hHeld
       have fx := (HM.out.blk 1 rfl).word j (by rw [vbW_length]; omega)
       have zx := (HM.out.blk 1 rfl).frozen j
       go_simp
       replace HM := Lib.hid (show Mem w [blkE P 92 (ivW.map u32v), blkE (w.heap.size + 1 + 1 + 1) 86 (((vbW h j).set j X).map u32v), blkE (w.heap.size + 1 + 1) 86 ((wm).map u32v), blkE (w.heap.size + 1) 92 (zw 8), blkE w.heap.size 92 ((h).map u32v)] (wd1.setCell ⟨(w.heap.size + 1 + 1 + 1), j, none⟩ (.int .u32 ((X).toNat : Int))) from by have h := HM.out.setCell 1 rfl j (u32v (X)); rw [← List.map_set] at h; exact h)
       clear fx zx
       generalize wd1.setCell ⟨(w.heap.size + 1 + 1 + 1), j, none⟩ (.int .u32 ((X).toNat : Int)) = wy2 at HM ⊢
       refine hK.out _ _ ((HM.out.erase 1)) (fun hHeld => ?_)
       clear hK K
       (try simp only [Act.put])
       refine so 8 rfl fun K hK => ?_
       clear hHeld
       have fx := (HM.out.blk 0 rfl).word j (by show j < 8; exact hlt)
       rw [hY] at fx
       go_simp
       refine hK.out _ _ ((HM.out.erase 1)) (fun hHeld => ?_)
       clear hK K
       (try simp only [Act.put, sA, s0, s1])
       clear fx
       refine tf (v := ?_) 11 rfl (Or.inl ⟨by rfl, ?_⟩) ?_
       rotate_left
       · (intro w hSw; (try dsimp only at hSw); go_simp; try with_reducible rfl)
       (try simp only [Act.put, sA, s0, s1])
       refine so 12 rfl fun K hK => ?_
       clear hHeld
       have fx := (HM.out.blk 1 rfl).word (8 + j) (by rw [List.length_set, vbW_length]; omega)
       have zx := (HM.out.blk 1 rfl).frozen (8 + j)
       go_simp
       replace HM := Lib.hid (show Mem w [blkE P 92 (ivW.map u32v), blkE (w.heap.size + 1 + 1 + 1) 86 ((((vbW h j).set j X).set (8 + j) Y).map u32v), blkE (w.heap.size + 1 + 1) 86 ((wm).map u32v), blkE (w.heap.size + 1) 92 (zw 8), blkE w.heap.size 92 ((h).map u32v)] (wy2.setCell ⟨(w.heap.size + 1 + 1 + 1), (8 + j), none⟩ (.int .u32 ((Y).toNat : Int))) from by have h := HM.out.setCell 1 rfl (8 + j) (u32v (Y)); rw [← List.map_set] at h; exact h)
       clear fx zx
       generalize wy2.setCell ⟨(w.heap.size + 1 + 1 + 1), (8 + j), none⟩ (.int .u32 ((Y).toNat : Int)) = wy3 at HM ⊢
       refine hK.out _ _ ((HM.out.erase 1)) (fun hHeld => ?_)
       clear hK K
       (try simp only [Act.put])
       refine wpAnyH_done (by kernel_rfl) ?_ _
       replace HM := Lib.hid (show Mem w [blkE P 92 (ivW.map u32v), blkE (w.heap.size + 1 + 1 + 1) 86 ((vbW h (j + 1)).map u32v), blkE (w.heap.size + 1 + 1) 86 ((wm).map u32v), blkE (w.heap.size + 1) 92 (zw 8), blkE w.heap.size 92 ((h).map u32v)] wy3 from by have h := HM.out; rw [← hX, ← hY] at h; exact h)
       go_wp2
       refine ⟨⟨j + 1, by omega, by go_num, HM.out⟩, ?_⟩
       simp [intOf]; omega
     ·
      clear hHeld
      have fx := (HM.out.blk 0 rfl).word j (by show j < 8; exact hlt)
      rw [hY] at fx
      go_simp
      refine hK.out _ _ ((HM.out.erase 1)) (fun hHeld => ?_)
      clear hK K
      (try simp only [Act.put, sA, s0, s1])
      clear fx
      refine so 5 rfl fun K hK => ?_
      clear hHeld
      have fx := (HM.out.blk 4 rfl).word j (by rw [HH.out]; exact hlt)
      rw [hX] at fx
      go_simp
      refine hK.out _ _ ((HM.out.erase 1)) (fun hHeld => ?_)
      clear hK K
      (try simp only [Act.put, sA, s0, s1])
      clear fx
      refine tf (v := ?_) 9 rfl (Or.inl ⟨by rfl, ?_⟩) ?_
      rotate_left
      · (intro w hSw; (try dsimp only at hSw); go_simp; try with_reducible rfl)
      (try simp only [Act.put, sA, s0, s1])
      refine so 10 rfl fun K hK => ?_
      clear hHeld
      have fx := (HM.out.blk 1 rfl).word j (by rw [vbW_length]; omega)
      have zx := (HM.out.blk 1 rfl).frozen j
      go_simp
      replace HM := Lib.hid (show Mem w [blkE P 92 (ivW.map u32v), blkE (w.heap.size + 1 + 1 + 1) 86 (((vbW h j).set j X).map u32v), blkE (w.heap.size + 1 + 1) 86 ((wm).map u32v), blkE (w.heap.size + 1) 92 (zw 8), blkE w.heap.size 92 ((h).map u32v)] (wd1.setCell ⟨(w.heap.size + 1 + 1 + 1), j, none⟩ (.int .u32 ((X).toNat : Int))) from by have h := HM.out.setCell 1 rfl j (u32v (X)); rw [← List.map_set] at h; exact h)
      clear fx zx
      generalize wd1.setCell ⟨(w.heap.size + 1 + 1 + 1), j, none⟩ (.int .u32 ((X).toNat : Int)) = wy2 at HM ⊢
      refine hK.out _ _ ((HM.out.erase 1)) (fun hHeld => ?_)
      clear hK K
      (try simp only [Act.put])
      refine tf (v := ?_) 11 rfl (Or.inl ⟨by rfl, ?_⟩) ?_
      rotate_left
      · (intro w hSw; (try dsimp only at hSw); go_simp; try with_reducible rfl)
      (try simp only [Act.put, sA, s0, s1])
      refine so 12 rfl fun K hK => ?_
      clear hHeld
      have fx := (HM.out.blk 1 rfl).word (8 + j) (by rw [List.length_set, vbW_length]; omega)
      have zx := (HM.out.blk 1 rfl).frozen (8 + j)
      go_simp
      replace HM := Lib.hid (show Mem w [blkE P 92 (ivW.map u32v), blkE (w.heap.size + 1 + 1 + 1) 86 ((((vbW h j).set j X).set (8 + j) Y).map u32v), blkE (w.heap.size + 1 + 1) 86 ((wm).map u32v), blkE (w.heap.size + 1) 92 (zw 8), blkE w.heap.size 92 ((h).map u32v)] (wy2.setCell ⟨(w.heap.size + 1 + 1 + 1), (8 + j), none⟩ (.int .u32 ((Y).toNat : Int))) from by have h := HM.out.setCell 1 rfl (8 + j) (u32v (Y)); rw [← List.map_set] at h; exact h)
      clear fx zx
      generalize wy2.setCell ⟨(w.heap.size + 1 + 1 + 1), (8 + j), none⟩ (.int .u32 ((Y).toNat : Int)) = wy3 at HM ⊢
      refine hK.out _ _ ((HM.out.erase 1)) (fun hHeld => ?_)
      clear hK K
      (try simp only [Act.put])
      refine wpAnyH_done (by kernel_rfl) ?_ _
      replace HM := Lib.hid (show Mem w [blkE P 92 (ivW.map u32v), blkE (w.heap.size + 1 + 1 + 1) 86 ((vbW h (j + 1)).map u32v), blkE (w.heap.size + 1 + 1) 86 ((wm).map u32v), blkE (w.heap.size + 1) 92 (zw 8), blkE w.heap.size 92 ((h).map u32v)] wy3 from by have h := HM.out; rw [← hX, ← hY] at h; exact h)
      go_wp2
      refine ⟨⟨j + 1, by omega, by go_num, HM.out⟩, ?_⟩
      simp [intOf]; omega
    ·
     obtain rfl : j = 8 := by omega
     rw [vbW_end h HH.out] at HM
     have HA16 := Lib.hid (show (h ++ ivW).length = 16 by rw [List.length_append, HH.out]; rfl)
     have HBG := Lib.hid (show ∀ f, beginB h t f = if f then ((((h ++ ivW).set 12 (wd (h ++ ivW) 12 ^^^ UInt32.ofNat t)).set 13 (wd (h ++ ivW) 13 ^^^ UInt32.ofNat (t / 4294967296))).set 14 (~~~ (wd (h ++ ivW) 14))) else ((h ++ ivW).set 12 (wd (h ++ ivW) 12 ^^^ UInt32.ofNat t)).set 13 (wd (h ++ ivW) 13 ^^^ UInt32.ofNat (t / 4294967296)) from fun _ => rfl)
     obtain ⟨vi, hvi⟩ : ∃ v, h ++ ivW = v := ⟨_, rfl⟩
     rw [hvi] at HM HA16 HBG
     clear hvi
     have f12 := (HM.out.blk 1 rfl).word 12 (by rw [HA16.out]; decide)
     have z12 := (HM.out.blk 1 rfl).frozen 12
     obtain ⟨X, hX⟩ : ∃ x, wd vi 12 = x := ⟨_, rfl⟩
     rw [hX] at f12
     obtain ⟨T0, hT0⟩ : ∃ x, UInt32.ofNat t = x := ⟨_, rfl⟩
     have t1 : (t : Int) % 4294967296 = (T0.toNat : Int) := by rw [← hT0]; exact u32_of t
     have t2 : IntKind.u32.wrap (t : Int) = (T0.toNat : Int) := by rw [IntKind.wrap_u32]; exact t1
     obtain ⟨V, hV⟩ : ∃ x, X ^^^ T0 = x := ⟨_, rfl⟩
     have x1 : bits BinOp.xor IntKind.u32 (X.toNat : Int) (T0.toNat : Int) = (V.toNat : Int) := by rw [← hV]; exact u32_xor X T0
     rw [show ((8 : Nat) : Int) = 8 from rfl]
     go_upto_region 13 with fail
     clear f12 z12 x1 t1 t2
     replace HM := Lib.hid (show Mem w [blkE P 92 (ivW.map u32v), blkE (w.heap.size + 1 + 1 + 1) 86 ((vi.set 12 V).map u32v), blkE (w.heap.size + 1 + 1) 86 ((wm).map u32v), blkE (w.heap.size + 1) 92 (zw 8), blkE w.heap.size 92 ((h).map u32v)] (wr.setCell ⟨(w.heap.size + 1 + 1 + 1), 12, none⟩ (.int .u32 (V.toNat : Int))) from by
      have h := HM.out.setCell 1 rfl 12 (u32v V)
      rw [← List.map_set] at h
      exact h)
     generalize wr.setCell ⟨(w.heap.size + 1 + 1 + 1), 12, none⟩ (.int .u32 (V.toNat : Int)) = w4 at HM ⊢
     have f13 := (HM.out.blk 1 rfl).word 13 (by rw [List.length_set, HA16.out]; decide)
     have z13 := (HM.out.blk 1 rfl).frozen 13
     obtain ⟨Y, hY⟩ : ∃ x, wd vi 13 = x := ⟨_, rfl⟩
     rw [show wd (vi.set 12 V) 13 = wd vi 13 from by simp [wd], hY] at f13
     obtain ⟨T1, hT1⟩ : ∃ x, UInt32.ofNat (t / 4294967296) = x := ⟨_, rfl⟩
     have t0 : (t : Int) / 4294967296 = ((t / 4294967296 : Nat) : Int) := by omega
     have t1 : ((t / 4294967296 : Nat) : Int) % 4294967296 = (T1.toNat : Int) := by rw [← hT1]; exact u32_of _
     have t3 : (t : Int) / 4294967296 % 4294967296 = (T1.toNat : Int) := by rw [t0]; exact t1
     have t2 : IntKind.u32.wrap ((t : Int) / 4294967296) = (T1.toNat : Int) := by rw [t0, IntKind.wrap_u32]; exact t1
     obtain ⟨U, hU⟩ : ∃ x, Y ^^^ T1 = x := ⟨_, rfl⟩
     have x1 : bits BinOp.xor IntKind.u32 (Y.toNat : Int) (T1.toNat : Int) = (U.toNat : Int) := by rw [← hU]; exact u32_xor Y T1
     clear t0 t1
     go_upto_if 61 with fail
     clear f13 z13 x1 t2 t3
     replace HM := Lib.hid (show Mem w [blkE P 92 (ivW.map u32v), blkE (w.heap.size + 1 + 1 + 1) 86 (((vi.set 12 V).set 13 U).map u32v), blkE (w.heap.size + 1 + 1) 86 ((wm).map u32v), blkE (w.heap.size + 1) 92 (zw 8), blkE w.heap.size 92 ((h).map u32v)] (w4.setCell ⟨(w.heap.size + 1 + 1 + 1), 13, none⟩ (.int .u32 (U.toNat : Int))) from by
      have h := HM.out.setCell 1 rfl 13 (u32v U)
      rw [← List.map_set] at h
      exact h)
     generalize w4.setCell ⟨(w.heap.size + 1 + 1 + 1), 13, none⟩ (.int .u32 (U.toNat : Int)) = w5 at HM ⊢
     rw [hX, hT0, hV, hY, hT1, hU] at HBG
     clear hX hT0 hV hY hT1 hU
     go_cut [] (fun wx => Mem w [blkE P 92 (ivW.map u32v), blkE (w.heap.size + 1 + 1 + 1) 86 ((beginB h t f).map u32v), blkE (w.heap.size + 1 + 1) 86 ((wm).map u32v), blkE (w.heap.size + 1) 92 (zw 8), blkE w.heap.size 92 ((h).map u32v)] wx)
     case first =>
      have hbg := HBG.out f
      cases f with
      | false =>
       rw [if_neg (by decide)] at hbg
       have HE := Lib.hid (show Mem w [blkE P 92 (ivW.map u32v), blkE (w.heap.size + 1 + 1 + 1) 86 ((beginB h t false).map u32v), blkE (w.heap.size + 1 + 1) 86 ((wm).map u32v), blkE (w.heap.size + 1) 92 (zw 8), blkE w.heap.size 92 ((h).map u32v)] w5 from by rw [hbg]; exact HM.out)
       clear hbg HM HBG
       go_wp2
       go_meet
       exact HE.out
      | true =>
       rw [if_pos rfl] at hbg
       have f14 := (HM.out.blk 1 rfl).word 14 (by rw [List.length_set, List.length_set, HA16.out]; decide)
       have z14 := (HM.out.blk 1 rfl).frozen 14
       rw [show wd ((vi.set 12 V).set 13 U) 14 = wd vi 14 from by simp [wd]] at f14
       obtain ⟨X, hX⟩ : ∃ x, wd vi 14 = x := ⟨_, rfl⟩
       obtain ⟨N, hN⟩ : ∃ x, ~~~ X = x := ⟨_, rfl⟩
       rw [hX] at f14 hbg
       rw [hN] at hbg
       have n1 : bits BinOp.xor IntKind.u32 IntKind.u32.max (X.toNat : Int) = (N.toNat : Int) := by rw [← hN]; exact u32_not X
       clear hX hN
       have HE := Lib.hid (show Mem w [blkE P 92 (ivW.map u32v), blkE (w.heap.size + 1 + 1 + 1) 86 ((beginB h t true).map u32v), blkE (w.heap.size + 1 + 1) 86 ((wm).map u32v), blkE (w.heap.size + 1) 92 (zw 8), blkE w.heap.size 92 ((h).map u32v)] (w5.setCell ⟨(w.heap.size + 1 + 1 + 1), 14, none⟩ (.int .u32 (N.toNat : Int))) from by
        have h := HM.out.setCell 1 rfl 14 (u32v N)
        rw [← List.map_set] at h
        rw [hbg]
        exact h)
       clear hbg HM HBG
       go_wp2
       go_meet
       exact HE.out
     case rest =>
      clear HM HBG
      have HM := Lib.hid (hcut.erase 0)
      clear hcut
      have HBL := Lib.hid (beginB_length h t f HH.out)
      obtain ⟨bg, hbg⟩ : ∃ v, beginB h t f = v := ⟨_, rfl⟩
      rw [hbg] at HM HBL
      have HBE := Lib.hid hbg
      clear hbg
      go_wp2_with fail
      go_loopw [14] (fun i wr => ∃ j : Nat, j ≤ 10 ∧ i = .int .i64 (j : Int) ∧ Mem w [blkE (w.heap.size + 1 + 1 + 1) 86 ((roundsB wm j bg).map u32v), blkE (w.heap.size + 1 + 1) 86 ((wm).map u32v), blkE (w.heap.size + 1) 92 (zw 8), blkE w.heap.size 92 ((h).map u32v)] wr) (fun i _ => 10 - (intOf i).toNat)
      case atStart => exact ⟨0, by omega, rfl, HM.out⟩
      case round =>
       clear HM
       obtain ⟨r, hj, rfl, hM⟩ := hrel
       have HM := Lib.hid hM
       clear hM
       by_cases hr10 : r < 10
       ·
        have d10 : decide ((r : Int) < 10) = true := by simp; omega
        have HL0 := Lib.hid (show (roundsB wm r bg).length = 16 by rw [roundsB_length]; exact HBL.out)
        obtain ⟨v0, hv0⟩ : ∃ v, roundsB wm r bg = v := ⟨_, rfl⟩
        rw [hv0] at HM HL0
        have HV0 := Lib.hid hv0
        clear hv0
        obtain ⟨co, hco⟩ : ∃ c, (ordV r).toArray = c := ⟨_, rfl⟩
        have OC := Lib.hid (show ∀ w' : World, Calls Tryz.prog 81 #[.int .i64 (r : Int)] w' fun e w'' => e = .returned (.agg co) ∧ Below w'.heap.size w' w'' from by rw [← hco]; exact refOrder_any r hr10)
        have HCO := Lib.hid hco
        clear hco
        go_wp2_with fail
        refine (OC.out _).mono ?_
        rintro e w6 ⟨rfl, hb⟩
        replace HM := Lib.hid (HM.out.below hb)
        clear hb OC
        have HA := Lib.hid (HM.out.alloc rfl 108 #[.int .i64 0, .int .i64 0, .int .i64 0, .int .i64 0, .int .i64 0, .int .i64 0, .int .i64 0, .int .i64 0, .int .i64 0, .int .i64 0, .int .i64 0, .int .i64 0, .int .i64 0, .int .i64 0, .int .i64 0, .int .i64 0] (List.replicate 16 (.int .i64 0)) rfl)
        go_upto_region 20 with (refine wpList_store_blk rfl 108 (.tmp 15) (.tmp 71) rfl w6.heap.size (ordV r) rfl (by show Value.agg co = _; rw [HCO.out]) 108 (List.replicate 16 (.int .i64 0)) (HA.out.blk 0 rfl) (cellsO r) (by rw [ordV, List.length_map, List.length_range]; rfl) (by intro v hv; obtain ⟨_, _, rfl⟩ := List.mem_map.1 hv; rfl) ?_; intro wq0 hb3 hg3)
        replace HM := Lib.hid (show Mem w [blkE w6.heap.size 108 (ordV r), blkE (w.heap.size + 1 + 1 + 1) 86 ((v0).map u32v), blkE (w.heap.size + 1 + 1) 86 ((wm).map u32v), blkE (w.heap.size + 1) 92 (zw 8), blkE w.heap.size 92 ((h).map u32v)] wq0 from HA.out.put 0 rfl _ hg3 hb3)
        clear hb3 hg3 HA HCO
        generalize w6.heap.size = PP at HM ⊢
        go_upto_region 20 with fail
        obtain ⟨X, hX⟩ : ∃ x, wd wm (ordN r 0) = x := ⟨_, rfl⟩
        obtain ⟨Y, hY⟩ : ∃ x, wd wm (ordN r 1) = x := ⟨_, rfl⟩
        have o1 := ordN_lt r 0 hr10 (by omega)
        have o2 := ordN_lt r 1 hr10 (by omega)
        obtain ⟨p1, hp1⟩ : ∃ p, ordN r 0 = p := ⟨_, rfl⟩
        obtain ⟨p2, hp2⟩ : ∃ p, ordN r 1 = p := ⟨_, rfl⟩
        rw [hp1] at hX o1
        rw [hp2] at hY o2
        have i1 : (p1 : Int) < 16 := by omega
        have i2 : (p2 : Int) < 16 := by omega
        have FX := Lib.hid (show ∀ w' : World, Blk w' PP 108 (ordV r) → w'.cell? ⟨PP, 0, none⟩ = some (.int .i64 (p1 : Int)) from fun w' hb => by rw [hb.cell, ordV_get r 0 (by omega), hp1])
        have FY := Lib.hid (show ∀ w' : World, Blk w' PP 108 (ordV r) → w'.cell? ⟨PP, 1, none⟩ = some (.int .i64 (p2 : Int)) from fun w' hb => by rw [hb.cell, ordV_get r 1 (by omega), hp2])
        obtain ⟨cv, hcv⟩ : ∃ c, (v0.map u32v).toArray = c := ⟨_, rfl⟩
        obtain ⟨vn, hvn⟩ : ∃ v, mixB v0 0 4 8 12 X Y = v := ⟨_, rfl⟩
        have MX := Lib.hid (fun w' : World => refMix_any v0 HL0.out 0 4 8 12 (by omega) (by omega) (by omega) (by omega) X Y w')
        rw [hcv, hvn] at MX
        obtain ⟨cn, hcn⟩ : ∃ c, (vn.map u32v).toArray = c := ⟨_, rfl⟩
        rw [hcn] at MX
        have HCV := Lib.hid (And.intro hcv hcn)
        have HVN := Lib.hid (show mixB v0 0 4 8 12 (wd wm (ordN r 0)) (wd wm (ordN r 1)) = vn by rw [hp1, hp2, hX, hY, hvn])
        have HLN := Lib.hid (show vn.length = 16 by rw [← hvn, mixB_length]; exact HL0.out)
        have HX := Lib.hid hX
        have HY := Lib.hid hY
        clear hcv hvn hcn hp1 hp2 hX hY o1 o2
        refine wp_region_held_drew (S := fun W' => Mem w [blkE PP 108 (ordV r), blkE (w.heap.size + 1 + 1) 86 ((wm).map u32v), blkE (w.heap.size + 1) 92 (zw 8), blkE w.heap.size 92 ((h).map u32v)] W') (by kernel_rfl) (((HM.out.erase 1)).drew) (fun hHeld => ?_)
        replace HM := Lib.hid HM.out.drew
        generalize wq0.drew = wd1 at HM hHeld ⊢
        refine tf (v := ?_) 1 rfl (Or.inl ⟨by rfl, ?_⟩) ?_
        rotate_left
        · (intro w hSw; (try dsimp only at hSw); go_simp; try with_reducible rfl)
        (try simp only [Act.put, sA, s0, s1])
        refine tf (v := ?_) 2 rfl (Or.inl ⟨by rfl, ?_⟩) ?_
        rotate_left
        · (intro w hSw; (try dsimp only at hSw); have fx := FX.out w (Mem.blk hSw 0 rfl); go_simp; try with_reducible rfl)
        (try simp only [Act.put, sA, s0, s1])
        refine tf (v := ?_) 3 rfl (Or.inl ⟨by rfl, ?_⟩) ?_
        rotate_left
        · (intro w hSw; (try dsimp only at hSw); go_simp; try with_reducible rfl)
        (try simp only [Act.put, sA, s0, s1])
        refine tf (v := ?_) 4 rfl (Or.inl ⟨by rfl, ?_⟩) ?_
        rotate_left
        · (intro w hSw; (try dsimp only at hSw); have fx := (Mem.blk hSw 1 rfl).word p1 (by rw [HWM.out]; omega); rw [HX.out] at fx; go_simp; try with_reducible rfl)
        (try simp only [Act.put, sA, s0, s1])
        refine tf (v := ?_) 5 rfl (Or.inl ⟨by rfl, ?_⟩) ?_
        rotate_left
        · (intro w hSw; (try dsimp only at hSw); go_simp; try with_reducible rfl)
        (try simp only [Act.put, sA, s0, s1])
        refine tf (v := ?_) 6 rfl (Or.inl ⟨by rfl, ?_⟩) ?_
        rotate_left
        · (intro w hSw; (try dsimp only at hSw); have fx := FY.out w (Mem.blk hSw 0 rfl); go_simp; try with_reducible rfl)
        (try simp only [Act.put, sA, s0, s1])
        refine tf (v := ?_) 7 rfl (Or.inl ⟨by rfl, ?_⟩) ?_
        rotate_left
        · (intro w hSw; (try dsimp only at hSw); go_simp; try with_reducible rfl)
        (try simp only [Act.put, sA, s0, s1])
        refine tf (v := ?_) 8 rfl (Or.inl ⟨by rfl, ?_⟩) ?_
        rotate_left
        · (intro w hSw; (try dsimp only at hSw); have fx := (Mem.blk hSw 1 rfl).word p2 (by rw [HWM.out]; omega); rw [HY.out] at fx; go_simp; try with_reducible rfl)
        (try simp only [Act.put, sA, s0, s1])
        refine so 0 rfl fun K hK => ?_
        clear hHeld
        refine step_load_blk rfl 86 (.tmp 10) rfl (w.heap.size + 1 + 1 + 1) rfl 86 (v0.map u32v) (HM.out.blk 1 rfl) 16 28 Tryz.underlying86 (cellsW16 v0 HL0.out) ?_
        rw [HCV.out.1]
        refine hK.out _ _ ((HM.out.erase 1)) (fun hHeld => ?_)
        clear hK K
        (try simp only [Act.put, sA, s0, s1])
        refine so 9 rfl fun K hK => ?_
        clear hHeld
        go_simp
        refine (MX.out _).mono ?_
        rintro e wy2 ⟨rfl, hb⟩
        replace HM := Lib.hid (show Mem w [blkE PP 108 (ordV r), blkE (w.heap.size + 1 + 1 + 1) 86 (v0.map u32v), blkE (w.heap.size + 1 + 1) 86 ((wm).map u32v), blkE (w.heap.size + 1) 92 (zw 8), blkE w.heap.size 92 ((h).map u32v)] wy2 from HM.out.below hb)
        clear hb
        go_wp2_with fail
        refine hK.out _ _ ((HM.out.erase 1)) (fun hHeld => ?_)
        clear hK K
        (try simp only [Act.put, sA, s0, s1])
        refine so 10 rfl fun K hK => ?_
        clear hHeld
        refine step_store_blk _ rfl 86 (.tmp 10) (.tmp 81) rfl (w.heap.size + 1 + 1 + 1) (vn.map u32v) rfl (by show Value.agg cn = _; rw [HCV.out.2]) 86 (v0.map u32v) (HM.out.blk 1 rfl) (cellsW16 vn HLN.out) (by rw [List.length_map, List.length_map, HLN.out, HL0.out]) (u32v_one _) ?_
        intro wy3 hb hg
        replace HM := Lib.hid (show Mem w [blkE PP 108 (ordV r), blkE (w.heap.size + 1 + 1 + 1) 86 (vn.map u32v), blkE (w.heap.size + 1 + 1) 86 ((wm).map u32v), blkE (w.heap.size + 1) 92 (zw 8), blkE w.heap.size 92 ((h).map u32v)] wy3 from HM.out.put 1 rfl _ hg hb)
        clear hb hg
        refine hK.out _ _ ((HM.out.erase 1)) (fun hHeld => ?_)
        clear hK K
        (try simp only [Act.put])
        refine wpAnyH_done (by kernel_rfl) ?_ _
        generalize hwn : wy3 = wq1 at HM ⊢
        clear hwn
        have HL1 := Lib.hid HLN.out
        have EV1 := Lib.hid HVN.out
        clear MX HCV HVN HLN FX FY HX HY i1 i2 hHeld
        generalize hvg : vn = v1 at HM HL1 EV1 ⊢
        clear hvg
        go_upto_region 21 with fail
        obtain ⟨X, hX⟩ : ∃ x, wd wm (ordN r 2) = x := ⟨_, rfl⟩
        obtain ⟨Y, hY⟩ : ∃ x, wd wm (ordN r 3) = x := ⟨_, rfl⟩
        have o1 := ordN_lt r 2 hr10 (by omega)
        have o2 := ordN_lt r 3 hr10 (by omega)
        obtain ⟨p1, hp1⟩ : ∃ p, ordN r 2 = p := ⟨_, rfl⟩
        obtain ⟨p2, hp2⟩ : ∃ p, ordN r 3 = p := ⟨_, rfl⟩
        rw [hp1] at hX o1
        rw [hp2] at hY o2
        have i1 : (p1 : Int) < 16 := by omega
        have i2 : (p2 : Int) < 16 := by omega
        have FX := Lib.hid (show ∀ w' : World, Blk w' PP 108 (ordV r) → w'.cell? ⟨PP, 2, none⟩ = some (.int .i64 (p1 : Int)) from fun w' hb => by rw [hb.cell, ordV_get r 2 (by omega), hp1])
        have FY := Lib.hid (show ∀ w' : World, Blk w' PP 108 (ordV r) → w'.cell? ⟨PP, 3, none⟩ = some (.int .i64 (p2 : Int)) from fun w' hb => by rw [hb.cell, ordV_get r 3 (by omega), hp2])
        obtain ⟨cv, hcv⟩ : ∃ c, (v1.map u32v).toArray = c := ⟨_, rfl⟩
        obtain ⟨vn, hvn⟩ : ∃ v, mixB v1 1 5 9 13 X Y = v := ⟨_, rfl⟩
        have MX := Lib.hid (fun w' : World => refMix_any v1 HL1.out 1 5 9 13 (by omega) (by omega) (by omega) (by omega) X Y w')
        rw [hcv, hvn] at MX
        obtain ⟨cn, hcn⟩ : ∃ c, (vn.map u32v).toArray = c := ⟨_, rfl⟩
        rw [hcn] at MX
        have HCV := Lib.hid (And.intro hcv hcn)
        have HVN := Lib.hid (show mixB v1 1 5 9 13 (wd wm (ordN r 2)) (wd wm (ordN r 3)) = vn by rw [hp1, hp2, hX, hY, hvn])
        have HLN := Lib.hid (show vn.length = 16 by rw [← hvn, mixB_length]; exact HL1.out)
        have HX := Lib.hid hX
        have HY := Lib.hid hY
        clear hcv hvn hcn hp1 hp2 hX hY o1 o2
        refine wp_region_held_drew (S := fun W' => Mem w [blkE PP 108 (ordV r), blkE (w.heap.size + 1 + 1) 86 ((wm).map u32v), blkE (w.heap.size + 1) 92 (zw 8), blkE w.heap.size 92 ((h).map u32v)] W') (by kernel_rfl) (((HM.out.erase 1)).drew) (fun hHeld => ?_)
        replace HM := Lib.hid HM.out.drew
        generalize wq1.drew = wd1 at HM hHeld ⊢
        refine tf (v := ?_) 1 rfl (Or.inl ⟨by rfl, ?_⟩) ?_
        rotate_left
        · (intro w hSw; (try dsimp only at hSw); go_simp; try with_reducible rfl)
        (try simp only [Act.put, sA, s0, s1])
        refine tf (v := ?_) 2 rfl (Or.inl ⟨by rfl, ?_⟩) ?_
        rotate_left
        · (intro w hSw; (try dsimp only at hSw); have fx := FX.out w (Mem.blk hSw 0 rfl); go_simp; try with_reducible rfl)
        (try simp only [Act.put, sA, s0, s1])
        refine tf (v := ?_) 3 rfl (Or.inl ⟨by rfl, ?_⟩) ?_
        rotate_left
        · (intro w hSw; (try dsimp only at hSw); go_simp; try with_reducible rfl)
        (try simp only [Act.put, sA, s0, s1])
        refine tf (v := ?_) 4 rfl (Or.inl ⟨by rfl, ?_⟩) ?_
        rotate_left
        · (intro w hSw; (try dsimp only at hSw); have fx := (Mem.blk hSw 1 rfl).word p1 (by rw [HWM.out]; omega); rw [HX.out] at fx; go_simp; try with_reducible rfl)
        (try simp only [Act.put, sA, s0, s1])
        refine tf (v := ?_) 5 rfl (Or.inl ⟨by rfl, ?_⟩) ?_
        rotate_left
        · (intro w hSw; (try dsimp only at hSw); go_simp; try with_reducible rfl)
        (try simp only [Act.put, sA, s0, s1])
        refine tf (v := ?_) 6 rfl (Or.inl ⟨by rfl, ?_⟩) ?_
        rotate_left
        · (intro w hSw; (try dsimp only at hSw); have fx := FY.out w (Mem.blk hSw 0 rfl); go_simp; try with_reducible rfl)
        (try simp only [Act.put, sA, s0, s1])
        refine tf (v := ?_) 7 rfl (Or.inl ⟨by rfl, ?_⟩) ?_
        rotate_left
        · (intro w hSw; (try dsimp only at hSw); go_simp; try with_reducible rfl)
        (try simp only [Act.put, sA, s0, s1])
        refine tf (v := ?_) 8 rfl (Or.inl ⟨by rfl, ?_⟩) ?_
        rotate_left
        · (intro w hSw; (try dsimp only at hSw); have fx := (Mem.blk hSw 1 rfl).word p2 (by rw [HWM.out]; omega); rw [HY.out] at fx; go_simp; try with_reducible rfl)
        (try simp only [Act.put, sA, s0, s1])
        refine so 0 rfl fun K hK => ?_
        clear hHeld
        refine step_load_blk rfl 86 (.tmp 10) rfl (w.heap.size + 1 + 1 + 1) rfl 86 (v1.map u32v) (HM.out.blk 1 rfl) 16 28 Tryz.underlying86 (cellsW16 v1 HL1.out) ?_
        rw [HCV.out.1]
        refine hK.out _ _ ((HM.out.erase 1)) (fun hHeld => ?_)
        clear hK K
        (try simp only [Act.put, sA, s0, s1])
        refine so 9 rfl fun K hK => ?_
        clear hHeld
        go_simp
        refine (MX.out _).mono ?_
        rintro e wy2 ⟨rfl, hb⟩
        replace HM := Lib.hid (show Mem w [blkE PP 108 (ordV r), blkE (w.heap.size + 1 + 1 + 1) 86 (v1.map u32v), blkE (w.heap.size + 1 + 1) 86 ((wm).map u32v), blkE (w.heap.size + 1) 92 (zw 8), blkE w.heap.size 92 ((h).map u32v)] wy2 from HM.out.below hb)
        clear hb
        go_wp2_with fail
        refine hK.out _ _ ((HM.out.erase 1)) (fun hHeld => ?_)
        clear hK K
        (try simp only [Act.put, sA, s0, s1])
        refine so 10 rfl fun K hK => ?_
        clear hHeld
        refine step_store_blk _ rfl 86 (.tmp 10) (.tmp 91) rfl (w.heap.size + 1 + 1 + 1) (vn.map u32v) rfl (by show Value.agg cn = _; rw [HCV.out.2]) 86 (v1.map u32v) (HM.out.blk 1 rfl) (cellsW16 vn HLN.out) (by rw [List.length_map, List.length_map, HLN.out, HL1.out]) (u32v_one _) ?_
        intro wy3 hb hg
        replace HM := Lib.hid (show Mem w [blkE PP 108 (ordV r), blkE (w.heap.size + 1 + 1 + 1) 86 (vn.map u32v), blkE (w.heap.size + 1 + 1) 86 ((wm).map u32v), blkE (w.heap.size + 1) 92 (zw 8), blkE w.heap.size 92 ((h).map u32v)] wy3 from HM.out.put 1 rfl _ hg hb)
        clear hb hg
        refine hK.out _ _ ((HM.out.erase 1)) (fun hHeld => ?_)
        clear hK K
        (try simp only [Act.put])
        refine wpAnyH_done (by kernel_rfl) ?_ _
        generalize hwn : wy3 = wq2 at HM ⊢
        clear hwn
        have HL2 := Lib.hid HLN.out
        have EV2 := Lib.hid HVN.out
        clear MX HCV HVN HLN FX FY HX HY i1 i2 hHeld
        generalize hvg : vn = v2 at HM HL2 EV2 ⊢
        clear hvg
        go_upto_region 22 with fail
        obtain ⟨X, hX⟩ : ∃ x, wd wm (ordN r 4) = x := ⟨_, rfl⟩
        obtain ⟨Y, hY⟩ : ∃ x, wd wm (ordN r 5) = x := ⟨_, rfl⟩
        have o1 := ordN_lt r 4 hr10 (by omega)
        have o2 := ordN_lt r 5 hr10 (by omega)
        obtain ⟨p1, hp1⟩ : ∃ p, ordN r 4 = p := ⟨_, rfl⟩
        obtain ⟨p2, hp2⟩ : ∃ p, ordN r 5 = p := ⟨_, rfl⟩
        rw [hp1] at hX o1
        rw [hp2] at hY o2
        have i1 : (p1 : Int) < 16 := by omega
        have i2 : (p2 : Int) < 16 := by omega
        have FX := Lib.hid (show ∀ w' : World, Blk w' PP 108 (ordV r) → w'.cell? ⟨PP, 4, none⟩ = some (.int .i64 (p1 : Int)) from fun w' hb => by rw [hb.cell, ordV_get r 4 (by omega), hp1])
        have FY := Lib.hid (show ∀ w' : World, Blk w' PP 108 (ordV r) → w'.cell? ⟨PP, 5, none⟩ = some (.int .i64 (p2 : Int)) from fun w' hb => by rw [hb.cell, ordV_get r 5 (by omega), hp2])
        obtain ⟨cv, hcv⟩ : ∃ c, (v2.map u32v).toArray = c := ⟨_, rfl⟩
        obtain ⟨vn, hvn⟩ : ∃ v, mixB v2 2 6 10 14 X Y = v := ⟨_, rfl⟩
        have MX := Lib.hid (fun w' : World => refMix_any v2 HL2.out 2 6 10 14 (by omega) (by omega) (by omega) (by omega) X Y w')
        rw [hcv, hvn] at MX
        obtain ⟨cn, hcn⟩ : ∃ c, (vn.map u32v).toArray = c := ⟨_, rfl⟩
        rw [hcn] at MX
        have HCV := Lib.hid (And.intro hcv hcn)
        have HVN := Lib.hid (show mixB v2 2 6 10 14 (wd wm (ordN r 4)) (wd wm (ordN r 5)) = vn by rw [hp1, hp2, hX, hY, hvn])
        have HLN := Lib.hid (show vn.length = 16 by rw [← hvn, mixB_length]; exact HL2.out)
        have HX := Lib.hid hX
        have HY := Lib.hid hY
        clear hcv hvn hcn hp1 hp2 hX hY o1 o2
        refine wp_region_held_drew (S := fun W' => Mem w [blkE PP 108 (ordV r), blkE (w.heap.size + 1 + 1) 86 ((wm).map u32v), blkE (w.heap.size + 1) 92 (zw 8), blkE w.heap.size 92 ((h).map u32v)] W') (by kernel_rfl) (((HM.out.erase 1)).drew) (fun hHeld => ?_)
        replace HM := Lib.hid HM.out.drew
        generalize wq2.drew = wd1 at HM hHeld ⊢
        refine tf (v := ?_) 1 rfl (Or.inl ⟨by rfl, ?_⟩) ?_
        rotate_left
        · (intro w hSw; (try dsimp only at hSw); go_simp; try with_reducible rfl)
        (try simp only [Act.put, sA, s0, s1])
        refine tf (v := ?_) 2 rfl (Or.inl ⟨by rfl, ?_⟩) ?_
        rotate_left
        · (intro w hSw; (try dsimp only at hSw); have fx := FX.out w (Mem.blk hSw 0 rfl); go_simp; try with_reducible rfl)
        (try simp only [Act.put, sA, s0, s1])
        refine tf (v := ?_) 3 rfl (Or.inl ⟨by rfl, ?_⟩) ?_
        rotate_left
        · (intro w hSw; (try dsimp only at hSw); go_simp; try with_reducible rfl)
        (try simp only [Act.put, sA, s0, s1])
        refine tf (v := ?_) 4 rfl (Or.inl ⟨by rfl, ?_⟩) ?_
        rotate_left
        · (intro w hSw; (try dsimp only at hSw); have fx := (Mem.blk hSw 1 rfl).word p1 (by rw [HWM.out]; omega); rw [HX.out] at fx; go_simp; try with_reducible rfl)
        (try simp only [Act.put, sA, s0, s1])
        refine tf (v := ?_) 5 rfl (Or.inl ⟨by rfl, ?_⟩) ?_
        rotate_left
        · (intro w hSw; (try dsimp only at hSw); go_simp; try with_reducible rfl)
        (try simp only [Act.put, sA, s0, s1])
        refine tf (v := ?_) 6 rfl (Or.inl ⟨by rfl, ?_⟩) ?_
        rotate_left
        · (intro w hSw; (try dsimp only at hSw); have fx := FY.out w (Mem.blk hSw 0 rfl); go_simp; try with_reducible rfl)
        (try simp only [Act.put, sA, s0, s1])
        refine tf (v := ?_) 7 rfl (Or.inl ⟨by rfl, ?_⟩) ?_
        rotate_left
        · (intro w hSw; (try dsimp only at hSw); go_simp; try with_reducible rfl)
        (try simp only [Act.put, sA, s0, s1])
        refine tf (v := ?_) 8 rfl (Or.inl ⟨by rfl, ?_⟩) ?_
        rotate_left
        · (intro w hSw; (try dsimp only at hSw); have fx := (Mem.blk hSw 1 rfl).word p2 (by rw [HWM.out]; omega); rw [HY.out] at fx; go_simp; try with_reducible rfl)
        (try simp only [Act.put, sA, s0, s1])
        refine so 0 rfl fun K hK => ?_
        clear hHeld
        refine step_load_blk rfl 86 (.tmp 10) rfl (w.heap.size + 1 + 1 + 1) rfl 86 (v2.map u32v) (HM.out.blk 1 rfl) 16 28 Tryz.underlying86 (cellsW16 v2 HL2.out) ?_
        rw [HCV.out.1]
        refine hK.out _ _ ((HM.out.erase 1)) (fun hHeld => ?_)
        clear hK K
        (try simp only [Act.put, sA, s0, s1])
        refine so 9 rfl fun K hK => ?_
        clear hHeld
        go_simp
        refine (MX.out _).mono ?_
        rintro e wy2 ⟨rfl, hb⟩
        replace HM := Lib.hid (show Mem w [blkE PP 108 (ordV r), blkE (w.heap.size + 1 + 1 + 1) 86 (v2.map u32v), blkE (w.heap.size + 1 + 1) 86 ((wm).map u32v), blkE (w.heap.size + 1) 92 (zw 8), blkE w.heap.size 92 ((h).map u32v)] wy2 from HM.out.below hb)
        clear hb
        go_wp2_with fail
        refine hK.out _ _ ((HM.out.erase 1)) (fun hHeld => ?_)
        clear hK K
        (try simp only [Act.put, sA, s0, s1])
        refine so 10 rfl fun K hK => ?_
        clear hHeld
        refine step_store_blk _ rfl 86 (.tmp 10) (.tmp 101) rfl (w.heap.size + 1 + 1 + 1) (vn.map u32v) rfl (by show Value.agg cn = _; rw [HCV.out.2]) 86 (v2.map u32v) (HM.out.blk 1 rfl) (cellsW16 vn HLN.out) (by rw [List.length_map, List.length_map, HLN.out, HL2.out]) (u32v_one _) ?_
        intro wy3 hb hg
        replace HM := Lib.hid (show Mem w [blkE PP 108 (ordV r), blkE (w.heap.size + 1 + 1 + 1) 86 (vn.map u32v), blkE (w.heap.size + 1 + 1) 86 ((wm).map u32v), blkE (w.heap.size + 1) 92 (zw 8), blkE w.heap.size 92 ((h).map u32v)] wy3 from HM.out.put 1 rfl _ hg hb)
        clear hb hg
        refine hK.out _ _ ((HM.out.erase 1)) (fun hHeld => ?_)
        clear hK K
        (try simp only [Act.put])
        refine wpAnyH_done (by kernel_rfl) ?_ _
        generalize hwn : wy3 = wq3 at HM ⊢
        clear hwn
        have HL3 := Lib.hid HLN.out
        have EV3 := Lib.hid HVN.out
        clear MX HCV HVN HLN FX FY HX HY i1 i2 hHeld
        generalize hvg : vn = v3 at HM HL3 EV3 ⊢
        clear hvg
        go_upto_region 23 with fail
        obtain ⟨X, hX⟩ : ∃ x, wd wm (ordN r 6) = x := ⟨_, rfl⟩
        obtain ⟨Y, hY⟩ : ∃ x, wd wm (ordN r 7) = x := ⟨_, rfl⟩
        have o1 := ordN_lt r 6 hr10 (by omega)
        have o2 := ordN_lt r 7 hr10 (by omega)
        obtain ⟨p1, hp1⟩ : ∃ p, ordN r 6 = p := ⟨_, rfl⟩
        obtain ⟨p2, hp2⟩ : ∃ p, ordN r 7 = p := ⟨_, rfl⟩
        rw [hp1] at hX o1
        rw [hp2] at hY o2
        have i1 : (p1 : Int) < 16 := by omega
        have i2 : (p2 : Int) < 16 := by omega
        have FX := Lib.hid (show ∀ w' : World, Blk w' PP 108 (ordV r) → w'.cell? ⟨PP, 6, none⟩ = some (.int .i64 (p1 : Int)) from fun w' hb => by rw [hb.cell, ordV_get r 6 (by omega), hp1])
        have FY := Lib.hid (show ∀ w' : World, Blk w' PP 108 (ordV r) → w'.cell? ⟨PP, 7, none⟩ = some (.int .i64 (p2 : Int)) from fun w' hb => by rw [hb.cell, ordV_get r 7 (by omega), hp2])
        obtain ⟨cv, hcv⟩ : ∃ c, (v3.map u32v).toArray = c := ⟨_, rfl⟩
        obtain ⟨vn, hvn⟩ : ∃ v, mixB v3 3 7 11 15 X Y = v := ⟨_, rfl⟩
        have MX := Lib.hid (fun w' : World => refMix_any v3 HL3.out 3 7 11 15 (by omega) (by omega) (by omega) (by omega) X Y w')
        rw [hcv, hvn] at MX
        obtain ⟨cn, hcn⟩ : ∃ c, (vn.map u32v).toArray = c := ⟨_, rfl⟩
        rw [hcn] at MX
        have HCV := Lib.hid (And.intro hcv hcn)
        have HVN := Lib.hid (show mixB v3 3 7 11 15 (wd wm (ordN r 6)) (wd wm (ordN r 7)) = vn by rw [hp1, hp2, hX, hY, hvn])
        have HLN := Lib.hid (show vn.length = 16 by rw [← hvn, mixB_length]; exact HL3.out)
        have HX := Lib.hid hX
        have HY := Lib.hid hY
        clear hcv hvn hcn hp1 hp2 hX hY o1 o2
        refine wp_region_held_drew (S := fun W' => Mem w [blkE PP 108 (ordV r), blkE (w.heap.size + 1 + 1) 86 ((wm).map u32v), blkE (w.heap.size + 1) 92 (zw 8), blkE w.heap.size 92 ((h).map u32v)] W') (by kernel_rfl) (((HM.out.erase 1)).drew) (fun hHeld => ?_)
        replace HM := Lib.hid HM.out.drew
        generalize wq3.drew = wd1 at HM hHeld ⊢
        refine tf (v := ?_) 1 rfl (Or.inl ⟨by rfl, ?_⟩) ?_
        rotate_left
        · (intro w hSw; (try dsimp only at hSw); go_simp; try with_reducible rfl)
        (try simp only [Act.put, sA, s0, s1])
        refine tf (v := ?_) 2 rfl (Or.inl ⟨by rfl, ?_⟩) ?_
        rotate_left
        · (intro w hSw; (try dsimp only at hSw); have fx := FX.out w (Mem.blk hSw 0 rfl); go_simp; try with_reducible rfl)
        (try simp only [Act.put, sA, s0, s1])
        refine tf (v := ?_) 3 rfl (Or.inl ⟨by rfl, ?_⟩) ?_
        rotate_left
        · (intro w hSw; (try dsimp only at hSw); go_simp; try with_reducible rfl)
        (try simp only [Act.put, sA, s0, s1])
        refine tf (v := ?_) 4 rfl (Or.inl ⟨by rfl, ?_⟩) ?_
        rotate_left
        · (intro w hSw; (try dsimp only at hSw); have fx := (Mem.blk hSw 1 rfl).word p1 (by rw [HWM.out]; omega); rw [HX.out] at fx; go_simp; try with_reducible rfl)
        (try simp only [Act.put, sA, s0, s1])
        refine tf (v := ?_) 5 rfl (Or.inl ⟨by rfl, ?_⟩) ?_
        rotate_left
        · (intro w hSw; (try dsimp only at hSw); go_simp; try with_reducible rfl)
        (try simp only [Act.put, sA, s0, s1])
        refine tf (v := ?_) 6 rfl (Or.inl ⟨by rfl, ?_⟩) ?_
        rotate_left
        · (intro w hSw; (try dsimp only at hSw); have fx := FY.out w (Mem.blk hSw 0 rfl); go_simp; try with_reducible rfl)
        (try simp only [Act.put, sA, s0, s1])
        refine tf (v := ?_) 7 rfl (Or.inl ⟨by rfl, ?_⟩) ?_
        rotate_left
        · (intro w hSw; (try dsimp only at hSw); go_simp; try with_reducible rfl)
        (try simp only [Act.put, sA, s0, s1])
        refine tf (v := ?_) 8 rfl (Or.inl ⟨by rfl, ?_⟩) ?_
        rotate_left
        · (intro w hSw; (try dsimp only at hSw); have fx := (Mem.blk hSw 1 rfl).word p2 (by rw [HWM.out]; omega); rw [HY.out] at fx; go_simp; try with_reducible rfl)
        (try simp only [Act.put, sA, s0, s1])
        refine so 0 rfl fun K hK => ?_
        clear hHeld
        refine step_load_blk rfl 86 (.tmp 10) rfl (w.heap.size + 1 + 1 + 1) rfl 86 (v3.map u32v) (HM.out.blk 1 rfl) 16 28 Tryz.underlying86 (cellsW16 v3 HL3.out) ?_
        rw [HCV.out.1]
        refine hK.out _ _ ((HM.out.erase 1)) (fun hHeld => ?_)
        clear hK K
        (try simp only [Act.put, sA, s0, s1])
        refine so 9 rfl fun K hK => ?_
        clear hHeld
        go_simp
        refine (MX.out _).mono ?_
        rintro e wy2 ⟨rfl, hb⟩
        replace HM := Lib.hid (show Mem w [blkE PP 108 (ordV r), blkE (w.heap.size + 1 + 1 + 1) 86 (v3.map u32v), blkE (w.heap.size + 1 + 1) 86 ((wm).map u32v), blkE (w.heap.size + 1) 92 (zw 8), blkE w.heap.size 92 ((h).map u32v)] wy2 from HM.out.below hb)
        clear hb
        go_wp2_with fail
        refine hK.out _ _ ((HM.out.erase 1)) (fun hHeld => ?_)
        clear hK K
        (try simp only [Act.put, sA, s0, s1])
        refine so 10 rfl fun K hK => ?_
        clear hHeld
        refine step_store_blk _ rfl 86 (.tmp 10) (.tmp 111) rfl (w.heap.size + 1 + 1 + 1) (vn.map u32v) rfl (by show Value.agg cn = _; rw [HCV.out.2]) 86 (v3.map u32v) (HM.out.blk 1 rfl) (cellsW16 vn HLN.out) (by rw [List.length_map, List.length_map, HLN.out, HL3.out]) (u32v_one _) ?_
        intro wy3 hb hg
        replace HM := Lib.hid (show Mem w [blkE PP 108 (ordV r), blkE (w.heap.size + 1 + 1 + 1) 86 (vn.map u32v), blkE (w.heap.size + 1 + 1) 86 ((wm).map u32v), blkE (w.heap.size + 1) 92 (zw 8), blkE w.heap.size 92 ((h).map u32v)] wy3 from HM.out.put 1 rfl _ hg hb)
        clear hb hg
        refine hK.out _ _ ((HM.out.erase 1)) (fun hHeld => ?_)
        clear hK K
        (try simp only [Act.put])
        refine wpAnyH_done (by kernel_rfl) ?_ _
        generalize hwn : wy3 = wq4 at HM ⊢
        clear hwn
        have HL4 := Lib.hid HLN.out
        have EV4 := Lib.hid HVN.out
        clear MX HCV HVN HLN FX FY HX HY i1 i2 hHeld
        generalize hvg : vn = v4 at HM HL4 EV4 ⊢
        clear hvg
        go_upto_region 24 with fail
        obtain ⟨X, hX⟩ : ∃ x, wd wm (ordN r 8) = x := ⟨_, rfl⟩
        obtain ⟨Y, hY⟩ : ∃ x, wd wm (ordN r 9) = x := ⟨_, rfl⟩
        have o1 := ordN_lt r 8 hr10 (by omega)
        have o2 := ordN_lt r 9 hr10 (by omega)
        obtain ⟨p1, hp1⟩ : ∃ p, ordN r 8 = p := ⟨_, rfl⟩
        obtain ⟨p2, hp2⟩ : ∃ p, ordN r 9 = p := ⟨_, rfl⟩
        rw [hp1] at hX o1
        rw [hp2] at hY o2
        have i1 : (p1 : Int) < 16 := by omega
        have i2 : (p2 : Int) < 16 := by omega
        have FX := Lib.hid (show ∀ w' : World, Blk w' PP 108 (ordV r) → w'.cell? ⟨PP, 8, none⟩ = some (.int .i64 (p1 : Int)) from fun w' hb => by rw [hb.cell, ordV_get r 8 (by omega), hp1])
        have FY := Lib.hid (show ∀ w' : World, Blk w' PP 108 (ordV r) → w'.cell? ⟨PP, 9, none⟩ = some (.int .i64 (p2 : Int)) from fun w' hb => by rw [hb.cell, ordV_get r 9 (by omega), hp2])
        obtain ⟨cv, hcv⟩ : ∃ c, (v4.map u32v).toArray = c := ⟨_, rfl⟩
        obtain ⟨vn, hvn⟩ : ∃ v, mixB v4 0 5 10 15 X Y = v := ⟨_, rfl⟩
        have MX := Lib.hid (fun w' : World => refMix_any v4 HL4.out 0 5 10 15 (by omega) (by omega) (by omega) (by omega) X Y w')
        rw [hcv, hvn] at MX
        obtain ⟨cn, hcn⟩ : ∃ c, (vn.map u32v).toArray = c := ⟨_, rfl⟩
        rw [hcn] at MX
        have HCV := Lib.hid (And.intro hcv hcn)
        have HVN := Lib.hid (show mixB v4 0 5 10 15 (wd wm (ordN r 8)) (wd wm (ordN r 9)) = vn by rw [hp1, hp2, hX, hY, hvn])
        have HLN := Lib.hid (show vn.length = 16 by rw [← hvn, mixB_length]; exact HL4.out)
        have HX := Lib.hid hX
        have HY := Lib.hid hY
        clear hcv hvn hcn hp1 hp2 hX hY o1 o2
        refine wp_region_held_drew (S := fun W' => Mem w [blkE PP 108 (ordV r), blkE (w.heap.size + 1 + 1) 86 ((wm).map u32v), blkE (w.heap.size + 1) 92 (zw 8), blkE w.heap.size 92 ((h).map u32v)] W') (by kernel_rfl) (((HM.out.erase 1)).drew) (fun hHeld => ?_)
        replace HM := Lib.hid HM.out.drew
        generalize wq4.drew = wd1 at HM hHeld ⊢
        refine tf (v := ?_) 1 rfl (Or.inl ⟨by rfl, ?_⟩) ?_
        rotate_left
        · (intro w hSw; (try dsimp only at hSw); go_simp; try with_reducible rfl)
        (try simp only [Act.put, sA, s0, s1])
        refine tf (v := ?_) 2 rfl (Or.inl ⟨by rfl, ?_⟩) ?_
        rotate_left
        · (intro w hSw; (try dsimp only at hSw); have fx := FX.out w (Mem.blk hSw 0 rfl); go_simp; try with_reducible rfl)
        (try simp only [Act.put, sA, s0, s1])
        refine tf (v := ?_) 3 rfl (Or.inl ⟨by rfl, ?_⟩) ?_
        rotate_left
        · (intro w hSw; (try dsimp only at hSw); go_simp; try with_reducible rfl)
        (try simp only [Act.put, sA, s0, s1])
        refine tf (v := ?_) 4 rfl (Or.inl ⟨by rfl, ?_⟩) ?_
        rotate_left
        · (intro w hSw; (try dsimp only at hSw); have fx := (Mem.blk hSw 1 rfl).word p1 (by rw [HWM.out]; omega); rw [HX.out] at fx; go_simp; try with_reducible rfl)
        (try simp only [Act.put, sA, s0, s1])
        refine tf (v := ?_) 5 rfl (Or.inl ⟨by rfl, ?_⟩) ?_
        rotate_left
        · (intro w hSw; (try dsimp only at hSw); go_simp; try with_reducible rfl)
        (try simp only [Act.put, sA, s0, s1])
        refine tf (v := ?_) 6 rfl (Or.inl ⟨by rfl, ?_⟩) ?_
        rotate_left
        · (intro w hSw; (try dsimp only at hSw); have fx := FY.out w (Mem.blk hSw 0 rfl); go_simp; try with_reducible rfl)
        (try simp only [Act.put, sA, s0, s1])
        refine tf (v := ?_) 7 rfl (Or.inl ⟨by rfl, ?_⟩) ?_
        rotate_left
        · (intro w hSw; (try dsimp only at hSw); go_simp; try with_reducible rfl)
        (try simp only [Act.put, sA, s0, s1])
        refine tf (v := ?_) 8 rfl (Or.inl ⟨by rfl, ?_⟩) ?_
        rotate_left
        · (intro w hSw; (try dsimp only at hSw); have fx := (Mem.blk hSw 1 rfl).word p2 (by rw [HWM.out]; omega); rw [HY.out] at fx; go_simp; try with_reducible rfl)
        (try simp only [Act.put, sA, s0, s1])
        refine so 0 rfl fun K hK => ?_
        clear hHeld
        refine step_load_blk rfl 86 (.tmp 10) rfl (w.heap.size + 1 + 1 + 1) rfl 86 (v4.map u32v) (HM.out.blk 1 rfl) 16 28 Tryz.underlying86 (cellsW16 v4 HL4.out) ?_
        rw [HCV.out.1]
        refine hK.out _ _ ((HM.out.erase 1)) (fun hHeld => ?_)
        clear hK K
        (try simp only [Act.put, sA, s0, s1])
        refine so 9 rfl fun K hK => ?_
        clear hHeld
        go_simp
        refine (MX.out _).mono ?_
        rintro e wy2 ⟨rfl, hb⟩
        replace HM := Lib.hid (show Mem w [blkE PP 108 (ordV r), blkE (w.heap.size + 1 + 1 + 1) 86 (v4.map u32v), blkE (w.heap.size + 1 + 1) 86 ((wm).map u32v), blkE (w.heap.size + 1) 92 (zw 8), blkE w.heap.size 92 ((h).map u32v)] wy2 from HM.out.below hb)
        clear hb
        go_wp2_with fail
        refine hK.out _ _ ((HM.out.erase 1)) (fun hHeld => ?_)
        clear hK K
        (try simp only [Act.put, sA, s0, s1])
        refine so 10 rfl fun K hK => ?_
        clear hHeld
        refine step_store_blk _ rfl 86 (.tmp 10) (.tmp 121) rfl (w.heap.size + 1 + 1 + 1) (vn.map u32v) rfl (by show Value.agg cn = _; rw [HCV.out.2]) 86 (v4.map u32v) (HM.out.blk 1 rfl) (cellsW16 vn HLN.out) (by rw [List.length_map, List.length_map, HLN.out, HL4.out]) (u32v_one _) ?_
        intro wy3 hb hg
        replace HM := Lib.hid (show Mem w [blkE PP 108 (ordV r), blkE (w.heap.size + 1 + 1 + 1) 86 (vn.map u32v), blkE (w.heap.size + 1 + 1) 86 ((wm).map u32v), blkE (w.heap.size + 1) 92 (zw 8), blkE w.heap.size 92 ((h).map u32v)] wy3 from HM.out.put 1 rfl _ hg hb)
        clear hb hg
        refine hK.out _ _ ((HM.out.erase 1)) (fun hHeld => ?_)
        clear hK K
        (try simp only [Act.put])
        refine wpAnyH_done (by kernel_rfl) ?_ _
        generalize hwn : wy3 = wq5 at HM ⊢
        clear hwn
        have HL5 := Lib.hid HLN.out
        have EV5 := Lib.hid HVN.out
        clear MX HCV HVN HLN FX FY HX HY i1 i2 hHeld
        generalize hvg : vn = v5 at HM HL5 EV5 ⊢
        clear hvg
        go_upto_region 25 with fail
        obtain ⟨X, hX⟩ : ∃ x, wd wm (ordN r 10) = x := ⟨_, rfl⟩
        obtain ⟨Y, hY⟩ : ∃ x, wd wm (ordN r 11) = x := ⟨_, rfl⟩
        have o1 := ordN_lt r 10 hr10 (by omega)
        have o2 := ordN_lt r 11 hr10 (by omega)
        obtain ⟨p1, hp1⟩ : ∃ p, ordN r 10 = p := ⟨_, rfl⟩
        obtain ⟨p2, hp2⟩ : ∃ p, ordN r 11 = p := ⟨_, rfl⟩
        rw [hp1] at hX o1
        rw [hp2] at hY o2
        have i1 : (p1 : Int) < 16 := by omega
        have i2 : (p2 : Int) < 16 := by omega
        have FX := Lib.hid (show ∀ w' : World, Blk w' PP 108 (ordV r) → w'.cell? ⟨PP, 10, none⟩ = some (.int .i64 (p1 : Int)) from fun w' hb => by rw [hb.cell, ordV_get r 10 (by omega), hp1])
        have FY := Lib.hid (show ∀ w' : World, Blk w' PP 108 (ordV r) → w'.cell? ⟨PP, 11, none⟩ = some (.int .i64 (p2 : Int)) from fun w' hb => by rw [hb.cell, ordV_get r 11 (by omega), hp2])
        obtain ⟨cv, hcv⟩ : ∃ c, (v5.map u32v).toArray = c := ⟨_, rfl⟩
        obtain ⟨vn, hvn⟩ : ∃ v, mixB v5 1 6 11 12 X Y = v := ⟨_, rfl⟩
        have MX := Lib.hid (fun w' : World => refMix_any v5 HL5.out 1 6 11 12 (by omega) (by omega) (by omega) (by omega) X Y w')
        rw [hcv, hvn] at MX
        obtain ⟨cn, hcn⟩ : ∃ c, (vn.map u32v).toArray = c := ⟨_, rfl⟩
        rw [hcn] at MX
        have HCV := Lib.hid (And.intro hcv hcn)
        have HVN := Lib.hid (show mixB v5 1 6 11 12 (wd wm (ordN r 10)) (wd wm (ordN r 11)) = vn by rw [hp1, hp2, hX, hY, hvn])
        have HLN := Lib.hid (show vn.length = 16 by rw [← hvn, mixB_length]; exact HL5.out)
        have HX := Lib.hid hX
        have HY := Lib.hid hY
        clear hcv hvn hcn hp1 hp2 hX hY o1 o2
        refine wp_region_held_drew (S := fun W' => Mem w [blkE PP 108 (ordV r), blkE (w.heap.size + 1 + 1) 86 ((wm).map u32v), blkE (w.heap.size + 1) 92 (zw 8), blkE w.heap.size 92 ((h).map u32v)] W') (by kernel_rfl) (((HM.out.erase 1)).drew) (fun hHeld => ?_)
        replace HM := Lib.hid HM.out.drew
        generalize wq5.drew = wd1 at HM hHeld ⊢
        refine tf (v := ?_) 1 rfl (Or.inl ⟨by rfl, ?_⟩) ?_
        rotate_left
        · (intro w hSw; (try dsimp only at hSw); go_simp; try with_reducible rfl)
        (try simp only [Act.put, sA, s0, s1])
        refine tf (v := ?_) 2 rfl (Or.inl ⟨by rfl, ?_⟩) ?_
        rotate_left
        · (intro w hSw; (try dsimp only at hSw); have fx := FX.out w (Mem.blk hSw 0 rfl); go_simp; try with_reducible rfl)
        (try simp only [Act.put, sA, s0, s1])
        refine tf (v := ?_) 3 rfl (Or.inl ⟨by rfl, ?_⟩) ?_
        rotate_left
        · (intro w hSw; (try dsimp only at hSw); go_simp; try with_reducible rfl)
        (try simp only [Act.put, sA, s0, s1])
        refine tf (v := ?_) 4 rfl (Or.inl ⟨by rfl, ?_⟩) ?_
        rotate_left
        · (intro w hSw; (try dsimp only at hSw); have fx := (Mem.blk hSw 1 rfl).word p1 (by rw [HWM.out]; omega); rw [HX.out] at fx; go_simp; try with_reducible rfl)
        (try simp only [Act.put, sA, s0, s1])
        refine tf (v := ?_) 5 rfl (Or.inl ⟨by rfl, ?_⟩) ?_
        rotate_left
        · (intro w hSw; (try dsimp only at hSw); go_simp; try with_reducible rfl)
        (try simp only [Act.put, sA, s0, s1])
        refine tf (v := ?_) 6 rfl (Or.inl ⟨by rfl, ?_⟩) ?_
        rotate_left
        · (intro w hSw; (try dsimp only at hSw); have fx := FY.out w (Mem.blk hSw 0 rfl); go_simp; try with_reducible rfl)
        (try simp only [Act.put, sA, s0, s1])
        refine tf (v := ?_) 7 rfl (Or.inl ⟨by rfl, ?_⟩) ?_
        rotate_left
        · (intro w hSw; (try dsimp only at hSw); go_simp; try with_reducible rfl)
        (try simp only [Act.put, sA, s0, s1])
        refine tf (v := ?_) 8 rfl (Or.inl ⟨by rfl, ?_⟩) ?_
        rotate_left
        · (intro w hSw; (try dsimp only at hSw); have fx := (Mem.blk hSw 1 rfl).word p2 (by rw [HWM.out]; omega); rw [HY.out] at fx; go_simp; try with_reducible rfl)
        (try simp only [Act.put, sA, s0, s1])
        refine so 0 rfl fun K hK => ?_
        clear hHeld
        refine step_load_blk rfl 86 (.tmp 10) rfl (w.heap.size + 1 + 1 + 1) rfl 86 (v5.map u32v) (HM.out.blk 1 rfl) 16 28 Tryz.underlying86 (cellsW16 v5 HL5.out) ?_
        rw [HCV.out.1]
        refine hK.out _ _ ((HM.out.erase 1)) (fun hHeld => ?_)
        clear hK K
        (try simp only [Act.put, sA, s0, s1])
        refine so 9 rfl fun K hK => ?_
        clear hHeld
        go_simp
        refine (MX.out _).mono ?_
        rintro e wy2 ⟨rfl, hb⟩
        replace HM := Lib.hid (show Mem w [blkE PP 108 (ordV r), blkE (w.heap.size + 1 + 1 + 1) 86 (v5.map u32v), blkE (w.heap.size + 1 + 1) 86 ((wm).map u32v), blkE (w.heap.size + 1) 92 (zw 8), blkE w.heap.size 92 ((h).map u32v)] wy2 from HM.out.below hb)
        clear hb
        go_wp2_with fail
        refine hK.out _ _ ((HM.out.erase 1)) (fun hHeld => ?_)
        clear hK K
        (try simp only [Act.put, sA, s0, s1])
        refine so 10 rfl fun K hK => ?_
        clear hHeld
        refine step_store_blk _ rfl 86 (.tmp 10) (.tmp 131) rfl (w.heap.size + 1 + 1 + 1) (vn.map u32v) rfl (by show Value.agg cn = _; rw [HCV.out.2]) 86 (v5.map u32v) (HM.out.blk 1 rfl) (cellsW16 vn HLN.out) (by rw [List.length_map, List.length_map, HLN.out, HL5.out]) (u32v_one _) ?_
        intro wy3 hb hg
        replace HM := Lib.hid (show Mem w [blkE PP 108 (ordV r), blkE (w.heap.size + 1 + 1 + 1) 86 (vn.map u32v), blkE (w.heap.size + 1 + 1) 86 ((wm).map u32v), blkE (w.heap.size + 1) 92 (zw 8), blkE w.heap.size 92 ((h).map u32v)] wy3 from HM.out.put 1 rfl _ hg hb)
        clear hb hg
        refine hK.out _ _ ((HM.out.erase 1)) (fun hHeld => ?_)
        clear hK K
        (try simp only [Act.put])
        refine wpAnyH_done (by kernel_rfl) ?_ _
        generalize hwn : wy3 = wq6 at HM ⊢
        clear hwn
        have HL6 := Lib.hid HLN.out
        have EV6 := Lib.hid HVN.out
        clear MX HCV HVN HLN FX FY HX HY i1 i2 hHeld
        generalize hvg : vn = v6 at HM HL6 EV6 ⊢
        clear hvg
        go_upto_region 26 with fail
        obtain ⟨X, hX⟩ : ∃ x, wd wm (ordN r 12) = x := ⟨_, rfl⟩
        obtain ⟨Y, hY⟩ : ∃ x, wd wm (ordN r 13) = x := ⟨_, rfl⟩
        have o1 := ordN_lt r 12 hr10 (by omega)
        have o2 := ordN_lt r 13 hr10 (by omega)
        obtain ⟨p1, hp1⟩ : ∃ p, ordN r 12 = p := ⟨_, rfl⟩
        obtain ⟨p2, hp2⟩ : ∃ p, ordN r 13 = p := ⟨_, rfl⟩
        rw [hp1] at hX o1
        rw [hp2] at hY o2
        have i1 : (p1 : Int) < 16 := by omega
        have i2 : (p2 : Int) < 16 := by omega
        have FX := Lib.hid (show ∀ w' : World, Blk w' PP 108 (ordV r) → w'.cell? ⟨PP, 12, none⟩ = some (.int .i64 (p1 : Int)) from fun w' hb => by rw [hb.cell, ordV_get r 12 (by omega), hp1])
        have FY := Lib.hid (show ∀ w' : World, Blk w' PP 108 (ordV r) → w'.cell? ⟨PP, 13, none⟩ = some (.int .i64 (p2 : Int)) from fun w' hb => by rw [hb.cell, ordV_get r 13 (by omega), hp2])
        obtain ⟨cv, hcv⟩ : ∃ c, (v6.map u32v).toArray = c := ⟨_, rfl⟩
        obtain ⟨vn, hvn⟩ : ∃ v, mixB v6 2 7 8 13 X Y = v := ⟨_, rfl⟩
        have MX := Lib.hid (fun w' : World => refMix_any v6 HL6.out 2 7 8 13 (by omega) (by omega) (by omega) (by omega) X Y w')
        rw [hcv, hvn] at MX
        obtain ⟨cn, hcn⟩ : ∃ c, (vn.map u32v).toArray = c := ⟨_, rfl⟩
        rw [hcn] at MX
        have HCV := Lib.hid (And.intro hcv hcn)
        have HVN := Lib.hid (show mixB v6 2 7 8 13 (wd wm (ordN r 12)) (wd wm (ordN r 13)) = vn by rw [hp1, hp2, hX, hY, hvn])
        have HLN := Lib.hid (show vn.length = 16 by rw [← hvn, mixB_length]; exact HL6.out)
        have HX := Lib.hid hX
        have HY := Lib.hid hY
        clear hcv hvn hcn hp1 hp2 hX hY o1 o2
        refine wp_region_held_drew (S := fun W' => Mem w [blkE PP 108 (ordV r), blkE (w.heap.size + 1 + 1) 86 ((wm).map u32v), blkE (w.heap.size + 1) 92 (zw 8), blkE w.heap.size 92 ((h).map u32v)] W') (by kernel_rfl) (((HM.out.erase 1)).drew) (fun hHeld => ?_)
        replace HM := Lib.hid HM.out.drew
        generalize wq6.drew = wd1 at HM hHeld ⊢
        refine tf (v := ?_) 1 rfl (Or.inl ⟨by rfl, ?_⟩) ?_
        rotate_left
        · (intro w hSw; (try dsimp only at hSw); go_simp; try with_reducible rfl)
        (try simp only [Act.put, sA, s0, s1])
        refine tf (v := ?_) 2 rfl (Or.inl ⟨by rfl, ?_⟩) ?_
        rotate_left
        · (intro w hSw; (try dsimp only at hSw); have fx := FX.out w (Mem.blk hSw 0 rfl); go_simp; try with_reducible rfl)
        (try simp only [Act.put, sA, s0, s1])
        refine tf (v := ?_) 3 rfl (Or.inl ⟨by rfl, ?_⟩) ?_
        rotate_left
        · (intro w hSw; (try dsimp only at hSw); go_simp; try with_reducible rfl)
        (try simp only [Act.put, sA, s0, s1])
        refine tf (v := ?_) 4 rfl (Or.inl ⟨by rfl, ?_⟩) ?_
        rotate_left
        · (intro w hSw; (try dsimp only at hSw); have fx := (Mem.blk hSw 1 rfl).word p1 (by rw [HWM.out]; omega); rw [HX.out] at fx; go_simp; try with_reducible rfl)
        (try simp only [Act.put, sA, s0, s1])
        refine tf (v := ?_) 5 rfl (Or.inl ⟨by rfl, ?_⟩) ?_
        rotate_left
        · (intro w hSw; (try dsimp only at hSw); go_simp; try with_reducible rfl)
        (try simp only [Act.put, sA, s0, s1])
        refine tf (v := ?_) 6 rfl (Or.inl ⟨by rfl, ?_⟩) ?_
        rotate_left
        · (intro w hSw; (try dsimp only at hSw); have fx := FY.out w (Mem.blk hSw 0 rfl); go_simp; try with_reducible rfl)
        (try simp only [Act.put, sA, s0, s1])
        refine tf (v := ?_) 7 rfl (Or.inl ⟨by rfl, ?_⟩) ?_
        rotate_left
        · (intro w hSw; (try dsimp only at hSw); go_simp; try with_reducible rfl)
        (try simp only [Act.put, sA, s0, s1])
        refine tf (v := ?_) 8 rfl (Or.inl ⟨by rfl, ?_⟩) ?_
        rotate_left
        · (intro w hSw; (try dsimp only at hSw); have fx := (Mem.blk hSw 1 rfl).word p2 (by rw [HWM.out]; omega); rw [HY.out] at fx; go_simp; try with_reducible rfl)
        (try simp only [Act.put, sA, s0, s1])
        refine so 0 rfl fun K hK => ?_
        clear hHeld
        refine step_load_blk rfl 86 (.tmp 10) rfl (w.heap.size + 1 + 1 + 1) rfl 86 (v6.map u32v) (HM.out.blk 1 rfl) 16 28 Tryz.underlying86 (cellsW16 v6 HL6.out) ?_
        rw [HCV.out.1]
        refine hK.out _ _ ((HM.out.erase 1)) (fun hHeld => ?_)
        clear hK K
        (try simp only [Act.put, sA, s0, s1])
        refine so 9 rfl fun K hK => ?_
        clear hHeld
        go_simp
        refine (MX.out _).mono ?_
        rintro e wy2 ⟨rfl, hb⟩
        replace HM := Lib.hid (show Mem w [blkE PP 108 (ordV r), blkE (w.heap.size + 1 + 1 + 1) 86 (v6.map u32v), blkE (w.heap.size + 1 + 1) 86 ((wm).map u32v), blkE (w.heap.size + 1) 92 (zw 8), blkE w.heap.size 92 ((h).map u32v)] wy2 from HM.out.below hb)
        clear hb
        go_wp2_with fail
        refine hK.out _ _ ((HM.out.erase 1)) (fun hHeld => ?_)
        clear hK K
        (try simp only [Act.put, sA, s0, s1])
        refine so 10 rfl fun K hK => ?_
        clear hHeld
        refine step_store_blk _ rfl 86 (.tmp 10) (.tmp 141) rfl (w.heap.size + 1 + 1 + 1) (vn.map u32v) rfl (by show Value.agg cn = _; rw [HCV.out.2]) 86 (v6.map u32v) (HM.out.blk 1 rfl) (cellsW16 vn HLN.out) (by rw [List.length_map, List.length_map, HLN.out, HL6.out]) (u32v_one _) ?_
        intro wy3 hb hg
        replace HM := Lib.hid (show Mem w [blkE PP 108 (ordV r), blkE (w.heap.size + 1 + 1 + 1) 86 (vn.map u32v), blkE (w.heap.size + 1 + 1) 86 ((wm).map u32v), blkE (w.heap.size + 1) 92 (zw 8), blkE w.heap.size 92 ((h).map u32v)] wy3 from HM.out.put 1 rfl _ hg hb)
        clear hb hg
        refine hK.out _ _ ((HM.out.erase 1)) (fun hHeld => ?_)
        clear hK K
        (try simp only [Act.put])
        refine wpAnyH_done (by kernel_rfl) ?_ _
        generalize hwn : wy3 = wq7 at HM ⊢
        clear hwn
        have HL7 := Lib.hid HLN.out
        have EV7 := Lib.hid HVN.out
        clear MX HCV HVN HLN FX FY HX HY i1 i2 hHeld
        generalize hvg : vn = v7 at HM HL7 EV7 ⊢
        clear hvg
        go_upto_region 27 with fail
        obtain ⟨X, hX⟩ : ∃ x, wd wm (ordN r 14) = x := ⟨_, rfl⟩
        obtain ⟨Y, hY⟩ : ∃ x, wd wm (ordN r 15) = x := ⟨_, rfl⟩
        have o1 := ordN_lt r 14 hr10 (by omega)
        have o2 := ordN_lt r 15 hr10 (by omega)
        obtain ⟨p1, hp1⟩ : ∃ p, ordN r 14 = p := ⟨_, rfl⟩
        obtain ⟨p2, hp2⟩ : ∃ p, ordN r 15 = p := ⟨_, rfl⟩
        rw [hp1] at hX o1
        rw [hp2] at hY o2
        have i1 : (p1 : Int) < 16 := by omega
        have i2 : (p2 : Int) < 16 := by omega
        have FX := Lib.hid (show ∀ w' : World, Blk w' PP 108 (ordV r) → w'.cell? ⟨PP, 14, none⟩ = some (.int .i64 (p1 : Int)) from fun w' hb => by rw [hb.cell, ordV_get r 14 (by omega), hp1])
        have FY := Lib.hid (show ∀ w' : World, Blk w' PP 108 (ordV r) → w'.cell? ⟨PP, 15, none⟩ = some (.int .i64 (p2 : Int)) from fun w' hb => by rw [hb.cell, ordV_get r 15 (by omega), hp2])
        obtain ⟨cv, hcv⟩ : ∃ c, (v7.map u32v).toArray = c := ⟨_, rfl⟩
        obtain ⟨vn, hvn⟩ : ∃ v, mixB v7 3 4 9 14 X Y = v := ⟨_, rfl⟩
        have MX := Lib.hid (fun w' : World => refMix_any v7 HL7.out 3 4 9 14 (by omega) (by omega) (by omega) (by omega) X Y w')
        rw [hcv, hvn] at MX
        obtain ⟨cn, hcn⟩ : ∃ c, (vn.map u32v).toArray = c := ⟨_, rfl⟩
        rw [hcn] at MX
        have HCV := Lib.hid (And.intro hcv hcn)
        have HVN := Lib.hid (show mixB v7 3 4 9 14 (wd wm (ordN r 14)) (wd wm (ordN r 15)) = vn by rw [hp1, hp2, hX, hY, hvn])
        have HLN := Lib.hid (show vn.length = 16 by rw [← hvn, mixB_length]; exact HL7.out)
        have HX := Lib.hid hX
        have HY := Lib.hid hY
        clear hcv hvn hcn hp1 hp2 hX hY o1 o2
        refine wp_region_held_drew (S := fun W' => Mem w [blkE PP 108 (ordV r), blkE (w.heap.size + 1 + 1) 86 ((wm).map u32v), blkE (w.heap.size + 1) 92 (zw 8), blkE w.heap.size 92 ((h).map u32v)] W') (by kernel_rfl) (((HM.out.erase 1)).drew) (fun hHeld => ?_)
        replace HM := Lib.hid HM.out.drew
        generalize wq7.drew = wd1 at HM hHeld ⊢
        refine tf (v := ?_) 1 rfl (Or.inl ⟨by rfl, ?_⟩) ?_
        rotate_left
        · (intro w hSw; (try dsimp only at hSw); go_simp; try with_reducible rfl)
        (try simp only [Act.put, sA, s0, s1])
        refine tf (v := ?_) 2 rfl (Or.inl ⟨by rfl, ?_⟩) ?_
        rotate_left
        · (intro w hSw; (try dsimp only at hSw); have fx := FX.out w (Mem.blk hSw 0 rfl); go_simp; try with_reducible rfl)
        (try simp only [Act.put, sA, s0, s1])
        refine tf (v := ?_) 3 rfl (Or.inl ⟨by rfl, ?_⟩) ?_
        rotate_left
        · (intro w hSw; (try dsimp only at hSw); go_simp; try with_reducible rfl)
        (try simp only [Act.put, sA, s0, s1])
        refine tf (v := ?_) 4 rfl (Or.inl ⟨by rfl, ?_⟩) ?_
        rotate_left
        · (intro w hSw; (try dsimp only at hSw); have fx := (Mem.blk hSw 1 rfl).word p1 (by rw [HWM.out]; omega); rw [HX.out] at fx; go_simp; try with_reducible rfl)
        (try simp only [Act.put, sA, s0, s1])
        refine tf (v := ?_) 5 rfl (Or.inl ⟨by rfl, ?_⟩) ?_
        rotate_left
        · (intro w hSw; (try dsimp only at hSw); go_simp; try with_reducible rfl)
        (try simp only [Act.put, sA, s0, s1])
        refine tf (v := ?_) 6 rfl (Or.inl ⟨by rfl, ?_⟩) ?_
        rotate_left
        · (intro w hSw; (try dsimp only at hSw); have fx := FY.out w (Mem.blk hSw 0 rfl); go_simp; try with_reducible rfl)
        (try simp only [Act.put, sA, s0, s1])
        refine tf (v := ?_) 7 rfl (Or.inl ⟨by rfl, ?_⟩) ?_
        rotate_left
        · (intro w hSw; (try dsimp only at hSw); go_simp; try with_reducible rfl)
        (try simp only [Act.put, sA, s0, s1])
        refine tf (v := ?_) 8 rfl (Or.inl ⟨by rfl, ?_⟩) ?_
        rotate_left
        · (intro w hSw; (try dsimp only at hSw); have fx := (Mem.blk hSw 1 rfl).word p2 (by rw [HWM.out]; omega); rw [HY.out] at fx; go_simp; try with_reducible rfl)
        (try simp only [Act.put, sA, s0, s1])
        refine so 0 rfl fun K hK => ?_
        clear hHeld
        refine step_load_blk rfl 86 (.tmp 10) rfl (w.heap.size + 1 + 1 + 1) rfl 86 (v7.map u32v) (HM.out.blk 1 rfl) 16 28 Tryz.underlying86 (cellsW16 v7 HL7.out) ?_
        rw [HCV.out.1]
        refine hK.out _ _ ((HM.out.erase 1)) (fun hHeld => ?_)
        clear hK K
        (try simp only [Act.put, sA, s0, s1])
        refine so 9 rfl fun K hK => ?_
        clear hHeld
        go_simp
        refine (MX.out _).mono ?_
        rintro e wy2 ⟨rfl, hb⟩
        replace HM := Lib.hid (show Mem w [blkE PP 108 (ordV r), blkE (w.heap.size + 1 + 1 + 1) 86 (v7.map u32v), blkE (w.heap.size + 1 + 1) 86 ((wm).map u32v), blkE (w.heap.size + 1) 92 (zw 8), blkE w.heap.size 92 ((h).map u32v)] wy2 from HM.out.below hb)
        clear hb
        go_wp2_with fail
        refine hK.out _ _ ((HM.out.erase 1)) (fun hHeld => ?_)
        clear hK K
        (try simp only [Act.put, sA, s0, s1])
        refine so 10 rfl fun K hK => ?_
        clear hHeld
        refine step_store_blk _ rfl 86 (.tmp 10) (.tmp 151) rfl (w.heap.size + 1 + 1 + 1) (vn.map u32v) rfl (by show Value.agg cn = _; rw [HCV.out.2]) 86 (v7.map u32v) (HM.out.blk 1 rfl) (cellsW16 vn HLN.out) (by rw [List.length_map, List.length_map, HLN.out, HL7.out]) (u32v_one _) ?_
        intro wy3 hb hg
        replace HM := Lib.hid (show Mem w [blkE PP 108 (ordV r), blkE (w.heap.size + 1 + 1 + 1) 86 (vn.map u32v), blkE (w.heap.size + 1 + 1) 86 ((wm).map u32v), blkE (w.heap.size + 1) 92 (zw 8), blkE w.heap.size 92 ((h).map u32v)] wy3 from HM.out.put 1 rfl _ hg hb)
        clear hb hg
        refine hK.out _ _ ((HM.out.erase 1)) (fun hHeld => ?_)
        clear hK K
        (try simp only [Act.put])
        refine wpAnyH_done (by kernel_rfl) ?_ _
        generalize hwn : wy3 = wq8 at HM ⊢
        clear hwn
        have HL8 := Lib.hid HLN.out
        have EV8 := Lib.hid HVN.out
        clear MX HCV HVN HLN FX FY HX HY i1 i2 hHeld
        generalize hvg : vn = v8 at HM HL8 EV8 ⊢
        clear hvg
        have hend : roundsB wm (r + 1) bg = v8 := by
         show roundB wm r (roundsB wm r bg) = v8
         rw [HV0.out]
         unfold roundB
         rw [EV1.out, EV2.out, EV3.out, EV4.out, EV5.out, EV6.out, EV7.out, EV8.out]
        have HF := Lib.hid (show Mem w [blkE (w.heap.size + 1 + 1 + 1) 86 ((roundsB wm (r + 1) bg).map u32v), blkE (w.heap.size + 1 + 1) 86 ((wm).map u32v), blkE (w.heap.size + 1) 92 (zw 8), blkE w.heap.size 92 ((h).map u32v)] wq8 from by rw [hend]; exact HM.out.erase 0)
        clear hend HM HV0 EV1 EV2 EV3 EV4 EV5 EV6 EV7 EV8
        go_wp2
        refine ⟨⟨r + 1, by omega, by go_num, HF.out⟩, ?_⟩
        simp [intOf]
        omega
       ·
        obtain rfl : r = 10 := by omega
        have HVZ := Lib.hid (show (roundsB wm 10 bg).length = 16 by rw [roundsB_length]; exact HBL.out)
        obtain ⟨vz, hvz⟩ : ∃ v, roundsB wm 10 bg = v := ⟨_, rfl⟩
        rw [hvz] at HM HVZ
        have HVE := Lib.hid hvz
        clear hvz
        rw [show ((10 : Nat) : Int) = 10 from rfl]
        go_wp2_with fail
        go_loopw [152, 16] (fun i _ wr => ∃ j : Nat, j ≤ 8 ∧ i = .int .i64 (j : Int) ∧ Mem w [blkE (w.heap.size + 1 + 1 + 1) 86 ((vz).map u32v), blkE (w.heap.size + 1 + 1) 86 ((wm).map u32v), blkE (w.heap.size + 1) 92 (zw 8), blkE w.heap.size 92 ((hdW h vz j).map u32v)] wr) (fun i _ _ => 8 - (intOf i).toNat)
        case atStart => exact ⟨0, by omega, rfl, HM.out⟩
        case round =>
         clear HM
         obtain ⟨j, hj, rfl, hM⟩ := hrel
         have HM := Lib.hid hM
         clear hM
         by_cases hlt : j < 8
         ·
          have d8 : decide ((j : Int) < 8) = true := by simp; omega
          have e8 : IntKind.i64.wrap (8 + (j : Int)) = 8 + (j : Int) := IntWalk.i64_in _ (by omega)
          have b8 : (8 : Int) + (j : Int) < 16 := by omega
          have b9 : (j : Int) < 16 := by omega
          have b10 : (j : Int) < 8 := by omega
          have b11 : (0 : Int) ≤ 8 + (j : Int) := by omega
          have b12 : (8 + (j : Int)).toNat = 8 + j := by omega
          obtain ⟨X, hX⟩ : ∃ x, wd (hdW h vz j) j = x := ⟨_, rfl⟩
          obtain ⟨Y, hY⟩ : ∃ x, wd vz j = x := ⟨_, rfl⟩
          obtain ⟨Z, hZ⟩ : ∃ x, wd vz (8 + j) = x := ⟨_, rfl⟩
          obtain ⟨U, hU⟩ : ∃ x, Y ^^^ Z = x := ⟨_, rfl⟩
          obtain ⟨V, hV⟩ : ∃ x, X ^^^ U = x := ⟨_, rfl⟩
          have x1 : bits BinOp.xor IntKind.u32 (Y.toNat : Int) (Z.toNat : Int) = (U.toNat : Int) := by rw [← hU]; exact u32_xor Y Z
          have x2 : bits BinOp.xor IntKind.u32 (X.toNat : Int) (U.toNat : Int) = (V.toNat : Int) := by rw [← hV]; exact u32_xor X U
          have HV := Lib.hid (show wd (hdW h vz j) j ^^^ (wd vz j ^^^ wd vz (8 + j)) = V by rw [hX, hY, hZ, hU, hV])
          clear hU hV
          go_upto_region 31 with fail
          refine wp_region_held_drew (S := fun W' => Mem w [blkE (w.heap.size + 1 + 1 + 1) 86 ((vz).map u32v), blkE (w.heap.size + 1 + 1) 86 ((wm).map u32v), blkE (w.heap.size + 1) 92 (zw 8)] W') (by kernel_rfl) (((HM.out.erase 3)).drew) (fun hHeld => ?_)
          replace HM := Lib.hid HM.out.drew
          generalize wr.drew = wd1 at HM hHeld ⊢
          refine tf (v := ?_) 0 rfl (Or.inl ⟨by rfl, ?_⟩) ?_
          rotate_left
          · (intro w hSw; (try dsimp only at hSw); go_simp; try with_reducible rfl)
          (try simp only [Act.put, sA, s0, s1])
          refine tf (v := ?_) 1 rfl (Or.inl ⟨by rfl, ?_⟩) ?_
          rotate_left
          · (intro w hSw; (try dsimp only at hSw); go_simp; try with_reducible rfl)
          (try simp only [Act.put, sA, s0, s1])
          refine tf (v := ?_) 3 rfl (Or.inl ⟨by rfl, ?_⟩) ?_
          rotate_left
          · (intro w hSw; (try dsimp only at hSw); go_simp; try with_reducible rfl)
          (try simp only [Act.put, sA, s0, s1])
          refine tf (v := ?_) 4 rfl (Or.inl ⟨by rfl, ?_⟩) ?_
          rotate_left
          · (intro w hSw; (try dsimp only at hSw); go_simp; try with_reducible rfl)
          (try simp only [Act.put, sA, s0, s1])
          refine tf (v := ?_) 5 rfl (Or.inl ⟨by rfl, ?_⟩) ?_
          rotate_left
          · (intro w hSw; (try dsimp only at hSw); have fx := (Mem.blk hSw 0 rfl).word j (by rw [HVZ.out]; omega); rw [hY] at fx; go_simp; try with_reducible rfl)
          (try simp only [Act.put, sA, s0, s1])
          refine tf (v := ?_) 6 rfl (Or.inl ⟨by rfl, ?_⟩) ?_
          rotate_left
          · (intro w hSw; (try dsimp only at hSw); go_simp; try with_reducible rfl)
          (try simp only [Act.put, sA, s0, s1])
          refine tf (v := ?_) 7 rfl (Or.inl ⟨by rfl, ?_⟩) ?_
          rotate_left
          · (intro w hSw; (try dsimp only at hSw); go_simp; try with_reducible rfl)
          (try simp only [Act.put, sA, s0, s1])
          refine tf (v := ?_) 8 rfl (Or.inl ⟨by rfl, ?_⟩) ?_
          rotate_left
          · (intro w hSw; (try dsimp only at hSw); go_simp; try with_reducible rfl)
          (try simp only [Act.put, sA, s0, s1])
          refine tf (v := ?_) 9 rfl (Or.inl ⟨by rfl, ?_⟩) ?_
          rotate_left
          · (intro w hSw; (try dsimp only at hSw); have fx := (Mem.blk hSw 0 rfl).word (8 + j) (by rw [HVZ.out]; omega); rw [hZ] at fx; go_simp; try with_reducible rfl)
          (try simp only [Act.put, sA, s0, s1])
          refine tf (v := ?_) 10 rfl (Or.inl ⟨by rfl, ?_⟩) ?_
          rotate_left
          · (intro w hSw; (try dsimp only at hSw); go_simp; try with_reducible rfl)
          (try simp only [Act.put, sA, s0, s1])
          refine so 2 rfl fun K hK => ?_
          clear hHeld
          have fx := (HM.out.blk 3 rfl).word j (by rw [hdW_length, HH.out]; exact hlt)
          rw [hX] at fx
          go_simp
          refine hK.out _ _ ((HM.out.erase 3)) (fun hHeld => ?_)
          clear hK K
          (try simp only [Act.put, sA, s0, s1])
          clear fx
          refine tf (v := ?_) 11 rfl (Or.inl ⟨by rfl, ?_⟩) ?_
          rotate_left
          · (intro w hSw; (try dsimp only at hSw); go_simp; try with_reducible rfl)
          (try simp only [Act.put, sA, s0, s1])
          refine tf (v := ?_) 12 rfl (Or.inl ⟨by rfl, ?_⟩) ?_
          rotate_left
          · (intro w hSw; (try dsimp only at hSw); go_simp; try with_reducible rfl)
          (try simp only [Act.put, sA, s0, s1])
          refine so 13 rfl fun K hK => ?_
          clear hHeld
          have fx := (HM.out.blk 3 rfl).word j (by rw [hdW_length, HH.out]; exact hlt)
          have zx := (HM.out.blk 3 rfl).frozen j
          go_simp
          replace HM := Lib.hid (show Mem w [blkE (w.heap.size + 1 + 1 + 1) 86 ((vz).map u32v), blkE (w.heap.size + 1 + 1) 86 ((wm).map u32v), blkE (w.heap.size + 1) 92 (zw 8), blkE w.heap.size 92 (((hdW h vz j).set j V).map u32v)] (wd1.setCell ⟨w.heap.size, j, none⟩ (.int .u32 ((V).toNat : Int))) from by have h := HM.out.setCell 3 rfl j (u32v (V)); rw [← List.map_set] at h; exact h)
          clear fx zx
          generalize wd1.setCell ⟨w.heap.size, j, none⟩ (.int .u32 ((V).toNat : Int)) = wy2 at HM ⊢
          refine hK.out _ _ ((HM.out.erase 3)) (fun hHeld => ?_)
          clear hK K
          (try simp only [Act.put])
          refine wpAnyH_done (by kernel_rfl) ?_ _
          replace HM := Lib.hid (show Mem w [blkE (w.heap.size + 1 + 1 + 1) 86 ((vz).map u32v), blkE (w.heap.size + 1 + 1) 86 ((wm).map u32v), blkE (w.heap.size + 1) 92 (zw 8), blkE w.heap.size 92 ((hdW h vz (j + 1)).map u32v)] wy2 from by have h := HM.out; rw [← HV.out] at h; exact h)
          go_wp2
          go_roundw
          case rel => exact ⟨j + 1, by omega, by go_num, HM.out⟩
          case measure => simp [intOf]; omega
         ·
          obtain rfl : j = 8 := by omega
          have HCE := Lib.hid (show hdW h vz 8 = compB h b t f by rw [hdW_end h vz HH.out, ← HVE.out, ← HBE.out, ← HWE.out]; rfl)
          rw [HCE.out] at HM
          have HCL := Lib.hid (compB_length h b t f)
          obtain ⟨hz, hhz⟩ : ∃ x, compB h b t f = x := ⟨_, rfl⟩
          rw [hhz] at HM HCL
          have HHZ := Lib.hid hhz
          clear hhz HCE
          obtain ⟨cz, hcz⟩ : ∃ c, (hz.map u32v).toArray = c := ⟨_, rfl⟩
          have HCZ := Lib.hid hcz
          clear hcz
          rw [show ((8 : Nat) : Int) = 8 from rfl]
          go_wp2_with (first | (refine wpList_load_blk rfl 92 (.tmp 4) rfl w.heap.size rfl 92 (hz.map u32v) (HM.out.blk 3 rfl) 8 28 Tryz.underlying92 (cellsW8 hz HCL.out) ?_; rw [HCZ.out]) | (refine wpList_store_blk rfl 92 (.tmp 8) (.tmp 169) rfl (w.heap.size + 1) (hz.map u32v) rfl (by show Value.agg cz = _; rw [HCZ.out]) 92 (zw 8) (HM.out.blk 2 rfl) (cellsW8 hz HCL.out) (by rw [List.length_map, HCL.out]; rfl) (u32v_one _) ?_; intro w9 hb9 hg9))
          exact bodyPost_ret (results_blk rfl _ _ (w.heap.size + 1) 92 (hz.map u32v) 8 28 rfl hb9 Tryz.underlying92 (cellsW8 hz HCL.out)) rfl ⟨by rw [HHZ.out], (HM.out.put 2 rfl _ hg9 hb9).bel⟩
end Go.Proofs.YtlddafkikkaonaaGreatDoor
