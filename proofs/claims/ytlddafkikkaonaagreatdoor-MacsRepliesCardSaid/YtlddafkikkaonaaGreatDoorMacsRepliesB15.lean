/-
  The contract of blake.compress: the state behind a block. The contract of blake.absorb: the state behind all blocks of a message. The contract of codec.Join: the parts one after the other (as XEqual's, over XPart). No statement is proved here.
-/
import Derived.Laws.BitsAllLaws
import Derived.RegionTactic
import Derived.BigQuiet
import Derived.Deep.QuietTactic
import Derived.Maps.AppendAt
import Derived.Outline
import Derived.Test.YtlddafkikkaonaaGreatDoorMacsRepliesB14
namespace Go.Proofs.YtlddafkikkaonaaGreatDoor
open Go.RowKit
/-- the state behind the block with the words m -/
def compM (h m : List UInt32) (t : Nat) (f : Bool) : List UInt32 :=
 let v := roundsB m 10 (beginB h t f)
 (List.range 8).map fun i => wd h i ^^^ (wd v i ^^^ wd v (8 + i))
theorem compM_compB (h : List UInt32) (b : List UInt8) (t : Nat) (f : Bool) : compM h (wordsL b) t f = compB h b t f := rfl
theorem compM_length (h m : List UInt32) (t : Nat) (f : Bool) : (compM h m t f).length = 8 := by simp [compM]
/-- v0 to v15, as a loop over eight places lays them -/
def vbP (h : List UInt32) : Nat → List UInt32
 | 0 => List.replicate 16 (0 : UInt32)
 | j + 1 => ((vbP h j).set j (wd h j)).set (j + 8) (wd ivW j)
theorem vbP_length (h : List UInt32) : ∀ j, (vbP h j).length = 16
 | 0 => rfl
 | j + 1 => by rw [vbP, List.length_set, List.length_set, vbP_length h j]
theorem vbP_end (h : List UInt32) (hh : h.length = 8) : vbP h 8 = h ++ ivW := by
 match h, hh with
 | [_, _, _, _, _, _, _, _], _ => rfl
/-- the state, as the last loop changes it -/
def hdP (h v : List UInt32) : Nat → List UInt32
 | 0 => h
 | j + 1 => (hdP h v j).set j (wd (hdP h v j) j ^^^ (wd v j ^^^ wd v (j + 8)))
theorem hdP_length (h v : List UInt32) : ∀ j, (hdP h v j).length = h.length
 | 0 => rfl
 | j + 1 => by rw [hdP, List.length_set, hdP_length h v j]
theorem hdP_end (h v : List UInt32) (hh : h.length = 8) : hdP h v 8 = (List.range 8).map fun i => wd h i ^^^ (wd v i ^^^ wd v (8 + i)) := by
 match h, hh with
 | [_, _, _, _, _, _, _, _], _ => rfl
theorem bp_u32_of (t : Nat) : ((t : Int) % 4294967296) = ((UInt32.ofNat t).toNat : Int) := by
 rw [UInt32.toNat_ofNat']; rfl
theorem bp_u32_not (x : UInt32) : bits BinOp.xor IntKind.u32 IntKind.u32.max (x.toNat : Int) = ((~~~ x).toNat : Int) := by
 have h := u32_xor 4294967295 x
 rw [show (4294967295 : UInt32) ^^^ x = ~~~ x from by
  apply UInt32.toBitVec_inj.1
  rw [UInt32.toBitVec_xor, UInt32.toBitVec_not, BitVec.xor_comm]
  exact BitVec.xor_allOnes] at h
 exact h
theorem cellsSt (l : List UInt32) (h : l.length = 8) : (Tryz.prog.info? 100).map (·.size) = some (l.map u32v).length := by
 rw [List.length_map, h]; kernel_rfl
set_option maxRecDepth 100000 in
set_option maxHeartbeats 16000000 in
theorem bpComp_any (h m : List UInt32) (hh : h.length = 8) (hm : m.length = 16) (t : Nat) (_ht : t < 18446744073709551616) (f : Bool) (w : World) (hlv : LvBlake w) :
 Calls Tryz.prog 93 #[.agg (h.map u32v).toArray, .agg (m.map u32v).toArray, .int .u64 (t : Int), .bool f] w fun e w' => e = .returned (.agg ((compM h m t f).map u32v).toArray) ∧ Below w.heap.size w w' := by
 obtain ⟨ch, hch⟩ : ∃ c, (h.map u32v).toArray = c := ⟨_, rfl⟩
 obtain ⟨cm, hcm⟩ : ∃ c, (m.map u32v).toArray = c := ⟨_, rfl⟩
 rw [hch, hcm]
 have HM := Lib.hid (show Mem w [blkE (w.heap.size + 1 + 1 + 1) 86 ((List.replicate 16 (0 : UInt32)).map u32v), blkE (w.heap.size + 1 + 1) 100 (zw 8), blkE (w.heap.size + 1) 122 (m.map u32v), blkE w.heap.size 100 (h.map u32v)] ((((w.alloc (.cells ch 100)).alloc (.cells cm 122)).alloc (.cells zw8_ 100)).alloc (.cells zw16_ 86)) from ((((Mem.nil w).alloc rfl 100 ch (h.map u32v) hch.symm).alloc (by simp) 122 cm (m.map u32v) hcm.symm).alloc (by simp) 100 zw8_ (zw 8) rfl).alloc (by simp) 86 zw16_ ((List.replicate 16 (0 : UInt32)).map u32v) rfl)
 have HH := Lib.hid hh
 have HMM := Lib.hid hm
 have HLV := Lib.hid hlv
 have HCH := Lib.hid hch
 have HCM := Lib.hid hcm
 clear hch hcm hh hm hlv
 go_enter Tryz.func93, Tryz.ntmps93
 go_upto_region 2 with fail
 generalize ((((w.alloc (.cells ch 100)).alloc (.cells cm 122)).alloc (.cells zw8_ 100)).alloc (.cells zw16_ 86)) = w1 at HM ⊢
 go_wp2_with fail
 go_loopw [13, 10] (fun i _ wr => ∃ j : Nat, j ≤ 8 ∧ i = .int .i64 (j : Int) ∧ Mem w [blkE (w.heap.size + 1 + 1 + 1) 86 ((vbP h j).map u32v), blkE (w.heap.size + 1 + 1) 100 (zw 8), blkE (w.heap.size + 1) 122 (m.map u32v), blkE w.heap.size 100 (h.map u32v)] wr) (fun i _ _ => 8 - (intOf i).toNat)
 case atStart => exact ⟨0, by omega, rfl, HM.out⟩
 case round =>
  clear HM
  obtain ⟨j, hj, rfl, hM⟩ := hrel
  have HM := Lib.hid hM
  clear hM
  by_cases hlt : j < 8
  ·
   have d8 : decide ((j : Int) < 8) = true := by simp; omega
   obtain ⟨X, hX⟩ : ∃ x, wd h j = x := ⟨_, rfl⟩
   obtain ⟨Y, hY⟩ : ∃ x, wd ivW j = x := ⟨_, rfl⟩
   have e8 : IntKind.i64.wrap ((j : Int) + 8) = (j : Int) + 8 := IntWalk.i64_in _ (by omega)
   have b8 : (j : Int) + 8 < 16 := by omega
   have b9 : (j : Int) < 16 := by omega
   have b11 : (0 : Int) ≤ (j : Int) + 8 := by omega
   have b12 : ((j : Int) + 8).toNat = j + 8 := by omega
   have b10 : (j : Int) < 8 := by omega
   go_upto_region 5 with fail
   refine wp_region_held_drew (S := fun W' => Mem w [blkE (w.heap.size + 1 + 1) 100 (zw 8), blkE (w.heap.size + 1) 122 (m.map u32v), blkE w.heap.size 100 (h.map u32v)] W') (by kernel_rfl) (((HM.out.erase 0)).drew) (fun hHeld => ?_)
   replace HM := Lib.hid HM.out.drew
   generalize wr.drew = wd1 at HM hHeld ⊢
   refine tf (v := ?_) 0 rfl (Or.inl ⟨by rfl, ?_⟩) ?_
   rotate_left
   · (intro w hSw; (try dsimp only at hSw); go_simp; try with_reducible rfl)
   (try simp only [Act.put, sA, s0, s1])
   refine tf (v := ?_) 1 rfl (Or.inl ⟨by rfl, ?_⟩) ?_
   rotate_left
   · (intro w hSw; (try dsimp only at hSw); go_simp; try with_reducible rfl)
   (try simp only [Act.put, sA, s0, s1])
   refine tf (v := ?_) 2 rfl (Or.inl ⟨by rfl, ?_⟩) ?_
   rotate_left
   · (intro w hSw; (try dsimp only at hSw); go_simp; try with_reducible rfl)
   (try simp only [Act.put, sA, s0, s1])
   refine tf (v := ?_) 3 rfl (Or.inl ⟨by rfl, ?_⟩) ?_
   rotate_left
   · (intro w hSw; (try dsimp only at hSw); go_simp; try with_reducible rfl)
   (try simp only [Act.put, sA, s0, s1])
   refine tf (v := ?_) 4 rfl (Or.inl ⟨by rfl, ?_⟩) ?_
   rotate_left
   · (intro w hSw; (try dsimp only at hSw); go_simp; try with_reducible rfl)
   (try simp only [Act.put, sA, s0, s1])
   refine tf (v := ?_) 5 rfl (Or.inl ⟨by rfl, ?_⟩) ?_
   rotate_left
   · (intro w hSw; (try dsimp only at hSw); have fx := (Mem.blk hSw 2 rfl).word j (by rw [HH.out]; exact hlt); rw [hX] at fx; go_simp; try with_reducible rfl)
   (try simp only [Act.put, sA, s0, s1])
   refine tf (v := ?_) 6 rfl (Or.inl ⟨by rfl, ?_⟩) ?_
   rotate_left
   · (intro w hSw; (try dsimp only at hSw); go_simp; try with_reducible rfl)
   (try simp only [Act.put, sA, s0, s1])
   refine tf (v := ?_) 7 rfl (Or.inl ⟨by rfl, ?_⟩) ?_
   rotate_left
   · (intro w hSw; (try dsimp only at hSw); go_simp; try with_reducible rfl)
   (try simp only [Act.put, sA, s0, s1])
   refine tf (v := ?_) 8 rfl (Or.inl ⟨by rfl, ?_⟩) ?_
   rotate_left
   · (intro w hSw; (try dsimp only at hSw); obtain ⟨ti, hti⟩ := (HLV.out.below hSw.bel).1; have fx := hti.word j (by show j < 8; exact hlt); rw [hY] at fx; go_simp; try with_reducible rfl)
   (try simp only [Act.put, sA, s0, s1])
   refine tf (v := ?_) 9 rfl (Or.inl ⟨by rfl, ?_⟩) ?_
   rotate_left
   · (intro w hSw; (try dsimp only at hSw); go_simp; try with_reducible rfl)
   (try simp only [Act.put, sA, s0, s1])
   refine so 10 rfl fun K hK => ?_
   clear hHeld
   have fx := (HM.out.blk 0 rfl).word j (by rw [vbP_length]; omega)
   have zx := (HM.out.blk 0 rfl).frozen j
   go_simp
   replace HM := Lib.hid (show Mem w [blkE (w.heap.size + 1 + 1 + 1) 86 (((vbP h j).set j X).map u32v), blkE (w.heap.size + 1 + 1) 100 (zw 8), blkE (w.heap.size + 1) 122 (m.map u32v), blkE w.heap.size 100 (h.map u32v)] (wd1.setCell ⟨(w.heap.size + 1 + 1 + 1), j, none⟩ (.int .u32 ((X).toNat : Int))) from by have h := HM.out.setCell 0 rfl j (u32v (X)); rw [← List.map_set] at h; exact h)
   clear fx zx
   generalize wd1.setCell ⟨(w.heap.size + 1 + 1 + 1), j, none⟩ (.int .u32 ((X).toNat : Int)) = wy2 at HM ⊢
   refine hK.out _ _ ((HM.out.erase 0)) (fun hHeld => ?_)
   clear hK K
   (try simp only [Act.put])
   refine tf (v := ?_) 11 rfl (Or.inl ⟨by rfl, ?_⟩) ?_
   rotate_left
   · (intro w hSw; (try dsimp only at hSw); go_simp; try with_reducible rfl)
   (try simp only [Act.put, sA, s0, s1])
   refine so 12 rfl fun K hK => ?_
   clear hHeld
   have fx := (HM.out.blk 0 rfl).word (j + 8) (by rw [List.length_set, vbP_length]; omega)
   have zx := (HM.out.blk 0 rfl).frozen (j + 8)
   go_simp
   replace HM := Lib.hid (show Mem w [blkE (w.heap.size + 1 + 1 + 1) 86 ((((vbP h j).set j X).set (j + 8) Y).map u32v), blkE (w.heap.size + 1 + 1) 100 (zw 8), blkE (w.heap.size + 1) 122 (m.map u32v), blkE w.heap.size 100 (h.map u32v)] (wy2.setCell ⟨(w.heap.size + 1 + 1 + 1), (j + 8), none⟩ (.int .u32 ((Y).toNat : Int))) from by have h := HM.out.setCell 0 rfl (j + 8) (u32v (Y)); rw [← List.map_set] at h; exact h)
   clear fx zx
   generalize wy2.setCell ⟨(w.heap.size + 1 + 1 + 1), (j + 8), none⟩ (.int .u32 ((Y).toNat : Int)) = wy3 at HM ⊢
   refine hK.out _ _ ((HM.out.erase 0)) (fun hHeld => ?_)
   clear hK K
   (try simp only [Act.put])
   refine wpAnyH_done (by kernel_rfl) ?_ _
   replace HM := Lib.hid (show Mem w [blkE (w.heap.size + 1 + 1 + 1) 86 ((vbP h (j + 1)).map u32v), blkE (w.heap.size + 1 + 1) 100 (zw 8), blkE (w.heap.size + 1) 122 (m.map u32v), blkE w.heap.size 100 (h.map u32v)] wy3 from by have h := HM.out; rw [← hX, ← hY] at h; exact h)
   go_wp2
   go_roundw
   case rel => exact ⟨j + 1, by omega, by go_num, HM.out⟩
   case measure => simp [intOf]; omega
  ·
   obtain rfl : j = 8 := by omega
   rw [vbP_end h HH.out] at HM
   have HA16 := Lib.hid (show (h ++ ivW).length = 16 by rw [List.length_append, HH.out]; rfl)
   have HBG := Lib.hid (show ∀ f, beginB h t f = if f then ((((h ++ ivW).set 12 (wd (h ++ ivW) 12 ^^^ UInt32.ofNat t)).set 13 (wd (h ++ ivW) 13 ^^^ UInt32.ofNat (t / 4294967296))).set 14 (~~~ (wd (h ++ ivW) 14))) else ((h ++ ivW).set 12 (wd (h ++ ivW) 12 ^^^ UInt32.ofNat t)).set 13 (wd (h ++ ivW) 13 ^^^ UInt32.ofNat (t / 4294967296)) from fun _ => rfl)
   obtain ⟨vi, hvi⟩ : ∃ v, h ++ ivW = v := ⟨_, rfl⟩
   rw [hvi] at HM HA16 HBG
   clear hvi
   have f12 := (HM.out.blk 0 rfl).word 12 (by rw [HA16.out]; decide)
   have z12 := (HM.out.blk 0 rfl).frozen 12
   obtain ⟨X, hX⟩ : ∃ x, wd vi 12 = x := ⟨_, rfl⟩
   rw [hX] at f12
   obtain ⟨T0, hT0⟩ : ∃ x, UInt32.ofNat t = x := ⟨_, rfl⟩
   have t1 : (t : Int) % 4294967296 = (T0.toNat : Int) := by rw [← hT0]; exact bp_u32_of t
   have t2 : IntKind.u32.wrap (t : Int) = (T0.toNat : Int) := by rw [IntKind.wrap_u32]; exact t1
   obtain ⟨V, hV⟩ : ∃ x, X ^^^ T0 = x := ⟨_, rfl⟩
   have x1 : bits BinOp.xor IntKind.u32 (X.toNat : Int) (T0.toNat : Int) = (V.toNat : Int) := by rw [← hV]; exact u32_xor X T0
   rw [show ((8 : Nat) : Int) = 8 from rfl]
   go_upto_region 8 with fail
   clear f12 z12 x1 t1 t2
   replace HM := Lib.hid (show Mem w [blkE (w.heap.size + 1 + 1 + 1) 86 ((vi.set 12 V).map u32v), blkE (w.heap.size + 1 + 1) 100 (zw 8), blkE (w.heap.size + 1) 122 (m.map u32v), blkE w.heap.size 100 (h.map u32v)] (wr.setCell ⟨(w.heap.size + 1 + 1 + 1), 12, none⟩ (.int .u32 (V.toNat : Int))) from by
    have h := HM.out.setCell 0 rfl 12 (u32v V)
    rw [← List.map_set] at h
    exact h)
   generalize wr.setCell ⟨(w.heap.size + 1 + 1 + 1), 12, none⟩ (.int .u32 (V.toNat : Int)) = w4 at HM ⊢
   have f13 := (HM.out.blk 0 rfl).word 13 (by rw [List.length_set, HA16.out]; decide)
   have z13 := (HM.out.blk 0 rfl).frozen 13
   obtain ⟨Y, hY⟩ : ∃ x, wd vi 13 = x := ⟨_, rfl⟩
   rw [show wd (vi.set 12 V) 13 = wd vi 13 from by simp [wd], hY] at f13
   obtain ⟨T1, hT1⟩ : ∃ x, UInt32.ofNat (t / 4294967296) = x := ⟨_, rfl⟩
   have t0 : (t : Int) / 4294967296 = ((t / 4294967296 : Nat) : Int) := by omega
   have t1 : ((t / 4294967296 : Nat) : Int) % 4294967296 = (T1.toNat : Int) := by rw [← hT1]; exact bp_u32_of _
   have t3 : (t : Int) / 4294967296 % 4294967296 = (T1.toNat : Int) := by rw [t0]; exact t1
   have t2 : IntKind.u32.wrap ((t : Int) / 4294967296) = (T1.toNat : Int) := by rw [t0, IntKind.wrap_u32]; exact t1
   obtain ⟨U, hU⟩ : ∃ x, Y ^^^ T1 = x := ⟨_, rfl⟩
   have x1 : bits BinOp.xor IntKind.u32 (Y.toNat : Int) (T1.toNat : Int) = (U.toNat : Int) := by rw [← hU]; exact u32_xor Y T1
   clear t0 t1
   go_upto_if 41 with fail
   clear f13 z13 x1 t2 t3
   replace HM := Lib.hid (show Mem w [blkE (w.heap.size + 1 + 1 + 1) 86 (((vi.set 12 V).set 13 U).map u32v), blkE (w.heap.size + 1 + 1) 100 (zw 8), blkE (w.heap.size + 1) 122 (m.map u32v), blkE w.heap.size 100 (h.map u32v)] (w4.setCell ⟨(w.heap.size + 1 + 1 + 1), 13, none⟩ (.int .u32 (U.toNat : Int))) from by
    have h := HM.out.setCell 0 rfl 13 (u32v U)
    rw [← List.map_set] at h
    exact h)
   generalize w4.setCell ⟨(w.heap.size + 1 + 1 + 1), 13, none⟩ (.int .u32 (U.toNat : Int)) = w5 at HM ⊢
   rw [hX, hT0, hV, hY, hT1, hU] at HBG
   clear hX hT0 hV hY hT1 hU
   go_cut [] (fun wx => Mem w [blkE (w.heap.size + 1 + 1 + 1) 86 ((beginB h t f).map u32v), blkE (w.heap.size + 1 + 1) 100 (zw 8), blkE (w.heap.size + 1) 122 (m.map u32v), blkE w.heap.size 100 (h.map u32v)] wx)
   case first =>
    have hbg := HBG.out f
    cases f with
    | false =>
     rw [if_neg (by decide)] at hbg
     have HE := Lib.hid (show Mem w [blkE (w.heap.size + 1 + 1 + 1) 86 ((beginB h t false).map u32v), blkE (w.heap.size + 1 + 1) 100 (zw 8), blkE (w.heap.size + 1) 122 (m.map u32v), blkE w.heap.size 100 (h.map u32v)] w5 from by rw [hbg]; exact HM.out)
     clear hbg HM HBG
     go_wp2
     go_meet
     exact HE.out
    | true =>
     rw [if_pos rfl] at hbg
     have f14 := (HM.out.blk 0 rfl).word 14 (by rw [List.length_set, List.length_set, HA16.out]; decide)
     have z14 := (HM.out.blk 0 rfl).frozen 14
     rw [show wd ((vi.set 12 V).set 13 U) 14 = wd vi 14 from by simp [wd]] at f14
     obtain ⟨X, hX⟩ : ∃ x, wd vi 14 = x := ⟨_, rfl⟩
     obtain ⟨N, hN⟩ : ∃ x, ~~~ X = x := ⟨_, rfl⟩
     rw [hX] at f14 hbg
     rw [hN] at hbg
     have n1 : bits BinOp.xor IntKind.u32 IntKind.u32.max (X.toNat : Int) = (N.toNat : Int) := by rw [← hN]; exact bp_u32_not X
     clear hX hN
     have HE := Lib.hid (show Mem w [blkE (w.heap.size + 1 + 1 + 1) 86 ((beginB h t true).map u32v), blkE (w.heap.size + 1 + 1) 100 (zw 8), blkE (w.heap.size + 1) 122 (m.map u32v), blkE w.heap.size 100 (h.map u32v)] (w5.setCell ⟨(w.heap.size + 1 + 1 + 1), 14, none⟩ (.int .u32 (N.toNat : Int))) from by
      have h := HM.out.setCell 0 rfl 14 (u32v N)
      rw [← List.map_set] at h
      rw [hbg]
      exact h)
     clear hbg HM HBG
     go_wp2
     go_meet
     exact HE.out
   case rest =>
    clear HM HBG
    have HM := Lib.hid hcut
    clear hcut
    have HBL := Lib.hid (beginB_length h t f HH.out)
    obtain ⟨bg, hbg⟩ : ∃ v, beginB h t f = v := ⟨_, rfl⟩
    rw [hbg] at HM HBL
    have HBE := Lib.hid hbg
    clear hbg
    obtain ⟨vz, hvz⟩ : ∃ v, roundsB m 10 bg = v := ⟨_, rfl⟩
    have HVZ := Lib.hid (show vz.length = 16 by rw [← hvz, roundsB_length]; exact HBL.out)
    have HVE := Lib.hid hvz
    have RC := Lib.hid (fun (w' : World) (hv : LvBlake w') => bpRounds_any bg m HBL.out HMM.out w' hv)
    obtain ⟨cb, hcb⟩ : ∃ c, (bg.map u32v).toArray = c := ⟨_, rfl⟩
    obtain ⟨cz, hcz⟩ : ∃ c, (vz.map u32v).toArray = c := ⟨_, rfl⟩
    rw [hvz, hcb, hcz, HCM.out] at RC
    have HCB := Lib.hid hcb
    have HCZ := Lib.hid hcz
    clear hvz hcb hcz
    go_wp2_with (first | (refine wpList_load_blk rfl 86 (.tmp 9) rfl (w.heap.size + 1 + 1 + 1) rfl 86 (bg.map u32v) (HM.out.blk 0 rfl) 16 28 Tryz.underlying86 (bpCells16 bg HBL.out) ?_; rw [HCB.out]) | (refine wpList_load_blk rfl 122 (.tmp 5) rfl (w.heap.size + 1) rfl 122 (m.map u32v) (HM.out.blk 2 rfl) 16 28 Tryz.underlying122 (cellsBk m HMM.out) ?_; rw [HCM.out]))
    refine (RC.out _ (HLV.out.below HM.out.bel)).mono ?_
    rintro e w6 ⟨rfl, hb⟩
    replace HM := Lib.hid (HM.out.below hb)
    clear hb RC HCB
    go_upto_region 12 with (refine wpList_store_blk rfl 86 (.tmp 9) (.tmp 48) rfl (w.heap.size + 1 + 1 + 1) (vz.map u32v) rfl (by show Value.agg cz = _; rw [HCZ.out]) 86 (bg.map u32v) (HM.out.blk 0 rfl) (bpCells16 vz HVZ.out) (by rw [List.length_map, List.length_map, HVZ.out, HBL.out]) (u32v_one _) ?_; intro w7 hb3 hg3)
    replace HM := Lib.hid (show Mem w [blkE (w.heap.size + 1 + 1 + 1) 86 ((vz).map u32v), blkE (w.heap.size + 1 + 1) 100 (zw 8), blkE (w.heap.size + 1) 122 (m.map u32v), blkE w.heap.size 100 (h.map u32v)] w7 from HM.out.put 0 rfl _ hg3 hb3)
    clear hb3 hg3 HCZ
    have HA := Lib.hid (HM.out.alloc rfl 100 zw8_ (zw 8) rfl)
    go_upto_region 13 with (first | (refine wpList_load_blk rfl 100 (.tmp 4) rfl w.heap.size rfl 100 (h.map u32v) (HM.out.blk 3 rfl) 8 28 Tryz.underlying100 (cellsSt h HH.out) ?_; rw [HCH.out]) | (refine wpList_store_blk rfl 100 (.tmp 11) (.tmp 49) rfl w7.heap.size (h.map u32v) rfl (by show Value.agg ch = _; rw [HCH.out]) 100 (zw 8) (HA.out.blk 0 rfl) (cellsSt h HH.out) (by rw [List.length_map, HH.out]; rfl) (u32v_one _) ?_; intro w8 hb3 hg3))
    replace HM := Lib.hid (show Mem w [blkE w7.heap.size 100 (h.map u32v), blkE (w.heap.size + 1 + 1 + 1) 86 ((vz).map u32v), blkE (w.heap.size + 1 + 1) 100 (zw 8), blkE (w.heap.size + 1) 122 (m.map u32v), blkE w.heap.size 100 (h.map u32v)] w8 from HA.out.put 0 rfl _ hg3 hb3)
    clear hb3 hg3 HA
    generalize w7.heap.size = Q at HM ⊢
    go_wp2_with fail
    go_loopw [50, 12] (fun i _ wr => ∃ j : Nat, j ≤ 8 ∧ i = .int .i64 (j : Int) ∧ Mem w [blkE Q 100 ((hdP h vz j).map u32v), blkE (w.heap.size + 1 + 1 + 1) 86 ((vz).map u32v), blkE (w.heap.size + 1 + 1) 100 (zw 8), blkE (w.heap.size + 1) 122 (m.map u32v), blkE w.heap.size 100 (h.map u32v)] wr) (fun i _ _ => 8 - (intOf i).toNat)
    case atStart => exact ⟨0, by omega, rfl, HM.out⟩
    case round =>
     clear HM
     obtain ⟨j, hj, rfl, hM⟩ := hrel
     have HM := Lib.hid hM
     clear hM
     by_cases hlt : j < 8
     ·
      have d8 : decide ((j : Int) < 8) = true := by simp; omega
      have e8 : IntKind.i64.wrap ((j : Int) + 8) = (j : Int) + 8 := IntWalk.i64_in _ (by omega)
      have b8 : (j : Int) + 8 < 16 := by omega
      have b9 : (j : Int) < 16 := by omega
      have b10 : (j : Int) < 8 := by omega
      have b11 : (0 : Int) ≤ (j : Int) + 8 := by omega
      have b12 : ((j : Int) + 8).toNat = j + 8 := by omega
      obtain ⟨X, hX⟩ : ∃ x, wd (hdP h vz j) j = x := ⟨_, rfl⟩
      obtain ⟨Y, hY⟩ : ∃ x, wd vz j = x := ⟨_, rfl⟩
      obtain ⟨Z, hZ⟩ : ∃ x, wd vz (j + 8) = x := ⟨_, rfl⟩
      obtain ⟨U, hU⟩ : ∃ x, Y ^^^ Z = x := ⟨_, rfl⟩
      obtain ⟨V, hV⟩ : ∃ x, X ^^^ U = x := ⟨_, rfl⟩
      have x1 : bits BinOp.xor IntKind.u32 (Y.toNat : Int) (Z.toNat : Int) = (U.toNat : Int) := by rw [← hU]; exact u32_xor Y Z
      have x2 : bits BinOp.xor IntKind.u32 (X.toNat : Int) (U.toNat : Int) = (V.toNat : Int) := by rw [← hV]; exact u32_xor X U
      have HV := Lib.hid (show wd (hdP h vz j) j ^^^ (wd vz j ^^^ wd vz (j + 8)) = V by rw [hX, hY, hZ, hU, hV])
      clear hU hV
      go_upto_region 16 with fail
      refine wp_region_held_drew (S := fun W' => Mem w [blkE (w.heap.size + 1 + 1 + 1) 86 ((vz).map u32v), blkE (w.heap.size + 1 + 1) 100 (zw 8), blkE (w.heap.size + 1) 122 (m.map u32v), blkE w.heap.size 100 (h.map u32v)] W') (by kernel_rfl) (((HM.out.erase 0)).drew) (fun hHeld => ?_)
      replace HM := Lib.hid HM.out.drew
      generalize wr.drew = wd1 at HM hHeld ⊢
      refine tf (v := ?_) 0 rfl (Or.inl ⟨by rfl, ?_⟩) ?_
      rotate_left
      · (intro w hSw; (try dsimp only at hSw); go_simp; try with_reducible rfl)
      (try simp only [Act.put, sA, s0, s1])
      refine tf (v := ?_) 1 rfl (Or.inl ⟨by rfl, ?_⟩) ?_
      rotate_left
      · (intro w hSw; (try dsimp only at hSw); go_simp; try with_reducible rfl)
      (try simp only [Act.put, sA, s0, s1])
      refine tf (v := ?_) 3 rfl (Or.inl ⟨by rfl, ?_⟩) ?_
      rotate_left
      · (intro w hSw; (try dsimp only at hSw); go_simp; try with_reducible rfl)
      (try simp only [Act.put, sA, s0, s1])
      refine tf (v := ?_) 4 rfl (Or.inl ⟨by rfl, ?_⟩) ?_
      rotate_left
      · (intro w hSw; (try dsimp only at hSw); go_simp; try with_reducible rfl)
      (try simp only [Act.put, sA, s0, s1])
      refine tf (v := ?_) 5 rfl (Or.inl ⟨by rfl, ?_⟩) ?_
      rotate_left
      · (intro w hSw; (try dsimp only at hSw); have fx := (Mem.blk hSw 0 rfl).word j (by rw [HVZ.out]; omega); rw [hY] at fx; go_simp; try with_reducible rfl)
      (try simp only [Act.put, sA, s0, s1])
      refine tf (v := ?_) 6 rfl (Or.inl ⟨by rfl, ?_⟩) ?_
      rotate_left
      · (intro w hSw; (try dsimp only at hSw); go_simp; try with_reducible rfl)
      (try simp only [Act.put, sA, s0, s1])
      refine tf (v := ?_) 7 rfl (Or.inl ⟨by rfl, ?_⟩) ?_
      rotate_left
      · (intro w hSw; (try dsimp only at hSw); go_simp; try with_reducible rfl)
      (try simp only [Act.put, sA, s0, s1])
      refine tf (v := ?_) 8 rfl (Or.inl ⟨by rfl, ?_⟩) ?_
      rotate_left
      · (intro w hSw; (try dsimp only at hSw); go_simp; try with_reducible rfl)
      (try simp only [Act.put, sA, s0, s1])
      refine tf (v := ?_) 9 rfl (Or.inl ⟨by rfl, ?_⟩) ?_
      rotate_left
      · (intro w hSw; (try dsimp only at hSw); have fx := (Mem.blk hSw 0 rfl).word (j + 8) (by rw [HVZ.out]; omega); rw [hZ] at fx; go_simp; try with_reducible rfl)
      (try simp only [Act.put, sA, s0, s1])
      refine tf (v := ?_) 10 rfl (Or.inl ⟨by rfl, ?_⟩) ?_
      rotate_left
      · (intro w hSw; (try dsimp only at hSw); go_simp; try with_reducible rfl)
      (try simp only [Act.put, sA, s0, s1])
      refine take_load (v := ?_) [] 2 rfl (by kernel_rfl) (by kernel_rfl) (by kernel_rfl) (by kernel_rfl) (by kernel_rfl) (fun _ _ _ h => h) (Or.inl ⟨by rfl, ?_⟩) (by assumption) ?_
      rotate_left
      · (intro w hSw; subst hSw; have fx := (HM.out.blk 0 rfl).word j (by rw [hdP_length, HH.out]; exact hlt); rw [hX] at fx; go_simp; try with_reducible rfl)
      (try simp only [Act.put, sA, s0, s1])
      refine tf (v := ?_) 11 rfl (Or.inl ⟨by rfl, ?_⟩) ?_
      rotate_left
      · (intro w hSw; (try dsimp only at hSw); go_simp; try with_reducible rfl)
      (try simp only [Act.put, sA, s0, s1])
      refine tf (v := ?_) 12 rfl (Or.inl ⟨by rfl, ?_⟩) ?_
      rotate_left
      · (intro w hSw; (try dsimp only at hSw); go_simp; try with_reducible rfl)
      (try simp only [Act.put, sA, s0, s1])
      refine so 13 rfl fun K hK => ?_
      clear hHeld
      have fx := (HM.out.blk 0 rfl).word j (by rw [hdP_length, HH.out]; exact hlt)
      have zx := (HM.out.blk 0 rfl).frozen j
      go_simp
      replace HM := Lib.hid (show Mem w [blkE Q 100 (((hdP h vz j).set j V).map u32v), blkE (w.heap.size + 1 + 1 + 1) 86 ((vz).map u32v), blkE (w.heap.size + 1 + 1) 100 (zw 8), blkE (w.heap.size + 1) 122 (m.map u32v), blkE w.heap.size 100 (h.map u32v)] (wd1.setCell ⟨Q, j, none⟩ (.int .u32 ((V).toNat : Int))) from by have h := HM.out.setCell 0 rfl j (u32v (V)); rw [← List.map_set] at h; exact h)
      clear fx zx
      generalize wd1.setCell ⟨Q, j, none⟩ (.int .u32 ((V).toNat : Int)) = wy2 at HM ⊢
      refine hK.out _ _ ((HM.out.erase 0)) (fun hHeld => ?_)
      clear hK K
      (try simp only [Act.put])
      refine wpAnyH_done (by kernel_rfl) ?_ _
      replace HM := Lib.hid (show Mem w [blkE Q 100 ((hdP h vz (j + 1)).map u32v), blkE (w.heap.size + 1 + 1 + 1) 86 ((vz).map u32v), blkE (w.heap.size + 1 + 1) 100 (zw 8), blkE (w.heap.size + 1) 122 (m.map u32v), blkE w.heap.size 100 (h.map u32v)] wy2 from by have h := HM.out; rw [← HV.out] at h; exact h)
      go_wp2
      go_roundw
      case rel => exact ⟨j + 1, by omega, by go_num, HM.out⟩
      case measure => simp [intOf]; omega
     ·
      obtain rfl : j = 8 := by omega
      have HCE := Lib.hid (show hdP h vz 8 = compM h m t f by rw [hdP_end h vz HH.out, ← HVE.out, ← HBE.out]; rfl)
      rw [HCE.out] at HM
      have HCL := Lib.hid (compM_length h m t f)
      obtain ⟨hz, hhz⟩ : ∃ x, compM h m t f = x := ⟨_, rfl⟩
      rw [hhz] at HM HCL
      have HHZ := Lib.hid hhz
      clear hhz HCE
      obtain ⟨cz, hcz⟩ : ∃ c, (hz.map u32v).toArray = c := ⟨_, rfl⟩
      have HCZ := Lib.hid hcz
      clear hcz
      rw [show ((8 : Nat) : Int) = 8 from rfl]
      go_wp2_with (first | (refine wpList_load_blk rfl 100 (.tmp 11) rfl Q rfl 100 (hz.map u32v) (HM.out.blk 0 rfl) 8 28 Tryz.underlying100 (cellsSt hz HCL.out) ?_; rw [HCZ.out]) | (refine wpList_store_blk rfl 100 (.tmp 8) (.tmp 67) rfl (w.heap.size + 1 + 1) (hz.map u32v) rfl (by show Value.agg cz = _; rw [HCZ.out]) 100 (zw 8) (HM.out.blk 2 rfl) (cellsSt hz HCL.out) (by rw [List.length_map, HCL.out]; rfl) (u32v_one _) ?_; intro w9 hb9 hg9))
      exact bodyPost_ret (results_blk rfl _ _ (w.heap.size + 1 + 1) 100 (hz.map u32v) 8 28 rfl hb9 Tryz.underlying100 (cellsSt hz HCL.out)) rfl ⟨by rw [HHZ.out], (HM.out.put 2 rfl _ hg9 hb9).bel⟩
theorem to64_full (l : List UInt8) (h : l.length = 64) : to64 l = l := by
 rw [to64, h, Nat.sub_self, List.replicate_zero, List.append_nil]
theorem fill_mid (ml : List UInt8) (n b j : Nat) (hn : ml.length = n) (hb : b = 64 * j) (h : b + 64 ≤ n) : (((fillB ml).drop (64 * j)).take 64) = to64 ((ml.drop b).take 64) := by
 subst hb
 rw [to64_full _ (by rw [List.length_take, List.length_drop]; omega), fillB, List.drop_append_of_le_length (by omega), List.take_append_of_le_length (by rw [List.length_drop]; omega)]
theorem fill_last (ml : List UInt8) (n b j : Nat) (hn : ml.length = n) (hb : b = 64 * j) (h : n ≤ b + 64) (h2 : b < n ∨ b = 0) : (((fillB ml).drop (64 * j)).take 64) = to64 (ml.drop b) := by
 subst hb
 have hd : (ml.drop (64 * j)).length = n - 64 * j := by rw [List.length_drop, hn]
 rw [fillB, List.drop_append_of_le_length (by omega), to64, hd]
 have hp : (if ml = [] then 64 else (64 - ml.length % 64) % 64) = 64 - (n - 64 * j) := by
  by_cases e : ml = []
  ·
   subst e
   simp at hn
   subst hn
   rw [if_pos rfl]
   omega
  ·
   rw [if_neg e, hn]
   have : 0 < n := by rw [← hn]; exact List.length_pos_iff.2 e
   omega
 rw [hp, List.take_of_length_le]
 rw [List.length_append, hd, List.length_replicate]
 omega
theorem fill_count (ml : List UInt8) (n : Nat) (hn : ml.length = n) : (n = 0 → (fillB ml).length / 64 = 1) ∧ (0 < n → (fillB ml).length / 64 = (n + 63) / 64) := by
 rw [fillB, List.length_append, List.length_replicate, hn]
 constructor
 ·
  intro h
  have : ml = [] := List.eq_nil_of_length_eq_zero (by omega)
  rw [if_pos this]
  omega
 ·
  intro h
  rw [if_neg (by intro e; subst e; simp at hn; omega)]
  omega
set_option maxRecDepth 100000 in
set_option maxHeartbeats 16000000 in
theorem bpAbsorb_any (h : List UInt32) (hh : h.length = 8) (A : Option Addr) (n c : Nat) (ml : List UInt8) (hnc : n ≤ c) (_hcm : c ≤ maxLen) (hn5 : n ≤ 500000) (w : World) (hlv : LvBlake w) (hr : Rd w w.heap.size A n ml) :
 Calls Tryz.prog 75 #[.agg (h.map u32v).toArray, .slice A n c] w fun e w' => e = .returned (.agg ((statesB h (fillB ml) n ((fillB ml).length / 64) ((fillB ml).length / 64)).map u32v).toArray) ∧ Below w.heap.size w w' := by
 obtain ⟨ch, hch⟩ : ∃ x, (h.map u32v).toArray = x := ⟨_, rfl⟩
 have hN := fill_count ml n hr.1
 obtain ⟨N, hNE⟩ : ∃ N, (fillB ml).length / 64 = N := ⟨_, rfl⟩
 rw [hNE] at hN ⊢
 clear hNE
 obtain ⟨rz, hrz⟩ : ∃ x, statesB h (fillB ml) n N N = x := ⟨_, rfl⟩
 rw [hch, hrz]
 have HRZ := Lib.hid hrz
 have HM := Lib.hid (show Mem w [blkE (w.heap.size + 1) 100 (zw 8), blkE w.heap.size 100 ((h).map u32v)] ((w.alloc (.cells ch 100)).alloc (.cells zw8_ 100)) from ((Mem.nil w).alloc rfl 100 ch (h.map u32v) hch.symm).alloc (by simp) 100 zw8_ (zw 8) rfl)
 have HH := Lib.hid hh
 have HLV := Lib.hid hlv
 have HML := Lib.hid hr.1
 have HR := Lib.hid hr
 have HN := Lib.hid hN
 clear hch hh hlv hr hrz hN
 go_enter Tryz.func75, Tryz.ntmps75
 go_upto_region 1 with fail
 generalize ((w.alloc (.cells ch 100)).alloc (.cells zw8_ 100)) = w1 at HM ⊢
 go_wp2_with fail
 go_loopw [5] (fun v wr => ∃ j b : Nat, j < N ∧ b = 64 * j ∧ v = .int .i64 (b : Int) ∧ Mem w [blkE (w.heap.size + 1) 100 (zw 8), blkE w.heap.size 100 ((statesB h (fillB ml) n N j).map u32v)] wr) (fun v _ => n - (intOf v).toNat)
 case atStart => exact ⟨0, 0, by have := HN.out; omega, rfl, rfl, HM.out⟩
 case round =>
  clear HM
  obtain ⟨j, b, hj, hb64, rfl, hM⟩ := hrel
  have HM := Lib.hid hM
  clear hM
  have HST := Lib.hid (rfl : statesB h (fillB ml) n N j = statesB h (fillB ml) n N j)
  have HHS := Lib.hid (show (statesB h (fillB ml) n N j).length = 8 from statesB_length _ _ _ _ HH.out j)
  obtain ⟨hs, hhs⟩ : ∃ x, statesB h (fillB ml) n N j = x := ⟨_, rfl⟩
  rw [hhs] at HM HHS
  replace HST := Lib.hid hhs
  clear hhs
  have hNN := HN.out
  have hbn : b < n ∨ b = 0 := by omega
  have m1 : IntKind.i64.wrap ((n : Int) - (b : Int)) = (n : Int) - (b : Int) := IntWalk.i64_in _ (by omega)
  by_cases hlt : n - b > 64
  ·
   have dl : decide ((n : Int) - (b : Int) > 64) = true := by simp; omega
   obtain ⟨e, he⟩ : ∃ e : Nat, b + 64 = e := ⟨_, rfl⟩
   have m2 : (b : Int) + 64 = (e : Int) := by omega
   have m3 : IntKind.i64.wrap ((b : Int) + 64) = (e : Int) := by rw [m2]; exact IntWalk.i64_in _ (by omega)
   have HSL := Lib.hid (fun w' : World => slice_lh A n c b e (by omega) (by omega) hnc w')
   have hchunk : (((fillB ml).drop (64 * j)).take 64) = to64 ((ml.drop b).take 64) := fill_mid ml n b j HML.out hb64 (by omega)
   have HCR := Lib.hid (show Rd w w.heap.size (addrOf A b c) (e - b) ((ml.drop b).take 64) from by rw [show e - b = 64 by omega]; exact (HR.out.behind b c (by omega) hnc).take (by omega))
   obtain ⟨ck, hck⟩ : ∃ x, ((ml.drop b).take 64) = x := ⟨_, rfl⟩
   rw [hck] at HCR hchunk
   clear hck
   have BC := Lib.hid (fun (w' : World) (hr : Rd w' w'.heap.size (addrOf A b c) (e - b) ck) => bpBlock_any (addrOf A b c) (e - b) (c - b) ck (by omega) w' hr)
   obtain ⟨wm, hwm⟩ : ∃ x, wordsL (to64 ck) = x := ⟨_, rfl⟩
   have HWM := Lib.hid (show wm.length = 16 by rw [← hwm]; exact wordsL_length _)
   obtain ⟨hn, hhn⟩ : ∃ x, compM hs wm e false = x := ⟨_, rfl⟩
   have HHN := Lib.hid (show hn.length = 8 by rw [← hhn]; exact compM_length _ _ _ _)
   have HNX := Lib.hid (show statesB h (fillB ml) n N (j + 1) = hn by rw [statesB, HST.out, hchunk, if_neg (by omega), show (j + 1 == N) = false from by rw [beq_eq_false_iff_ne]; omega, show 64 * (j + 1) = e by omega, ← compM_compB, hwm, hhn])
   have CC := Lib.hid (fun (w' : World) (hv : LvBlake w') => bpComp_any hs wm HHS.out HWM.out e (by omega) false w' hv)
   obtain ⟨cs, hcs⟩ : ∃ x, (hs.map u32v).toArray = x := ⟨_, rfl⟩
   obtain ⟨cn, hcn⟩ : ∃ x, (hn.map u32v).toArray = x := ⟨_, rfl⟩
   obtain ⟨cw, hcw⟩ : ∃ x, (wm.map u32v).toArray = x := ⟨_, rfl⟩
   rw [hwm, hcw] at BC
   rw [hhn, hcs, hcn, hcw] at CC
   have HCS := Lib.hid (And.intro hcs (And.intro hcn hcw))
   clear hcs hcn hcw hhn hwm hchunk
   have q4 : IntKind.u64.wrap (e : Int) = (e : Int) := by rw [IntKind.wrap_u64]; omega
   have q9 : (e : Int) % 18446744073709551616 = (e : Int) := by omega
   have HB64 := Lib.hid (And.intro hb64 he)
   clear hb64 he
   go_upto_region 5 with fail
   refine wp_region_held_drew (S := fun W' => Mem w [blkE (w.heap.size + 1) 100 (zw 8)] W') (by kernel_rfl) (((HM.out.erase 1)).drew) (fun hHeld => ?_)
   replace HM := Lib.hid HM.out.drew
   generalize wr.drew = wd1 at HM hHeld ⊢
   refine tf (v := ?_) 1 rfl (Or.inl ⟨by rfl, ?_⟩) ?_
   rotate_left
   · (intro w hSw; (try dsimp only at hSw); go_simp; try with_reducible rfl)
   (try simp only [Act.put, sA, s0, s1])
   refine tf (v := ?_) 2 rfl (Or.inl ⟨by rfl, ?_⟩) ?_
   rotate_left
   · (intro w hSw; (try dsimp only at hSw); go_simp; try with_reducible rfl)
   (try simp only [Act.put, sA, s0, s1])
   refine tf (v := ?_) 3 rfl (Or.inl ⟨by rfl, ?_⟩) ?_
   rotate_left
   · (intro w hSw; (try dsimp only at hSw); go_simp; try with_reducible rfl)
   (try simp only [Act.put, sA, s0, s1])
   refine tf (v := ?_) 4 rfl (Or.inl ⟨by rfl, ?_⟩) ?_
   rotate_left
   · (intro w hSw; (try dsimp only at hSw); have sl := HSL.out w; go_simp; try with_reducible rfl)
   (try simp only [Act.put, sA, s0, s1])
   refine tf (v := ?_) 6 rfl (Or.inl ⟨by rfl, ?_⟩) ?_
   rotate_left
   · (intro w hSw; (try dsimp only at hSw); go_simp; try with_reducible rfl)
   (try simp only [Act.put, sA, s0, s1])
   refine tf (v := ?_) 7 rfl (Or.inl ⟨by rfl, ?_⟩) ?_
   rotate_left
   · (intro w hSw; (try dsimp only at hSw); go_simp; try with_reducible rfl)
   (try simp only [Act.put, sA, s0, s1])
   refine step_two 0 5 rfl rfl (by kernel_rfl) (fun K hK => ?_) (fun K hK => ?_)
   ·
    clear hHeld
    refine step_load_blk rfl 100 (.tmp 2) rfl w.heap.size rfl 100 (hs.map u32v) (HM.out.blk 1 rfl) 8 28 Tryz.underlying100 (cellsSt hs HHS.out) ?_
    rw [HCS.out.1]
    refine hK.out _ _ ((HM.out.erase 1)) (fun hHeld => ?_)
    clear hK K
    (try simp only [Act.put, sA, s0, s1])
    refine so 5 rfl fun K hK => ?_
    clear hHeld
    go_simp
    refine (BC.out _ (HM.out.arg HCR.out)).mono ?_
    rintro e wy2 ⟨rfl, hb⟩
    replace HM := Lib.hid (show Mem w [blkE (w.heap.size + 1) 100 (zw 8), blkE w.heap.size 100 ((hs).map u32v)] wy2 from HM.out.below hb)
    clear hb
    go_wp2_with fail
    refine hK.out _ _ ((HM.out.erase 1)) (fun hHeld => ?_)
    clear hK K
    (try simp only [Act.put, sA, s0, s1])
    refine so 8 rfl fun K hK => ?_
    clear hHeld
    go_simp
    refine (CC.out _ (HLV.out.below HM.out.bel)).mono ?_
    rintro e wy3 ⟨rfl, hb⟩
    replace HM := Lib.hid (show Mem w [blkE (w.heap.size + 1) 100 (zw 8), blkE w.heap.size 100 ((hs).map u32v)] wy3 from HM.out.below hb)
    clear hb
    go_wp2_with fail
    refine hK.out _ _ ((HM.out.erase 1)) (fun hHeld => ?_)
    clear hK K
    (try simp only [Act.put, sA, s0, s1])
    refine so 9 rfl fun K hK => ?_
    clear hHeld
    refine step_store_blk _ rfl 100 (.tmp 2) (.tmp 24) rfl w.heap.size (hn.map u32v) rfl (by show Value.agg cn = _; rw [HCS.out.2.1]) 100 (hs.map u32v) (HM.out.blk 1 rfl) (cellsSt hn HHN.out) (by rw [List.length_map, List.length_map, HHN.out, HHS.out]) (u32v_one _) ?_
    intro wy4 hb hg
    replace HM := Lib.hid (show Mem w [blkE (w.heap.size + 1) 100 (zw 8), blkE w.heap.size 100 ((hn).map u32v)] wy4 from HM.out.put 1 rfl _ hg hb)
    clear hb hg
    refine hK.out _ _ ((HM.out.erase 1)) (fun hHeld => ?_)
    clear hK K
    (try simp only [Act.put])
    refine wpAnyH_done (by kernel_rfl) ?_ _
    have HF := Lib.hid (show Mem w [blkE (w.heap.size + 1) 100 (zw 8), blkE w.heap.size 100 ((statesB h (fillB ml) n N (j + 1)).map u32v)] wy4 from by rw [HNX.out]; exact HM.out)
    clear HM HNX hHeld BC CC HCS HCR HSL q4 q9
    go_wp2
    have hb64 := HB64.out.1
    have he := HB64.out.2
    refine ⟨⟨j + 1, e, by omega, by omega, rfl, HF.out⟩, ?_⟩
    simp [intOf]
    omega
   ·
    clear hHeld
    go_simp
    refine (BC.out _ (HM.out.arg HCR.out)).mono ?_
    rintro e wy2 ⟨rfl, hb⟩
    replace HM := Lib.hid (show Mem w [blkE (w.heap.size + 1) 100 (zw 8), blkE w.heap.size 100 ((hs).map u32v)] wy2 from HM.out.below hb)
    clear hb
    go_wp2_with fail
    refine hK.out _ _ ((HM.out.erase 1)) (fun hHeld => ?_)
    clear hK K
    (try simp only [Act.put, sA, s0, s1])
    refine so 0 rfl fun K hK => ?_
    clear hHeld
    refine step_load_blk rfl 100 (.tmp 2) rfl w.heap.size rfl 100 (hs.map u32v) (HM.out.blk 1 rfl) 8 28 Tryz.underlying100 (cellsSt hs HHS.out) ?_
    rw [HCS.out.1]
    refine hK.out _ _ ((HM.out.erase 1)) (fun hHeld => ?_)
    clear hK K
    (try simp only [Act.put, sA, s0, s1])
    refine so 8 rfl fun K hK => ?_
    clear hHeld
    go_simp
    refine (CC.out _ (HLV.out.below HM.out.bel)).mono ?_
    rintro e wy3 ⟨rfl, hb⟩
    replace HM := Lib.hid (show Mem w [blkE (w.heap.size + 1) 100 (zw 8), blkE w.heap.size 100 ((hs).map u32v)] wy3 from HM.out.below hb)
    clear hb
    go_wp2_with fail
    refine hK.out _ _ ((HM.out.erase 1)) (fun hHeld => ?_)
    clear hK K
    (try simp only [Act.put, sA, s0, s1])
    refine so 9 rfl fun K hK => ?_
    clear hHeld
    refine step_store_blk _ rfl 100 (.tmp 2) (.tmp 24) rfl w.heap.size (hn.map u32v) rfl (by show Value.agg cn = _; rw [HCS.out.2.1]) 100 (hs.map u32v) (HM.out.blk 1 rfl) (cellsSt hn HHN.out) (by rw [List.length_map, List.length_map, HHN.out, HHS.out]) (u32v_one _) ?_
    intro wy4 hb hg
    replace HM := Lib.hid (show Mem w [blkE (w.heap.size + 1) 100 (zw 8), blkE w.heap.size 100 ((hn).map u32v)] wy4 from HM.out.put 1 rfl _ hg hb)
    clear hb hg
    refine hK.out _ _ ((HM.out.erase 1)) (fun hHeld => ?_)
    clear hK K
    (try simp only [Act.put])
    refine wpAnyH_done (by kernel_rfl) ?_ _
    have HF := Lib.hid (show Mem w [blkE (w.heap.size + 1) 100 (zw 8), blkE w.heap.size 100 ((statesB h (fillB ml) n N (j + 1)).map u32v)] wy4 from by rw [HNX.out]; exact HM.out)
    clear HM HNX hHeld BC CC HCS HCR HSL q4 q9
    go_wp2
    have hb64 := HB64.out.1
    have he := HB64.out.2
    refine ⟨⟨j + 1, e, by omega, by omega, rfl, HF.out⟩, ?_⟩
    simp [intOf]
    omega
  ·
   have dl : decide ((n : Int) - (b : Int) > 64) = false := by simp; omega
   have HSL := Lib.hid (fun w' : World => slice_l A n c b (by omega) w')
   have hchunk : (((fillB ml).drop (64 * j)).take 64) = to64 (ml.drop b) := fill_last ml n b j HML.out hb64 (by omega) (by omega)
   have HCR := Lib.hid (show Rd w w.heap.size (addrOf A b c) (n - b) (ml.drop b) from HR.out.behind b c (by omega) hnc)
   obtain ⟨ck, hck⟩ : ∃ x, (ml.drop b) = x := ⟨_, rfl⟩
   rw [hck] at HCR hchunk
   clear hck
   have BC := Lib.hid (fun (w' : World) (hr : Rd w' w'.heap.size (addrOf A b c) (n - b) ck) => bpBlock_any (addrOf A b c) (n - b) (c - b) ck (by omega) w' hr)
   obtain ⟨wm, hwm⟩ : ∃ x, wordsL (to64 ck) = x := ⟨_, rfl⟩
   have HWM := Lib.hid (show wm.length = 16 by rw [← hwm]; exact wordsL_length _)
   obtain ⟨hn, hhn⟩ : ∃ x, compM hs wm n true = x := ⟨_, rfl⟩
   have HHN := Lib.hid (show hn.length = 8 by rw [← hhn]; exact compM_length _ _ _ _)
   have HNX := Lib.hid (show statesB h (fillB ml) n N (j + 1) = hn by rw [statesB, HST.out, hchunk, if_pos (by omega), show (j + 1 == N) = true from by rw [beq_iff_eq]; omega, ← compM_compB, hwm, hhn])
   have CC := Lib.hid (fun (w' : World) (hv : LvBlake w') => bpComp_any hs wm HHS.out HWM.out n (by omega) true w' hv)
   obtain ⟨cs, hcs⟩ : ∃ x, (hs.map u32v).toArray = x := ⟨_, rfl⟩
   obtain ⟨cn, hcn⟩ : ∃ x, (hn.map u32v).toArray = x := ⟨_, rfl⟩
   obtain ⟨cw, hcw⟩ : ∃ x, (wm.map u32v).toArray = x := ⟨_, rfl⟩
   rw [hwm, hcw] at BC
   rw [hhn, hcs, hcn, hcw] at CC
   have HCS := Lib.hid (And.intro hcs (And.intro hcn hcw))
   clear hcs hcn hcw hhn hwm hchunk
   have q4 : IntKind.u64.wrap (n : Int) = (n : Int) := by rw [IntKind.wrap_u64]; omega
   have q9 : (n : Int) % 18446744073709551616 = (n : Int) := by omega
   have HB64 := Lib.hid hb64
   clear hb64
   go_upto_region 6 with fail
   refine wp_region_held_drew (S := fun W' => Mem w [] W') (by kernel_rfl) ((((HM.out.erase 0).erase 0)).drew) (fun hHeld => ?_)
   replace HM := Lib.hid HM.out.drew
   generalize wr.drew = wd1 at HM hHeld ⊢
   refine tf (v := ?_) 1 rfl (Or.inl ⟨by rfl, ?_⟩) ?_
   rotate_left
   · (intro w hSw; (try dsimp only at hSw); go_simp; try with_reducible rfl)
   (try simp only [Act.put, sA, s0, s1])
   refine tf (v := ?_) 2 rfl (Or.inl ⟨by rfl, ?_⟩) ?_
   rotate_left
   · (intro w hSw; (try dsimp only at hSw); go_simp; try with_reducible rfl)
   (try simp only [Act.put, sA, s0, s1])
   refine tf (v := ?_) 3 rfl (Or.inl ⟨by rfl, ?_⟩) ?_
   rotate_left
   · (intro w hSw; (try dsimp only at hSw); have sl := HSL.out w; go_simp; try with_reducible rfl)
   (try simp only [Act.put, sA, s0, s1])
   refine tf (v := ?_) 5 rfl (Or.inl ⟨by rfl, ?_⟩) ?_
   rotate_left
   · (intro w hSw; (try dsimp only at hSw); go_simp; try with_reducible rfl)
   (try simp only [Act.put, sA, s0, s1])
   refine tf (v := ?_) 6 rfl (Or.inl ⟨by rfl, ?_⟩) ?_
   rotate_left
   · (intro w hSw; (try dsimp only at hSw); go_simp; try with_reducible rfl)
   (try simp only [Act.put, sA, s0, s1])
   refine tf (v := ?_) 7 rfl (Or.inl ⟨by rfl, ?_⟩) ?_
   rotate_left
   · (intro w hSw; (try dsimp only at hSw); go_simp; try with_reducible rfl)
   (try simp only [Act.put, sA, s0, s1])
   refine step_two 0 4 rfl rfl (by kernel_rfl) (fun K hK => ?_) (fun K hK => ?_)
   ·
    clear hHeld
    refine step_load_blk rfl 100 (.tmp 2) rfl w.heap.size rfl 100 (hs.map u32v) (HM.out.blk 1 rfl) 8 28 Tryz.underlying100 (cellsSt hs HHS.out) ?_
    rw [HCS.out.1]
    refine hK.out _ _ (((HM.out.erase 0).erase 0)) (fun hHeld => ?_)
    clear hK K
    (try simp only [Act.put, sA, s0, s1])
    refine so 4 rfl fun K hK => ?_
    clear hHeld
    go_simp
    refine (BC.out _ (HM.out.arg HCR.out)).mono ?_
    rintro e wy2 ⟨rfl, hb⟩
    replace HM := Lib.hid (show Mem w [blkE (w.heap.size + 1) 100 (zw 8), blkE w.heap.size 100 ((hs).map u32v)] wy2 from HM.out.below hb)
    clear hb
    go_wp2_with fail
    refine hK.out _ _ (((HM.out.erase 0).erase 0)) (fun hHeld => ?_)
    clear hK K
    (try simp only [Act.put, sA, s0, s1])
    refine so 8 rfl fun K hK => ?_
    clear hHeld
    go_simp
    refine (CC.out _ (HLV.out.below HM.out.bel)).mono ?_
    rintro e wy3 ⟨rfl, hb⟩
    replace HM := Lib.hid (show Mem w [blkE (w.heap.size + 1) 100 (zw 8), blkE w.heap.size 100 ((hs).map u32v)] wy3 from HM.out.below hb)
    clear hb
    go_wp2_with fail
    refine hK.out _ _ (((HM.out.erase 0).erase 0)) (fun hHeld => ?_)
    clear hK K
    (try simp only [Act.put, sA, s0, s1])
    refine so 9 rfl fun K hK => ?_
    clear hHeld
    refine step_store_blk _ rfl 100 (.tmp 4) (.tmp 33) rfl (w.heap.size + 1) (hn.map u32v) rfl (by show Value.agg cn = _; rw [HCS.out.2.1]) 100 (zw 8) (HM.out.blk 0 rfl) (cellsSt hn HHN.out) (by rw [List.length_map, HHN.out]; rfl) (u32v_one _) ?_
    intro wy4 hb hg
    replace HM := Lib.hid (show Mem w [blkE (w.heap.size + 1) 100 ((hn).map u32v), blkE w.heap.size 100 ((hs).map u32v)] wy4 from HM.out.put 0 rfl _ hg hb)
    clear hb hg
    refine hK.out _ _ (((HM.out.erase 0).erase 0)) (fun hHeld => ?_)
    clear hK K
    (try simp only [Act.put])
    refine wpAnyH_done (by kernel_rfl) ?_ _
    have HF := Lib.hid (show Mem w [blkE (w.heap.size + 1) 100 ((hn).map u32v), blkE w.heap.size 100 ((hs).map u32v)] wy4 from HM.out)
    clear HM hHeld BC CC HCR HSL q4 q9
    have hb64 := HB64.out
    have hend : statesB h (fillB ml) n N N = hn := by rw [← HNX.out]; congr 1; omega
    clear hb64
    rw [hend] at HRZ
    go_wp2
    exact bodyPost_ret (results_blk rfl _ _ (w.heap.size + 1) 100 (hn.map u32v) 8 28 rfl (HF.out.blk 0 rfl) Tryz.underlying100 (cellsSt hn HHN.out)) rfl ⟨by rw [HRZ.out], HF.out.bel⟩
   ·
    clear hHeld
    go_simp
    refine (BC.out _ (HM.out.arg HCR.out)).mono ?_
    rintro e wy2 ⟨rfl, hb⟩
    replace HM := Lib.hid (show Mem w [blkE (w.heap.size + 1) 100 (zw 8), blkE w.heap.size 100 ((hs).map u32v)] wy2 from HM.out.below hb)
    clear hb
    go_wp2_with fail
    refine hK.out _ _ (((HM.out.erase 0).erase 0)) (fun hHeld => ?_)
    clear hK K
    (try simp only [Act.put, sA, s0, s1])
    refine so 0 rfl fun K hK => ?_
    clear hHeld
    refine step_load_blk rfl 100 (.tmp 2) rfl w.heap.size rfl 100 (hs.map u32v) (HM.out.blk 1 rfl) 8 28 Tryz.underlying100 (cellsSt hs HHS.out) ?_
    rw [HCS.out.1]
    refine hK.out _ _ (((HM.out.erase 0).erase 0)) (fun hHeld => ?_)
    clear hK K
    (try simp only [Act.put, sA, s0, s1])
    refine so 8 rfl fun K hK => ?_
    clear hHeld
    go_simp
    refine (CC.out _ (HLV.out.below HM.out.bel)).mono ?_
    rintro e wy3 ⟨rfl, hb⟩
    replace HM := Lib.hid (show Mem w [blkE (w.heap.size + 1) 100 (zw 8), blkE w.heap.size 100 ((hs).map u32v)] wy3 from HM.out.below hb)
    clear hb
    go_wp2_with fail
    refine hK.out _ _ (((HM.out.erase 0).erase 0)) (fun hHeld => ?_)
    clear hK K
    (try simp only [Act.put, sA, s0, s1])
    refine so 9 rfl fun K hK => ?_
    clear hHeld
    refine step_store_blk _ rfl 100 (.tmp 4) (.tmp 33) rfl (w.heap.size + 1) (hn.map u32v) rfl (by show Value.agg cn = _; rw [HCS.out.2.1]) 100 (zw 8) (HM.out.blk 0 rfl) (cellsSt hn HHN.out) (by rw [List.length_map, HHN.out]; rfl) (u32v_one _) ?_
    intro wy4 hb hg
    replace HM := Lib.hid (show Mem w [blkE (w.heap.size + 1) 100 ((hn).map u32v), blkE w.heap.size 100 ((hs).map u32v)] wy4 from HM.out.put 0 rfl _ hg hb)
    clear hb hg
    refine hK.out _ _ (((HM.out.erase 0).erase 0)) (fun hHeld => ?_)
    clear hK K
    (try simp only [Act.put])
    refine wpAnyH_done (by kernel_rfl) ?_ _
    have HF := Lib.hid (show Mem w [blkE (w.heap.size + 1) 100 ((hn).map u32v), blkE w.heap.size 100 ((hs).map u32v)] wy4 from HM.out)
    clear HM hHeld BC CC HCR HSL q4 q9
    have hb64 := HB64.out
    have hend : statesB h (fillB ml) n N N = hn := by rw [← HNX.out]; congr 1; omega
    clear hb64
    rw [hend] at HRZ
    go_wp2
    exact bodyPost_ret (results_blk rfl _ _ (w.heap.size + 1) 100 (hn.map u32v) 8 28 rfl (HF.out.blk 0 rfl) Tryz.underlying100 (cellsSt hn HHN.out)) rfl ⟨by rw [HRZ.out], HF.out.bel⟩
set_option maxHeartbeats 400000 in
set_option maxRecDepth 100000 in
theorem coJoin_any (B c : Nat) (A : Option Addr) (ps : List Part) (hm : ps.length ≤ 1000000) (ht : (flat ps ps.length).length ≤ 1000000) (w : World) (hB : B ≤ w.heap.size) (hp : PartsRd w B A ps) :
 Calls Tryz.prog 30 #[.slice A ps.length c] w fun e w' => ∃ A' c', e = .returned (.slice A' (flat ps ps.length).length c') ∧ w'.ownsRow w.heap.size 5 1 (.slice A' (flat ps ps.length).length c') (flat ps ps.length).length ((flat ps ps.length).map u8v) ∧ Below w.heap.size w w' := by
 obtain ⟨i0, hi, hz0, hz1, hz2⟩ := info_parts Tryz.info5
 have HP := Lib.hid hp
 clear hp
 obtain ⟨n, hn⟩ : ∃ n, ps.length = n := ⟨_, rfl⟩
 have HN := Lib.hid hn
 have hfl := flat_le ps
 rw [hn] at hm ht hfl ⊢
 have HFL := Lib.hid hfl
 clear hn hfl
 go_enter Tryz.func30, Tryz.ntmps30
 go_wp2
 go_loop [3, 11, 5] (fun s i _ => ∃ j : Nat, j ≤ n ∧ i = .int .i64 j ∧ s = .int .i64 (flat ps j).length) (fun _ i _ => n - (intOf i).toNat)
 case atStart => exact ⟨0, by omega, rfl, rfl⟩
 case round =>
  obtain ⟨j, hj, rfl, rfl⟩ := hrel
  by_cases hlt : j < n
  ·
   have hjp : j < ps.length := by have := HN.out; omega
   obtain ⟨g, rfl, _, hc⟩ := HP.out (by omega)
   obtain ⟨hc1, hr⟩ := hc j hjp
   have hl : ps[j].n = ps[j].l.length := hr.1.symm
   have HL := Lib.hid hl
   have b1 := HFL.out j
   have b2 := HFL.out (j + 1)
   have e2 := congrArg List.length (flat_succ ps j hjp)
   rw [List.length_append] at e2
   have b3 : (flat ps j).length + ps[j].n ≤ 1000000 := by omega
   have HE := Lib.hid e2
   clear hc hr hl e2 b2
   go_wp2
   go_round
   case rel => exact ⟨j + 1, by omega, by go_num, by rw [HE.out, HL.out]; go_num⟩
   case measure => simp [intOf]; omega
  ·
   obtain rfl : j = n := by omega
   go_wp2_with (refine wpList_make_own _ rfl (.const (.int .i64 0)) (.tmp 20) 29 rfl w.heap.size 5 i0 (.int .u8 0) 1 Tryz.underlying29 hi hz0 hz1 .i64 .i64 (flat ps j).length (flat ps j).length rfl rfl rfl (by rw [hz2]; omega) (by unfold maxLen; omega) (Nat.le_refl _) ?_; intro w1 hown1 hg1)
   go_loopw [6, 24, 8] (fun v i _ wr => ∃ k : Nat, k ≤ j ∧ i = .int .i64 k ∧ wr.ownsRow w.heap.size 5 1 v (flat ps k).length ((flat ps k).map u8v) ∧ Below w.heap.size w wr) (fun _ i _ _ => j - (intOf i).toNat)
   case atStart => exact ⟨0, by omega, rfl, hown1, (Below.refl _ _).grown hg1 (Nat.le_refl _) (by simp)⟩
   case round =>
    obtain ⟨k, hk, rfl, hown, hb⟩ := hrel
    by_cases hlt : k < j
    ·
     have hjp : k < ps.length := by have := HN.out; omega
     obtain ⟨g, rfl, hgB, hc⟩ := HP.out (by omega)
     obtain ⟨hc0, hr0⟩ := hc k hjp
     have hc1 := (hb.cell (p := ⟨g, k, none⟩) (Nat.lt_of_lt_of_le hgB hB)).trans hc0
     have hr := Lib.hid (hr0.below (hb.mono hB))
     have hl : (flat ps (k + 1)).length = (flat ps k).length + ps[k].n := by rw [flat_succ ps k hjp, List.length_append, hr0.1]
     have b3 : (flat ps k).length + ps[k].n ≤ 1000000 := by have := HFL.out (k + 1); omega
     have HL := Lib.hid hl
     have hsz := hb.size
     clear hc hc0 hr0 hl
     go_wp2_with (at_builtin; refine wpList_append_rd _ rfl (.tmp 28) (.tmp 29) 29 rfl w.heap.size 5 i0 (.int .u8 0) Tryz.underlying29 hi hz0 hz1 hz2 rfl u6 (flat ps k).length _ rfl hown _ _ _ _ _ rfl hr.out (by omega) hsz ?_; intro v' w' hown' hg')
     have HO := Lib.hid hown'
     clear hown'
     go_wp2
     go_roundw
     case rel =>
      refine ⟨k + 1, by omega, by go_num, ?_, hb.grown hg' hsz (own_from hown)⟩
      have h := HO.out
      rw [HL.out, flat_succ ps k hjp, List.map_append]
      exact h
     case measure => simp [intOf]; omega
    ·
     obtain rfl : k = j := by omega
     obtain ⟨A', c', rfl, _⟩ := own_slice hown
     have HO := Lib.hid hown
     clear hown
     go_wp2
     go_ret
     exact ⟨A', c', rfl, HO.out, hb⟩
end Go.Proofs.YtlddafkikkaonaaGreatDoor
