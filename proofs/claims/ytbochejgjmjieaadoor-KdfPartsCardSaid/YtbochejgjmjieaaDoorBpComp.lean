/-
  The contract of blake.compress: the state behind a block. No statement is proved here.
-/
import Derived.Test.YtbochejgjmjieaaDoorBpRounds
namespace Go.Proofs.YtbochejgjmjieaaDoor
open Go.RowKit

/-- the state behind the block with the words m -/
def compM (h m : List UInt32) (t : Nat) (f : Bool) : List UInt32 :=
  let v := roundsB m 10 (beginB h t f)
  (List.range 8).map fun i => wd h i ^^^ (wd v i ^^^ wd v (8 + i))
theorem compM_compB (h : List UInt32) (b : List UInt8) (t : Nat) (f : Bool) : compM h (wordsL b) t f = compB h b t f := rfl
theorem compM_length (h m : List UInt32) (t : Nat) (f : Bool) : (compM h m t f).length = 8 := by simp [compM]
/-- v0 to v15, as a loop over eight places lays them -/
def vbP (h : List UInt32) : Nat → List UInt32
  | 0 => List.replicate 16 (0 : UInt32)
  | j + 1 => ((vbP h j).set j (wd h j)).set (j + 8) (wd ivW j)
theorem vbP_length (h : List UInt32) : ∀ j, (vbP h j).length = 16
  | 0 => rfl
  | j + 1 => by rw [vbP, List.length_set, List.length_set, vbP_length h j]
theorem vbP_end (h : List UInt32) (hh : h.length = 8) : vbP h 8 = h ++ ivW := by
  match h, hh with
  | [_, _, _, _, _, _, _, _], _ => rfl
/-- the state, as the last loop changes it -/
def hdP (h v : List UInt32) : Nat → List UInt32
  | 0 => h
  | j + 1 => (hdP h v j).set j (wd (hdP h v j) j ^^^ (wd v j ^^^ wd v (j + 8)))
theorem hdP_length (h v : List UInt32) : ∀ j, (hdP h v j).length = h.length
  | 0 => rfl
  | j + 1 => by rw [hdP, List.length_set, hdP_length h v j]
theorem hdP_end (h v : List UInt32) (hh : h.length = 8) : hdP h v 8 = (List.range 8).map fun i => wd h i ^^^ (wd v i ^^^ wd v (8 + i)) := by
  match h, hh with
  | [_, _, _, _, _, _, _, _], _ => rfl
theorem bp_u32_of (t : Nat) : ((t : Int) % 4294967296) = ((UInt32.ofNat t).toNat : Int) := by
  rw [UInt32.toNat_ofNat']; rfl
theorem bp_u32_not (x : UInt32) : bits BinOp.xor IntKind.u32 IntKind.u32.max (x.toNat : Int) = ((~~~ x).toNat : Int) := by
  have h := u32_xor 4294967295 x
  rw [show (4294967295 : UInt32) ^^^ x = ~~~ x from by
    apply UInt32.toBitVec_inj.1
    rw [UInt32.toBitVec_xor, UInt32.toBitVec_not, BitVec.xor_comm]
    exact BitVec.xor_allOnes] at h
  exact h
theorem cellsSt (l : List UInt32) (h : l.length = 8) : (Tryd.prog.info? 46).map (·.size) = some (l.map u32v).length := by
  rw [List.length_map, h]; kernel_rfl

set_option maxRecDepth 100000 in
set_option maxHeartbeats 16000000 in
theorem bpComp_any (h m : List UInt32) (hh : h.length = 8) (hm : m.length = 16) (t : Nat) (_ht : t < 18446744073709551616) (f : Bool) (w : World) (hlv : LvBlake w) :
    Calls Tryd.prog 29 #[.agg (h.map u32v).toArray, .agg (m.map u32v).toArray, .int .u64 (t : Int), .bool f] w fun e w' => e = .returned (.agg ((compM h m t f).map u32v).toArray) ∧ Below w.heap.size w w' := by
  obtain ⟨ch, hch⟩ : ∃ c, (h.map u32v).toArray = c := ⟨_, rfl⟩
  obtain ⟨cm, hcm⟩ : ∃ c, (m.map u32v).toArray = c := ⟨_, rfl⟩
  rw [hch, hcm]
  have HM := Lib.hid (show Mem w [blkE (w.heap.size + 1 + 1 + 1) 56 ((List.replicate 16 (0 : UInt32)).map u32v), blkE (w.heap.size + 1 + 1) 46 (zw 8), blkE (w.heap.size + 1) 57 (m.map u32v), blkE w.heap.size 46 (h.map u32v)] ((((w.alloc (.cells ch 46)).alloc (.cells cm 57)).alloc (.cells #[.int .u32 0, .int .u32 0, .int .u32 0, .int .u32 0, .int .u32 0, .int .u32 0, .int .u32 0, .int .u32 0] 46)).alloc (.cells #[.int .u32 0, .int .u32 0, .int .u32 0, .int .u32 0, .int .u32 0, .int .u32 0, .int .u32 0, .int .u32 0, .int .u32 0, .int .u32 0, .int .u32 0, .int .u32 0, .int .u32 0, .int .u32 0, .int .u32 0, .int .u32 0] 56)) from ((((Mem.nil w).alloc rfl 46 ch (h.map u32v) hch.symm).alloc (by simp) 57 cm (m.map u32v) hcm.symm).alloc (by simp) 46 #[.int .u32 0, .int .u32 0, .int .u32 0, .int .u32 0, .int .u32 0, .int .u32 0, .int .u32 0, .int .u32 0] (zw 8) rfl).alloc (by simp) 56 #[.int .u32 0, .int .u32 0, .int .u32 0, .int .u32 0, .int .u32 0, .int .u32 0, .int .u32 0, .int .u32 0, .int .u32 0, .int .u32 0, .int .u32 0, .int .u32 0, .int .u32 0, .int .u32 0, .int .u32 0, .int .u32 0] ((List.replicate 16 (0 : UInt32)).map u32v) rfl)
  have HH := Lib.hid hh
  have HMM := Lib.hid hm
  have HLV := Lib.hid hlv
  have HCH := Lib.hid hch
  have HCM := Lib.hid hcm
  clear hch hcm hh hm hlv
  go_enter Tryd.func29, Tryd.ntmps29
  go_upto_region 2 with fail
  generalize ((((w.alloc (.cells ch 46)).alloc (.cells cm 57)).alloc (.cells #[.int .u32 0, .int .u32 0, .int .u32 0, .int .u32 0, .int .u32 0, .int .u32 0, .int .u32 0, .int .u32 0] 46)).alloc (.cells #[.int .u32 0, .int .u32 0, .int .u32 0, .int .u32 0, .int .u32 0, .int .u32 0, .int .u32 0, .int .u32 0, .int .u32 0, .int .u32 0, .int .u32 0, .int .u32 0, .int .u32 0, .int .u32 0, .int .u32 0, .int .u32 0] 56)) = w1 at HM ⊢
  go_wp2_with fail
  go_loopw [13, 10] (fun i _ wr => ∃ j : Nat, j ≤ 8 ∧ i = .int .i64 (j : Int) ∧ Mem w [blkE (w.heap.size + 1 + 1 + 1) 56 ((vbP h j).map u32v), blkE (w.heap.size + 1 + 1) 46 (zw 8), blkE (w.heap.size + 1) 57 (m.map u32v), blkE w.heap.size 46 (h.map u32v)] wr) (fun i _ _ => 8 - (intOf i).toNat)
  case atStart => exact ⟨0, by omega, rfl, HM.out⟩
  case round =>
    clear HM
    obtain ⟨j, hj, rfl, hM⟩ := hrel
    have HM := Lib.hid hM
    clear hM
    by_cases hlt : j < 8
    · have d8 : decide ((j : Int) < 8) = true := by simp; omega
      obtain ⟨X, hX⟩ : ∃ x, wd h j = x := ⟨_, rfl⟩
      obtain ⟨Y, hY⟩ : ∃ x, wd ivW j = x := ⟨_, rfl⟩
      have e8 : IntKind.i64.wrap ((j : Int) + 8) = (j : Int) + 8 := IntWalk.i64_in _ (by omega)
      have b8 : (j : Int) + 8 < 16 := by omega
      have b9 : (j : Int) < 16 := by omega
      have b11 : (0 : Int) ≤ (j : Int) + 8 := by omega
      have b12 : ((j : Int) + 8).toNat = j + 8 := by omega
      have b10 : (j : Int) < 8 := by omega
      go_upto_region 5 with fail
      refine wp_region_held_drew (S := fun W' => Mem w [blkE (w.heap.size + 1 + 1) 46 (zw 8), blkE (w.heap.size + 1) 57 (m.map u32v), blkE w.heap.size 46 (h.map u32v)] W') (by kernel_rfl) (((HM.out.erase 0)).drew) (fun hHeld => ?_)
      replace HM := Lib.hid HM.out.drew
      generalize wr.drew = wd1 at HM hHeld ⊢
      refine take_first (v := ?_) 0 rfl (by kernel_rfl) (by kernel_rfl) (by kernel_rfl) (fun _ _ _ h => h) (Or.inl ⟨by rfl, ?_⟩) (by assumption) ?_
      rotate_left
      · (intro w hSw; (try dsimp only at hSw); go_simp; try with_reducible rfl)
      (try simp only [Act.put, List.setIfInBounds_toArray, List.set_cons_zero, List.set_cons_succ])
      refine take_first (v := ?_) 1 rfl (by kernel_rfl) (by kernel_rfl) (by kernel_rfl) (fun _ _ _ h => h) (Or.inl ⟨by rfl, ?_⟩) (by assumption) ?_
      rotate_left
      · (intro w hSw; (try dsimp only at hSw); go_simp; try with_reducible rfl)
      (try simp only [Act.put, List.setIfInBounds_toArray, List.set_cons_zero, List.set_cons_succ])
      refine take_first (v := ?_) 2 rfl (by kernel_rfl) (by kernel_rfl) (by kernel_rfl) (fun _ _ _ h => h) (Or.inl ⟨by rfl, ?_⟩) (by assumption) ?_
      rotate_left
      · (intro w hSw; (try dsimp only at hSw); go_simp; try with_reducible rfl)
      (try simp only [Act.put, List.setIfInBounds_toArray, List.set_cons_zero, List.set_cons_succ])
      refine take_first (v := ?_) 3 rfl (by kernel_rfl) (by kernel_rfl) (by kernel_rfl) (fun _ _ _ h => h) (Or.inl ⟨by rfl, ?_⟩) (by assumption) ?_
      rotate_left
      · (intro w hSw; (try dsimp only at hSw); go_simp; try with_reducible rfl)
      (try simp only [Act.put, List.setIfInBounds_toArray, List.set_cons_zero, List.set_cons_succ])
      refine take_first (v := ?_) 4 rfl (by kernel_rfl) (by kernel_rfl) (by kernel_rfl) (fun _ _ _ h => h) (Or.inl ⟨by rfl, ?_⟩) (by assumption) ?_
      rotate_left
      · (intro w hSw; (try dsimp only at hSw); go_simp; try with_reducible rfl)
      (try simp only [Act.put, List.setIfInBounds_toArray, List.set_cons_zero, List.set_cons_succ])
      refine take_first (v := ?_) 5 rfl (by kernel_rfl) (by kernel_rfl) (by kernel_rfl) (fun _ _ _ h => h) (Or.inl ⟨by rfl, ?_⟩) (by assumption) ?_
      rotate_left
      · (intro w hSw; (try dsimp only at hSw); have fx := (Mem.blk hSw 2 rfl).word j (by rw [HH.out]; exact hlt); rw [hX] at fx; go_simp; try with_reducible rfl)
      (try simp only [Act.put, List.setIfInBounds_toArray, List.set_cons_zero, List.set_cons_succ])
      refine take_first (v := ?_) 6 rfl (by kernel_rfl) (by kernel_rfl) (by kernel_rfl) (fun _ _ _ h => h) (Or.inl ⟨by rfl, ?_⟩) (by assumption) ?_
      rotate_left
      · (intro w hSw; (try dsimp only at hSw); go_simp; try with_reducible rfl)
      (try simp only [Act.put, List.setIfInBounds_toArray, List.set_cons_zero, List.set_cons_succ])
      refine take_first (v := ?_) 7 rfl (by kernel_rfl) (by kernel_rfl) (by kernel_rfl) (fun _ _ _ h => h) (Or.inl ⟨by rfl, ?_⟩) (by assumption) ?_
      rotate_left
      · (intro w hSw; (try dsimp only at hSw); go_simp; try with_reducible rfl)
      (try simp only [Act.put, List.setIfInBounds_toArray, List.set_cons_zero, List.set_cons_succ])
      refine take_first (v := ?_) 8 rfl (by kernel_rfl) (by kernel_rfl) (by kernel_rfl) (fun _ _ _ h => h) (Or.inl ⟨by rfl, ?_⟩) (by assumption) ?_
      rotate_left
      · (intro w hSw; (try dsimp only at hSw); obtain ⟨ti, hti⟩ := (HLV.out.below hSw.bel).1; have fx := hti.word j (by show j < 8; exact hlt); rw [hY] at fx; go_simp; try with_reducible rfl)
      (try simp only [Act.put, List.setIfInBounds_toArray, List.set_cons_zero, List.set_cons_succ])
      refine take_first (v := ?_) 9 rfl (by kernel_rfl) (by kernel_rfl) (by kernel_rfl) (fun _ _ _ h => h) (Or.inl ⟨by rfl, ?_⟩) (by assumption) ?_
      rotate_left
      · (intro w hSw; (try dsimp only at hSw); go_simp; try with_reducible rfl)
      (try simp only [Act.put, List.setIfInBounds_toArray, List.set_cons_zero, List.set_cons_succ])
      refine step_one 10 rfl (by kernel_rfl) (fun K hK => ?_)
      clear hHeld
      have fx := (HM.out.blk 0 rfl).word j (by rw [vbP_length]; omega)
      have zx := (HM.out.blk 0 rfl).frozen j
      go_simp
      replace HM := Lib.hid (show Mem w [blkE (w.heap.size + 1 + 1 + 1) 56 (((vbP h j).set j X).map u32v), blkE (w.heap.size + 1 + 1) 46 (zw 8), blkE (w.heap.size + 1) 57 (m.map u32v), blkE w.heap.size 46 (h.map u32v)] (wd1.setCell ⟨(w.heap.size + 1 + 1 + 1), j, none⟩ (.int .u32 ((X).toNat : Int))) from by have h := HM.out.setCell 0 rfl j (u32v (X)); rw [← List.map_set] at h; exact h)
      clear fx zx
      generalize wd1.setCell ⟨(w.heap.size + 1 + 1 + 1), j, none⟩ (.int .u32 ((X).toNat : Int)) = wy2 at HM ⊢
      refine hK.out _ _ ((HM.out.erase 0)) (fun hHeld => ?_)
      clear hK K
      (try simp only [Act.put])
      refine take_first (v := ?_) 11 rfl (by kernel_rfl) (by kernel_rfl) (by kernel_rfl) (fun _ _ _ h => h) (Or.inl ⟨by rfl, ?_⟩) (by assumption) ?_
      rotate_left
      · (intro w hSw; (try dsimp only at hSw); go_simp; try with_reducible rfl)
      (try simp only [Act.put, List.setIfInBounds_toArray, List.set_cons_zero, List.set_cons_succ])
      refine step_one 12 rfl (by kernel_rfl) (fun K hK => ?_)
      clear hHeld
      have fx := (HM.out.blk 0 rfl).word (j + 8) (by rw [List.length_set, vbP_length]; omega)
      have zx := (HM.out.blk 0 rfl).frozen (j + 8)
      go_simp
      replace HM := Lib.hid (show Mem w [blkE (w.heap.size + 1 + 1 + 1) 56 ((((vbP h j).set j X).set (j + 8) Y).map u32v), blkE (w.heap.size + 1 + 1) 46 (zw 8), blkE (w.heap.size + 1) 57 (m.map u32v), blkE w.heap.size 46 (h.map u32v)] (wy2.setCell ⟨(w.heap.size + 1 + 1 + 1), (j + 8), none⟩ (.int .u32 ((Y).toNat : Int))) from by have h := HM.out.setCell 0 rfl (j + 8) (u32v (Y)); rw [← List.map_set] at h; exact h)
      clear fx zx
      generalize wy2.setCell ⟨(w.heap.size + 1 + 1 + 1), (j + 8), none⟩ (.int .u32 ((Y).toNat : Int)) = wy3 at HM ⊢
      refine hK.out _ _ ((HM.out.erase 0)) (fun hHeld => ?_)
      clear hK K
      (try simp only [Act.put])
      refine wpAnyH_done (by kernel_rfl) ?_ _
      replace HM := Lib.hid (show Mem w [blkE (w.heap.size + 1 + 1 + 1) 56 ((vbP h (j + 1)).map u32v), blkE (w.heap.size + 1 + 1) 46 (zw 8), blkE (w.heap.size + 1) 57 (m.map u32v), blkE w.heap.size 46 (h.map u32v)] wy3 from by have h := HM.out; rw [← hX, ← hY] at h; exact h)
      go_wp2
      go_roundw
      case rel => exact ⟨j + 1, by omega, by go_num, HM.out⟩
      case measure => simp [intOf]; omega
    · obtain rfl : j = 8 := by omega
      rw [vbP_end h HH.out] at HM
      have HA16 := Lib.hid (show (h ++ ivW).length = 16 by rw [List.length_append, HH.out]; rfl)
      have HBG := Lib.hid (show ∀ f, beginB h t f = if f then ((((h ++ ivW).set 12 (wd (h ++ ivW) 12 ^^^ UInt32.ofNat t)).set 13 (wd (h ++ ivW) 13 ^^^ UInt32.ofNat (t / 4294967296))).set 14 (~~~ (wd (h ++ ivW) 14))) else ((h ++ ivW).set 12 (wd (h ++ ivW) 12 ^^^ UInt32.ofNat t)).set 13 (wd (h ++ ivW) 13 ^^^ UInt32.ofNat (t / 4294967296)) from fun _ => rfl)
      obtain ⟨vi, hvi⟩ : ∃ v, h ++ ivW = v := ⟨_, rfl⟩
      rw [hvi] at HM HA16 HBG
      clear hvi
      have f12 := (HM.out.blk 0 rfl).word 12 (by rw [HA16.out]; decide)
      have z12 := (HM.out.blk 0 rfl).frozen 12
      obtain ⟨X, hX⟩ : ∃ x, wd vi 12 = x := ⟨_, rfl⟩
      rw [hX] at f12
      obtain ⟨T0, hT0⟩ : ∃ x, UInt32.ofNat t = x := ⟨_, rfl⟩
      have t1 : (t : Int) % 4294967296 = (T0.toNat : Int) := by rw [← hT0]; exact bp_u32_of t
      have t2 : IntKind.u32.wrap (t : Int) = (T0.toNat : Int) := by rw [IntKind.wrap_u32]; exact t1
      obtain ⟨V, hV⟩ : ∃ x, X ^^^ T0 = x := ⟨_, rfl⟩
      have x1 : bits BinOp.xor IntKind.u32 (X.toNat : Int) (T0.toNat : Int) = (V.toNat : Int) := by rw [← hV]; exact u32_xor X T0
      rw [show ((8 : Nat) : Int) = 8 from rfl]
      go_upto_region 8 with fail
      clear f12 z12 x1 t1 t2
      replace HM := Lib.hid (show Mem w [blkE (w.heap.size + 1 + 1 + 1) 56 ((vi.set 12 V).map u32v), blkE (w.heap.size + 1 + 1) 46 (zw 8), blkE (w.heap.size + 1) 57 (m.map u32v), blkE w.heap.size 46 (h.map u32v)] (wr.setCell ⟨(w.heap.size + 1 + 1 + 1), 12, none⟩ (.int .u32 (V.toNat : Int))) from by
        have h := HM.out.setCell 0 rfl 12 (u32v V)
        rw [← List.map_set] at h
        exact h)
      generalize wr.setCell ⟨(w.heap.size + 1 + 1 + 1), 12, none⟩ (.int .u32 (V.toNat : Int)) = w4 at HM ⊢
      have f13 := (HM.out.blk 0 rfl).word 13 (by rw [List.length_set, HA16.out]; decide)
      have z13 := (HM.out.blk 0 rfl).frozen 13
      obtain ⟨Y, hY⟩ : ∃ x, wd vi 13 = x := ⟨_, rfl⟩
      rw [show wd (vi.set 12 V) 13 = wd vi 13 from by simp [wd], hY] at f13
      obtain ⟨T1, hT1⟩ : ∃ x, UInt32.ofNat (t / 4294967296) = x := ⟨_, rfl⟩
      have t0 : (t : Int) / 4294967296 = ((t / 4294967296 : Nat) : Int) := by omega
      have t1 : ((t / 4294967296 : Nat) : Int) % 4294967296 = (T1.toNat : Int) := by rw [← hT1]; exact bp_u32_of _
      have t3 : (t : Int) / 4294967296 % 4294967296 = (T1.toNat : Int) := by rw [t0]; exact t1
      have t2 : IntKind.u32.wrap ((t : Int) / 4294967296) = (T1.toNat : Int) := by rw [t0, IntKind.wrap_u32]; exact t1
      obtain ⟨U, hU⟩ : ∃ x, Y ^^^ T1 = x := ⟨_, rfl⟩
      have x1 : bits BinOp.xor IntKind.u32 (Y.toNat : Int) (T1.toNat : Int) = (U.toNat : Int) := by rw [← hU]; exact u32_xor Y T1
      clear t0 t1
      go_upto_if 41 with fail
      clear f13 z13 x1 t2 t3
      replace HM := Lib.hid (show Mem w [blkE (w.heap.size + 1 + 1 + 1) 56 (((vi.set 12 V).set 13 U).map u32v), blkE (w.heap.size + 1 + 1) 46 (zw 8), blkE (w.heap.size + 1) 57 (m.map u32v), blkE w.heap.size 46 (h.map u32v)] (w4.setCell ⟨(w.heap.size + 1 + 1 + 1), 13, none⟩ (.int .u32 (U.toNat : Int))) from by
        have h := HM.out.setCell 0 rfl 13 (u32v U)
        rw [← List.map_set] at h
        exact h)
      generalize w4.setCell ⟨(w.heap.size + 1 + 1 + 1), 13, none⟩ (.int .u32 (U.toNat : Int)) = w5 at HM ⊢
      rw [hX, hT0, hV, hY, hT1, hU] at HBG
      clear hX hT0 hV hY hT1 hU
      go_cut [] (fun wx => Mem w [blkE (w.heap.size + 1 + 1 + 1) 56 ((beginB h t f).map u32v), blkE (w.heap.size + 1 + 1) 46 (zw 8), blkE (w.heap.size + 1) 57 (m.map u32v), blkE w.heap.size 46 (h.map u32v)] wx)
      case first =>
        have hbg := HBG.out f
        cases f with
        | false =>
          rw [if_neg (by decide)] at hbg
          have HE := Lib.hid (show Mem w [blkE (w.heap.size + 1 + 1 + 1) 56 ((beginB h t false).map u32v), blkE (w.heap.size + 1 + 1) 46 (zw 8), blkE (w.heap.size + 1) 57 (m.map u32v), blkE w.heap.size 46 (h.map u32v)] w5 from by rw [hbg]; exact HM.out)
          clear hbg HM HBG
          go_wp2
          go_meet
          exact HE.out
        | true =>
          rw [if_pos rfl] at hbg
          have f14 := (HM.out.blk 0 rfl).word 14 (by rw [List.length_set, List.length_set, HA16.out]; decide)
          have z14 := (HM.out.blk 0 rfl).frozen 14
          rw [show wd ((vi.set 12 V).set 13 U) 14 = wd vi 14 from by simp [wd]] at f14
          obtain ⟨X, hX⟩ : ∃ x, wd vi 14 = x := ⟨_, rfl⟩
          obtain ⟨N, hN⟩ : ∃ x, ~~~ X = x := ⟨_, rfl⟩
          rw [hX] at f14 hbg
          rw [hN] at hbg
          have n1 : bits BinOp.xor IntKind.u32 IntKind.u32.max (X.toNat : Int) = (N.toNat : Int) := by rw [← hN]; exact bp_u32_not X
          clear hX hN
          have HE := Lib.hid (show Mem w [blkE (w.heap.size + 1 + 1 + 1) 56 ((beginB h t true).map u32v), blkE (w.heap.size + 1 + 1) 46 (zw 8), blkE (w.heap.size + 1) 57 (m.map u32v), blkE w.heap.size 46 (h.map u32v)] (w5.setCell ⟨(w.heap.size + 1 + 1 + 1), 14, none⟩ (.int .u32 (N.toNat : Int))) from by
            have h := HM.out.setCell 0 rfl 14 (u32v N)
            rw [← List.map_set] at h
            rw [hbg]
            exact h)
          clear hbg HM HBG
          go_wp2
          go_meet
          exact HE.out
      case rest =>
        clear HM HBG
        have HM := Lib.hid hcut
        clear hcut
        have HBL := Lib.hid (beginB_length h t f HH.out)
        obtain ⟨bg, hbg⟩ : ∃ v, beginB h t f = v := ⟨_, rfl⟩
        rw [hbg] at HM HBL
        have HBE := Lib.hid hbg
        clear hbg
        obtain ⟨vz, hvz⟩ : ∃ v, roundsB m 10 bg = v := ⟨_, rfl⟩
        have HVZ := Lib.hid (show vz.length = 16 by rw [← hvz, roundsB_length]; exact HBL.out)
        have HVE := Lib.hid hvz
        have RC := Lib.hid (fun (w' : World) (hv : LvBlake w') => bpRounds_any bg m HBL.out HMM.out w' hv)
        obtain ⟨cb, hcb⟩ : ∃ c, (bg.map u32v).toArray = c := ⟨_, rfl⟩
        obtain ⟨cz, hcz⟩ : ∃ c, (vz.map u32v).toArray = c := ⟨_, rfl⟩
        rw [hvz, hcb, hcz, HCM.out] at RC
        have HCB := Lib.hid hcb
        have HCZ := Lib.hid hcz
        clear hvz hcb hcz
        go_wp2_with (first | (refine wpList_load_blk rfl 56 (.tmp 9) rfl (w.heap.size + 1 + 1 + 1) rfl 56 (bg.map u32v) (HM.out.blk 0 rfl) 16 44 Tryd.underlying56 (bpCells16 bg HBL.out) ?_; rw [HCB.out]) | (refine wpList_load_blk rfl 57 (.tmp 5) rfl (w.heap.size + 1) rfl 57 (m.map u32v) (HM.out.blk 2 rfl) 16 44 Tryd.underlying57 (cellsBk m HMM.out) ?_; rw [HCM.out]))
        refine (RC.out _ (HLV.out.below HM.out.bel)).mono ?_
        rintro e w6 ⟨rfl, hb⟩
        replace HM := Lib.hid (HM.out.below hb)
        clear hb RC HCB
        go_upto_region 12 with (refine wpList_store_blk rfl 56 (.tmp 9) (.tmp 48) rfl (w.heap.size + 1 + 1 + 1) (vz.map u32v) rfl (by show Value.agg cz = _; rw [HCZ.out]) 56 (bg.map u32v) (HM.out.blk 0 rfl) (bpCells16 vz HVZ.out) (by rw [List.length_map, List.length_map, HVZ.out, HBL.out]) (u32v_one _) ?_; intro w7 hb3 hg3)
        replace HM := Lib.hid (show Mem w [blkE (w.heap.size + 1 + 1 + 1) 56 ((vz).map u32v), blkE (w.heap.size + 1 + 1) 46 (zw 8), blkE (w.heap.size + 1) 57 (m.map u32v), blkE w.heap.size 46 (h.map u32v)] w7 from HM.out.put 0 rfl _ hg3 hb3)
        clear hb3 hg3 HCZ
        have HA := Lib.hid (HM.out.alloc rfl 46 #[.int .u32 0, .int .u32 0, .int .u32 0, .int .u32 0, .int .u32 0, .int .u32 0, .int .u32 0, .int .u32 0] (zw 8) rfl)
        go_upto_region 13 with (first | (refine wpList_load_blk rfl 46 (.tmp 4) rfl w.heap.size rfl 46 (h.map u32v) (HM.out.blk 3 rfl) 8 44 Tryd.underlying46 (cellsSt h HH.out) ?_; rw [HCH.out]) | (refine wpList_store_blk rfl 46 (.tmp 11) (.tmp 49) rfl w7.heap.size (h.map u32v) rfl (by show Value.agg ch = _; rw [HCH.out]) 46 (zw 8) (HA.out.blk 0 rfl) (cellsSt h HH.out) (by rw [List.length_map, HH.out]; rfl) (u32v_one _) ?_; intro w8 hb3 hg3))
        replace HM := Lib.hid (show Mem w [blkE w7.heap.size 46 (h.map u32v), blkE (w.heap.size + 1 + 1 + 1) 56 ((vz).map u32v), blkE (w.heap.size + 1 + 1) 46 (zw 8), blkE (w.heap.size + 1) 57 (m.map u32v), blkE w.heap.size 46 (h.map u32v)] w8 from HA.out.put 0 rfl _ hg3 hb3)
        clear hb3 hg3 HA
        generalize w7.heap.size = Q at HM ⊢
        go_wp2_with fail
        go_loopw [50, 12] (fun i _ wr => ∃ j : Nat, j ≤ 8 ∧ i = .int .i64 (j : Int) ∧ Mem w [blkE Q 46 ((hdP h vz j).map u32v), blkE (w.heap.size + 1 + 1 + 1) 56 ((vz).map u32v), blkE (w.heap.size + 1 + 1) 46 (zw 8), blkE (w.heap.size + 1) 57 (m.map u32v), blkE w.heap.size 46 (h.map u32v)] wr) (fun i _ _ => 8 - (intOf i).toNat)
        case atStart => exact ⟨0, by omega, rfl, HM.out⟩
        case round =>
          clear HM
          obtain ⟨j, hj, rfl, hM⟩ := hrel
          have HM := Lib.hid hM
          clear hM
          by_cases hlt : j < 8
          · have d8 : decide ((j : Int) < 8) = true := by simp; omega
            have e8 : IntKind.i64.wrap ((j : Int) + 8) = (j : Int) + 8 := IntWalk.i64_in _ (by omega)
            have b8 : (j : Int) + 8 < 16 := by omega
            have b9 : (j : Int) < 16 := by omega
            have b10 : (j : Int) < 8 := by omega
            have b11 : (0 : Int) ≤ (j : Int) + 8 := by omega
            have b12 : ((j : Int) + 8).toNat = j + 8 := by omega
            obtain ⟨X, hX⟩ : ∃ x, wd (hdP h vz j) j = x := ⟨_, rfl⟩
            obtain ⟨Y, hY⟩ : ∃ x, wd vz j = x := ⟨_, rfl⟩
            obtain ⟨Z, hZ⟩ : ∃ x, wd vz (j + 8) = x := ⟨_, rfl⟩
            obtain ⟨U, hU⟩ : ∃ x, Y ^^^ Z = x := ⟨_, rfl⟩
            obtain ⟨V, hV⟩ : ∃ x, X ^^^ U = x := ⟨_, rfl⟩
            have x1 : bits BinOp.xor IntKind.u32 (Y.toNat : Int) (Z.toNat : Int) = (U.toNat : Int) := by rw [← hU]; exact u32_xor Y Z
            have x2 : bits BinOp.xor IntKind.u32 (X.toNat : Int) (U.toNat : Int) = (V.toNat : Int) := by rw [← hV]; exact u32_xor X U
            have HV := Lib.hid (show wd (hdP h vz j) j ^^^ (wd vz j ^^^ wd vz (j + 8)) = V by rw [hX, hY, hZ, hU, hV])
            clear hU hV
            go_upto_region 16 with fail
            refine wp_region_held_drew (S := fun W' => Mem w [blkE (w.heap.size + 1 + 1 + 1) 56 ((vz).map u32v), blkE (w.heap.size + 1 + 1) 46 (zw 8), blkE (w.heap.size + 1) 57 (m.map u32v), blkE w.heap.size 46 (h.map u32v)] W') (by kernel_rfl) (((HM.out.erase 0)).drew) (fun hHeld => ?_)
            replace HM := Lib.hid HM.out.drew
            generalize wr.drew = wd1 at HM hHeld ⊢
            refine take_first (v := ?_) 0 rfl (by kernel_rfl) (by kernel_rfl) (by kernel_rfl) (fun _ _ _ h => h) (Or.inl ⟨by rfl, ?_⟩) (by assumption) ?_
            rotate_left
            · (intro w hSw; (try dsimp only at hSw); go_simp; try with_reducible rfl)
            (try simp only [Act.put, List.setIfInBounds_toArray, List.set_cons_zero, List.set_cons_succ])
            refine take_first (v := ?_) 1 rfl (by kernel_rfl) (by kernel_rfl) (by kernel_rfl) (fun _ _ _ h => h) (Or.inl ⟨by rfl, ?_⟩) (by assumption) ?_
            rotate_left
            · (intro w hSw; (try dsimp only at hSw); go_simp; try with_reducible rfl)
            (try simp only [Act.put, List.setIfInBounds_toArray, List.set_cons_zero, List.set_cons_succ])
            refine take_first (v := ?_) 3 rfl (by kernel_rfl) (by kernel_rfl) (by kernel_rfl) (fun _ _ _ h => h) (Or.inl ⟨by rfl, ?_⟩) (by assumption) ?_
            rotate_left
            · (intro w hSw; (try dsimp only at hSw); go_simp; try with_reducible rfl)
            (try simp only [Act.put, List.setIfInBounds_toArray, List.set_cons_zero, List.set_cons_succ])
            refine take_first (v := ?_) 4 rfl (by kernel_rfl) (by kernel_rfl) (by kernel_rfl) (fun _ _ _ h => h) (Or.inl ⟨by rfl, ?_⟩) (by assumption) ?_
            rotate_left
            · (intro w hSw; (try dsimp only at hSw); go_simp; try with_reducible rfl)
            (try simp only [Act.put, List.setIfInBounds_toArray, List.set_cons_zero, List.set_cons_succ])
            refine take_first (v := ?_) 5 rfl (by kernel_rfl) (by kernel_rfl) (by kernel_rfl) (fun _ _ _ h => h) (Or.inl ⟨by rfl, ?_⟩) (by assumption) ?_
            rotate_left
            · (intro w hSw; (try dsimp only at hSw); have fx := (Mem.blk hSw 0 rfl).word j (by rw [HVZ.out]; omega); rw [hY] at fx; go_simp; try with_reducible rfl)
            (try simp only [Act.put, List.setIfInBounds_toArray, List.set_cons_zero, List.set_cons_succ])
            refine take_first (v := ?_) 6 rfl (by kernel_rfl) (by kernel_rfl) (by kernel_rfl) (fun _ _ _ h => h) (Or.inl ⟨by rfl, ?_⟩) (by assumption) ?_
            rotate_left
            · (intro w hSw; (try dsimp only at hSw); go_simp; try with_reducible rfl)
            (try simp only [Act.put, List.setIfInBounds_toArray, List.set_cons_zero, List.set_cons_succ])
            refine take_first (v := ?_) 7 rfl (by kernel_rfl) (by kernel_rfl) (by kernel_rfl) (fun _ _ _ h => h) (Or.inl ⟨by rfl, ?_⟩) (by assumption) ?_
            rotate_left
            · (intro w hSw; (try dsimp only at hSw); go_simp; try with_reducible rfl)
            (try simp only [Act.put, List.setIfInBounds_toArray, List.set_cons_zero, List.set_cons_succ])
            refine take_first (v := ?_) 8 rfl (by kernel_rfl) (by kernel_rfl) (by kernel_rfl) (fun _ _ _ h => h) (Or.inl ⟨by rfl, ?_⟩) (by assumption) ?_
            rotate_left
            · (intro w hSw; (try dsimp only at hSw); go_simp; try with_reducible rfl)
            (try simp only [Act.put, List.setIfInBounds_toArray, List.set_cons_zero, List.set_cons_succ])
            refine take_first (v := ?_) 9 rfl (by kernel_rfl) (by kernel_rfl) (by kernel_rfl) (fun _ _ _ h => h) (Or.inl ⟨by rfl, ?_⟩) (by assumption) ?_
            rotate_left
            · (intro w hSw; (try dsimp only at hSw); have fx := (Mem.blk hSw 0 rfl).word (j + 8) (by rw [HVZ.out]; omega); rw [hZ] at fx; go_simp; try with_reducible rfl)
            (try simp only [Act.put, List.setIfInBounds_toArray, List.set_cons_zero, List.set_cons_succ])
            refine take_first (v := ?_) 10 rfl (by kernel_rfl) (by kernel_rfl) (by kernel_rfl) (fun _ _ _ h => h) (Or.inl ⟨by rfl, ?_⟩) (by assumption) ?_
            rotate_left
            · (intro w hSw; (try dsimp only at hSw); go_simp; try with_reducible rfl)
            (try simp only [Act.put, List.setIfInBounds_toArray, List.set_cons_zero, List.set_cons_succ])
            refine take_load (v := ?_) [] 2 rfl (by kernel_rfl) (by kernel_rfl) (by kernel_rfl) (by kernel_rfl) (by kernel_rfl) (fun _ _ _ h => h) (Or.inl ⟨by rfl, ?_⟩) (by assumption) ?_
            rotate_left
            · (intro w hSw; subst hSw; have fx := (HM.out.blk 0 rfl).word j (by rw [hdP_length, HH.out]; exact hlt); rw [hX] at fx; go_simp; try with_reducible rfl)
            (try simp only [Act.put, List.setIfInBounds_toArray, List.set_cons_zero, List.set_cons_succ])
            refine take_first (v := ?_) 11 rfl (by kernel_rfl) (by kernel_rfl) (by kernel_rfl) (fun _ _ _ h => h) (Or.inl ⟨by rfl, ?_⟩) (by assumption) ?_
            rotate_left
            · (intro w hSw; (try dsimp only at hSw); go_simp; try with_reducible rfl)
            (try simp only [Act.put, List.setIfInBounds_toArray, List.set_cons_zero, List.set_cons_succ])
            refine take_first (v := ?_) 12 rfl (by kernel_rfl) (by kernel_rfl) (by kernel_rfl) (fun _ _ _ h => h) (Or.inl ⟨by rfl, ?_⟩) (by assumption) ?_
            rotate_left
            · (intro w hSw; (try dsimp only at hSw); go_simp; try with_reducible rfl)
            (try simp only [Act.put, List.setIfInBounds_toArray, List.set_cons_zero, List.set_cons_succ])
            refine step_one 13 rfl (by kernel_rfl) (fun K hK => ?_)
            clear hHeld
            have fx := (HM.out.blk 0 rfl).word j (by rw [hdP_length, HH.out]; exact hlt)
            have zx := (HM.out.blk 0 rfl).frozen j
            go_simp
            replace HM := Lib.hid (show Mem w [blkE Q 46 (((hdP h vz j).set j V).map u32v), blkE (w.heap.size + 1 + 1 + 1) 56 ((vz).map u32v), blkE (w.heap.size + 1 + 1) 46 (zw 8), blkE (w.heap.size + 1) 57 (m.map u32v), blkE w.heap.size 46 (h.map u32v)] (wd1.setCell ⟨Q, j, none⟩ (.int .u32 ((V).toNat : Int))) from by have h := HM.out.setCell 0 rfl j (u32v (V)); rw [← List.map_set] at h; exact h)
            clear fx zx
            generalize wd1.setCell ⟨Q, j, none⟩ (.int .u32 ((V).toNat : Int)) = wy2 at HM ⊢
            refine hK.out _ _ ((HM.out.erase 0)) (fun hHeld => ?_)
            clear hK K
            (try simp only [Act.put])
            refine wpAnyH_done (by kernel_rfl) ?_ _
            replace HM := Lib.hid (show Mem w [blkE Q 46 ((hdP h vz (j + 1)).map u32v), blkE (w.heap.size + 1 + 1 + 1) 56 ((vz).map u32v), blkE (w.heap.size + 1 + 1) 46 (zw 8), blkE (w.heap.size + 1) 57 (m.map u32v), blkE w.heap.size 46 (h.map u32v)] wy2 from by have h := HM.out; rw [← HV.out] at h; exact h)
            go_wp2
            go_roundw
            case rel => exact ⟨j + 1, by omega, by go_num, HM.out⟩
            case measure => simp [intOf]; omega
          · obtain rfl : j = 8 := by omega
            have HCE := Lib.hid (show hdP h vz 8 = compM h m t f by rw [hdP_end h vz HH.out, ← HVE.out, ← HBE.out]; rfl)
            rw [HCE.out] at HM
            have HCL := Lib.hid (compM_length h m t f)
            obtain ⟨hz, hhz⟩ : ∃ x, compM h m t f = x := ⟨_, rfl⟩
            rw [hhz] at HM HCL
            have HHZ := Lib.hid hhz
            clear hhz HCE
            obtain ⟨cz, hcz⟩ : ∃ c, (hz.map u32v).toArray = c := ⟨_, rfl⟩
            have HCZ := Lib.hid hcz
            clear hcz
            rw [show ((8 : Nat) : Int) = 8 from rfl]
            go_wp2_with (first | (refine wpList_load_blk rfl 46 (.tmp 11) rfl Q rfl 46 (hz.map u32v) (HM.out.blk 0 rfl) 8 44 Tryd.underlying46 (cellsSt hz HCL.out) ?_; rw [HCZ.out]) | (refine wpList_store_blk rfl 46 (.tmp 8) (.tmp 67) rfl (w.heap.size + 1 + 1) (hz.map u32v) rfl (by show Value.agg cz = _; rw [HCZ.out]) 46 (zw 8) (HM.out.blk 2 rfl) (cellsSt hz HCL.out) (by rw [List.length_map, HCL.out]; rfl) (u32v_one _) ?_; intro w9 hb9 hg9))
            exact bodyPost_ret (results_blk rfl _ _ (w.heap.size + 1 + 1) 46 (hz.map u32v) 8 44 rfl hb9 Tryd.underlying46 (cellsSt hz HCL.out)) rfl ⟨by rw [HHZ.out], (HM.out.put 2 rfl _ hg9 hb9).bel⟩
end Go.Proofs.YtbochejgjmjieaaDoor
