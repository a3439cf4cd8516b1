/-
  The contracts of the reference's right and mix. The contracts of the reference's initial words and permutations. The contracts of the reference's ReadLittle and Little. No statement is proved here.
-/
import Derived.Deep.QuietTactic
import Derived.BigQuiet
import Derived.RegionTactic
import Derived.BigRegion
import Derived.Deep.RegionWith
import Derived.Deep.DeepCutAuto
import Derived.Laws.ShiftsVarLaws
import Derived.Test.YtlddafkikkaonaaGreatDoorMacsRepliesB2
namespace Go.Proofs.YtlddafkikkaonaaGreatDoor
open Go.RowKit
theorem rotr_toNat (x : UInt32) (n : Nat) (h0 : 0 < n) (h : n < 32) : (rotr x n).toNat = (x.toNat / 2 ^ n) ||| (x.toNat * 2 ^ (32 - n) % 4294967296) := by
 unfold rotr
 rw [UInt32.toNat_or, UInt32.toNat_shiftLeft, UInt32.toNat_shiftRight, UInt32.toNat_ofNat', UInt32.toNat_ofNat', Nat.mod_eq_of_lt (show n < 2 ^ 32 by omega), Nat.mod_eq_of_lt (show 32 - n < 2 ^ 32 by omega), Nat.mod_eq_of_lt h, Nat.mod_eq_of_lt (show 32 - n < 32 by omega), Nat.shiftLeft_eq, Nat.shiftRight_eq_div_pow]
theorem u32_rotr (x : UInt32) (n : Nat) (h0 : 0 < n) (h : n < 32) : bits BinOp.or IntKind.u32 ((x.toNat : Int) / 2 ^ n) ((x.toNat : Int) * 2 ^ (32 - n) % 4294967296) = ((rotr x n).toNat : Int) := by
 have hx := x.toNat_lt
 rw [rotr_toNat x n h0 h, ← u32_or_nat _ _ (Nat.lt_of_le_of_lt (Nat.div_le_self _ _) (by omega)) (by omega)]
 simp
set_option maxRecDepth 100000 in
theorem refRight_any (x : UInt32) (n : Nat) (h0 : 0 < n) (h : n < 32) (w : World) :
 Calls Tryz.prog 97 #[.int .u32 (x.toNat : Int), .int .i64 (n : Int)] w fun e w' => e = .returned (.int .u32 ((rotr x n).toNat : Int)) ∧ Below w.heap.size w w' := by
 have hx : x.toNat < 4294967296 := x.toNat_lt
 have hn : (0 : Int) ≤ 32 - (n : Int) := by omega
 have HR := Lib.hid (u32_rotr x n h0 h)
 go_enter Tryz.func97, Tryz.ntmps97
 go_wp2
 go_quiet (fail)
 go_wp2
 rw [HR.out]
 go_ret
 exact ⟨rfl, below_drewN (Below.refl _ _) _⟩
theorem cellsW16 (l : List UInt32) (h : l.length = 16) : (Tryz.prog.info? 86).map (·.size) = some (l.map u32v).length := by
 rw [List.length_map, h]; kernel_rfl
set_option maxRecDepth 100000 in
set_option maxHeartbeats 8000000 in
theorem refMix_any (l0 : List UInt32) (hl : l0.length = 16) (a b c d : Nat) (ha : a < 16) (hb : b < 16) (hc : c < 16) (hd : d < 16) (x y : UInt32) (w : World) :
 Calls Tryz.prog 82 #[.agg (l0.map u32v).toArray, .int .i64 (a : Int), .int .i64 (b : Int), .int .i64 (c : Int), .int .i64 (d : Int), .int .u32 (x.toNat : Int), .int .u32 (y.toNat : Int)] w fun e w' => e = .returned (.agg ((mixB l0 a b c d x y).map u32v).toArray) ∧ Below w.heap.size w w' := by
 obtain ⟨cl, hcl⟩ : ∃ cl, (l0.map u32v).toArray = cl := ⟨_, rfl⟩
 rw [hcl]
 have HM := Lib.hid (show Mem w [blkE (w.heap.size + 1) 86 (zw 16), blkE w.heap.size 86 (l0.map u32v)] ((w.alloc (.cells cl 86)).alloc (.cells zw16_ 86)) from ((Mem.nil w).alloc rfl 86 cl (l0.map u32v) hcl.symm).alloc (by simp) 86 zw16_ (zw 16) rfl)
 obtain ⟨lz, hlz⟩ : ∃ lz, mixB l0 a b c d x y = lz := ⟨_, rfl⟩
 rw [hlz]
 have HLZ := Lib.hid hlz
 have HL0 := Lib.hid hl
 have ia : (a : Int) < 16 := by omega
 have ib : (b : Int) < 16 := by omega
 have ic : (c : Int) < 16 := by omega
 have id : (d : Int) < 16 := by omega
 clear hlz hl hcl
 go_enter Tryz.func82, Tryz.ntmps82
 go_upto_region 1 with fail
 generalize ((w.alloc (.cells cl 86)).alloc (.cells zw16_ 86)) = wc0 at HM ⊢
 go_cut [] (fun wx => Mem w [blkE (w.heap.size + 1) 86 (zw 16), blkE w.heap.size 86 ((addX l0 a b x).map u32v)] wx)
 case first =>
  obtain ⟨X, hX⟩ : ∃ x, wd l0 a = x := ⟨_, rfl⟩
  obtain ⟨Y, hY⟩ : ∃ x, wd l0 b = x := ⟨_, rfl⟩
  obtain ⟨P, hP⟩ : ∃ p, X + Y = p := ⟨_, rfl⟩
  have e1 : ((X.toNat : Int) + (Y.toNat : Int)) % 4294967296 = (P.toNat : Int) := by rw [← hP]; exact u32_sum X Y
  have e2 : IntKind.u32.wrap ((X.toNat : Int) + (Y.toNat : Int)) = (P.toNat : Int) := by rw [← hP]; exact u32_add X Y
  obtain ⟨V, hV⟩ : ∃ p, P + x = p := ⟨_, rfl⟩
  have e3 : ((P.toNat : Int) + (x.toNat : Int)) % 4294967296 = (V.toNat : Int) := by rw [← hV]; exact u32_sum P x
  have e4 : IntKind.u32.wrap ((P.toNat : Int) + (x.toNat : Int)) = (V.toNat : Int) := by rw [← hV]; exact u32_add P x
  have HV := Lib.hid (show wd l0 a + wd l0 b + x = V by rw [hX, hY, hP, hV])
  clear hP hV
  refine wp_region_held_drew (S := fun W' => Mem w [blkE (w.heap.size + 1) 86 (zw 16)] W') (by kernel_rfl) (((HM.out.erase 1)).drew) (fun hHeld => ?_)
  replace HM := Lib.hid HM.out.drew
  generalize wc0.drew = wd1 at HM hHeld ⊢
  refine tf (v := ?_) 0 rfl (Or.inl ⟨by rfl, ?_⟩) ?_
  rotate_left
  · (intro w hSw; (try dsimp only at hSw); go_simp; try with_reducible rfl)
  (try simp only [Act.put, sA, s0, s1])
  refine tf (v := ?_) 1 rfl (Or.inl ⟨by rfl, ?_⟩) ?_
  rotate_left
  · (intro w hSw; (try dsimp only at hSw); go_simp; try with_reducible rfl)
  (try simp only [Act.put, sA, s0, s1])
  refine tf (v := ?_) 2 rfl (Or.inl ⟨by rfl, ?_⟩) ?_
  rotate_left
  · (intro w hSw; (try dsimp only at hSw); go_simp; try with_reducible rfl)
  (try simp only [Act.put, sA, s0, s1])
  refine tf (v := ?_) 4 rfl (Or.inl ⟨by rfl, ?_⟩) ?_
  rotate_left
  · (intro w hSw; (try dsimp only at hSw); go_simp; try with_reducible rfl)
  (try simp only [Act.put, sA, s0, s1])
  refine tf (v := ?_) 5 rfl (Or.inl ⟨by rfl, ?_⟩) ?_
  rotate_left
  · (intro w hSw; (try dsimp only at hSw); go_simp; try with_reducible rfl)
  (try simp only [Act.put, sA, s0, s1])
  refine tf (v := ?_) 8 rfl (Or.inl ⟨by rfl, ?_⟩) ?_
  rotate_left
  · (intro w hSw; (try dsimp only at hSw); go_simp; try with_reducible rfl)
  (try simp only [Act.put, sA, s0, s1])
  refine step_two 3 6 rfl rfl (by kernel_rfl) (fun K hK => ?_) (fun K hK => ?_)
  ·
   clear hHeld
   have fx := (HM.out.blk 1 rfl).word a (by rw [HL0.out]; exact ha)
   rw [hX] at fx
   go_simp
   refine hK.out _ _ ((HM.out.erase 1)) (fun hHeld => ?_)
   clear hK K
   (try simp only [Act.put, sA, s0, s1])
   clear fx
   refine so 6 rfl fun K hK => ?_
   clear hHeld
   have fx := (HM.out.blk 1 rfl).word b (by rw [HL0.out]; exact hb)
   rw [hY] at fx
   go_simp
   refine hK.out _ _ ((HM.out.erase 1)) (fun hHeld => ?_)
   clear hK K
   (try simp only [Act.put, sA, s0, s1])
   clear fx
   refine tf (v := ?_) 7 rfl (Or.inl ⟨by rfl, ?_⟩) ?_
   rotate_left
   · (intro w hSw; (try dsimp only at hSw); go_simp; try with_reducible rfl)
   (try simp only [Act.put, sA, s0, s1])
   refine tf (v := ?_) 9 rfl (Or.inl ⟨by rfl, ?_⟩) ?_
   rotate_left
   · (intro w hSw; (try dsimp only at hSw); go_simp; try with_reducible rfl)
   (try simp only [Act.put, sA, s0, s1])
   refine tf (v := ?_) 10 rfl (Or.inl ⟨by rfl, ?_⟩) ?_
   rotate_left
   · (intro w hSw; (try dsimp only at hSw); go_simp; try with_reducible rfl)
   (try simp only [Act.put, sA, s0, s1])
   refine so 11 rfl fun K hK => ?_
   clear hHeld
   have fx := (HM.out.blk 1 rfl).word a (by rw [HL0.out]; exact ha)
   have zx := (HM.out.blk 1 rfl).frozen a
   go_simp
   replace HM := Lib.hid (show Mem w [blkE (w.heap.size + 1) 86 (zw 16), blkE w.heap.size 86 ((l0.set a (V)).map u32v)] (wd1.setCell ⟨w.heap.size, a, none⟩ (.int .u32 ((V).toNat : Int))) from by have h := HM.out.setCell 1 rfl a (u32v (V)); rw [← List.map_set] at h; exact h)
   clear fx zx
   generalize wd1.setCell ⟨w.heap.size, a, none⟩ (.int .u32 ((V).toNat : Int)) = wy2 at HM ⊢
   refine hK.out _ _ ((HM.out.erase 1)) (fun hHeld => ?_)
   clear hK K
   (try simp only [Act.put])
   refine wpAnyH_done (by kernel_rfl) ?_ _
   go_wp2
   go_meet
   have h := HM.out
   rw [← HV.out] at h
   exact h
  ·
   clear hHeld
   have fx := (HM.out.blk 1 rfl).word b (by rw [HL0.out]; exact hb)
   rw [hY] at fx
   go_simp
   refine hK.out _ _ ((HM.out.erase 1)) (fun hHeld => ?_)
   clear hK K
   (try simp only [Act.put, sA, s0, s1])
   clear fx
   refine so 3 rfl fun K hK => ?_
   clear hHeld
   have fx := (HM.out.blk 1 rfl).word a (by rw [HL0.out]; exact ha)
   rw [hX] at fx
   go_simp
   refine hK.out _ _ ((HM.out.erase 1)) (fun hHeld => ?_)
   clear hK K
   (try simp only [Act.put, sA, s0, s1])
   clear fx
   refine tf (v := ?_) 7 rfl (Or.inl ⟨by rfl, ?_⟩) ?_
   rotate_left
   · (intro w hSw; (try dsimp only at hSw); go_simp; try with_reducible rfl)
   (try simp only [Act.put, sA, s0, s1])
   refine tf (v := ?_) 9 rfl (Or.inl ⟨by rfl, ?_⟩) ?_
   rotate_left
   · (intro w hSw; (try dsimp only at hSw); go_simp; try with_reducible rfl)
   (try simp only [Act.put, sA, s0, s1])
   refine tf (v := ?_) 10 rfl (Or.inl ⟨by rfl, ?_⟩) ?_
   rotate_left
   · (intro w hSw; (try dsimp only at hSw); go_simp; try with_reducible rfl)
   (try simp only [Act.put, sA, s0, s1])
   refine so 11 rfl fun K hK => ?_
   clear hHeld
   have fx := (HM.out.blk 1 rfl).word a (by rw [HL0.out]; exact ha)
   have zx := (HM.out.blk 1 rfl).frozen a
   go_simp
   replace HM := Lib.hid (show Mem w [blkE (w.heap.size + 1) 86 (zw 16), blkE w.heap.size 86 ((l0.set a (V)).map u32v)] (wd1.setCell ⟨w.heap.size, a, none⟩ (.int .u32 ((V).toNat : Int))) from by have h := HM.out.setCell 1 rfl a (u32v (V)); rw [← List.map_set] at h; exact h)
   clear fx zx
   generalize wd1.setCell ⟨w.heap.size, a, none⟩ (.int .u32 ((V).toNat : Int)) = wy2 at HM ⊢
   refine hK.out _ _ ((HM.out.erase 1)) (fun hHeld => ?_)
   clear hK K
   (try simp only [Act.put])
   refine wpAnyH_done (by kernel_rfl) ?_ _
   go_wp2
   go_meet
   have h := HM.out
   rw [← HV.out] at h
   exact h
 case rest =>
  obtain ⟨l1, hl1⟩ : ∃ l, addX l0 a b x = l := ⟨_, rfl⟩
  rw [hl1] at hcut
  have HL1 := Lib.hid (show l1.length = 16 by rw [← hl1]; exact (List.length_set).trans HL0.out)
  have E1 := Lib.hid hl1
  clear hl1 HM
  have HM := Lib.hid hcut
  clear hcut
  generalize hwn : wc = wc1 at HM ⊢
  clear hwn
  go_upto_region 2 with fail
  go_cut [] (fun wx => Mem w [blkE (w.heap.size + 1) 86 (zw 16), blkE w.heap.size 86 ((xrot l1 d a 16).map u32v)] wx)
  case first =>
   obtain ⟨X, hX⟩ : ∃ x, wd l1 d = x := ⟨_, rfl⟩
   obtain ⟨Y, hY⟩ : ∃ x, wd l1 a = x := ⟨_, rfl⟩
   obtain ⟨P, hP⟩ : ∃ p, X ^^^ Y = p := ⟨_, rfl⟩
   have e1 : bits BinOp.xor IntKind.u32 (X.toNat : Int) (Y.toNat : Int) = (P.toNat : Int) := by rw [← hP]; exact u32_xor X Y
   obtain ⟨V, hV⟩ : ∃ p, rotr P 16 = p := ⟨_, rfl⟩
   have RC := Lib.hid (fun w' : World => refRight_any P 16 (by omega) (by omega) w')
   rw [hV] at RC
   have HV := Lib.hid (show rotr (wd l1 d ^^^ wd l1 a) 16 = V by rw [hX, hY, hP, hV])
   clear hP hV
   refine wp_region_held_drew (S := fun W' => Mem w [blkE (w.heap.size + 1) 86 (zw 16)] W') (by kernel_rfl) (((HM.out.erase 1)).drew) (fun hHeld => ?_)
   replace HM := Lib.hid HM.out.drew
   generalize wc1.drew = wd1 at HM hHeld ⊢
   refine tf (v := ?_) 0 rfl (Or.inl ⟨by rfl, ?_⟩) ?_
   rotate_left
   · (intro w hSw; (try dsimp only at hSw); go_simp; try with_reducible rfl)
   (try simp only [Act.put, sA, s0, s1])
   refine tf (v := ?_) 1 rfl (Or.inl ⟨by rfl, ?_⟩) ?_
   rotate_left
   · (intro w hSw; (try dsimp only at hSw); go_simp; try with_reducible rfl)
   (try simp only [Act.put, sA, s0, s1])
   refine tf (v := ?_) 2 rfl (Or.inl ⟨by rfl, ?_⟩) ?_
   rotate_left
   · (intro w hSw; (try dsimp only at hSw); go_simp; try with_reducible rfl)
   (try simp only [Act.put, sA, s0, s1])
   refine tf (v := ?_) 4 rfl (Or.inl ⟨by rfl, ?_⟩) ?_
   rotate_left
   · (intro w hSw; (try dsimp only at hSw); go_simp; try with_reducible rfl)
   (try simp only [Act.put, sA, s0, s1])
   refine tf (v := ?_) 5 rfl (Or.inl ⟨by rfl, ?_⟩) ?_
   rotate_left
   · (intro w hSw; (try dsimp only at hSw); go_simp; try with_reducible rfl)
   (try simp only [Act.put, sA, s0, s1])
   refine step_two 3 6 rfl rfl (by kernel_rfl) (fun K hK => ?_) (fun K hK => ?_)
   ·
    clear hHeld
    have fx := (HM.out.blk 1 rfl).word d (by rw [HL1.out]; exact hd)
    rw [hX] at fx
    go_simp
    refine hK.out _ _ ((HM.out.erase 1)) (fun hHeld => ?_)
    clear hK K
    (try simp only [Act.put, sA, s0, s1])
    clear fx
    refine so 6 rfl fun K hK => ?_
    clear hHeld
    have fx := (HM.out.blk 1 rfl).word a (by rw [HL1.out]; exact ha)
    rw [hY] at fx
    go_simp
    refine hK.out _ _ ((HM.out.erase 1)) (fun hHeld => ?_)
    clear hK K
    (try simp only [Act.put, sA, s0, s1])
    clear fx
    refine tf (v := ?_) 7 rfl (Or.inl ⟨by rfl, ?_⟩) ?_
    rotate_left
    · (intro w hSw; (try dsimp only at hSw); go_simp; try with_reducible rfl)
    (try simp only [Act.put, sA, s0, s1])
    refine so 8 rfl fun K hK => ?_
    clear hHeld
    go_simp
    refine (RC.out _).mono ?_
    rintro e wy2 ⟨rfl, hb⟩
    replace HM := Lib.hid (show Mem w [blkE (w.heap.size + 1) 86 (zw 16), blkE w.heap.size 86 (l1.map u32v)] wy2 from HM.out.below hb)
    clear hb
    go_wp2_with fail
    refine hK.out _ _ ((HM.out.erase 1)) (fun hHeld => ?_)
    clear hK K
    (try simp only [Act.put, sA, s0, s1])
    refine tf (v := ?_) 9 rfl (Or.inl ⟨by rfl, ?_⟩) ?_
    rotate_left
    · (intro w hSw; (try dsimp only at hSw); go_simp; try with_reducible rfl)
    (try simp only [Act.put, sA, s0, s1])
    refine so 10 rfl fun K hK => ?_
    clear hHeld
    have fx := (HM.out.blk 1 rfl).word d (by rw [HL1.out]; exact hd)
    have zx := (HM.out.blk 1 rfl).frozen d
    go_simp
    replace HM := Lib.hid (show Mem w [blkE (w.heap.size + 1) 86 (zw 16), blkE w.heap.size 86 ((l1.set d (V)).map u32v)] (wy2.setCell ⟨w.heap.size, d, none⟩ (.int .u32 ((V).toNat : Int))) from by have h := HM.out.setCell 1 rfl d (u32v (V)); rw [← List.map_set] at h; exact h)
    clear fx zx
    generalize wy2.setCell ⟨w.heap.size, d, none⟩ (.int .u32 ((V).toNat : Int)) = wy3 at HM ⊢
    refine hK.out _ _ ((HM.out.erase 1)) (fun hHeld => ?_)
    clear hK K
    (try simp only [Act.put])
    refine wpAnyH_done (by kernel_rfl) ?_ _
    go_wp2
    go_meet
    have h := HM.out
    rw [← HV.out] at h
    exact h
   ·
    clear hHeld
    have fx := (HM.out.blk 1 rfl).word a (by rw [HL1.out]; exact ha)
    rw [hY] at fx
    go_simp
    refine hK.out _ _ ((HM.out.erase 1)) (fun hHeld => ?_)
    clear hK K
    (try simp only [Act.put, sA, s0, s1])
    clear fx
    refine so 3 rfl fun K hK => ?_
    clear hHeld
    have fx := (HM.out.blk 1 rfl).word d (by rw [HL1.out]; exact hd)
    rw [hX] at fx
    go_simp
    refine hK.out _ _ ((HM.out.erase 1)) (fun hHeld => ?_)
    clear hK K
    (try simp only [Act.put, sA, s0, s1])
    clear fx
    refine tf (v := ?_) 7 rfl (Or.inl ⟨by rfl, ?_⟩) ?_
    rotate_left
    · (intro w hSw; (try dsimp only at hSw); go_simp; try with_reducible rfl)
    (try simp only [Act.put, sA, s0, s1])
    refine so 8 rfl fun K hK => ?_
    clear hHeld
    go_simp
    refine (RC.out _).mono ?_
    rintro e wy2 ⟨rfl, hb⟩
    replace HM := Lib.hid (show Mem w [blkE (w.heap.size + 1) 86 (zw 16), blkE w.heap.size 86 (l1.map u32v)] wy2 from HM.out.below hb)
    clear hb
    go_wp2_with fail
    refine hK.out _ _ ((HM.out.erase 1)) (fun hHeld => ?_)
    clear hK K
    (try simp only [Act.put, sA, s0, s1])
    refine tf (v := ?_) 9 rfl (Or.inl ⟨by rfl, ?_⟩) ?_
    rotate_left
    · (intro w hSw; (try dsimp only at hSw); go_simp; try with_reducible rfl)
    (try simp only [Act.put, sA, s0, s1])
    refine so 10 rfl fun K hK => ?_
    clear hHeld
    have fx := (HM.out.blk 1 rfl).word d (by rw [HL1.out]; exact hd)
    have zx := (HM.out.blk 1 rfl).frozen d
    go_simp
    replace HM := Lib.hid (show Mem w [blkE (w.heap.size + 1) 86 (zw 16), blkE w.heap.size 86 ((l1.set d (V)).map u32v)] (wy2.setCell ⟨w.heap.size, d, none⟩ (.int .u32 ((V).toNat : Int))) from by have h := HM.out.setCell 1 rfl d (u32v (V)); rw [← List.map_set] at h; exact h)
    clear fx zx
    generalize wy2.setCell ⟨w.heap.size, d, none⟩ (.int .u32 ((V).toNat : Int)) = wy3 at HM ⊢
    refine hK.out _ _ ((HM.out.erase 1)) (fun hHeld => ?_)
    clear hK K
    (try simp only [Act.put])
    refine wpAnyH_done (by kernel_rfl) ?_ _
    go_wp2
    go_meet
    have h := HM.out
    rw [← HV.out] at h
    exact h
  case rest =>
   obtain ⟨l2, hl2⟩ : ∃ l, xrot l1 d a 16 = l := ⟨_, rfl⟩
   rw [hl2] at hcut
   have HL2 := Lib.hid (show l2.length = 16 by rw [← hl2]; exact (List.length_set).trans HL1.out)
   have E2 := Lib.hid hl2
   clear hl2 HM
   have HM := Lib.hid hcut
   clear hcut
   generalize hwn : wc = wc2 at HM ⊢
   clear hwn
   go_upto_region 3 with fail
   go_cut [] (fun wx => Mem w [blkE (w.heap.size + 1) 86 (zw 16), blkE w.heap.size 86 ((addW l2 c d).map u32v)] wx)
   case first =>
    obtain ⟨X, hX⟩ : ∃ x, wd l2 c = x := ⟨_, rfl⟩
    obtain ⟨Y, hY⟩ : ∃ x, wd l2 d = x := ⟨_, rfl⟩
    obtain ⟨P, hP⟩ : ∃ p, X + Y = p := ⟨_, rfl⟩
    have e1 : ((X.toNat : Int) + (Y.toNat : Int)) % 4294967296 = (P.toNat : Int) := by rw [← hP]; exact u32_sum X Y
    have e2 : IntKind.u32.wrap ((X.toNat : Int) + (Y.toNat : Int)) = (P.toNat : Int) := by rw [← hP]; exact u32_add X Y
    have HV := Lib.hid (show wd l2 c + wd l2 d = P by rw [hX, hY, hP])
    clear hP
    refine wp_region_held_drew (S := fun W' => Mem w [blkE (w.heap.size + 1) 86 (zw 16)] W') (by kernel_rfl) (((HM.out.erase 1)).drew) (fun hHeld => ?_)
    replace HM := Lib.hid HM.out.drew
    generalize wc2.drew = wd1 at HM hHeld ⊢
    refine tf (v := ?_) 0 rfl (Or.inl ⟨by rfl, ?_⟩) ?_
    rotate_left
    · (intro w hSw; (try dsimp only at hSw); go_simp; try with_reducible rfl)
    (try simp only [Act.put, sA, s0, s1])
    refine tf (v := ?_) 1 rfl (Or.inl ⟨by rfl, ?_⟩) ?_
    rotate_left
    · (intro w hSw; (try dsimp only at hSw); go_simp; try with_reducible rfl)
    (try simp only [Act.put, sA, s0, s1])
    refine tf (v := ?_) 2 rfl (Or.inl ⟨by rfl, ?_⟩) ?_
    rotate_left
    · (intro w hSw; (try dsimp only at hSw); go_simp; try with_reducible rfl)
    (try simp only [Act.put, sA, s0, s1])
    refine tf (v := ?_) 4 rfl (Or.inl ⟨by rfl, ?_⟩) ?_
    rotate_left
    · (intro w hSw; (try dsimp only at hSw); go_simp; try with_reducible rfl)
    (try simp only [Act.put, sA, s0, s1])
    refine tf (v := ?_) 5 rfl (Or.inl ⟨by rfl, ?_⟩) ?_
    rotate_left
    · (intro w hSw; (try dsimp only at hSw); go_simp; try with_reducible rfl)
    (try simp only [Act.put, sA, s0, s1])
    refine step_two 3 6 rfl rfl (by kernel_rfl) (fun K hK => ?_) (fun K hK => ?_)
    ·
     clear hHeld
     have fx := (HM.out.blk 1 rfl).word c (by rw [HL2.out]; exact hc)
     rw [hX] at fx
     go_simp
     refine hK.out _ _ ((HM.out.erase 1)) (fun hHeld => ?_)
     clear hK K
     (try simp only [Act.put, sA, s0, s1])
     clear fx
     refine so 6 rfl fun K hK => ?_
     clear hHeld
     have fx := (HM.out.blk 1 rfl).word d (by rw [HL2.out]; exact hd)
     rw [hY] at fx
     go_simp
     refine hK.out _ _ ((HM.out.erase 1)) (fun hHeld => ?_)
     clear hK K
     (try simp only [Act.put, sA, s0, s1])
     clear fx
     refine tf (v := ?_) 7 rfl (Or.inl ⟨by rfl, ?_⟩) ?_
     rotate_left
     · (intro w hSw; (try dsimp only at hSw); go_simp; try with_reducible rfl)
     (try simp only [Act.put, sA, s0, s1])
     refine tf (v := ?_) 8 rfl (Or.inl ⟨by rfl, ?_⟩) ?_
     rotate_left
     · (intro w hSw; (try dsimp only at hSw); go_simp; try with_reducible rfl)
     (try simp only [Act.put, sA, s0, s1])
     refine so 9 rfl fun K hK => ?_
     clear hHeld
     have fx := (HM.out.blk 1 rfl).word c (by rw [HL2.out]; exact hc)
     have zx := (HM.out.blk 1 rfl).frozen c
     go_simp
     replace HM := Lib.hid (show Mem w [blkE (w.heap.size + 1) 86 (zw 16), blkE w.heap.size 86 ((l2.set c (P)).map u32v)] (wd1.setCell ⟨w.heap.size, c, none⟩ (.int .u32 ((P).toNat : Int))) from by have h := HM.out.setCell 1 rfl c (u32v (P)); rw [← List.map_set] at h; exact h)
     clear fx zx
     generalize wd1.setCell ⟨w.heap.size, c, none⟩ (.int .u32 ((P).toNat : Int)) = wy2 at HM ⊢
     refine hK.out _ _ ((HM.out.erase 1)) (fun hHeld => ?_)
     clear hK K
     (try simp only [Act.put])
     refine wpAnyH_done (by kernel_rfl) ?_ _
     go_wp2
     go_meet
     have h := HM.out
     rw [← HV.out] at h
     exact h
    ·
     clear hHeld
     have fx := (HM.out.blk 1 rfl).word d (by rw [HL2.out]; exact hd)
     rw [hY] at fx
     go_simp
     refine hK.out _ _ ((HM.out.erase 1)) (fun hHeld => ?_)
     clear hK K
     (try simp only [Act.put, sA, s0, s1])
     clear fx
     refine so 3 rfl fun K hK => ?_
     clear hHeld
     have fx := (HM.out.blk 1 rfl).word c (by rw [HL2.out]; exact hc)
     rw [hX] at fx
     go_simp
     refine hK.out _ _ ((HM.out.erase 1)) (fun hHeld => ?_)
     clear hK K
     (try simp only [Act.put, sA, s0, s1])
     clear fx
     refine tf (v := ?_) 7 rfl (Or.inl ⟨by rfl, ?_⟩) ?_
     rotate_left
     · (intro w hSw; (try dsimp only at hSw); go_simp; try with_reducible rfl)
     (try simp only [Act.put, sA, s0, s1])
     refine tf (v := ?_) 8 rfl (Or.inl ⟨by rfl, ?_⟩) ?_
     rotate_left
     · (intro w hSw; (try dsimp only at hSw); go_simp; try with_reducible rfl)
     (try simp only [Act.put, sA, s0, s1])
     refine so 9 rfl fun K hK => ?_
     clear hHeld
     have fx := (HM.out.blk 1 rfl).word c (by rw [HL2.out]; exact hc)
     have zx := (HM.out.blk 1 rfl).frozen c
     go_simp
     replace HM := Lib.hid (show Mem w [blkE (w.heap.size + 1) 86 (zw 16), blkE w.heap.size 86 ((l2.set c (P)).map u32v)] (wd1.setCell ⟨w.heap.size, c, none⟩ (.int .u32 ((P).toNat : Int))) from by have h := HM.out.setCell 1 rfl c (u32v (P)); rw [← List.map_set] at h; exact h)
     clear fx zx
     generalize wd1.setCell ⟨w.heap.size, c, none⟩ (.int .u32 ((P).toNat : Int)) = wy2 at HM ⊢
     refine hK.out _ _ ((HM.out.erase 1)) (fun hHeld => ?_)
     clear hK K
     (try simp only [Act.put])
     refine wpAnyH_done (by kernel_rfl) ?_ _
     go_wp2
     go_meet
     have h := HM.out
     rw [← HV.out] at h
     exact h
   case rest =>
    obtain ⟨l3, hl3⟩ : ∃ l, addW l2 c d = l := ⟨_, rfl⟩
    rw [hl3] at hcut
    have HL3 := Lib.hid (show l3.length = 16 by rw [← hl3]; exact (List.length_set).trans HL2.out)
    have E3 := Lib.hid hl3
    clear hl3 HM
    have HM := Lib.hid hcut
    clear hcut
    generalize hwn : wc = wc3 at HM ⊢
    clear hwn
    go_upto_region 4 with fail
    go_cut [] (fun wx => Mem w [blkE (w.heap.size + 1) 86 (zw 16), blkE w.heap.size 86 ((xrot l3 b c 12).map u32v)] wx)
    case first =>
     obtain ⟨X, hX⟩ : ∃ x, wd l3 b = x := ⟨_, rfl⟩
     obtain ⟨Y, hY⟩ : ∃ x, wd l3 c = x := ⟨_, rfl⟩
     obtain ⟨P, hP⟩ : ∃ p, X ^^^ Y = p := ⟨_, rfl⟩
     have e1 : bits BinOp.xor IntKind.u32 (X.toNat : Int) (Y.toNat : Int) = (P.toNat : Int) := by rw [← hP]; exact u32_xor X Y
     obtain ⟨V, hV⟩ : ∃ p, rotr P 12 = p := ⟨_, rfl⟩
     have RC := Lib.hid (fun w' : World => refRight_any P 12 (by omega) (by omega) w')
     rw [hV] at RC
     have HV := Lib.hid (show rotr (wd l3 b ^^^ wd l3 c) 12 = V by rw [hX, hY, hP, hV])
     clear hP hV
     refine wp_region_held_drew (S := fun W' => Mem w [blkE (w.heap.size + 1) 86 (zw 16)] W') (by kernel_rfl) (((HM.out.erase 1)).drew) (fun hHeld => ?_)
     replace HM := Lib.hid HM.out.drew
     generalize wc3.drew = wd1 at HM hHeld ⊢
     refine tf (v := ?_) 0 rfl (Or.inl ⟨by rfl, ?_⟩) ?_
     rotate_left
     · (intro w hSw; (try dsimp only at hSw); go_simp; try with_reducible rfl)
     (try simp only [Act.put, sA, s0, s1])
     refine tf (v := ?_) 1 rfl (Or.inl ⟨by rfl, ?_⟩) ?_
     rotate_left
     · (intro w hSw; (try dsimp only at hSw); go_simp; try with_reducible rfl)
     (try simp only [Act.put, sA, s0, s1])
     refine tf (v := ?_) 2 rfl (Or.inl ⟨by rfl, ?_⟩) ?_
     rotate_left
     · (intro w hSw; (try dsimp only at hSw); go_simp; try with_reducible rfl)
     (try simp only [Act.put, sA, s0, s1])
     refine tf (v := ?_) 4 rfl (Or.inl ⟨by rfl, ?_⟩) ?_
     rotate_left
     · (intro w hSw; (try dsimp only at hSw); go_simp; try with_reducible rfl)
     (try simp only [Act.put, sA, s0, s1])
     refine tf (v := ?_) 5 rfl (Or.inl ⟨by rfl, ?_⟩) ?_
     rotate_left
     · (intro w hSw; (try dsimp only at hSw); go_simp; try with_reducible rfl)
     (try simp only [Act.put, sA, s0, s1])
     refine step_two 3 6 rfl rfl (by kernel_rfl) (fun K hK => ?_) (fun K hK => ?_)
     ·
      clear hHeld
      have fx := (HM.out.blk 1 rfl).word b (by rw [HL3.out]; exact hb)
      rw [hX] at fx
      go_simp
      refine hK.out _ _ ((HM.out.erase 1)) (fun hHeld => ?_)
      clear hK K
      (try simp only [Act.put, sA, s0, s1])
      clear fx
      refine so 6 rfl fun K hK => ?_
      clear hHeld
      have fx := (HM.out.blk 1 rfl).word c (by rw [HL3.out]; exact hc)
      rw [hY] at fx
      go_simp
      refine hK.out _ _ ((HM.out.erase 1)) (fun hHeld => ?_)
      clear hK K
      (try simp only [Act.put, sA, s0, s1])
      clear fx
      refine tf (v := ?_) 7 rfl (Or.inl ⟨by rfl, ?_⟩) ?_
      rotate_left
      · (intro w hSw; (try dsimp only at hSw); go_simp; try with_reducible rfl)
      (try simp only [Act.put, sA, s0, s1])
      refine so 8 rfl fun K hK => ?_
      clear hHeld
      go_simp
      refine (RC.out _).mono ?_
      rintro e wy2 ⟨rfl, hb⟩
      replace HM := Lib.hid (show Mem w [blkE (w.heap.size + 1) 86 (zw 16), blkE w.heap.size 86 (l3.map u32v)] wy2 from HM.out.below hb)
      clear hb
      go_wp2_with fail
      refine hK.out _ _ ((HM.out.erase 1)) (fun hHeld => ?_)
      clear hK K
      (try simp only [Act.put, sA, s0, s1])
      refine tf (v := ?_) 9 rfl (Or.inl ⟨by rfl, ?_⟩) ?_
      rotate_left
      · (intro w hSw; (try dsimp only at hSw); go_simp; try with_reducible rfl)
      (try simp only [Act.put, sA, s0, s1])
      refine so 10 rfl fun K hK => ?_
      clear hHeld
      have fx := (HM.out.blk 1 rfl).word b (by rw [HL3.out]; exact hb)
      have zx := (HM.out.blk 1 rfl).frozen b
      go_simp
      replace HM := Lib.hid (show Mem w [blkE (w.heap.size + 1) 86 (zw 16), blkE w.heap.size 86 ((l3.set b (V)).map u32v)] (wy2.setCell ⟨w.heap.size, b, none⟩ (.int .u32 ((V).toNat : Int))) from by have h := HM.out.setCell 1 rfl b (u32v (V)); rw [← List.map_set] at h; exact h)
      clear fx zx
      generalize wy2.setCell ⟨w.heap.size, b, none⟩ (.int .u32 ((V).toNat : Int)) = wy3 at HM ⊢
      refine hK.out _ _ ((HM.out.erase 1)) (fun hHeld => ?_)
      clear hK K
      (try simp only [Act.put])
      refine wpAnyH_done (by kernel_rfl) ?_ _
      go_wp2
      go_meet
      have h := HM.out
      rw [← HV.out] at h
      exact h
     ·
      clear hHeld
      have fx := (HM.out.blk 1 rfl).word c (by rw [HL3.out]; exact hc)
      rw [hY] at fx
      go_simp
      refine hK.out _ _ ((HM.out.erase 1)) (fun hHeld => ?_)
      clear hK K
      (try simp only [Act.put, sA, s0, s1])
      clear fx
      refine so 3 rfl fun K hK => ?_
      clear hHeld
      have fx := (HM.out.blk 1 rfl).word b (by rw [HL3.out]; exact hb)
      rw [hX] at fx
      go_simp
      refine hK.out _ _ ((HM.out.erase 1)) (fun hHeld => ?_)
      clear hK K
      (try simp only [Act.put, sA, s0, s1])
      clear fx
      refine tf (v := ?_) 7 rfl (Or.inl ⟨by rfl, ?_⟩) ?_
      rotate_left
      · (intro w hSw; (try dsimp only at hSw); go_simp; try with_reducible rfl)
      (try simp only [Act.put, sA, s0, s1])
      refine so 8 rfl fun K hK => ?_
      clear hHeld
      go_simp
      refine (RC.out _).mono ?_
      rintro e wy2 ⟨rfl, hb⟩
      replace HM := Lib.hid (show Mem w [blkE (w.heap.size + 1) 86 (zw 16), blkE w.heap.size 86 (l3.map u32v)] wy2 from HM.out.below hb)
      clear hb
      go_wp2_with fail
      refine hK.out _ _ ((HM.out.erase 1)) (fun hHeld => ?_)
      clear hK K
      (try simp only [Act.put, sA, s0, s1])
      refine tf (v := ?_) 9 rfl (Or.inl ⟨by rfl, ?_⟩) ?_
      rotate_left
      · (intro w hSw; (try dsimp only at hSw); go_simp; try with_reducible rfl)
      (try simp only [Act.put, sA, s0, s1])
      refine so 10 rfl fun K hK => ?_
      clear hHeld
      have fx := (HM.out.blk 1 rfl).word b (by rw [HL3.out]; exact hb)
      have zx := (HM.out.blk 1 rfl).frozen b
      go_simp
      replace HM := Lib.hid (show Mem w [blkE (w.heap.size + 1) 86 (zw 16), blkE w.heap.size 86 ((l3.set b (V)).map u32v)] (wy2.setCell ⟨w.heap.size, b, none⟩ (.int .u32 ((V).toNat : Int))) from by have h := HM.out.setCell 1 rfl b (u32v (V)); rw [← List.map_set] at h; exact h)
      clear fx zx
      generalize wy2.setCell ⟨w.heap.size, b, none⟩ (.int .u32 ((V).toNat : Int)) = wy3 at HM ⊢
      refine hK.out _ _ ((HM.out.erase 1)) (fun hHeld => ?_)
      clear hK K
      (try simp only [Act.put])
      refine wpAnyH_done (by kernel_rfl) ?_ _
      go_wp2
      go_meet
      have h := HM.out
      rw [← HV.out] at h
      exact h
    case rest =>
     obtain ⟨l4, hl4⟩ : ∃ l, xrot l3 b c 12 = l := ⟨_, rfl⟩
     rw [hl4] at hcut
     have HL4 := Lib.hid (show l4.length = 16 by rw [← hl4]; exact (List.length_set).trans HL3.out)
     have E4 := Lib.hid hl4
     clear hl4 HM
     have HM := Lib.hid hcut
     clear hcut
     generalize hwn : wc = wc4 at HM ⊢
     clear hwn
     go_upto_region 5 with fail
     go_cut [] (fun wx => Mem w [blkE (w.heap.size + 1) 86 (zw 16), blkE w.heap.size 86 ((addX l4 a b y).map u32v)] wx)
     case first =>
      obtain ⟨X, hX⟩ : ∃ x, wd l4 a = x := ⟨_, rfl⟩
      obtain ⟨Y, hY⟩ : ∃ x, wd l4 b = x := ⟨_, rfl⟩
      obtain ⟨P, hP⟩ : ∃ p, X + Y = p := ⟨_, rfl⟩
      have e1 : ((X.toNat : Int) + (Y.toNat : Int)) % 4294967296 = (P.toNat : Int) := by rw [← hP]; exact u32_sum X Y
      have e2 : IntKind.u32.wrap ((X.toNat : Int) + (Y.toNat : Int)) = (P.toNat : Int) := by rw [← hP]; exact u32_add X Y
      obtain ⟨V, hV⟩ : ∃ p, P + y = p := ⟨_, rfl⟩
      have e3 : ((P.toNat : Int) + (y.toNat : Int)) % 4294967296 = (V.toNat : Int) := by rw [← hV]; exact u32_sum P y
      have e4 : IntKind.u32.wrap ((P.toNat : Int) + (y.toNat : Int)) = (V.toNat : Int) := by rw [← hV]; exact u32_add P y
      have HV := Lib.hid (show wd l4 a + wd l4 b + y = V by rw [hX, hY, hP, hV])
      clear hP hV
      refine wp_region_held_drew (S := fun W' => Mem w [blkE (w.heap.size + 1) 86 (zw 16)] W') (by kernel_rfl) (((HM.out.erase 1)).drew) (fun hHeld => ?_)
      replace HM := Lib.hid HM.out.drew
      generalize wc4.drew = wd1 at HM hHeld ⊢
      refine tf (v := ?_) 0 rfl (Or.inl ⟨by rfl, ?_⟩) ?_
      rotate_left
      · (intro w hSw; (try dsimp only at hSw); go_simp; try with_reducible rfl)
      (try simp only [Act.put, sA, s0, s1])
      refine tf (v := ?_) 1 rfl (Or.inl ⟨by rfl, ?_⟩) ?_
      rotate_left
      · (intro w hSw; (try dsimp only at hSw); go_simp; try with_reducible rfl)
      (try simp only [Act.put, sA, s0, s1])
      refine tf (v := ?_) 2 rfl (Or.inl ⟨by rfl, ?_⟩) ?_
      rotate_left
      · (intro w hSw; (try dsimp only at hSw); go_simp; try with_reducible rfl)
      (try simp only [Act.put, sA, s0, s1])
      refine tf (v := ?_) 4 rfl (Or.inl ⟨by rfl, ?_⟩) ?_
      rotate_left
      · (intro w hSw; (try dsimp only at hSw); go_simp; try with_reducible rfl)
      (try simp only [Act.put, sA, s0, s1])
      refine tf (v := ?_) 5 rfl (Or.inl ⟨by rfl, ?_⟩) ?_
      rotate_left
      · (intro w hSw; (try dsimp only at hSw); go_simp; try with_reducible rfl)
      (try simp only [Act.put, sA, s0, s1])
      refine tf (v := ?_) 8 rfl (Or.inl ⟨by rfl, ?_⟩) ?_
      rotate_left
      · (intro w hSw; (try dsimp only at hSw); go_simp; try with_reducible rfl)
      (try simp only [Act.put, sA, s0, s1])
      refine step_two 3 6 rfl rfl (by kernel_rfl) (fun K hK => ?_) (fun K hK => ?_)
      ·
       clear hHeld
       have fx := (HM.out.blk 1 rfl).word a (by rw [HL4.out]; exact ha)
       rw [hX] at fx
       go_simp
       refine hK.out _ _ ((HM.out.erase 1)) (fun hHeld => ?_)
       clear hK K
       (try simp only [Act.put, sA, s0, s1])
       clear fx
       refine so 6 rfl fun K hK => ?_
       clear hHeld
       have fx := (HM.out.blk 1 rfl).word b (by rw [HL4.out]; exact hb)
       rw [hY] at fx
       go_simp
       refine hK.out _ _ ((HM.out.erase 1)) (fun hHeld => ?_)
       clear hK K
       (try simp only [Act.put, sA, s0, s1])
       clear fx
       refine tf (v := ?_) 7 rfl (Or.inl ⟨by rfl, ?_⟩) ?_
       rotate_left
       · (intro w hSw; (try dsimp only at hSw); go_simp; try with_reducible rfl)
       (try simp only [Act.put, sA, s0, s1])
       refine tf (v := ?_) 9 rfl (Or.inl ⟨by rfl, ?_⟩) ?_
       rotate_left
       · (intro w hSw; (try dsimp only at hSw); go_simp; try with_reducible rfl)
       (try simp only [Act.put, sA, s0, s1])
       refine tf (v := ?_) 10 rfl (Or.inl ⟨by rfl, ?_⟩) ?_
       rotate_left
       · (intro w hSw; (try dsimp only at hSw); go_simp; try with_reducible rfl)
       (try simp only [Act.put, sA, s0, s1])
       refine so 11 rfl fun K hK => ?_
       clear hHeld
       have fx := (HM.out.blk 1 rfl).word a (by rw [HL4.out]; exact ha)
       have zx := (HM.out.blk 1 rfl).frozen a
       go_simp
       replace HM := Lib.hid (show Mem w [blkE (w.heap.size + 1) 86 (zw 16), blkE w.heap.size 86 ((l4.set a (V)).map u32v)] (wd1.setCell ⟨w.heap.size, a, none⟩ (.int .u32 ((V).toNat : Int))) from by have h := HM.out.setCell 1 rfl a (u32v (V)); rw [← List.map_set] at h; exact h)
       clear fx zx
       generalize wd1.setCell ⟨w.heap.size, a, none⟩ (.int .u32 ((V).toNat : Int)) = wy2 at HM ⊢
       refine hK.out _ _ ((HM.out.erase 1)) (fun hHeld => ?_)
       clear hK K
       (try simp only [Act.put])
       refine wpAnyH_done (by kernel_rfl) ?_ _
       go_wp2
       go_meet
       have h := HM.out
       rw [← HV.out] at h
       exact h
      ·
       clear hHeld
       have fx := (HM.out.blk 1 rfl).word b (by rw [HL4.out]; exact hb)
       rw [hY] at fx
       go_simp
       refine hK.out _ _ ((HM.out.erase 1)) (fun hHeld => ?_)
       clear hK K
       (try simp only [Act.put, sA, s0, s1])
       clear fx
       refine so 3 rfl fun K hK => ?_
       clear hHeld
       have fx := (HM.out.blk 1 rfl).word a (by rw [HL4.out]; exact ha)
       rw [hX] at fx
       go_simp
       refine hK.out _ _ ((HM.out.erase 1)) (fun hHeld => ?_)
       clear hK K
       (try simp only [Act.put, sA, s0, s1])
       clear fx
       refine tf (v := ?_) 7 rfl (Or.inl ⟨by rfl, ?_⟩) ?_
       rotate_left
       · (intro w hSw; (try dsimp only at hSw); go_simp; try with_reducible rfl)
       (try simp only [Act.put, sA, s0, s1])
       refine tf (v := ?_) 9 rfl (Or.inl ⟨by rfl, ?_⟩) ?_
       rotate_left
       · (intro w hSw; (try dsimp only at hSw); go_simp; try with_reducible rfl)
       (try simp only [Act.put, sA, s0, s1])
       refine tf (v := ?_) 10 rfl (Or.inl ⟨by rfl, ?_⟩) ?_
       rotate_left
       · (intro w hSw; (try dsimp only at hSw); go_simp; try with_reducible rfl)
       (try simp only [Act.put, sA, s0, s1])
       refine so 11 rfl fun K hK => ?_
       clear hHeld
       have fx := (HM.out.blk 1 rfl).word a (by rw [HL4.out]; exact ha)
       have zx := (HM.out.blk 1 rfl).frozen a
       go_simp
       replace HM := Lib.hid (show Mem w [blkE (w.heap.size + 1) 86 (zw 16), blkE w.heap.size 86 ((l4.set a (V)).map u32v)] (wd1.setCell ⟨w.heap.size, a, none⟩ (.int .u32 ((V).toNat : Int))) from by have h := HM.out.setCell 1 rfl a (u32v (V)); rw [← List.map_set] at h; exact h)
       clear fx zx
       generalize wd1.setCell ⟨w.heap.size, a, none⟩ (.int .u32 ((V).toNat : Int)) = wy2 at HM ⊢
       refine hK.out _ _ ((HM.out.erase 1)) (fun hHeld => ?_)
       clear hK K
       (try simp only [Act.put])
       refine wpAnyH_done (by kernel_rfl) ?_ _
       go_wp2
       go_meet
       have h := HM.out
       rw [← HV.out] at h
       exact h
     case rest =>
      obtain ⟨l5, hl5⟩ : ∃ l, addX l4 a b y = l := ⟨_, rfl⟩
      rw [hl5] at hcut
      have HL5 := Lib.hid (show l5.length = 16 by rw [← hl5]; exact (List.length_set).trans HL4.out)
      have E5 := Lib.hid hl5
      clear hl5 HM
      have HM := Lib.hid hcut
      clear hcut
      generalize hwn : wc = wc5 at HM ⊢
      clear hwn
      go_upto_region 6 with fail
      go_cut [] (fun wx => Mem w [blkE (w.heap.size + 1) 86 (zw 16), blkE w.heap.size 86 ((xrot l5 d a 8).map u32v)] wx)
      case first =>
       obtain ⟨X, hX⟩ : ∃ x, wd l5 d = x := ⟨_, rfl⟩
       obtain ⟨Y, hY⟩ : ∃ x, wd l5 a = x := ⟨_, rfl⟩
       obtain ⟨P, hP⟩ : ∃ p, X ^^^ Y = p := ⟨_, rfl⟩
       have e1 : bits BinOp.xor IntKind.u32 (X.toNat : Int) (Y.toNat : Int) = (P.toNat : Int) := by rw [← hP]; exact u32_xor X Y
       obtain ⟨V, hV⟩ : ∃ p, rotr P 8 = p := ⟨_, rfl⟩
       have RC := Lib.hid (fun w' : World => refRight_any P 8 (by omega) (by omega) w')
       rw [hV] at RC
       have HV := Lib.hid (show rotr (wd l5 d ^^^ wd l5 a) 8 = V by rw [hX, hY, hP, hV])
       clear hP hV
       refine wp_region_held_drew (S := fun W' => Mem w [blkE (w.heap.size + 1) 86 (zw 16)] W') (by kernel_rfl) (((HM.out.erase 1)).drew) (fun hHeld => ?_)
       replace HM := Lib.hid HM.out.drew
       generalize wc5.drew = wd1 at HM hHeld ⊢
       refine tf (v := ?_) 0 rfl (Or.inl ⟨by rfl, ?_⟩) ?_
       rotate_left
       · (intro w hSw; (try dsimp only at hSw); go_simp; try with_reducible rfl)
       (try simp only [Act.put, sA, s0, s1])
       refine tf (v := ?_) 1 rfl (Or.inl ⟨by rfl, ?_⟩) ?_
       rotate_left
       · (intro w hSw; (try dsimp only at hSw); go_simp; try with_reducible rfl)
       (try simp only [Act.put, sA, s0, s1])
       refine tf (v := ?_) 2 rfl (Or.inl ⟨by rfl, ?_⟩) ?_
       rotate_left
       · (intro w hSw; (try dsimp only at hSw); go_simp; try with_reducible rfl)
       (try simp only [Act.put, sA, s0, s1])
       refine tf (v := ?_) 4 rfl (Or.inl ⟨by rfl, ?_⟩) ?_
       rotate_left
       · (intro w hSw; (try dsimp only at hSw); go_simp; try with_reducible rfl)
       (try simp only [Act.put, sA, s0, s1])
       refine tf (v := ?_) 5 rfl (Or.inl ⟨by rfl, ?_⟩) ?_
       rotate_left
       · (intro w hSw; (try dsimp only at hSw); go_simp; try with_reducible rfl)
       (try simp only [Act.put, sA, s0, s1])
       refine step_two 3 6 rfl rfl (by kernel_rfl) (fun K hK => ?_) (fun K hK => ?_)
       ·
        clear hHeld
        have fx := (HM.out.blk 1 rfl).word d (by rw [HL5.out]; exact hd)
        rw [hX] at fx
        go_simp
        refine hK.out _ _ ((HM.out.erase 1)) (fun hHeld => ?_)
        clear hK K
        (try simp only [Act.put, sA, s0, s1])
        clear fx
        refine so 6 rfl fun K hK => ?_
        clear hHeld
        have fx := (HM.out.blk 1 rfl).word a (by rw [HL5.out]; exact ha)
        rw [hY] at fx
        go_simp
        refine hK.out _ _ ((HM.out.erase 1)) (fun hHeld => ?_)
        clear hK K
        (try simp only [Act.put, sA, s0, s1])
        clear fx
        refine tf (v := ?_) 7 rfl (Or.inl ⟨by rfl, ?_⟩) ?_
        rotate_left
        · (intro w hSw; (try dsimp only at hSw); go_simp; try with_reducible rfl)
        (try simp only [Act.put, sA, s0, s1])
        refine so 8 rfl fun K hK => ?_
        clear hHeld
        go_simp
        refine (RC.out _).mono ?_
        rintro e wy2 ⟨rfl, hb⟩
        replace HM := Lib.hid (show Mem w [blkE (w.heap.size + 1) 86 (zw 16), blkE w.heap.size 86 (l5.map u32v)] wy2 from HM.out.below hb)
        clear hb
        go_wp2_with fail
        refine hK.out _ _ ((HM.out.erase 1)) (fun hHeld => ?_)
        clear hK K
        (try simp only [Act.put, sA, s0, s1])
        refine tf (v := ?_) 9 rfl (Or.inl ⟨by rfl, ?_⟩) ?_
        rotate_left
        · (intro w hSw; (try dsimp only at hSw); go_simp; try with_reducible rfl)
        (try simp only [Act.put, sA, s0, s1])
        refine so 10 rfl fun K hK => ?_
        clear hHeld
        have fx := (HM.out.blk 1 rfl).word d (by rw [HL5.out]; exact hd)
        have zx := (HM.out.blk 1 rfl).frozen d
        go_simp
        replace HM := Lib.hid (show Mem w [blkE (w.heap.size + 1) 86 (zw 16), blkE w.heap.size 86 ((l5.set d (V)).map u32v)] (wy2.setCell ⟨w.heap.size, d, none⟩ (.int .u32 ((V).toNat : Int))) from by have h := HM.out.setCell 1 rfl d (u32v (V)); rw [← List.map_set] at h; exact h)
        clear fx zx
        generalize wy2.setCell ⟨w.heap.size, d, none⟩ (.int .u32 ((V).toNat : Int)) = wy3 at HM ⊢
        refine hK.out _ _ ((HM.out.erase 1)) (fun hHeld => ?_)
        clear hK K
        (try simp only [Act.put])
        refine wpAnyH_done (by kernel_rfl) ?_ _
        go_wp2
        go_meet
        have h := HM.out
        rw [← HV.out] at h
        exact h
       ·
        clear hHeld
        have fx := (HM.out.blk 1 rfl).word a (by rw [HL5.out]; exact ha)
        rw [hY] at fx
        go_simp
        refine hK.out _ _ ((HM.out.erase 1)) (fun hHeld => ?_)
        clear hK K
        (try simp only [Act.put, sA, s0, s1])
        clear fx
        refine so 3 rfl fun K hK => ?_
        clear hHeld
        have fx := (HM.out.blk 1 rfl).word d (by rw [HL5.out]; exact hd)
        rw [hX] at fx
        go_simp
        refine hK.out _ _ ((HM.out.erase 1)) (fun hHeld => ?_)
        clear hK K
        (try simp only [Act.put, sA, s0, s1])
        clear fx
        refine tf (v := ?_) 7 rfl (Or.inl ⟨by rfl, ?_⟩) ?_
        rotate_left
        · (intro w hSw; (try dsimp only at hSw); go_simp; try with_reducible rfl)
        (try simp only [Act.put, sA, s0, s1])
        refine so 8 rfl fun K hK => ?_
        clear hHeld
        go_simp
        refine (RC.out _).mono ?_
        rintro e wy2 ⟨rfl, hb⟩
        replace HM := Lib.hid (show Mem w [blkE (w.heap.size + 1) 86 (zw 16), blkE w.heap.size 86 (l5.map u32v)] wy2 from HM.out.below hb)
        clear hb
        go_wp2_with fail
        refine hK.out _ _ ((HM.out.erase 1)) (fun hHeld => ?_)
        clear hK K
        (try simp only [Act.put, sA, s0, s1])
        refine tf (v := ?_) 9 rfl (Or.inl ⟨by rfl, ?_⟩) ?_
        rotate_left
        · (intro w hSw; (try dsimp only at hSw); go_simp; try with_reducible rfl)
        (try simp only [Act.put, sA, s0, s1])
        refine so 10 rfl fun K hK => ?_
        clear hHeld
        have fx := (HM.out.blk 1 rfl).word d (by rw [HL5.out]; exact hd)
        have zx := (HM.out.blk 1 rfl).frozen d
        go_simp
        replace HM := Lib.hid (show Mem w [blkE (w.heap.size + 1) 86 (zw 16), blkE w.heap.size 86 ((l5.set d (V)).map u32v)] (wy2.setCell ⟨w.heap.size, d, none⟩ (.int .u32 ((V).toNat : Int))) from by have h := HM.out.setCell 1 rfl d (u32v (V)); rw [← List.map_set] at h; exact h)
        clear fx zx
        generalize wy2.setCell ⟨w.heap.size, d, none⟩ (.int .u32 ((V).toNat : Int)) = wy3 at HM ⊢
        refine hK.out _ _ ((HM.out.erase 1)) (fun hHeld => ?_)
        clear hK K
        (try simp only [Act.put])
        refine wpAnyH_done (by kernel_rfl) ?_ _
        go_wp2
        go_meet
        have h := HM.out
        rw [← HV.out] at h
        exact h
      case rest =>
       obtain ⟨l6, hl6⟩ : ∃ l, xrot l5 d a 8 = l := ⟨_, rfl⟩
       rw [hl6] at hcut
       have HL6 := Lib.hid (show l6.length = 16 by rw [← hl6]; exact (List.length_set).trans HL5.out)
       have E6 := Lib.hid hl6
       clear hl6 HM
       have HM := Lib.hid hcut
       clear hcut
       generalize hwn : wc = wc6 at HM ⊢
       clear hwn
       go_upto_region 7 with fail
       go_cut [] (fun wx => Mem w [blkE (w.heap.size + 1) 86 (zw 16), blkE w.heap.size 86 ((addW l6 c d).map u32v)] wx)
       case first =>
        obtain ⟨X, hX⟩ : ∃ x, wd l6 c = x := ⟨_, rfl⟩
        obtain ⟨Y, hY⟩ : ∃ x, wd l6 d = x := ⟨_, rfl⟩
        obtain ⟨P, hP⟩ : ∃ p, X + Y = p := ⟨_, rfl⟩
        have e1 : ((X.toNat : Int) + (Y.toNat : Int)) % 4294967296 = (P.toNat : Int) := by rw [← hP]; exact u32_sum X Y
        have e2 : IntKind.u32.wrap ((X.toNat : Int) + (Y.toNat : Int)) = (P.toNat : Int) := by rw [← hP]; exact u32_add X Y
        have HV := Lib.hid (show wd l6 c + wd l6 d = P by rw [hX, hY, hP])
        clear hP
        refine wp_region_held_drew (S := fun W' => Mem w [blkE (w.heap.size + 1) 86 (zw 16)] W') (by kernel_rfl) (((HM.out.erase 1)).drew) (fun hHeld => ?_)
        replace HM := Lib.hid HM.out.drew
        generalize wc6.drew = wd1 at HM hHeld ⊢
        refine tf (v := ?_) 0 rfl (Or.inl ⟨by rfl, ?_⟩) ?_
        rotate_left
        · (intro w hSw; (try dsimp only at hSw); go_simp; try with_reducible rfl)
        (try simp only [Act.put, sA, s0, s1])
        refine tf (v := ?_) 1 rfl (Or.inl ⟨by rfl, ?_⟩) ?_
        rotate_left
        · (intro w hSw; (try dsimp only at hSw); go_simp; try with_reducible rfl)
        (try simp only [Act.put, sA, s0, s1])
        refine tf (v := ?_) 2 rfl (Or.inl ⟨by rfl, ?_⟩) ?_
        rotate_left
        · (intro w hSw; (try dsimp only at hSw); go_simp; try with_reducible rfl)
        (try simp only [Act.put, sA, s0, s1])
        refine tf (v := ?_) 4 rfl (Or.inl ⟨by rfl, ?_⟩) ?_
        rotate_left
        · (intro w hSw; (try dsimp only at hSw); go_simp; try with_reducible rfl)
        (try simp only [Act.put, sA, s0, s1])
        refine tf (v := ?_) 5 rfl (Or.inl ⟨by rfl, ?_⟩) ?_
        rotate_left
        · (intro w hSw; (try dsimp only at hSw); go_simp; try with_reducible rfl)
        (try simp only [Act.put, sA, s0, s1])
        refine step_two 3 6 rfl rfl (by kernel_rfl) (fun K hK => ?_) (fun K hK => ?_)
        ·
         clear hHeld
         have fx := (HM.out.blk 1 rfl).word c (by rw [HL6.out]; exact hc)
         rw [hX] at fx
         go_simp
         refine hK.out _ _ ((HM.out.erase 1)) (fun hHeld => ?_)
         clear hK K
         (try simp only [Act.put, sA, s0, s1])
         clear fx
         refine so 6 rfl fun K hK => ?_
         clear hHeld
         have fx := (HM.out.blk 1 rfl).word d (by rw [HL6.out]; exact hd)
         rw [hY] at fx
         go_simp
         refine hK.out _ _ ((HM.out.erase 1)) (fun hHeld => ?_)
         clear hK K
         (try simp only [Act.put, sA, s0, s1])
         clear fx
         refine tf (v := ?_) 7 rfl (Or.inl ⟨by rfl, ?_⟩) ?_
         rotate_left
         · (intro w hSw; (try dsimp only at hSw); go_simp; try with_reducible rfl)
         (try simp only [Act.put, sA, s0, s1])
         refine tf (v := ?_) 8 rfl (Or.inl ⟨by rfl, ?_⟩) ?_
         rotate_left
         · (intro w hSw; (try dsimp only at hSw); go_simp; try with_reducible rfl)
         (try simp only [Act.put, sA, s0, s1])
         refine so 9 rfl fun K hK => ?_
         clear hHeld
         have fx := (HM.out.blk 1 rfl).word c (by rw [HL6.out]; exact hc)
         have zx := (HM.out.blk 1 rfl).frozen c
         go_simp
         replace HM := Lib.hid (show Mem w [blkE (w.heap.size + 1) 86 (zw 16), blkE w.heap.size 86 ((l6.set c (P)).map u32v)] (wd1.setCell ⟨w.heap.size, c, none⟩ (.int .u32 ((P).toNat : Int))) from by have h := HM.out.setCell 1 rfl c (u32v (P)); rw [← List.map_set] at h; exact h)
         clear fx zx
         generalize wd1.setCell ⟨w.heap.size, c, none⟩ (.int .u32 ((P).toNat : Int)) = wy2 at HM ⊢
         refine hK.out _ _ ((HM.out.erase 1)) (fun hHeld => ?_)
         clear hK K
         (try simp only [Act.put])
         refine wpAnyH_done (by kernel_rfl) ?_ _
         go_wp2
         go_meet
         have h := HM.out
         rw [← HV.out] at h
         exact h
        ·
         clear hHeld
         have fx := (HM.out.blk 1 rfl).word d (by rw [HL6.out]; exact hd)
         rw [hY] at fx
         go_simp
         refine hK.out _ _ ((HM.out.erase 1)) (fun hHeld => ?_)
         clear hK K
         (try simp only [Act.put, sA, s0, s1])
         clear fx
         refine so 3 rfl fun K hK => ?_
         clear hHeld
         have fx := (HM.out.blk 1 rfl).word c (by rw [HL6.out]; exact hc)
         rw [hX] at fx
         go_simp
         refine hK.out _ _ ((HM.out.erase 1)) (fun hHeld => ?_)
         clear hK K
         (try simp only [Act.put, sA, s0, s1])
         clear fx
         refine tf (v := ?_) 7 rfl (Or.inl ⟨by rfl, ?_⟩) ?_
         rotate_left
         · (intro w hSw; (try dsimp only at hSw); go_simp; try with_reducible rfl)
         (try simp only [Act.put, sA, s0, s1])
         refine tf (v := ?_) 8 rfl (Or.inl ⟨by rfl, ?_⟩) ?_
         rotate_left
         · (intro w hSw; (try dsimp only at hSw); go_simp; try with_reducible rfl)
         (try simp only [Act.put, sA, s0, s1])
         refine so 9 rfl fun K hK => ?_
         clear hHeld
         have fx := (HM.out.blk 1 rfl).word c (by rw [HL6.out]; exact hc)
         have zx := (HM.out.blk 1 rfl).frozen c
         go_simp
         replace HM := Lib.hid (show Mem w [blkE (w.heap.size + 1) 86 (zw 16), blkE w.heap.size 86 ((l6.set c (P)).map u32v)] (wd1.setCell ⟨w.heap.size, c, none⟩ (.int .u32 ((P).toNat : Int))) from by have h := HM.out.setCell 1 rfl c (u32v (P)); rw [← List.map_set] at h; exact h)
         clear fx zx
         generalize wd1.setCell ⟨w.heap.size, c, none⟩ (.int .u32 ((P).toNat : Int)) = wy2 at HM ⊢
         refine hK.out _ _ ((HM.out.erase 1)) (fun hHeld => ?_)
         clear hK K
         (try simp only [Act.put])
         refine wpAnyH_done (by kernel_rfl) ?_ _
         go_wp2
         go_meet
         have h := HM.out
         rw [← HV.out] at h
         exact h
       case rest =>
        obtain ⟨l7, hl7⟩ : ∃ l, addW l6 c d = l := ⟨_, rfl⟩
        rw [hl7] at hcut
        have HL7 := Lib.hid (show l7.length = 16 by rw [← hl7]; exact (List.length_set).trans HL6.out)
        have E7 := Lib.hid hl7
        clear hl7 HM
        have HM := Lib.hid hcut
        clear hcut
        generalize hwn : wc = wc7 at HM ⊢
        clear hwn
        go_upto_region 8 with fail
        go_cut [] (fun wx => Mem w [blkE (w.heap.size + 1) 86 (zw 16), blkE w.heap.size 86 ((xrot l7 b c 7).map u32v)] wx)
        case first =>
         obtain ⟨X, hX⟩ : ∃ x, wd l7 b = x := ⟨_, rfl⟩
         obtain ⟨Y, hY⟩ : ∃ x, wd l7 c = x := ⟨_, rfl⟩
         obtain ⟨P, hP⟩ : ∃ p, X ^^^ Y = p := ⟨_, rfl⟩
         have e1 : bits BinOp.xor IntKind.u32 (X.toNat : Int) (Y.toNat : Int) = (P.toNat : Int) := by rw [← hP]; exact u32_xor X Y
         obtain ⟨V, hV⟩ : ∃ p, rotr P 7 = p := ⟨_, rfl⟩
         have RC := Lib.hid (fun w' : World => refRight_any P 7 (by omega) (by omega) w')
         rw [hV] at RC
         have HV := Lib.hid (show rotr (wd l7 b ^^^ wd l7 c) 7 = V by rw [hX, hY, hP, hV])
         clear hP hV
         refine wp_region_held_drew (S := fun W' => Mem w [blkE (w.heap.size + 1) 86 (zw 16)] W') (by kernel_rfl) (((HM.out.erase 1)).drew) (fun hHeld => ?_)
         replace HM := Lib.hid HM.out.drew
         generalize wc7.drew = wd1 at HM hHeld ⊢
         refine tf (v := ?_) 0 rfl (Or.inl ⟨by rfl, ?_⟩) ?_
         rotate_left
         · (intro w hSw; (try dsimp only at hSw); go_simp; try with_reducible rfl)
         (try simp only [Act.put, sA, s0, s1])
         refine tf (v := ?_) 1 rfl (Or.inl ⟨by rfl, ?_⟩) ?_
         rotate_left
         · (intro w hSw; (try dsimp only at hSw); go_simp; try with_reducible rfl)
         (try simp only [Act.put, sA, s0, s1])
         refine tf (v := ?_) 2 rfl (Or.inl ⟨by rfl, ?_⟩) ?_
         rotate_left
         · (intro w hSw; (try dsimp only at hSw); go_simp; try with_reducible rfl)
         (try simp only [Act.put, sA, s0, s1])
         refine tf (v := ?_) 4 rfl (Or.inl ⟨by rfl, ?_⟩) ?_
         rotate_left
         · (intro w hSw; (try dsimp only at hSw); go_simp; try with_reducible rfl)
         (try simp only [Act.put, sA, s0, s1])
         refine tf (v := ?_) 5 rfl (Or.inl ⟨by rfl, ?_⟩) ?_
         rotate_left
         · (intro w hSw; (try dsimp only at hSw); go_simp; try with_reducible rfl)
         (try simp only [Act.put, sA, s0, s1])
         refine step_two 3 6 rfl rfl (by kernel_rfl) (fun K hK => ?_) (fun K hK => ?_)
         ·
          clear hHeld
          have fx := (HM.out.blk 1 rfl).word b (by rw [HL7.out]; exact hb)
          rw [hX] at fx
          go_simp
          refine hK.out _ _ ((HM.out.erase 1)) (fun hHeld => ?_)
          clear hK K
          (try simp only [Act.put, sA, s0, s1])
          clear fx
          refine so 6 rfl fun K hK => ?_
          clear hHeld
          have fx := (HM.out.blk 1 rfl).word c (by rw [HL7.out]; exact hc)
          rw [hY] at fx
          go_simp
          refine hK.out _ _ ((HM.out.erase 1)) (fun hHeld => ?_)
          clear hK K
          (try simp only [Act.put, sA, s0, s1])
          clear fx
          refine tf (v := ?_) 7 rfl (Or.inl ⟨by rfl, ?_⟩) ?_
          rotate_left
          · (intro w hSw; (try dsimp only at hSw); go_simp; try with_reducible rfl)
          (try simp only [Act.put, sA, s0, s1])
          refine so 8 rfl fun K hK => ?_
          clear hHeld
          go_simp
          refine (RC.out _).mono ?_
          rintro e wy2 ⟨rfl, hb⟩
          replace HM := Lib.hid (show Mem w [blkE (w.heap.size + 1) 86 (zw 16), blkE w.heap.size 86 (l7.map u32v)] wy2 from HM.out.below hb)
          clear hb
          go_wp2_with fail
          refine hK.out _ _ ((HM.out.erase 1)) (fun hHeld => ?_)
          clear hK K
          (try simp only [Act.put, sA, s0, s1])
          refine tf (v := ?_) 9 rfl (Or.inl ⟨by rfl, ?_⟩) ?_
          rotate_left
          · (intro w hSw; (try dsimp only at hSw); go_simp; try with_reducible rfl)
          (try simp only [Act.put, sA, s0, s1])
          refine so 10 rfl fun K hK => ?_
          clear hHeld
          have fx := (HM.out.blk 1 rfl).word b (by rw [HL7.out]; exact hb)
          have zx := (HM.out.blk 1 rfl).frozen b
          go_simp
          replace HM := Lib.hid (show Mem w [blkE (w.heap.size + 1) 86 (zw 16), blkE w.heap.size 86 ((l7.set b (V)).map u32v)] (wy2.setCell ⟨w.heap.size, b, none⟩ (.int .u32 ((V).toNat : Int))) from by have h := HM.out.setCell 1 rfl b (u32v (V)); rw [← List.map_set] at h; exact h)
          clear fx zx
          generalize wy2.setCell ⟨w.heap.size, b, none⟩ (.int .u32 ((V).toNat : Int)) = wy3 at HM ⊢
          refine hK.out _ _ ((HM.out.erase 1)) (fun hHeld => ?_)
          clear hK K
          (try simp only [Act.put])
          refine wpAnyH_done (by kernel_rfl) ?_ _
          go_wp2
          go_meet
          have h := HM.out
          rw [← HV.out] at h
          exact h
         ·
          clear hHeld
          have fx := (HM.out.blk 1 rfl).word c (by rw [HL7.out]; exact hc)
          rw [hY] at fx
          go_simp
          refine hK.out _ _ ((HM.out.erase 1)) (fun hHeld => ?_)
          clear hK K
          (try simp only [Act.put, sA, s0, s1])
          clear fx
          refine so 3 rfl fun K hK => ?_
          clear hHeld
          have fx := (HM.out.blk 1 rfl).word b (by rw [HL7.out]; exact hb)
          rw [hX] at fx
          go_simp
          refine hK.out _ _ ((HM.out.erase 1)) (fun hHeld => ?_)
          clear hK K
          (try simp only [Act.put, sA, s0, s1])
          clear fx
          refine tf (v := ?_) 7 rfl (Or.inl ⟨by rfl, ?_⟩) ?_
          rotate_left
          · (intro w hSw; (try dsimp only at hSw); go_simp; try with_reducible rfl)
          (try simp only [Act.put, sA, s0, s1])
          refine so 8 rfl fun K hK => ?_
          clear hHeld
          go_simp
          refine (RC.out _).mono ?_
          rintro e wy2 ⟨rfl, hb⟩
          replace HM := Lib.hid (show Mem w [blkE (w.heap.size + 1) 86 (zw 16), blkE w.heap.size 86 (l7.map u32v)] wy2 from HM.out.below hb)
          clear hb
          go_wp2_with fail
          refine hK.out _ _ ((HM.out.erase 1)) (fun hHeld => ?_)
          clear hK K
          (try simp only [Act.put, sA, s0, s1])
          refine tf (v := ?_) 9 rfl (Or.inl ⟨by rfl, ?_⟩) ?_
          rotate_left
          · (intro w hSw; (try dsimp only at hSw); go_simp; try with_reducible rfl)
          (try simp only [Act.put, sA, s0, s1])
          refine so 10 rfl fun K hK => ?_
          clear hHeld
          have fx := (HM.out.blk 1 rfl).word b (by rw [HL7.out]; exact hb)
          have zx := (HM.out.blk 1 rfl).frozen b
          go_simp
          replace HM := Lib.hid (show Mem w [blkE (w.heap.size + 1) 86 (zw 16), blkE w.heap.size 86 ((l7.set b (V)).map u32v)] (wy2.setCell ⟨w.heap.size, b, none⟩ (.int .u32 ((V).toNat : Int))) from by have h := HM.out.setCell 1 rfl b (u32v (V)); rw [← List.map_set] at h; exact h)
          clear fx zx
          generalize wy2.setCell ⟨w.heap.size, b, none⟩ (.int .u32 ((V).toNat : Int)) = wy3 at HM ⊢
          refine hK.out _ _ ((HM.out.erase 1)) (fun hHeld => ?_)
          clear hK K
          (try simp only [Act.put])
          refine wpAnyH_done (by kernel_rfl) ?_ _
          go_wp2
          go_meet
          have h := HM.out
          rw [← HV.out] at h
          exact h
        case rest =>
         obtain ⟨l8, hl8⟩ : ∃ l, xrot l7 b c 7 = l := ⟨_, rfl⟩
         rw [hl8] at hcut
         have HL8 := Lib.hid (show l8.length = 16 by rw [← hl8]; exact (List.length_set).trans HL7.out)
         have E8 := Lib.hid hl8
         clear hl8 HM
         have HM := Lib.hid hcut
         clear hcut
         generalize hwn : wc = wc8 at HM ⊢
         clear hwn
         obtain ⟨cz, hcz⟩ : ∃ c, (l8.map u32v).toArray = c := ⟨_, rfl⟩
         have HCZ := Lib.hid hcz
         clear hcz
         have hend : mixB l0 a b c d x y = l8 := by rw [← E8.out, ← E7.out, ← E6.out, ← E5.out, ← E4.out, ← E3.out, ← E2.out, ← E1.out]; rfl
         rw [hend] at HLZ
         clear hend
         go_wp2_with (first | (refine wpList_load_blk rfl 86 (.tmp 7) rfl w.heap.size rfl 86 (l8.map u32v) (HM.out.blk 1 rfl) 16 28 Tryz.underlying86 (cellsW16 l8 HL8.out) ?_; rw [HCZ.out]) | (refine wpList_store_blk rfl 86 (.tmp 14) (.tmp 95) rfl (w.heap.size + 1) (l8.map u32v) rfl (by show Value.agg cz = _; rw [HCZ.out]) 86 (zw 16) (HM.out.blk 0 rfl) (cellsW16 l8 HL8.out) (by rw [List.length_map, HL8.out]; rfl) (u32v_one _) ?_; intro w9 hb9 hg9))
         exact bodyPost_ret (results_blk rfl _ _ (w.heap.size + 1) 86 (l8.map u32v) 16 28 rfl hb9 Tryz.underlying86 (cellsW16 l8 HL8.out)) rfl ⟨by rw [← HLZ.out], (HM.out.put 0 rfl _ hg9 hb9).bel⟩
theorem cellsW8 (l : List UInt32) (h : l.length = 8) : (Tryz.prog.info? 92).map (·.size) = some (l.map u32v).length := by
 rw [List.length_map, h]; kernel_rfl
def intv (n : Nat) : Value := .int .i64 (n : Int)
def ordV (r : Nat) : List Value := (List.range 16).map fun i => intv (ordN r i)
theorem cellsO (r : Nat) : (Tryz.prog.info? 108).map (·.size) = some (ordV r).length := by
 rw [ordV, List.length_map, List.length_range]; kernel_rfl
set_option maxRecDepth 100000 in
set_option maxHeartbeats 4000000 in
theorem refInitial_any (w : World) : Calls Tryz.prog 66 #[] w fun e w' => e = .returned (.agg (ivW.map u32v).toArray) ∧ Below w.heap.size w w' := by
 have HM := Lib.hid (show Mem w [blkE w.heap.size 92 (zw 8)] (w.alloc (.cells zw8_ 92)) from (Mem.nil w).alloc rfl _ _ (zw 8) rfl)
 have HV := Lib.hid (show (ivW.map u32v).toArray = #[.int .u32 0x6A09E667, .int .u32 0xBB67AE85, .int .u32 0x3C6EF372, .int .u32 0xA54FF53A, .int .u32 0x510E527F, .int .u32 0x9B05688C, .int .u32 0x1F83D9AB, .int .u32 0x5BE0CD19] from rfl)
 go_enter Tryz.func66, Tryz.ntmps66
 go_upto_region 1 with fail
 generalize w.alloc (.cells zw8_ 92) = w1 at HM ⊢
 go_wp2_with (refine wpList_store_blk rfl 92 (.tmp 0) (.tmp 1) rfl w.heap.size (ivW.map u32v) rfl (by rw [HV.out]; rfl) 92 (zw 8) (HM.out.blk 0 rfl) (cellsW8 ivW rfl) rfl (u32v_one _) ?_; intro w9 hb9 hg9)
 exact bodyPost_ret (results_blk rfl _ _ w.heap.size 92 (ivW.map u32v) 8 28 rfl hb9 Tryz.underlying92 (cellsW8 ivW rfl)) rfl ⟨rfl, (HM.out.put 0 rfl _ hg9 hb9).bel⟩
theorem run_index_row {P : Program} (t e e2 : TypeId) (n m : Nat) (ht : P.underlying t = some (.array n e)) (he : P.underlying e = some (.array m e2)) (i : TypeInfo) (hi : P.info? e = some i) (hs : i.size = m) (cs : Array Value) (r : Nat) (hr : r < n) (w : World) :
 (Instr.index t (.agg cs) (.int .i64 (r : Int))).run P w = .ok (.agg (cs.extract (r * m) (r * m + m))) w := by
 have h2 : (0 : Int) ≤ (r : Int) ∧ (r : Int) < (n : Int) := by omega
 simp [Instr.index, asIntOf, run_underlying ht, part, isAgg, run_underlying he, sizeOf, typeInfo, hi, hs, hr]
theorem wpList_index_row {P : Program} {w : World} {ops : Array Oper} {rest : List Oper} {o : Oper} {act : Act} {Q : Exit → Act → World → Prop} (hgd : o.guard = none) (t e e2 : TypeId) (x y : Operand) (ho : o.op = .index t x y)
 (cs : Array Value) (hx : act.eval x = .agg cs) (r : Nat) (hy : act.eval y = .int .i64 (r : Int)) (n m : Nat) (ht : P.underlying t = some (.array n e)) (he : P.underlying e = some (.array m e2)) (i : TypeInfo) (hi : P.info? e = some i) (hs : i.size = m) (hr : r < n)
 (h : wpList P ops Q rest (act.put o.dst (.agg (cs.extract (r * m) (r * m + m)))) w) : wpList P ops Q (o :: rest) act w :=
 wpList_plain hgd fun K hK => by
  unfold Oper.wp execOp
  simp only [ho, hx, hy, run_index_row t e e2 n m ht he i hi hs cs r hr, Sem.run_bind, Result.andThen_ok]
  exact hK _ _ h
theorem Tryz.info108 : ∃ i, Tryz.prog.info? 108 = some i ∧ i.size = 16 := by
 have h : (Tryz.prog.info? 108).map (·.size) = some 16 := by kernel_rfl
 cases hi : Tryz.prog.info? 108 with
 | none => rw [hi] at h; cases h
 | some i => rw [hi] at h; exact ⟨i, rfl, by simpa using h⟩
set_option maxRecDepth 100000 in
set_option maxHeartbeats 8000000 in
theorem refOrder_any (r : Nat) (hr : r < 10) (w : World) : Calls Tryz.prog 81 #[.int .i64 (r : Int)] w fun e w' => e = .returned (.agg (ordV r).toArray) ∧ Below w.heap.size w w' := by
 have HM := Lib.hid (show Mem w [blkE w.heap.size 108 (List.replicate 16 (.int .i64 0))] (w.alloc (.cells #[.int .i64 0, .int .i64 0, .int .i64 0, .int .i64 0, .int .i64 0, .int .i64 0, .int .i64 0, .int .i64 0, .int .i64 0, .int .i64 0, .int .i64 0, .int .i64 0, .int .i64 0, .int .i64 0, .int .i64 0, .int .i64 0] 108)) from (Mem.nil w).alloc rfl _ _ _ rfl)
 obtain ⟨i16, hi16, hs16⟩ := Tryz.info108
 have HI := Lib.hid (And.intro hi16 hs16)
 clear hi16 hs16
 obtain ⟨co, hco⟩ : ∃ c, (ordV r).toArray = c := ⟨_, rfl⟩
 have HCO := Lib.hid hco
 rw [hco]
 clear hco
 go_enter Tryz.func81, Tryz.ntmps81
 go_upto_region 1 with fail
 generalize w.alloc (.cells #[.int .i64 0, .int .i64 0, .int .i64 0, .int .i64 0, .int .i64 0, .int .i64 0, .int .i64 0, .int .i64 0, .int .i64 0, .int .i64 0, .int .i64 0, .int .i64 0, .int .i64 0, .int .i64 0, .int .i64 0, .int .i64 0] 108) = w1 at HM ⊢
 go_wp2_with (first | (refine wpList_build_as rfl 125 [(0, .tmp 3), (1, .tmp 4), (2, .tmp 5), (3, .tmp 6), (4, .tmp 7), (5, .tmp 8), (6, .tmp 9), (7, .tmp 10), (8, .tmp 11), (9, .tmp 12)] rfl (ordT.flatMap fun r => r.map fun i : Nat => intv i).toArray (by kernel_rfl) ?_) | (refine wpList_index_row rfl 125 108 3 (.tmp 13) (.tmp 14) rfl _ rfl r rfl 10 16 Tryz.underlying125 Tryz.underlying108 i16 HI.out.1 HI.out.2 hr ?_; generalize hX : Array.extract _ (r * 16) (r * 16 + 16) = X; have HX := Lib.hid (show X = co by (subst hX; rw [← HCO.out]; (rcases (show r = 0 ∨ r = 1 ∨ r = 2 ∨ r = 3 ∨ r = 4 ∨ r = 5 ∨ r = 6 ∨ r = 7 ∨ r = 8 ∨ r = 9 by omega) with rfl | rfl | rfl | rfl | rfl | rfl | rfl | rfl | rfl | rfl) <;> rfl)); clear hX) | (refine wpList_store_blk rfl 108 (.tmp 2) (.tmp 15) rfl w.heap.size (ordV r) rfl (by show Value.agg _ = Value.agg _; rw [HX.out, HCO.out]) 108 (List.replicate 16 (.int .i64 0)) (HM.out.blk 0 rfl) (cellsO r) (by rw [ordV, List.length_map, List.length_range]; rfl) (by intro v hv; obtain ⟨_, _, rfl⟩ := List.mem_map.1 hv; rfl) ?_; intro w9 hb9 hg9))
 exact bodyPost_ret (results_blk rfl _ _ w.heap.size 108 (ordV r) 16 3 rfl hb9 Tryz.underlying108 (cellsO r)) rfl ⟨by rw [HCO.out], (HM.out.put 0 rfl _ hg9 hb9).bel⟩
theorem own_some {w : World} {base e n : Nat} {A : Option Addr} {c : Nat} {xs : List Value} (h : w.ownsRow base e 1 (.slice A n c) n xs) (hn : 0 < n) : ∃ g, A = some ⟨g, 0, none⟩ ∧ n ≤ c ∧ c ≤ maxLen := by
 rcases h.2 with ⟨_, h0⟩ | ⟨g, cap, cur, hv, _, _, hnc, hcm, _⟩
 · omega
 ·
  simp only [Value.slice.injEq] at hv
  exact ⟨g, hv.1, by rw [hv.2.2]; exact hnc, by rw [hv.2.2]; exact hcm⟩
theorem refLit_some (n : Nat) (hn : n < 18446744073709551616) (w : World) :
 Calls Tryz.prog 50 #[.int .u64 n, .int .i64 4] w fun e w' => ∃ g c, e = .returned (.slice (some ⟨g, 0, none⟩) 4 c) ∧ w'.ownsRow w.heap.size 5 1 (.slice (some ⟨g, 0, none⟩) 4 c) 4 ((littleL n 4).map u8v) ∧ Below w.heap.size w w' := by
 refine (refLittle_any n hn 4 (by omega) (by omega) w).mono ?_
 rintro e w' ⟨A, c, rfl, ho, hb⟩
 obtain ⟨g, rfl, _, _⟩ := own_some ho (by omega)
 exact ⟨g, c, rfl, ho, hb⟩
end Go.Proofs.YtlddafkikkaonaaGreatDoor
