/-
  The contracts of the reference's right and mix.
-/
import Derived.Test.YtbochejgjmjieaaDoorEnt
import Derived.Test.YtbochejgjmjieaaDoorWord
import Derived.Test.YtbochejgjmjieaaDoorBlMath
import Derived.Deep.QuietTactic
import Derived.BigQuiet
import Derived.RegionTactic
import Derived.BigRegion
import Derived.Deep.RegionWith
import Derived.Deep.DeepCutAuto
import Derived.Laws.ShiftsVarLaws
namespace Go.Proofs.YtbochejgjmjieaaDoor
open Go.RowKit

theorem rotr_toNat (x : UInt32) (n : Nat) (h0 : 0 < n) (h : n < 32) : (rotr x n).toNat = (x.toNat / 2 ^ n) ||| (x.toNat * 2 ^ (32 - n) % 4294967296) := by
  unfold rotr
  rw [UInt32.toNat_or, UInt32.toNat_shiftLeft, UInt32.toNat_shiftRight, UInt32.toNat_ofNat', UInt32.toNat_ofNat', Nat.mod_eq_of_lt (show n < 2 ^ 32 by omega), Nat.mod_eq_of_lt (show 32 - n < 2 ^ 32 by omega), Nat.mod_eq_of_lt h, Nat.mod_eq_of_lt (show 32 - n < 32 by omega), Nat.shiftLeft_eq, Nat.shiftRight_eq_div_pow]
theorem u32_rotr (x : UInt32) (n : Nat) (h0 : 0 < n) (h : n < 32) : bits BinOp.or IntKind.u32 ((x.toNat : Int) / 2 ^ n) ((x.toNat : Int) * 2 ^ (32 - n) % 4294967296) = ((rotr x n).toNat : Int) := by
  have hx := x.toNat_lt
  rw [rotr_toNat x n h0 h, ← u32_or_nat _ _ (Nat.lt_of_le_of_lt (Nat.div_le_self _ _) (by omega)) (by omega)]
  simp
set_option maxRecDepth 100000 in
theorem refRight_any (x : UInt32) (n : Nat) (h0 : 0 < n) (h : n < 32) (w : World) :
    Calls Tryd.prog 36 #[.int .u32 (x.toNat : Int), .int .i64 (n : Int)] w fun e w' => e = .returned (.int .u32 ((rotr x n).toNat : Int)) ∧ Below w.heap.size w w' := by
  have hx : x.toNat < 4294967296 := x.toNat_lt
  have hn : (0 : Int) ≤ 32 - (n : Int) := by omega
  have HR := Lib.hid (u32_rotr x n h0 h)
  go_enter Tryd.func36, Tryd.ntmps36
  go_wp2
  go_quiet (fail)
  go_wp2
  rw [HR.out]
  go_ret
  exact ⟨rfl, below_drewN (Below.refl _ _) _⟩
theorem u32_sum3 (x y z : UInt32) : ((x.toNat : Int) + (y.toNat : Int) + (z.toNat : Int)) % 4294967296 = ((x + y + z).toNat : Int) := by
  rw [UInt32.toNat_add, UInt32.toNat_add]
  omega
theorem cellsW16 (l : List UInt32) (h : l.length = 16) : (Tryd.prog.info? 56).map (·.size) = some (l.map u32v).length := by
  rw [List.length_map, h]; kernel_rfl

set_option maxRecDepth 100000 in
set_option maxHeartbeats 8000000 in
theorem refMix_any (l0 : List UInt32) (hl : l0.length = 16) (a b c d : Nat) (ha : a < 16) (hb : b < 16) (hc : c < 16) (hd : d < 16) (x y : UInt32) (w : World) :
    Calls Tryd.prog 33 #[.agg (l0.map u32v).toArray, .int .i64 (a : Int), .int .i64 (b : Int), .int .i64 (c : Int), .int .i64 (d : Int), .int .u32 (x.toNat : Int), .int .u32 (y.toNat : Int)] w fun e w' => e = .returned (.agg ((mixB l0 a b c d x y).map u32v).toArray) ∧ Below w.heap.size w w' := by
  obtain ⟨cl, hcl⟩ : ∃ cl, (l0.map u32v).toArray = cl := ⟨_, rfl⟩
  rw [hcl]
  have HM := Lib.hid (show Mem w [blkE (w.heap.size + 1) 56 (zw 16), blkE w.heap.size 56 (l0.map u32v)] ((w.alloc (.cells cl 56)).alloc (.cells #[.int .u32 0, .int .u32 0, .int .u32 0, .int .u32 0, .int .u32 0, .int .u32 0, .int .u32 0, .int .u32 0, .int .u32 0, .int .u32 0, .int .u32 0, .int .u32 0, .int .u32 0, .int .u32 0, .int .u32 0, .int .u32 0] 56)) from ((Mem.nil w).alloc rfl 56 cl (l0.map u32v) hcl.symm).alloc (by simp) 56 #[.int .u32 0, .int .u32 0, .int .u32 0, .int .u32 0, .int .u32 0, .int .u32 0, .int .u32 0, .int .u32 0, .int .u32 0, .int .u32 0, .int .u32 0, .int .u32 0, .int .u32 0, .int .u32 0, .int .u32 0, .int .u32 0] (zw 16) rfl)
  obtain ⟨lz, hlz⟩ : ∃ lz, mixB l0 a b c d x y = lz := ⟨_, rfl⟩
  rw [hlz]
  have HLZ := Lib.hid hlz
  have HL0 := Lib.hid hl
  have ia : (a : Int) < 16 := by omega
  have ib : (b : Int) < 16 := by omega
  have ic : (c : Int) < 16 := by omega
  have id : (d : Int) < 16 := by omega
  clear hlz hl hcl
  go_enter Tryd.func33, Tryd.ntmps33
  go_upto_region 1 with fail
  generalize ((w.alloc (.cells cl 56)).alloc (.cells #[.int .u32 0, .int .u32 0, .int .u32 0, .int .u32 0, .int .u32 0, .int .u32 0, .int .u32 0, .int .u32 0, .int .u32 0, .int .u32 0, .int .u32 0, .int .u32 0, .int .u32 0, .int .u32 0, .int .u32 0, .int .u32 0] 56)) = wc0 at HM ⊢
  go_cut [] (fun wx => Mem w [blkE (w.heap.size + 1) 56 (zw 16), blkE w.heap.size 56 ((addX l0 a b x).map u32v)] wx)
  case first =>
    obtain ⟨X, hX⟩ : ∃ x, wd l0 a = x := ⟨_, rfl⟩
    obtain ⟨Y, hY⟩ : ∃ x, wd l0 b = x := ⟨_, rfl⟩
    obtain ⟨P, hP⟩ : ∃ p, X + Y = p := ⟨_, rfl⟩
    have e1 : ((X.toNat : Int) + (Y.toNat : Int)) % 4294967296 = (P.toNat : Int) := by rw [← hP]; exact u32_sum X Y
    have e2 : IntKind.u32.wrap ((X.toNat : Int) + (Y.toNat : Int)) = (P.toNat : Int) := by rw [← hP]; exact u32_add X Y
    obtain ⟨V, hV⟩ : ∃ p, P + x = p := ⟨_, rfl⟩
    have e3 : ((P.toNat : Int) + (x.toNat : Int)) % 4294967296 = (V.toNat : Int) := by rw [← hV]; exact u32_sum P x
    have e4 : IntKind.u32.wrap ((P.toNat : Int) + (x.toNat : Int)) = (V.toNat : Int) := by rw [← hV]; exact u32_add P x
    have HV := Lib.hid (show wd l0 a + wd l0 b + x = V by rw [hX, hY, hP, hV])
    clear hP hV
    refine wp_region_held_drew (S := fun W' => Mem w [blkE (w.heap.size + 1) 56 (zw 16)] W') (by kernel_rfl) (((HM.out.erase 1)).drew) (fun hHeld => ?_)
    replace HM := Lib.hid HM.out.drew
    generalize wc0.drew = wd1 at HM hHeld ⊢
    refine take_first (v := ?_) 0 rfl (by kernel_rfl) (by kernel_rfl) (by kernel_rfl) (fun _ _ _ h => h) (Or.inl ⟨by rfl, ?_⟩) (by assumption) ?_
    rotate_left
    · (intro w hSw; (try dsimp only at hSw); go_simp; try with_reducible rfl)
    (try simp only [Act.put, List.setIfInBounds_toArray, List.set_cons_zero, List.set_cons_succ])
    refine take_first (v := ?_) 1 rfl (by kernel_rfl) (by kernel_rfl) (by kernel_rfl) (fun _ _ _ h => h) (Or.inl ⟨by rfl, ?_⟩) (by assumption) ?_
    rotate_left
    · (intro w hSw; (try dsimp only at hSw); go_simp; try with_reducible rfl)
    (try simp only [Act.put, List.setIfInBounds_toArray, List.set_cons_zero, List.set_cons_succ])
    refine take_first (v := ?_) 2 rfl (by kernel_rfl) (by kernel_rfl) (by kernel_rfl) (fun _ _ _ h => h) (Or.inl ⟨by rfl, ?_⟩) (by assumption) ?_
    rotate_left
    · (intro w hSw; (try dsimp only at hSw); go_simp; try with_reducible rfl)
    (try simp only [Act.put, List.setIfInBounds_toArray, List.set_cons_zero, List.set_cons_succ])
    refine take_first (v := ?_) 4 rfl (by kernel_rfl) (by kernel_rfl) (by kernel_rfl) (fun _ _ _ h => h) (Or.inl ⟨by rfl, ?_⟩) (by assumption) ?_
    rotate_left
    · (intro w hSw; (try dsimp only at hSw); go_simp; try with_reducible rfl)
    (try simp only [Act.put, List.setIfInBounds_toArray, List.set_cons_zero, List.set_cons_succ])
    refine take_first (v := ?_) 5 rfl (by kernel_rfl) (by kernel_rfl) (by kernel_rfl) (fun _ _ _ h => h) (Or.inl ⟨by rfl, ?_⟩) (by assumption) ?_
    rotate_left
    · (intro w hSw; (try dsimp only at hSw); go_simp; try with_reducible rfl)
    (try simp only [Act.put, List.setIfInBounds_toArray, List.set_cons_zero, List.set_cons_succ])
    refine take_first (v := ?_) 8 rfl (by kernel_rfl) (by kernel_rfl) (by kernel_rfl) (fun _ _ _ h => h) (Or.inl ⟨by rfl, ?_⟩) (by assumption) ?_
    rotate_left
    · (intro w hSw; (try dsimp only at hSw); go_simp; try with_reducible rfl)
    (try simp only [Act.put, List.setIfInBounds_toArray, List.set_cons_zero, List.set_cons_succ])
    refine step_two 3 6 rfl rfl (by kernel_rfl) (fun K hK => ?_) (fun K hK => ?_)
    · clear hHeld
      have fx := (HM.out.blk 1 rfl).word a (by rw [HL0.out]; exact ha)
      rw [hX] at fx
      go_simp
      refine hK.out _ _ ((HM.out.erase 1)) (fun hHeld => ?_)
      clear hK K
      (try simp only [Act.put, List.setIfInBounds_toArray, List.set_cons_zero, List.set_cons_succ])
      clear fx
      refine step_one 6 rfl (by kernel_rfl) (fun K hK => ?_)
      clear hHeld
      have fx := (HM.out.blk 1 rfl).word b (by rw [HL0.out]; exact hb)
      rw [hY] at fx
      go_simp
      refine hK.out _ _ ((HM.out.erase 1)) (fun hHeld => ?_)
      clear hK K
      (try simp only [Act.put, List.setIfInBounds_toArray, List.set_cons_zero, List.set_cons_succ])
      clear fx
      refine take_first (v := ?_) 7 rfl (by kernel_rfl) (by kernel_rfl) (by kernel_rfl) (fun _ _ _ h => h) (Or.inl ⟨by rfl, ?_⟩) (by assumption) ?_
      rotate_left
      · (intro w hSw; (try dsimp only at hSw); go_simp; try with_reducible rfl)
      (try simp only [Act.put, List.setIfInBounds_toArray, List.set_cons_zero, List.set_cons_succ])
      refine take_first (v := ?_) 9 rfl (by kernel_rfl) (by kernel_rfl) (by kernel_rfl) (fun _ _ _ h => h) (Or.inl ⟨by rfl, ?_⟩) (by assumption) ?_
      rotate_left
      · (intro w hSw; (try dsimp only at hSw); go_simp; try with_reducible rfl)
      (try simp only [Act.put, List.setIfInBounds_toArray, List.set_cons_zero, List.set_cons_succ])
      refine take_first (v := ?_) 10 rfl (by kernel_rfl) (by kernel_rfl) (by kernel_rfl) (fun _ _ _ h => h) (Or.inl ⟨by rfl, ?_⟩) (by assumption) ?_
      rotate_left
      · (intro w hSw; (try dsimp only at hSw); go_simp; try with_reducible rfl)
      (try simp only [Act.put, List.setIfInBounds_toArray, List.set_cons_zero, List.set_cons_succ])
      refine step_one 11 rfl (by kernel_rfl) (fun K hK => ?_)
      clear hHeld
      have fx := (HM.out.blk 1 rfl).word a (by rw [HL0.out]; exact ha)
      have zx := (HM.out.blk 1 rfl).frozen a
      go_simp
      replace HM := Lib.hid (show Mem w [blkE (w.heap.size + 1) 56 (zw 16), blkE w.heap.size 56 ((l0.set a (V)).map u32v)] (wd1.setCell ⟨w.heap.size, a, none⟩ (.int .u32 ((V).toNat : Int))) from by have h := HM.out.setCell 1 rfl a (u32v (V)); rw [← List.map_set] at h; exact h)
      clear fx zx
      generalize wd1.setCell ⟨w.heap.size, a, none⟩ (.int .u32 ((V).toNat : Int)) = wy2 at HM ⊢
      refine hK.out _ _ ((HM.out.erase 1)) (fun hHeld => ?_)
      clear hK K
      (try simp only [Act.put])
      refine wpAnyH_done (by kernel_rfl) ?_ _
      go_wp2
      go_meet
      have h := HM.out
      rw [← HV.out] at h
      exact h
    · clear hHeld
      have fx := (HM.out.blk 1 rfl).word b (by rw [HL0.out]; exact hb)
      rw [hY] at fx
      go_simp
      refine hK.out _ _ ((HM.out.erase 1)) (fun hHeld => ?_)
      clear hK K
      (try simp only [Act.put, List.setIfInBounds_toArray, List.set_cons_zero, List.set_cons_succ])
      clear fx
      refine step_one 3 rfl (by kernel_rfl) (fun K hK => ?_)
      clear hHeld
      have fx := (HM.out.blk 1 rfl).word a (by rw [HL0.out]; exact ha)
      rw [hX] at fx
      go_simp
      refine hK.out _ _ ((HM.out.erase 1)) (fun hHeld => ?_)
      clear hK K
      (try simp only [Act.put, List.setIfInBounds_toArray, List.set_cons_zero, List.set_cons_succ])
      clear fx
      refine take_first (v := ?_) 7 rfl (by kernel_rfl) (by kernel_rfl) (by kernel_rfl) (fun _ _ _ h => h) (Or.inl ⟨by rfl, ?_⟩) (by assumption) ?_
      rotate_left
      · (intro w hSw; (try dsimp only at hSw); go_simp; try with_reducible rfl)
      (try simp only [Act.put, List.setIfInBounds_toArray, List.set_cons_zero, List.set_cons_succ])
      refine take_first (v := ?_) 9 rfl (by kernel_rfl) (by kernel_rfl) (by kernel_rfl) (fun _ _ _ h => h) (Or.inl ⟨by rfl, ?_⟩) (by assumption) ?_
      rotate_left
      · (intro w hSw; (try dsimp only at hSw); go_simp; try with_reducible rfl)
      (try simp only [Act.put, List.setIfInBounds_toArray, List.set_cons_zero, List.set_cons_succ])
      refine take_first (v := ?_) 10 rfl (by kernel_rfl) (by kernel_rfl) (by kernel_rfl) (fun _ _ _ h => h) (Or.inl ⟨by rfl, ?_⟩) (by assumption) ?_
      rotate_left
      · (intro w hSw; (try dsimp only at hSw); go_simp; try with_reducible rfl)
      (try simp only [Act.put, List.setIfInBounds_toArray, List.set_cons_zero, List.set_cons_succ])
      refine step_one 11 rfl (by kernel_rfl) (fun K hK => ?_)
      clear hHeld
      have fx := (HM.out.blk 1 rfl).word a (by rw [HL0.out]; exact ha)
      have zx := (HM.out.blk 1 rfl).frozen a
      go_simp
      replace HM := Lib.hid (show Mem w [blkE (w.heap.size + 1) 56 (zw 16), blkE w.heap.size 56 ((l0.set a (V)).map u32v)] (wd1.setCell ⟨w.heap.size, a, none⟩ (.int .u32 ((V).toNat : Int))) from by have h := HM.out.setCell 1 rfl a (u32v (V)); rw [← List.map_set] at h; exact h)
      clear fx zx
      generalize wd1.setCell ⟨w.heap.size, a, none⟩ (.int .u32 ((V).toNat : Int)) = wy2 at HM ⊢
      refine hK.out _ _ ((HM.out.erase 1)) (fun hHeld => ?_)
      clear hK K
      (try simp only [Act.put])
      refine wpAnyH_done (by kernel_rfl) ?_ _
      go_wp2
      go_meet
      have h := HM.out
      rw [← HV.out] at h
      exact h
  case rest =>
    obtain ⟨l1, hl1⟩ : ∃ l, addX l0 a b x = l := ⟨_, rfl⟩
    rw [hl1] at hcut
    have HL1 := Lib.hid (show l1.length = 16 by rw [← hl1]; exact (List.length_set).trans HL0.out)
    have E1 := Lib.hid hl1
    clear hl1 HM
    have HM := Lib.hid hcut
    clear hcut
    generalize hwn : wc = wc1 at HM ⊢
    clear hwn
    go_upto_region 2 with fail
    go_cut [] (fun wx => Mem w [blkE (w.heap.size + 1) 56 (zw 16), blkE w.heap.size 56 ((xrot l1 d a 16).map u32v)] wx)
    case first =>
      obtain ⟨X, hX⟩ : ∃ x, wd l1 d = x := ⟨_, rfl⟩
      obtain ⟨Y, hY⟩ : ∃ x, wd l1 a = x := ⟨_, rfl⟩
      obtain ⟨P, hP⟩ : ∃ p, X ^^^ Y = p := ⟨_, rfl⟩
      have e1 : bits BinOp.xor IntKind.u32 (X.toNat : Int) (Y.toNat : Int) = (P.toNat : Int) := by rw [← hP]; exact u32_xor X Y
      obtain ⟨V, hV⟩ : ∃ p, rotr P 16 = p := ⟨_, rfl⟩
      have RC := Lib.hid (fun w' : World => refRight_any P 16 (by omega) (by omega) w')
      rw [hV] at RC
      have HV := Lib.hid (show rotr (wd l1 d ^^^ wd l1 a) 16 = V by rw [hX, hY, hP, hV])
      clear hP hV
      refine wp_region_held_drew (S := fun W' => Mem w [blkE (w.heap.size + 1) 56 (zw 16)] W') (by kernel_rfl) (((HM.out.erase 1)).drew) (fun hHeld => ?_)
      replace HM := Lib.hid HM.out.drew
      generalize wc1.drew = wd1 at HM hHeld ⊢
      refine take_first (v := ?_) 0 rfl (by kernel_rfl) (by kernel_rfl) (by kernel_rfl) (fun _ _ _ h => h) (Or.inl ⟨by rfl, ?_⟩) (by assumption) ?_
      rotate_left
      · (intro w hSw; (try dsimp only at hSw); go_simp; try with_reducible rfl)
      (try simp only [Act.put, List.setIfInBounds_toArray, List.set_cons_zero, List.set_cons_succ])
      refine take_first (v := ?_) 1 rfl (by kernel_rfl) (by kernel_rfl) (by kernel_rfl) (fun _ _ _ h => h) (Or.inl ⟨by rfl, ?_⟩) (by assumption) ?_
      rotate_left
      · (intro w hSw; (try dsimp only at hSw); go_simp; try with_reducible rfl)
      (try simp only [Act.put, List.setIfInBounds_toArray, List.set_cons_zero, List.set_cons_succ])
      refine take_first (v := ?_) 2 rfl (by kernel_rfl) (by kernel_rfl) (by kernel_rfl) (fun _ _ _ h => h) (Or.inl ⟨by rfl, ?_⟩) (by assumption) ?_
      rotate_left
      · (intro w hSw; (try dsimp only at hSw); go_simp; try with_reducible rfl)
      (try simp only [Act.put, List.setIfInBounds_toArray, List.set_cons_zero, List.set_cons_succ])
      refine take_first (v := ?_) 4 rfl (by kernel_rfl) (by kernel_rfl) (by kernel_rfl) (fun _ _ _ h => h) (Or.inl ⟨by rfl, ?_⟩) (by assumption) ?_
      rotate_left
      · (intro w hSw; (try dsimp only at hSw); go_simp; try with_reducible rfl)
      (try simp only [Act.put, List.setIfInBounds_toArray, List.set_cons_zero, List.set_cons_succ])
      refine take_first (v := ?_) 5 rfl (by kernel_rfl) (by kernel_rfl) (by kernel_rfl) (fun _ _ _ h => h) (Or.inl ⟨by rfl, ?_⟩) (by assumption) ?_
      rotate_left
      · (intro w hSw; (try dsimp only at hSw); go_simp; try with_reducible rfl)
      (try simp only [Act.put, List.setIfInBounds_toArray, List.set_cons_zero, List.set_cons_succ])
      refine step_two 3 6 rfl rfl (by kernel_rfl) (fun K hK => ?_) (fun K hK => ?_)
      · clear hHeld
        have fx := (HM.out.blk 1 rfl).word d (by rw [HL1.out]; exact hd)
        rw [hX] at fx
        go_simp
        refine hK.out _ _ ((HM.out.erase 1)) (fun hHeld => ?_)
        clear hK K
        (try simp only [Act.put, List.setIfInBounds_toArray, List.set_cons_zero, List.set_cons_succ])
        clear fx
        refine step_one 6 rfl (by kernel_rfl) (fun K hK => ?_)
        clear hHeld
        have fx := (HM.out.blk 1 rfl).word a (by rw [HL1.out]; exact ha)
        rw [hY] at fx
        go_simp
        refine hK.out _ _ ((HM.out.erase 1)) (fun hHeld => ?_)
        clear hK K
        (try simp only [Act.put, List.setIfInBounds_toArray, List.set_cons_zero, List.set_cons_succ])
        clear fx
        refine take_first (v := ?_) 7 rfl (by kernel_rfl) (by kernel_rfl) (by kernel_rfl) (fun _ _ _ h => h) (Or.inl ⟨by rfl, ?_⟩) (by assumption) ?_
        rotate_left
        · (intro w hSw; (try dsimp only at hSw); go_simp; try with_reducible rfl)
        (try simp only [Act.put, List.setIfInBounds_toArray, List.set_cons_zero, List.set_cons_succ])
        refine step_one 8 rfl (by kernel_rfl) (fun K hK => ?_)
        clear hHeld
        go_simp
        refine (RC.out _).mono ?_
        rintro e wy2 ⟨rfl, hb⟩
        replace HM := Lib.hid (show Mem w [blkE (w.heap.size + 1) 56 (zw 16), blkE w.heap.size 56 (l1.map u32v)] wy2 from HM.out.below hb)
        clear hb
        go_wp2_with fail
        refine hK.out _ _ ((HM.out.erase 1)) (fun hHeld => ?_)
        clear hK K
        (try simp only [Act.put, List.setIfInBounds_toArray, List.set_cons_zero, List.set_cons_succ])
        refine take_first (v := ?_) 9 rfl (by kernel_rfl) (by kernel_rfl) (by kernel_rfl) (fun _ _ _ h => h) (Or.inl ⟨by rfl, ?_⟩) (by assumption) ?_
        rotate_left
        · (intro w hSw; (try dsimp only at hSw); go_simp; try with_reducible rfl)
        (try simp only [Act.put, List.setIfInBounds_toArray, List.set_cons_zero, List.set_cons_succ])
        refine step_one 10 rfl (by kernel_rfl) (fun K hK => ?_)
        clear hHeld
        have fx := (HM.out.blk 1 rfl).word d (by rw [HL1.out]; exact hd)
        have zx := (HM.out.blk 1 rfl).frozen d
        go_simp
        replace HM := Lib.hid (show Mem w [blkE (w.heap.size + 1) 56 (zw 16), blkE w.heap.size 56 ((l1.set d (V)).map u32v)] (wy2.setCell ⟨w.heap.size, d, none⟩ (.int .u32 ((V).toNat : Int))) from by have h := HM.out.setCell 1 rfl d (u32v (V)); rw [← List.map_set] at h; exact h)
        clear fx zx
        generalize wy2.setCell ⟨w.heap.size, d, none⟩ (.int .u32 ((V).toNat : Int)) = wy3 at HM ⊢
        refine hK.out _ _ ((HM.out.erase 1)) (fun hHeld => ?_)
        clear hK K
        (try simp only [Act.put])
        refine wpAnyH_done (by kernel_rfl) ?_ _
        go_wp2
        go_meet
        have h := HM.out
        rw [← HV.out] at h
        exact h
      · clear hHeld
        have fx := (HM.out.blk 1 rfl).word a (by rw [HL1.out]; exact ha)
        rw [hY] at fx
        go_simp
        refine hK.out _ _ ((HM.out.erase 1)) (fun hHeld => ?_)
        clear hK K
        (try simp only [Act.put, List.setIfInBounds_toArray, List.set_cons_zero, List.set_cons_succ])
        clear fx
        refine step_one 3 rfl (by kernel_rfl) (fun K hK => ?_)
        clear hHeld
        have fx := (HM.out.blk 1 rfl).word d (by rw [HL1.out]; exact hd)
        rw [hX] at fx
        go_simp
        refine hK.out _ _ ((HM.out.erase 1)) (fun hHeld => ?_)
        clear hK K
        (try simp only [Act.put, List.setIfInBounds_toArray, List.set_cons_zero, List.set_cons_succ])
        clear fx
        refine take_first (v := ?_) 7 rfl (by kernel_rfl) (by kernel_rfl) (by kernel_rfl) (fun _ _ _ h => h) (Or.inl ⟨by rfl, ?_⟩) (by assumption) ?_
        rotate_left
        · (intro w hSw; (try dsimp only at hSw); go_simp; try with_reducible rfl)
        (try simp only [Act.put, List.setIfInBounds_toArray, List.set_cons_zero, List.set_cons_succ])
        refine step_one 8 rfl (by kernel_rfl) (fun K hK => ?_)
        clear hHeld
        go_simp
        refine (RC.out _).mono ?_
        rintro e wy2 ⟨rfl, hb⟩
        replace HM := Lib.hid (show Mem w [blkE (w.heap.size + 1) 56 (zw 16), blkE w.heap.size 56 (l1.map u32v)] wy2 from HM.out.below hb)
        clear hb
        go_wp2_with fail
        refine hK.out _ _ ((HM.out.erase 1)) (fun hHeld => ?_)
        clear hK K
        (try simp only [Act.put, List.setIfInBounds_toArray, List.set_cons_zero, List.set_cons_succ])
        refine take_first (v := ?_) 9 rfl (by kernel_rfl) (by kernel_rfl) (by kernel_rfl) (fun _ _ _ h => h) (Or.inl ⟨by rfl, ?_⟩) (by assumption) ?_
        rotate_left
        · (intro w hSw; (try dsimp only at hSw); go_simp; try with_reducible rfl)
        (try simp only [Act.put, List.setIfInBounds_toArray, List.set_cons_zero, List.set_cons_succ])
        refine step_one 10 rfl (by kernel_rfl) (fun K hK => ?_)
        clear hHeld
        have fx := (HM.out.blk 1 rfl).word d (by rw [HL1.out]; exact hd)
        have zx := (HM.out.blk 1 rfl).frozen d
        go_simp
        replace HM := Lib.hid (show Mem w [blkE (w.heap.size + 1) 56 (zw 16), blkE w.heap.size 56 ((l1.set d (V)).map u32v)] (wy2.setCell ⟨w.heap.size, d, none⟩ (.int .u32 ((V).toNat : Int))) from by have h := HM.out.setCell 1 rfl d (u32v (V)); rw [← List.map_set] at h; exact h)
        clear fx zx
        generalize wy2.setCell ⟨w.heap.size, d, none⟩ (.int .u32 ((V).toNat : Int)) = wy3 at HM ⊢
        refine hK.out _ _ ((HM.out.erase 1)) (fun hHeld => ?_)
        clear hK K
        (try simp only [Act.put])
        refine wpAnyH_done (by kernel_rfl) ?_ _
        go_wp2
        go_meet
        have h := HM.out
        rw [← HV.out] at h
        exact h
    case rest =>
      obtain ⟨l2, hl2⟩ : ∃ l, xrot l1 d a 16 = l := ⟨_, rfl⟩
      rw [hl2] at hcut
      have HL2 := Lib.hid (show l2.length = 16 by rw [← hl2]; exact (List.length_set).trans HL1.out)
      have E2 := Lib.hid hl2
      clear hl2 HM
      have HM := Lib.hid hcut
      clear hcut
      generalize hwn : wc = wc2 at HM ⊢
      clear hwn
      go_upto_region 3 with fail
      go_cut [] (fun wx => Mem w [blkE (w.heap.size + 1) 56 (zw 16), blkE w.heap.size 56 ((addW l2 c d).map u32v)] wx)
      case first =>
        obtain ⟨X, hX⟩ : ∃ x, wd l2 c = x := ⟨_, rfl⟩
        obtain ⟨Y, hY⟩ : ∃ x, wd l2 d = x := ⟨_, rfl⟩
        obtain ⟨P, hP⟩ : ∃ p, X + Y = p := ⟨_, rfl⟩
        have e1 : ((X.toNat : Int) + (Y.toNat : Int)) % 4294967296 = (P.toNat : Int) := by rw [← hP]; exact u32_sum X Y
        have e2 : IntKind.u32.wrap ((X.toNat : Int) + (Y.toNat : Int)) = (P.toNat : Int) := by rw [← hP]; exact u32_add X Y
        have HV := Lib.hid (show wd l2 c + wd l2 d = P by rw [hX, hY, hP])
        clear hP
        refine wp_region_held_drew (S := fun W' => Mem w [blkE (w.heap.size + 1) 56 (zw 16)] W') (by kernel_rfl) (((HM.out.erase 1)).drew) (fun hHeld => ?_)
        replace HM := Lib.hid HM.out.drew
        generalize wc2.drew = wd1 at HM hHeld ⊢
        refine take_first (v := ?_) 0 rfl (by kernel_rfl) (by kernel_rfl) (by kernel_rfl) (fun _ _ _ h => h) (Or.inl ⟨by rfl, ?_⟩) (by assumption) ?_
        rotate_left
        · (intro w hSw; (try dsimp only at hSw); go_simp; try with_reducible rfl)
        (try simp only [Act.put, List.setIfInBounds_toArray, List.set_cons_zero, List.set_cons_succ])
        refine take_first (v := ?_) 1 rfl (by kernel_rfl) (by kernel_rfl) (by kernel_rfl) (fun _ _ _ h => h) (Or.inl ⟨by rfl, ?_⟩) (by assumption) ?_
        rotate_left
        · (intro w hSw; (try dsimp only at hSw); go_simp; try with_reducible rfl)
        (try simp only [Act.put, List.setIfInBounds_toArray, List.set_cons_zero, List.set_cons_succ])
        refine take_first (v := ?_) 2 rfl (by kernel_rfl) (by kernel_rfl) (by kernel_rfl) (fun _ _ _ h => h) (Or.inl ⟨by rfl, ?_⟩) (by assumption) ?_
        rotate_left
        · (intro w hSw; (try dsimp only at hSw); go_simp; try with_reducible rfl)
        (try simp only [Act.put, List.setIfInBounds_toArray, List.set_cons_zero, List.set_cons_succ])
        refine take_first (v := ?_) 4 rfl (by kernel_rfl) (by kernel_rfl) (by kernel_rfl) (fun _ _ _ h => h) (Or.inl ⟨by rfl, ?_⟩) (by assumption) ?_
        rotate_left
        · (intro w hSw; (try dsimp only at hSw); go_simp; try with_reducible rfl)
        (try simp only [Act.put, List.setIfInBounds_toArray, List.set_cons_zero, List.set_cons_succ])
        refine take_first (v := ?_) 5 rfl (by kernel_rfl) (by kernel_rfl) (by kernel_rfl) (fun _ _ _ h => h) (Or.inl ⟨by rfl, ?_⟩) (by assumption) ?_
        rotate_left
        · (intro w hSw; (try dsimp only at hSw); go_simp; try with_reducible rfl)
        (try simp only [Act.put, List.setIfInBounds_toArray, List.set_cons_zero, List.set_cons_succ])
        refine step_two 3 6 rfl rfl (by kernel_rfl) (fun K hK => ?_) (fun K hK => ?_)
        · clear hHeld
          have fx := (HM.out.blk 1 rfl).word c (by rw [HL2.out]; exact hc)
          rw [hX] at fx
          go_simp
          refine hK.out _ _ ((HM.out.erase 1)) (fun hHeld => ?_)
          clear hK K
          (try simp only [Act.put, List.setIfInBounds_toArray, List.set_cons_zero, List.set_cons_succ])
          clear fx
          refine step_one 6 rfl (by kernel_rfl) (fun K hK => ?_)
          clear hHeld
          have fx := (HM.out.blk 1 rfl).word d (by rw [HL2.out]; exact hd)
          rw [hY] at fx
          go_simp
          refine hK.out _ _ ((HM.out.erase 1)) (fun hHeld => ?_)
          clear hK K
          (try simp only [Act.put, List.setIfInBounds_toArray, List.set_cons_zero, List.set_cons_succ])
          clear fx
          refine take_first (v := ?_) 7 rfl (by kernel_rfl) (by kernel_rfl) (by kernel_rfl) (fun _ _ _ h => h) (Or.inl ⟨by rfl, ?_⟩) (by assumption) ?_
          rotate_left
          · (intro w hSw; (try dsimp only at hSw); go_simp; try with_reducible rfl)
          (try simp only [Act.put, List.setIfInBounds_toArray, List.set_cons_zero, List.set_cons_succ])
          refine take_first (v := ?_) 8 rfl (by kernel_rfl) (by kernel_rfl) (by kernel_rfl) (fun _ _ _ h => h) (Or.inl ⟨by rfl, ?_⟩) (by assumption) ?_
          rotate_left
          · (intro w hSw; (try dsimp only at hSw); go_simp; try with_reducible rfl)
          (try simp only [Act.put, List.setIfInBounds_toArray, List.set_cons_zero, List.set_cons_succ])
          refine step_one 9 rfl (by kernel_rfl) (fun K hK => ?_)
          clear hHeld
          have fx := (HM.out.blk 1 rfl).word c (by rw [HL2.out]; exact hc)
          have zx := (HM.out.blk 1 rfl).frozen c
          go_simp
          replace HM := Lib.hid (show Mem w [blkE (w.heap.size + 1) 56 (zw 16), blkE w.heap.size 56 ((l2.set c (P)).map u32v)] (wd1.setCell ⟨w.heap.size, c, none⟩ (.int .u32 ((P).toNat : Int))) from by have h := HM.out.setCell 1 rfl c (u32v (P)); rw [← List.map_set] at h; exact h)
          clear fx zx
          generalize wd1.setCell ⟨w.heap.size, c, none⟩ (.int .u32 ((P).toNat : Int)) = wy2 at HM ⊢
          refine hK.out _ _ ((HM.out.erase 1)) (fun hHeld => ?_)
          clear hK K
          (try simp only [Act.put])
          refine wpAnyH_done (by kernel_rfl) ?_ _
          go_wp2
          go_meet
          have h := HM.out
          rw [← HV.out] at h
          exact h
        · clear hHeld
          have fx := (HM.out.blk 1 rfl).word d (by rw [HL2.out]; exact hd)
          rw [hY] at fx
          go_simp
          refine hK.out _ _ ((HM.out.erase 1)) (fun hHeld => ?_)
          clear hK K
          (try simp only [Act.put, List.setIfInBounds_toArray, List.set_cons_zero, List.set_cons_succ])
          clear fx
          refine step_one 3 rfl (by kernel_rfl) (fun K hK => ?_)
          clear hHeld
          have fx := (HM.out.blk 1 rfl).word c (by rw [HL2.out]; exact hc)
          rw [hX] at fx
          go_simp
          refine hK.out _ _ ((HM.out.erase 1)) (fun hHeld => ?_)
          clear hK K
          (try simp only [Act.put, List.setIfInBounds_toArray, List.set_cons_zero, List.set_cons_succ])
          clear fx
          refine take_first (v := ?_) 7 rfl (by kernel_rfl) (by kernel_rfl) (by kernel_rfl) (fun _ _ _ h => h) (Or.inl ⟨by rfl, ?_⟩) (by assumption) ?_
          rotate_left
          · (intro w hSw; (try dsimp only at hSw); go_simp; try with_reducible rfl)
          (try simp only [Act.put, List.setIfInBounds_toArray, List.set_cons_zero, List.set_cons_succ])
          refine take_first (v := ?_) 8 rfl (by kernel_rfl) (by kernel_rfl) (by kernel_rfl) (fun _ _ _ h => h) (Or.inl ⟨by rfl, ?_⟩) (by assumption) ?_
          rotate_left
          · (intro w hSw; (try dsimp only at hSw); go_simp; try with_reducible rfl)
          (try simp only [Act.put, List.setIfInBounds_toArray, List.set_cons_zero, List.set_cons_succ])
          refine step_one 9 rfl (by kernel_rfl) (fun K hK => ?_)
          clear hHeld
          have fx := (HM.out.blk 1 rfl).word c (by rw [HL2.out]; exact hc)
          have zx := (HM.out.blk 1 rfl).frozen c
          go_simp
          replace HM := Lib.hid (show Mem w [blkE (w.heap.size + 1) 56 (zw 16), blkE w.heap.size 56 ((l2.set c (P)).map u32v)] (wd1.setCell ⟨w.heap.size, c, none⟩ (.int .u32 ((P).toNat : Int))) from by have h := HM.out.setCell 1 rfl c (u32v (P)); rw [← List.map_set] at h; exact h)
          clear fx zx
          generalize wd1.setCell ⟨w.heap.size, c, none⟩ (.int .u32 ((P).toNat : Int)) = wy2 at HM ⊢
          refine hK.out _ _ ((HM.out.erase 1)) (fun hHeld => ?_)
          clear hK K
          (try simp only [Act.put])
          refine wpAnyH_done (by kernel_rfl) ?_ _
          go_wp2
          go_meet
          have h := HM.out
          rw [← HV.out] at h
          exact h
      case rest =>
        obtain ⟨l3, hl3⟩ : ∃ l, addW l2 c d = l := ⟨_, rfl⟩
        rw [hl3] at hcut
        have HL3 := Lib.hid (show l3.length = 16 by rw [← hl3]; exact (List.length_set).trans HL2.out)
        have E3 := Lib.hid hl3
        clear hl3 HM
        have HM := Lib.hid hcut
        clear hcut
        generalize hwn : wc = wc3 at HM ⊢
        clear hwn
        go_upto_region 4 with fail
        go_cut [] (fun wx => Mem w [blkE (w.heap.size + 1) 56 (zw 16), blkE w.heap.size 56 ((xrot l3 b c 12).map u32v)] wx)
        case first =>
          obtain ⟨X, hX⟩ : ∃ x, wd l3 b = x := ⟨_, rfl⟩
          obtain ⟨Y, hY⟩ : ∃ x, wd l3 c = x := ⟨_, rfl⟩
          obtain ⟨P, hP⟩ : ∃ p, X ^^^ Y = p := ⟨_, rfl⟩
          have e1 : bits BinOp.xor IntKind.u32 (X.toNat : Int) (Y.toNat : Int) = (P.toNat : Int) := by rw [← hP]; exact u32_xor X Y
          obtain ⟨V, hV⟩ : ∃ p, rotr P 12 = p := ⟨_, rfl⟩
          have RC := Lib.hid (fun w' : World => refRight_any P 12 (by omega) (by omega) w')
          rw [hV] at RC
          have HV := Lib.hid (show rotr (wd l3 b ^^^ wd l3 c) 12 = V by rw [hX, hY, hP, hV])
          clear hP hV
          refine wp_region_held_drew (S := fun W' => Mem w [blkE (w.heap.size + 1) 56 (zw 16)] W') (by kernel_rfl) (((HM.out.erase 1)).drew) (fun hHeld => ?_)
          replace HM := Lib.hid HM.out.drew
          generalize wc3.drew = wd1 at HM hHeld ⊢
          refine take_first (v := ?_) 0 rfl (by kernel_rfl) (by kernel_rfl) (by kernel_rfl) (fun _ _ _ h => h) (Or.inl ⟨by rfl, ?_⟩) (by assumption) ?_
          rotate_left
          · (intro w hSw; (try dsimp only at hSw); go_simp; try with_reducible rfl)
          (try simp only [Act.put, List.setIfInBounds_toArray, List.set_cons_zero, List.set_cons_succ])
          refine take_first (v := ?_) 1 rfl (by kernel_rfl) (by kernel_rfl) (by kernel_rfl) (fun _ _ _ h => h) (Or.inl ⟨by rfl, ?_⟩) (by assumption) ?_
          rotate_left
          · (intro w hSw; (try dsimp only at hSw); go_simp; try with_reducible rfl)
          (try simp only [Act.put, List.setIfInBounds_toArray, List.set_cons_zero, List.set_cons_succ])
          refine take_first (v := ?_) 2 rfl (by kernel_rfl) (by kernel_rfl) (by kernel_rfl) (fun _ _ _ h => h) (Or.inl ⟨by rfl, ?_⟩) (by assumption) ?_
          rotate_left
          · (intro w hSw; (try dsimp only at hSw); go_simp; try with_reducible rfl)
          (try simp only [Act.put, List.setIfInBounds_toArray, List.set_cons_zero, List.set_cons_succ])
          refine take_first (v := ?_) 4 rfl (by kernel_rfl) (by kernel_rfl) (by kernel_rfl) (fun _ _ _ h => h) (Or.inl ⟨by rfl, ?_⟩) (by assumption) ?_
          rotate_left
          · (intro w hSw; (try dsimp only at hSw); go_simp; try with_reducible rfl)
          (try simp only [Act.put, List.setIfInBounds_toArray, List.set_cons_zero, List.set_cons_succ])
          refine take_first (v := ?_) 5 rfl (by kernel_rfl) (by kernel_rfl) (by kernel_rfl) (fun _ _ _ h => h) (Or.inl ⟨by rfl, ?_⟩) (by assumption) ?_
          rotate_left
          · (intro w hSw; (try dsimp only at hSw); go_simp; try with_reducible rfl)
          (try simp only [Act.put, List.setIfInBounds_toArray, List.set_cons_zero, List.set_cons_succ])
          refine step_two 3 6 rfl rfl (by kernel_rfl) (fun K hK => ?_) (fun K hK => ?_)
          · clear hHeld
            have fx := (HM.out.blk 1 rfl).word b (by rw [HL3.out]; exact hb)
            rw [hX] at fx
            go_simp
            refine hK.out _ _ ((HM.out.erase 1)) (fun hHeld => ?_)
            clear hK K
            (try simp only [Act.put, List.setIfInBounds_toArray, List.set_cons_zero, List.set_cons_succ])
            clear fx
            refine step_one 6 rfl (by kernel_rfl) (fun K hK => ?_)
            clear hHeld
            have fx := (HM.out.blk 1 rfl).word c (by rw [HL3.out]; exact hc)
            rw [hY] at fx
            go_simp
            refine hK.out _ _ ((HM.out.erase 1)) (fun hHeld => ?_)
            clear hK K
            (try simp only [Act.put, List.setIfInBounds_toArray, List.set_cons_zero, List.set_cons_succ])
            clear fx
            refine take_first (v := ?_) 7 rfl (by kernel_rfl) (by kernel_rfl) (by kernel_rfl) (fun _ _ _ h => h) (Or.inl ⟨by rfl, ?_⟩) (by assumption) ?_
            rotate_left
            · (intro w hSw; (try dsimp only at hSw); go_simp; try with_reducible rfl)
            (try simp only [Act.put, List.setIfInBounds_toArray, List.set_cons_zero, List.set_cons_succ])
            refine step_one 8 rfl (by kernel_rfl) (fun K hK => ?_)
            clear hHeld
            go_simp
            refine (RC.out _).mono ?_
            rintro e wy2 ⟨rfl, hb⟩
            replace HM := Lib.hid (show Mem w [blkE (w.heap.size + 1) 56 (zw 16), blkE w.heap.size 56 (l3.map u32v)] wy2 from HM.out.below hb)
            clear hb
            go_wp2_with fail
            refine hK.out _ _ ((HM.out.erase 1)) (fun hHeld => ?_)
            clear hK K
            (try simp only [Act.put, List.setIfInBounds_toArray, List.set_cons_zero, List.set_cons_succ])
            refine take_first (v := ?_) 9 rfl (by kernel_rfl) (by kernel_rfl) (by kernel_rfl) (fun _ _ _ h => h) (Or.inl ⟨by rfl, ?_⟩) (by assumption) ?_
            rotate_left
            · (intro w hSw; (try dsimp only at hSw); go_simp; try with_reducible rfl)
            (try simp only [Act.put, List.setIfInBounds_toArray, List.set_cons_zero, List.set_cons_succ])
            refine step_one 10 rfl (by kernel_rfl) (fun K hK => ?_)
            clear hHeld
            have fx := (HM.out.blk 1 rfl).word b (by rw [HL3.out]; exact hb)
            have zx := (HM.out.blk 1 rfl).frozen b
            go_simp
            replace HM := Lib.hid (show Mem w [blkE (w.heap.size + 1) 56 (zw 16), blkE w.heap.size 56 ((l3.set b (V)).map u32v)] (wy2.setCell ⟨w.heap.size, b, none⟩ (.int .u32 ((V).toNat : Int))) from by have h := HM.out.setCell 1 rfl b (u32v (V)); rw [← List.map_set] at h; exact h)
            clear fx zx
            generalize wy2.setCell ⟨w.heap.size, b, none⟩ (.int .u32 ((V).toNat : Int)) = wy3 at HM ⊢
            refine hK.out _ _ ((HM.out.erase 1)) (fun hHeld => ?_)
            clear hK K
            (try simp only [Act.put])
            refine wpAnyH_done (by kernel_rfl) ?_ _
            go_wp2
            go_meet
            have h := HM.out
            rw [← HV.out] at h
            exact h
          · clear hHeld
            have fx := (HM.out.blk 1 rfl).word c (by rw [HL3.out]; exact hc)
            rw [hY] at fx
            go_simp
            refine hK.out _ _ ((HM.out.erase 1)) (fun hHeld => ?_)
            clear hK K
            (try simp only [Act.put, List.setIfInBounds_toArray, List.set_cons_zero, List.set_cons_succ])
            clear fx
            refine step_one 3 rfl (by kernel_rfl) (fun K hK => ?_)
            clear hHeld
            have fx := (HM.out.blk 1 rfl).word b (by rw [HL3.out]; exact hb)
            rw [hX] at fx
            go_simp
            refine hK.out _ _ ((HM.out.erase 1)) (fun hHeld => ?_)
            clear hK K
            (try simp only [Act.put, List.setIfInBounds_toArray, List.set_cons_zero, List.set_cons_succ])
            clear fx
            refine take_first (v := ?_) 7 rfl (by kernel_rfl) (by kernel_rfl) (by kernel_rfl) (fun _ _ _ h => h) (Or.inl ⟨by rfl, ?_⟩) (by assumption) ?_
            rotate_left
            · (intro w hSw; (try dsimp only at hSw); go_simp; try with_reducible rfl)
            (try simp only [Act.put, List.setIfInBounds_toArray, List.set_cons_zero, List.set_cons_succ])
            refine step_one 8 rfl (by kernel_rfl) (fun K hK => ?_)
            clear hHeld
            go_simp
            refine (RC.out _).mono ?_
            rintro e wy2 ⟨rfl, hb⟩
            replace HM := Lib.hid (show Mem w [blkE (w.heap.size + 1) 56 (zw 16), blkE w.heap.size 56 (l3.map u32v)] wy2 from HM.out.below hb)
            clear hb
            go_wp2_with fail
            refine hK.out _ _ ((HM.out.erase 1)) (fun hHeld => ?_)
            clear hK K
            (try simp only [Act.put, List.setIfInBounds_toArray, List.set_cons_zero, List.set_cons_succ])
            refine take_first (v := ?_) 9 rfl (by kernel_rfl) (by kernel_rfl) (by kernel_rfl) (fun _ _ _ h => h) (Or.inl ⟨by rfl, ?_⟩) (by assumption) ?_
            rotate_left
            · (intro w hSw; (try dsimp only at hSw); go_simp; try with_reducible rfl)
            (try simp only [Act.put, List.setIfInBounds_toArray, List.set_cons_zero, List.set_cons_succ])
            refine step_one 10 rfl (by kernel_rfl) (fun K hK => ?_)
            clear hHeld
            have fx := (HM.out.blk 1 rfl).word b (by rw [HL3.out]; exact hb)
            have zx := (HM.out.blk 1 rfl).frozen b
            go_simp
            replace HM := Lib.hid (show Mem w [blkE (w.heap.size + 1) 56 (zw 16), blkE w.heap.size 56 ((l3.set b (V)).map u32v)] (wy2.setCell ⟨w.heap.size, b, none⟩ (.int .u32 ((V).toNat : Int))) from by have h := HM.out.setCell 1 rfl b (u32v (V)); rw [← List.map_set] at h; exact h)
            clear fx zx
            generalize wy2.setCell ⟨w.heap.size, b, none⟩ (.int .u32 ((V).toNat : Int)) = wy3 at HM ⊢
            refine hK.out _ _ ((HM.out.erase 1)) (fun hHeld => ?_)
            clear hK K
            (try simp only [Act.put])
            refine wpAnyH_done (by kernel_rfl) ?_ _
            go_wp2
            go_meet
            have h := HM.out
            rw [← HV.out] at h
            exact h
        case rest =>
          obtain ⟨l4, hl4⟩ : ∃ l, xrot l3 b c 12 = l := ⟨_, rfl⟩
          rw [hl4] at hcut
          have HL4 := Lib.hid (show l4.length = 16 by rw [← hl4]; exact (List.length_set).trans HL3.out)
          have E4 := Lib.hid hl4
          clear hl4 HM
          have HM := Lib.hid hcut
          clear hcut
          generalize hwn : wc = wc4 at HM ⊢
          clear hwn
          go_upto_region 5 with fail
          go_cut [] (fun wx => Mem w [blkE (w.heap.size + 1) 56 (zw 16), blkE w.heap.size 56 ((addX l4 a b y).map u32v)] wx)
          case first =>
            obtain ⟨X, hX⟩ : ∃ x, wd l4 a = x := ⟨_, rfl⟩
            obtain ⟨Y, hY⟩ : ∃ x, wd l4 b = x := ⟨_, rfl⟩
            obtain ⟨P, hP⟩ : ∃ p, X + Y = p := ⟨_, rfl⟩
            have e1 : ((X.toNat : Int) + (Y.toNat : Int)) % 4294967296 = (P.toNat : Int) := by rw [← hP]; exact u32_sum X Y
            have e2 : IntKind.u32.wrap ((X.toNat : Int) + (Y.toNat : Int)) = (P.toNat : Int) := by rw [← hP]; exact u32_add X Y
            obtain ⟨V, hV⟩ : ∃ p, P + y = p := ⟨_, rfl⟩
            have e3 : ((P.toNat : Int) + (y.toNat : Int)) % 4294967296 = (V.toNat : Int) := by rw [← hV]; exact u32_sum P y
            have e4 : IntKind.u32.wrap ((P.toNat : Int) + (y.toNat : Int)) = (V.toNat : Int) := by rw [← hV]; exact u32_add P y
            have HV := Lib.hid (show wd l4 a + wd l4 b + y = V by rw [hX, hY, hP, hV])
            clear hP hV
            refine wp_region_held_drew (S := fun W' => Mem w [blkE (w.heap.size + 1) 56 (zw 16)] W') (by kernel_rfl) (((HM.out.erase 1)).drew) (fun hHeld => ?_)
            replace HM := Lib.hid HM.out.drew
            generalize wc4.drew = wd1 at HM hHeld ⊢
            refine take_first (v := ?_) 0 rfl (by kernel_rfl) (by kernel_rfl) (by kernel_rfl) (fun _ _ _ h => h) (Or.inl ⟨by rfl, ?_⟩) (by assumption) ?_
            rotate_left
            · (intro w hSw; (try dsimp only at hSw); go_simp; try with_reducible rfl)
            (try simp only [Act.put, List.setIfInBounds_toArray, List.set_cons_zero, List.set_cons_succ])
            refine take_first (v := ?_) 1 rfl (by kernel_rfl) (by kernel_rfl) (by kernel_rfl) (fun _ _ _ h => h) (Or.inl ⟨by rfl, ?_⟩) (by assumption) ?_
            rotate_left
            · (intro w hSw; (try dsimp only at hSw); go_simp; try with_reducible rfl)
            (try simp only [Act.put, List.setIfInBounds_toArray, List.set_cons_zero, List.set_cons_succ])
            refine take_first (v := ?_) 2 rfl (by kernel_rfl) (by kernel_rfl) (by kernel_rfl) (fun _ _ _ h => h) (Or.inl ⟨by rfl, ?_⟩) (by assumption) ?_
            rotate_left
            · (intro w hSw; (try dsimp only at hSw); go_simp; try with_reducible rfl)
            (try simp only [Act.put, List.setIfInBounds_toArray, List.set_cons_zero, List.set_cons_succ])
            refine take_first (v := ?_) 4 rfl (by kernel_rfl) (by kernel_rfl) (by kernel_rfl) (fun _ _ _ h => h) (Or.inl ⟨by rfl, ?_⟩) (by assumption) ?_
            rotate_left
            · (intro w hSw; (try dsimp only at hSw); go_simp; try with_reducible rfl)
            (try simp only [Act.put, List.setIfInBounds_toArray, List.set_cons_zero, List.set_cons_succ])
            refine take_first (v := ?_) 5 rfl (by kernel_rfl) (by kernel_rfl) (by kernel_rfl) (fun _ _ _ h => h) (Or.inl ⟨by rfl, ?_⟩) (by assumption) ?_
            rotate_left
            · (intro w hSw; (try dsimp only at hSw); go_simp; try with_reducible rfl)
            (try simp only [Act.put, List.setIfInBounds_toArray, List.set_cons_zero, List.set_cons_succ])
            refine take_first (v := ?_) 8 rfl (by kernel_rfl) (by kernel_rfl) (by kernel_rfl) (fun _ _ _ h => h) (Or.inl ⟨by rfl, ?_⟩) (by assumption) ?_
            rotate_left
            · (intro w hSw; (try dsimp only at hSw); go_simp; try with_reducible rfl)
            (try simp only [Act.put, List.setIfInBounds_toArray, List.set_cons_zero, List.set_cons_succ])
            refine step_two 3 6 rfl rfl (by kernel_rfl) (fun K hK => ?_) (fun K hK => ?_)
            · clear hHeld
              have fx := (HM.out.blk 1 rfl).word a (by rw [HL4.out]; exact ha)
              rw [hX] at fx
              go_simp
              refine hK.out _ _ ((HM.out.erase 1)) (fun hHeld => ?_)
              clear hK K
              (try simp only [Act.put, List.setIfInBounds_toArray, List.set_cons_zero, List.set_cons_succ])
              clear fx
              refine step_one 6 rfl (by kernel_rfl) (fun K hK => ?_)
              clear hHeld
              have fx := (HM.out.blk 1 rfl).word b (by rw [HL4.out]; exact hb)
              rw [hY] at fx
              go_simp
              refine hK.out _ _ ((HM.out.erase 1)) (fun hHeld => ?_)
              clear hK K
              (try simp only [Act.put, List.setIfInBounds_toArray, List.set_cons_zero, List.set_cons_succ])
              clear fx
              refine take_first (v := ?_) 7 rfl (by kernel_rfl) (by kernel_rfl) (by kernel_rfl) (fun _ _ _ h => h) (Or.inl ⟨by rfl, ?_⟩) (by assumption) ?_
              rotate_left
              · (intro w hSw; (try dsimp only at hSw); go_simp; try with_reducible rfl)
              (try simp only [Act.put, List.setIfInBounds_toArray, List.set_cons_zero, List.set_cons_succ])
              refine take_first (v := ?_) 9 rfl (by kernel_rfl) (by kernel_rfl) (by kernel_rfl) (fun _ _ _ h => h) (Or.inl ⟨by rfl, ?_⟩) (by assumption) ?_
              rotate_left
              · (intro w hSw; (try dsimp only at hSw); go_simp; try with_reducible rfl)
              (try simp only [Act.put, List.setIfInBounds_toArray, List.set_cons_zero, List.set_cons_succ])
              refine take_first (v := ?_) 10 rfl (by kernel_rfl) (by kernel_rfl) (by kernel_rfl) (fun _ _ _ h => h) (Or.inl ⟨by rfl, ?_⟩) (by assumption) ?_
              rotate_left
              · (intro w hSw; (try dsimp only at hSw); go_simp; try with_reducible rfl)
              (try simp only [Act.put, List.setIfInBounds_toArray, List.set_cons_zero, List.set_cons_succ])
              refine step_one 11 rfl (by kernel_rfl) (fun K hK => ?_)
              clear hHeld
              have fx := (HM.out.blk 1 rfl).word a (by rw [HL4.out]; exact ha)
              have zx := (HM.out.blk 1 rfl).frozen a
              go_simp
              replace HM := Lib.hid (show Mem w [blkE (w.heap.size + 1) 56 (zw 16), blkE w.heap.size 56 ((l4.set a (V)).map u32v)] (wd1.setCell ⟨w.heap.size, a, none⟩ (.int .u32 ((V).toNat : Int))) from by have h := HM.out.setCell 1 rfl a (u32v (V)); rw [← List.map_set] at h; exact h)
              clear fx zx
              generalize wd1.setCell ⟨w.heap.size, a, none⟩ (.int .u32 ((V).toNat : Int)) = wy2 at HM ⊢
              refine hK.out _ _ ((HM.out.erase 1)) (fun hHeld => ?_)
              clear hK K
              (try simp only [Act.put])
              refine wpAnyH_done (by kernel_rfl) ?_ _
              go_wp2
              go_meet
              have h := HM.out
              rw [← HV.out] at h
              exact h
            · clear hHeld
              have fx := (HM.out.blk 1 rfl).word b (by rw [HL4.out]; exact hb)
              rw [hY] at fx
              go_simp
              refine hK.out _ _ ((HM.out.erase 1)) (fun hHeld => ?_)
              clear hK K
              (try simp only [Act.put, List.setIfInBounds_toArray, List.set_cons_zero, List.set_cons_succ])
              clear fx
              refine step_one 3 rfl (by kernel_rfl) (fun K hK => ?_)
              clear hHeld
              have fx := (HM.out.blk 1 rfl).word a (by rw [HL4.out]; exact ha)
              rw [hX] at fx
              go_simp
              refine hK.out _ _ ((HM.out.erase 1)) (fun hHeld => ?_)
              clear hK K
              (try simp only [Act.put, List.setIfInBounds_toArray, List.set_cons_zero, List.set_cons_succ])
              clear fx
              refine take_first (v := ?_) 7 rfl (by kernel_rfl) (by kernel_rfl) (by kernel_rfl) (fun _ _ _ h => h) (Or.inl ⟨by rfl, ?_⟩) (by assumption) ?_
              rotate_left
              · (intro w hSw; (try dsimp only at hSw); go_simp; try with_reducible rfl)
              (try simp only [Act.put, List.setIfInBounds_toArray, List.set_cons_zero, List.set_cons_succ])
              refine take_first (v := ?_) 9 rfl (by kernel_rfl) (by kernel_rfl) (by kernel_rfl) (fun _ _ _ h => h) (Or.inl ⟨by rfl, ?_⟩) (by assumption) ?_
              rotate_left
              · (intro w hSw; (try dsimp only at hSw); go_simp; try with_reducible rfl)
              (try simp only [Act.put, List.setIfInBounds_toArray, List.set_cons_zero, List.set_cons_succ])
              refine take_first (v := ?_) 10 rfl (by kernel_rfl) (by kernel_rfl) (by kernel_rfl) (fun _ _ _ h => h) (Or.inl ⟨by rfl, ?_⟩) (by assumption) ?_
              rotate_left
              · (intro w hSw; (try dsimp only at hSw); go_simp; try with_reducible rfl)
              (try simp only [Act.put, List.setIfInBounds_toArray, List.set_cons_zero, List.set_cons_succ])
              refine step_one 11 rfl (by kernel_rfl) (fun K hK => ?_)
              clear hHeld
              have fx := (HM.out.blk 1 rfl).word a (by rw [HL4.out]; exact ha)
              have zx := (HM.out.blk 1 rfl).frozen a
              go_simp
              replace HM := Lib.hid (show Mem w [blkE (w.heap.size + 1) 56 (zw 16), blkE w.heap.size 56 ((l4.set a (V)).map u32v)] (wd1.setCell ⟨w.heap.size, a, none⟩ (.int .u32 ((V).toNat : Int))) from by have h := HM.out.setCell 1 rfl a (u32v (V)); rw [← List.map_set] at h; exact h)
              clear fx zx
              generalize wd1.setCell ⟨w.heap.size, a, none⟩ (.int .u32 ((V).toNat : Int)) = wy2 at HM ⊢
              refine hK.out _ _ ((HM.out.erase 1)) (fun hHeld => ?_)
              clear hK K
              (try simp only [Act.put])
              refine wpAnyH_done (by kernel_rfl) ?_ _
              go_wp2
              go_meet
              have h := HM.out
              rw [← HV.out] at h
              exact h
          case rest =>
            obtain ⟨l5, hl5⟩ : ∃ l, addX l4 a b y = l := ⟨_, rfl⟩
            rw [hl5] at hcut
            have HL5 := Lib.hid (show l5.length = 16 by rw [← hl5]; exact (List.length_set).trans HL4.out)
            have E5 := Lib.hid hl5
            clear hl5 HM
            have HM := Lib.hid hcut
            clear hcut
            generalize hwn : wc = wc5 at HM ⊢
            clear hwn
            go_upto_region 6 with fail
            go_cut [] (fun wx => Mem w [blkE (w.heap.size + 1) 56 (zw 16), blkE w.heap.size 56 ((xrot l5 d a 8).map u32v)] wx)
            case first =>
              obtain ⟨X, hX⟩ : ∃ x, wd l5 d = x := ⟨_, rfl⟩
              obtain ⟨Y, hY⟩ : ∃ x, wd l5 a = x := ⟨_, rfl⟩
              obtain ⟨P, hP⟩ : ∃ p, X ^^^ Y = p := ⟨_, rfl⟩
              have e1 : bits BinOp.xor IntKind.u32 (X.toNat : Int) (Y.toNat : Int) = (P.toNat : Int) := by rw [← hP]; exact u32_xor X Y
              obtain ⟨V, hV⟩ : ∃ p, rotr P 8 = p := ⟨_, rfl⟩
              have RC := Lib.hid (fun w' : World => refRight_any P 8 (by omega) (by omega) w')
              rw [hV] at RC
              have HV := Lib.hid (show rotr (wd l5 d ^^^ wd l5 a) 8 = V by rw [hX, hY, hP, hV])
              clear hP hV
              refine wp_region_held_drew (S := fun W' => Mem w [blkE (w.heap.size + 1) 56 (zw 16)] W') (by kernel_rfl) (((HM.out.erase 1)).drew) (fun hHeld => ?_)
              replace HM := Lib.hid HM.out.drew
              generalize wc5.drew = wd1 at HM hHeld ⊢
              refine take_first (v := ?_) 0 rfl (by kernel_rfl) (by kernel_rfl) (by kernel_rfl) (fun _ _ _ h => h) (Or.inl ⟨by rfl, ?_⟩) (by assumption) ?_
              rotate_left
              · (intro w hSw; (try dsimp only at hSw); go_simp; try with_reducible rfl)
              (try simp only [Act.put, List.setIfInBounds_toArray, List.set_cons_zero, List.set_cons_succ])
              refine take_first (v := ?_) 1 rfl (by kernel_rfl) (by kernel_rfl) (by kernel_rfl) (fun _ _ _ h => h) (Or.inl ⟨by rfl, ?_⟩) (by assumption) ?_
              rotate_left
              · (intro w hSw; (try dsimp only at hSw); go_simp; try with_reducible rfl)
              (try simp only [Act.put, List.setIfInBounds_toArray, List.set_cons_zero, List.set_cons_succ])
              refine take_first (v := ?_) 2 rfl (by kernel_rfl) (by kernel_rfl) (by kernel_rfl) (fun _ _ _ h => h) (Or.inl ⟨by rfl, ?_⟩) (by assumption) ?_
              rotate_left
              · (intro w hSw; (try dsimp only at hSw); go_simp; try with_reducible rfl)
              (try simp only [Act.put, List.setIfInBounds_toArray, List.set_cons_zero, List.set_cons_succ])
              refine take_first (v := ?_) 4 rfl (by kernel_rfl) (by kernel_rfl) (by kernel_rfl) (fun _ _ _ h => h) (Or.inl ⟨by rfl, ?_⟩) (by assumption) ?_
              rotate_left
              · (intro w hSw; (try dsimp only at hSw); go_simp; try with_reducible rfl)
              (try simp only [Act.put, List.setIfInBounds_toArray, List.set_cons_zero, List.set_cons_succ])
              refine take_first (v := ?_) 5 rfl (by kernel_rfl) (by kernel_rfl) (by kernel_rfl) (fun _ _ _ h => h) (Or.inl ⟨by rfl, ?_⟩) (by assumption) ?_
              rotate_left
              · (intro w hSw; (try dsimp only at hSw); go_simp; try with_reducible rfl)
              (try simp only [Act.put, List.setIfInBounds_toArray, List.set_cons_zero, List.set_cons_succ])
              refine step_two 3 6 rfl rfl (by kernel_rfl) (fun K hK => ?_) (fun K hK => ?_)
              · clear hHeld
                have fx := (HM.out.blk 1 rfl).word d (by rw [HL5.out]; exact hd)
                rw [hX] at fx
                go_simp
                refine hK.out _ _ ((HM.out.erase 1)) (fun hHeld => ?_)
                clear hK K
                (try simp only [Act.put, List.setIfInBounds_toArray, List.set_cons_zero, List.set_cons_succ])
                clear fx
                refine step_one 6 rfl (by kernel_rfl) (fun K hK => ?_)
                clear hHeld
                have fx := (HM.out.blk 1 rfl).word a (by rw [HL5.out]; exact ha)
                rw [hY] at fx
                go_simp
                refine hK.out _ _ ((HM.out.erase 1)) (fun hHeld => ?_)
                clear hK K
                (try simp only [Act.put, List.setIfInBounds_toArray, List.set_cons_zero, List.set_cons_succ])
                clear fx
                refine take_first (v := ?_) 7 rfl (by kernel_rfl) (by kernel_rfl) (by kernel_rfl) (fun _ _ _ h => h) (Or.inl ⟨by rfl, ?_⟩) (by assumption) ?_
                rotate_left
                · (intro w hSw; (try dsimp only at hSw); go_simp; try with_reducible rfl)
                (try simp only [Act.put, List.setIfInBounds_toArray, List.set_cons_zero, List.set_cons_succ])
                refine step_one 8 rfl (by kernel_rfl) (fun K hK => ?_)
                clear hHeld
                go_simp
                refine (RC.out _).mono ?_
                rintro e wy2 ⟨rfl, hb⟩
                replace HM := Lib.hid (show Mem w [blkE (w.heap.size + 1) 56 (zw 16), blkE w.heap.size 56 (l5.map u32v)] wy2 from HM.out.below hb)
                clear hb
                go_wp2_with fail
                refine hK.out _ _ ((HM.out.erase 1)) (fun hHeld => ?_)
                clear hK K
                (try simp only [Act.put, List.setIfInBounds_toArray, List.set_cons_zero, List.set_cons_succ])
                refine take_first (v := ?_) 9 rfl (by kernel_rfl) (by kernel_rfl) (by kernel_rfl) (fun _ _ _ h => h) (Or.inl ⟨by rfl, ?_⟩) (by assumption) ?_
                rotate_left
                · (intro w hSw; (try dsimp only at hSw); go_simp; try with_reducible rfl)
                (try simp only [Act.put, List.setIfInBounds_toArray, List.set_cons_zero, List.set_cons_succ])
                refine step_one 10 rfl (by kernel_rfl) (fun K hK => ?_)
                clear hHeld
                have fx := (HM.out.blk 1 rfl).word d (by rw [HL5.out]; exact hd)
                have zx := (HM.out.blk 1 rfl).frozen d
                go_simp
                replace HM := Lib.hid (show Mem w [blkE (w.heap.size + 1) 56 (zw 16), blkE w.heap.size 56 ((l5.set d (V)).map u32v)] (wy2.setCell ⟨w.heap.size, d, none⟩ (.int .u32 ((V).toNat : Int))) from by have h := HM.out.setCell 1 rfl d (u32v (V)); rw [← List.map_set] at h; exact h)
                clear fx zx
                generalize wy2.setCell ⟨w.heap.size, d, none⟩ (.int .u32 ((V).toNat : Int)) = wy3 at HM ⊢
                refine hK.out _ _ ((HM.out.erase 1)) (fun hHeld => ?_)
                clear hK K
                (try simp only [Act.put])
                refine wpAnyH_done (by kernel_rfl) ?_ _
                go_wp2
                go_meet
                have h := HM.out
                rw [← HV.out] at h
                exact h
              · clear hHeld
                have fx := (HM.out.blk 1 rfl).word a (by rw [HL5.out]; exact ha)
                rw [hY] at fx
                go_simp
                refine hK.out _ _ ((HM.out.erase 1)) (fun hHeld => ?_)
                clear hK K
                (try simp only [Act.put, List.setIfInBounds_toArray, List.set_cons_zero, List.set_cons_succ])
                clear fx
                refine step_one 3 rfl (by kernel_rfl) (fun K hK => ?_)
                clear hHeld
                have fx := (HM.out.blk 1 rfl).word d (by rw [HL5.out]; exact hd)
                rw [hX] at fx
                go_simp
                refine hK.out _ _ ((HM.out.erase 1)) (fun hHeld => ?_)
                clear hK K
                (try simp only [Act.put, List.setIfInBounds_toArray, List.set_cons_zero, List.set_cons_succ])
                clear fx
                refine take_first (v := ?_) 7 rfl (by kernel_rfl) (by kernel_rfl) (by kernel_rfl) (fun _ _ _ h => h) (Or.inl ⟨by rfl, ?_⟩) (by assumption) ?_
                rotate_left
                · (intro w hSw; (try dsimp only at hSw); go_simp; try with_reducible rfl)
                (try simp only [Act.put, List.setIfInBounds_toArray, List.set_cons_zero, List.set_cons_succ])
                refine step_one 8 rfl (by kernel_rfl) (fun K hK => ?_)
                clear hHeld
                go_simp
                refine (RC.out _).mono ?_
                rintro e wy2 ⟨rfl, hb⟩
                replace HM := Lib.hid (show Mem w [blkE (w.heap.size + 1) 56 (zw 16), blkE w.heap.size 56 (l5.map u32v)] wy2 from HM.out.below hb)
                clear hb
                go_wp2_with fail
                refine hK.out _ _ ((HM.out.erase 1)) (fun hHeld => ?_)
                clear hK K
                (try simp only [Act.put, List.setIfInBounds_toArray, List.set_cons_zero, List.set_cons_succ])
                refine take_first (v := ?_) 9 rfl (by kernel_rfl) (by kernel_rfl) (by kernel_rfl) (fun _ _ _ h => h) (Or.inl ⟨by rfl, ?_⟩) (by assumption) ?_
                rotate_left
                · (intro w hSw; (try dsimp only at hSw); go_simp; try with_reducible rfl)
                (try simp only [Act.put, List.setIfInBounds_toArray, List.set_cons_zero, List.set_cons_succ])
                refine step_one 10 rfl (by kernel_rfl) (fun K hK => ?_)
                clear hHeld
                have fx := (HM.out.blk 1 rfl).word d (by rw [HL5.out]; exact hd)
                have zx := (HM.out.blk 1 rfl).frozen d
                go_simp
                replace HM := Lib.hid (show Mem w [blkE (w.heap.size + 1) 56 (zw 16), blkE w.heap.size 56 ((l5.set d (V)).map u32v)] (wy2.setCell ⟨w.heap.size, d, none⟩ (.int .u32 ((V).toNat : Int))) from by have h := HM.out.setCell 1 rfl d (u32v (V)); rw [← List.map_set] at h; exact h)
                clear fx zx
                generalize wy2.setCell ⟨w.heap.size, d, none⟩ (.int .u32 ((V).toNat : Int)) = wy3 at HM ⊢
                refine hK.out _ _ ((HM.out.erase 1)) (fun hHeld => ?_)
                clear hK K
                (try simp only [Act.put])
                refine wpAnyH_done (by kernel_rfl) ?_ _
                go_wp2
                go_meet
                have h := HM.out
                rw [← HV.out] at h
                exact h
            case rest =>
              obtain ⟨l6, hl6⟩ : ∃ l, xrot l5 d a 8 = l := ⟨_, rfl⟩
              rw [hl6] at hcut
              have HL6 := Lib.hid (show l6.length = 16 by rw [← hl6]; exact (List.length_set).trans HL5.out)
              have E6 := Lib.hid hl6
              clear hl6 HM
              have HM := Lib.hid hcut
              clear hcut
              generalize hwn : wc = wc6 at HM ⊢
              clear hwn
              go_upto_region 7 with fail
              go_cut [] (fun wx => Mem w [blkE (w.heap.size + 1) 56 (zw 16), blkE w.heap.size 56 ((addW l6 c d).map u32v)] wx)
              case first =>
                obtain ⟨X, hX⟩ : ∃ x, wd l6 c = x := ⟨_, rfl⟩
                obtain ⟨Y, hY⟩ : ∃ x, wd l6 d = x := ⟨_, rfl⟩
                obtain ⟨P, hP⟩ : ∃ p, X + Y = p := ⟨_, rfl⟩
                have e1 : ((X.toNat : Int) + (Y.toNat : Int)) % 4294967296 = (P.toNat : Int) := by rw [← hP]; exact u32_sum X Y
                have e2 : IntKind.u32.wrap ((X.toNat : Int) + (Y.toNat : Int)) = (P.toNat : Int) := by rw [← hP]; exact u32_add X Y
                have HV := Lib.hid (show wd l6 c + wd l6 d = P by rw [hX, hY, hP])
                clear hP
                refine wp_region_held_drew (S := fun W' => Mem w [blkE (w.heap.size + 1) 56 (zw 16)] W') (by kernel_rfl) (((HM.out.erase 1)).drew) (fun hHeld => ?_)
                replace HM := Lib.hid HM.out.drew
                generalize wc6.drew = wd1 at HM hHeld ⊢
                refine take_first (v := ?_) 0 rfl (by kernel_rfl) (by kernel_rfl) (by kernel_rfl) (fun _ _ _ h => h) (Or.inl ⟨by rfl, ?_⟩) (by assumption) ?_
                rotate_left
                · (intro w hSw; (try dsimp only at hSw); go_simp; try with_reducible rfl)
                (try simp only [Act.put, List.setIfInBounds_toArray, List.set_cons_zero, List.set_cons_succ])
                refine take_first (v := ?_) 1 rfl (by kernel_rfl) (by kernel_rfl) (by kernel_rfl) (fun _ _ _ h => h) (Or.inl ⟨by rfl, ?_⟩) (by assumption) ?_
                rotate_left
                · (intro w hSw; (try dsimp only at hSw); go_simp; try with_reducible rfl)
                (try simp only [Act.put, List.setIfInBounds_toArray, List.set_cons_zero, List.set_cons_succ])
                refine take_first (v := ?_) 2 rfl (by kernel_rfl) (by kernel_rfl) (by kernel_rfl) (fun _ _ _ h => h) (Or.inl ⟨by rfl, ?_⟩) (by assumption) ?_
                rotate_left
                · (intro w hSw; (try dsimp only at hSw); go_simp; try with_reducible rfl)
                (try simp only [Act.put, List.setIfInBounds_toArray, List.set_cons_zero, List.set_cons_succ])
                refine take_first (v := ?_) 4 rfl (by kernel_rfl) (by kernel_rfl) (by kernel_rfl) (fun _ _ _ h => h) (Or.inl ⟨by rfl, ?_⟩) (by assumption) ?_
                rotate_left
                · (intro w hSw; (try dsimp only at hSw); go_simp; try with_reducible rfl)
                (try simp only [Act.put, List.setIfInBounds_toArray, List.set_cons_zero, List.set_cons_succ])
                refine take_first (v := ?_) 5 rfl (by kernel_rfl) (by kernel_rfl) (by kernel_rfl) (fun _ _ _ h => h) (Or.inl ⟨by rfl, ?_⟩) (by assumption) ?_
                rotate_left
                · (intro w hSw; (try dsimp only at hSw); go_simp; try with_reducible rfl)
                (try simp only [Act.put, List.setIfInBounds_toArray, List.set_cons_zero, List.set_cons_succ])
                refine step_two 3 6 rfl rfl (by kernel_rfl) (fun K hK => ?_) (fun K hK => ?_)
                · clear hHeld
                  have fx := (HM.out.blk 1 rfl).word c (by rw [HL6.out]; exact hc)
                  rw [hX] at fx
                  go_simp
                  refine hK.out _ _ ((HM.out.erase 1)) (fun hHeld => ?_)
                  clear hK K
                  (try simp only [Act.put, List.setIfInBounds_toArray, List.set_cons_zero, List.set_cons_succ])
                  clear fx
                  refine step_one 6 rfl (by kernel_rfl) (fun K hK => ?_)
                  clear hHeld
                  have fx := (HM.out.blk 1 rfl).word d (by rw [HL6.out]; exact hd)
                  rw [hY] at fx
                  go_simp
                  refine hK.out _ _ ((HM.out.erase 1)) (fun hHeld => ?_)
                  clear hK K
                  (try simp only [Act.put, List.setIfInBounds_toArray, List.set_cons_zero, List.set_cons_succ])
                  clear fx
                  refine take_first (v := ?_) 7 rfl (by kernel_rfl) (by kernel_rfl) (by kernel_rfl) (fun _ _ _ h => h) (Or.inl ⟨by rfl, ?_⟩) (by assumption) ?_
                  rotate_left
                  · (intro w hSw; (try dsimp only at hSw); go_simp; try with_reducible rfl)
                  (try simp only [Act.put, List.setIfInBounds_toArray, List.set_cons_zero, List.set_cons_succ])
                  refine take_first (v := ?_) 8 rfl (by kernel_rfl) (by kernel_rfl) (by kernel_rfl) (fun _ _ _ h => h) (Or.inl ⟨by rfl, ?_⟩) (by assumption) ?_
                  rotate_left
                  · (intro w hSw; (try dsimp only at hSw); go_simp; try with_reducible rfl)
                  (try simp only [Act.put, List.setIfInBounds_toArray, List.set_cons_zero, List.set_cons_succ])
                  refine step_one 9 rfl (by kernel_rfl) (fun K hK => ?_)
                  clear hHeld
                  have fx := (HM.out.blk 1 rfl).word c (by rw [HL6.out]; exact hc)
                  have zx := (HM.out.blk 1 rfl).frozen c
                  go_simp
                  replace HM := Lib.hid (show Mem w [blkE (w.heap.size + 1) 56 (zw 16), blkE w.heap.size 56 ((l6.set c (P)).map u32v)] (wd1.setCell ⟨w.heap.size, c, none⟩ (.int .u32 ((P).toNat : Int))) from by have h := HM.out.setCell 1 rfl c (u32v (P)); rw [← List.map_set] at h; exact h)
                  clear fx zx
                  generalize wd1.setCell ⟨w.heap.size, c, none⟩ (.int .u32 ((P).toNat : Int)) = wy2 at HM ⊢
                  refine hK.out _ _ ((HM.out.erase 1)) (fun hHeld => ?_)
                  clear hK K
                  (try simp only [Act.put])
                  refine wpAnyH_done (by kernel_rfl) ?_ _
                  go_wp2
                  go_meet
                  have h := HM.out
                  rw [← HV.out] at h
                  exact h
                · clear hHeld
                  have fx := (HM.out.blk 1 rfl).word d (by rw [HL6.out]; exact hd)
                  rw [hY] at fx
                  go_simp
                  refine hK.out _ _ ((HM.out.erase 1)) (fun hHeld => ?_)
                  clear hK K
                  (try simp only [Act.put, List.setIfInBounds_toArray, List.set_cons_zero, List.set_cons_succ])
                  clear fx
                  refine step_one 3 rfl (by kernel_rfl) (fun K hK => ?_)
                  clear hHeld
                  have fx := (HM.out.blk 1 rfl).word c (by rw [HL6.out]; exact hc)
                  rw [hX] at fx
                  go_simp
                  refine hK.out _ _ ((HM.out.erase 1)) (fun hHeld => ?_)
                  clear hK K
                  (try simp only [Act.put, List.setIfInBounds_toArray, List.set_cons_zero, List.set_cons_succ])
                  clear fx
                  refine take_first (v := ?_) 7 rfl (by kernel_rfl) (by kernel_rfl) (by kernel_rfl) (fun _ _ _ h => h) (Or.inl ⟨by rfl, ?_⟩) (by assumption) ?_
                  rotate_left
                  · (intro w hSw; (try dsimp only at hSw); go_simp; try with_reducible rfl)
                  (try simp only [Act.put, List.setIfInBounds_toArray, List.set_cons_zero, List.set_cons_succ])
                  refine take_first (v := ?_) 8 rfl (by kernel_rfl) (by kernel_rfl) (by kernel_rfl) (fun _ _ _ h => h) (Or.inl ⟨by rfl, ?_⟩) (by assumption) ?_
                  rotate_left
                  · (intro w hSw; (try dsimp only at hSw); go_simp; try with_reducible rfl)
                  (try simp only [Act.put, List.setIfInBounds_toArray, List.set_cons_zero, List.set_cons_succ])
                  refine step_one 9 rfl (by kernel_rfl) (fun K hK => ?_)
                  clear hHeld
                  have fx := (HM.out.blk 1 rfl).word c (by rw [HL6.out]; exact hc)
                  have zx := (HM.out.blk 1 rfl).frozen c
                  go_simp
                  replace HM := Lib.hid (show Mem w [blkE (w.heap.size + 1) 56 (zw 16), blkE w.heap.size 56 ((l6.set c (P)).map u32v)] (wd1.setCell ⟨w.heap.size, c, none⟩ (.int .u32 ((P).toNat : Int))) from by have h := HM.out.setCell 1 rfl c (u32v (P)); rw [← List.map_set] at h; exact h)
                  clear fx zx
                  generalize wd1.setCell ⟨w.heap.size, c, none⟩ (.int .u32 ((P).toNat : Int)) = wy2 at HM ⊢
                  refine hK.out _ _ ((HM.out.erase 1)) (fun hHeld => ?_)
                  clear hK K
                  (try simp only [Act.put])
                  refine wpAnyH_done (by kernel_rfl) ?_ _
                  go_wp2
                  go_meet
                  have h := HM.out
                  rw [← HV.out] at h
                  exact h
              case rest =>
                obtain ⟨l7, hl7⟩ : ∃ l, addW l6 c d = l := ⟨_, rfl⟩
                rw [hl7] at hcut
                have HL7 := Lib.hid (show l7.length = 16 by rw [← hl7]; exact (List.length_set).trans HL6.out)
                have E7 := Lib.hid hl7
                clear hl7 HM
                have HM := Lib.hid hcut
                clear hcut
                generalize hwn : wc = wc7 at HM ⊢
                clear hwn
                go_upto_region 8 with fail
                go_cut [] (fun wx => Mem w [blkE (w.heap.size + 1) 56 (zw 16), blkE w.heap.size 56 ((xrot l7 b c 7).map u32v)] wx)
                case first =>
                  obtain ⟨X, hX⟩ : ∃ x, wd l7 b = x := ⟨_, rfl⟩
                  obtain ⟨Y, hY⟩ : ∃ x, wd l7 c = x := ⟨_, rfl⟩
                  obtain ⟨P, hP⟩ : ∃ p, X ^^^ Y = p := ⟨_, rfl⟩
                  have e1 : bits BinOp.xor IntKind.u32 (X.toNat : Int) (Y.toNat : Int) = (P.toNat : Int) := by rw [← hP]; exact u32_xor X Y
                  obtain ⟨V, hV⟩ : ∃ p, rotr P 7 = p := ⟨_, rfl⟩
                  have RC := Lib.hid (fun w' : World => refRight_any P 7 (by omega) (by omega) w')
                  rw [hV] at RC
                  have HV := Lib.hid (show rotr (wd l7 b ^^^ wd l7 c) 7 = V by rw [hX, hY, hP, hV])
                  clear hP hV
                  refine wp_region_held_drew (S := fun W' => Mem w [blkE (w.heap.size + 1) 56 (zw 16)] W') (by kernel_rfl) (((HM.out.erase 1)).drew) (fun hHeld => ?_)
                  replace HM := Lib.hid HM.out.drew
                  generalize wc7.drew = wd1 at HM hHeld ⊢
                  refine take_first (v := ?_) 0 rfl (by kernel_rfl) (by kernel_rfl) (by kernel_rfl) (fun _ _ _ h => h) (Or.inl ⟨by rfl, ?_⟩) (by assumption) ?_
                  rotate_left
                  · (intro w hSw; (try dsimp only at hSw); go_simp; try with_reducible rfl)
                  (try simp only [Act.put, List.setIfInBounds_toArray, List.set_cons_zero, List.set_cons_succ])
                  refine take_first (v := ?_) 1 rfl (by kernel_rfl) (by kernel_rfl) (by kernel_rfl) (fun _ _ _ h => h) (Or.inl ⟨by rfl, ?_⟩) (by assumption) ?_
                  rotate_left
                  · (intro w hSw; (try dsimp only at hSw); go_simp; try with_reducible rfl)
                  (try simp only [Act.put, List.setIfInBounds_toArray, List.set_cons_zero, List.set_cons_succ])
                  refine take_first (v := ?_) 2 rfl (by kernel_rfl) (by kernel_rfl) (by kernel_rfl) (fun _ _ _ h => h) (Or.inl ⟨by rfl, ?_⟩) (by assumption) ?_
                  rotate_left
                  · (intro w hSw; (try dsimp only at hSw); go_simp; try with_reducible rfl)
                  (try simp only [Act.put, List.setIfInBounds_toArray, List.set_cons_zero, List.set_cons_succ])
                  refine take_first (v := ?_) 4 rfl (by kernel_rfl) (by kernel_rfl) (by kernel_rfl) (fun _ _ _ h => h) (Or.inl ⟨by rfl, ?_⟩) (by assumption) ?_
                  rotate_left
                  · (intro w hSw; (try dsimp only at hSw); go_simp; try with_reducible rfl)
                  (try simp only [Act.put, List.setIfInBounds_toArray, List.set_cons_zero, List.set_cons_succ])
                  refine take_first (v := ?_) 5 rfl (by kernel_rfl) (by kernel_rfl) (by kernel_rfl) (fun _ _ _ h => h) (Or.inl ⟨by rfl, ?_⟩) (by assumption) ?_
                  rotate_left
                  · (intro w hSw; (try dsimp only at hSw); go_simp; try with_reducible rfl)
                  (try simp only [Act.put, List.setIfInBounds_toArray, List.set_cons_zero, List.set_cons_succ])
                  refine step_two 3 6 rfl rfl (by kernel_rfl) (fun K hK => ?_) (fun K hK => ?_)
                  · clear hHeld
                    have fx := (HM.out.blk 1 rfl).word b (by rw [HL7.out]; exact hb)
                    rw [hX] at fx
                    go_simp
                    refine hK.out _ _ ((HM.out.erase 1)) (fun hHeld => ?_)
                    clear hK K
                    (try simp only [Act.put, List.setIfInBounds_toArray, List.set_cons_zero, List.set_cons_succ])
                    clear fx
                    refine step_one 6 rfl (by kernel_rfl) (fun K hK => ?_)
                    clear hHeld
                    have fx := (HM.out.blk 1 rfl).word c (by rw [HL7.out]; exact hc)
                    rw [hY] at fx
                    go_simp
                    refine hK.out _ _ ((HM.out.erase 1)) (fun hHeld => ?_)
                    clear hK K
                    (try simp only [Act.put, List.setIfInBounds_toArray, List.set_cons_zero, List.set_cons_succ])
                    clear fx
                    refine take_first (v := ?_) 7 rfl (by kernel_rfl) (by kernel_rfl) (by kernel_rfl) (fun _ _ _ h => h) (Or.inl ⟨by rfl, ?_⟩) (by assumption) ?_
                    rotate_left
                    · (intro w hSw; (try dsimp only at hSw); go_simp; try with_reducible rfl)
                    (try simp only [Act.put, List.setIfInBounds_toArray, List.set_cons_zero, List.set_cons_succ])
                    refine step_one 8 rfl (by kernel_rfl) (fun K hK => ?_)
                    clear hHeld
                    go_simp
                    refine (RC.out _).mono ?_
                    rintro e wy2 ⟨rfl, hb⟩
                    replace HM := Lib.hid (show Mem w [blkE (w.heap.size + 1) 56 (zw 16), blkE w.heap.size 56 (l7.map u32v)] wy2 from HM.out.below hb)
                    clear hb
                    go_wp2_with fail
                    refine hK.out _ _ ((HM.out.erase 1)) (fun hHeld => ?_)
                    clear hK K
                    (try simp only [Act.put, List.setIfInBounds_toArray, List.set_cons_zero, List.set_cons_succ])
                    refine take_first (v := ?_) 9 rfl (by kernel_rfl) (by kernel_rfl) (by kernel_rfl) (fun _ _ _ h => h) (Or.inl ⟨by rfl, ?_⟩) (by assumption) ?_
                    rotate_left
                    · (intro w hSw; (try dsimp only at hSw); go_simp; try with_reducible rfl)
                    (try simp only [Act.put, List.setIfInBounds_toArray, List.set_cons_zero, List.set_cons_succ])
                    refine step_one 10 rfl (by kernel_rfl) (fun K hK => ?_)
                    clear hHeld
                    have fx := (HM.out.blk 1 rfl).word b (by rw [HL7.out]; exact hb)
                    have zx := (HM.out.blk 1 rfl).frozen b
                    go_simp
                    replace HM := Lib.hid (show Mem w [blkE (w.heap.size + 1) 56 (zw 16), blkE w.heap.size 56 ((l7.set b (V)).map u32v)] (wy2.setCell ⟨w.heap.size, b, none⟩ (.int .u32 ((V).toNat : Int))) from by have h := HM.out.setCell 1 rfl b (u32v (V)); rw [← List.map_set] at h; exact h)
                    clear fx zx
                    generalize wy2.setCell ⟨w.heap.size, b, none⟩ (.int .u32 ((V).toNat : Int)) = wy3 at HM ⊢
                    refine hK.out _ _ ((HM.out.erase 1)) (fun hHeld => ?_)
                    clear hK K
                    (try simp only [Act.put])
                    refine wpAnyH_done (by kernel_rfl) ?_ _
                    go_wp2
                    go_meet
                    have h := HM.out
                    rw [← HV.out] at h
                    exact h
                  · clear hHeld
                    have fx := (HM.out.blk 1 rfl).word c (by rw [HL7.out]; exact hc)
                    rw [hY] at fx
                    go_simp
                    refine hK.out _ _ ((HM.out.erase 1)) (fun hHeld => ?_)
                    clear hK K
                    (try simp only [Act.put, List.setIfInBounds_toArray, List.set_cons_zero, List.set_cons_succ])
                    clear fx
                    refine step_one 3 rfl (by kernel_rfl) (fun K hK => ?_)
                    clear hHeld
                    have fx := (HM.out.blk 1 rfl).word b (by rw [HL7.out]; exact hb)
                    rw [hX] at fx
                    go_simp
                    refine hK.out _ _ ((HM.out.erase 1)) (fun hHeld => ?_)
                    clear hK K
                    (try simp only [Act.put, List.setIfInBounds_toArray, List.set_cons_zero, List.set_cons_succ])
                    clear fx
                    refine take_first (v := ?_) 7 rfl (by kernel_rfl) (by kernel_rfl) (by kernel_rfl) (fun _ _ _ h => h) (Or.inl ⟨by rfl, ?_⟩) (by assumption) ?_
                    rotate_left
                    · (intro w hSw; (try dsimp only at hSw); go_simp; try with_reducible rfl)
                    (try simp only [Act.put, List.setIfInBounds_toArray, List.set_cons_zero, List.set_cons_succ])
                    refine step_one 8 rfl (by kernel_rfl) (fun K hK => ?_)
                    clear hHeld
                    go_simp
                    refine (RC.out _).mono ?_
                    rintro e wy2 ⟨rfl, hb⟩
                    replace HM := Lib.hid (show Mem w [blkE (w.heap.size + 1) 56 (zw 16), blkE w.heap.size 56 (l7.map u32v)] wy2 from HM.out.below hb)
                    clear hb
                    go_wp2_with fail
                    refine hK.out _ _ ((HM.out.erase 1)) (fun hHeld => ?_)
                    clear hK K
                    (try simp only [Act.put, List.setIfInBounds_toArray, List.set_cons_zero, List.set_cons_succ])
                    refine take_first (v := ?_) 9 rfl (by kernel_rfl) (by kernel_rfl) (by kernel_rfl) (fun _ _ _ h => h) (Or.inl ⟨by rfl, ?_⟩) (by assumption) ?_
                    rotate_left
                    · (intro w hSw; (try dsimp only at hSw); go_simp; try with_reducible rfl)
                    (try simp only [Act.put, List.setIfInBounds_toArray, List.set_cons_zero, List.set_cons_succ])
                    refine step_one 10 rfl (by kernel_rfl) (fun K hK => ?_)
                    clear hHeld
                    have fx := (HM.out.blk 1 rfl).word b (by rw [HL7.out]; exact hb)
                    have zx := (HM.out.blk 1 rfl).frozen b
                    go_simp
                    replace HM := Lib.hid (show Mem w [blkE (w.heap.size + 1) 56 (zw 16), blkE w.heap.size 56 ((l7.set b (V)).map u32v)] (wy2.setCell ⟨w.heap.size, b, none⟩ (.int .u32 ((V).toNat : Int))) from by have h := HM.out.setCell 1 rfl b (u32v (V)); rw [← List.map_set] at h; exact h)
                    clear fx zx
                    generalize wy2.setCell ⟨w.heap.size, b, none⟩ (.int .u32 ((V).toNat : Int)) = wy3 at HM ⊢
                    refine hK.out _ _ ((HM.out.erase 1)) (fun hHeld => ?_)
                    clear hK K
                    (try simp only [Act.put])
                    refine wpAnyH_done (by kernel_rfl) ?_ _
                    go_wp2
                    go_meet
                    have h := HM.out
                    rw [← HV.out] at h
                    exact h
                case rest =>
                  obtain ⟨l8, hl8⟩ : ∃ l, xrot l7 b c 7 = l := ⟨_, rfl⟩
                  rw [hl8] at hcut
                  have HL8 := Lib.hid (show l8.length = 16 by rw [← hl8]; exact (List.length_set).trans HL7.out)
                  have E8 := Lib.hid hl8
                  clear hl8 HM
                  have HM := Lib.hid hcut
                  clear hcut
                  generalize hwn : wc = wc8 at HM ⊢
                  clear hwn
                  obtain ⟨cz, hcz⟩ : ∃ c, (l8.map u32v).toArray = c := ⟨_, rfl⟩
                  have HCZ := Lib.hid hcz
                  clear hcz
                  have hend : mixB l0 a b c d x y = l8 := by rw [← E8.out, ← E7.out, ← E6.out, ← E5.out, ← E4.out, ← E3.out, ← E2.out, ← E1.out]; rfl
                  rw [hend] at HLZ
                  clear hend
                  go_wp2_with (first | (refine wpList_load_blk rfl 56 (.tmp 7) rfl w.heap.size rfl 56 (l8.map u32v) (HM.out.blk 1 rfl) 16 44 Tryd.underlying56 (cellsW16 l8 HL8.out) ?_; rw [HCZ.out]) | (refine wpList_store_blk rfl 56 (.tmp 14) (.tmp 95) rfl (w.heap.size + 1) (l8.map u32v) rfl (by show Value.agg cz = _; rw [HCZ.out]) 56 (zw 16) (HM.out.blk 0 rfl) (cellsW16 l8 HL8.out) (by rw [List.length_map, HL8.out]; rfl) (u32v_one _) ?_; intro w9 hb9 hg9))
                  exact bodyPost_ret (results_blk rfl _ _ (w.heap.size + 1) 56 (l8.map u32v) 16 44 rfl hb9 Tryd.underlying56 (cellsW16 l8 HL8.out)) rfl ⟨by rw [← HLZ.out], (HM.out.put 0 rfl _ hg9 hb9).bel⟩
end Go.Proofs.YtbochejgjmjieaaDoor
