/-
  The contract of the program's multiply: the product of two numbers of five limbs of 51 bits. No statement is proved here.
-/
import Derived.Test.YtgdgecehmnokdaaCvOps
import Derived.Test.YtgdgecehmnokdaaMul64
import Derived.Test.YtgdgecehmnokdaaSuBits
namespace Go.Proofs.Ytgdgecehmnokdaa.Cv
open Go.RowKit

theorem column_or (H L A : Nat) (hL : L < 18446744073709551616) (hH : H < 2251799813685248) (hA : A = H * 18446744073709551616 + L) :
    bits BinOp.or IntKind.u64 (IntKind.u64.wrap ((H : Int) * 8192)) ((L : Int) / 2251799813685248) = ((A / 2251799813685248 : Nat) : Int) := by
  have e1 : IntKind.u64.wrap ((H : Int) * 8192) = ((2 ^ 13 * H : Nat) : Int) := by rw [IntKind.wrap_u64]; omega
  have e2 : (L : Int) / 2251799813685248 = ((L / 2251799813685248 : Nat) : Int) := by rw [Int.natCast_ediv]; rfl
  have h2 : L / 2251799813685248 < 2 ^ 13 := by omega
  have e3 : A / 2251799813685248 = L / 2251799813685248 + 2 ^ 13 * H := by subst hA; omega
  rw [e1, e2, e3]
  generalize L / 2251799813685248 = q at h2 ⊢
  rw [u64_or_nat _ _ (by omega) (by omega), Nat.or_comm, or_low H q 13 h2]
theorem column_and (L A : Nat) (hL : L < 18446744073709551616) (hA : A % 18446744073709551616 = L) : bits BinOp.and IntKind.u64 (L : Int) 2251799813685247 = ((A % 2251799813685248 : Nat) : Int) := by
  rw [mask51 L hL]
  have : A % 2251799813685248 = L % 2251799813685248 := by omega
  rw [this]

set_option maxRecDepth 100000 in
set_option maxHeartbeats 4000000 in
theorem multiply_any (x y : List Nat) (hx : LooseN x) (hy : LooseN y) (w : World) :
    Calls Try.prog 30 #[.agg (x.map uv).toArray, .agg (y.map uv).toArray] w fun e w' => e = .returned (.agg ((mulN x y).map uv).toArray) ∧ Below w.heap.size w w' := by
  obtain ⟨cx, hcx⟩ : ∃ cx, (x.map uv).toArray = cx := ⟨_, rfl⟩
  obtain ⟨cy, hcy⟩ : ∃ cy, (y.map uv).toArray = cy := ⟨_, rfl⟩
  rw [hcx, hcy]
  have HM := Lib.hid (show Mem w [blkE (w.heap.size + 1 + 1 + 1) 51 ((List.replicate 5 0).map uv), blkE (w.heap.size + 1 + 1) 51 z5, blkE (w.heap.size + 1) 51 (y.map uv), blkE w.heap.size 51 (x.map uv)] ((((w.alloc (.cells cx 51)).alloc (.cells cy 51)).alloc (.cells #[.int .u64 0, .int .u64 0, .int .u64 0, .int .u64 0, .int .u64 0] 51)).alloc (.cells #[.int .u64 0, .int .u64 0, .int .u64 0, .int .u64 0, .int .u64 0] 51)) from ((((Mem.nil w).alloc rfl 51 cx (x.map uv) hcx.symm).alloc (by simp) 51 cy (y.map uv) hcy.symm).alloc (by simp) 51 #[.int .u64 0, .int .u64 0, .int .u64 0, .int .u64 0, .int .u64 0] z5 rfl).alloc (by simp) 51 #[.int .u64 0, .int .u64 0, .int .u64 0, .int .u64 0, .int .u64 0] ((List.replicate 5 0).map uv) rfl)
  have HX := Lib.hid hx
  have HY := Lib.hid hy
  clear hx hy hcx hcy
  go_enter Try.func30, Try.ntmps30
  go_upto_region 2 with fail
  generalize ((((w.alloc (.cells cx 51)).alloc (.cells cy 51)).alloc (.cells #[.int .u64 0, .int .u64 0, .int .u64 0, .int .u64 0, .int .u64 0] 51)).alloc (.cells #[.int .u64 0, .int .u64 0, .int .u64 0, .int .u64 0, .int .u64 0] 51)) = w1 at HM ⊢
  go_wp2_with fail
  go_loopw [6, 17] (fun u z wr => ∃ k : Nat, k ≤ 5 ∧ z = .int .i64 (k : Int) ∧ u = .int .u64 ((mst x y k).2 : Int) ∧ Mem w [blkE (w.heap.size + 1 + 1 + 1) 51 (((mst x y k).1).map uv), blkE (w.heap.size + 1 + 1) 51 z5, blkE (w.heap.size + 1) 51 (y.map uv), blkE w.heap.size 51 (x.map uv)] wr) (fun _ z _ => 5 - (intOf z).toNat)
  case atStart => exact ⟨0, by omega, rfl, rfl, HM.out⟩
  case round =>
    clear HM
    obtain ⟨k, hk, rfl, rfl, hM⟩ := hrel
    have HM := Lib.hid hM
    clear hM
    by_cases hkl : k < 5
    · have d5 : decide ((k : Int) < 5) = true := by simp; omega
      have ho := mst_over x y HX.out HY.out k
      have HO := Lib.hid (show (mst x y k).2 / 18446744073709551616 = 0 ∧ (mst x y k).2 % 18446744073709551616 = (mst x y k).2 from ⟨by omega, by omega⟩)
      clear ho
      go_upto_region 7 with fail
      clear d5
      go_wp2_with fail
      go_loopw [8, 9, 21] (fun u v z wr => ∃ i : Nat, i ≤ 5 ∧ z = .int .i64 (i : Int) ∧ u = .int .u64 ((inn x y k (mst x y k).2 i / 18446744073709551616 : Nat) : Int) ∧ v = .int .u64 ((inn x y k (mst x y k).2 i % 18446744073709551616 : Nat) : Int) ∧ Mem w [blkE (w.heap.size + 1 + 1 + 1) 51 (((mst x y k).1).map uv), blkE (w.heap.size + 1 + 1) 51 z5, blkE (w.heap.size + 1) 51 (y.map uv), blkE w.heap.size 51 (x.map uv)] wr) (fun _ _ z _ => 5 - (intOf z).toNat)
      case atStart => exact ⟨0, by omega, rfl, by rw [show inn x y k (mst x y k).2 0 = (mst x y k).2 from rfl, HO.out.1]; rfl, by rw [show inn x y k (mst x y k).2 0 = (mst x y k).2 from rfl, HO.out.2], HM.out⟩
      case round =>
        clear HM HO
        obtain ⟨i, hi, rfl, rfl, rfl, hM⟩ := hrel
        have HM := Lib.hid hM
        clear hM
        by_cases hil : i < 5
        · have hacc1 : inn x y k (mst x y k).2 (i + 1) = inn x y k (mst x y k).2 i + dg x i * cf y k i := rfl
          have hacc2 := inn_all x y HX.out HY.out k i hi
          generalize hq0 : inn x y k (mst x y k).2 i = acc at hacc1 hacc2 ⊢
          clear hq0
          obtain ⟨ha0, hacc3⟩ : ∃ q, acc / 18446744073709551616 = q := ⟨_, rfl⟩
          obtain ⟨la, hacc4⟩ : ∃ q, acc % 18446744073709551616 = q := ⟨_, rfl⟩
          rw [hacc3, hacc4]
          have d5 : decide ((i : Int) < 5) = true := by simp; omega
          by_cases hki : i ≤ k
          · obtain ⟨j, hj⟩ : ∃ j, k - i = j := ⟨_, rfl⟩
            have hw1 : IntKind.i64.wrap ((k : Int) - (i : Int)) = (j : Int) := by rw [IntWalk.i64_in _ (by omega)]; omega
            have hcf : cf y k i = 1 * dg y j := by rw [cf, if_pos hki, hj, Nat.one_mul]
            have hj5 : j < 5 := by omega
            have dl : decide ((j : Int) < 0) = false := by simp
            have hyl := HY.out.2 j
            have hxl := HX.out.2 i
            rw [hcf] at hacc1
            obtain ⟨a, ha⟩ : ∃ a, dg x i = a := ⟨_, rfl⟩
            obtain ⟨b, hb⟩ : ∃ b, dg y j = b := ⟨_, rfl⟩
            rw [ha] at hacc1 hxl
            rw [hb] at hacc1 hyl
            have HN := Lib.hid (And.intro ha hb)
            obtain ⟨c, hc⟩ : ∃ c, 1 * b = c := ⟨_, rfl⟩
            rw [hc] at hacc1
            have HMU := Lib.hid (show IntKind.u64.wrap ((b : Int)) = (c : Int) ∧ ((b : Int)) % 18446744073709551616 = (c : Int) from ⟨by rw [IntKind.wrap_u64]; omega, by omega⟩)
            have hpb := Nat.mul_le_mul hxl (show c ≤ 171136785840078829 by omega)
            have hC := fun W : World => mul64_any a c (by omega) (by omega) W
            obtain ⟨p, hp⟩ : ∃ p, a * c = p := ⟨_, rfl⟩
            rw [hp] at hacc1 hpb
            simp only [hp] at hC
            obtain ⟨H, hH⟩ : ∃ q, p / 18446744073709551616 = q := ⟨_, rfl⟩
            obtain ⟨L, hL⟩ : ∃ q, p % 18446744073709551616 = q := ⟨_, rfl⟩
            rw [hH, hL] at hC
            have HC := Lib.hid hC
            clear hC hp hc ha hb
            have hA0 : ∀ W : World, (callFunc 43 #[.int .u64 (la : Int), .int .u64 (L : Int), .int .u64 0]).run Try.prog W = .ok (.value (.tuple #[.int .u64 (((la + L + 0) % 18446744073709551616 : Nat) : Int), .int .u64 (((la + L + 0) / 18446744073709551616 : Nat) : Int)])) W := fun W => add64_run la L 0 (by omega) W
            obtain ⟨s, hs⟩ : ∃ q, (la + L + 0) % 18446744073709551616 = q := ⟨_, rfl⟩
            obtain ⟨m, hm⟩ : ∃ q, (la + L + 0) / 18446744073709551616 = q := ⟨_, rfl⟩
            rw [hs, hm] at hA0
            have hs1 : IntKind.u64.wrap ((ha0 : Int) + (H : Int)) = ((ha0 + H : Nat) : Int) := by rw [IntKind.wrap_u64]; omega
            obtain ⟨t1, ht1⟩ : ∃ q, ha0 + H = q := ⟨_, rfl⟩
            rw [ht1] at hs1
            have hs2 : IntKind.u64.wrap ((t1 : Int) + (m : Int)) = ((t1 + m : Nat) : Int) := by rw [IntKind.wrap_u64]; omega
            obtain ⟨t2, ht2⟩ : ∃ q, t1 + m = q := ⟨_, rfl⟩
            rw [ht2] at hs2
            have HACC := Lib.hid (show inn x y k (mst x y k).2 (i + 1) / 18446744073709551616 = t2 ∧ inn x y k (mst x y k).2 (i + 1) % 18446744073709551616 = s from ⟨by rw [hacc1]; omega, by rw [hacc1]; omega⟩)
            clear hacc1 hacc2 hacc3 hs hm ht1 ht2 hH hL hpb hyl hxl hcf
            have bi : (i : Int) < 5 := by omega
            have bj : (j : Int) < 5 := by omega
            go_upto_region 13 with fail
            refine wp_region_held_drew (S := fun W' => Mem w [blkE (w.heap.size + 1 + 1 + 1) 51 (((mst x y k).1).map uv), blkE (w.heap.size + 1 + 1) 51 z5, blkE (w.heap.size + 1) 51 (y.map uv), blkE w.heap.size 51 (x.map uv)] W') (by kernel_rfl) ((HM.out).drew) (fun hHeld => ?_)
            replace HM := Lib.hid HM.out.drew
            generalize wr.drew = wd1 at HM hHeld ⊢
            refine take_first (v := ?_) 0 rfl (by kernel_rfl) (by kernel_rfl) (by kernel_rfl) (fun _ _ _ h => h) (Or.inl ⟨by rfl, ?_⟩) (by assumption) ?_
            rotate_left
            · (intro w hSw; (try dsimp only at hSw); go_simp; try with_reducible rfl)
            (try simp only [Act.put, List.setIfInBounds_toArray, List.set_cons_zero, List.set_cons_succ])
            refine take_first (v := ?_) 1 rfl (by kernel_rfl) (by kernel_rfl) (by kernel_rfl) (fun _ _ _ h => h) (Or.inl ⟨by rfl, ?_⟩) (by assumption) ?_
            rotate_left
            · (intro w hSw; (try dsimp only at hSw); go_simp; try with_reducible rfl)
            (try simp only [Act.put, List.setIfInBounds_toArray, List.set_cons_zero, List.set_cons_succ])
            refine take_first (v := ?_) 2 rfl (by kernel_rfl) (by kernel_rfl) (by kernel_rfl) (fun _ _ _ h => h) (Or.inl ⟨by rfl, ?_⟩) (by assumption) ?_
            rotate_left
            · (intro w hSw; (try dsimp only at hSw); have fx := lim (Mem.blk hSw 3 rfl) i (by rw [HX.out.1]; exact hil); rw [HN.out.1] at fx; go_simp; try with_reducible rfl)
            (try simp only [Act.put, List.setIfInBounds_toArray, List.set_cons_zero, List.set_cons_succ])
            refine take_first (v := ?_) 3 rfl (by kernel_rfl) (by kernel_rfl) (by kernel_rfl) (fun _ _ _ h => h) (Or.inl ⟨by rfl, ?_⟩) (by assumption) ?_
            rotate_left
            · (intro w hSw; (try dsimp only at hSw); go_simp; try with_reducible rfl)
            (try simp only [Act.put, List.setIfInBounds_toArray, List.set_cons_zero, List.set_cons_succ])
            refine take_first (v := ?_) 4 rfl (by kernel_rfl) (by kernel_rfl) (by kernel_rfl) (fun _ _ _ h => h) (Or.inl ⟨by rfl, ?_⟩) (by assumption) ?_
            rotate_left
            · (intro w hSw; (try dsimp only at hSw); go_simp; try with_reducible rfl)
            (try simp only [Act.put, List.setIfInBounds_toArray, List.set_cons_zero, List.set_cons_succ])
            refine take_first (v := ?_) 5 rfl (by kernel_rfl) (by kernel_rfl) (by kernel_rfl) (fun _ _ _ h => h) (Or.inl ⟨by rfl, ?_⟩) (by assumption) ?_
            rotate_left
            · (intro w hSw; (try dsimp only at hSw); go_simp; try with_reducible rfl)
            (try simp only [Act.put, List.setIfInBounds_toArray, List.set_cons_zero, List.set_cons_succ])
            refine take_first (v := ?_) 6 rfl (by kernel_rfl) (by kernel_rfl) (by kernel_rfl) (fun _ _ _ h => h) (Or.inl ⟨by rfl, ?_⟩) (by assumption) ?_
            rotate_left
            · (intro w hSw; (try dsimp only at hSw); have fy := lim (Mem.blk hSw 2 rfl) j (by rw [HY.out.1]; omega); rw [HN.out.2] at fy; go_simp; try with_reducible rfl)
            (try simp only [Act.put, List.setIfInBounds_toArray, List.set_cons_zero, List.set_cons_succ])
            refine take_first (v := ?_) 7 rfl (by kernel_rfl) (by kernel_rfl) (by kernel_rfl) (fun _ _ _ h => h) (Or.inl ⟨by rfl, ?_⟩) (by assumption) ?_
            rotate_left
            · (intro w hSw; (try dsimp only at hSw); have hm1 := HMU.out.1; have hm2 := HMU.out.2; go_simp; try with_reducible rfl)
            (try simp only [Act.put, List.setIfInBounds_toArray, List.set_cons_zero, List.set_cons_succ])
            refine step_one 8 rfl (by kernel_rfl) (fun K hK => ?_)
            clear hHeld
            go_simp
            refine (HC.out _).mono ?_
            rintro e w9 ⟨rfl, hw9⟩
            subst hw9
            go_wp2_with fail
            refine hK.out _ _ (HM.out) (fun hHeld => ?_)
            clear hK K
            (try simp only [Act.put, List.setIfInBounds_toArray, List.set_cons_zero, List.set_cons_succ])
            refine take_first (v := ?_) 9 rfl (by kernel_rfl) (by kernel_rfl) (by kernel_rfl) (fun _ _ _ h => h) (Or.inl ⟨by rfl, ?_⟩) (by assumption) ?_
            rotate_left
            · (intro w hSw; (try dsimp only at hSw); go_simp; try with_reducible rfl)
            (try simp only [Act.put, List.setIfInBounds_toArray, List.set_cons_zero, List.set_cons_succ])
            refine take_first (v := ?_) 10 rfl (by kernel_rfl) (by kernel_rfl) (by kernel_rfl) (fun _ _ _ h => h) (Or.inl ⟨by rfl, ?_⟩) (by assumption) ?_
            rotate_left
            · (intro w hSw; (try dsimp only at hSw); go_simp; try with_reducible rfl)
            (try simp only [Act.put, List.setIfInBounds_toArray, List.set_cons_zero, List.set_cons_succ])
            refine take_first (v := ?_) 11 rfl (by kernel_rfl) (by kernel_rfl) (by kernel_rfl) (fun _ _ _ h => h) (Or.inl ⟨by rfl, ?_⟩) (by assumption) ?_
            rotate_left
            · (intro w hSw; (try dsimp only at hSw); go_simp; try with_reducible rfl)
            (try simp only [Act.put, List.setIfInBounds_toArray, List.set_cons_zero, List.set_cons_succ])
            refine take_first (v := ?_) 12 rfl (by kernel_rfl) (by kernel_rfl) (by kernel_rfl) (fun _ _ _ h => h) (Or.inl ⟨by rfl, ?_⟩) (by assumption) ?_
            rotate_left
            · (intro w hSw; (try dsimp only at hSw); go_simp; try with_reducible rfl)
            (try simp only [Act.put, List.setIfInBounds_toArray, List.set_cons_zero, List.set_cons_succ])
            refine take_first (v := ?_) 13 rfl (by kernel_rfl) (by kernel_rfl) (by kernel_rfl) (fun _ _ _ h => h) (Or.inl ⟨by rfl, ?_⟩) (by assumption) ?_
            rotate_left
            · (intro w hSw; (try dsimp only at hSw); go_simp; try with_reducible rfl)
            (try simp only [Act.put, List.setIfInBounds_toArray, List.set_cons_zero, List.set_cons_succ])
            refine wpAnyH_done (by kernel_rfl) ?_ _
            have HM2 := Lib.hid (show Mem w [blkE (w.heap.size + 1 + 1 + 1) 51 (((mst x y k).1).map uv), blkE (w.heap.size + 1 + 1) 51 z5, blkE (w.heap.size + 1) 51 (y.map uv), blkE w.heap.size 51 (x.map uv)] w9 from HM.out)
            clear HM hHeld
            go_upto_region 15 with fail
            clear hA0
            go_wp2_with fail
            go_roundw
            case rel => exact ⟨i + 1, by omega, by go_num, by rw [HACC.out.1], by rw [HACC.out.2], HM2.out⟩
            case measure => simp [intOf]; omega
          · obtain ⟨j, hj⟩ : ∃ j, k + 5 - i = j := ⟨_, rfl⟩
            obtain ⟨v, hv⟩ : ∃ v : Int, (k : Int) - (i : Int) = v := ⟨_, rfl⟩
            have hw1 : IntKind.i64.wrap ((k : Int) - (i : Int)) = v := by rw [IntWalk.i64_in _ (by omega)]; omega
            have hw2 : IntKind.i64.wrap (v + 5) = (j : Int) := by rw [IntWalk.i64_in _ (by omega)]; omega
            have hcf : cf y k i = 19 * dg y j := by rw [cf, if_neg hki, hj]
            have hj5 : j < 5 := by omega
            have dl : decide (v < 0) = true := by simp; omega
            clear hv
            have hyl := HY.out.2 j
            have hxl := HX.out.2 i
            rw [hcf] at hacc1
            obtain ⟨a, ha⟩ : ∃ a, dg x i = a := ⟨_, rfl⟩
            obtain ⟨b, hb⟩ : ∃ b, dg y j = b := ⟨_, rfl⟩
            rw [ha] at hacc1 hxl
            rw [hb] at hacc1 hyl
            have HN := Lib.hid (And.intro ha hb)
            obtain ⟨c, hc⟩ : ∃ c, 19 * b = c := ⟨_, rfl⟩
            rw [hc] at hacc1
            have HMU := Lib.hid (show IntKind.u64.wrap (19 * (b : Int)) = (c : Int) ∧ (19 * (b : Int)) % 18446744073709551616 = (c : Int) from ⟨by rw [IntKind.wrap_u64]; omega, by omega⟩)
            have hpb := Nat.mul_le_mul hxl (show c ≤ 171136785840078829 by omega)
            have hC := fun W : World => mul64_any a c (by omega) (by omega) W
            obtain ⟨p, hp⟩ : ∃ p, a * c = p := ⟨_, rfl⟩
            rw [hp] at hacc1 hpb
            simp only [hp] at hC
            obtain ⟨H, hH⟩ : ∃ q, p / 18446744073709551616 = q := ⟨_, rfl⟩
            obtain ⟨L, hL⟩ : ∃ q, p % 18446744073709551616 = q := ⟨_, rfl⟩
            rw [hH, hL] at hC
            have HC := Lib.hid hC
            clear hC hp hc ha hb
            have hA0 : ∀ W : World, (callFunc 43 #[.int .u64 (la : Int), .int .u64 (L : Int), .int .u64 0]).run Try.prog W = .ok (.value (.tuple #[.int .u64 (((la + L + 0) % 18446744073709551616 : Nat) : Int), .int .u64 (((la + L + 0) / 18446744073709551616 : Nat) : Int)])) W := fun W => add64_run la L 0 (by omega) W
            obtain ⟨s, hs⟩ : ∃ q, (la + L + 0) % 18446744073709551616 = q := ⟨_, rfl⟩
            obtain ⟨m, hm⟩ : ∃ q, (la + L + 0) / 18446744073709551616 = q := ⟨_, rfl⟩
            rw [hs, hm] at hA0
            have hs1 : IntKind.u64.wrap ((ha0 : Int) + (H : Int)) = ((ha0 + H : Nat) : Int) := by rw [IntKind.wrap_u64]; omega
            obtain ⟨t1, ht1⟩ : ∃ q, ha0 + H = q := ⟨_, rfl⟩
            rw [ht1] at hs1
            have hs2 : IntKind.u64.wrap ((t1 : Int) + (m : Int)) = ((t1 + m : Nat) : Int) := by rw [IntKind.wrap_u64]; omega
            obtain ⟨t2, ht2⟩ : ∃ q, t1 + m = q := ⟨_, rfl⟩
            rw [ht2] at hs2
            have HACC := Lib.hid (show inn x y k (mst x y k).2 (i + 1) / 18446744073709551616 = t2 ∧ inn x y k (mst x y k).2 (i + 1) % 18446744073709551616 = s from ⟨by rw [hacc1]; omega, by rw [hacc1]; omega⟩)
            clear hacc1 hacc2 hacc3 hs hm ht1 ht2 hH hL hpb hyl hxl hcf
            have bi : (i : Int) < 5 := by omega
            have bj : (j : Int) < 5 := by omega
            go_upto_region 13 with fail
            refine wp_region_held_drew (S := fun W' => Mem w [blkE (w.heap.size + 1 + 1 + 1) 51 (((mst x y k).1).map uv), blkE (w.heap.size + 1 + 1) 51 z5, blkE (w.heap.size + 1) 51 (y.map uv), blkE w.heap.size 51 (x.map uv)] W') (by kernel_rfl) ((HM.out).drew) (fun hHeld => ?_)
            replace HM := Lib.hid HM.out.drew
            generalize wr.drew = wd1 at HM hHeld ⊢
            refine take_first (v := ?_) 0 rfl (by kernel_rfl) (by kernel_rfl) (by kernel_rfl) (fun _ _ _ h => h) (Or.inl ⟨by rfl, ?_⟩) (by assumption) ?_
            rotate_left
            · (intro w hSw; (try dsimp only at hSw); go_simp; try with_reducible rfl)
            (try simp only [Act.put, List.setIfInBounds_toArray, List.set_cons_zero, List.set_cons_succ])
            refine take_first (v := ?_) 1 rfl (by kernel_rfl) (by kernel_rfl) (by kernel_rfl) (fun _ _ _ h => h) (Or.inl ⟨by rfl, ?_⟩) (by assumption) ?_
            rotate_left
            · (intro w hSw; (try dsimp only at hSw); go_simp; try with_reducible rfl)
            (try simp only [Act.put, List.setIfInBounds_toArray, List.set_cons_zero, List.set_cons_succ])
            refine take_first (v := ?_) 2 rfl (by kernel_rfl) (by kernel_rfl) (by kernel_rfl) (fun _ _ _ h => h) (Or.inl ⟨by rfl, ?_⟩) (by assumption) ?_
            rotate_left
            · (intro w hSw; (try dsimp only at hSw); have fx := lim (Mem.blk hSw 3 rfl) i (by rw [HX.out.1]; exact hil); rw [HN.out.1] at fx; go_simp; try with_reducible rfl)
            (try simp only [Act.put, List.setIfInBounds_toArray, List.set_cons_zero, List.set_cons_succ])
            refine take_first (v := ?_) 3 rfl (by kernel_rfl) (by kernel_rfl) (by kernel_rfl) (fun _ _ _ h => h) (Or.inl ⟨by rfl, ?_⟩) (by assumption) ?_
            rotate_left
            · (intro w hSw; (try dsimp only at hSw); go_simp; try with_reducible rfl)
            (try simp only [Act.put, List.setIfInBounds_toArray, List.set_cons_zero, List.set_cons_succ])
            refine take_first (v := ?_) 4 rfl (by kernel_rfl) (by kernel_rfl) (by kernel_rfl) (fun _ _ _ h => h) (Or.inl ⟨by rfl, ?_⟩) (by assumption) ?_
            rotate_left
            · (intro w hSw; (try dsimp only at hSw); go_simp; try with_reducible rfl)
            (try simp only [Act.put, List.setIfInBounds_toArray, List.set_cons_zero, List.set_cons_succ])
            refine take_first (v := ?_) 5 rfl (by kernel_rfl) (by kernel_rfl) (by kernel_rfl) (fun _ _ _ h => h) (Or.inl ⟨by rfl, ?_⟩) (by assumption) ?_
            rotate_left
            · (intro w hSw; (try dsimp only at hSw); go_simp; try with_reducible rfl)
            (try simp only [Act.put, List.setIfInBounds_toArray, List.set_cons_zero, List.set_cons_succ])
            refine take_first (v := ?_) 6 rfl (by kernel_rfl) (by kernel_rfl) (by kernel_rfl) (fun _ _ _ h => h) (Or.inl ⟨by rfl, ?_⟩) (by assumption) ?_
            rotate_left
            · (intro w hSw; (try dsimp only at hSw); have fy := lim (Mem.blk hSw 2 rfl) j (by rw [HY.out.1]; omega); rw [HN.out.2] at fy; go_simp; try with_reducible rfl)
            (try simp only [Act.put, List.setIfInBounds_toArray, List.set_cons_zero, List.set_cons_succ])
            refine take_first (v := ?_) 7 rfl (by kernel_rfl) (by kernel_rfl) (by kernel_rfl) (fun _ _ _ h => h) (Or.inl ⟨by rfl, ?_⟩) (by assumption) ?_
            rotate_left
            · (intro w hSw; (try dsimp only at hSw); have hm1 := HMU.out.1; have hm2 := HMU.out.2; go_simp; try with_reducible rfl)
            (try simp only [Act.put, List.setIfInBounds_toArray, List.set_cons_zero, List.set_cons_succ])
            refine step_one 8 rfl (by kernel_rfl) (fun K hK => ?_)
            clear hHeld
            go_simp
            refine (HC.out _).mono ?_
            rintro e w9 ⟨rfl, hw9⟩
            subst hw9
            go_wp2_with fail
            refine hK.out _ _ (HM.out) (fun hHeld => ?_)
            clear hK K
            (try simp only [Act.put, List.setIfInBounds_toArray, List.set_cons_zero, List.set_cons_succ])
            refine take_first (v := ?_) 9 rfl (by kernel_rfl) (by kernel_rfl) (by kernel_rfl) (fun _ _ _ h => h) (Or.inl ⟨by rfl, ?_⟩) (by assumption) ?_
            rotate_left
            · (intro w hSw; (try dsimp only at hSw); go_simp; try with_reducible rfl)
            (try simp only [Act.put, List.setIfInBounds_toArray, List.set_cons_zero, List.set_cons_succ])
            refine take_first (v := ?_) 10 rfl (by kernel_rfl) (by kernel_rfl) (by kernel_rfl) (fun _ _ _ h => h) (Or.inl ⟨by rfl, ?_⟩) (by assumption) ?_
            rotate_left
            · (intro w hSw; (try dsimp only at hSw); go_simp; try with_reducible rfl)
            (try simp only [Act.put, List.setIfInBounds_toArray, List.set_cons_zero, List.set_cons_succ])
            refine take_first (v := ?_) 11 rfl (by kernel_rfl) (by kernel_rfl) (by kernel_rfl) (fun _ _ _ h => h) (Or.inl ⟨by rfl, ?_⟩) (by assumption) ?_
            rotate_left
            · (intro w hSw; (try dsimp only at hSw); go_simp; try with_reducible rfl)
            (try simp only [Act.put, List.setIfInBounds_toArray, List.set_cons_zero, List.set_cons_succ])
            refine take_first (v := ?_) 12 rfl (by kernel_rfl) (by kernel_rfl) (by kernel_rfl) (fun _ _ _ h => h) (Or.inl ⟨by rfl, ?_⟩) (by assumption) ?_
            rotate_left
            · (intro w hSw; (try dsimp only at hSw); go_simp; try with_reducible rfl)
            (try simp only [Act.put, List.setIfInBounds_toArray, List.set_cons_zero, List.set_cons_succ])
            refine take_first (v := ?_) 13 rfl (by kernel_rfl) (by kernel_rfl) (by kernel_rfl) (fun _ _ _ h => h) (Or.inl ⟨by rfl, ?_⟩) (by assumption) ?_
            rotate_left
            · (intro w hSw; (try dsimp only at hSw); go_simp; try with_reducible rfl)
            (try simp only [Act.put, List.setIfInBounds_toArray, List.set_cons_zero, List.set_cons_succ])
            refine wpAnyH_done (by kernel_rfl) ?_ _
            have HM2 := Lib.hid (show Mem w [blkE (w.heap.size + 1 + 1 + 1) 51 (((mst x y k).1).map uv), blkE (w.heap.size + 1 + 1) 51 z5, blkE (w.heap.size + 1) 51 (y.map uv), blkE w.heap.size 51 (x.map uv)] w9 from HM.out)
            clear HM hHeld
            go_upto_region 15 with fail
            clear hA0
            go_wp2_with fail
            go_roundw
            case rel => exact ⟨i + 1, by omega, by go_num, by rw [HACC.out.1], by rw [HACC.out.2], HM2.out⟩
            case measure => simp [intOf]; omega
        · obtain rfl : i = 5 := by omega
          have hA := inn_all x y HX.out HY.out k 5 (by omega)
          have hnx : mst x y (k + 1) = ((mst x y k).1.set k (inn x y k (mst x y k).2 5 % 2251799813685248), inn x y k (mst x y k).2 5 / 2251799813685248) := rfl
          have hml := mst_length x y k
          generalize inn x y k (mst x y k).2 5 = A at hA hnx ⊢
          obtain ⟨H, hH⟩ : ∃ q, A / 18446744073709551616 = q := ⟨_, rfl⟩
          obtain ⟨L, hL⟩ : ∃ q, A % 18446744073709551616 = q := ⟨_, rfl⟩
          rw [hH, hL]
          have ho := column_or H L A (by omega) (by omega) (by omega)
          have ha := column_and L A (by omega) hL
          obtain ⟨q, hq⟩ : ∃ q, A / 2251799813685248 = q := ⟨_, rfl⟩
          obtain ⟨r, hr⟩ : ∃ r, A % 2251799813685248 = r := ⟨_, rfl⟩
          rw [hq] at ho hnx
          rw [hr] at ha hnx
          have HNX := Lib.hid hnx
          have fx := lim (HM.out.blk 0 rfl) k (by omega)
          have zx := (HM.out.blk 0 rfl).frozen k
          have HN := Lib.hid (show Mem w [blkE (w.heap.size + 1 + 1 + 1) 51 (((mst x y k).1.set k r).map uv), blkE (w.heap.size + 1 + 1) 51 z5, blkE (w.heap.size + 1) 51 (y.map uv), blkE w.heap.size 51 (x.map uv)] (wr.setCell ⟨(w.heap.size + 1 + 1 + 1), k, none⟩ (.int .u64 (r : Int))) from by have h := HM.out.setCell 0 rfl k (uv r); rw [← List.map_set] at h; exact h)
          clear hA hnx hml hH hL hq hr HM
          have bk : (k : Int) < 5 := by omega
          (try rw [show ((5 : Nat) : Int) = 5 from rfl])
          go_upto_region 18 with fail
          (try simp only [ha])
          generalize wr.setCell ⟨(w.heap.size + 1 + 1 + 1), k, none⟩ (.int .u64 (r : Int)) = w3 at HN ⊢
          clear zx fx ha
          go_wp2_with fail
          (try simp only [ho])
          go_roundw
          case rel => exact ⟨k + 1, by omega, by go_num, by rw [HNX.out], by rw [HNX.out]; exact HN.out⟩
          case measure => simp [intOf]; omega
    · obtain rfl : k = 5 := by omega
      have hml := mst_length x y 5
      have fx := lim (HM.out.blk 0 rfl) 0 (by omega)
      have zx := (HM.out.blk 0 rfl).frozen 0
      have ho := mst_last x y HX.out HY.out
      have hb := mst_below x y 5 0 (by omega)
      have hpre : preN x y = (mst x y 5).1.set 0 (dg (mst x y 5).1 0 + 19 * (mst x y 5).2) := rfl
      have CC := fun W : World => carry_any (preN x y) (preN_length x y) (fun i => by have := (preN_le x y HX.out HY.out i).1; omega) W
      have hpl := preN_length x y
      have hml2 := (mulN_small x y HX.out HY.out).1
      rw [show carryN (preN x y) = mulN x y from rfl] at CC
      obtain ⟨z, hz⟩ : ∃ z, mulN x y = z := ⟨_, rfl⟩
      rw [hz] at CC hml2
      have HZ := Lib.hid hz
      clear hz
      generalize preN x y = lp at hpre CC hpl
      generalize (mst x y 5).2 = u at ho hpre ⊢
      generalize hdd : dg (mst x y 5).1 0 = d at fx hb hpre
      obtain ⟨v, hv⟩ : ∃ v, 19 * u = v := ⟨_, rfl⟩
      obtain ⟨s, hs⟩ : ∃ s, d + v = s := ⟨_, rfl⟩
      have hv1 : IntKind.u64.wrap (19 * (u : Int)) = (v : Int) := by rw [IntKind.wrap_u64]; omega
      have hs1 : IntKind.u64.wrap ((d : Int) + (v : Int)) = (s : Int) := by rw [IntKind.wrap_u64]; omega
      rw [hv, hs] at hpre
      have HN := Lib.hid (show Mem w [blkE (w.heap.size + 1 + 1 + 1) 51 ((lp).map uv), blkE (w.heap.size + 1 + 1) 51 z5, blkE (w.heap.size + 1) 51 (y.map uv), blkE w.heap.size 51 (x.map uv)] (wr.setCell ⟨(w.heap.size + 1 + 1 + 1), 0, none⟩ (.int .u64 (s : Int))) from by have h := HM.out.setCell 0 rfl 0 (uv s); rw [← List.map_set, ← hpre] at h; exact h)
      obtain ⟨cp, hcp⟩ : ∃ c, (lp.map uv).toArray = c := ⟨_, rfl⟩
      obtain ⟨cz, hcz⟩ : ∃ c, (z.map uv).toArray = c := ⟨_, rfl⟩
      rw [hcp, hcz] at CC
      have HCP := Lib.hid (And.intro hcp (And.intro hcz (And.intro hpl hml2)))
      have HCC := Lib.hid CC
      clear HM hcp hcz CC hpl hml2 ho hb hpre hdd hv hs hml
      (try rw [show ((5 : Nat) : Int) = 5 from rfl])
      go_upto_region 21 with fail
      (try simp only [hv1, hs1])
      generalize wr.setCell ⟨(w.heap.size + 1 + 1 + 1), 0, none⟩ (.int .u64 (s : Int)) = w3 at HN ⊢
      clear fx zx hs1 hv1
      go_wp2_with (refine wpList_load_blk rfl 51 (.tmp 5) rfl (w.heap.size + 1 + 1 + 1) rfl 51 (lp.map uv) (HN.out.blk 0 rfl) 5 49 Try.underlying51 (cells5 lp (HCP.out.2.2.1)) ?_; rw [HCP.out.1])
      refine (HCC.out _).mono ?_
      rintro e w4 ⟨rfl, hb4⟩
      replace HN := Lib.hid (HN.out.below hb4)
      clear hb4
      go_wp2_with (refine wpList_store_blk rfl 51 (.tmp 4) (.tmp 73) rfl (w.heap.size + 1 + 1) (z.map uv) rfl (by show Value.agg cz = _; rw [HCP.out.2.1]) 51 (z5) (HN.out.blk 1 rfl) (cells5 z (HCP.out.2.2.2)) (len5 (HCP.out.2.2.2) rfl) (uv_one _) ?_; intro w9 hb9 hg9)
      exact bodyPost_ret (results_blk rfl _ _ (w.heap.size + 1 + 1) 51 (z.map uv) 5 49 rfl hb9 Try.underlying51 (cells5 z HCP.out.2.2.2)) rfl ⟨by rw [HZ.out], (HN.out.put 1 rfl _ hg9 hb9).bel⟩
end Go.Proofs.Ytgdgecehmnokdaa.Cv
