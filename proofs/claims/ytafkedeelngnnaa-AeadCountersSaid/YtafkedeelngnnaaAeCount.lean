/-
  AeadCounters returns true for every pair of counters, and changes nothing that was there: the walk, over what is asked of aead.Seal and Counter.
-/
import Derived.Test.YtafkedeelngnnaaAeBegun
import Derived.Test.YtafkedeelngnnaaAeRefSeal
import Derived.Test.YtafkedeelngnnaaLit
namespace Go.Proofs.Ytafkedeelngnnaa
open Go.RowKit

theorem count_get (a j : Nat) (hj : j < 8) : (countL a)[11 - j]'(by rw [countL_length]; omega) = byteOf a (7 - j) := by
  unfold countL
  rw [List.getElem_append_right (by simp; omega), littleL_get]
  congr 1
  simp
  omega
theorem count_step (a j : Nat) (hj : j < 8) (ha : a < 18446744073709551616) : bits BinOp.or IntKind.u64 (IntKind.u64.wrap (((a / 256 ^ (8 - j) : Nat) : Int) * 256)) (IntKind.u64.wrap ((byteOf a (7 - j)).toNat : Int)) = ((a / 256 ^ (8 - (j + 1)) : Nat) : Int) := by
  have hb := (byteOf a (7 - j)).toNat_lt
  have hd : a / 256 ^ (8 - j) < 2 ^ 56 := by
    have h1 : 256 ^ 1 ≤ 256 ^ (8 - j) := Nat.pow_le_pow_right (by omega) (by omega)
    have h2 : a / 256 ^ (8 - j) ≤ a / 256 ^ 1 := Nat.div_le_div_left h1 (by omega)
    omega
  have e : a / 256 ^ (8 - (j + 1)) = a / 256 ^ (8 - j) * 256 + (byteOf a (7 - j)).toNat := by
    rw [byteOf_toNat, ← pow_256, show 8 - (j + 1) = 7 - j by omega, show 8 - j = (7 - j) + 1 by omega, Nat.pow_succ, ← Nat.div_div_eq_div_mul]
    omega
  have h := or64_big (a / 256 ^ (8 - j)) (byteOf a (7 - j))
  rw [e]
  generalize a / 256 ^ (8 - j) = x at hd h ⊢
  rw [show (x : Int) % 18446744073709551616 = (x : Int) by omega, show (x * 256 + (byteOf a (7 - j)).toNat) % 18446744073709551616 = x * 256 + (byteOf a (7 - j)).toNat by omega] at h
  exact h
theorem run_nonce_eq (xs ys : List UInt8) (hx : xs.length = 12) (hy : ys.length = 12) (w : World) : (Op.equalIn 10000 25 (.agg (xs.map u8v).toArray) (.agg (ys.map u8v).toArray)).run Try.prog w = .ok (xs == ys) w := by
  obtain ⟨i0, hi, _, hz1, _⟩ := info_parts Try.info5
  exact run_key_eq 25 5 12 Try.underlying25 Try.underlying5 i0 hi hz1 xs ys hx hy w

set_option maxRecDepth 100000 in
set_option maxHeartbeats 8000000 in
theorem counters_walk (HS : SealC) (HCC : CountC) (w : World) (a b : Nat) (ha : a ≤ 18446744073709551615) (hb : b ≤ 18446744073709551615) :
    Calls Try.prog 5 #[.int .u64 (a : Int), .int .u64 (b : Int)] w fun e w' => e = .returned (.bool true) ∧ Below w.heap.size w w' := by
  have CA := HCC a (by omega)
  have CB := HCC b (by omega)
  have RA := refCounter_any a (by omega)
  have ex := run_nonce_eq (countL a) (countL a) (countL_length a) (countL_length a)
  rw [show (countL a == countL a) = true by simp] at ex
  have ey := run_nonce_eq (countL a) (countL b) (countL_length a) (countL_length b)
  obtain ⟨t, ht⟩ : ∃ t, (countL a == countL b) = t := ⟨_, rfl⟩
  rw [ht] at ey
  have hab : ((a : Int) == (b : Int)) = t := by
    rw [← ht, Bool.eq_iff_iff, beq_iff_eq, beq_iff_eq, countL_inj (by omega) (by omega)]
    omega
  obtain ⟨ca, hca⟩ : ∃ ca, ((countL a).map u8v).toArray = ca := ⟨_, rfl⟩
  obtain ⟨cb, hcb⟩ : ∃ cb, ((countL b).map u8v).toArray = cb := ⟨_, rfl⟩
  rw [hca] at CA RA ex ey
  rw [hcb] at CB ey
  have HCA := Lib.hid CA
  have HCB := Lib.hid CB
  have RC := Lib.hid RA
  have HE := Lib.hid (And.intro hca hcb)
  have HT := Lib.hid (And.intro ex (And.intro ey hab))
  have HBG := Lib.hid (begun_any HS)
  clear CA CB RA hca hcb ex ey hab ht HS HCC
  go_enter Try.func5, Try.ntmps5
  go_wp2_with fail
  refine (HCA.out _).mono ?_
  rintro e w1 ⟨rfl, hb1⟩
  go_wp2_with fail
  refine (HCB.out _).mono ?_
  rintro e w2 ⟨rfl, hb2⟩
  have H2 := Lib.hid (hb1.trans (hb2.mono hb1.size))
  clear hb1 hb2
  go_upto_region 2 with (first | (refine wpList_store_blk rfl 25 (.tmp 5) (.tmp 10) rfl w2.heap.size ((countL a).map u8v) rfl (by show Value.agg ca = _; rw [HE.out.1]) 25 (aeZ 12) ((Blk.new w2 25 (aeZ 12)).alloc _) (ae_cellsN _ (countL_length a)) (by rw [List.length_map, countL_length]; rfl) (u8v_one _) ?_; intro w3 hb3 hg3) | (refine wpList_store_blk rfl 25 (.tmp 6) (.tmp 12) rfl (w2.heap.size + 1) ((countL b).map u8v) rfl (by show Value.agg cb = _; rw [HE.out.2]) 25 (aeZ 12) ((Blk.new' (w2.alloc (.cells (aeZ 12).toArray 25)) (by simp) 25 (aeZ 12)).grown hg3 (by simp)) (ae_cellsN _ (countL_length b)) (by rw [List.length_map, countL_length]; rfl) (u8v_one _) ?_; intro w4 hb4 hg4))
  simp only [Act.put]
  have H4 := Lib.hid (show Blk w4 w2.heap.size 25 ((countL a).map u8v) ∧ Blk w4 (w2.heap.size + 1) 25 ((countL b).map u8v) ∧ Below w.heap.size w w4 from ⟨hb3.grown hg4 (by simp), hb4, below_blk (below_blk ((H2.out.alloc H2.out.size (.cells (aeZ 12).toArray 25)).alloc (by have := H2.out.size; simp; omega) (.cells (aeZ 12).toArray 25)) hg3 H2.out.size) hg4 (by have := H2.out.size; omega)⟩)
  have hP := H2.out.size
  clear hb3 hg3 hb4 hg4 H2
  generalize w2.heap.size = P at H4 hP ⊢
  go_wp2_with fail
  go_loop [7, 8] (fun v i => ∃ j : Nat, j ≤ 8 ∧ i = .int .i64 (11 - (j : Int)) ∧ v = .int .u64 ((a / 256 ^ (8 - j) : Nat) : Int)) (fun _ i => (intOf i).toNat)
  case atStart => exact ⟨0, by omega, rfl, by rw [show a / 256 ^ (8 - 0) = 0 from Nat.div_eq_of_lt (by omega)]; rfl⟩
  case round =>
    obtain ⟨j, hj, rfl, rfl⟩ := hrel
    by_cases hlt : j < 8
    · have d4 : decide ((11 : Int) - (j : Int) ≥ 4) = true := by simp; omega
      obtain ⟨q, hq⟩ : ∃ q, 11 - j = q := ⟨_, rfl⟩
      have hqi : (11 : Int) - (j : Int) = (q : Int) := by omega
      have fx := H4.out.1.cell q
      rw [map_u8v_getElem? (countL a) q (by rw [countL_length]; omega)] at fx
      have hg := count_get a j hlt
      have hg2 : (countL a)[q]'(by rw [countL_length]; omega) = byteOf a (7 - j) := by rw [← hg]; simp only [hq]
      rw [hg2] at fx
      have hst := count_step a j hlt (by omega)
      generalize (byteOf a (7 - j)).toNat = bt at fx hst
      obtain ⟨nx, hnx⟩ : ∃ nx, a / 256 ^ (8 - (j + 1)) = nx := ⟨_, rfl⟩
      rw [hnx] at hst
      generalize hcur : a / 256 ^ (8 - j) = cu at hst ⊢
      have b12 : (q : Int) < 12 := by omega
      rw [hqi] at d4 ⊢
      have hsb : IntKind.i64.wrap ((q : Int) - 1) = (q : Int) - 1 := IntWalk.i64_in _ (by omega)
      go_wp2_with fail
      refine ⟨⟨j + 1, by omega, ?_, by rw [hnx]⟩, ?_⟩
      · congr 1; omega
      · simp [intOf]; omega
    · obtain rfl : j = 8 := by omega
      have d4 : decide ((11 : Int) - ((8 : Nat) : Int) ≥ 4) = false := by decide
      rw [show a / 256 ^ (8 - 8) = a by simp]
      have eqx := HT.out.1
      have eqy := HT.out.2.1
      have eqi := HT.out.2.2
      have HR := Lib.hid (H4.out.1.rd 0 4 (by rw [countL_length]; omega))
      have cv : ∀ w' : World, Below w4.heap.size w4 w' → (convert 26 9 (.slice (some ⟨P, 0, none⟩) 4 12)).run Try.prog w' = .ok (.string ⟨#[0, 0, 0, 0]⟩) w' := fun w' hb => by
        have h := ae_conv (HR.out.keep fun p hp => hb.cell (Nat.lt_of_lt_of_le hp H4.out.1.lt)) 12
        rwa [show ((countL a).drop 0).take 4 = [0, 0, 0, 0] by rw [List.drop_zero, countL, List.take_left' (by simp)]; rfl] at h
      have HLD_5 := Lib.hid (fun w' (hb : Below w4.heap.size w4 w') => H4.out.1.below hb H4.out.1.lt)
      have HLD_6 := Lib.hid (fun w' (hb : Below w4.heap.size w4 w') => H4.out.2.1.below hb H4.out.2.1.lt)
      go_upto_region 7 with fail
      refine wp_region_held_drew (S := fun w5 => Below w4.heap.size w4 w5) (by kernel_rfl) ((Below.refl w4.heap.size w4).drew) (fun hHeld => ?_)
      refine take_first (v := .agg ca) 0 rfl (by kernel_rfl) (by kernel_rfl) (by kernel_rfl) (fun _ _ _ h => h) (by rw [← HE.out.1]; exact yields_load_blk (by rfl) 25 (.tmp 5) rfl P rfl 25 _ (fun w' hb => HLD_5.out w' hb) 12 5 Try.underlying25 (ae_cellsN _ (countL_length _))) (by assumption) ?_
      (try simp only [Act.put, List.setIfInBounds_toArray, List.set_cons_zero, List.set_cons_succ])
      refine take_first (v := ?_) 1 rfl (by kernel_rfl) (by kernel_rfl) (by kernel_rfl) (fun _ _ _ h => h) (Or.inl ⟨by rfl, ?_⟩) (by assumption) ?_
      rotate_left
      · (intro w hSw; (try dsimp only at hSw); go_simp; try with_reducible rfl)
      (try simp only [Act.put, List.setIfInBounds_toArray, List.set_cons_zero, List.set_cons_succ])
      refine step_one 2 rfl (by kernel_rfl) (fun K hK => ?_)
      go_simp
      refine (RC.out _).mono ?_
      rintro e w6 ⟨rfl, hb6⟩
      have hb6 := hb6
      go_wp2_with fail
      refine hK.out _ _ (hHeld.trans (hb6.mono hHeld.size)) (fun hHeld => ?_)
      clear hK K
      (try simp only [Act.put, List.setIfInBounds_toArray, List.set_cons_zero, List.set_cons_succ])
      clear hb6
      refine take_first (v := ?_) 3 rfl (by kernel_rfl) (by kernel_rfl) (by kernel_rfl) (fun _ _ _ h => h) (Or.inl ⟨by rfl, ?_⟩) (by assumption) ?_
      rotate_left
      · (intro w hSw; (try dsimp only at hSw); go_simp; try with_reducible rfl)
      (try simp only [Act.put, List.setIfInBounds_toArray, List.set_cons_zero, List.set_cons_succ])
      refine take_first (v := ?_) 4 rfl (by kernel_rfl) (by kernel_rfl) (by kernel_rfl) (fun _ _ _ h => h) (Or.inl ⟨by rfl, ?_⟩) (by assumption) ?_
      rotate_left
      · (intro w hSw; (try dsimp only at hSw); go_simp; try with_reducible rfl)
      (try simp only [Act.put, List.setIfInBounds_toArray, List.set_cons_zero, List.set_cons_succ])
      refine take_first (v := .agg ca) 5 rfl (by kernel_rfl) (by kernel_rfl) (by kernel_rfl) (fun _ _ _ h => h) (by rw [← HE.out.1]; exact yields_load_blk (by rfl) 25 (.tmp 5) rfl P rfl 25 _ (fun w' hb => HLD_5.out w' hb) 12 5 Try.underlying25 (ae_cellsN _ (countL_length _))) (by assumption) ?_
      (try simp only [Act.put, List.setIfInBounds_toArray, List.set_cons_zero, List.set_cons_succ])
      refine take_first (v := .agg cb) 6 rfl (by kernel_rfl) (by kernel_rfl) (by kernel_rfl) (fun _ _ _ h => h) (by rw [← HE.out.2]; exact yields_load_blk (by rfl) 25 (.tmp 6) rfl (P + 1) rfl 25 _ (fun w' hb => HLD_6.out w' hb) 12 5 Try.underlying25 (ae_cellsN _ (countL_length _))) (by assumption) ?_
      (try simp only [Act.put, List.setIfInBounds_toArray, List.set_cons_zero, List.set_cons_succ])
      refine take_first (v := ?_) 7 rfl (by kernel_rfl) (by kernel_rfl) (by kernel_rfl) (fun _ _ _ h => h) (Or.inl ⟨by rfl, ?_⟩) (by assumption) ?_
      rotate_left
      · (intro w hSw; (try dsimp only at hSw); go_simp; try with_reducible rfl)
      (try simp only [Act.put, List.setIfInBounds_toArray, List.set_cons_zero, List.set_cons_succ])
      refine take_first (v := ?_) 8 rfl (by kernel_rfl) (by kernel_rfl) (by kernel_rfl) (fun _ _ _ h => h) (Or.inl ⟨by rfl, ?_⟩) (by assumption) ?_
      rotate_left
      · (intro w hSw; (try dsimp only at hSw); go_simp; try with_reducible rfl)
      (try simp only [Act.put, List.setIfInBounds_toArray, List.set_cons_zero, List.set_cons_succ])
      refine take_first (v := ?_) 9 rfl (by kernel_rfl) (by kernel_rfl) (by kernel_rfl) (fun _ _ _ h => h) (Or.inl ⟨by rfl, ?_⟩) (by assumption) ?_
      rotate_left
      · (intro w hSw; (try dsimp only at hSw); go_simp; try with_reducible rfl)
      (try simp only [Act.put, List.setIfInBounds_toArray, List.set_cons_zero, List.set_cons_succ])
      refine take_first (v := ?_) 10 rfl (by kernel_rfl) (by kernel_rfl) (by kernel_rfl) (fun _ _ _ h => h) (Or.inl ⟨by rfl, ?_⟩) (by assumption) ?_
      rotate_left
      · (intro w hSw; (try dsimp only at hSw); go_simp; try with_reducible rfl)
      (try simp only [Act.put, List.setIfInBounds_toArray, List.set_cons_zero, List.set_cons_succ])
      refine take_first (v := ?_) 11 rfl (by kernel_rfl) (by kernel_rfl) (by kernel_rfl) (fun _ _ _ h => h) (Or.inl ⟨by rfl, ?_⟩) (by assumption) ?_
      rotate_left
      · (intro w hSw; (try dsimp only at hSw); go_simp; try with_reducible rfl)
      (try simp only [Act.put, List.setIfInBounds_toArray, List.set_cons_zero, List.set_cons_succ])
      refine take_first (v := ?_) 12 rfl (by kernel_rfl) (by kernel_rfl) (by kernel_rfl) (fun _ _ _ h => h) (Or.inl ⟨by rfl, ?_⟩) (by assumption) ?_
      rotate_left
      · (intro w hSw; (try dsimp only at hSw); go_simp; try with_reducible rfl)
      (try simp only [Act.put, List.setIfInBounds_toArray, List.set_cons_zero, List.set_cons_succ])
      refine take_first (v := ?_) 13 rfl (by kernel_rfl) (by kernel_rfl) (by kernel_rfl) (fun _ _ _ h => h) (Or.inl ⟨by rfl, ?_⟩) (by assumption) ?_
      rotate_left
      · (intro w hSw; (try dsimp only at hSw); go_simp; try with_reducible rfl)
      (try simp only [Act.put, List.setIfInBounds_toArray, List.set_cons_zero, List.set_cons_succ])
      refine take_first (v := ?_) 14 rfl (by kernel_rfl) (by kernel_rfl) (by kernel_rfl) (fun _ _ _ h => h) (Or.inl ⟨by rfl, ?_⟩) (by assumption) ?_
      rotate_left
      · (intro w hSw; (try dsimp only at hSw); go_simp; try with_reducible rfl)
      (try simp only [Act.put, List.setIfInBounds_toArray, List.set_cons_zero, List.set_cons_succ])
      refine take_first (v := ?_) 15 rfl (by kernel_rfl) (by kernel_rfl) (by kernel_rfl) (fun _ _ _ h => h) (Or.inl ⟨by rfl, ?_⟩) (by assumption) ?_
      rotate_left
      · (intro w hSw; (try dsimp only at hSw); go_simp; try with_reducible rfl)
      (try simp only [Act.put, List.setIfInBounds_toArray, List.set_cons_zero, List.set_cons_succ])
      refine take_first (v := ?_) 16 rfl (by kernel_rfl) (by kernel_rfl) (by kernel_rfl) (fun _ _ _ h => h) (Or.inl ⟨by rfl, ?_⟩) (by assumption) ?_
      rotate_left
      · (intro w hSw; (try dsimp only at hSw); go_simp; try with_reducible rfl)
      (try simp only [Act.put, List.setIfInBounds_toArray, List.set_cons_zero, List.set_cons_succ])
      refine take_first (v := ?_) 17 rfl (by kernel_rfl) (by kernel_rfl) (by kernel_rfl) (fun _ _ _ h => h) (Or.inl ⟨by rfl, ?_⟩) (by assumption) ?_
      rotate_left
      · (intro w hSw; (try dsimp only at hSw); go_simp; try with_reducible rfl)
      (try simp only [Act.put, List.setIfInBounds_toArray, List.set_cons_zero, List.set_cons_succ])
      refine take_first (v := ?_) 18 rfl (by kernel_rfl) (by kernel_rfl) (by kernel_rfl) (fun _ _ _ h => h) (Or.inl ⟨by rfl, ?_⟩) (by assumption) ?_
      rotate_left
      · (intro w hSw; (try dsimp only at hSw); go_simp; try with_reducible rfl)
      (try simp only [Act.put, List.setIfInBounds_toArray, List.set_cons_zero, List.set_cons_succ])
      refine take_first (v := ?_) 19 rfl (by kernel_rfl) (by kernel_rfl) (by kernel_rfl) (fun _ _ _ h => h) (Or.inl ⟨by rfl, ?_⟩) (by assumption) ?_
      rotate_left
      · (intro w hSw; (try dsimp only at hSw); go_simp; try with_reducible rfl)
      (try simp only [Act.put, List.setIfInBounds_toArray, List.set_cons_zero, List.set_cons_succ])
      refine take_first (v := ?_) 20 rfl (by kernel_rfl) (by kernel_rfl) (by kernel_rfl) (fun _ _ _ h => h) (Or.inl ⟨by rfl, ?_⟩) (by assumption) ?_
      rotate_left
      · (intro w hSw; (try dsimp only at hSw); go_simp; try with_reducible rfl)
      (try simp only [Act.put, List.setIfInBounds_toArray, List.set_cons_zero, List.set_cons_succ])
      refine take_first (v := ?_) 21 rfl (by kernel_rfl) (by kernel_rfl) (by kernel_rfl) (fun _ _ _ h => h) (Or.inl ⟨by rfl, ?_⟩) (by assumption) ?_
      rotate_left
      · (intro w hSw; (try dsimp only at hSw); go_simp; try with_reducible rfl)
      (try simp only [Act.put, List.setIfInBounds_toArray, List.set_cons_zero, List.set_cons_succ])
      refine take_first (v := ?_) 22 rfl (by kernel_rfl) (by kernel_rfl) (by kernel_rfl) (fun _ _ _ h => h) (Or.inl ⟨by rfl, ?_⟩) (by assumption) ?_
      rotate_left
      · (intro w hSw; (try dsimp only at hSw); go_simp; try with_reducible rfl)
      (try simp only [Act.put, List.setIfInBounds_toArray, List.set_cons_zero, List.set_cons_succ])
      refine take_first (v := ?_) 23 rfl (by kernel_rfl) (by kernel_rfl) (by kernel_rfl) (fun _ _ _ h => h) (Or.inl ⟨by rfl, ?_⟩) (by assumption) ?_
      rotate_left
      · (intro w hSw; (try dsimp only at hSw); go_simp; try with_reducible rfl)
      (try simp only [Act.put, List.setIfInBounds_toArray, List.set_cons_zero, List.set_cons_succ])
      refine step_one 24 rfl (by kernel_rfl) (fun K hK => ?_)
      go_simp
      refine (HBG.out _).mono ?_
      rintro e w7 ⟨rfl, hb7⟩
      go_wp2_with fail
      refine hK.out _ _ (hHeld.trans (hb7.mono hHeld.size)) (fun hHeld => ?_)
      clear hK K
      (try simp only [Act.put, List.setIfInBounds_toArray, List.set_cons_zero, List.set_cons_succ])
      refine take_first (v := ?_) 25 rfl (by kernel_rfl) (by kernel_rfl) (by kernel_rfl) (fun _ _ _ h => h) (Or.inl ⟨by rfl, ?_⟩) (by assumption) ?_
      rotate_left
      · (intro w hSw; (try dsimp only at hSw); go_simp; try with_reducible rfl)
      (try simp only [Act.put, List.setIfInBounds_toArray, List.set_cons_zero, List.set_cons_succ])
      refine take_first (v := ?_) 26 rfl (by kernel_rfl) (by kernel_rfl) (by kernel_rfl) (fun _ _ _ h => h) (Or.inl ⟨by rfl, ?_⟩) (by assumption) ?_
      rotate_left
      · (intro w hSw; (try dsimp only at hSw); go_simp; try with_reducible rfl)
      (try simp only [Act.put, List.setIfInBounds_toArray, List.set_cons_zero, List.set_cons_succ])
      refine wpAnyH_done (by kernel_rfl) ?_ _
      have HF := Lib.hid (H4.out.2.2.trans (hHeld.mono H4.out.2.2.size))
      clear eqx eqy eqi cv hHeld
      go_wp2_with fail
      go_ret
      exact ⟨rfl, HF.out⟩
end Go.Proofs.Ytafkedeelngnnaa
