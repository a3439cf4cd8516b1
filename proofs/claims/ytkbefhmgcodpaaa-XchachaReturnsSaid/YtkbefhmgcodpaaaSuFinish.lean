/-
  The contract of the program's finish: the remainder, the second half of the key, the bytes.
-/
import Derived.Test.YtkbefhmgcodpaaaSuOps
import Derived.Test.YtkbefhmgcodpaaaSuFactor
import Derived.Test.YtkbefhmgcodpaaaSuBits
import Derived.Test.YtkbefhmgcodpaaaLittle
import Derived.Test.YtkbefhmgcodpaaaPoPoly
namespace Go.Proofs.Ytkbefhmgcodpaaa
open Go.RowKit

theorem half_fit_8l (f : Nat) : 8 + 8 ≤ ((littleL f 8 ++ List.replicate 8 0).map u8v).length := by simp [littleL_length]
theorem half_one (f : Nat) : zT.take 0 ++ (littleL f 8).map u8v ++ zT.drop (0 + ((littleL f 8).map u8v).length) = (littleL f 8 ++ List.replicate 8 0).map u8v := by
  rw [List.take_zero, List.nil_append, List.map_append, List.length_map, littleL_length, Nat.zero_add, zT, List.drop_replicate, List.map_replicate]
  rfl
theorem half_two (f g : Nat) : ((littleL f 8 ++ List.replicate 8 0).map u8v).take 8 ++ (littleL g 8).map u8v ++ ((littleL f 8 ++ List.replicate 8 0).map u8v).drop (8 + ((littleL g 8).map u8v).length) = (littleL f 8 ++ littleL g 8).map u8v := by
  have h1 : ((littleL f 8 ++ List.replicate 8 0).map u8v).take 8 = (littleL f 8).map u8v := by rw [← List.map_take, List.take_left' (littleL_length f 8)]
  have h2 : ((littleL f 8 ++ List.replicate 8 0).map u8v).drop (8 + ((littleL g 8).map u8v).length) = [] := by
    rw [List.length_map, littleL_length]
    exact List.drop_eq_nil_of_le (by simp [littleL_length])
  rw [h1, h2, List.append_nil, List.map_append]

theorem finish_numbers (n : List Nat) (k : List UInt8) (ht : tight n) (hk : k.length = 32) :
    littleL (fin2 (joinL (carryN (raised n))) (keyLow k)) 8 ++ littleL (fin3 (joinL (carryN (raised n))) (joinH (carryN (raised n))) (keyLow k) (keyHigh k)) 8 = littleL (val5 n % primeP + sN k) 16 := by
  obtain ⟨h1, h2⟩ := raised_carry ht
  obtain ⟨j1, j2, j3⟩ := join_val _ h2
  rw [h1] at j3
  have hf := fin_val _ _ (keyLow k) (keyHigh k) _ j1 j2 (take8_lt _) (take8_lt _) j3
  rw [← sN_words k hk] at hf
  refine littleL_halves _ _ _ ?_ ?_
  · have l2 : fin2 (joinL (carryN (raised n))) (keyLow k) < 18446744073709551616 := Nat.mod_lt _ (by omega)
    omega
  · have l2 : fin2 (joinL (carryN (raised n))) (keyLow k) < 18446744073709551616 := Nat.mod_lt _ (by omega)
    have l3 : fin3 (joinL (carryN (raised n))) (joinH (carryN (raised n))) (keyLow k) (keyHigh k) < 18446744073709551616 := Nat.mod_lt _ (by omega)
    omega

set_option maxRecDepth 100000 in
set_option maxHeartbeats 4000000 in
theorem finish_any (n : List Nat) (k : List UInt8) (ht : tight n) (hk : k.length = 32) (w : World) :
    Calls Try.prog 54 #[.agg (n.map lv).toArray, .agg (k.map u8v).toArray] w fun e w' => e = .returned (.agg ((littleL (val5 n % primeP + sN k) 16).map u8v).toArray) ∧ Below w.heap.size w w' := by
  rw [← finish_numbers n k ht hk]
  have hnl : n.length = 5 := ht.1
  have hrc := (raised_carry ht).2
  have hd0 : dg n 0 ≤ 67108868 := by have := ht.2 0; rwa [if_pos rfl] at this
  have hrd : ∀ i, dg (raised n) i ≤ 4611686018427387904 := fun i => by
    rw [raised, dg_set _ _ _ _ (by omega)]
    have := ht.2 i
    split
    · omega
    · split at this <;> omega
  have C1 := carry_any (raised n) (by rw [raised_length, hnl]) hrd
  have C2 := join_any (carryN (raised n)) (by rw [carryN_length, raised_length, hnl]) hrc
  obtain ⟨_, _, _⟩ := join_val _ hrc
  have llo : joinL (carryN (raised n)) < 18446744073709551616 := by assumption
  have lhi : joinH (carryN (raised n)) < 18446744073709551616 := by assumption
  have lk0 : keyLow k < 18446744073709551616 := take8_lt _
  have lk1 : keyHigh k < 18446744073709551616 := take8_lt _
  have hrl : (raised n).length = 5 := by rw [raised_length, hnl]
  have hset : n.set 0 (dg n 0 + 5) = raised n := rfl
  obtain ⟨d0, hdd⟩ : ∃ d, dg n 0 = d := ⟨_, rfl⟩
  rw [hdd] at hset hd0
  generalize carryN (raised n) = lc at *
  generalize hrn : raised n = lr at *
  have q0 : fin0 (joinL lc) (keyLow k) = (joinL lc + keyLow k + 0) % 18446744073709551616 := by unfold fin0; rw [Nat.add_zero]
  have q1 : over0 (joinL lc) (keyLow k) = (joinL lc + keyLow k + 0) / 18446744073709551616 := by unfold over0; rw [Nat.add_zero]
  have lo1 : over0 (joinL lc) (keyLow k) ≤ 1 := by rw [q1]; omega
  have q2 : fin1 (joinL lc) (joinH lc) (keyLow k) (keyHigh k) = (joinH lc + keyHigh k + over0 (joinL lc) (keyLow k)) % 18446744073709551616 := by unfold fin1; simp only []
  have q3 : fin2 (joinL lc) (keyLow k) = (fin0 (joinL lc) (keyLow k) + 18446744073709551616 - 5 - 0) % 18446744073709551616 := by unfold fin2; rw [Nat.sub_zero]
  have q4 : under2 (joinL lc) (keyLow k) = if fin0 (joinL lc) (keyLow k) < 5 + 0 then 1 else 0 := by unfold under2; simp only [Nat.add_zero]
  have lu1 : under2 (joinL lc) (keyLow k) ≤ 1 := by rw [q4]; split <;> omega
  have q5 : fin3 (joinL lc) (joinH lc) (keyLow k) (keyHigh k) = (fin1 (joinL lc) (joinH lc) (keyLow k) (keyHigh k) + 18446744073709551616 - 0 - under2 (joinL lc) (keyLow k)) % 18446744073709551616 := by unfold fin3; rw [Nat.sub_zero]
  have A0 := add64_run (joinL lc) (keyLow k) 0 (by omega)
  rw [← q0, ← q1] at A0
  have A1 := add64_run (joinH lc) (keyHigh k) (over0 (joinL lc) (keyLow k)) lo1
  rw [← q2] at A1
  have S0 := sub64_run (fin0 (joinL lc) (keyLow k)) 5 0 (by omega)
  rw [← q3, ← q4] at S0
  have S1 := sub64_run (fin1 (joinL lc) (joinH lc) (keyLow k) (keyHigh k)) 0 (under2 (joinL lc) (keyLow k)) lu1
  rw [← q5] at S1
  have l2 : fin2 (joinL lc) (keyLow k) < 18446744073709551616 := by rw [q3]; exact Nat.mod_lt _ (by omega)
  have l3 : fin3 (joinL lc) (joinH lc) (keyLow k) (keyHigh k) < 18446744073709551616 := by rw [q5]; exact Nat.mod_lt _ (by omega)
  have LA := little_any _ l2 8 (by omega) (by omega)
  have LB := little_any _ l3 8 (by omega) (by omega)
  clear q0 q1 q2 q3 q4 q5 lo1 lu1
  generalize fin3 (joinL lc) (joinH lc) (keyLow k) (keyHigh k) = f3 at *
  generalize fin2 (joinL lc) (keyLow k) = f2 at *
  generalize fin1 (joinL lc) (joinH lc) (keyLow k) (keyHigh k) = f1 at *
  generalize under2 (joinL lc) (keyLow k) = u2 at *
  generalize over0 (joinL lc) (keyLow k) = o0 at *
  generalize fin0 (joinL lc) (keyLow k) = f0 at *
  generalize joinL lc = jl at *
  generalize joinH lc = jh at *
  have e1 : numL (((k.drop 16).take 8).take 8) = keyLow k := by rw [List.take_take]; rfl
  have e2 : numL (((k.drop 24).take 8).take 8) = keyHigh k := by rw [List.take_take]; rfl
  generalize keyLow k = k0 at *
  generalize keyHigh k = k1 at *
  obtain ⟨cn, hcn⟩ : ∃ cn, (n.map lv).toArray = cn := ⟨_, rfl⟩
  obtain ⟨ck, hck⟩ : ∃ ck, (k.map u8v).toArray = ck := ⟨_, rfl⟩
  obtain ⟨cr, hcr⟩ : ∃ cr, (lr.map lv).toArray = cr := ⟨_, rfl⟩
  obtain ⟨cc, hcc⟩ : ∃ cc, (lc.map lv).toArray = cc := ⟨_, rfl⟩
  rw [hcr, hcc] at C1
  rw [hcc] at C2
  rw [hcn, hck]
  have h0 : Blk (((w.alloc (.cells cn 76)).alloc (.cells ck 23)).alloc (.cells zT.toArray 54)) w.heap.size 76 (n.map lv) := by rw [← hcn]; exact ((Blk.new w _ _).alloc _).alloc _
  have h1 : Blk (((w.alloc (.cells cn 76)).alloc (.cells ck 23)).alloc (.cells zT.toArray 54)) (w.heap.size + 1) 23 (k.map u8v) := by rw [← hck]; exact (Blk.new' (w.alloc (.cells cn 76)) (by simp) _ _).alloc _
  have h2 : Blk (((w.alloc (.cells cn 76)).alloc (.cells ck 23)).alloc (.cells zT.toArray 54)) (w.heap.size + 2) 54 zT := Blk.new' _ (by simp) _ _
  have h3 : Below w.heap.size w (((w.alloc (.cells cn 76)).alloc (.cells ck 23)).alloc (.cells zT.toArray 54)) := (((Below.refl _ _).alloc (Nat.le_refl _) _).alloc (by simp) _).alloc (by simp; omega) _
  have h4 : (((w.alloc (.cells cn 76)).alloc (.cells ck 23)).alloc (.cells zT.toArray 54)).heap.size = w.heap.size + 3 := by simp
  rw [zT_arr] at h0 h1 h2 h3 h4
  have HC := Lib.hid (And.intro C1 C2)
  rw [show ((0 : Nat) : Int) = 0 from rfl] at A0 S1
  rw [show ((5 : Nat) : Int) = 5 from rfl, show ((0 : Nat) : Int) = 0 from rfl] at S0
  rw [show ((8 : Nat) : Int) = 8 from rfl] at LA LB
  generalize (jh + k1 + o0) / 18446744073709551616 = x1 at A1
  generalize (if f1 < 0 + u2 then 1 else 0) = x2 at S1
  have HA := Lib.hid (And.intro A0 (And.intro A1 (And.intro S0 S1)))
  have HL := Lib.hid (And.intro LA LB)
  have HE := Lib.hid (And.intro e1 (And.intro e2 (And.intro hcn (And.intro hcr (And.intro hrl hnl)))))
  have HD := Lib.hid (And.intro hset (And.intro hdd hd0))
  have HK := Lib.hid hk
  clear C1 C2 A0 A1 S0 S1 LA LB e1 e2 hcn hck hcr hcc hrl hnl hset hdd hd0 hk ht hrc hrd llo lhi lk0 lk1 l2 l3 hrn
  go_enter Try.func54, Try.ntmps54
  go_upto_region 1 with fail
  generalize (((w.alloc (.cells cn 76)).alloc (.cells ck 23)).alloc (.cells #[.int .u8 0, .int .u8 0, .int .u8 0, .int .u8 0, .int .u8 0, .int .u8 0, .int .u8 0, .int .u8 0, .int .u8 0, .int .u8 0, .int .u8 0, .int .u8 0, .int .u8 0, .int .u8 0, .int .u8 0, .int .u8 0] 54)) = w1 at h0 h1 h2 h3 h4 ⊢
  rw [show w.heap.size + 1 + 1 = w.heap.size + 2 from rfl]
  have H1 := Lib.hid (And.intro h0 (And.intro h1 (And.intro h2 (And.intro h3 h4))))
  clear h0 h1 h2 h3 h4
  go_upto_region 2 with (first | (refine wpList_load_blk rfl 76 (.tmp 2) rfl w.heap.size rfl 76 (n.map lv) H1.out.1 5 51 Try.underlying76 (cells5 n HE.out.2.2.2.2.2) ?_; rw [HE.out.2.2.1]) | (refine wpList_store_blk rfl 76 (.tmp 5) (.tmp 11) rfl w1.heap.size (n.map lv) rfl (by show Value.agg cn = _; rw [HE.out.2.2.1]) 76 z5 (Blk.new w1 76 z5) (cells5 n HE.out.2.2.2.2.2) (by rw [List.length_map, HE.out.2.2.2.2.2]; rfl) (lv_one _) ?_; intro w2 hb2 hg2))
  simp only [Act.put]
  have e3 := H1.out.2.2.2.2
  have hk1 := (H1.out.2.1.alloc (.cells z5.toArray 76)).grown hg2 (fun e => by injection e; omega)
  have hk2 := (H1.out.2.2.1.alloc (.cells z5.toArray 76)).grown hg2 (fun e => by injection e; omega)
  have hk3 : Below w.heap.size w w2 := below_blk (H1.out.2.2.2.1.alloc (by omega) (.cells z5.toArray 76)) hg2 (by omega)
  rw [e3] at hb2 ⊢
  have fx := hb2.lim 0 (by rw [HE.out.2.2.2.2.2]; omega)
  rw [HD.out.2.1] at fx
  have zx := hb2.frozen 0
  obtain ⟨d1, hd1⟩ : ∃ d1, d0 + 5 = d1 := ⟨_, rfl⟩
  have hw1 : IntKind.u64.wrap ((d0 : Int) + 5) = (d1 : Int) := by have := HD.out.2.2; rw [IntKind.wrap_u64]; omega
  have hst := hb2.setLim 0 d1
  rw [← hd1, HD.out.1, hd1] at hst
  have H2 := Lib.hid (show Blk (w2.setCell ⟨w.heap.size + 3, 0, none⟩ (.int .u64 (d1 : Int))) (w.heap.size + 3) 76 (lr.map lv) ∧ Blk (w2.setCell ⟨w.heap.size + 3, 0, none⟩ (.int .u64 (d1 : Int))) (w.heap.size + 1) 23 (k.map u8v) ∧ Blk (w2.setCell ⟨w.heap.size + 3, 0, none⟩ (.int .u64 (d1 : Int))) (w.heap.size + 2) 54 zT ∧ Below w.heap.size w (w2.setCell ⟨w.heap.size + 3, 0, none⟩ (.int .u64 (d1 : Int))) from ⟨hst, hk1.far (by simp) _, hk2.far (by simp) _, hk3.setCell (by dsimp only; omega) _⟩)
  clear hb2 hk1 hk2 hk3 hg2 e3 H1 hst hd1
  go_upto_region 3 with fail
  (try simp only [hw1])
  generalize w2.setCell ⟨w.heap.size + 3, 0, none⟩ (.int .u64 (d1 : Int)) = w3 at H2 ⊢
  clear fx zx hw1
  go_wp2_with (refine wpList_load_blk rfl 76 (.tmp 5) rfl (w.heap.size + 3) rfl 76 (lr.map lv) H2.out.1 5 51 Try.underlying76 (cells5 lr HE.out.2.2.2.2.1) ?_; rw [HE.out.2.2.2.1])
  refine (HC.out.1 _).mono ?_
  rintro e w4 ⟨rfl, hb4⟩
  have H4 := Lib.hid (And.intro (H2.out.2.1.below hb4 H2.out.2.1.lt) (And.intro (H2.out.2.2.1.below hb4 H2.out.2.2.1.lt) (H2.out.2.2.2.trans (hb4.mono H2.out.2.2.2.size))))
  clear hb4 H2
  go_wp2_with fail
  refine (HC.out.2 _).mono ?_
  rintro e w5 ⟨rfl, hb5⟩
  have H5 := Lib.hid (And.intro (H4.out.1.below hb5 H4.out.1.lt) (And.intro (H4.out.2.1.below hb5 H4.out.2.1.lt) (H4.out.2.2.trans (hb5.mono H4.out.2.2.size))))
  clear hb5 H4 HC
  go_upto_region 4 with fail
  have r1 := H5.out.1.rd 16 8 (by rw [HK.out]; omega)
  have r2 := H5.out.1.rd 24 8 (by rw [HK.out]; omega)
  have HR := Lib.hid (And.intro r1 r2)
  clear r1 r2
  go_wp2_with fail
  refine (readLittle_any _ _ 8 16 _ (by omega) _ HR.out.1).mono ?_
  rintro e w6 ⟨rfl, rfl⟩
  rw [HE.out.1]
  have a0 := HA.out.1
  go_upto_region 5 with fail
  clear a0
  go_wp2_with fail
  refine (readLittle_any _ _ 8 8 _ (by omega) _ HR.out.2).mono ?_
  rintro e w6 ⟨rfl, rfl⟩
  rw [HE.out.2.1]
  have a1 := HA.out.2.1
  go_upto_region 6 with fail
  clear a1 HR
  have a2 := HA.out.2.2.1
  go_upto_region 7 with fail
  clear a2
  have a3 := HA.out.2.2.2
  go_upto_region 9 with fail
  clear a3
  have H6 := Lib.hid (show Blk (w5.alloc (.cells zT.toArray 54)) w5.heap.size 54 zT ∧ Blk (w5.alloc (.cells zT.toArray 54)) (w.heap.size + 2) 54 zT ∧ Below w.heap.size w (w5.alloc (.cells zT.toArray 54)) ∧ w.heap.size + 3 ≤ w5.heap.size from ⟨Blk.new w5 _ _, H5.out.2.1.alloc _, H5.out.2.2.alloc H5.out.2.2.size _, H5.out.2.1.lt⟩)
  rw [zT_arr] at H6
  generalize w5.alloc (.cells #[.int .u8 0, .int .u8 0, .int .u8 0, .int .u8 0, .int .u8 0, .int .u8 0, .int .u8 0, .int .u8 0, .int .u8 0, .int .u8 0, .int .u8 0, .int .u8 0, .int .u8 0, .int .u8 0, .int .u8 0, .int .u8 0] 54) = w6 at H6 ⊢
  generalize w5.heap.size = P at H6 ⊢
  clear H5
  refine wp_region_held_drew (S := fun _ => True) (by kernel_rfl) (trivial) (fun hHeld => ?_)
  refine take_first (v := ?_) 0 rfl (by kernel_rfl) (by kernel_rfl) (by kernel_rfl) (fun _ _ _ h => h) (Or.inl ⟨by rfl, ?_⟩) (by assumption) ?_
  rotate_left
  · (intro w hSw; (try dsimp only at hSw); go_simp; try with_reducible rfl)
  (try simp only [Act.put, List.setIfInBounds_toArray, List.set_cons_zero, List.set_cons_succ])
  refine take_first (v := ?_) 1 rfl (by kernel_rfl) (by kernel_rfl) (by kernel_rfl) (fun _ _ _ h => h) (Or.inl ⟨by rfl, ?_⟩) (by assumption) ?_
  rotate_left
  · (intro w hSw; (try dsimp only at hSw); go_simp; try with_reducible rfl)
  (try simp only [Act.put, List.setIfInBounds_toArray, List.set_cons_zero, List.set_cons_succ])
  refine step_one 2 rfl (by kernel_rfl) (fun K hK => ?_)
  go_simp
  refine (HL.out.1 _).mono ?_
  rintro e w7 ⟨rfl, hown, hbw⟩
  have H7 := Lib.hid (And.intro (H6.out.1.drew.below hbw H6.out.1.lt) (And.intro (H6.out.2.1.drew.below hbw H6.out.2.1.lt) (And.intro (H6.out.2.2.1.drew.trans (hbw.mono H6.out.2.2.1.size)) H6.out.2.2.2)))
  have HSRC := Lib.hid (Rd.of_own hown).src
  clear hown hbw
  clear H6
  go_wp2_with fail
  refine hK.out _ _ (trivial) (fun hHeld => ?_)
  clear hK K
  (try simp only [Act.put, List.setIfInBounds_toArray, List.set_cons_zero, List.set_cons_succ])
  refine step_one 3 rfl (by kernel_rfl) (fun K hK => ?_)
  refine step_copy_bytes _ rfl (.tmp 48) (.tmp 50) 27 27 (by rfl) 5 Try.underlying27 (by kernel_rfl) P 0 8 16 ⟨_, 0, none⟩ 8 8 (by rfl) (by rfl) zT 54 H7.out.1 ((littleL f2 8).map u8v) (by rw [List.length_map, littleL_length]; rfl) HSRC.out (by rw [List.length_map, littleL_length]; exact (show 0 + 8 ≤ zT.length by decide)) (u8v_one _) ?_
  intro w8 hb8 hg8
  refine hK.out _ _ (trivial) (fun hHeld => ?_)
  clear hK K
  (try simp only [Act.put, List.setIfInBounds_toArray, List.set_cons_zero, List.set_cons_succ])
  clear HSRC
  refine wpAnyH_done (by kernel_rfl) ?_ _
  rw [half_one] at hb8
  have H8 := Lib.hid (show Blk w8 P 54 ((littleL f2 8 ++ List.replicate 8 0).map u8v) ∧ Blk w8 (w.heap.size + 2) 54 zT ∧ Below w.heap.size w w8 ∧ w.heap.size + 3 ≤ P from ⟨hb8, H7.out.2.1.grown hg8 (by have := H7.out.2.2.2; simp; omega), below_blk H7.out.2.2.1 hg8 (by have := H7.out.2.2.2; omega), H7.out.2.2.2⟩)
  clear hb8 hg8 H7 hHeld
  go_upto_region 10 with fail
  refine wp_region_held_drew (S := fun _ => True) (by kernel_rfl) (trivial) (fun hHeld => ?_)
  refine take_first (v := ?_) 0 rfl (by kernel_rfl) (by kernel_rfl) (by kernel_rfl) (fun _ _ _ h => h) (Or.inl ⟨by rfl, ?_⟩) (by assumption) ?_
  rotate_left
  · (intro w hSw; (try dsimp only at hSw); go_simp; try with_reducible rfl)
  (try simp only [Act.put, List.setIfInBounds_toArray, List.set_cons_zero, List.set_cons_succ])
  refine take_first (v := ?_) 1 rfl (by kernel_rfl) (by kernel_rfl) (by kernel_rfl) (fun _ _ _ h => h) (Or.inl ⟨by rfl, ?_⟩) (by assumption) ?_
  rotate_left
  · (intro w hSw; (try dsimp only at hSw); go_simp; try with_reducible rfl)
  (try simp only [Act.put, List.setIfInBounds_toArray, List.set_cons_zero, List.set_cons_succ])
  refine step_one 2 rfl (by kernel_rfl) (fun K hK => ?_)
  go_simp
  refine (HL.out.2 _).mono ?_
  rintro e w9 ⟨rfl, hown, hbw⟩
  have H9 := Lib.hid (And.intro (H8.out.1.drew.below hbw H8.out.1.lt) (And.intro (H8.out.2.1.drew.below hbw H8.out.2.1.lt) (And.intro (H8.out.2.2.1.drew.trans (hbw.mono H8.out.2.2.1.size)) H8.out.2.2.2)))
  have HSRC := Lib.hid (Rd.of_own hown).src
  clear hown hbw
  clear H8
  go_wp2_with fail
  refine hK.out _ _ (trivial) (fun hHeld => ?_)
  clear hK K
  (try simp only [Act.put, List.setIfInBounds_toArray, List.set_cons_zero, List.set_cons_succ])
  refine step_one 3 rfl (by kernel_rfl) (fun K hK => ?_)
  refine step_copy_bytes _ rfl (.tmp 52) (.tmp 54) 27 27 (by rfl) 5 Try.underlying27 (by kernel_rfl) P 8 8 8 ⟨_, 0, none⟩ 8 8 (by rfl) (by rfl) ((littleL f2 8 ++ List.replicate 8 0).map u8v) 54 H9.out.1 ((littleL f3 8).map u8v) (by rw [List.length_map, littleL_length]; rfl) HSRC.out (by rw [List.length_map, littleL_length]; exact half_fit_8l f2) (u8v_one _) ?_
  intro w10 hb8 hg8
  refine hK.out _ _ (trivial) (fun hHeld => ?_)
  clear hK K
  (try simp only [Act.put, List.setIfInBounds_toArray, List.set_cons_zero, List.set_cons_succ])
  clear HSRC
  refine wpAnyH_done (by kernel_rfl) ?_ _
  rw [half_two] at hb8
  obtain ⟨lz, hlz⟩ : ∃ lz, littleL f2 8 ++ littleL f3 8 = lz := ⟨_, rfl⟩
  have HLZ := Lib.hid (show lz.length = 16 by rw [← hlz]; simp [littleL_length])
  rw [hlz] at hb8
  have HZ := Lib.hid hlz
  have H10 := Lib.hid (show Blk w10 P 54 (lz.map u8v) ∧ Blk w10 (w.heap.size + 2) 54 zT ∧ Below w.heap.size w w10 from ⟨hb8, H9.out.2.1.grown hg8 (by have := H9.out.2.2.2; simp; omega), below_blk H9.out.2.2.1 hg8 (by have := H9.out.2.2.2; omega)⟩)
  clear hb8 hg8 H9 hHeld hlz
  obtain ⟨ct, hct⟩ : ∃ ct, (lz.map u8v).toArray = ct := ⟨_, rfl⟩
  have HCT := Lib.hid hct
  clear hct
  go_wp2_with (first | (refine wpList_load_blk rfl 54 (.tmp 10) rfl P rfl 54 (lz.map u8v) H10.out.1 16 5 Try.underlying54 (cells16T lz HLZ.out) ?_; rw [HCT.out]) | (refine wpList_store_blk rfl 54 (.tmp 4) (.tmp 56) rfl (w.heap.size + 2) (lz.map u8v) rfl (by show Value.agg ct = _; rw [HCT.out]) 54 zT H10.out.2.1 (cells16T lz HLZ.out) (by rw [List.length_map, HLZ.out]; rfl) (u8v_one _) ?_; intro w9 hb9 hg9))
  exact bodyPost_ret (results_blk rfl _ _ (w.heap.size + 2) 54 (lz.map u8v) 16 5 rfl hb9 Try.underlying54 (cells16T lz HLZ.out)) rfl ⟨by rw [HZ.out], below_blk H10.out.2.2 hg9 (by omega)⟩
end Go.Proofs.Ytkbefhmgcodpaaa
