/-
  The contract of the program's finish: the remainder, the second half of the key, the bytes. The contract of the program's numberOf: the number of a piece and its byte 1. What the laws of layer 3 and the layers above ask of poly.Sum. poly.Sum gives the authenticator: what the laws of layer 3 ask of it. The contract of aead.tagOf. The contract of codec.Equal: the same length and the same bytes (as XEqual, without Join). The contracts of aead.Seal and Open. No statement is proved here.
-/
import Derived.Lib.SlBytesConst
import Derived.RegionTactic
import Derived.BigRegion
import Derived.Deep.DeepCutAuto
import Derived.Laws.BitsAllLaws
import Derived.BigQuiet
import Derived.Deep.QuietTactic
import Derived.Maps.AppendAt
import Derived.Outline
import Derived.Test.YtkbefhmgcodpaaaXchachaSealsB10
namespace Go.Proofs.Ytkbefhmgcodpaaa
open Go.RowKit

theorem half_fit_8l (f : Nat) : 8 + 8 ≤ ((littleL f 8 ++ List.replicate 8 0).map u8v).length := by simp [littleL_length]
theorem half_one (f : Nat) : zT.take 0 ++ (littleL f 8).map u8v ++ zT.drop (0 + ((littleL f 8).map u8v).length) = (littleL f 8 ++ List.replicate 8 0).map u8v := by
  rw [List.take_zero, List.nil_append, List.map_append, List.length_map, littleL_length, Nat.zero_add, zT, List.drop_replicate, List.map_replicate]
  rfl
theorem half_two (f g : Nat) : ((littleL f 8 ++ List.replicate 8 0).map u8v).take 8 ++ (littleL g 8).map u8v ++ ((littleL f 8 ++ List.replicate 8 0).map u8v).drop (8 + ((littleL g 8).map u8v).length) = (littleL f 8 ++ littleL g 8).map u8v := by
  have h1 : ((littleL f 8 ++ List.replicate 8 0).map u8v).take 8 = (littleL f 8).map u8v := by rw [← List.map_take, List.take_left' (littleL_length f 8)]
  have h2 : ((littleL f 8 ++ List.replicate 8 0).map u8v).drop (8 + ((littleL g 8).map u8v).length) = [] := by
    rw [List.length_map, littleL_length]
    exact List.drop_eq_nil_of_le (by simp [littleL_length])
  rw [h1, h2, List.append_nil, List.map_append]

theorem finish_numbers (n : List Nat) (k : List UInt8) (ht : tight n) (hk : k.length = 32) :
    littleL (fin2 (joinL (carryN (raised n))) (keyLow k)) 8 ++ littleL (fin3 (joinL (carryN (raised n))) (joinH (carryN (raised n))) (keyLow k) (keyHigh k)) 8 = littleL (val5 n % primeP + sN k) 16 := by
  obtain ⟨h1, h2⟩ := raised_carry ht
  obtain ⟨j1, j2, j3⟩ := join_val _ h2
  rw [h1] at j3
  have hf := fin_val _ _ (keyLow k) (keyHigh k) _ j1 j2 (take8_lt _) (take8_lt _) j3
  rw [← sN_words k hk] at hf
  refine littleL_halves _ _ _ ?_ ?_
  · have l2 : fin2 (joinL (carryN (raised n))) (keyLow k) < 18446744073709551616 := Nat.mod_lt _ (by omega)
    omega
  · have l2 : fin2 (joinL (carryN (raised n))) (keyLow k) < 18446744073709551616 := Nat.mod_lt _ (by omega)
    have l3 : fin3 (joinL (carryN (raised n))) (joinH (carryN (raised n))) (keyLow k) (keyHigh k) < 18446744073709551616 := Nat.mod_lt _ (by omega)
    omega

set_option maxRecDepth 100000 in
set_option maxHeartbeats 4000000 in
theorem finish_any (n : List Nat) (k : List UInt8) (ht : tight n) (hk : k.length = 32) (w : World) :
    Calls Try.prog 54 #[.agg (n.map lv).toArray, .agg (k.map u8v).toArray] w fun e w' => e = .returned (.agg ((littleL (val5 n % primeP + sN k) 16).map u8v).toArray) ∧ Below w.heap.size w w' := by
  rw [← finish_numbers n k ht hk]
  have hnl : n.length = 5 := ht.1
  have hrc := (raised_carry ht).2
  have hd0 : dg n 0 ≤ 67108868 := by have := ht.2 0; rwa [if_pos rfl] at this
  have hrd : ∀ i, dg (raised n) i ≤ 4611686018427387904 := fun i => by
    rw [raised, dg_set _ _ _ _ (by omega)]
    have := ht.2 i
    split
    · omega
    · split at this <;> omega
  have C1 := carry_any (raised n) (by rw [raised_length, hnl]) hrd
  have C2 := join_any (carryN (raised n)) (by rw [carryN_length, raised_length, hnl]) hrc
  obtain ⟨_, _, _⟩ := join_val _ hrc
  have llo : joinL (carryN (raised n)) < 18446744073709551616 := by assumption
  have lhi : joinH (carryN (raised n)) < 18446744073709551616 := by assumption
  have lk0 : keyLow k < 18446744073709551616 := take8_lt _
  have lk1 : keyHigh k < 18446744073709551616 := take8_lt _
  have hrl : (raised n).length = 5 := by rw [raised_length, hnl]
  have hset : n.set 0 (dg n 0 + 5) = raised n := rfl
  obtain ⟨d0, hdd⟩ : ∃ d, dg n 0 = d := ⟨_, rfl⟩
  rw [hdd] at hset hd0
  generalize carryN (raised n) = lc at *
  generalize hrn : raised n = lr at *
  have q0 : fin0 (joinL lc) (keyLow k) = (joinL lc + keyLow k + 0) % 18446744073709551616 := by unfold fin0; rw [Nat.add_zero]
  have q1 : over0 (joinL lc) (keyLow k) = (joinL lc + keyLow k + 0) / 18446744073709551616 := by unfold over0; rw [Nat.add_zero]
  have lo1 : over0 (joinL lc) (keyLow k) ≤ 1 := by rw [q1]; omega
  have q2 : fin1 (joinL lc) (joinH lc) (keyLow k) (keyHigh k) = (joinH lc + keyHigh k + over0 (joinL lc) (keyLow k)) % 18446744073709551616 := by unfold fin1; simp only []
  have q3 : fin2 (joinL lc) (keyLow k) = (fin0 (joinL lc) (keyLow k) + 18446744073709551616 - 5 - 0) % 18446744073709551616 := by unfold fin2; rw [Nat.sub_zero]
  have q4 : under2 (joinL lc) (keyLow k) = if fin0 (joinL lc) (keyLow k) < 5 + 0 then 1 else 0 := by unfold under2; simp only [Nat.add_zero]
  have lu1 : under2 (joinL lc) (keyLow k) ≤ 1 := by rw [q4]; split <;> omega
  have q5 : fin3 (joinL lc) (joinH lc) (keyLow k) (keyHigh k) = (fin1 (joinL lc) (joinH lc) (keyLow k) (keyHigh k) + 18446744073709551616 - 0 - under2 (joinL lc) (keyLow k)) % 18446744073709551616 := by unfold fin3; rw [Nat.sub_zero]
  have A0 := add64_run (joinL lc) (keyLow k) 0 (by omega)
  rw [← q0, ← q1] at A0
  have A1 := add64_run (joinH lc) (keyHigh k) (over0 (joinL lc) (keyLow k)) lo1
  rw [← q2] at A1
  have S0 := sub64_run (fin0 (joinL lc) (keyLow k)) 5 0 (by omega)
  rw [← q3, ← q4] at S0
  have S1 := sub64_run (fin1 (joinL lc) (joinH lc) (keyLow k) (keyHigh k)) 0 (under2 (joinL lc) (keyLow k)) lu1
  rw [← q5] at S1
  have l2 : fin2 (joinL lc) (keyLow k) < 18446744073709551616 := by rw [q3]; exact Nat.mod_lt _ (by omega)
  have l3 : fin3 (joinL lc) (joinH lc) (keyLow k) (keyHigh k) < 18446744073709551616 := by rw [q5]; exact Nat.mod_lt _ (by omega)
  have LA := little_any _ l2 8 (by omega) (by omega)
  have LB := little_any _ l3 8 (by omega) (by omega)
  clear q0 q1 q2 q3 q4 q5 lo1 lu1
  generalize fin3 (joinL lc) (joinH lc) (keyLow k) (keyHigh k) = f3 at *
  generalize fin2 (joinL lc) (keyLow k) = f2 at *
  generalize fin1 (joinL lc) (joinH lc) (keyLow k) (keyHigh k) = f1 at *
  generalize under2 (joinL lc) (keyLow k) = u2 at *
  generalize over0 (joinL lc) (keyLow k) = o0 at *
  generalize fin0 (joinL lc) (keyLow k) = f0 at *
  generalize joinL lc = jl at *
  generalize joinH lc = jh at *
  have e1 : numL (((k.drop 16).take 8).take 8) = keyLow k := by rw [List.take_take]; rfl
  have e2 : numL (((k.drop 24).take 8).take 8) = keyHigh k := by rw [List.take_take]; rfl
  generalize keyLow k = k0 at *
  generalize keyHigh k = k1 at *
  obtain ⟨cn, hcn⟩ : ∃ cn, (n.map lv).toArray = cn := ⟨_, rfl⟩
  obtain ⟨ck, hck⟩ : ∃ ck, (k.map u8v).toArray = ck := ⟨_, rfl⟩
  obtain ⟨cr, hcr⟩ : ∃ cr, (lr.map lv).toArray = cr := ⟨_, rfl⟩
  obtain ⟨cc, hcc⟩ : ∃ cc, (lc.map lv).toArray = cc := ⟨_, rfl⟩
  rw [hcr, hcc] at C1
  rw [hcc] at C2
  rw [hcn, hck]
  have h0 : Blk (((w.alloc (.cells cn 76)).alloc (.cells ck 23)).alloc (.cells zT.toArray 54)) w.heap.size 76 (n.map lv) := by rw [← hcn]; exact ((Blk.new w _ _).alloc _).alloc _
  have h1 : Blk (((w.alloc (.cells cn 76)).alloc (.cells ck 23)).alloc (.cells zT.toArray 54)) (w.heap.size + 1) 23 (k.map u8v) := by rw [← hck]; exact (Blk.new' (w.alloc (.cells cn 76)) (by simp) _ _).alloc _
  have h2 : Blk (((w.alloc (.cells cn 76)).alloc (.cells ck 23)).alloc (.cells zT.toArray 54)) (w.heap.size + 2) 54 zT := Blk.new' _ (by simp) _ _
  have h3 : Below w.heap.size w (((w.alloc (.cells cn 76)).alloc (.cells ck 23)).alloc (.cells zT.toArray 54)) := (((Below.refl _ _).alloc (Nat.le_refl _) _).alloc (by simp) _).alloc (by simp; omega) _
  have h4 : (((w.alloc (.cells cn 76)).alloc (.cells ck 23)).alloc (.cells zT.toArray 54)).heap.size = w.heap.size + 3 := by simp
  rw [zT_arr] at h0 h1 h2 h3 h4
  have HC := Lib.hid (And.intro C1 C2)
  rw [show ((0 : Nat) : Int) = 0 from rfl] at A0 S1
  rw [show ((5 : Nat) : Int) = 5 from rfl, show ((0 : Nat) : Int) = 0 from rfl] at S0
  rw [show ((8 : Nat) : Int) = 8 from rfl] at LA LB
  generalize (jh + k1 + o0) / 18446744073709551616 = x1 at A1
  generalize (if f1 < 0 + u2 then 1 else 0) = x2 at S1
  have HA := Lib.hid (And.intro A0 (And.intro A1 (And.intro S0 S1)))
  have HL := Lib.hid (And.intro LA LB)
  have HE := Lib.hid (And.intro e1 (And.intro e2 (And.intro hcn (And.intro hcr (And.intro hrl hnl)))))
  have HD := Lib.hid (And.intro hset (And.intro hdd hd0))
  have HK := Lib.hid hk
  clear C1 C2 A0 A1 S0 S1 LA LB e1 e2 hcn hck hcr hcc hrl hnl hset hdd hd0 hk ht hrc hrd llo lhi lk0 lk1 l2 l3 hrn
  go_enter Try.func54, Try.ntmps54
  go_upto_region 1 with fail
  generalize (((w.alloc (.cells cn 76)).alloc (.cells ck 23)).alloc (.cells #[.int .u8 0, .int .u8 0, .int .u8 0, .int .u8 0, .int .u8 0, .int .u8 0, .int .u8 0, .int .u8 0, .int .u8 0, .int .u8 0, .int .u8 0, .int .u8 0, .int .u8 0, .int .u8 0, .int .u8 0, .int .u8 0] 54)) = w1 at h0 h1 h2 h3 h4 ⊢
  rw [show w.heap.size + 1 + 1 = w.heap.size + 2 from rfl]
  have H1 := Lib.hid (And.intro h0 (And.intro h1 (And.intro h2 (And.intro h3 h4))))
  clear h0 h1 h2 h3 h4
  go_upto_region 2 with (first | (refine wpList_load_blk rfl 76 (.tmp 2) rfl w.heap.size rfl 76 (n.map lv) H1.out.1 5 51 Try.underlying76 (cells5 n HE.out.2.2.2.2.2) ?_; rw [HE.out.2.2.1]) | (refine wpList_store_blk rfl 76 (.tmp 5) (.tmp 11) rfl w1.heap.size (n.map lv) rfl (by show Value.agg cn = _; rw [HE.out.2.2.1]) 76 z5 (Blk.new w1 76 z5) (cells5 n HE.out.2.2.2.2.2) (by rw [List.length_map, HE.out.2.2.2.2.2]; rfl) (lv_one _) ?_; intro w2 hb2 hg2))
  simp only [Act.put]
  have e3 := H1.out.2.2.2.2
  have hk1 := (H1.out.2.1.alloc (.cells z5.toArray 76)).grown hg2 (fun e => by injection e; omega)
  have hk2 := (H1.out.2.2.1.alloc (.cells z5.toArray 76)).grown hg2 (fun e => by injection e; omega)
  have hk3 : Below w.heap.size w w2 := below_blk (H1.out.2.2.2.1.alloc (by omega) (.cells z5.toArray 76)) hg2 (by omega)
  rw [e3] at hb2 ⊢
  have fx := hb2.lim 0 (by rw [HE.out.2.2.2.2.2]; omega)
  rw [HD.out.2.1] at fx
  have zx := hb2.frozen 0
  obtain ⟨d1, hd1⟩ : ∃ d1, d0 + 5 = d1 := ⟨_, rfl⟩
  have hw1 : IntKind.u64.wrap ((d0 : Int) + 5) = (d1 : Int) := by have := HD.out.2.2; rw [IntKind.wrap_u64]; omega
  have hst := hb2.setLim 0 d1
  rw [← hd1, HD.out.1, hd1] at hst
  have H2 := Lib.hid (show Blk (w2.setCell ⟨w.heap.size + 3, 0, none⟩ (.int .u64 (d1 : Int))) (w.heap.size + 3) 76 (lr.map lv) ∧ Blk (w2.setCell ⟨w.heap.size + 3, 0, none⟩ (.int .u64 (d1 : Int))) (w.heap.size + 1) 23 (k.map u8v) ∧ Blk (w2.setCell ⟨w.heap.size + 3, 0, none⟩ (.int .u64 (d1 : Int))) (w.heap.size + 2) 54 zT ∧ Below w.heap.size w (w2.setCell ⟨w.heap.size + 3, 0, none⟩ (.int .u64 (d1 : Int))) from ⟨hst, hk1.far (by simp) _, hk2.far (by simp) _, hk3.setCell (by dsimp only; omega) _⟩)
  clear hb2 hk1 hk2 hk3 hg2 e3 H1 hst hd1
  go_upto_region 3 with fail
  (try simp only [hw1])
  generalize w2.setCell ⟨w.heap.size + 3, 0, none⟩ (.int .u64 (d1 : Int)) = w3 at H2 ⊢
  clear fx zx hw1
  go_wp2_with (refine wpList_load_blk rfl 76 (.tmp 5) rfl (w.heap.size + 3) rfl 76 (lr.map lv) H2.out.1 5 51 Try.underlying76 (cells5 lr HE.out.2.2.2.2.1) ?_; rw [HE.out.2.2.2.1])
  refine (HC.out.1 _).mono ?_
  rintro e w4 ⟨rfl, hb4⟩
  have H4 := Lib.hid (And.intro (H2.out.2.1.below hb4 H2.out.2.1.lt) (And.intro (H2.out.2.2.1.below hb4 H2.out.2.2.1.lt) (H2.out.2.2.2.trans (hb4.mono H2.out.2.2.2.size))))
  clear hb4 H2
  go_wp2_with fail
  refine (HC.out.2 _).mono ?_
  rintro e w5 ⟨rfl, hb5⟩
  have H5 := Lib.hid (And.intro (H4.out.1.below hb5 H4.out.1.lt) (And.intro (H4.out.2.1.below hb5 H4.out.2.1.lt) (H4.out.2.2.trans (hb5.mono H4.out.2.2.size))))
  clear hb5 H4 HC
  go_upto_region 4 with fail
  have r1 := H5.out.1.rd 16 8 (by rw [HK.out]; omega)
  have r2 := H5.out.1.rd 24 8 (by rw [HK.out]; omega)
  have HR := Lib.hid (And.intro r1 r2)
  clear r1 r2
  go_wp2_with fail
  refine (readLittle_any _ _ 8 16 _ (by omega) _ HR.out.1).mono ?_
  rintro e w6 ⟨rfl, rfl⟩
  rw [HE.out.1]
  have a0 := HA.out.1
  go_upto_region 5 with fail
  clear a0
  go_wp2_with fail
  refine (readLittle_any _ _ 8 8 _ (by omega) _ HR.out.2).mono ?_
  rintro e w6 ⟨rfl, rfl⟩
  rw [HE.out.2.1]
  have a1 := HA.out.2.1
  go_upto_region 6 with fail
  clear a1 HR
  have a2 := HA.out.2.2.1
  go_upto_region 7 with fail
  clear a2
  have a3 := HA.out.2.2.2
  go_upto_region 9 with fail
  clear a3
  have H6 := Lib.hid (show Blk (w5.alloc (.cells zT.toArray 54)) w5.heap.size 54 zT ∧ Blk (w5.alloc (.cells zT.toArray 54)) (w.heap.size + 2) 54 zT ∧ Below w.heap.size w (w5.alloc (.cells zT.toArray 54)) ∧ w.heap.size + 3 ≤ w5.heap.size from ⟨Blk.new w5 _ _, H5.out.2.1.alloc _, H5.out.2.2.alloc H5.out.2.2.size _, H5.out.2.1.lt⟩)
  rw [zT_arr] at H6
  generalize w5.alloc (.cells #[.int .u8 0, .int .u8 0, .int .u8 0, .int .u8 0, .int .u8 0, .int .u8 0, .int .u8 0, .int .u8 0, .int .u8 0, .int .u8 0, .int .u8 0, .int .u8 0, .int .u8 0, .int .u8 0, .int .u8 0, .int .u8 0] 54) = w6 at H6 ⊢
  generalize w5.heap.size = P at H6 ⊢
  clear H5
  refine wp_region_held_drew (S := fun _ => True) (by kernel_rfl) (trivial) (fun hHeld => ?_)
  refine take_first (v := ?_) 0 rfl (by kernel_rfl) (by kernel_rfl) (by kernel_rfl) (fun _ _ _ h => h) (Or.inl ⟨by rfl, ?_⟩) (by assumption) ?_
  rotate_left
  · (intro w hSw; (try dsimp only at hSw); go_simp; try with_reducible rfl)
  (try simp only [Act.put, List.setIfInBounds_toArray, List.set_cons_zero, List.set_cons_succ])
  refine take_first (v := ?_) 1 rfl (by kernel_rfl) (by kernel_rfl) (by kernel_rfl) (fun _ _ _ h => h) (Or.inl ⟨by rfl, ?_⟩) (by assumption) ?_
  rotate_left
  · (intro w hSw; (try dsimp only at hSw); go_simp; try with_reducible rfl)
  (try simp only [Act.put, List.setIfInBounds_toArray, List.set_cons_zero, List.set_cons_succ])
  refine step_one 2 rfl (by kernel_rfl) (fun K hK => ?_)
  go_simp
  refine (HL.out.1 _).mono ?_
  rintro e w7 ⟨rfl, hown, hbw⟩
  have H7 := Lib.hid (And.intro (H6.out.1.drew.below hbw H6.out.1.lt) (And.intro (H6.out.2.1.drew.below hbw H6.out.2.1.lt) (And.intro (H6.out.2.2.1.drew.trans (hbw.mono H6.out.2.2.1.size)) H6.out.2.2.2)))
  have HSRC := Lib.hid (Rd.of_own hown).src
  clear hown hbw
  clear H6
  go_wp2_with fail
  refine hK.out _ _ (trivial) (fun hHeld => ?_)
  clear hK K
  (try simp only [Act.put, List.setIfInBounds_toArray, List.set_cons_zero, List.set_cons_succ])
  refine step_one 3 rfl (by kernel_rfl) (fun K hK => ?_)
  refine step_copy_bytes _ rfl (.tmp 48) (.tmp 50) 27 27 (by rfl) 5 Try.underlying27 (by kernel_rfl) P 0 8 16 ⟨_, 0, none⟩ 8 8 (by rfl) (by rfl) zT 54 H7.out.1 ((littleL f2 8).map u8v) (by rw [List.length_map, littleL_length]; rfl) HSRC.out (by rw [List.length_map, littleL_length]; exact (show 0 + 8 ≤ zT.length by decide)) (u8v_one _) ?_
  intro w8 hb8 hg8
  refine hK.out _ _ (trivial) (fun hHeld => ?_)
  clear hK K
  (try simp only [Act.put, List.setIfInBounds_toArray, List.set_cons_zero, List.set_cons_succ])
  clear HSRC
  refine wpAnyH_done (by kernel_rfl) ?_ _
  rw [half_one] at hb8
  have H8 := Lib.hid (show Blk w8 P 54 ((littleL f2 8 ++ List.replicate 8 0).map u8v) ∧ Blk w8 (w.heap.size + 2) 54 zT ∧ Below w.heap.size w w8 ∧ w.heap.size + 3 ≤ P from ⟨hb8, H7.out.2.1.grown hg8 (by have := H7.out.2.2.2; simp; omega), below_blk H7.out.2.2.1 hg8 (by have := H7.out.2.2.2; omega), H7.out.2.2.2⟩)
  clear hb8 hg8 H7 hHeld
  go_upto_region 10 with fail
  refine wp_region_held_drew (S := fun _ => True) (by kernel_rfl) (trivial) (fun hHeld => ?_)
  refine take_first (v := ?_) 0 rfl (by kernel_rfl) (by kernel_rfl) (by kernel_rfl) (fun _ _ _ h => h) (Or.inl ⟨by rfl, ?_⟩) (by assumption) ?_
  rotate_left
  · (intro w hSw; (try dsimp only at hSw); go_simp; try with_reducible rfl)
  (try simp only [Act.put, List.setIfInBounds_toArray, List.set_cons_zero, List.set_cons_succ])
  refine take_first (v := ?_) 1 rfl (by kernel_rfl) (by kernel_rfl) (by kernel_rfl) (fun _ _ _ h => h) (Or.inl ⟨by rfl, ?_⟩) (by assumption) ?_
  rotate_left
  · (intro w hSw; (try dsimp only at hSw); go_simp; try with_reducible rfl)
  (try simp only [Act.put, List.setIfInBounds_toArray, List.set_cons_zero, List.set_cons_succ])
  refine step_one 2 rfl (by kernel_rfl) (fun K hK => ?_)
  go_simp
  refine (HL.out.2 _).mono ?_
  rintro e w9 ⟨rfl, hown, hbw⟩
  have H9 := Lib.hid (And.intro (H8.out.1.drew.below hbw H8.out.1.lt) (And.intro (H8.out.2.1.drew.below hbw H8.out.2.1.lt) (And.intro (H8.out.2.2.1.drew.trans (hbw.mono H8.out.2.2.1.size)) H8.out.2.2.2)))
  have HSRC := Lib.hid (Rd.of_own hown).src
  clear hown hbw
  clear H8
  go_wp2_with fail
  refine hK.out _ _ (trivial) (fun hHeld => ?_)
  clear hK K
  (try simp only [Act.put, List.setIfInBounds_toArray, List.set_cons_zero, List.set_cons_succ])
  refine step_one 3 rfl (by kernel_rfl) (fun K hK => ?_)
  refine step_copy_bytes _ rfl (.tmp 52) (.tmp 54) 27 27 (by rfl) 5 Try.underlying27 (by kernel_rfl) P 8 8 8 ⟨_, 0, none⟩ 8 8 (by rfl) (by rfl) ((littleL f2 8 ++ List.replicate 8 0).map u8v) 54 H9.out.1 ((littleL f3 8).map u8v) (by rw [List.length_map, littleL_length]; rfl) HSRC.out (by rw [List.length_map, littleL_length]; exact half_fit_8l f2) (u8v_one _) ?_
  intro w10 hb8 hg8
  refine hK.out _ _ (trivial) (fun hHeld => ?_)
  clear hK K
  (try simp only [Act.put, List.setIfInBounds_toArray, List.set_cons_zero, List.set_cons_succ])
  clear HSRC
  refine wpAnyH_done (by kernel_rfl) ?_ _
  rw [half_two] at hb8
  obtain ⟨lz, hlz⟩ : ∃ lz, littleL f2 8 ++ littleL f3 8 = lz := ⟨_, rfl⟩
  have HLZ := Lib.hid (show lz.length = 16 by rw [← hlz]; simp [littleL_length])
  rw [hlz] at hb8
  have HZ := Lib.hid hlz
  have H10 := Lib.hid (show Blk w10 P 54 (lz.map u8v) ∧ Blk w10 (w.heap.size + 2) 54 zT ∧ Below w.heap.size w w10 from ⟨hb8, H9.out.2.1.grown hg8 (by have := H9.out.2.2.2; simp; omega), below_blk H9.out.2.2.1 hg8 (by have := H9.out.2.2.2; omega)⟩)
  clear hb8 hg8 H9 hHeld hlz
  obtain ⟨ct, hct⟩ : ∃ ct, (lz.map u8v).toArray = ct := ⟨_, rfl⟩
  have HCT := Lib.hid hct
  clear hct
  go_wp2_with (first | (refine wpList_load_blk rfl 54 (.tmp 10) rfl P rfl 54 (lz.map u8v) H10.out.1 16 5 Try.underlying54 (cells16T lz HLZ.out) ?_; rw [HCT.out]) | (refine wpList_store_blk rfl 54 (.tmp 4) (.tmp 56) rfl (w.heap.size + 2) (lz.map u8v) rfl (by show Value.agg ct = _; rw [HCT.out]) 54 zT H10.out.2.1 (cells16T lz HLZ.out) (by rw [List.length_map, HLZ.out]; rfl) (u8v_one _) ?_; intro w9 hb9 hg9))
  exact bodyPost_ret (results_blk rfl _ _ (w.heap.size + 2) 54 (lz.map u8v) 16 5 rfl hb9 Try.underlying54 (cells16T lz HLZ.out)) rfl ⟨by rw [HZ.out], below_blk H10.out.2.2 hg9 (by omega)⟩
end Go.Proofs.Ytkbefhmgcodpaaa
namespace Go.Proofs.Ytkbefhmgcodpaaa
open Go.RowKit

def z17u : List Value := List.replicate 17 (.int .u8 0)
theorem z17u_arr : z17u.toArray = #[.int .u8 0, .int .u8 0, .int .u8 0, .int .u8 0, .int .u8 0, .int .u8 0, .int .u8 0, .int .u8 0, .int .u8 0, .int .u8 0, .int .u8 0, .int .u8 0, .int .u8 0, .int .u8 0, .int .u8 0, .int .u8 0, .int .u8 0] := rfl
theorem cells17u (l : List UInt8) (h : l.length = 17) : (Try.prog.info? 83).map (·.size) = some (l.map u8v).length := by
  rw [List.length_map, h]; kernel_rfl
theorem copied_row (l : List UInt8) : z17u.take 0 ++ l.map u8v ++ z17u.drop (0 + (l.map u8v).length) = (l ++ List.replicate (17 - l.length) 0).map u8v := by
  rw [List.take_zero, List.nil_append, List.map_append, List.length_map, Nat.zero_add, z17u, List.drop_replicate, List.map_replicate]
  rfl
theorem one_row (l : List UInt8) (h : l.length ≤ 16) : (l ++ List.replicate (17 - l.length) 0).set l.length 1 = bytesP l := by
  rw [List.set_append_right _ _ (Nat.le_refl _), Nat.sub_self, show 17 - l.length = (16 - l.length) + 1 by omega, List.replicate_succ, List.set_cons_zero]
  rfl
theorem cell16 {w : World} {g tw : Nat} (l : List UInt8) (hl : (bytesP l).length = 17) (ht : ((bytesP l).getD 16 0).toNat = tw) (h : Blk w g 83 ((bytesP l).map u8v)) : w.cell? ⟨g, 16, none⟩ = some (.int .u8 (tw : Int)) := by
  rw [h.cell 16, map_u8v_getElem? (bytesP l) 16 (by omega), ← ht, getD_lt (by omega)]

set_option maxRecDepth 100000 in
set_option maxHeartbeats 2000000 in
theorem numberOf_any (A : Option Addr) (n cap : Nat) (l : List UInt8) (hn0 : 0 < n) (hn : n ≤ 16) (w : World) (hr : Rd w w.heap.size A n l) :
    Calls Try.prog 53 #[.slice A n cap] w fun e w' => e = .returned (.agg ((numP l).map lv).toArray) ∧ Below w.heap.size w w' := by
  have hl : l.length = n := hr.1
  obtain ⟨sb, soff, rfl, hsb, hsc⟩ := hr.2 hn0
  have hlen := bytesP_length l (by omega)
  have top := topW_le l (by omega)
  have sc := split_any (lowW (bytesP l)) (highW (bytesP l)) (topW l) (take8_lt _) (take8_lt _) (by omega)
  obtain ⟨lz, hlz⟩ : ∃ lz, numP l = lz := ⟨_, rfl⟩
  rw [show splitN (lowW (bytesP l)) (highW (bytesP l)) (topW l) = lz from hlz] at sc
  have HZL := Lib.hid (show lz.length = 5 by rw [← hlz, numP, splitN_length])
  rw [hlz]
  obtain ⟨cz, hcz⟩ : ∃ cz, (lz.map lv).toArray = cz := ⟨_, rfl⟩
  rw [hcz] at sc ⊢
  have e1 : numL (((bytesP l).take 8).take 8) = lowW (bytesP l) := by rw [List.take_take]; rfl
  have e2 : numL ((((bytesP l).drop 8).take 8).take 8) = highW (bytesP l) := by rw [List.take_take]; rfl
  have htd : ((bytesP l).getD 16 0).toNat = topW l := rfl
  have hwt : IntKind.u64.wrap (topW l : Int) = (topW l : Int) := by rw [IntKind.wrap_u64]; omega
  generalize lowW (bytesP l) = lw at e1 sc
  generalize highW (bytesP l) = hw at e2 sc
  generalize topW l = tw at htd sc hwt
  have HSC := Lib.hid (And.intro sc hcz)
  have HN := Lib.hid (And.intro e1 (And.intro e2 (And.intro htd hwt)))
  have h0 := (Blk.new w 76 z5).alloc (.cells z17u.toArray 83)
  have h1 : Blk ((w.alloc (.cells z5.toArray 76)).alloc (.cells z17u.toArray 83)) (w.heap.size + 1) 83 z17u := Blk.new' _ (by simp) _ _
  have h2 : Below w.heap.size w ((w.alloc (.cells z5.toArray 76)).alloc (.cells z17u.toArray 83)) := ((Below.refl _ _).alloc (Nat.le_refl _) _).alloc (by simp) _
  have hs1 : ∀ j v, (l.map u8v)[j]? = some v → ((w.alloc (.cells z5.toArray 76)).alloc (.cells z17u.toArray 83)).cell? ((Addr.mk sb soff none).add j) = some v := by
    intro j v hv
    have hj : j < l.length := by simpa using (List.getElem?_eq_some_iff.1 hv).1
    rw [Go.WideShapes.add_plain, h2.cell (by exact hsb), hsc j hj]
    rw [map_u8v_getElem? l j hj] at hv
    exact hv
  rw [z5_arr, z17u_arr] at h0 h1 h2 hs1
  have HL := Lib.hid (And.intro hl hlen)
  have HS := Lib.hid hs1
  clear hl hlen hsc hs1 sc hcz hlz hr top e1 e2 htd hwt
  go_enter Try.func53, Try.ntmps53
  go_upto_region 2 with fail
  generalize ((w.alloc (.cells #[.int .u64 0, .int .u64 0, .int .u64 0, .int .u64 0, .int .u64 0] 76)).alloc (.cells #[.int .u8 0, .int .u8 0, .int .u8 0, .int .u8 0, .int .u8 0, .int .u8 0, .int .u8 0, .int .u8 0, .int .u8 0, .int .u8 0, .int .u8 0, .int .u8 0, .int .u8 0, .int .u8 0, .int .u8 0, .int .u8 0, .int .u8 0] 83)) = w1 at h0 h1 h2 HS ⊢
  have H1 := Lib.hid (And.intro h0 (And.intro h1 h2))
  clear h0 h1 h2
  go_upto_region 3 with (refine wpList_copy_bytes _ rfl (.tmp 4) (.tmp 5) 27 27 rfl 5 Try.underlying27 (by kernel_rfl) (w.heap.size + 1) 0 17 17 ⟨sb, soff, none⟩ n cap rfl rfl z17u 83 H1.out.2.1 (l.map u8v) (by rw [List.length_map, HL.out.1]; exact (Nat.min_eq_left (by omega)).symm) HS.out (by rw [List.length_map, HL.out.1]; show 0 + n ≤ 17; omega) (u8v_one _) ?_; intro w2 hb2 hg2)
  simp only [Act.put]
  rw [copied_row] at hb2
  have hk0 := H1.out.1.grown hg2 (by simp)
  have hk2 := below_blk H1.out.2.2 hg2 (by omega)
  have hlr : (l ++ List.replicate (17 - l.length) 0).length = 17 := by rw [List.length_append, List.length_replicate, HL.out.1]; omega
  have fx : ∃ u, w2.cell? ⟨w.heap.size + 1, n, none⟩ = some u := by
    rw [hb2.cell n]
    exact ⟨_, List.getElem?_eq_getElem (by rw [List.length_map, hlr]; omega)⟩
  obtain ⟨u, fx⟩ := fx
  have zx := hb2.frozen n
  have hset := hb2.set_ n (.int .u8 1)
  rw [show (.int .u8 1 : Value) = u8v 1 from rfl, ← List.map_set, ← HL.out.1, one_row l (by rw [HL.out.1]; exact hn), HL.out.1, show u8v 1 = (.int .u8 1 : Value) from rfl] at hset
  have H2 := Lib.hid (show Blk (w2.setCell ⟨w.heap.size + 1, n, none⟩ (.int .u8 1)) (w.heap.size + 1) 83 ((bytesP l).map u8v) ∧ Blk (w2.setCell ⟨w.heap.size + 1, n, none⟩ (.int .u8 1)) w.heap.size 76 z5 ∧ Below w.heap.size w (w2.setCell ⟨w.heap.size + 1, n, none⟩ (.int .u8 1)) from ⟨hset, hk0.far (by simp) _, hk2.setCell (by dsimp only; omega) _⟩)
  have bt : (n : Int) < 17 := by omega
  clear hb2 hg2 hk0 hk2 hlr hset H1 HS
  go_upto_region 4 with fail
  generalize w2.setCell ⟨w.heap.size + 1, n, none⟩ (.int .u8 1) = w3 at H2 ⊢
  clear fx zx bt
  have H3 := Lib.hid (show Blk w3 (w.heap.size + 1) 83 ((bytesP l).map u8v) ∧ Blk w3 w.heap.size 76 z5 ∧ Below w.heap.size w w3 from H2.out)
  clear H2
  refine wp_region_held_drew (S := fun w4 => Below w.heap.size w w4 ∧ Blk w4 (w.heap.size + 1) 83 ((bytesP l).map u8v) ∧ ∃ c : List Nat, c.length = 5 ∧ Blk w4 w.heap.size 76 (c.map lv)) (by kernel_rfl) (⟨H3.out.2.2.drew, H3.out.1.drew, ⟨List.replicate 5 0, rfl, H3.out.2.1.drew⟩⟩) (fun hHeld => ?_)
  refine take_first (v := ?_) 0 rfl (by kernel_rfl) (by kernel_rfl) (by kernel_rfl) (fun _ _ _ h => h) (Or.inl ⟨by rfl, ?_⟩) (by assumption) ?_
  rotate_left
  · (intro w hSw; (try dsimp only at hSw); go_simp; try with_reducible rfl)
  (try simp only [Act.put, List.setIfInBounds_toArray, List.set_cons_zero, List.set_cons_succ])
  refine take_first (v := ?_) 2 rfl (by kernel_rfl) (by kernel_rfl) (by kernel_rfl) (fun _ _ _ h => h) (Or.inl ⟨by rfl, ?_⟩) (by assumption) ?_
  rotate_left
  · (intro w hSw; (try dsimp only at hSw); go_simp; try with_reducible rfl)
  (try simp only [Act.put, List.setIfInBounds_toArray, List.set_cons_zero, List.set_cons_succ])
  refine take_first (v := ?_) 4 rfl (by kernel_rfl) (by kernel_rfl) (by kernel_rfl) (fun _ _ _ h => h) (Or.inl ⟨by rfl, ?_⟩) (by assumption) ?_
  rotate_left
  · (intro w hSw; (try dsimp only at hSw); go_simp; try with_reducible rfl)
  (try simp only [Act.put, List.setIfInBounds_toArray, List.set_cons_zero, List.set_cons_succ])
  refine take_first (v := .int .u8 (tw : Int)) 5 rfl (by kernel_rfl) (by kernel_rfl) (by kernel_rfl) (fun _ _ _ h => h) (Or.inl ⟨by rfl, by intro w5 hSw; have f16 := cell16 l HL.out.2 HN.out.2.2.1 hSw.2.1; go_simp⟩) (by assumption) ?_
  (try simp only [Act.put, List.setIfInBounds_toArray, List.set_cons_zero, List.set_cons_succ])
  refine take_first (v := ?_) 6 rfl (by kernel_rfl) (by kernel_rfl) (by kernel_rfl) (fun _ _ _ h => h) (Or.inl ⟨by rfl, ?_⟩) (by assumption) ?_
  rotate_left
  · (intro w hSw; (try dsimp only at hSw); go_simp; try with_reducible rfl)
  (try simp only [Act.put, List.setIfInBounds_toArray, List.set_cons_zero, List.set_cons_succ])
  refine step_one 1 rfl (by kernel_rfl) (fun K hK => ?_)
  go_simp
  refine (readLittle_any _ _ 8 17 _ (by omega) _ (by have := hHeld.2.1.rd 0 8 (by rw [HL.out.2]; omega); rwa [List.drop_zero] at this)).mono ?_
  rintro e w5 ⟨rfl, rfl⟩
  rw [HN.out.1]
  go_wp2_with fail
  refine hK.out _ _ (hHeld) (fun hHeld => ?_)
  clear hK K
  (try simp only [Act.put, List.setIfInBounds_toArray, List.set_cons_zero, List.set_cons_succ])
  refine step_one 3 rfl (by kernel_rfl) (fun K hK => ?_)
  go_simp
  refine (readLittle_any _ _ 8 9 _ (by omega) _ (hHeld.2.1.rd 8 8 (by rw [HL.out.2]; omega))).mono ?_
  rintro e w5 ⟨rfl, rfl⟩
  rw [HN.out.2.1]
  go_wp2_with fail
  refine hK.out _ _ (hHeld) (fun hHeld => ?_)
  clear hK K
  (try simp only [Act.put, List.setIfInBounds_toArray, List.set_cons_zero, List.set_cons_succ])
  refine step_one 7 rfl (by kernel_rfl) (fun K hK => ?_)
  go_simp
  (try rw [HN.out.2.2.2])
  refine (HSC.out.1 _).mono ?_
  rintro e w6 ⟨rfl, hb6⟩
  go_wp2_with fail
  refine hK.out _ _ (⟨hHeld.1.trans (hb6.mono hHeld.1.size), hHeld.2.1.below hb6 hHeld.2.1.lt, hHeld.2.2.imp fun c h => ⟨h.1, h.2.below hb6 h.2.lt⟩⟩) (fun hHeld => ?_)
  clear hK K
  (try simp only [Act.put, List.setIfInBounds_toArray, List.set_cons_zero, List.set_cons_succ])
  clear hb6
  refine step_one 8 rfl (by kernel_rfl) (fun K hK => ?_)
  obtain ⟨c9, hc9, hk9⟩ := hHeld.2.2
  refine step_store_blk _ rfl 76 (.tmp 2) (.tmp 17) rfl w.heap.size (lz.map lv) rfl (by show Value.agg cz = _; rw [HSC.out.2]) 76 (c9.map lv) hk9 (cells5 lz HZL.out) (by rw [List.length_map, List.length_map, HZL.out, hc9]) (lv_one _) ?_
  intro w9 hb9 hg9
  have hg9 := hg9
  refine hK.out _ _ (⟨below_blk hHeld.1 hg9 (Nat.le_refl _), hHeld.2.1.grown hg9 (by simp), ⟨lz, HZL.out, hb9⟩⟩) (fun hHeld => ?_)
  clear hK K
  (try simp only [Act.put])
  refine wpAnyH_done (by kernel_rfl) ?_ _
  go_wp2_with fail
  exact bodyPost_ret (results_blk rfl _ _ w.heap.size 76 (lz.map lv) 5 51 rfl hb9 Try.underlying76 (cells5 lz HZL.out)) rfl ⟨by rw [HSC.out.2], hHeld.1⟩
end Go.Proofs.Ytkbefhmgcodpaaa
namespace Go.Proofs.Ytkbefhmgcodpaaa
open Go.RowKit

/-- poly.Sum gives the authenticator -/
def SumC : Prop := ∀ (k : List UInt8), k.length = 32 → ∀ (D : Option Addr) (n cap : Nat) (l : List UInt8), n ≤ cap → cap ≤ maxLen → n ≤ 1000000 → ∀ w : World, Rd w w.heap.size D n l →
  Calls Try.prog 44 #[.agg (k.map u8v).toArray, .slice D n cap] w fun e w' => e = .returned (.agg ((tagL k l).map u8v).toArray) ∧ Below w.heap.size w w'
theorem tagL_length (k l : List UInt8) : (tagL k l).length = 16 := littleL_length _ _
theorem tag_same (l : List UInt8) (hl : l.length = 16) (w : World) : (Op.equalIn 10000 54 (.agg (l.map u8v).toArray) (.agg (l.map u8v).toArray)).run Try.prog w = .ok true w := by
  obtain ⟨i0, hi, _, hz1, _⟩ := info_parts Try.info5
  rw [run_key_eq 54 5 16 Try.underlying54 Try.underlying5 i0 hi hz1 l l hl hl]
  simp
theorem rd_marked (w : World) (t : TypeId) (l : List UInt8) (n : Nat) (hl : l.length = n) (fr : Nat × Nat) : Rd (w.alloc (.cells (l.map u8v).toArray t fr)) (w.heap.size + 1) (some ⟨w.heap.size, 0, none⟩) n l := by
  refine ⟨hl, fun _ => ⟨w.heap.size, 0, rfl, by omega, fun j hj => ?_⟩⟩
  rw [Nat.zero_add, World.cell?_alloc_mark]
  simpa using map_u8v_getElem? l j hj
end Go.Proofs.Ytkbefhmgcodpaaa
namespace Go.Proofs.Ytkbefhmgcodpaaa
open Go.RowKit

/-- one piece more -/
theorem acc_step (a : List Nat) (k data : List UInt8) (i : Nat) (hk : k.length = 32) (ht : tight a) (hv : val5 a % primeP = accI (rN k) data i) :
    tight (mulN (addS a (numP ((data.drop (16 * i)).take 16)) 5) (facN k)) ∧ val5 (mulN (addS a (numP ((data.drop (16 * i)).take 16)) 5) (facN k)) % primeP = accI (rN k) data (i + 1) := by
  have hlen : ((data.drop (16 * i)).take 16).length ≤ 16 := List.length_take_le 16 _
  obtain ⟨p, hp⟩ : ∃ p, (data.drop (16 * i)).take 16 = p := ⟨_, rfl⟩
  have hpi : pieceN data i = numL p + 256 ^ p.length := by rw [pieceN, hp]
  rw [hp] at hlen ⊢
  refine ⟨mulN_tight _ _ (sum_le a p ht hlen) (facN_le k), ?_⟩
  rw [mulN_val, addS_val _ _ ht.1, numP_val p hlen, facN_val k (by omega), accI, hpi]
  have e1 : (val5 a + (numL p + 256 ^ p.length)) % primeP = (accI (rN k) data i + (numL p + 256 ^ p.length)) % primeP := by
    rw [Nat.add_mod, hv, Nat.add_mod_mod]
  rw [Nat.mul_mod, e1, ← Nat.mul_mod]
theorem tight_zero : tight (List.replicate 5 0) ∧ val5 (List.replicate 5 0) % primeP = 0 := by
  have h0 : ∀ i, dg (List.replicate 5 0) i = 0 := fun i => by
    simp only [dg, List.getD, List.getElem?_replicate]
    split <;> simp
  refine ⟨⟨by simp, fun i => by rw [h0]; exact Nat.zero_le _⟩, ?_⟩
  have : val5 (List.replicate 5 0) = 0 := by
    unfold val5
    rw [sumTo_congr (g := fun _ => 0) 5 (fun i _ => by rw [h0, Nat.zero_mul]), sumTo_zero]
  rw [this, Nat.zero_mod]

set_option maxRecDepth 100000 in
set_option maxHeartbeats 8000000 in
theorem sumC : SumC := by
  intro k hk D n cap l hnc hcm hn1 w hr
  have FC := factor_any k hk
  obtain ⟨fl, hfl⟩ : ∃ fl, facN k = fl := ⟨_, rfl⟩
  have hfd : ∀ i, dg fl i ≤ 67108863 := by rw [← hfl]; exact facN_le k
  have hfll : fl.length = 5 := by rw [← hfl, facN, splitN_length]
  obtain ⟨ck, hck⟩ : ∃ ck, (k.map u8v).toArray = ck := ⟨_, rfl⟩
  obtain ⟨cf, hcf⟩ : ∃ cf, (fl.map lv).toArray = cf := ⟨_, rfl⟩
  rw [hck, hfl, hcf] at FC
  have FN := fun (a : List Nat) (ht : tight a) => finish_any a k ht hk
  rw [hck] at FN
  rw [hck]
  have h0 : Blk ((w.alloc (.cells ck 23)).alloc (.cells zT.toArray 54)) w.heap.size 23 (k.map u8v) := by rw [← hck]; exact (Blk.new w _ _).alloc _
  have h1 : Blk ((w.alloc (.cells ck 23)).alloc (.cells zT.toArray 54)) (w.heap.size + 1) 54 zT := Blk.new' _ (by simp) _ _
  have h2 : Below w.heap.size w ((w.alloc (.cells ck 23)).alloc (.cells zT.toArray 54)) := ((Below.refl _ _).alloc (Nat.le_refl _) _).alloc (by simp) _
  rw [zT_arr] at h0 h1 h2
  have HFC := Lib.hid FC
  have HFN := Lib.hid FN
  have HF := Lib.hid (And.intro hfl (And.intro hfd (And.intro hfll hcf)))
  have HK := Lib.hid (And.intro hk hck)
  have HR := Lib.hid hr
  clear FC FN hfl hfd hfll hcf hk hck hr
  go_enter Try.func44, Try.ntmps44
  go_upto_region 1 with fail
  generalize ((w.alloc (.cells ck 23)).alloc (.cells #[.int .u8 0, .int .u8 0, .int .u8 0, .int .u8 0, .int .u8 0, .int .u8 0, .int .u8 0, .int .u8 0, .int .u8 0, .int .u8 0, .int .u8 0, .int .u8 0, .int .u8 0, .int .u8 0, .int .u8 0, .int .u8 0] 54)) = w1 at h0 h1 h2 ⊢
  have H1 := Lib.hid (And.intro h0 (And.intro h1 h2))
  clear h0 h1 h2
  go_wp2_with (refine wpList_load_blk rfl 23 (.tmp 2) rfl w.heap.size rfl 23 (k.map u8v) H1.out.1 32 5 Try.underlying23 (cells32 k HK.out.1) ?_; rw [HK.out.2])
  refine (HFC.out _).mono ?_
  rintro e w2 ⟨rfl, hb2⟩
  have H2 := Lib.hid (And.intro (H1.out.1.below hb2 H1.out.1.lt) (And.intro (H1.out.2.1.below hb2 H1.out.2.1.lt) (H1.out.2.2.trans (hb2.mono H1.out.2.2.size))))
  clear hb2 H1
  go_upto_region 2 with (refine wpList_store_blk rfl 76 (.tmp 5) (.tmp 10) rfl w2.heap.size (fl.map lv) rfl (by show Value.agg cf = _; rw [HF.out.2.2.2]) 76 z5 (Blk.new w2 76 z5) (cells5 fl HF.out.2.2.1) (by rw [List.length_map, HF.out.2.2.1]; rfl) (lv_one _) ?_; intro w3 hb3 hg3)
  simp only [Act.put]
  have H3 := Lib.hid (show Blk w3 w2.heap.size 76 (fl.map lv) ∧ Blk w3 w.heap.size 23 (k.map u8v) ∧ Blk w3 (w.heap.size + 1) 54 zT ∧ Below w.heap.size w w3 from ⟨hb3, (H2.out.1.alloc _).grown hg3 (by have := H2.out.1.lt; simp; omega), (H2.out.2.1.alloc _).grown hg3 (by have := H2.out.2.1.lt; simp; omega), below_blk (H2.out.2.2.alloc H2.out.2.2.size _) hg3 H2.out.2.2.size⟩)
  have hP := H2.out.2.1.lt
  clear hb3 hg3 H2
  generalize w2.heap.size = P at H3 hP ⊢
  go_upto_region 3 with fail
  have hPQ := H3.out.1.lt
  have H4 := Lib.hid (show Blk (w3.alloc (.cells z5.toArray 76)) P 76 (fl.map lv) ∧ Blk (w3.alloc (.cells z5.toArray 76)) w3.heap.size 76 z5 ∧ Blk (w3.alloc (.cells z5.toArray 76)) w.heap.size 23 (k.map u8v) ∧ Blk (w3.alloc (.cells z5.toArray 76)) (w.heap.size + 1) 54 zT ∧ Below w.heap.size w (w3.alloc (.cells z5.toArray 76)) from ⟨H3.out.1.alloc _, Blk.new w3 _ _, H3.out.2.1.alloc _, H3.out.2.2.1.alloc _, H3.out.2.2.2.alloc H3.out.2.2.2.size _⟩)
  rw [z5_arr] at H4
  generalize w3.alloc (.cells #[.int .u64 0, .int .u64 0, .int .u64 0, .int .u64 0, .int .u64 0] 76) = w4 at H4 ⊢
  generalize w3.heap.size = Q at H4 hPQ ⊢
  clear H3
  have HPQ := Lib.hid (And.intro hP hPQ)
  clear hP hPQ
  go_wp2_with fail
  go_loopw [7, 8] (fun v _ wr => ∃ (i b : Nat) (a : List Nat), Hid (b = 16 * i ∧ tight a ∧ val5 a % primeP = accI (rN k) l i) ∧ b < n + 16 ∧ v = .int .i64 (b : Int) ∧ Blk wr P 76 (fl.map lv) ∧ Blk wr Q 76 (a.map lv) ∧ Blk wr w.heap.size 23 (k.map u8v) ∧ Blk wr (w.heap.size + 1) 54 zT ∧ Below w.heap.size w wr) (fun v _ _ => n + 16 - (intOf v).toNat)
  case atStart => exact ⟨0, 0, List.replicate 5 0, Lib.hid ⟨rfl, tight_zero.1, tight_zero.2⟩, by omega, rfl, H4.out.1, H4.out.2.1, H4.out.2.2.1, H4.out.2.2.2.1, H4.out.2.2.2.2⟩
  case round =>
    clear H4
    obtain ⟨i, b, a, HI, hbn, rfl, hp, hq, hkb, hg, hbel⟩ := hrel
    have HB := Lib.hid (And.intro hp (And.intro hq (And.intro hkb (And.intro hg hbel))))
    clear hp hq hkb hg hbel
    by_cases hlt : b < n
    · have dn : decide ((b : Int) < (n : Int)) = true := by simp; omega
      obtain ⟨m, hm⟩ : ∃ m, m = min (b + 16) n := ⟨_, rfl⟩
      have hbw : IntKind.i64.wrap ((b : Int) + 16) = (b : Int) + 16 := IntWalk.i64_in _ (by omega)
      have hmv : (if (n : Int) < (b : Int) + 16 then (n : Int) else (b : Int) + 16) = (m : Int) := by split <;> omega
      have hbm : b < m := by omega
      have hm16 : m - b ≤ 16 := by omega
      have hmn : m ≤ n := by omega
      have HM := Lib.hid hm
      clear hm
      go_upto_region 7 with fail
      clear hbw dn hmv
      obtain ⟨sb, soff, rfl, hsb, hsc⟩ := HR.out.2 (by omega)
      obtain ⟨pc, hpc⟩ : ∃ pc, (l.drop (16 * i)).take 16 = pc := ⟨_, rfl⟩
      have hrd : Rd wr w.heap.size (some ⟨sb, soff + b, none⟩) (m - b) pc := by
        have h1 := ((HR.out.drop b sb soff rfl (by omega)).take (m := m - b) (by omega)).below HB.out.2.2.2.2
        have hlen := HR.out.1
        have e : (l.drop b).take (m - b) = pc := by
          rw [← hpc, ← HI.out.1]
          have h2 := HM.out
          by_cases h16 : b + 16 ≤ n
          · rw [show m - b = 16 by omega]
          · rw [List.take_of_length_le (by rw [List.length_drop]; omega), List.take_of_length_le (by rw [List.length_drop]; omega)]
        rwa [e] at h1
      have hst := acc_step a k l i HK.out.1 HI.out.2.1 HI.out.2.2
      rw [hpc, HF.out.1] at hst
      have hpl : pc.length ≤ 16 := by rw [← hpc]; exact List.length_take_le 16 _
      have N1 := fun w' h => numberOf_any (some ⟨sb, soff + b, none⟩) (m - b) (cap - b) pc (by omega) hm16 w' h
      have hsl := sum_le a pc HI.out.2.1 hpl
      have hal : ∀ i, dg a i ≤ 4611686018427387904 := fun i => by have := HI.out.2.1.2 i; split at this <;> omega
      have hnl : ∀ i, dg (numP pc) i ≤ 4611686018427387904 := fun i => by have := numP_le pc hpl i; omega
      have N2 := add_any a (numP pc) ⟨HI.out.2.1.1, hal⟩ ⟨by rw [numP, splitN_length], hnl⟩
      have hsll : (addS a (numP pc) 5).length = 5 := by rw [addS_length]; exact HI.out.2.1.1
      have N3 := multiply_any (addS a (numP pc) 5) fl hsll hsl HF.out.2.2.1 HF.out.2.1
      have hnxl := mulN_length (addS a (numP pc) 5) fl
      obtain ⟨nx, hnx⟩ : ∃ nx, mulN (addS a (numP pc) 5) fl = nx := ⟨_, rfl⟩
      rw [hnx] at N3 hst hnxl
      obtain ⟨ca, hca⟩ : ∃ ca, (a.map lv).toArray = ca := ⟨_, rfl⟩
      obtain ⟨cp, hcp⟩ : ∃ cp, ((numP pc).map lv).toArray = cp := ⟨_, rfl⟩
      obtain ⟨cs, hcs⟩ : ∃ cs, ((addS a (numP pc) 5).map lv).toArray = cs := ⟨_, rfl⟩
      obtain ⟨cx, hcx⟩ : ∃ cx, (nx.map lv).toArray = cx := ⟨_, rfl⟩
      rw [hcp] at N1
      rw [hca, hcp, hcs] at N2
      rw [hcs, HF.out.2.2.2, hcx] at N3
      have HN := Lib.hid (And.intro N1 (And.intro N2 N3))
      have HX := Lib.hid (And.intro hca (And.intro hcx hnxl))
      have HST := Lib.hid hst
      have HRD := Lib.hid hrd
      clear N1 N2 N3 hca hcp hcs hcx hnx hnxl hsl hsll hal hnl hst hrd hpl hpc hsc
      have b1 : (b : Int) ≤ (m : Int) := by omega
      have b2 : (m : Int) ≤ (cap : Int) := by omega
      have b3 : ¬ cap = b := by omega
      have b4 : (m : Int) - (b : Int) = ((m - b : Nat) : Int) := by omega
      refine wp_region_held_drew (S := fun w4 => Below w.heap.size w w4 ∧ Blk w4 P 76 (fl.map lv)) (by kernel_rfl) (⟨HB.out.2.2.2.2.drew, HB.out.1.drew⟩) (fun hHeld => ?_)
      refine take_first (v := ?_) 1 rfl (by kernel_rfl) (by kernel_rfl) (by kernel_rfl) (fun _ _ _ h => h) (Or.inl ⟨by rfl, ?_⟩) (by assumption) ?_
      rotate_left
      · (intro w hSw; (try dsimp only at hSw); go_simp; try with_reducible rfl)
      (try simp only [Act.put, List.setIfInBounds_toArray, List.set_cons_zero, List.set_cons_succ])
      refine take_first (v := ?_) 2 rfl (by kernel_rfl) (by kernel_rfl) (by kernel_rfl) (fun _ _ _ h => h) (Or.inl ⟨by rfl, ?_⟩) (by assumption) ?_
      rotate_left
      · (intro w hSw; (try dsimp only at hSw); go_simp; try with_reducible rfl)
      (try simp only [Act.put, List.setIfInBounds_toArray, List.set_cons_zero, List.set_cons_succ])
      refine take_first (v := ?_) 3 rfl (by kernel_rfl) (by kernel_rfl) (by kernel_rfl) (fun _ _ _ h => h) (Or.inl ⟨by rfl, ?_⟩) (by assumption) ?_
      rotate_left
      · (intro w hSw; (try dsimp only at hSw); go_simp; try with_reducible rfl)
      (try simp only [Act.put, List.setIfInBounds_toArray, List.set_cons_zero, List.set_cons_succ])
      refine take_first (v := ?_) 4 rfl (by kernel_rfl) (by kernel_rfl) (by kernel_rfl) (fun _ _ _ h => h) (Or.inl ⟨by rfl, ?_⟩) (by assumption) ?_
      rotate_left
      · (intro w hSw; (try dsimp only at hSw); go_simp; try with_reducible rfl)
      (try simp only [Act.put, List.setIfInBounds_toArray, List.set_cons_zero, List.set_cons_succ])
      refine take_first (v := .agg cf) 7 rfl (by kernel_rfl) (by kernel_rfl) (by kernel_rfl) (fun _ _ _ h => h) (by rw [← HF.out.2.2.2]; exact yields_load_blk (by rfl) 76 (.tmp 5) rfl P rfl 76 (fl.map lv) (fun w' hb => hb.2) 5 51 Try.underlying76 (cells5 fl HF.out.2.2.1)) (by assumption) ?_
      (try simp only [Act.put, List.setIfInBounds_toArray, List.set_cons_zero, List.set_cons_succ])
      replace HB := Lib.hid (show Blk wr.drew P 76 (fl.map lv) ∧ Blk wr.drew Q 76 (a.map lv) ∧ Blk wr.drew w.heap.size 23 (k.map u8v) ∧ Blk wr.drew (w.heap.size + 1) 54 zT ∧ Below w.heap.size w wr.drew from ⟨HB.out.1.drew, HB.out.2.1.drew, HB.out.2.2.1.drew, HB.out.2.2.2.1.drew, HB.out.2.2.2.2.drew⟩)
      replace HRD := Lib.hid HRD.out.drew
      refine step_two 0 5 rfl rfl (by kernel_rfl) (fun K hK => ?_) (fun K hK => ?_)
      · refine step_load_blk rfl 76 (.tmp 6) rfl Q rfl 76 (a.map lv) HB.out.2.1 5 51 Try.underlying76 (cells5 a HI.out.2.1.1) ?_
        rw [HX.out.1]
        refine hK.out _ _ (And.intro HB.out.2.2.2.2 HB.out.1) (fun hHeld => ?_)
        clear hK K
        (try simp only [Act.put, List.setIfInBounds_toArray, List.set_cons_zero, List.set_cons_succ])
        refine step_one 5 rfl (by kernel_rfl) (fun K hK => ?_)
        go_simp
        refine (HN.out.1 _ (HRD.out.mono HB.out.2.2.2.2.size)).mono ?_
        rintro e w5 ⟨rfl, hb5⟩
        replace HRD := Lib.hid (HRD.out.below (hb5.mono HB.out.2.2.2.2.size))
        replace HB := Lib.hid (show Blk w5 P 76 (fl.map lv) ∧ Blk w5 Q 76 (a.map lv) ∧ Blk w5 w.heap.size 23 (k.map u8v) ∧ Blk w5 (w.heap.size + 1) 54 zT ∧ Below w.heap.size w w5 from ⟨HB.out.1.below hb5 HB.out.1.lt, HB.out.2.1.below hb5 HB.out.2.1.lt, HB.out.2.2.1.below hb5 HB.out.2.2.1.lt, HB.out.2.2.2.1.below hb5 HB.out.2.2.2.1.lt, HB.out.2.2.2.2.trans (hb5.mono HB.out.2.2.2.2.size)⟩)
        clear hb5
        go_wp2_with fail
        refine hK.out _ _ (And.intro HB.out.2.2.2.2 HB.out.1) (fun hHeld => ?_)
        clear hK K
        (try simp only [Act.put, List.setIfInBounds_toArray, List.set_cons_zero, List.set_cons_succ])
        refine step_one 6 rfl (by kernel_rfl) (fun K hK => ?_)
        go_simp
        refine (HN.out.2.1 _).mono ?_
        rintro e w6 ⟨rfl, hb⟩
        replace HB := Lib.hid (show Blk w6 P 76 (fl.map lv) ∧ Blk w6 Q 76 (a.map lv) ∧ Blk w6 w.heap.size 23 (k.map u8v) ∧ Blk w6 (w.heap.size + 1) 54 zT ∧ Below w.heap.size w w6 from ⟨HB.out.1.below hb HB.out.1.lt, HB.out.2.1.below hb HB.out.2.1.lt, HB.out.2.2.1.below hb HB.out.2.2.1.lt, HB.out.2.2.2.1.below hb HB.out.2.2.2.1.lt, HB.out.2.2.2.2.trans (hb.mono HB.out.2.2.2.2.size)⟩)
        clear hb
        go_wp2_with fail
        refine hK.out _ _ (And.intro HB.out.2.2.2.2 HB.out.1) (fun hHeld => ?_)
        clear hK K
        (try simp only [Act.put, List.setIfInBounds_toArray, List.set_cons_zero, List.set_cons_succ])
        refine step_one 8 rfl (by kernel_rfl) (fun K hK => ?_)
        go_simp
        refine (HN.out.2.2 _).mono ?_
        rintro e w7 ⟨rfl, hb⟩
        replace HB := Lib.hid (show Blk w7 P 76 (fl.map lv) ∧ Blk w7 Q 76 (a.map lv) ∧ Blk w7 w.heap.size 23 (k.map u8v) ∧ Blk w7 (w.heap.size + 1) 54 zT ∧ Below w.heap.size w w7 from ⟨HB.out.1.below hb HB.out.1.lt, HB.out.2.1.below hb HB.out.2.1.lt, HB.out.2.2.1.below hb HB.out.2.2.1.lt, HB.out.2.2.2.1.below hb HB.out.2.2.2.1.lt, HB.out.2.2.2.2.trans (hb.mono HB.out.2.2.2.2.size)⟩)
        clear hb
        go_wp2_with fail
        refine hK.out _ _ (And.intro HB.out.2.2.2.2 HB.out.1) (fun hHeld => ?_)
        clear hK K
        (try simp only [Act.put, List.setIfInBounds_toArray, List.set_cons_zero, List.set_cons_succ])
        refine step_one 9 rfl (by kernel_rfl) (fun K hK => ?_)
        refine step_store_blk _ rfl 76 (.tmp 6) (.tmp 30) rfl Q (nx.map lv) rfl (by show Value.agg cx = _; rw [HX.out.2.1]) 76 (a.map lv) HB.out.2.1 (cells5 nx HX.out.2.2) (by rw [List.length_map, List.length_map, HX.out.2.2, HI.out.2.1.1]) (lv_one _) ?_
        intro w8 hb8 hg8
        have HB8 := Lib.hid (show Blk w8 P 76 (fl.map lv) ∧ Blk w8 Q 76 (nx.map lv) ∧ Blk w8 w.heap.size 23 (k.map u8v) ∧ Blk w8 (w.heap.size + 1) 54 zT ∧ Below w.heap.size w w8 from ⟨HB.out.1.grown hg8 (by have := HPQ.out.2; simp; omega), hb8, HB.out.2.2.1.grown hg8 (by have := HPQ.out; simp; omega), HB.out.2.2.2.1.grown hg8 (by have := HPQ.out; simp; omega), below_blk HB.out.2.2.2.2 hg8 (by have := HPQ.out; omega)⟩)
        clear hb8 hg8 HB
        refine hK.out _ _ (And.intro HB8.out.2.2.2.2 HB8.out.1) (fun hHeld => ?_)
        clear hK K
        (try simp only [Act.put])
        refine wpAnyH_done (by kernel_rfl) ?_ _
        clear hHeld b1 b2 b3 b4
        go_wp2_with fail
        go_roundw
        case rel => exact ⟨i + 1, b + 16, nx, Lib.hid ⟨by have := HI.out.1; omega, HST.out.1, HST.out.2⟩, by omega, by go_num, HB8.out.1, HB8.out.2.1, HB8.out.2.2.1, HB8.out.2.2.2.1, HB8.out.2.2.2.2⟩
        case measure => simp [intOf]; omega
      · go_simp
        refine (HN.out.1 _ (HRD.out.mono HB.out.2.2.2.2.size)).mono ?_
        rintro e w5 ⟨rfl, hb5⟩
        replace HRD := Lib.hid (HRD.out.below (hb5.mono HB.out.2.2.2.2.size))
        replace HB := Lib.hid (show Blk w5 P 76 (fl.map lv) ∧ Blk w5 Q 76 (a.map lv) ∧ Blk w5 w.heap.size 23 (k.map u8v) ∧ Blk w5 (w.heap.size + 1) 54 zT ∧ Below w.heap.size w w5 from ⟨HB.out.1.below hb5 HB.out.1.lt, HB.out.2.1.below hb5 HB.out.2.1.lt, HB.out.2.2.1.below hb5 HB.out.2.2.1.lt, HB.out.2.2.2.1.below hb5 HB.out.2.2.2.1.lt, HB.out.2.2.2.2.trans (hb5.mono HB.out.2.2.2.2.size)⟩)
        clear hb5
        go_wp2_with fail
        refine hK.out _ _ (And.intro HB.out.2.2.2.2 HB.out.1) (fun hHeld => ?_)
        clear hK K
        (try simp only [Act.put, List.setIfInBounds_toArray, List.set_cons_zero, List.set_cons_succ])
        refine step_one 0 rfl (by kernel_rfl) (fun K hK => ?_)
        refine step_load_blk rfl 76 (.tmp 6) rfl Q rfl 76 (a.map lv) HB.out.2.1 5 51 Try.underlying76 (cells5 a HI.out.2.1.1) ?_
        rw [HX.out.1]
        refine hK.out _ _ (And.intro HB.out.2.2.2.2 HB.out.1) (fun hHeld => ?_)
        clear hK K
        (try simp only [Act.put, List.setIfInBounds_toArray, List.set_cons_zero, List.set_cons_succ])
        refine step_one 6 rfl (by kernel_rfl) (fun K hK => ?_)
        go_simp
        refine (HN.out.2.1 _).mono ?_
        rintro e w6 ⟨rfl, hb⟩
        replace HB := Lib.hid (show Blk w6 P 76 (fl.map lv) ∧ Blk w6 Q 76 (a.map lv) ∧ Blk w6 w.heap.size 23 (k.map u8v) ∧ Blk w6 (w.heap.size + 1) 54 zT ∧ Below w.heap.size w w6 from ⟨HB.out.1.below hb HB.out.1.lt, HB.out.2.1.below hb HB.out.2.1.lt, HB.out.2.2.1.below hb HB.out.2.2.1.lt, HB.out.2.2.2.1.below hb HB.out.2.2.2.1.lt, HB.out.2.2.2.2.trans (hb.mono HB.out.2.2.2.2.size)⟩)
        clear hb
        go_wp2_with fail
        refine hK.out _ _ (And.intro HB.out.2.2.2.2 HB.out.1) (fun hHeld => ?_)
        clear hK K
        (try simp only [Act.put, List.setIfInBounds_toArray, List.set_cons_zero, List.set_cons_succ])
        refine step_one 8 rfl (by kernel_rfl) (fun K hK => ?_)
        go_simp
        refine (HN.out.2.2 _).mono ?_
        rintro e w7 ⟨rfl, hb⟩
        replace HB := Lib.hid (show Blk w7 P 76 (fl.map lv) ∧ Blk w7 Q 76 (a.map lv) ∧ Blk w7 w.heap.size 23 (k.map u8v) ∧ Blk w7 (w.heap.size + 1) 54 zT ∧ Below w.heap.size w w7 from ⟨HB.out.1.below hb HB.out.1.lt, HB.out.2.1.below hb HB.out.2.1.lt, HB.out.2.2.1.below hb HB.out.2.2.1.lt, HB.out.2.2.2.1.below hb HB.out.2.2.2.1.lt, HB.out.2.2.2.2.trans (hb.mono HB.out.2.2.2.2.size)⟩)
        clear hb
        go_wp2_with fail
        refine hK.out _ _ (And.intro HB.out.2.2.2.2 HB.out.1) (fun hHeld => ?_)
        clear hK K
        (try simp only [Act.put, List.setIfInBounds_toArray, List.set_cons_zero, List.set_cons_succ])
        refine step_one 9 rfl (by kernel_rfl) (fun K hK => ?_)
        refine step_store_blk _ rfl 76 (.tmp 6) (.tmp 30) rfl Q (nx.map lv) rfl (by show Value.agg cx = _; rw [HX.out.2.1]) 76 (a.map lv) HB.out.2.1 (cells5 nx HX.out.2.2) (by rw [List.length_map, List.length_map, HX.out.2.2, HI.out.2.1.1]) (lv_one _) ?_
        intro w8 hb8 hg8
        have HB8 := Lib.hid (show Blk w8 P 76 (fl.map lv) ∧ Blk w8 Q 76 (nx.map lv) ∧ Blk w8 w.heap.size 23 (k.map u8v) ∧ Blk w8 (w.heap.size + 1) 54 zT ∧ Below w.heap.size w w8 from ⟨HB.out.1.grown hg8 (by have := HPQ.out.2; simp; omega), hb8, HB.out.2.2.1.grown hg8 (by have := HPQ.out; simp; omega), HB.out.2.2.2.1.grown hg8 (by have := HPQ.out; simp; omega), below_blk HB.out.2.2.2.2 hg8 (by have := HPQ.out; omega)⟩)
        clear hb8 hg8 HB
        refine hK.out _ _ (And.intro HB8.out.2.2.2.2 HB8.out.1) (fun hHeld => ?_)
        clear hK K
        (try simp only [Act.put])
        refine wpAnyH_done (by kernel_rfl) ?_ _
        clear hHeld b1 b2 b3 b4
        go_wp2_with fail
        go_roundw
        case rel => exact ⟨i + 1, b + 16, nx, Lib.hid ⟨by have := HI.out.1; omega, HST.out.1, HST.out.2⟩, by omega, by go_num, HB8.out.1, HB8.out.2.1, HB8.out.2.2.1, HB8.out.2.2.2.1, HB8.out.2.2.2.2⟩
        case measure => simp [intOf]; omega
    · have dn : decide ((b : Int) < (n : Int)) = false := by simp; omega
      have hi : (l.length + 15) / 16 = i := by have := HI.out.1; have := HR.out.1; omega
      have htg : littleL (val5 a % primeP + sN k) 16 = tagL k l := by rw [tagL, tagN, hi, HI.out.2.2]
      have FN := HFN.out a HI.out.2.1
      rw [htg] at FN
      obtain ⟨lz, hlz⟩ : ∃ lz, tagL k l = lz := ⟨_, rfl⟩
      have hzl : lz.length = 16 := by rw [← hlz]; exact tagL_length k l
      rw [hlz] at FN
      obtain ⟨ca, hca⟩ : ∃ ca, (a.map lv).toArray = ca := ⟨_, rfl⟩
      obtain ⟨ct, hct⟩ : ∃ ct, (lz.map u8v).toArray = ct := ⟨_, rfl⟩
      rw [hca, hct] at FN
      have HX := Lib.hid (And.intro hca (And.intro hct (And.intro hzl hlz)))
      have HN := Lib.hid FN
      clear hca hct hzl hlz FN htg hi
      go_wp2_with (first | (refine wpList_load_blk rfl 76 (.tmp 6) rfl Q rfl 76 (a.map lv) HB.out.2.1 5 51 Try.underlying76 (cells5 a HI.out.2.1.1) ?_; rw [HX.out.1]) | (refine wpList_load_blk rfl 23 (.tmp 2) rfl w.heap.size rfl 23 (k.map u8v) HB.out.2.2.1 32 5 Try.underlying23 (cells32 k HK.out.1) ?_; rw [HK.out.2]))
      refine (HN.out _).mono ?_
      rintro e w5 ⟨rfl, hb5⟩
      have HB5 := Lib.hid (And.intro (HB.out.2.2.2.1.below hb5 HB.out.2.2.2.1.lt) (HB.out.2.2.2.2.trans (hb5.mono HB.out.2.2.2.2.size)))
      clear hb5 HB
      go_wp2_with (refine wpList_store_blk rfl 54 (.tmp 4) (.tmp 33) rfl (w.heap.size + 1) (lz.map u8v) rfl (by show Value.agg ct = _; rw [HX.out.2.1]) 54 zT HB5.out.1 (cells16T lz HX.out.2.2.1) (by rw [List.length_map, HX.out.2.2.1]; rfl) (u8v_one _) ?_; intro w9 hb9 hg9)
      exact bodyPost_ret (results_blk rfl _ _ (w.heap.size + 1) 54 (lz.map u8v) 16 5 rfl hb9 Try.underlying54 (cells16T lz HX.out.2.2.1)) rfl ⟨by rw [HX.out.2.2.2], below_blk HB5.out.2 hg9 (by omega)⟩
end Go.Proofs.Ytkbefhmgcodpaaa
namespace Go.Proofs.Ytkbefhmgcodpaaa
open Go.RowKit

set_option maxRecDepth 100000 in
set_option maxHeartbeats 8000000 in
theorem tagOf_any (k nn : List UInt8) (hk : k.length = 32) (hn : nn.length = 12) (Ac Am : Option Addr) (nc cc nm cm : Nat) (c more : List UInt8) (hnc : nc ≤ 400000) (hnm : nm ≤ 400000) (w : World) (hrc : Rd w w.heap.size Ac nc c) (hrm : Rd w w.heap.size Am nm more) :
    Calls Try.prog 33 #[.agg (k.map u8v).toArray, .agg (nn.map u8v).toArray, .slice Ac nc cc, .slice Am nm cm] w fun e w' => e = .returned (.agg ((sealT k nn c more).map u8v).toArray) ∧ Below w.heap.size w w' := by
  have BC := block_any k nn hk hn 0
  rw [show ((0 : UInt32).toNat : Int) = 0 from rfl] at BC
  have PC := sumC (oneK k nn) (oneK_length k nn)
  obtain ⟨ck, hck⟩ : ∃ ck, (k.map u8v).toArray = ck := ⟨_, rfl⟩
  obtain ⟨cn, hcn⟩ : ∃ cn, (nn.map u8v).toArray = cn := ⟨_, rfl⟩
  obtain ⟨ok, hok⟩ : ∃ ok, ((oneK k nn).map u8v).toArray = ok := ⟨_, rfl⟩
  have hbl := blockL_len k 0 nn
  have hone : oneK k nn = (blockL k 0 nn).take 32 := rfl
  obtain ⟨bl, hble⟩ : ∃ bl, blockL k 0 nn = bl := ⟨_, rfl⟩
  rw [hble] at BC hbl hone
  obtain ⟨cb, hcb⟩ : ∃ cb, (bl.map u8v).toArray = cb := ⟨_, rfl⟩
  rw [hck, hcn, hcb] at BC
  rw [hok] at PC
  rw [hck, hcn]
  have h0 : Blk ((((w.alloc (.cells ck 23)).alloc (.cells cn 39)).alloc (.cells (aeZ 16).toArray 54)).alloc (.cells (aeZ 32).toArray 23)) w.heap.size 23 (k.map u8v) := by rw [← hck]; exact (((Blk.new w _ _).alloc _).alloc _).alloc _
  have h1 : Blk ((((w.alloc (.cells ck 23)).alloc (.cells cn 39)).alloc (.cells (aeZ 16).toArray 54)).alloc (.cells (aeZ 32).toArray 23)) (w.heap.size + 1) 39 (nn.map u8v) := by rw [← hcn]; exact ((Blk.new' (w.alloc (.cells ck 23)) (by simp) _ _).alloc _).alloc _
  have h2 : Blk ((((w.alloc (.cells ck 23)).alloc (.cells cn 39)).alloc (.cells (aeZ 16).toArray 54)).alloc (.cells (aeZ 32).toArray 23)) (w.heap.size + 2) 54 (aeZ 16) := (Blk.new' _ (by simp) _ _).alloc _
  have h4 : Blk ((((w.alloc (.cells ck 23)).alloc (.cells cn 39)).alloc (.cells (aeZ 16).toArray 54)).alloc (.cells (aeZ 32).toArray 23)) (w.heap.size + 3) 23 (aeZ 32) := Blk.new' _ (by simp) _ _
  have h3 : Below w.heap.size w ((((w.alloc (.cells ck 23)).alloc (.cells cn 39)).alloc (.cells (aeZ 16).toArray 54)).alloc (.cells (aeZ 32).toArray 23)) := ((((Below.refl _ _).alloc (Nat.le_refl _) _).alloc (by simp) _).alloc (by simp; omega) _).alloc (by simp; omega) _
  rw [aeZ16, aeZ32] at h0 h1 h2 h3 h4
  obtain ⟨MM, hMM⟩ : ∃ MM, (macL more c).length = MM := ⟨_, rfl⟩
  have HMM := Lib.hid hMM
  clear hMM
  obtain ⟨st, hst⟩ : ∃ st, sealT k nn c more = st := ⟨_, rfl⟩
  have hstl : st.length = 16 := by rw [← hst]; exact sealT_length _ _ _ _
  obtain ⟨cs, hcs⟩ : ∃ cs, (st.map u8v).toArray = cs := ⟨_, rfl⟩
  have HST := Lib.hid (And.intro hstl (And.intro hcs hst))
  clear hst hcs hstl
  have HRC := Lib.hid hrc
  have HRM := Lib.hid hrm
  have HC := Lib.hid (And.intro hck (And.intro hcn hcb))
  have HOK := Lib.hid hok
  have HL := Lib.hid (And.intro hk (And.intro hn (And.intro hbl hone)))
  have HBC2 := Lib.hid BC
  have HPC2 := Lib.hid PC
  clear hck hcn hcb hok hk hn hbl hone BC PC hrc hrm hble
  go_enter Try.func33, Try.ntmps33
  go_upto_region 2 with fail
  generalize ((((w.alloc (.cells ck 23)).alloc (.cells cn 39)).alloc (.cells #[.int .u8 0, .int .u8 0, .int .u8 0, .int .u8 0, .int .u8 0, .int .u8 0, .int .u8 0, .int .u8 0, .int .u8 0, .int .u8 0, .int .u8 0, .int .u8 0, .int .u8 0, .int .u8 0, .int .u8 0, .int .u8 0] 54)).alloc (.cells #[.int .u8 0, .int .u8 0, .int .u8 0, .int .u8 0, .int .u8 0, .int .u8 0, .int .u8 0, .int .u8 0, .int .u8 0, .int .u8 0, .int .u8 0, .int .u8 0, .int .u8 0, .int .u8 0, .int .u8 0, .int .u8 0, .int .u8 0, .int .u8 0, .int .u8 0, .int .u8 0, .int .u8 0, .int .u8 0, .int .u8 0, .int .u8 0, .int .u8 0, .int .u8 0, .int .u8 0, .int .u8 0, .int .u8 0, .int .u8 0, .int .u8 0, .int .u8 0] 23)) = w1 at h0 h1 h2 h3 h4 ⊢
  rw [show w.heap.size + 1 + 1 = w.heap.size + 2 from rfl, show w.heap.size + 2 + 1 = w.heap.size + 3 from rfl]
  have H1 := Lib.hid (And.intro h0 (And.intro h1 (And.intro h2 (And.intro h4 h3))))
  clear h0 h1 h2 h3 h4
  go_wp2_with (first | (refine wpList_load_blk rfl 23 (.tmp 4) rfl w.heap.size rfl 23 (k.map u8v) H1.out.1 32 5 Try.underlying23 (cells32 k HL.out.1) ?_; rw [HC.out.1]) | (refine wpList_load_blk rfl 39 (.tmp 5) rfl (w.heap.size + 1) rfl 39 (nn.map u8v) H1.out.2.1 12 5 Try.underlying39 (ae_cellsN nn HL.out.2.1) ?_; rw [HC.out.2.1]))
  refine (HBC2.out _).mono ?_
  rintro e w2 ⟨rfl, hb2⟩
  have H2 := Lib.hid (And.intro (H1.out.2.2.1.below hb2 H1.out.2.2.1.lt) (And.intro (H1.out.2.2.2.1.below hb2 H1.out.2.2.2.1.lt) (H1.out.2.2.2.2.trans (hb2.mono H1.out.2.2.2.2.size))))
  clear hb2 H1
  go_upto_region 3 with (refine wpList_store_blk rfl 63 (.tmp 10) (.tmp 13) rfl w2.heap.size (bl.map u8v) rfl (by show Value.agg cb = _; rw [HC.out.2.2]) 63 (aeZ 64) (Blk.new w2 63 (aeZ 64)) (ae_cells64 bl HL.out.2.2.1) (by rw [List.length_map, HL.out.2.2.1]; rfl) (u8v_one _) ?_; intro w3 hb3 hg3)
  simp only [Act.put]
  have H3 := Lib.hid (show Blk w3 w2.heap.size 63 (bl.map u8v) ∧ Blk w3 (w.heap.size + 2) 54 (aeZ 16) ∧ Blk w3 (w.heap.size + 3) 23 (aeZ 32) ∧ Below w.heap.size w w3 from ⟨hb3, (H2.out.1.alloc _).grown hg3 (by have := H2.out.1.lt; simp; omega), (H2.out.2.1.alloc _).grown hg3 (by have := H2.out.2.1.lt; simp; omega), below_blk (H2.out.2.2.alloc H2.out.2.2.size _) hg3 H2.out.2.2.size⟩)
  clear hb3 hg3 H2
  generalize w2.heap.size = P at H3 ⊢
  have HSRC := Lib.hid (show ∀ j v, ((oneK k nn).map u8v)[j]? = some v → w3.drew.cell? ((Addr.mk P 0 none).add j) = some v by
    have h := (H3.out.1.drew.rd 0 32 (by rw [HL.out.2.2.1]; omega)).src
    rw [List.drop_zero, ← HL.out.2.2.2] at h
    exact h)
  refine wp_region_held_drew (S := fun _ => True) (by kernel_rfl) (trivial) (fun hHeld => ?_)
  refine take_first (v := ?_) 0 rfl (by kernel_rfl) (by kernel_rfl) (by kernel_rfl) (fun _ _ _ h => h) (Or.inl ⟨by rfl, ?_⟩) (by assumption) ?_
  rotate_left
  · (intro w hSw; (try dsimp only at hSw); go_simp; try with_reducible rfl)
  (try simp only [Act.put, List.setIfInBounds_toArray, List.set_cons_zero, List.set_cons_succ])
  refine take_first (v := ?_) 1 rfl (by kernel_rfl) (by kernel_rfl) (by kernel_rfl) (fun _ _ _ h => h) (Or.inl ⟨by rfl, ?_⟩) (by assumption) ?_
  rotate_left
  · (intro w hSw; (try dsimp only at hSw); go_simp; try with_reducible rfl)
  (try simp only [Act.put, List.setIfInBounds_toArray, List.set_cons_zero, List.set_cons_succ])
  refine step_one 2 rfl (by kernel_rfl) (fun K hK => ?_)
  refine step_copy_bytes _ rfl (.tmp 14) (.tmp 15) 27 27 (by rfl) 5 Try.underlying27 (by kernel_rfl) (w.heap.size + 3) 0 32 32 ⟨P, 0, none⟩ 64 64 (by rfl) (by rfl) (aeZ 32) 23 H3.out.2.2.1.drew ((oneK k nn).map u8v) (by rw [List.length_map, oneK_length]; rfl) HSRC.out (by rw [List.length_map, oneK_length]; decide) (u8v_one _) ?_
  intro w6 hb6 hg6
  refine hK.out _ _ (trivial) (fun hHeld => ?_)
  clear hK K
  (try simp only [Act.put, List.setIfInBounds_toArray, List.set_cons_zero, List.set_cons_succ])
  refine wpAnyH_done (by kernel_rfl) ?_ _
  have hone6 : (aeZ 32).take 0 ++ (oneK k nn).map u8v ++ (aeZ 32).drop (0 + ((oneK k nn).map u8v).length) = (oneK k nn).map u8v := by
    rw [List.take_zero, List.nil_append, List.length_map, oneK_length, List.drop_of_length_le (by simp [aeZ]), List.append_nil]
  rw [hone6] at hb6
  have HB := Lib.hid (show Blk w6 (w.heap.size + 3) 23 ((oneK k nn).map u8v) ∧ Blk w6 (w.heap.size + 2) 54 (aeZ 16) ∧ Below w.heap.size w w6 from ⟨hb6, H3.out.2.1.drew.grown hg6 (by simp), below_blk H3.out.2.2.2.drew hg6 (by omega)⟩)
  clear hb6 hg6 hone6 H3 HSRC hHeld
  replace HRC := Lib.hid ((HRC.out.below HB.out.2.2).mono HB.out.2.2.size)
  replace HRM := Lib.hid ((HRM.out.below HB.out.2.2).mono HB.out.2.2.size)
  go_upto_region 4 with fail
  generalize hw7 : w6 = w7 at HB HRC HRM ⊢
  clear hw7
  refine wp_region_held_drew (S := fun w4 => Blk w4 (w.heap.size + 3) 23 ((oneK k nn).map u8v)) (by kernel_rfl) (HB.out.1.drew) (fun hHeld => ?_)
  replace HB := Lib.hid (show Blk w7.drew (w.heap.size + 3) 23 ((oneK k nn).map u8v) ∧ Blk w7.drew (w.heap.size + 2) 54 (aeZ 16) ∧ Below w.heap.size w w7.drew from ⟨HB.out.1.drew, HB.out.2.1.drew, HB.out.2.2.drew⟩)
  replace HRC := Lib.hid HRC.out.drew
  replace HRM := Lib.hid HRM.out.drew
  refine take_first (v := .agg ok) 0 rfl (by kernel_rfl) (by kernel_rfl) (by kernel_rfl) (fun _ _ _ h => h) (by rw [← HOK.out]; exact yields_load_blk (by rfl) 23 (.tmp 9) rfl (w.heap.size + 3) rfl 23 ((oneK k nn).map u8v) (fun w' hb => hb) 32 5 Try.underlying23 (cells32 _ (oneK_length k nn))) (by assumption) ?_
  (try simp only [Act.put, List.setIfInBounds_toArray, List.set_cons_zero, List.set_cons_succ])
  refine take_first (v := ?_) 1 rfl (by kernel_rfl) (by kernel_rfl) (by kernel_rfl) (fun _ _ _ h => h) (Or.inl ⟨by rfl, ?_⟩) (by assumption) ?_
  rotate_left
  · (intro w hSw; (try dsimp only at hSw); go_simp; try with_reducible rfl)
  (try simp only [Act.put, List.setIfInBounds_toArray, List.set_cons_zero, List.set_cons_succ])
  refine take_first (v := ?_) 2 rfl (by kernel_rfl) (by kernel_rfl) (by kernel_rfl) (fun _ _ _ h => h) (Or.inl ⟨by rfl, ?_⟩) (by assumption) ?_
  rotate_left
  · (intro w hSw; (try dsimp only at hSw); go_simp; try with_reducible rfl)
  (try simp only [Act.put, List.setIfInBounds_toArray, List.set_cons_zero, List.set_cons_succ])
  refine step_one 3 rfl (by kernel_rfl) (fun K hK => ?_)
  go_simp
  refine (tagData_any Ac Am nc cc nm cm c more (by omega) (by omega) _ HRC.out HRM.out MM HMM.out).mono ?_
  rintro e wa ⟨F1, d1, rfl, hf, q1, q2, q3, hb⟩
  replace HB := Lib.hid (show Blk wa (w.heap.size + 3) 23 ((oneK k nn).map u8v) ∧ Blk wa (w.heap.size + 2) 54 (aeZ 16) ∧ Below w.heap.size w wa from ⟨HB.out.1.below hb HB.out.1.lt, HB.out.2.1.below hb HB.out.2.1.lt, HB.out.2.2.trans (hb.mono HB.out.2.2.size)⟩)
  have R1 := Lib.hid hf
  clear hf hb
  go_wp2_with fail
  refine hK.out _ _ (HB.out.1) (fun hHeld => ?_)
  clear hK K
  (try simp only [Act.put, List.setIfInBounds_toArray, List.set_cons_zero, List.set_cons_succ])
  refine step_one 4 rfl (by kernel_rfl) (fun K hK => ?_)
  go_simp
  refine (HPC2.out F1 MM d1 _ q1 q2 q3 _ R1.out).mono ?_
  rintro e wb ⟨rfl, hb⟩
  replace HB := Lib.hid (show Blk wb (w.heap.size + 3) 23 ((oneK k nn).map u8v) ∧ Blk wb (w.heap.size + 2) 54 (aeZ 16) ∧ Below w.heap.size w wb from ⟨HB.out.1.below hb HB.out.1.lt, HB.out.2.1.below hb HB.out.2.1.lt, HB.out.2.2.trans (hb.mono HB.out.2.2.size)⟩)
  clear hb
  rw [show tagL (oneK k nn) (macL more c) = st from HST.out.2.2, HST.out.2.1]
  go_wp2_with fail
  refine hK.out _ _ (HB.out.1) (fun hHeld => ?_)
  clear hK K
  (try simp only [Act.put, List.setIfInBounds_toArray, List.set_cons_zero, List.set_cons_succ])
  refine step_one 5 rfl (by kernel_rfl) (fun K hK => ?_)
  refine step_store_blk _ rfl 54 (.tmp 8) (.tmp 21) rfl (w.heap.size + 2) (st.map u8v) rfl (by show Value.agg cs = _; rw [HST.out.2.1]) 54 (aeZ 16) HB.out.2.1 (ae_cellsT st HST.out.1) (by rw [List.length_map, HST.out.1]; rfl) (u8v_one _) ?_
  intro w9 hb9 hg9
  have hq9 := HB.out.1.grown hg9 (by simp)
  have hl9 := below_blk HB.out.2.2 hg9 (by omega)
  refine hK.out _ _ hq9 (fun hHeld => ?_)
  clear hK K
  (try simp only [Act.put])
  refine wpAnyH_done (by kernel_rfl) ?_ _
  go_wp2_with fail
  exact bodyPost_ret (results_blk rfl _ _ (w.heap.size + 2) 54 (st.map u8v) 16 5 rfl hb9 Try.underlying54 (ae_cellsT st HST.out.1)) rfl ⟨by rw [HST.out.2.2], hl9⟩
end Go.Proofs.Ytkbefhmgcodpaaa
namespace Go.Proofs.Ytkbefhmgcodpaaa
open Go.RowKit

theorem or_zero (a b : Nat) : a ||| b = 0 ↔ a = 0 ∧ b = 0 := Nat.or_eq_zero_iff
theorem xor_zero (a b : Nat) : a ^^^ b = 0 ↔ a = b := by
  constructor
  · intro h
    apply Nat.eq_of_testBit_eq
    intro i
    have := congrArg (fun x => x.testBit i) h
    simp only [Nat.testBit_xor, Nat.zero_testBit] at this
    simpa using this
  · rintro rfl
    simp
/-- one round of Equal -/
theorem equal_step (d : Nat) (a b : UInt8) (hd : d < 256) : ∃ d' : Nat, d' < 256 ∧ bits BinOp.or IntKind.u8 (d : Int) (bits BinOp.xor IntKind.u8 (a.toNat : Int) (b.toNat : Int)) = (d' : Int) ∧ (d' = 0 ↔ d = 0 ∧ a = b) := by
  have h1 := a.toNat_lt
  have h2 := b.toNat_lt
  have hx : a.toNat ^^^ b.toNat < 2 ^ 8 := Nat.xor_lt_two_pow h1 h2
  refine ⟨d ||| (a.toNat ^^^ b.toNat), Nat.or_lt_two_pow hd hx, ?_, ?_⟩
  · rw [u8_xor_nat _ _ (by omega) (by omega), u8_or_nat _ _ (by omega) (by omega)]
  · rw [or_zero, xor_zero, UInt8.toNat_inj]
theorem take_eq_step (la lb : List UInt8) (j : Nat) (ha : j < la.length) (hb : j < lb.length) : la.take (j + 1) = lb.take (j + 1) ↔ la.take j = lb.take j ∧ la[j] = lb[j] := by
  rw [List.take_succ_eq_append_getElem ha, List.take_succ_eq_append_getElem hb]
  constructor
  · intro h
    have h2 := List.append_inj h (by simp; omega)
    exact ⟨h2.1, by simpa using h2.2⟩
  · rintro ⟨h1, h2⟩
    rw [h1, h2]

set_option maxRecDepth 100000 in
theorem equal_any (B n n' c c' : Nat) (A A' : Option Addr) (la lb : List UInt8) (hn : n ≤ 1000000) (hn' : n' ≤ 1000000) (w : World) (hB : B ≤ w.heap.size) (ha : Rd w B A n la) (hb : Rd w B A' n' lb) :
    Calls Try.prog 35 #[.slice A n c, .slice A' n' c'] w fun e w' => e = .returned (.bool (la == lb)) ∧ Below w.heap.size w w' := by
  have hla : la.length = n := ha.1
  have hlb : lb.length = n' := hb.1
  have HA := Lib.hid ha
  have HB := Lib.hid hb
  have HLA := Lib.hid hla
  have HLB := Lib.hid hlb
  clear ha hb hla hlb
  by_cases hne : n = n'
  · subst hne
    go_enter Try.func35, Try.ntmps35
    go_wp2
    go_loopw [5, 14, 6] (fun d i _ wr => ∃ j dn : Nat, j ≤ n ∧ i = .int .i64 j ∧ dn < 256 ∧ d = .int .u8 dn ∧ (dn = 0 ↔ la.take j = lb.take j) ∧ Below w.heap.size w wr) (fun _ i _ _ => n - (intOf i).toNat)
    case atStart => exact ⟨0, 0, by omega, rfl, by omega, rfl, by simp, Below.refl _ _⟩
    case round =>
      obtain ⟨j, dn, hj, rfl, hd, rfl, hiff, hbl⟩ := hrel
      by_cases hlt : j < n
      · obtain ⟨b1, o1, rfl, hb1, hc1⟩ := HA.out.at_ (by omega)
        obtain ⟨b2, o2, rfl, hb2, hc2⟩ := HB.out.at_ (by omega)
        have hja : j < la.length := by have := HLA.out; omega
        have hjb : j < lb.length := by have := HLB.out; omega
        have q1 := (hbl.cell (p := ⟨b1, o1 + j, none⟩) (Nat.lt_of_lt_of_le hb1 hB)).trans (hc1 j hja)
        have q2 := (hbl.cell (p := ⟨b2, o2 + j, none⟩) (Nat.lt_of_lt_of_le hb2 hB)).trans (hc2 j hjb)
        clear hc1 hc2
        obtain ⟨d', hd', hbits, hz⟩ := equal_step dn la[j] lb[j] hd
        have HI := Lib.hid hiff
        have HZ := Lib.hid hz
        clear hiff hz
        go_wp2
        go_quiet (fail)
        go_wp2
        go_roundw
        case rel => exact ⟨j + 1, d', by omega, by go_num, hd', rfl, by rw [take_eq_step _ _ _ hja hjb, HZ.out, HI.out], below_drewN hbl _⟩
        case measure => simp [intOf]; omega
      · obtain rfl : j = n := by omega
        rw [List.take_of_length_le (by have := HLA.out; omega), List.take_of_length_le (by have := HLB.out; omega)] at hiff
        have hfin : ((dn : Int) == 0) = (la == lb) := by
          rw [Bool.eq_iff_iff, beq_iff_eq, beq_iff_eq, ← hiff]
          omega
        have HF := Lib.hid hfin
        clear hfin hiff
        go_wp2
        go_ret
        exact ⟨by rw [← HF.out]; rfl, hbl⟩
  · have hfin : (la == lb) = false := by
      rw [beq_eq_false_iff_ne]
      intro h
      have := HLA.out
      have := HLB.out
      rw [h] at *
      omega
    rw [hfin]
    have hne' : ((n : Int) == (n' : Int)) = false := by
      rw [beq_eq_false_iff_ne]; omega
    clear hfin
    go_enter Try.func35, Try.ntmps35
    go_wp2
    go_ret
    exact ⟨rfl, Below.refl _ _⟩
end Go.Proofs.Ytkbefhmgcodpaaa
namespace Go.Proofs.Ytkbefhmgcodpaaa
open Go.RowKit

theorem coJoin_two (g : Nat) (t : TypeId) (A1 A2 : Option Addr) (n1 c1 n2 c2 : Nat) (l1 l2 : List UInt8) (M : Nat) (hM : n1 + n2 = M) (hn : M ≤ 1000000) (w : World) (hb : Blk w g t [.slice A1 n1 c1, .slice A2 n2 c2])
    (h1 : Rd w w.heap.size A1 n1 l1) (h2 : Rd w w.heap.size A2 n2 l2) :
    Calls Try.prog 34 #[.slice (some ⟨g, 0, none⟩) 2 2] w fun e w' => ∃ A' c', e = .returned (.slice A' M c') ∧ w'.ownsRow w.heap.size 5 1 (.slice A' M c') M ((l1 ++ l2).map u8v) ∧ Below w.heap.size w w' := by
  have hf : flat [⟨A1, n1, c1, l1⟩, ⟨A2, n2, c2, l2⟩] 2 = l1 ++ l2 := by simp [flat]
  have hl : (l1 ++ l2).length = M := by simp only [List.length_append]; rw [h1.1, h2.1, hM]
  have hJ := coJoin_any w.heap.size 2 (some ⟨g, 0, none⟩) [⟨A1, n1, c1, l1⟩, ⟨A2, n2, c2, l2⟩] (by simp) (by show (flat _ 2).length ≤ _; rw [hf, hl]; exact hn) w (Nat.le_refl _) (fun _ => ⟨g, rfl, hb.lt, fun j hj => by
    rw [hb.cell]
    match j, hj with
    | 0, _ => exact ⟨rfl, h1⟩
    | 1, _ => exact ⟨rfl, h2⟩
    | j + 2, hj => exact absurd hj (by simp)⟩)
  refine hJ.mono ?_
  rintro e w' ⟨A', c', he, ho, hbl⟩
  have e2 : ([⟨A1, n1, c1, l1⟩, ⟨A2, n2, c2, l2⟩] : List Part).length = 2 := rfl
  rw [e2, hf, hl] at he ho
  exact ⟨A', c', he, ho, hbl⟩

set_option maxRecDepth 100000 in
set_option maxHeartbeats 4000000 in
theorem sealC : SealC := by
  intro k nn hk hn Ap Am np cp nm cm pl more _ _ _ _ hnp hnm w hrp hrm
  have XC := fun (w' : World) (h : Rd w' w'.heap.size Ap np pl) => xor_any k nn hk hn 1 w'.heap.size Ap np cp pl (by omega) w' (Nat.le_refl _) h
  have TC := fun (A : Option Addr) (c' : Nat) => tagOf_any k nn hk hn A Am np c' nm cm (xorL k 1 nn pl) more (by omega) (by omega)
  rw [show ((1 : UInt32).toNat : Int) = 1 from rfl] at XC
  obtain ⟨ck, hck⟩ : ∃ ck, (k.map u8v).toArray = ck := ⟨_, rfl⟩
  obtain ⟨cn, hcn⟩ : ∃ cn, (nn.map u8v).toArray = cn := ⟨_, rfl⟩
  rw [hck, hcn] at XC TC
  rw [hck, hcn]
  have h0 : Blk ((w.alloc (.cells ck 23)).alloc (.cells cn 39)) w.heap.size 23 (k.map u8v) := by rw [← hck]; exact (Blk.new w _ _).alloc _
  have h1 : Blk ((w.alloc (.cells ck 23)).alloc (.cells cn 39)) (w.heap.size + 1) 39 (nn.map u8v) := by rw [← hcn]; exact Blk.new' (w.alloc (.cells ck 23)) (by simp) _ _
  have h3 : Below w.heap.size w ((w.alloc (.cells ck 23)).alloc (.cells cn 39)) := ((Below.refl _ _).alloc (Nat.le_refl _) _).alloc (by simp) _
  have hst := sealT_length k nn (xorL k 1 nn pl) more
  have hse : xorL k 1 nn pl ++ sealT k nn (xorL k 1 nn pl) more = sealL k nn pl more := rfl
  generalize sealL k nn pl more = se at hse
  generalize sealT k nn (xorL k 1 nn pl) more = st at TC hst hse
  generalize xorL k 1 nn pl = xl at XC TC hse
  obtain ⟨cs, hcs⟩ : ∃ cs, (st.map u8v).toArray = cs := ⟨_, rfl⟩
  rw [hcs] at TC
  have HP := Lib.hid (hrp.below h3)
  have HM := Lib.hid (hrm.below h3)
  have HC := Lib.hid (And.intro hck hcn)
  have HL := Lib.hid (And.intro hk hn)
  have HS := Lib.hid (And.intro hst (And.intro hcs hse))
  have HXC2 := Lib.hid XC
  have HTC2 := Lib.hid TC
  clear hck hcn hk hn hst hcs hse XC TC hrp hrm
  go_enter Try.func22, Try.ntmps22
  go_upto_region 1 with fail
  generalize ((w.alloc (.cells ck 23)).alloc (.cells cn 39)) = w1 at h0 h1 h3 HP HM ⊢
  have hw1 := h3.size
  have H1 := Lib.hid (show Blk w1 w.heap.size 23 (k.map u8v) ∧ Blk w1 (w.heap.size + 1) 39 (nn.map u8v) ∧ Below w.heap.size w w1 from ⟨h0, h1, h3⟩)
  clear h0 h1 h3
  replace HP := Lib.hid (HP.out.mono H1.out.2.2.size)
  replace HM := Lib.hid (HM.out.mono H1.out.2.2.size)
  go_wp2_with (first | (refine wpList_load_blk rfl 23 (.tmp 4) rfl w.heap.size rfl 23 (k.map u8v) H1.out.1 32 5 Try.underlying23 (cells32 k HL.out.1) ?_; rw [HC.out.1]) | (refine wpList_load_blk rfl 39 (.tmp 5) rfl (w.heap.size + 1) rfl 39 (nn.map u8v) H1.out.2.1 12 5 Try.underlying39 (ae_cellsN nn HL.out.2) ?_; rw [HC.out.2]))
  refine (HXC2.out _ HP.out).mono ?_
  rintro e w2 ⟨g1, rfl, ho, hb⟩
  replace H1 := Lib.hid (show Blk w2 w.heap.size 23 (k.map u8v) ∧ Blk w2 (w.heap.size + 1) 39 (nn.map u8v) ∧ Below w.heap.size w w2 from ⟨H1.out.1.below hb H1.out.1.lt, H1.out.2.1.below hb H1.out.2.1.lt, H1.out.2.2.trans (hb.mono H1.out.2.2.size)⟩)
  have HO := Lib.hid (Rd.of_own ho)
  replace HM := Lib.hid ((HM.out.below hb).mono hb.size)
  clear ho hb HP
  go_wp2_with (first | (refine wpList_load_blk rfl 23 (.tmp 4) rfl w.heap.size rfl 23 (k.map u8v) H1.out.1 32 5 Try.underlying23 (cells32 k HL.out.1) ?_; rw [HC.out.1]) | (refine wpList_load_blk rfl 39 (.tmp 5) rfl (w.heap.size + 1) rfl 39 (nn.map u8v) H1.out.2.1 12 5 Try.underlying39 (ae_cellsN nn HL.out.2) ?_; rw [HC.out.2]))
  refine (HTC2.out (some ⟨g1, 0, none⟩) np _ HO.out HM.out).mono ?_
  rintro e w3 ⟨rfl, hb⟩
  have HO3 := Lib.hid (And.intro ((HO.out.below hb).mono hb.size) (H1.out.2.2.trans (hb.mono H1.out.2.2.size)))
  clear hb HO H1 HM
  go_upto_region 3 with (refine wpList_store_blk rfl 54 (.tmp 10) (.tmp 19) rfl w3.heap.size (st.map u8v) rfl (by show Value.agg cs = _; rw [HS.out.2.1]) 54 (aeZ 16) (Blk.new w3 54 (aeZ 16)) (ae_cellsT st HS.out.1) (by rw [List.length_map, HS.out.1]; rfl) (u8v_one _) ?_; intro w4 hb4 hg4)
  simp only [Act.put]
  have hb34 : Below w3.heap.size w3 w4 := Below.grown ((Below.refl _ _).alloc (Nat.le_refl _) (.cells (aeZ 16).toArray 54)) hg4 (by simp) (by intro k hk; injection hk with hk; omega)
  have HO4 := Lib.hid (And.intro ((HO3.out.1.below hb34).mono hb34.size) (And.intro (HO3.out.2.trans (hb34.mono HO3.out.2.size)) (blk_all hb4 HS.out.1)))
  clear hb4 hg4 hb34 HO3
  generalize w3.heap.size = P at HO4 ⊢
  go_wp2_with fail
  have hg := Blk.new w4 27 [Value.slice (some ⟨g1, 0, none⟩) np np, .slice (some ⟨P, 0, none⟩) 16 16]
  have hb : Below w4.heap.size w4 (w4.alloc (.cells [Value.slice (some ⟨g1, 0, none⟩) np np, .slice (some ⟨P, 0, none⟩) 16 16].toArray 27)) := (Below.refl _ _).alloc (Nat.le_refl _) _
  rw [show [Value.slice (some ⟨g1, 0, none⟩) np np, .slice (some ⟨P, 0, none⟩) 16 16].toArray = #[Value.slice (some ⟨g1, 0, none⟩) np np, .slice (some ⟨P, 0, none⟩) 16 16] from rfl] at hg hb
  have H5 := Lib.hid (And.intro hg (And.intro ((HO4.out.1.below hb).mono hb.size) (And.intro ((HO4.out.2.2.below hb).mono hb.size) (HO4.out.2.1.trans (hb.mono HO4.out.2.1.size)))))
  clear hg hb HO4
  generalize w4.alloc (.cells #[Value.slice (some ⟨g1, 0, none⟩) np np, .slice (some ⟨P, 0, none⟩) 16 16] 27) = w5 at H5 ⊢
  generalize w4.heap.size = g5 at H5 ⊢
  refine (coJoin_two g5 27 _ _ np np 16 16 xl st (np + 16) rfl (by omega) _ H5.out.1 H5.out.2.1 H5.out.2.2.1).mono ?_
  rintro e w6 ⟨A6, c6, rfl, ho, hb⟩
  rw [HS.out.2.2] at ho
  have HF := Lib.hid (And.intro (own_base ho H5.out.2.2.2.size) (H5.out.2.2.2.trans (hb.mono H5.out.2.2.2.size)))
  clear ho hb H5
  go_wp2
  go_ret
  exact ⟨_, _, rfl, HF.out.1, HF.out.2⟩

set_option maxRecDepth 100000 in
set_option maxHeartbeats 4000000 in
theorem openC : OpenC := by
  intro k nn hk hn As Am ns cs0 nm cm sl more hnc _hcm _ _ hns hnm w hrs hrm
  have hsl : sl.length = ns := hrs.1
  by_cases h16 : ns < 16
  · have ho : openL k nn sl more = ([], 2) := by rw [openL, if_pos (by omega)]
    rw [ho]
    have d16 : decide ((ns : Int) < 16) = true := by simp; omega
    have hB := Lib.hid (((Below.refl w.heap.size w).alloc (Nat.le_refl _) (.cells (k.map u8v).toArray 23)).alloc (by simp) (.cells (nn.map u8v).toArray 39))
    obtain ⟨ck, hck⟩ : ∃ ck, (k.map u8v).toArray = ck := ⟨_, rfl⟩
    obtain ⟨cn, hcn⟩ : ∃ cn, (nn.map u8v).toArray = cn := ⟨_, rfl⟩
    rw [hck, hcn] at hB
    rw [hck, hcn]
    clear hck hcn ho
    go_enter Try.func23, Try.ntmps23
    go_wp2_with fail
    exact bodyPost_ret (results_tmp2 rfl _ _ _) rfl ⟨_, 0, rfl, Rd.nil _ _ _, Nat.zero_le _, Nat.zero_le _, hB.out⟩
  · obtain ⟨m, hm⟩ : ∃ m, ns - 16 = m := ⟨_, rfl⟩
    have d16 : decide ((ns : Int) < 16) = false := by simp; omega
    have hsb : (ns : Int) - 16 = (m : Int) := by omega
    have hsw : IntKind.i64.wrap ((ns : Int) - 16) = (m : Int) := by rw [hsb]; exact IntWalk.i64_in _ (by omega)
    have b1 : (m : Int) ≤ (cs0 : Int) := by omega
    have b2 : ¬ cs0 = m := by omega
    have b3 : (m : Int) ≤ (ns : Int) := by omega
    obtain ⟨sb, soff, rfl, hsbl, _⟩ := hrs.2 (by omega)
    have ho : openL k nn sl more = if sealT k nn (sl.take m) more = sl.drop m then (xorL k 1 nn (sl.take m), 0) else ([], 6) := by rw [openL, if_neg (by omega), hsl, hm]
    have hr1 := hrs.take (m := m) (by omega)
    have hr2 := hrs.drop m sb soff rfl (by omega)
    rw [show ns - m = 16 by omega] at hr2
    have htl : (sl.drop m).length = 16 := hr2.1
    have hcl : (sl.take m).length = m := hr1.1
    have XC := fun (w' : World) (h : Rd w' w'.heap.size (some ⟨sb, soff, none⟩) m (sl.take m)) => xor_any k nn hk hn 1 w'.heap.size (some ⟨sb, soff, none⟩) m cs0 (sl.take m) (by omega) w' (Nat.le_refl _) h
    have TC := tagOf_any k nn hk hn (some ⟨sb, soff, none⟩) Am m cs0 nm cm (sl.take m) more (by omega) (by omega)
    rw [show ((1 : UInt32).toNat : Int) = 1 from rfl] at XC
    have hst := sealT_length k nn (sl.take m) more
    have hxl : (xorL k 1 nn (sl.take m)).length = m := by rw [xorL_length, hcl]
    obtain ⟨st, hste⟩ : ∃ st, sealT k nn (sl.take m) more = st := ⟨_, rfl⟩
    rw [hste] at TC hst ho
    generalize xorL k 1 nn (sl.take m) = xl at XC hxl ho
    generalize sl.take m = cl at XC TC hr1 hcl hste
    generalize sl.drop m = tl at hr2 htl ho
    obtain ⟨⟨ol, oe⟩, hoe⟩ : ∃ o, openL k nn sl more = o := ⟨_, rfl⟩
    rw [hoe] at ho ⊢
    have HOE := Lib.hid ho
    clear hste ho hrs hoe
    obtain ⟨cs, hcs⟩ : ∃ cs, (st.map u8v).toArray = cs := ⟨_, rfl⟩
    rw [hcs] at TC
    obtain ⟨ck, hck⟩ : ∃ ck, (k.map u8v).toArray = ck := ⟨_, rfl⟩
    obtain ⟨cn, hcn⟩ : ∃ cn, (nn.map u8v).toArray = cn := ⟨_, rfl⟩
    rw [hck, hcn] at XC TC
    rw [hck, hcn]
    have h0 : Blk ((w.alloc (.cells ck 23)).alloc (.cells cn 39)) w.heap.size 23 (k.map u8v) := by rw [← hck]; exact (Blk.new w _ _).alloc _
    have h1 : Blk ((w.alloc (.cells ck 23)).alloc (.cells cn 39)) (w.heap.size + 1) 39 (nn.map u8v) := by rw [← hcn]; exact Blk.new' (w.alloc (.cells ck 23)) (by simp) _ _
    have h3 : Below w.heap.size w ((w.alloc (.cells ck 23)).alloc (.cells cn 39)) := ((Below.refl _ _).alloc (Nat.le_refl _) _).alloc (by simp) _
    have HP := Lib.hid (hr1.below h3)
    have HT := Lib.hid (hr2.below h3)
    have HM := Lib.hid (hrm.below h3)
    have HC := Lib.hid (And.intro hck hcn)
    have HL := Lib.hid (And.intro hk hn)
    have HS := Lib.hid (And.intro hst (And.intro hcs (And.intro hcl (And.intro htl hxl))))
    have HXC2 := Lib.hid XC
    have HTC2 := Lib.hid TC
    have HSM := Lib.hid hm
    have HCM := Lib.hid (show m ≤ maxLen by omega)
    clear hck hcn hk hn hst hcs hcl htl hxl XC TC hr1 hr2 hrm hsl hm
    go_enter Try.func23, Try.ntmps23
    go_upto_region 1 with fail
    generalize ((w.alloc (.cells ck 23)).alloc (.cells cn 39)) = w1 at h0 h1 h3 HP HT HM ⊢
    have H1 := Lib.hid (show Blk w1 w.heap.size 23 (k.map u8v) ∧ Blk w1 (w.heap.size + 1) 39 (nn.map u8v) ∧ Below w.heap.size w w1 from ⟨h0, h1, h3⟩)
    clear h0 h1 h3
    replace HP := Lib.hid (HP.out.mono H1.out.2.2.size)
    replace HT := Lib.hid (HT.out.mono H1.out.2.2.size)
    replace HM := Lib.hid (HM.out.mono H1.out.2.2.size)
    go_wp2_with (first | (refine wpList_load_blk rfl 23 (.tmp 4) rfl w.heap.size rfl 23 (k.map u8v) H1.out.1 32 5 Try.underlying23 (cells32 k HL.out.1) ?_; rw [HC.out.1]) | (refine wpList_load_blk rfl 39 (.tmp 5) rfl (w.heap.size + 1) rfl 39 (nn.map u8v) H1.out.2.1 12 5 Try.underlying39 (ae_cellsN nn HL.out.2) ?_; rw [HC.out.2]))
    clear d16 hsb hsw b1
    refine (HTC2.out _ HP.out HM.out).mono ?_
    rintro e w2 ⟨rfl, hb⟩
    replace H1 := Lib.hid (show Blk w2 w.heap.size 23 (k.map u8v) ∧ Blk w2 (w.heap.size + 1) 39 (nn.map u8v) ∧ Below w.heap.size w w2 from ⟨H1.out.1.below hb H1.out.1.lt, H1.out.2.1.below hb H1.out.2.1.lt, H1.out.2.2.trans (hb.mono H1.out.2.2.size)⟩)
    replace HP := Lib.hid ((HP.out.below hb).mono hb.size)
    replace HT := Lib.hid ((HT.out.below hb).mono hb.size)
    clear hb HM
    go_upto_region 6 with (refine wpList_store_blk rfl 54 (.tmp 12) (.tmp 26) rfl w2.heap.size (st.map u8v) rfl (by show Value.agg cs = _; rw [HS.out.2.1]) 54 (aeZ 16) (Blk.new w2 54 (aeZ 16)) (ae_cellsT st HS.out.1) (by rw [List.length_map, HS.out.1]; rfl) (u8v_one _) ?_; intro w4 hb4 hg4)
    simp only [Act.put]
    have hb24 : Below w2.heap.size w2 w4 := Below.grown ((Below.refl _ _).alloc (Nat.le_refl _) (.cells (aeZ 16).toArray 54)) hg4 (by simp) (by intro k hk; injection hk with hk; omega)
    replace H1 := Lib.hid (show Blk w4 w.heap.size 23 (k.map u8v) ∧ Blk w4 (w.heap.size + 1) 39 (nn.map u8v) ∧ Below w.heap.size w w4 from ⟨H1.out.1.below hb24 H1.out.1.lt, H1.out.2.1.below hb24 H1.out.2.1.lt, H1.out.2.2.trans (hb24.mono H1.out.2.2.size)⟩)
    replace HP := Lib.hid ((HP.out.below hb24).mono hb24.size)
    replace HT := Lib.hid ((HT.out.below hb24).mono hb24.size)
    have HG := Lib.hid (blk_all hb4 HS.out.1)
    clear hb4 hg4 hb24
    generalize w2.heap.size = P at HG ⊢
    have e16 : ns - m = 16 := by have := HSM.out; omega
    by_cases hst : st = tl
    · have ho := HOE.out
      rw [if_pos hst] at ho
      injection ho with ho1 ho2
      subst ho1 ho2
      have hbe : (tl == st) = true := by rw [beq_iff_eq]; exact hst.symm
      refine wp_region_held_drew (S := fun w5 => Below w4.heap.size w4 w5) (by kernel_rfl) ((Below.refl w4.heap.size w4).drew) (fun hHeld => ?_)
      refine take_first (v := ?_) 0 rfl (by kernel_rfl) (by kernel_rfl) (by kernel_rfl) (fun _ _ _ h => h) (Or.inl ⟨by rfl, ?_⟩) (by assumption) ?_
      rotate_left
      · (intro w hSw; (try dsimp only at hSw); go_simp; try with_reducible rfl)
      (try simp only [Act.put, List.setIfInBounds_toArray, List.set_cons_zero, List.set_cons_succ])
      refine take_first (v := ?_) 1 rfl (by kernel_rfl) (by kernel_rfl) (by kernel_rfl) (fun _ _ _ h => h) (Or.inl ⟨by rfl, ?_⟩) (by assumption) ?_
      rotate_left
      · (intro w hSw; (try dsimp only at hSw); go_simp; try with_reducible rfl)
      (try simp only [Act.put, List.setIfInBounds_toArray, List.set_cons_zero, List.set_cons_succ])
      refine take_first (v := ?_) 2 rfl (by kernel_rfl) (by kernel_rfl) (by kernel_rfl) (fun _ _ _ h => h) (Or.inl ⟨by rfl, ?_⟩) (by assumption) ?_
      rotate_left
      · (intro w hSw; (try dsimp only at hSw); go_simp; try with_reducible rfl)
      (try simp only [Act.put, List.setIfInBounds_toArray, List.set_cons_zero, List.set_cons_succ])
      refine take_first (v := ?_) 3 rfl (by kernel_rfl) (by kernel_rfl) (by kernel_rfl) (fun _ _ _ h => h) (Or.inl ⟨by rfl, ?_⟩) (by assumption) ?_
      rotate_left
      · (intro w hSw; (try dsimp only at hSw); go_simp; try with_reducible rfl)
      (try simp only [Act.put, List.setIfInBounds_toArray, List.set_cons_zero, List.set_cons_succ])
      refine step_one 4 rfl (by kernel_rfl) (fun K hK => ?_)
      go_simp
      refine (equal_any w4.heap.size 16 16 (cs0 - m) 16 _ _ tl st (by omega) (by omega) w4.drew (Nat.le_refl _) HT.out.drew HG.out.drew).mono ?_
      rintro e w6 ⟨rfl, hb6⟩
      rw [hbe]
      replace H1 := Lib.hid (show Blk w6 w.heap.size 23 (k.map u8v) ∧ Blk w6 (w.heap.size + 1) 39 (nn.map u8v) ∧ Below w.heap.size w w6 from ⟨H1.out.1.drew.below hb6 H1.out.1.lt, H1.out.2.1.drew.below hb6 H1.out.2.1.lt, H1.out.2.2.drew.trans (hb6.mono H1.out.2.2.size)⟩)
      replace HP := Lib.hid ((HP.out.drew.below hb6).mono hb6.size)
      have hb7 : Below w4.heap.size w4 w6 := (Below.refl w4.heap.size w4).drew.trans hb6
      clear hb6
      go_wp2_with fail
      refine hK.out _ _ (hb7) (fun hHeld => ?_)
      clear hK K
      (try simp only [Act.put, List.setIfInBounds_toArray, List.set_cons_zero, List.set_cons_succ])
      refine take_first (v := ?_) 5 rfl (by kernel_rfl) (by kernel_rfl) (by kernel_rfl) (fun _ _ _ h => h) (Or.inl ⟨by rfl, ?_⟩) (by assumption) ?_
      rotate_left
      · (intro w hSw; (try dsimp only at hSw); go_simp; try with_reducible rfl)
      (try simp only [Act.put, List.setIfInBounds_toArray, List.set_cons_zero, List.set_cons_succ])
      refine wpAnyH_done (by kernel_rfl) ?_ _
      clear hb7
      clear HG HT hHeld HOE
      go_wp2_with (first | (refine wpList_load_blk rfl 23 (.tmp 4) rfl w.heap.size rfl 23 (k.map u8v) H1.out.1 32 5 Try.underlying23 (cells32 k HL.out.1) ?_; rw [HC.out.1]) | (refine wpList_load_blk rfl 39 (.tmp 5) rfl (w.heap.size + 1) rfl 39 (nn.map u8v) H1.out.2.1 12 5 Try.underlying39 (ae_cellsN nn HL.out.2) ?_; rw [HC.out.2]))
      refine (HXC2.out _ HP.out).mono ?_
      rintro e w8 ⟨g8, rfl, ho6, hb6⟩
      have HF := Lib.hid (And.intro (Rd.of_own ho6) (H1.out.2.2.trans (hb6.mono H1.out.2.2.size)))
      clear ho6 hb6 H1 HP
      go_wp2_with fail
      have hoL := HS.out.2.2.2.2
      exact bodyPost_ret (results_tmp2 rfl _ _ _) rfl ⟨_, m, by rw [hoL]; rfl, by rw [hoL]; exact HF.out.1, by rw [hoL]; exact Nat.le_refl _, HCM.out, HF.out.2⟩
    · have ho := HOE.out
      rw [if_neg hst] at ho
      injection ho with ho1 ho2
      subst ho1 ho2
      have hbe : (tl == st) = false := by rw [beq_eq_false_iff_ne]; exact fun h => hst h.symm
      refine wp_region_held_drew (S := fun w5 => Below w4.heap.size w4 w5) (by kernel_rfl) ((Below.refl w4.heap.size w4).drew) (fun hHeld => ?_)
      refine take_first (v := ?_) 0 rfl (by kernel_rfl) (by kernel_rfl) (by kernel_rfl) (fun _ _ _ h => h) (Or.inl ⟨by rfl, ?_⟩) (by assumption) ?_
      rotate_left
      · (intro w hSw; (try dsimp only at hSw); go_simp; try with_reducible rfl)
      (try simp only [Act.put, List.setIfInBounds_toArray, List.set_cons_zero, List.set_cons_succ])
      refine take_first (v := ?_) 1 rfl (by kernel_rfl) (by kernel_rfl) (by kernel_rfl) (fun _ _ _ h => h) (Or.inl ⟨by rfl, ?_⟩) (by assumption) ?_
      rotate_left
      · (intro w hSw; (try dsimp only at hSw); go_simp; try with_reducible rfl)
      (try simp only [Act.put, List.setIfInBounds_toArray, List.set_cons_zero, List.set_cons_succ])
      refine take_first (v := ?_) 2 rfl (by kernel_rfl) (by kernel_rfl) (by kernel_rfl) (fun _ _ _ h => h) (Or.inl ⟨by rfl, ?_⟩) (by assumption) ?_
      rotate_left
      · (intro w hSw; (try dsimp only at hSw); go_simp; try with_reducible rfl)
      (try simp only [Act.put, List.setIfInBounds_toArray, List.set_cons_zero, List.set_cons_succ])
      refine take_first (v := ?_) 3 rfl (by kernel_rfl) (by kernel_rfl) (by kernel_rfl) (fun _ _ _ h => h) (Or.inl ⟨by rfl, ?_⟩) (by assumption) ?_
      rotate_left
      · (intro w hSw; (try dsimp only at hSw); go_simp; try with_reducible rfl)
      (try simp only [Act.put, List.setIfInBounds_toArray, List.set_cons_zero, List.set_cons_succ])
      refine step_one 4 rfl (by kernel_rfl) (fun K hK => ?_)
      go_simp
      refine (equal_any w4.heap.size 16 16 (cs0 - m) 16 _ _ tl st (by omega) (by omega) w4.drew (Nat.le_refl _) HT.out.drew HG.out.drew).mono ?_
      rintro e w6 ⟨rfl, hb6⟩
      rw [hbe]
      replace H1 := Lib.hid (show Blk w6 w.heap.size 23 (k.map u8v) ∧ Blk w6 (w.heap.size + 1) 39 (nn.map u8v) ∧ Below w.heap.size w w6 from ⟨H1.out.1.drew.below hb6 H1.out.1.lt, H1.out.2.1.drew.below hb6 H1.out.2.1.lt, H1.out.2.2.drew.trans (hb6.mono H1.out.2.2.size)⟩)
      replace HP := Lib.hid ((HP.out.drew.below hb6).mono hb6.size)
      have hb7 : Below w4.heap.size w4 w6 := (Below.refl w4.heap.size w4).drew.trans hb6
      clear hb6
      go_wp2_with fail
      refine hK.out _ _ (hb7) (fun hHeld => ?_)
      clear hK K
      (try simp only [Act.put, List.setIfInBounds_toArray, List.set_cons_zero, List.set_cons_succ])
      refine take_first (v := ?_) 5 rfl (by kernel_rfl) (by kernel_rfl) (by kernel_rfl) (fun _ _ _ h => h) (Or.inl ⟨by rfl, ?_⟩) (by assumption) ?_
      rotate_left
      · (intro w hSw; (try dsimp only at hSw); go_simp; try with_reducible rfl)
      (try simp only [Act.put, List.setIfInBounds_toArray, List.set_cons_zero, List.set_cons_succ])
      refine wpAnyH_done (by kernel_rfl) ?_ _
      clear hb7
      have HF := Lib.hid H1.out.2.2
      clear HG HT hHeld HOE H1 HP
      go_wp2_with fail
      exact bodyPost_ret (results_tmp2 rfl _ _ _) rfl ⟨_, 0, rfl, Rd.nil _ _ _, Nat.zero_le _, Nat.zero_le _, HF.out⟩
end Go.Proofs.Ytkbefhmgcodpaaa
