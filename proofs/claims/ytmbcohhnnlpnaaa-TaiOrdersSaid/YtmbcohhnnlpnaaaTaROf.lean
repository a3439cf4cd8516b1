/-
  The contract of the reference's Of. No statement is proved here.
-/
import Derived.Test.YtmbcohhnnlpnaaaTaMath
import Derived.Test.YtmbcohhnnlpnaaaEnt
import Derived.Test.YtmbcohhnnlpnaaaWord
import Derived.Test.YtmbcohhnnlpnaaaRBig
import Derived.Deep.QuietTactic
import Derived.BigQuiet
import Derived.RegionTactic
import Derived.BigRegion
import Derived.Deep.RegionWith
import Derived.Deep.DeepCutAuto
import Derived.Outline
namespace Go.Proofs.Ytmbcohhnnlpnaaa
open Go.RowKit

theorem stampCells (l : List UInt8) (h : l.length = 12) : (Try.prog.info? 23).map (·.size) = some (l.map u8v).length := by
  rw [List.length_map, h]; kernel_rfl
theorem put_two (a b : List UInt8) (ha : a.length = 8) (hb : b.length = 4) : putL (putL (List.replicate 12 (0 : UInt8)) 0 a) 8 b = a ++ b := by
  have e1 : putL (List.replicate 12 (0 : UInt8)) 0 a = a ++ List.replicate 4 0 := by
    rw [putL, List.take_zero, List.nil_append, ha]; rfl
  rw [e1, putL, hb, List.take_append_of_le_length (by omega), List.take_of_length_le (by omega), List.drop_of_length_le (by rw [List.length_append, ha]; simp), List.append_nil]
theorem own_some {w : World} {base e n : Nat} {A : Option Addr} {c : Nat} {xs : List Value} (h : w.ownsRow base e 1 (.slice A n c) n xs) (hn : 0 < n) : ∃ g, A = some ⟨g, 0, none⟩ ∧ n ≤ c ∧ c ≤ maxLen := by
  obtain ⟨h1, h2, h3⟩ := own_addr h
  obtain ⟨g, e⟩ := h3 hn
  exact ⟨g, e, h1, h2⟩
set_option maxRecDepth 100000 in
set_option maxHeartbeats 8000000 in
theorem refOf_any (t : Int) (ht1 : -9223372036854775808 ≤ t) (ht2 : t ≤ 9223372036854775807) (w : World) :
    Calls Try.prog 7 #[.int .i64 t] w fun e w' => e = .returned (.agg ((stampL t).map u8v).toArray) ∧ Below w.heap.size w w' := by
  have HM := Lib.hid (show Mem w [blkE (w.heap.size + 1) 23 ((List.replicate 12 (0 : UInt8)).map u8v), blkE w.heap.size 23 (aeZ 12)] ((w.alloc (.cells #[.int .u8 0, .int .u8 0, .int .u8 0, .int .u8 0, .int .u8 0, .int .u8 0, .int .u8 0, .int .u8 0, .int .u8 0, .int .u8 0, .int .u8 0, .int .u8 0] 23)).alloc (.cells #[.int .u8 0, .int .u8 0, .int .u8 0, .int .u8 0, .int .u8 0, .int .u8 0, .int .u8 0, .int .u8 0, .int .u8 0, .int .u8 0, .int .u8 0, .int .u8 0] 23)) from ((Mem.nil w).alloc rfl 23 #[.int .u8 0, .int .u8 0, .int .u8 0, .int .u8 0, .int .u8 0, .int .u8 0, .int .u8 0, .int .u8 0, .int .u8 0, .int .u8 0, .int .u8 0, .int .u8 0] (aeZ 12) rfl).alloc (by simp) 23 #[.int .u8 0, .int .u8 0, .int .u8 0, .int .u8 0, .int .u8 0, .int .u8 0, .int .u8 0, .int .u8 0, .int .u8 0, .int .u8 0, .int .u8 0, .int .u8 0] ((List.replicate 12 (0 : UInt8)).map u8v) rfl)
  have HSL := Lib.hid (stampL_length t)
  obtain ⟨so, hso⟩ : ∃ x, stampL t = x := ⟨_, rfl⟩
  rw [hso] at HSL ⊢
  obtain ⟨co, hco⟩ : ∃ x, (so.map u8v).toArray = x := ⟨_, rfl⟩
  have HCO := Lib.hid hco
  rw [hco]
  clear hco
  by_cases hneg : t < 0
  · have hz : so = List.replicate 12 (0 : UInt8) := by rw [← hso, stampL, if_pos (.inl hneg)]
    have s1 : decide (t < 0) = true := by simpa using hneg
    replace HM := Lib.hid (show Mem w [blkE (w.heap.size + 1) 23 ((so).map u8v), blkE w.heap.size 23 (aeZ 12)] ((w.alloc (.cells #[.int .u8 0, .int .u8 0, .int .u8 0, .int .u8 0, .int .u8 0, .int .u8 0, .int .u8 0, .int .u8 0, .int .u8 0, .int .u8 0, .int .u8 0, .int .u8 0] 23)).alloc (.cells #[.int .u8 0, .int .u8 0, .int .u8 0, .int .u8 0, .int .u8 0, .int .u8 0, .int .u8 0, .int .u8 0, .int .u8 0, .int .u8 0, .int .u8 0, .int .u8 0] 23)) from by rw [hz]; exact HM.out)
    clear hz hso
    go_enter Try.func7, Try.ntmps7
    go_upto_region 2 with fail
    generalize ((w.alloc (.cells #[.int .u8 0, .int .u8 0, .int .u8 0, .int .u8 0, .int .u8 0, .int .u8 0, .int .u8 0, .int .u8 0, .int .u8 0, .int .u8 0, .int .u8 0, .int .u8 0] 23)).alloc (.cells #[.int .u8 0, .int .u8 0, .int .u8 0, .int .u8 0, .int .u8 0, .int .u8 0, .int .u8 0, .int .u8 0, .int .u8 0, .int .u8 0, .int .u8 0, .int .u8 0] 23)) = w1 at HM ⊢
    go_wp2_with (first | (refine wpList_load_blk rfl 23 (.tmp 3) rfl (w.heap.size + 1) rfl 23 (so.map u8v) (HM.out.blk 0 rfl) 12 5 Try.underlying23 (stampCells so HSL.out) ?_; rw [HCO.out]) | (refine wpList_store_blk rfl 23 (.tmp 2) (.tmp 10) rfl w.heap.size (so.map u8v) rfl (by show Value.agg co = _; rw [HCO.out]) 23 (aeZ 12) (HM.out.blk 1 rfl) (stampCells so HSL.out) (by rw [List.length_map, HSL.out]; rfl) (u8v_one _) ?_; intro w9 hb9 hg9))
    exact bodyPost_ret (results_blk rfl _ _ w.heap.size 23 (so.map u8v) 12 5 rfl hb9 Try.underlying23 (stampCells so HSL.out)) rfl ⟨by rw [HCO.out], (HM.out.put 1 rfl _ hg9 hb9).bel⟩
  · by_cases hbig : 1099511627776 < t
    · have hz : so = List.replicate 12 (0 : UInt8) := by rw [← hso, stampL, if_pos (.inr hbig)]
      have s1 : decide (t < 0) = false := by simpa using hneg
      have s2 : decide (t > 1099511627776) = true := by simpa using hbig
      replace HM := Lib.hid (show Mem w [blkE (w.heap.size + 1) 23 ((so).map u8v), blkE w.heap.size 23 (aeZ 12)] ((w.alloc (.cells #[.int .u8 0, .int .u8 0, .int .u8 0, .int .u8 0, .int .u8 0, .int .u8 0, .int .u8 0, .int .u8 0, .int .u8 0, .int .u8 0, .int .u8 0, .int .u8 0] 23)).alloc (.cells #[.int .u8 0, .int .u8 0, .int .u8 0, .int .u8 0, .int .u8 0, .int .u8 0, .int .u8 0, .int .u8 0, .int .u8 0, .int .u8 0, .int .u8 0, .int .u8 0] 23)) from by rw [hz]; exact HM.out)
      clear hz hso
      go_enter Try.func7, Try.ntmps7
      go_upto_region 2 with fail
      generalize ((w.alloc (.cells #[.int .u8 0, .int .u8 0, .int .u8 0, .int .u8 0, .int .u8 0, .int .u8 0, .int .u8 0, .int .u8 0, .int .u8 0, .int .u8 0, .int .u8 0, .int .u8 0] 23)).alloc (.cells #[.int .u8 0, .int .u8 0, .int .u8 0, .int .u8 0, .int .u8 0, .int .u8 0, .int .u8 0, .int .u8 0, .int .u8 0, .int .u8 0, .int .u8 0, .int .u8 0] 23)) = w1 at HM ⊢
      go_wp2_with (first | (refine wpList_load_blk rfl 23 (.tmp 3) rfl (w.heap.size + 1) rfl 23 (so.map u8v) (HM.out.blk 0 rfl) 12 5 Try.underlying23 (stampCells so HSL.out) ?_; rw [HCO.out]) | (refine wpList_store_blk rfl 23 (.tmp 2) (.tmp 10) rfl w.heap.size (so.map u8v) rfl (by show Value.agg co = _; rw [HCO.out]) 23 (aeZ 12) (HM.out.blk 1 rfl) (stampCells so HSL.out) (by rw [List.length_map, HSL.out]; rfl) (u8v_one _) ?_; intro w9 hb9 hg9))
      exact bodyPost_ret (results_blk rfl _ _ w.heap.size 23 (so.map u8v) 12 5 rfl hb9 Try.underlying23 (stampCells so HSL.out)) rfl ⟨by rw [HCO.out], (HM.out.put 1 rfl _ hg9 hb9).bel⟩
    · obtain ⟨n, rfl⟩ : ∃ n : Nat, t = (n : Int) := ⟨t.toNat, by omega⟩
      have s1 : decide ((n : Int) < 0) = false := by simp
      have s2 : decide ((n : Int) > 1099511627776) = false := by simpa using hbig
      have hn : n ≤ 1099511627776 := by omega
      rw [stampL_nat n hn] at hso
      obtain ⟨q, hq⟩ : ∃ q, n / 1000 = q := ⟨_, rfl⟩
      obtain ⟨r, hr⟩ : ∃ r, n % 1000 = r := ⟨_, rfl⟩
      obtain ⟨S, hS⟩ : ∃ S, epochN + q = S := ⟨_, rfl⟩
      obtain ⟨N, hN⟩ : ∃ N, r * 1000000 = N := ⟨_, rfl⟩
      have hqb : q ≤ 1099511627 := by omega
      have hrb : r < 1000 := by omega
      have HEQ := Lib.hid (show bigL S 8 ++ bigL N 4 = so by rw [← hso, stampN, hq, hr, hS, hN])
      unfold epochN at hS
      have hSb : S < 18446744073709551616 := by omega
      have hNb : N < 18446744073709551616 := by omega
      have B8 := Lib.hid (refBig_any S hSb 8 (by omega) (by omega))
      have B4 := Lib.hid (refBig_any N hNb 4 (by omega) (by omega))
      have q1 : ((n : Int)).tdiv 1000 = (q : Int) := by rw [Int.tdiv_eq_ediv_of_nonneg (by omega)]; omega
      have q2 : (n : Int) / 1000 = (q : Int) := by omega
      have q0 : IntKind.i64.wrap (q : Int) = (q : Int) := IntWalk.i64_in _ (by omega)
      have r0 : IntKind.i64.wrap (r : Int) = (r : Int) := IntWalk.i64_in _ (by omega)
      have q3 : IntKind.u64.wrap (q : Int) = (q : Int) := by rw [IntKind.wrap_u64]; omega
      have q4 : IntKind.u64.wrap (4611686018427387914 + (q : Int)) = (S : Int) := by rw [IntKind.wrap_u64]; omega
      have r1 : ((n : Int)).tmod 1000 = (r : Int) := by rw [Int.tmod_eq_emod_of_nonneg (by omega)]; omega
      have r2 : (n : Int) % 1000 = (r : Int) := by omega
      have r3 : IntKind.u64.wrap (r : Int) = (r : Int) := by rw [IntKind.wrap_u64]; omega
      have r4 : IntKind.u64.wrap ((r : Int) * 1000000) = (N : Int) := by rw [IntKind.wrap_u64]; omega
      have q5 : (q : Int) % 18446744073709551616 = (q : Int) := by omega
      have q6 : (4611686018427387914 + (q : Int)) % 18446744073709551616 = (S : Int) := by omega
      have r5 : (r : Int) % 18446744073709551616 = (r : Int) := by omega
      have r6 : ((r : Int) * 1000000) % 18446744073709551616 = (N : Int) := by omega
      clear hq hr hS hN hso hqb hrb hSb hNb
      go_enter Try.func7, Try.ntmps7
      go_upto_region 2 with fail
      generalize ((w.alloc (.cells #[.int .u8 0, .int .u8 0, .int .u8 0, .int .u8 0, .int .u8 0, .int .u8 0, .int .u8 0, .int .u8 0, .int .u8 0, .int .u8 0, .int .u8 0, .int .u8 0] 23)).alloc (.cells #[.int .u8 0, .int .u8 0, .int .u8 0, .int .u8 0, .int .u8 0, .int .u8 0, .int .u8 0, .int .u8 0, .int .u8 0, .int .u8 0, .int .u8 0, .int .u8 0] 23)) = w1 at HM ⊢
      go_upto_region 4 with fail
      refine wp_region_held_drew (S := fun W' => Mem w [blkE w.heap.size 23 (aeZ 12)] W') (by kernel_rfl) (((HM.out.erase 0)).drew) (fun hHeld => ?_)
      replace HM := Lib.hid HM.out.drew
      generalize w1.drew = wd1 at HM hHeld ⊢
      refine take_first (v := ?_) 0 rfl (by kernel_rfl) (by kernel_rfl) (by kernel_rfl) (fun _ _ _ h => h) (Or.inl ⟨by rfl, ?_⟩) (by assumption) ?_
      rotate_left
      · (intro w hSw; (try dsimp only at hSw); go_simp; try with_reducible rfl)
      (try simp only [Act.put, List.setIfInBounds_toArray, List.set_cons_zero, List.set_cons_succ])
      refine take_first (v := ?_) 1 rfl (by kernel_rfl) (by kernel_rfl) (by kernel_rfl) (fun _ _ _ h => h) (Or.inl ⟨by rfl, ?_⟩) (by assumption) ?_
      rotate_left
      · (intro w hSw; (try dsimp only at hSw); go_simp; try with_reducible rfl)
      (try simp only [Act.put, List.setIfInBounds_toArray, List.set_cons_zero, List.set_cons_succ])
      refine take_first (v := ?_) 2 rfl (by kernel_rfl) (by kernel_rfl) (by kernel_rfl) (fun _ _ _ h => h) (Or.inl ⟨by rfl, ?_⟩) (by assumption) ?_
      rotate_left
      · (intro w hSw; (try dsimp only at hSw); go_simp; try with_reducible rfl)
      (try simp only [Act.put, List.setIfInBounds_toArray, List.set_cons_zero, List.set_cons_succ])
      refine take_first (v := ?_) 3 rfl (by kernel_rfl) (by kernel_rfl) (by kernel_rfl) (fun _ _ _ h => h) (Or.inl ⟨by rfl, ?_⟩) (by assumption) ?_
      rotate_left
      · (intro w hSw; (try dsimp only at hSw); go_simp; try with_reducible rfl)
      (try simp only [Act.put, List.setIfInBounds_toArray, List.set_cons_zero, List.set_cons_succ])
      refine take_first (v := ?_) 4 rfl (by kernel_rfl) (by kernel_rfl) (by kernel_rfl) (fun _ _ _ h => h) (Or.inl ⟨by rfl, ?_⟩) (by assumption) ?_
      rotate_left
      · (intro w hSw; (try dsimp only at hSw); go_simp; try with_reducible rfl)
      (try simp only [Act.put, List.setIfInBounds_toArray, List.set_cons_zero, List.set_cons_succ])
      refine step_one 5 rfl (by kernel_rfl) (fun K hK => ?_)
      clear hHeld
      go_simp
      refine (B8.out _).mono ?_
      rintro e wy2 ⟨Ab, cb, rfl, ho, hb⟩
      replace HM := Lib.hid (show Mem w [rdE wd1.heap.size wy2.heap.size Ab 8 (bigL S 8), blkE (w.heap.size + 1) 23 ((List.replicate 12 (0 : UInt8)).map u8v), blkE w.heap.size 23 (aeZ 12)] wy2 from HM.out.callRd hb ho)
      obtain ⟨gb, rfl, hcb, hcm⟩ := own_some ho (by omega)
      clear ho hcb hcm
      clear hb
      go_wp2_with fail
      refine hK.out _ _ (((HM.out.erase 0).erase 0)) (fun hHeld => ?_)
      clear hK K
      (try simp only [Act.put, List.setIfInBounds_toArray, List.set_cons_zero, List.set_cons_succ])
      refine wpAnyH_stronger (T := fun W' => Mem w [rdE wd1.heap.size wy2.heap.size (some ⟨gb, 0, none⟩) 8 (bigL S 8), blkE w.heap.size 23 (aeZ 12)] W') (fun _ h' => h'.erase 0) _ _ _ _ ?_
      replace hHeld := (HM.out.erase 1)
      refine step_one 6 rfl (by kernel_rfl) (fun K hK => ?_)
      clear hHeld
      refine step_copy_bytes _ rfl (.tmp 11) (.tmp 16) 35 35 (by rfl) 5 Try.underlying35 (by kernel_rfl) (w.heap.size + 1) 0 8 12 ⟨gb, 0, none⟩ 8 cb (by rfl) (by rfl) ((List.replicate 12 (0 : UInt8)).map u8v) 23 (HM.out.blk 1 rfl) ((bigL S 8).map u8v) (by rw [List.length_map, bigL_length]; rfl) (HM.out.rd 0 rfl).src (by rw [List.length_map, List.length_map, bigL_length]; decide) (u8v_one _) ?_
      intro wy3 hb hg
      rw [putL_map] at hb
      replace HM := Lib.hid (show Mem w [rdE wd1.heap.size wy2.heap.size (some ⟨gb, 0, none⟩) 8 (bigL S 8), blkE (w.heap.size + 1) 23 ((putL (List.replicate 12 (0 : UInt8)) 0 (bigL S 8)).map u8v), blkE w.heap.size 23 (aeZ 12)] wy3 from HM.out.put 1 rfl _ hg hb)
      clear hb hg
      refine hK.out _ _ ((HM.out.erase 1)) (fun hHeld => ?_)
      clear hK K
      (try simp only [Act.put, List.setIfInBounds_toArray, List.set_cons_zero, List.set_cons_succ])
      refine wpAnyH_done (by kernel_rfl) ?_ _
      obtain ⟨s1, hs1⟩ : ∃ x, putL (List.replicate 12 (0 : UInt8)) 0 (bigL S 8) = x := ⟨_, rfl⟩
      rw [hs1] at HM
      have HS1 := Lib.hid (show s1.length = 12 by rw [← hs1, putL_length _ _ _ (by rw [bigL_length]; decide)]; rfl)
      have HSE := Lib.hid hs1
      replace HM := Lib.hid (show Mem w [blkE (w.heap.size + 1) 23 ((s1).map u8v), blkE w.heap.size 23 (aeZ 12)] wy3 from HM.out.erase 0)
      clear hs1 hHeld
      generalize hwq : wy3 = wq at HM ⊢
      clear hwq
      go_upto_region 5 with fail
      refine wp_region_held_drew (S := fun W' => Mem w [blkE w.heap.size 23 (aeZ 12)] W') (by kernel_rfl) (((HM.out.erase 0)).drew) (fun hHeld => ?_)
      replace HM := Lib.hid HM.out.drew
      generalize wq.drew = wd14 at HM hHeld ⊢
      refine take_first (v := ?_) 0 rfl (by kernel_rfl) (by kernel_rfl) (by kernel_rfl) (fun _ _ _ h => h) (Or.inl ⟨by rfl, ?_⟩) (by assumption) ?_
      rotate_left
      · (intro w hSw; (try dsimp only at hSw); go_simp; try with_reducible rfl)
      (try simp only [Act.put, List.setIfInBounds_toArray, List.set_cons_zero, List.set_cons_succ])
      refine take_first (v := ?_) 1 rfl (by kernel_rfl) (by kernel_rfl) (by kernel_rfl) (fun _ _ _ h => h) (Or.inl ⟨by rfl, ?_⟩) (by assumption) ?_
      rotate_left
      · (intro w hSw; (try dsimp only at hSw); go_simp; try with_reducible rfl)
      (try simp only [Act.put, List.setIfInBounds_toArray, List.set_cons_zero, List.set_cons_succ])
      refine take_first (v := ?_) 2 rfl (by kernel_rfl) (by kernel_rfl) (by kernel_rfl) (fun _ _ _ h => h) (Or.inl ⟨by rfl, ?_⟩) (by assumption) ?_
      rotate_left
      · (intro w hSw; (try dsimp only at hSw); go_simp; try with_reducible rfl)
      (try simp only [Act.put, List.setIfInBounds_toArray, List.set_cons_zero, List.set_cons_succ])
      refine take_first (v := ?_) 3 rfl (by kernel_rfl) (by kernel_rfl) (by kernel_rfl) (fun _ _ _ h => h) (Or.inl ⟨by rfl, ?_⟩) (by assumption) ?_
      rotate_left
      · (intro w hSw; (try dsimp only at hSw); go_simp; try with_reducible rfl)
      (try simp only [Act.put, List.setIfInBounds_toArray, List.set_cons_zero, List.set_cons_succ])
      refine take_first (v := ?_) 4 rfl (by kernel_rfl) (by kernel_rfl) (by kernel_rfl) (fun _ _ _ h => h) (Or.inl ⟨by rfl, ?_⟩) (by assumption) ?_
      rotate_left
      · (intro w hSw; (try dsimp only at hSw); go_simp; try with_reducible rfl)
      (try simp only [Act.put, List.setIfInBounds_toArray, List.set_cons_zero, List.set_cons_succ])
      refine step_one 5 rfl (by kernel_rfl) (fun K hK => ?_)
      clear hHeld
      go_simp
      refine (B4.out _).mono ?_
      rintro e wy15 ⟨Ab, cb, rfl, ho, hb⟩
      replace HM := Lib.hid (show Mem w [rdE wd14.heap.size wy15.heap.size Ab 4 (bigL N 4), blkE (w.heap.size + 1) 23 ((s1).map u8v), blkE w.heap.size 23 (aeZ 12)] wy15 from HM.out.callRd hb ho)
      obtain ⟨gb, rfl, hcb, hcm⟩ := own_some ho (by omega)
      clear ho hcb hcm
      clear hb
      go_wp2_with fail
      refine hK.out _ _ (((HM.out.erase 0).erase 0)) (fun hHeld => ?_)
      clear hK K
      (try simp only [Act.put, List.setIfInBounds_toArray, List.set_cons_zero, List.set_cons_succ])
      refine wpAnyH_stronger (T := fun W' => Mem w [rdE wd14.heap.size wy15.heap.size (some ⟨gb, 0, none⟩) 4 (bigL N 4), blkE w.heap.size 23 (aeZ 12)] W') (fun _ h' => h'.erase 0) _ _ _ _ ?_
      replace hHeld := (HM.out.erase 1)
      refine step_one 6 rfl (by kernel_rfl) (fun K hK => ?_)
      clear hHeld
      refine step_copy_bytes _ rfl (.tmp 18) (.tmp 23) 35 35 (by rfl) 5 Try.underlying35 (by kernel_rfl) (w.heap.size + 1) 8 4 4 ⟨gb, 0, none⟩ 4 cb (by rfl) (by rfl) ((s1).map u8v) 23 (HM.out.blk 1 rfl) ((bigL N 4).map u8v) (by rw [List.length_map, bigL_length]; rfl) (HM.out.rd 0 rfl).src (by rw [List.length_map, List.length_map, bigL_length]; rw [HS1.out]; decide) (u8v_one _) ?_
      intro wy16 hb hg
      rw [putL_map] at hb
      replace HM := Lib.hid (show Mem w [rdE wd14.heap.size wy15.heap.size (some ⟨gb, 0, none⟩) 4 (bigL N 4), blkE (w.heap.size + 1) 23 ((putL s1 8 (bigL N 4)).map u8v), blkE w.heap.size 23 (aeZ 12)] wy16 from HM.out.put 1 rfl _ hg hb)
      clear hb hg
      refine hK.out _ _ ((HM.out.erase 1)) (fun hHeld => ?_)
      clear hK K
      (try simp only [Act.put, List.setIfInBounds_toArray, List.set_cons_zero, List.set_cons_succ])
      refine wpAnyH_done (by kernel_rfl) ?_ _
      replace HM := Lib.hid (show Mem w [blkE (w.heap.size + 1) 23 ((so).map u8v), blkE w.heap.size 23 (aeZ 12)] wy16 from by have h := HM.out.erase 0; rw [← HSE.out, put_two _ _ (bigL_length _ _) (bigL_length _ _), HEQ.out] at h; exact h)
      clear hHeld HSE HS1 HEQ B4
      go_wp2_with (first | (refine wpList_load_blk rfl 23 (.tmp 3) rfl (w.heap.size + 1) rfl 23 (so.map u8v) (HM.out.blk 0 rfl) 12 5 Try.underlying23 (stampCells so HSL.out) ?_; rw [HCO.out]) | (refine wpList_store_blk rfl 23 (.tmp 2) (.tmp 25) rfl w.heap.size (so.map u8v) rfl (by show Value.agg co = _; rw [HCO.out]) 23 (aeZ 12) (HM.out.blk 1 rfl) (stampCells so HSL.out) (by rw [List.length_map, HSL.out]; rfl) (u8v_one _) ?_; intro w9 hb9 hg9))
      exact bodyPost_ret (results_blk rfl _ _ w.heap.size 23 (so.map u8v) 12 5 rfl hb9 Try.underlying23 (stampCells so HSL.out)) rfl ⟨by rw [HCO.out], (HM.out.put 1 rfl _ hg9 hb9).bel⟩
end Go.Proofs.Ytmbcohhnnlpnaaa
