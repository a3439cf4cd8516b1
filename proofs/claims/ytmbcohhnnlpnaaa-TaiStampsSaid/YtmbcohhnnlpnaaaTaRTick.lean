/-
  The contracts of the reference's Tick and After. No statement is proved here.
-/
import Derived.Test.YtmbcohhnnlpnaaaTaROf
import Derived.Test.YtmbcohhnnlpnaaaRRdBig
import Derived.Test.YtmbcohhnnlpnaaaKeyMem
namespace Go.Proofs.Ytmbcohhnnlpnaaa
open Go.RowKit

set_option maxRecDepth 100000 in
set_option maxHeartbeats 8000000 in
theorem refTick_any (s : List UInt8) (hs : s.length = 12) (w : World) :
    Calls Try.prog 10 #[.agg (s.map u8v).toArray] w fun e w' => e = .returned (.tuple #[.int .i64 (tickL s).1, .int .i64 ((tickL s).2 : Int)]) ∧ Below w.heap.size w w' := by
  obtain ⟨i0, hi, hz0, hz1, hz2⟩ := info_parts Try.info5
  obtain ⟨cs, hcs⟩ : ∃ x, (s.map u8v).toArray = x := ⟨_, rfl⟩
  have HCS := Lib.hid hcs
  rw [hcs]
  have HM := Lib.hid (show Mem w [blkE w.heap.size 23 (s.map u8v)] (w.alloc (.cells cs 23)) from (Mem.nil w).alloc rfl 23 cs (s.map u8v) hcs.symm)
  have HL := Lib.hid hs
  obtain ⟨tr, hto⟩ : ∃ x, tickL s = x := ⟨_, rfl⟩
  rw [hto]
  obtain ⟨sec, hsec⟩ : ∃ x, numB (s.take 8) = x := ⟨_, rfl⟩
  obtain ⟨nn, hnn⟩ : ∃ x, numB (s.drop 8) = x := ⟨_, rfl⟩
  have hb8 : sec < 18446744073709551616 := by
    have h := numB_lt (s.take 8)
    rw [List.length_take, hs, hsec] at h
    exact h
  have hb4 : nn < 4294967296 := by
    have h := numB_lt (s.drop 8)
    rw [List.length_drop, hs, hnn] at h
    exact h
  have R8 := Lib.hid (fun (w' : World) (hr : Rd w' w'.heap.size (some ⟨w.heap.size, 0, none⟩) 8 (s.take 8)) => readRefBig_any w'.heap.size (some ⟨w.heap.size, 0, none⟩) 8 12 (s.take 8) (by omega) w' hr)
  have R4 := Lib.hid (fun (w' : World) (hr : Rd w' w'.heap.size (some ⟨w.heap.size, 8, none⟩) 4 (s.drop 8)) => readRefBig_any w'.heap.size (some ⟨w.heap.size, 8, none⟩) 4 4 (s.drop 8) (by omega) w' hr)
  rw [hsec, Nat.mod_eq_of_lt hb8] at R8
  rw [hnn, Nat.mod_eq_of_lt (show nn < 18446744073709551616 by omega)] at R4
  clear hcs hz0 hz2
  go_enter Try.func10, Try.ntmps10
  go_upto_region 1 with fail
  generalize w.alloc (.cells cs 23) = w1 at HM ⊢
  refine wp_region_held_drew (S := fun W' => Mem w [blkE w.heap.size 23 (s.map u8v)] W') (by kernel_rfl) ((HM.out).drew) (fun hHeld => ?_)
  replace HM := Lib.hid HM.out.drew
  generalize w1.drew = wd1 at HM hHeld ⊢
  refine take_first (v := ?_) 0 rfl (by kernel_rfl) (by kernel_rfl) (by kernel_rfl) (fun _ _ _ h => h) (Or.inl ⟨by rfl, ?_⟩) (by assumption) ?_
  rotate_left
  · (intro w hSw; (try dsimp only at hSw); go_simp; try with_reducible rfl)
  (try simp only [Act.put, List.setIfInBounds_toArray, List.set_cons_zero, List.set_cons_succ])
  refine take_first (v := ?_) 2 rfl (by kernel_rfl) (by kernel_rfl) (by kernel_rfl) (fun _ _ _ h => h) (Or.inl ⟨by rfl, ?_⟩) (by assumption) ?_
  rotate_left
  · (intro w hSw; (try dsimp only at hSw); go_simp; try with_reducible rfl)
  (try simp only [Act.put, List.setIfInBounds_toArray, List.set_cons_zero, List.set_cons_succ])
  refine step_one 1 rfl (by kernel_rfl) (fun K hK => ?_)
  clear hHeld
  go_simp
  refine (R8.out _ (by have h := (blk_all (HM.out.blk 0 rfl) HL.out).take (m := 8) (by omega); exact h)).mono ?_
  rintro e wy ⟨rfl, rfl⟩
  go_wp2_with fail
  refine hK.out _ _ (HM.out) (fun hHeld => ?_)
  clear hK K
  (try simp only [Act.put, List.setIfInBounds_toArray, List.set_cons_zero, List.set_cons_succ])
  refine step_one 3 rfl (by kernel_rfl) (fun K hK => ?_)
  clear hHeld
  go_simp
  refine (R4.out _ (by have h := (blk_all (HM.out.blk 0 rfl) HL.out).drop 8 w.heap.size 0 rfl (by omega); rwa [Nat.zero_add] at h)).mono ?_
  rintro e wy ⟨rfl, rfl⟩
  go_wp2_with fail
  refine hK.out _ _ (HM.out) (fun hHeld => ?_)
  clear hK K
  (try simp only [Act.put, List.setIfInBounds_toArray, List.set_cons_zero, List.set_cons_succ])
  refine take_first (v := ?_) 4 rfl (by kernel_rfl) (by kernel_rfl) (by kernel_rfl) (fun _ _ _ h => h) (Or.inl ⟨by rfl, ?_⟩) (by assumption) ?_
  rotate_left
  · (intro w hSw; (try dsimp only at hSw); go_simp; try with_reducible rfl)
  (try simp only [Act.put, List.setIfInBounds_toArray, List.set_cons_zero, List.set_cons_succ])
  refine take_first (v := ?_) 5 rfl (by kernel_rfl) (by kernel_rfl) (by kernel_rfl) (fun _ _ _ h => h) (Or.inl ⟨by rfl, ?_⟩) (by assumption) ?_
  rotate_left
  · (intro w hSw; (try dsimp only at hSw); go_simp; try with_reducible rfl)
  (try simp only [Act.put, List.setIfInBounds_toArray, List.set_cons_zero, List.set_cons_succ])
  refine wpAnyH_done (by kernel_rfl) ?_ _
  clear hHeld R8 R4
  generalize hwq : wd1 = wq at HM ⊢
  clear hwq
  by_cases h1 : sec < 4611686018427387914
  · have c1 : decide ((sec : Int) < 4611686018427387914) = true := by simp; omega
    have hz : tickL s = (0, 5) := by rw [tickL, hsec, if_pos (.inl h1)]
    rw [hz] at hto
    have HB := Lib.hid HM.out.bel
    clear HM
    subst hto
    go_wp2_with fail
    exact bodyPost_ret (results_tmp2 rfl _ _ _) rfl ⟨rfl, HB.out⟩
  · by_cases h2 : 4611686019526899541 < sec
    · have c1 : decide ((sec : Int) < 4611686018427387914) = false := by simp; omega
      have hz : tickL s = (0, 5) := by rw [tickL, hsec, if_pos (.inr h2)]
      have c2 : decide ((sec : Int) > 4611686019526899541) = true := by simp; omega
      rw [hz] at hto
      have HB := Lib.hid HM.out.bel
      clear HM
      subst hto
      go_wp2_with fail
      exact bodyPost_ret (results_tmp2 rfl _ _ _) rfl ⟨rfl, HB.out⟩
    · have c1 : decide ((sec : Int) < 4611686018427387914) = false := by simp; omega
      have c2 : decide ((sec : Int) > 4611686019526899541) = false := by simp; omega
      obtain ⟨d, hd⟩ : ∃ d, sec - 4611686018427387914 = d := ⟨_, rfl⟩
      obtain ⟨d10, hd10⟩ : ∃ x, d + 10 = x := ⟨_, rfl⟩
      obtain ⟨m, hm⟩ : ∃ m, d * 1000 = m := ⟨_, rfl⟩
      obtain ⟨p, hp⟩ : ∃ p, nn / 1000000 = p := ⟨_, rfl⟩
      obtain ⟨t, ht⟩ : ∃ t, m + p = t := ⟨_, rfl⟩
      have htt : tickT s = t := by rw [tickT, hsec, hnn, show epochN = 4611686018427387914 from rfl, hd, hm, hp, ht]
      rw [tickL, hsec, if_neg (by unfold epochN; omega), htt] at hto
      have hdb : d ≤ 1099511627 := by omega
      have hpb : p ≤ 4294 := by omega
      have k1 : IntKind.u64.wrap ((sec : Int) - 4611686018427387904) = (d10 : Int) := by rw [IntKind.wrap_u64]; omega
      have k2 : IntKind.u64.wrap ((d10 : Int) - 10) = (d : Int) := by rw [IntKind.wrap_u64]; omega
      have k3 : IntKind.i64.wrap (d : Int) = (d : Int) := IntWalk.i64_in _ (by omega)
      have k4 : IntKind.i64.wrap ((d : Int) * 1000) = (m : Int) := by rw [show (d : Int) * 1000 = (m : Int) by omega]; exact IntWalk.i64_in _ (by omega)
      have k5 : ((nn : Int)).tdiv 1000000 = (p : Int) := by rw [Int.tdiv_eq_ediv_of_nonneg (by omega)]; omega
      have k6 : (nn : Int) / 1000000 = (p : Int) := by omega
      have k7 : IntKind.i64.wrap (p : Int) = (p : Int) := IntWalk.i64_in _ (by omega)
      have k8 : IntKind.i64.wrap ((m : Int) + (p : Int)) = (t : Int) := by rw [show (m : Int) + (p : Int) = (t : Int) by omega]; exact IntWalk.i64_in _ (by omega)
      have k9 : IntKind.u64.wrap (p : Int) = (p : Int) := by rw [IntKind.wrap_u64]; omega
      have htb : t ≤ 9000000000000000 := by omega
      clear hd hd10 hm hp ht htt hdb hpb hsec hnn hb8 hb4 h1 h2
      go_upto_region 5 with fail
      clear c1 c2 k1 k2 k3 k4 k5 k6 k7 k8 k9
      by_cases h3 : 1099511627776 < t
      · have c3 : decide ((t : Int) > 1099511627776) = true := by simp; omega
        rw [if_pos (.inl h3)] at hto
        subst hto
        clear h3
        refine wp_region_held_drew (S := fun W' => Mem w [blkE w.heap.size 23 (s.map u8v)] W') (by kernel_rfl) ((HM.out).drew) (fun hHeld => ?_)
        replace HM := Lib.hid HM.out.drew
        generalize wq.drew = wd1 at HM hHeld ⊢
        refine take_first (v := ?_) 0 rfl (by kernel_rfl) (by kernel_rfl) (by kernel_rfl) (fun _ _ _ h => h) (Or.inl ⟨by rfl, ?_⟩) (by assumption) ?_
        rotate_left
        · (intro w hSw; (try dsimp only at hSw); go_simp; try with_reducible rfl)
        (try simp only [Act.put, List.setIfInBounds_toArray, List.set_cons_zero, List.set_cons_succ])
        refine take_first (v := ?_) 1 rfl (by kernel_rfl) (by kernel_rfl) (by kernel_rfl) (fun _ _ _ h => h) (Or.inl ⟨by rfl, ?_⟩) (by assumption) ?_
        rotate_left
        · (intro w hSw; (try dsimp only at hSw); go_simp; try with_reducible rfl)
        (try simp only [Act.put, List.setIfInBounds_toArray, List.set_cons_zero, List.set_cons_succ])
        refine take_first (v := ?_) 2 rfl (by kernel_rfl) (by kernel_rfl) (by kernel_rfl) (fun _ _ _ h => h) (Or.inl ⟨by rfl, ?_⟩) (by assumption) ?_
        rotate_left
        · (intro w hSw; (try dsimp only at hSw); go_simp; try with_reducible rfl)
        (try simp only [Act.put, List.setIfInBounds_toArray, List.set_cons_zero, List.set_cons_succ])
        refine take_first (v := undef) 3 rfl (by kernel_rfl) (by kernel_rfl) (by kernel_rfl) (fun _ _ _ h => h) (Or.inr ⟨by rfl, rfl⟩) (by assumption) ?_
        (try simp only [Act.put, List.setIfInBounds_toArray, List.set_cons_zero, List.set_cons_succ])
        refine take_first (v := undef) 4 rfl (by kernel_rfl) (by kernel_rfl) (by kernel_rfl) (fun _ _ _ h => h) (Or.inr ⟨by rfl, rfl⟩) (by assumption) ?_
        (try simp only [Act.put, List.setIfInBounds_toArray, List.set_cons_zero, List.set_cons_succ])
        refine take_first (v := undef) 5 rfl (by kernel_rfl) (by kernel_rfl) (by kernel_rfl) (fun _ _ _ h => h) (Or.inr ⟨by rfl, rfl⟩) (by assumption) ?_
        (try simp only [Act.put, List.setIfInBounds_toArray, List.set_cons_zero, List.set_cons_succ])
        refine take_first (v := undef) 6 rfl (by kernel_rfl) (by kernel_rfl) (by kernel_rfl) (fun _ _ _ h => h) (Or.inr ⟨by rfl, rfl⟩) (by assumption) ?_
        (try simp only [Act.put, List.setIfInBounds_toArray, List.set_cons_zero, List.set_cons_succ])
        refine take_first (v := ?_) 7 rfl (by kernel_rfl) (by kernel_rfl) (by kernel_rfl) (fun _ _ _ h => h) (Or.inl ⟨by rfl, ?_⟩) (by assumption) ?_
        rotate_left
        · (intro w hSw; (try dsimp only at hSw); go_simp; try with_reducible rfl)
        (try simp only [Act.put, List.setIfInBounds_toArray, List.set_cons_zero, List.set_cons_succ])
        refine wpAnyH_done (by kernel_rfl) ?_ _
        have HB := Lib.hid HM.out.bel
        clear HM hHeld
        go_wp2_with fail
        exact bodyPost_ret (results_tmp2 rfl _ _ _) rfl ⟨rfl, HB.out⟩
      · have c3 : decide ((t : Int) > 1099511627776) = false := by simp; omega
        have OC := Lib.hid (fun w' : World => refOf_any (t : Int) (by omega) (by omega) w')
        rw [stampL_nat t (by omega)] at OC
        have ex := fun w' : World => run_key_eq (P := Try.prog) 23 5 12 Try.underlying23 Try.underlying5 i0 hi hz1 (stampN t) s (stampN_length t) HL.out w'
        obtain ⟨co, hco⟩ : ∃ x, ((stampN t).map u8v).toArray = x := ⟨_, rfl⟩
        rw [hco] at OC
        rw [hco, HCS.out] at ex
        clear hco
        by_cases h4 : stampN t = s
        · rw [show (stampN t == s) = true by simpa using h4] at ex
          rw [if_neg (fun h => h.elim h3 (fun h5 => h5 h4))] at hto
          subst hto
          clear h3 h4
          refine wp_region_held_drew (S := fun W' => Mem w [blkE w.heap.size 23 (s.map u8v)] W') (by kernel_rfl) ((HM.out).drew) (fun hHeld => ?_)
          replace HM := Lib.hid HM.out.drew
          generalize wq.drew = wd1 at HM hHeld ⊢
          refine take_first (v := ?_) 0 rfl (by kernel_rfl) (by kernel_rfl) (by kernel_rfl) (fun _ _ _ h => h) (Or.inl ⟨by rfl, ?_⟩) (by assumption) ?_
          rotate_left
          · (intro w hSw; (try dsimp only at hSw); go_simp; try with_reducible rfl)
          (try simp only [Act.put, List.setIfInBounds_toArray, List.set_cons_zero, List.set_cons_succ])
          refine take_first (v := ?_) 1 rfl (by kernel_rfl) (by kernel_rfl) (by kernel_rfl) (fun _ _ _ h => h) (Or.inl ⟨by rfl, ?_⟩) (by assumption) ?_
          rotate_left
          · (intro w hSw; (try dsimp only at hSw); go_simp; try with_reducible rfl)
          (try simp only [Act.put, List.setIfInBounds_toArray, List.set_cons_zero, List.set_cons_succ])
          refine take_first (v := ?_) 2 rfl (by kernel_rfl) (by kernel_rfl) (by kernel_rfl) (fun _ _ _ h => h) (Or.inl ⟨by rfl, ?_⟩) (by assumption) ?_
          rotate_left
          · (intro w hSw; (try dsimp only at hSw); go_simp; try with_reducible rfl)
          (try simp only [Act.put, List.setIfInBounds_toArray, List.set_cons_zero, List.set_cons_succ])
          refine take_first (v := ?_) 3 rfl (by kernel_rfl) (by kernel_rfl) (by kernel_rfl) (fun _ _ _ h => h) (Or.inl ⟨by rfl, ?_⟩) (by assumption) ?_
          rotate_left
          · (intro w hSw; (try dsimp only at hSw); go_simp; try with_reducible rfl)
          (try simp only [Act.put, List.setIfInBounds_toArray, List.set_cons_zero, List.set_cons_succ])
          refine take_first (v := (.agg cs)) 5 rfl (by kernel_rfl) (by kernel_rfl) (by kernel_rfl) (fun _ _ _ h => h) (by rw [← HCS.out]; exact yields_load_blk (by rfl) 23 (.tmp 1) rfl w.heap.size rfl 23 (s.map u8v) (fun _ h => Mem.blk h 0 rfl) 12 5 Try.underlying23 (stampCells s HL.out)) (by assumption) ?_
          (try simp only [Act.put, List.setIfInBounds_toArray, List.set_cons_zero, List.set_cons_succ])
          refine step_one 4 rfl (by kernel_rfl) (fun K hK => ?_)
          clear hHeld
          go_simp
          refine (OC.out _).mono ?_
          rintro e wy2 ⟨rfl, hb⟩
          replace HM := Lib.hid (show Mem w [blkE w.heap.size 23 (s.map u8v)] wy2 from HM.out.below hb)
          clear hb
          go_wp2_with fail
          refine hK.out _ _ (HM.out) (fun hHeld => ?_)
          clear hK K
          (try simp only [Act.put, List.setIfInBounds_toArray, List.set_cons_zero, List.set_cons_succ])
          refine take_first (v := ?_) 6 rfl (by kernel_rfl) (by kernel_rfl) (by kernel_rfl) (fun _ _ _ h => h) (Or.inl ⟨by rfl, ?_⟩) (by assumption) ?_
          rotate_left
          · (intro w hSw; (try dsimp only at hSw); go_simp; try with_reducible rfl)
          (try simp only [Act.put, List.setIfInBounds_toArray, List.set_cons_zero, List.set_cons_succ])
          refine take_first (v := ?_) 7 rfl (by kernel_rfl) (by kernel_rfl) (by kernel_rfl) (fun _ _ _ h => h) (Or.inl ⟨by rfl, ?_⟩) (by assumption) ?_
          rotate_left
          · (intro w hSw; (try dsimp only at hSw); go_simp; try with_reducible rfl)
          (try simp only [Act.put, List.setIfInBounds_toArray, List.set_cons_zero, List.set_cons_succ])
          refine wpAnyH_done (by kernel_rfl) ?_ _
          have HB := Lib.hid HM.out.bel
          clear HM hHeld
          go_wp2_with fail
          exact bodyPost_ret (results_tmp2 rfl _ _ _) rfl ⟨rfl, HB.out⟩
        · rw [show (stampN t == s) = false by simpa using h4] at ex
          rw [if_pos (.inr h4)] at hto
          subst hto
          clear h3 h4
          refine wp_region_held_drew (S := fun W' => Mem w [blkE w.heap.size 23 (s.map u8v)] W') (by kernel_rfl) ((HM.out).drew) (fun hHeld => ?_)
          replace HM := Lib.hid HM.out.drew
          generalize wq.drew = wd1 at HM hHeld ⊢
          refine take_first (v := ?_) 0 rfl (by kernel_rfl) (by kernel_rfl) (by kernel_rfl) (fun _ _ _ h => h) (Or.inl ⟨by rfl, ?_⟩) (by assumption) ?_
          rotate_left
          · (intro w hSw; (try dsimp only at hSw); go_simp; try with_reducible rfl)
          (try simp only [Act.put, List.setIfInBounds_toArray, List.set_cons_zero, List.set_cons_succ])
          refine take_first (v := ?_) 1 rfl (by kernel_rfl) (by kernel_rfl) (by kernel_rfl) (fun _ _ _ h => h) (Or.inl ⟨by rfl, ?_⟩) (by assumption) ?_
          rotate_left
          · (intro w hSw; (try dsimp only at hSw); go_simp; try with_reducible rfl)
          (try simp only [Act.put, List.setIfInBounds_toArray, List.set_cons_zero, List.set_cons_succ])
          refine take_first (v := ?_) 2 rfl (by kernel_rfl) (by kernel_rfl) (by kernel_rfl) (fun _ _ _ h => h) (Or.inl ⟨by rfl, ?_⟩) (by assumption) ?_
          rotate_left
          · (intro w hSw; (try dsimp only at hSw); go_simp; try with_reducible rfl)
          (try simp only [Act.put, List.setIfInBounds_toArray, List.set_cons_zero, List.set_cons_succ])
          refine take_first (v := ?_) 3 rfl (by kernel_rfl) (by kernel_rfl) (by kernel_rfl) (fun _ _ _ h => h) (Or.inl ⟨by rfl, ?_⟩) (by assumption) ?_
          rotate_left
          · (intro w hSw; (try dsimp only at hSw); go_simp; try with_reducible rfl)
          (try simp only [Act.put, List.setIfInBounds_toArray, List.set_cons_zero, List.set_cons_succ])
          refine take_first (v := (.agg cs)) 5 rfl (by kernel_rfl) (by kernel_rfl) (by kernel_rfl) (fun _ _ _ h => h) (by rw [← HCS.out]; exact yields_load_blk (by rfl) 23 (.tmp 1) rfl w.heap.size rfl 23 (s.map u8v) (fun _ h => Mem.blk h 0 rfl) 12 5 Try.underlying23 (stampCells s HL.out)) (by assumption) ?_
          (try simp only [Act.put, List.setIfInBounds_toArray, List.set_cons_zero, List.set_cons_succ])
          refine step_one 4 rfl (by kernel_rfl) (fun K hK => ?_)
          clear hHeld
          go_simp
          refine (OC.out _).mono ?_
          rintro e wy2 ⟨rfl, hb⟩
          replace HM := Lib.hid (show Mem w [blkE w.heap.size 23 (s.map u8v)] wy2 from HM.out.below hb)
          clear hb
          go_wp2_with fail
          refine hK.out _ _ (HM.out) (fun hHeld => ?_)
          clear hK K
          (try simp only [Act.put, List.setIfInBounds_toArray, List.set_cons_zero, List.set_cons_succ])
          refine take_first (v := ?_) 6 rfl (by kernel_rfl) (by kernel_rfl) (by kernel_rfl) (fun _ _ _ h => h) (Or.inl ⟨by rfl, ?_⟩) (by assumption) ?_
          rotate_left
          · (intro w hSw; (try dsimp only at hSw); go_simp; try with_reducible rfl)
          (try simp only [Act.put, List.setIfInBounds_toArray, List.set_cons_zero, List.set_cons_succ])
          refine take_first (v := ?_) 7 rfl (by kernel_rfl) (by kernel_rfl) (by kernel_rfl) (fun _ _ _ h => h) (Or.inl ⟨by rfl, ?_⟩) (by assumption) ?_
          rotate_left
          · (intro w hSw; (try dsimp only at hSw); go_simp; try with_reducible rfl)
          (try simp only [Act.put, List.setIfInBounds_toArray, List.set_cons_zero, List.set_cons_succ])
          refine wpAnyH_done (by kernel_rfl) ?_ _
          have HB := Lib.hid HM.out.bel
          clear HM hHeld
          go_wp2_with fail
          exact bodyPost_ret (results_tmp2 rfl _ _ _) rfl ⟨rfl, HB.out⟩
set_option maxRecDepth 100000 in
set_option maxHeartbeats 4000000 in
theorem refAfter_any (a b : List UInt8) (ha : a.length = 12) (hb : b.length = 12) (w : World) :
    Calls Try.prog 13 #[.agg (a.map u8v).toArray, .agg (b.map u8v).toArray] w fun e w' => e = .returned (.bool (laterB a b)) ∧ Below w.heap.size w w' := by
  obtain ⟨ca, hca⟩ : ∃ x, (a.map u8v).toArray = x := ⟨_, rfl⟩
  obtain ⟨cb, hcb⟩ : ∃ x, (b.map u8v).toArray = x := ⟨_, rfl⟩
  rw [hca, hcb]
  have HM := Lib.hid (show Mem w [blkE (w.heap.size + 1) 23 (b.map u8v), blkE w.heap.size 23 (a.map u8v)] ((w.alloc (.cells ca 23)).alloc (.cells cb 23)) from ((Mem.nil w).alloc rfl 23 ca (a.map u8v) hca.symm).alloc (by simp) 23 cb (b.map u8v) hcb.symm)
  have HLA := Lib.hid ha
  have HLB := Lib.hid hb
  have HE := Lib.hid (laterB_less a b (by rw [ha, hb]))
  clear hca hcb ha hb
  go_enter Try.func13, Try.ntmps13
  go_upto_region 1 with fail
  generalize ((w.alloc (.cells ca 23)).alloc (.cells cb 23)) = w1 at HM ⊢
  generalize w.heap.size = GA at HM ⊢
  refine wp_region_held_drew (S := fun W' => Mem w [blkE (GA + 1) 23 (b.map u8v), blkE GA 23 (a.map u8v)] W') (by kernel_rfl) ((HM.out).drew) (fun hHeld => ?_)
  replace HM := Lib.hid HM.out.drew
  generalize w1.drew = wd1 at HM hHeld ⊢
  refine take_first (v := ?_) 0 rfl (by kernel_rfl) (by kernel_rfl) (by kernel_rfl) (fun _ _ _ h => h) (Or.inl ⟨by rfl, ?_⟩) (by assumption) ?_
  rotate_left
  · (intro w hSw; (try dsimp only at hSw); go_simp; try with_reducible rfl)
  (try simp only [Act.put, List.setIfInBounds_toArray, List.set_cons_zero, List.set_cons_succ])
  refine take_first (v := ?_) 1 rfl (by kernel_rfl) (by kernel_rfl) (by kernel_rfl) (fun _ _ _ h => h) (Or.inl ⟨by rfl, ?_⟩) (by assumption) ?_
  rotate_left
  · (intro w hSw; (try dsimp only at hSw); have cv : (convert 35 9 (.slice (some ⟨GA, 0, none⟩) 12 12)).run Try.prog w = .ok (.string ⟨a.toArray⟩) w := run_string_of_rd (P := Try.prog) 35 9 5 12 Try.underlying35 Try.underlying5 Try.underlying9 (blk_all (Mem.blk hSw 1 rfl) HLA.out); go_simp; try with_reducible rfl)
  (try simp only [Act.put, List.setIfInBounds_toArray, List.set_cons_zero, List.set_cons_succ])
  refine take_first (v := ?_) 2 rfl (by kernel_rfl) (by kernel_rfl) (by kernel_rfl) (fun _ _ _ h => h) (Or.inl ⟨by rfl, ?_⟩) (by assumption) ?_
  rotate_left
  · (intro w hSw; (try dsimp only at hSw); go_simp; try with_reducible rfl)
  (try simp only [Act.put, List.setIfInBounds_toArray, List.set_cons_zero, List.set_cons_succ])
  refine take_first (v := ?_) 3 rfl (by kernel_rfl) (by kernel_rfl) (by kernel_rfl) (fun _ _ _ h => h) (Or.inl ⟨by rfl, ?_⟩) (by assumption) ?_
  rotate_left
  · (intro w hSw; (try dsimp only at hSw); have cv : (convert 35 9 (.slice (some ⟨(GA + 1), 0, none⟩) 12 12)).run Try.prog w = .ok (.string ⟨b.toArray⟩) w := run_string_of_rd (P := Try.prog) 35 9 5 12 Try.underlying35 Try.underlying5 Try.underlying9 (blk_all (Mem.blk hSw 0 rfl) HLB.out); go_simp; try with_reducible rfl)
  (try simp only [Act.put, List.setIfInBounds_toArray, List.set_cons_zero, List.set_cons_succ])
  refine take_first (v := ?_) 4 rfl (by kernel_rfl) (by kernel_rfl) (by kernel_rfl) (fun _ _ _ h => h) (Or.inl ⟨by rfl, ?_⟩) (by assumption) ?_
  rotate_left
  · (intro w hSw; (try dsimp only at hSw); go_simp; try with_reducible rfl)
  (try simp only [Act.put, List.setIfInBounds_toArray, List.set_cons_zero, List.set_cons_succ])
  refine take_first (v := ?_) 5 rfl (by kernel_rfl) (by kernel_rfl) (by kernel_rfl) (fun _ _ _ h => h) (Or.inl ⟨by rfl, ?_⟩) (by assumption) ?_
  rotate_left
  · (intro w hSw; (try dsimp only at hSw); go_simp; try with_reducible rfl)
  (try simp only [Act.put, List.setIfInBounds_toArray, List.set_cons_zero, List.set_cons_succ])
  refine wpAnyH_done (by kernel_rfl) ?_ _
  have HB := Lib.hid HM.out.bel
  clear HM hHeld
  go_wp2
  go_ret
  exact ⟨by have h := HE.out; simp at h ⊢; exact h, HB.out⟩
end Go.Proofs.Ytmbcohhnnlpnaaa
