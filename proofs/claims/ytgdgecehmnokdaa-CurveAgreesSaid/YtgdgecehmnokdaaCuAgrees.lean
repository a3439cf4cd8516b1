/-
  CurveAgrees returns true for every input, and changes nothing that was there: the walk, over what is asked of curve.Share, Public and Mul.
-/
import Derived.Test.YtgdgecehmnokdaaCells32
import Derived.Test.YtgdgecehmnokdaaCuC
namespace Go.Proofs.Ytgdgecehmnokdaa
open Go.RowKit

theorem wpList_build_as_g {P : Program} {ops : Array Oper} {rest : List Oper} {o : Oper} {a : Act} {w : World} {Q : Exit → Act → World → Prop} (hw : Region.wanted o (yielded ops a.tmps) = true) (t : TypeId) (parts : List (Nat × Operand)) (ho : o.op = .build t parts.toArray) (v : Array Value)
    (hb : P.built t (parts.map fun p => (p.1, a.eval p.2)) = some v) (h : wpList P ops Q rest (a.put o.dst (.agg v)) w) : wpList P ops Q (o :: rest) a w := by
  have e : (parts.toArray.map fun (i, x) => (i, a.eval x)).toList = parts.map fun p => (p.1, a.eval p.2) := by simp
  exact wpList_step fun K hK => by
    rw [if_pos hw]
    exact wp_build t parts.toArray ho (by rw [e, hb]; rfl) (by rw [e, hb]; exact hK _ _ h)

set_option maxRecDepth 100000 in
set_option maxHeartbeats 4000000 in
theorem cu_agrees_walk (HSC : CuShareC) (HPC : CuPublicC) (HMU : CuMulC) (w : World) (a b : List UInt8) (ha : a.length = 32) (hb0 : b.length = 32) :
    Calls Try.prog 5 #[.agg (a.map u8v).toArray, .agg (b.map u8v).toArray] w fun e w' => e = .returned (.bool true) ∧ Below w.heap.size w w' := by
  obtain ⟨i0, hi, hz0, hz1, hz2⟩ := info_parts Try.info5
  have S1 := fun W : World => HSC a (mulL b nineL) ha (mulL_length _ _) W
  have S2 := fun W : World => HSC b (mulL a nineL) hb0 (mulL_length _ _) W
  have P1 := fun W : World => HPC a ha W
  have P2 := fun W : World => HPC b hb0 W
  rw [mul_comm b a hb0 ha] at S2
  have hr := mulL_length a (mulL b nineL)
  generalize mulL a (mulL b nineL) = r at S1 S2 hr
  have e1 := fun w' : World => run_key_eq (P := Try.prog) 23 5 32 Try.underlying23 Try.underlying5 i0 hi hz1 r r hr hr w'
  rw [show (r == r) = true by simp] at e1
  have e2 := fun w' : World => run_key_eq (P := Try.prog) 23 5 32 Try.underlying23 Try.underlying5 i0 hi hz1 r zeroK hr rfl w'
  have hz := zero_built
  obtain ⟨ca, hca⟩ : ∃ c, (a.map u8v).toArray = c := ⟨_, rfl⟩
  obtain ⟨cb, hcb⟩ : ∃ c, (b.map u8v).toArray = c := ⟨_, rfl⟩
  obtain ⟨ma, hma⟩ : ∃ c, ((mulL a nineL).map u8v).toArray = c := ⟨_, rfl⟩
  obtain ⟨mb, hmb⟩ : ∃ c, ((mulL b nineL).map u8v).toArray = c := ⟨_, rfl⟩
  obtain ⟨cr, hcr⟩ : ∃ c, (r.map u8v).toArray = c := ⟨_, rfl⟩
  obtain ⟨cz, hcz⟩ : ∃ c, (zeroK.map u8v).toArray = c := ⟨_, rfl⟩
  rw [hca, hmb, hcr] at S1
  rw [hcb, hma, hcr] at S2
  rw [hca, hma] at P1
  rw [hcb, hmb] at P2
  rw [hcr] at e1
  rw [hcr, hcz] at e2
  rw [hcz] at hz
  rw [hca, hcb]
  have HM := Lib.hid (show Mem w [blkE (w.heap.size + 1) 23 (b.map u8v), blkE w.heap.size 23 (a.map u8v)] ((w.alloc (.cells ca 23)).alloc (.cells cb 23)) from ((Mem.nil w).alloc rfl 23 ca (a.map u8v) hca.symm).alloc (by simp) 23 cb (b.map u8v) hcb.symm)
  have HC := Lib.hid (And.intro hca (And.intro hcb hcr))
  have HL := Lib.hid (And.intro ha hb0)
  have HR := Lib.hid hr
  have HSa := Lib.hid S1
  have HSb := Lib.hid S2
  have HPa := Lib.hid P1
  have HPb := Lib.hid P2
  have HE1 := Lib.hid e1
  have HE2 := Lib.hid e2
  have HZ := Lib.hid hz
  have HBG := Lib.hid (fun W : World => cu_begun_any HMU W)
  obtain ⟨q, hq⟩ : ∃ q, (r == zeroK) = q := ⟨_, rfl⟩
  have HQ := Lib.hid hq
  have HER := Lib.hid (show shareE r = if q then 21 else 0 by rw [shareE, hq])
  obtain ⟨er, her⟩ : ∃ x, shareE r = x := ⟨_, rfl⟩
  rw [her] at HSa HSb HER
  clear S1 S2 P1 P2 e1 e2 hz hca hcb hma hmb hcr hcz ha hb0 hr HSC HPC HMU hq her
  go_enter Try.func5, Try.ntmps5
  go_upto_region 1 with fail
  generalize ((w.alloc (.cells ca 23)).alloc (.cells cb 23)) = w1 at HM ⊢
  go_cut [5, 6] (fun p q wx => ∃ P5, p = .pointer (some ⟨P5, 0, none⟩) ∧ q = .int .i64 (er : Int) ∧ Mem w [blkE P5 23 (r.map u8v), blkE (w.heap.size + 1) 23 (b.map u8v), blkE w.heap.size 23 (a.map u8v)] wx)
  case first =>
    refine wp_region_held_drew (S := fun W' => Mem w [blkE (w.heap.size + 1) 23 (b.map u8v), blkE w.heap.size 23 (a.map u8v)] W') (by kernel_rfl) (HM.out.drew) (fun hHeld => ?_)
    replace HM := Lib.hid HM.out.drew
    generalize w1.drew = wd1 at HM hHeld ⊢
    refine take_first (v := .agg ca) 0 rfl (by kernel_rfl) (by kernel_rfl) (by kernel_rfl) (fun _ _ _ h => h) (by rw [← HC.out.1]; exact yields_load_blk (by rfl) 23 (.tmp 2) rfl w.heap.size rfl 23 (a.map u8v) (fun w' hb => hb.blk 1 rfl) 32 5 Try.underlying23 (cells32 a HL.out.1)) (by assumption) ?_
    (try simp only [Act.put, List.setIfInBounds_toArray, List.set_cons_zero, List.set_cons_succ])
    refine take_first (v := .agg cb) 1 rfl (by kernel_rfl) (by kernel_rfl) (by kernel_rfl) (fun _ _ _ h => h) (by rw [← HC.out.2.1]; exact yields_load_blk (by rfl) 23 (.tmp 3) rfl (w.heap.size + 1) rfl 23 (b.map u8v) (fun w' hb => hb.blk 0 rfl) 32 5 Try.underlying23 (cells32 b HL.out.2)) (by assumption) ?_
    (try simp only [Act.put, List.setIfInBounds_toArray, List.set_cons_zero, List.set_cons_succ])
    refine step_two 2 7 rfl rfl (by kernel_rfl) (fun K hK => ?_) (fun K hK => ?_)
    · clear hHeld
      go_simp
      refine (HPb.out _).mono ?_
      rintro e wy2 ⟨rfl, hb⟩
      replace HM := Lib.hid (show Mem w [blkE (w.heap.size + 1) 23 (b.map u8v), blkE w.heap.size 23 (a.map u8v)] wy2 from HM.out.below hb)
      clear hb
      go_wp2_with fail
      refine hK.out _ _ (HM.out) (fun hHeld => ?_)
      clear hK K
      (try simp only [Act.put, List.setIfInBounds_toArray, List.set_cons_zero, List.set_cons_succ])
      refine step_two 3 7 rfl rfl (by kernel_rfl) (fun K hK => ?_) (fun K hK => ?_)
      · clear hHeld
        go_simp
        refine (HSa.out _).mono ?_
        rintro e wy3 ⟨rfl, hb⟩
        replace HM := Lib.hid (show Mem w [blkE (w.heap.size + 1) 23 (b.map u8v), blkE w.heap.size 23 (a.map u8v)] wy3 from HM.out.below hb)
        clear hb
        go_wp2_with fail
        refine hK.out _ _ (HM.out) (fun hHeld => ?_)
        clear hK K
        (try simp only [Act.put, List.setIfInBounds_toArray, List.set_cons_zero, List.set_cons_succ])
        refine take_first (v := ?_) 4 rfl (by kernel_rfl) (by kernel_rfl) (by kernel_rfl) (fun _ _ _ h => h) (Or.inl ⟨by rfl, ?_⟩) (by assumption) ?_
        rotate_left
        · (intro w hSw; (try dsimp only at hSw); go_simp; try with_reducible rfl)
        (try simp only [Act.put, List.setIfInBounds_toArray, List.set_cons_zero, List.set_cons_succ])
        refine take_first (v := ?_) 5 rfl (by kernel_rfl) (by kernel_rfl) (by kernel_rfl) (fun _ _ _ h => h) (Or.inl ⟨by rfl, ?_⟩) (by assumption) ?_
        rotate_left
        · (intro w hSw; (try dsimp only at hSw); go_simp; try with_reducible rfl)
        (try simp only [Act.put, List.setIfInBounds_toArray, List.set_cons_zero, List.set_cons_succ])
        refine take_first (v := ?_) 6 rfl (by kernel_rfl) (by kernel_rfl) (by kernel_rfl) (fun _ _ _ h => h) (Or.inl ⟨by rfl, ?_⟩) (by assumption) ?_
        rotate_left
        · (intro w hSw; (try dsimp only at hSw); go_simp; try with_reducible rfl)
        (try simp only [Act.put, List.setIfInBounds_toArray, List.set_cons_zero, List.set_cons_succ])
        refine step_one 7 rfl (by kernel_rfl) (fun K hK => ?_)
        clear hHeld
        go_simp
        replace HM := Lib.hid (show Mem w [blkE wy3.heap.size 23 (aeZ 32), blkE (w.heap.size + 1) 23 (b.map u8v), blkE w.heap.size 23 (a.map u8v)] (wy3.alloc (.cells #[.int .u8 0, .int .u8 0, .int .u8 0, .int .u8 0, .int .u8 0, .int .u8 0, .int .u8 0, .int .u8 0, .int .u8 0, .int .u8 0, .int .u8 0, .int .u8 0, .int .u8 0, .int .u8 0, .int .u8 0, .int .u8 0, .int .u8 0, .int .u8 0, .int .u8 0, .int .u8 0, .int .u8 0, .int .u8 0, .int .u8 0, .int .u8 0, .int .u8 0, .int .u8 0, .int .u8 0, .int .u8 0, .int .u8 0, .int .u8 0, .int .u8 0, .int .u8 0] 23)) from HM.out.alloc rfl 23 #[.int .u8 0, .int .u8 0, .int .u8 0, .int .u8 0, .int .u8 0, .int .u8 0, .int .u8 0, .int .u8 0, .int .u8 0, .int .u8 0, .int .u8 0, .int .u8 0, .int .u8 0, .int .u8 0, .int .u8 0, .int .u8 0, .int .u8 0, .int .u8 0, .int .u8 0, .int .u8 0, .int .u8 0, .int .u8 0, .int .u8 0, .int .u8 0, .int .u8 0, .int .u8 0, .int .u8 0, .int .u8 0, .int .u8 0, .int .u8 0, .int .u8 0, .int .u8 0] (aeZ 32) rfl)
        generalize wy3.alloc (.cells #[.int .u8 0, .int .u8 0, .int .u8 0, .int .u8 0, .int .u8 0, .int .u8 0, .int .u8 0, .int .u8 0, .int .u8 0, .int .u8 0, .int .u8 0, .int .u8 0, .int .u8 0, .int .u8 0, .int .u8 0, .int .u8 0, .int .u8 0, .int .u8 0, .int .u8 0, .int .u8 0, .int .u8 0, .int .u8 0, .int .u8 0, .int .u8 0, .int .u8 0, .int .u8 0, .int .u8 0, .int .u8 0, .int .u8 0, .int .u8 0, .int .u8 0, .int .u8 0] 23) = wy4 at HM ⊢
        generalize wy3.heap.size = P5 at HM ⊢
        refine hK.out _ _ ((HM.out.erase 0)) (fun hHeld => ?_)
        clear hK K
        (try simp only [Act.put, List.setIfInBounds_toArray, List.set_cons_zero, List.set_cons_succ])
        refine step_one 8 rfl (by kernel_rfl) (fun K hK => ?_)
        clear hHeld
        refine step_store_blk _ rfl 23 (.tmp 5) (.tmp 14) rfl P5 (r.map u8v) rfl (by show Value.agg cr = _; rw [HC.out.2.2]) 23 (aeZ 32) (HM.out.blk 0 rfl) (cells32 r HR.out) (by rw [List.length_map, HR.out]; rfl) (by intro v hv; obtain ⟨_, _, rfl⟩ := List.mem_map.1 hv; rfl) ?_
        intro wy5 hb hg
        replace HM := Lib.hid (show Mem w [blkE P5 23 (r.map u8v), blkE (w.heap.size + 1) 23 (b.map u8v), blkE w.heap.size 23 (a.map u8v)] wy5 from HM.out.put 0 rfl _ hg hb)
        clear hb hg
        refine hK.out _ _ ((HM.out.erase 0)) (fun hHeld => ?_)
        clear hK K
        (try simp only [Act.put])
        refine take_first (v := ?_) 9 rfl (by kernel_rfl) (by kernel_rfl) (by kernel_rfl) (fun _ _ _ h => h) (Or.inl ⟨by rfl, ?_⟩) (by assumption) ?_
        rotate_left
        · (intro w hSw; (try dsimp only at hSw); go_simp; try with_reducible rfl)
        (try simp only [Act.put, List.setIfInBounds_toArray, List.set_cons_zero, List.set_cons_succ])
        refine wpAnyH_done (by kernel_rfl) ?_ _
        go_wp2_with fail
        go_meet
        exact ⟨P5, rfl, rfl, HM.out⟩
      · clear hHeld
        go_simp
        replace HM := Lib.hid (show Mem w [blkE wy2.heap.size 23 (aeZ 32), blkE (w.heap.size + 1) 23 (b.map u8v), blkE w.heap.size 23 (a.map u8v)] (wy2.alloc (.cells #[.int .u8 0, .int .u8 0, .int .u8 0, .int .u8 0, .int .u8 0, .int .u8 0, .int .u8 0, .int .u8 0, .int .u8 0, .int .u8 0, .int .u8 0, .int .u8 0, .int .u8 0, .int .u8 0, .int .u8 0, .int .u8 0, .int .u8 0, .int .u8 0, .int .u8 0, .int .u8 0, .int .u8 0, .int .u8 0, .int .u8 0, .int .u8 0, .int .u8 0, .int .u8 0, .int .u8 0, .int .u8 0, .int .u8 0, .int .u8 0, .int .u8 0, .int .u8 0] 23)) from HM.out.alloc rfl 23 #[.int .u8 0, .int .u8 0, .int .u8 0, .int .u8 0, .int .u8 0, .int .u8 0, .int .u8 0, .int .u8 0, .int .u8 0, .int .u8 0, .int .u8 0, .int .u8 0, .int .u8 0, .int .u8 0, .int .u8 0, .int .u8 0, .int .u8 0, .int .u8 0, .int .u8 0, .int .u8 0, .int .u8 0, .int .u8 0, .int .u8 0, .int .u8 0, .int .u8 0, .int .u8 0, .int .u8 0, .int .u8 0, .int .u8 0, .int .u8 0, .int .u8 0, .int .u8 0] (aeZ 32) rfl)
        generalize wy2.alloc (.cells #[.int .u8 0, .int .u8 0, .int .u8 0, .int .u8 0, .int .u8 0, .int .u8 0, .int .u8 0, .int .u8 0, .int .u8 0, .int .u8 0, .int .u8 0, .int .u8 0, .int .u8 0, .int .u8 0, .int .u8 0, .int .u8 0, .int .u8 0, .int .u8 0, .int .u8 0, .int .u8 0, .int .u8 0, .int .u8 0, .int .u8 0, .int .u8 0, .int .u8 0, .int .u8 0, .int .u8 0, .int .u8 0, .int .u8 0, .int .u8 0, .int .u8 0, .int .u8 0] 23) = wy3 at HM ⊢
        generalize wy2.heap.size = P5 at HM ⊢
        refine hK.out _ _ ((HM.out.erase 0)) (fun hHeld => ?_)
        clear hK K
        (try simp only [Act.put, List.setIfInBounds_toArray, List.set_cons_zero, List.set_cons_succ])
        refine step_one 3 rfl (by kernel_rfl) (fun K hK => ?_)
        clear hHeld
        go_simp
        refine (HSa.out _).mono ?_
        rintro e wy4 ⟨rfl, hb⟩
        replace HM := Lib.hid (show Mem w [blkE P5 23 (aeZ 32), blkE (w.heap.size + 1) 23 (b.map u8v), blkE w.heap.size 23 (a.map u8v)] wy4 from HM.out.below hb)
        clear hb
        go_wp2_with fail
        refine hK.out _ _ ((HM.out.erase 0)) (fun hHeld => ?_)
        clear hK K
        (try simp only [Act.put, List.setIfInBounds_toArray, List.set_cons_zero, List.set_cons_succ])
        refine take_first (v := ?_) 4 rfl (by kernel_rfl) (by kernel_rfl) (by kernel_rfl) (fun _ _ _ h => h) (Or.inl ⟨by rfl, ?_⟩) (by assumption) ?_
        rotate_left
        · (intro w hSw; (try dsimp only at hSw); go_simp; try with_reducible rfl)
        (try simp only [Act.put, List.setIfInBounds_toArray, List.set_cons_zero, List.set_cons_succ])
        refine take_first (v := ?_) 5 rfl (by kernel_rfl) (by kernel_rfl) (by kernel_rfl) (fun _ _ _ h => h) (Or.inl ⟨by rfl, ?_⟩) (by assumption) ?_
        rotate_left
        · (intro w hSw; (try dsimp only at hSw); go_simp; try with_reducible rfl)
        (try simp only [Act.put, List.setIfInBounds_toArray, List.set_cons_zero, List.set_cons_succ])
        refine take_first (v := ?_) 6 rfl (by kernel_rfl) (by kernel_rfl) (by kernel_rfl) (fun _ _ _ h => h) (Or.inl ⟨by rfl, ?_⟩) (by assumption) ?_
        rotate_left
        · (intro w hSw; (try dsimp only at hSw); go_simp; try with_reducible rfl)
        (try simp only [Act.put, List.setIfInBounds_toArray, List.set_cons_zero, List.set_cons_succ])
        refine step_one 8 rfl (by kernel_rfl) (fun K hK => ?_)
        clear hHeld
        refine step_store_blk _ rfl 23 (.tmp 5) (.tmp 14) rfl P5 (r.map u8v) rfl (by show Value.agg cr = _; rw [HC.out.2.2]) 23 (aeZ 32) (HM.out.blk 0 rfl) (cells32 r HR.out) (by rw [List.length_map, HR.out]; rfl) (by intro v hv; obtain ⟨_, _, rfl⟩ := List.mem_map.1 hv; rfl) ?_
        intro wy5 hb hg
        replace HM := Lib.hid (show Mem w [blkE P5 23 (r.map u8v), blkE (w.heap.size + 1) 23 (b.map u8v), blkE w.heap.size 23 (a.map u8v)] wy5 from HM.out.put 0 rfl _ hg hb)
        clear hb hg
        refine hK.out _ _ ((HM.out.erase 0)) (fun hHeld => ?_)
        clear hK K
        (try simp only [Act.put])
        refine take_first (v := ?_) 9 rfl (by kernel_rfl) (by kernel_rfl) (by kernel_rfl) (fun _ _ _ h => h) (Or.inl ⟨by rfl, ?_⟩) (by assumption) ?_
        rotate_left
        · (intro w hSw; (try dsimp only at hSw); go_simp; try with_reducible rfl)
        (try simp only [Act.put, List.setIfInBounds_toArray, List.set_cons_zero, List.set_cons_succ])
        refine wpAnyH_done (by kernel_rfl) ?_ _
        go_wp2_with fail
        go_meet
        exact ⟨P5, rfl, rfl, HM.out⟩
    · clear hHeld
      go_simp
      replace HM := Lib.hid (show Mem w [blkE wd1.heap.size 23 (aeZ 32), blkE (w.heap.size + 1) 23 (b.map u8v), blkE w.heap.size 23 (a.map u8v)] (wd1.alloc (.cells #[.int .u8 0, .int .u8 0, .int .u8 0, .int .u8 0, .int .u8 0, .int .u8 0, .int .u8 0, .int .u8 0, .int .u8 0, .int .u8 0, .int .u8 0, .int .u8 0, .int .u8 0, .int .u8 0, .int .u8 0, .int .u8 0, .int .u8 0, .int .u8 0, .int .u8 0, .int .u8 0, .int .u8 0, .int .u8 0, .int .u8 0, .int .u8 0, .int .u8 0, .int .u8 0, .int .u8 0, .int .u8 0, .int .u8 0, .int .u8 0, .int .u8 0, .int .u8 0] 23)) from HM.out.alloc rfl 23 #[.int .u8 0, .int .u8 0, .int .u8 0, .int .u8 0, .int .u8 0, .int .u8 0, .int .u8 0, .int .u8 0, .int .u8 0, .int .u8 0, .int .u8 0, .int .u8 0, .int .u8 0, .int .u8 0, .int .u8 0, .int .u8 0, .int .u8 0, .int .u8 0, .int .u8 0, .int .u8 0, .int .u8 0, .int .u8 0, .int .u8 0, .int .u8 0, .int .u8 0, .int .u8 0, .int .u8 0, .int .u8 0, .int .u8 0, .int .u8 0, .int .u8 0, .int .u8 0] (aeZ 32) rfl)
      generalize wd1.alloc (.cells #[.int .u8 0, .int .u8 0, .int .u8 0, .int .u8 0, .int .u8 0, .int .u8 0, .int .u8 0, .int .u8 0, .int .u8 0, .int .u8 0, .int .u8 0, .int .u8 0, .int .u8 0, .int .u8 0, .int .u8 0, .int .u8 0, .int .u8 0, .int .u8 0, .int .u8 0, .int .u8 0, .int .u8 0, .int .u8 0, .int .u8 0, .int .u8 0, .int .u8 0, .int .u8 0, .int .u8 0, .int .u8 0, .int .u8 0, .int .u8 0, .int .u8 0, .int .u8 0] 23) = wy2 at HM ⊢
      generalize wd1.heap.size = P5 at HM ⊢
      refine hK.out _ _ ((HM.out.erase 0)) (fun hHeld => ?_)
      clear hK K
      (try simp only [Act.put, List.setIfInBounds_toArray, List.set_cons_zero, List.set_cons_succ])
      refine step_one 2 rfl (by kernel_rfl) (fun K hK => ?_)
      clear hHeld
      go_simp
      refine (HPb.out _).mono ?_
      rintro e wy3 ⟨rfl, hb⟩
      replace HM := Lib.hid (show Mem w [blkE P5 23 (aeZ 32), blkE (w.heap.size + 1) 23 (b.map u8v), blkE w.heap.size 23 (a.map u8v)] wy3 from HM.out.below hb)
      clear hb
      go_wp2_with fail
      refine hK.out _ _ ((HM.out.erase 0)) (fun hHeld => ?_)
      clear hK K
      (try simp only [Act.put, List.setIfInBounds_toArray, List.set_cons_zero, List.set_cons_succ])
      refine step_one 3 rfl (by kernel_rfl) (fun K hK => ?_)
      clear hHeld
      go_simp
      refine (HSa.out _).mono ?_
      rintro e wy4 ⟨rfl, hb⟩
      replace HM := Lib.hid (show Mem w [blkE P5 23 (aeZ 32), blkE (w.heap.size + 1) 23 (b.map u8v), blkE w.heap.size 23 (a.map u8v)] wy4 from HM.out.below hb)
      clear hb
      go_wp2_with fail
      refine hK.out _ _ ((HM.out.erase 0)) (fun hHeld => ?_)
      clear hK K
      (try simp only [Act.put, List.setIfInBounds_toArray, List.set_cons_zero, List.set_cons_succ])
      refine take_first (v := ?_) 4 rfl (by kernel_rfl) (by kernel_rfl) (by kernel_rfl) (fun _ _ _ h => h) (Or.inl ⟨by rfl, ?_⟩) (by assumption) ?_
      rotate_left
      · (intro w hSw; (try dsimp only at hSw); go_simp; try with_reducible rfl)
      (try simp only [Act.put, List.setIfInBounds_toArray, List.set_cons_zero, List.set_cons_succ])
      refine take_first (v := ?_) 5 rfl (by kernel_rfl) (by kernel_rfl) (by kernel_rfl) (fun _ _ _ h => h) (Or.inl ⟨by rfl, ?_⟩) (by assumption) ?_
      rotate_left
      · (intro w hSw; (try dsimp only at hSw); go_simp; try with_reducible rfl)
      (try simp only [Act.put, List.setIfInBounds_toArray, List.set_cons_zero, List.set_cons_succ])
      refine take_first (v := ?_) 6 rfl (by kernel_rfl) (by kernel_rfl) (by kernel_rfl) (fun _ _ _ h => h) (Or.inl ⟨by rfl, ?_⟩) (by assumption) ?_
      rotate_left
      · (intro w hSw; (try dsimp only at hSw); go_simp; try with_reducible rfl)
      (try simp only [Act.put, List.setIfInBounds_toArray, List.set_cons_zero, List.set_cons_succ])
      refine step_one 8 rfl (by kernel_rfl) (fun K hK => ?_)
      clear hHeld
      refine step_store_blk _ rfl 23 (.tmp 5) (.tmp 14) rfl P5 (r.map u8v) rfl (by show Value.agg cr = _; rw [HC.out.2.2]) 23 (aeZ 32) (HM.out.blk 0 rfl) (cells32 r HR.out) (by rw [List.length_map, HR.out]; rfl) (by intro v hv; obtain ⟨_, _, rfl⟩ := List.mem_map.1 hv; rfl) ?_
      intro wy5 hb hg
      replace HM := Lib.hid (show Mem w [blkE P5 23 (r.map u8v), blkE (w.heap.size + 1) 23 (b.map u8v), blkE w.heap.size 23 (a.map u8v)] wy5 from HM.out.put 0 rfl _ hg hb)
      clear hb hg
      refine hK.out _ _ ((HM.out.erase 0)) (fun hHeld => ?_)
      clear hK K
      (try simp only [Act.put])
      refine take_first (v := ?_) 9 rfl (by kernel_rfl) (by kernel_rfl) (by kernel_rfl) (fun _ _ _ h => h) (Or.inl ⟨by rfl, ?_⟩) (by assumption) ?_
      rotate_left
      · (intro w hSw; (try dsimp only at hSw); go_simp; try with_reducible rfl)
      (try simp only [Act.put, List.setIfInBounds_toArray, List.set_cons_zero, List.set_cons_succ])
      refine wpAnyH_done (by kernel_rfl) ?_ _
      go_wp2_with fail
      go_meet
      exact ⟨P5, rfl, rfl, HM.out⟩
  case rest =>
  clear HM
  obtain ⟨P5, rfl, rfl, hM⟩ := hcut
  have HM := Lib.hid hM
  clear hM
  revert wc
  intro w1 HM
  go_upto_region 2 with fail
  go_cut [7, 8] (fun p q wx => ∃ P7, p = .pointer (some ⟨P7, 0, none⟩) ∧ q = .int .i64 (er : Int) ∧ Mem w [blkE P7 23 (r.map u8v), blkE P5 23 (r.map u8v), blkE (w.heap.size + 1) 23 (b.map u8v), blkE w.heap.size 23 (a.map u8v)] wx)
  case first =>
    refine wp_region_held_drew (S := fun W' => Mem w [blkE P5 23 (r.map u8v), blkE (w.heap.size + 1) 23 (b.map u8v), blkE w.heap.size 23 (a.map u8v)] W') (by kernel_rfl) (HM.out.drew) (fun hHeld => ?_)
    replace HM := Lib.hid HM.out.drew
    generalize w1.drew = wd1 at HM hHeld ⊢
    refine take_first (v := .agg cb) 0 rfl (by kernel_rfl) (by kernel_rfl) (by kernel_rfl) (fun _ _ _ h => h) (by rw [← HC.out.2.1]; exact yields_load_blk (by rfl) 23 (.tmp 3) rfl (w.heap.size + 1) rfl 23 (b.map u8v) (fun w' hb => hb.blk 1 rfl) 32 5 Try.underlying23 (cells32 b HL.out.2)) (by assumption) ?_
    (try simp only [Act.put, List.setIfInBounds_toArray, List.set_cons_zero, List.set_cons_succ])
    refine take_first (v := .agg ca) 1 rfl (by kernel_rfl) (by kernel_rfl) (by kernel_rfl) (fun _ _ _ h => h) (by rw [← HC.out.1]; exact yields_load_blk (by rfl) 23 (.tmp 2) rfl w.heap.size rfl 23 (a.map u8v) (fun w' hb => hb.blk 2 rfl) 32 5 Try.underlying23 (cells32 a HL.out.1)) (by assumption) ?_
    (try simp only [Act.put, List.setIfInBounds_toArray, List.set_cons_zero, List.set_cons_succ])
    refine step_two 2 7 rfl rfl (by kernel_rfl) (fun K hK => ?_) (fun K hK => ?_)
    · clear hHeld
      go_simp
      refine (HPa.out _).mono ?_
      rintro e wy2 ⟨rfl, hb⟩
      replace HM := Lib.hid (show Mem w [blkE P5 23 (r.map u8v), blkE (w.heap.size + 1) 23 (b.map u8v), blkE w.heap.size 23 (a.map u8v)] wy2 from HM.out.below hb)
      clear hb
      go_wp2_with fail
      refine hK.out _ _ (HM.out) (fun hHeld => ?_)
      clear hK K
      (try simp only [Act.put, List.setIfInBounds_toArray, List.set_cons_zero, List.set_cons_succ])
      refine step_two 3 7 rfl rfl (by kernel_rfl) (fun K hK => ?_) (fun K hK => ?_)
      · clear hHeld
        go_simp
        refine (HSb.out _).mono ?_
        rintro e wy3 ⟨rfl, hb⟩
        replace HM := Lib.hid (show Mem w [blkE P5 23 (r.map u8v), blkE (w.heap.size + 1) 23 (b.map u8v), blkE w.heap.size 23 (a.map u8v)] wy3 from HM.out.below hb)
        clear hb
        go_wp2_with fail
        refine hK.out _ _ (HM.out) (fun hHeld => ?_)
        clear hK K
        (try simp only [Act.put, List.setIfInBounds_toArray, List.set_cons_zero, List.set_cons_succ])
        refine take_first (v := ?_) 4 rfl (by kernel_rfl) (by kernel_rfl) (by kernel_rfl) (fun _ _ _ h => h) (Or.inl ⟨by rfl, ?_⟩) (by assumption) ?_
        rotate_left
        · (intro w hSw; (try dsimp only at hSw); go_simp; try with_reducible rfl)
        (try simp only [Act.put, List.setIfInBounds_toArray, List.set_cons_zero, List.set_cons_succ])
        refine take_first (v := ?_) 5 rfl (by kernel_rfl) (by kernel_rfl) (by kernel_rfl) (fun _ _ _ h => h) (Or.inl ⟨by rfl, ?_⟩) (by assumption) ?_
        rotate_left
        · (intro w hSw; (try dsimp only at hSw); go_simp; try with_reducible rfl)
        (try simp only [Act.put, List.setIfInBounds_toArray, List.set_cons_zero, List.set_cons_succ])
        refine take_first (v := ?_) 6 rfl (by kernel_rfl) (by kernel_rfl) (by kernel_rfl) (fun _ _ _ h => h) (Or.inl ⟨by rfl, ?_⟩) (by assumption) ?_
        rotate_left
        · (intro w hSw; (try dsimp only at hSw); go_simp; try with_reducible rfl)
        (try simp only [Act.put, List.setIfInBounds_toArray, List.set_cons_zero, List.set_cons_succ])
        refine step_one 7 rfl (by kernel_rfl) (fun K hK => ?_)
        clear hHeld
        go_simp
        replace HM := Lib.hid (show Mem w [blkE wy3.heap.size 23 (aeZ 32), blkE P5 23 (r.map u8v), blkE (w.heap.size + 1) 23 (b.map u8v), blkE w.heap.size 23 (a.map u8v)] (wy3.alloc (.cells #[.int .u8 0, .int .u8 0, .int .u8 0, .int .u8 0, .int .u8 0, .int .u8 0, .int .u8 0, .int .u8 0, .int .u8 0, .int .u8 0, .int .u8 0, .int .u8 0, .int .u8 0, .int .u8 0, .int .u8 0, .int .u8 0, .int .u8 0, .int .u8 0, .int .u8 0, .int .u8 0, .int .u8 0, .int .u8 0, .int .u8 0, .int .u8 0, .int .u8 0, .int .u8 0, .int .u8 0, .int .u8 0, .int .u8 0, .int .u8 0, .int .u8 0, .int .u8 0] 23)) from HM.out.alloc rfl 23 #[.int .u8 0, .int .u8 0, .int .u8 0, .int .u8 0, .int .u8 0, .int .u8 0, .int .u8 0, .int .u8 0, .int .u8 0, .int .u8 0, .int .u8 0, .int .u8 0, .int .u8 0, .int .u8 0, .int .u8 0, .int .u8 0, .int .u8 0, .int .u8 0, .int .u8 0, .int .u8 0, .int .u8 0, .int .u8 0, .int .u8 0, .int .u8 0, .int .u8 0, .int .u8 0, .int .u8 0, .int .u8 0, .int .u8 0, .int .u8 0, .int .u8 0, .int .u8 0] (aeZ 32) rfl)
        generalize wy3.alloc (.cells #[.int .u8 0, .int .u8 0, .int .u8 0, .int .u8 0, .int .u8 0, .int .u8 0, .int .u8 0, .int .u8 0, .int .u8 0, .int .u8 0, .int .u8 0, .int .u8 0, .int .u8 0, .int .u8 0, .int .u8 0, .int .u8 0, .int .u8 0, .int .u8 0, .int .u8 0, .int .u8 0, .int .u8 0, .int .u8 0, .int .u8 0, .int .u8 0, .int .u8 0, .int .u8 0, .int .u8 0, .int .u8 0, .int .u8 0, .int .u8 0, .int .u8 0, .int .u8 0] 23) = wy4 at HM ⊢
        generalize wy3.heap.size = P7 at HM ⊢
        refine hK.out _ _ ((HM.out.erase 0)) (fun hHeld => ?_)
        clear hK K
        (try simp only [Act.put, List.setIfInBounds_toArray, List.set_cons_zero, List.set_cons_succ])
        refine step_one 8 rfl (by kernel_rfl) (fun K hK => ?_)
        clear hHeld
        refine step_store_blk _ rfl 23 (.tmp 7) (.tmp 21) rfl P7 (r.map u8v) rfl (by show Value.agg cr = _; rw [HC.out.2.2]) 23 (aeZ 32) (HM.out.blk 0 rfl) (cells32 r HR.out) (by rw [List.length_map, HR.out]; rfl) (by intro v hv; obtain ⟨_, _, rfl⟩ := List.mem_map.1 hv; rfl) ?_
        intro wy5 hb hg
        replace HM := Lib.hid (show Mem w [blkE P7 23 (r.map u8v), blkE P5 23 (r.map u8v), blkE (w.heap.size + 1) 23 (b.map u8v), blkE w.heap.size 23 (a.map u8v)] wy5 from HM.out.put 0 rfl _ hg hb)
        clear hb hg
        refine hK.out _ _ ((HM.out.erase 0)) (fun hHeld => ?_)
        clear hK K
        (try simp only [Act.put])
        refine take_first (v := ?_) 9 rfl (by kernel_rfl) (by kernel_rfl) (by kernel_rfl) (fun _ _ _ h => h) (Or.inl ⟨by rfl, ?_⟩) (by assumption) ?_
        rotate_left
        · (intro w hSw; (try dsimp only at hSw); go_simp; try with_reducible rfl)
        (try simp only [Act.put, List.setIfInBounds_toArray, List.set_cons_zero, List.set_cons_succ])
        refine wpAnyH_done (by kernel_rfl) ?_ _
        go_wp2_with fail
        go_meet
        exact ⟨P7, rfl, rfl, HM.out⟩
      · clear hHeld
        go_simp
        replace HM := Lib.hid (show Mem w [blkE wy2.heap.size 23 (aeZ 32), blkE P5 23 (r.map u8v), blkE (w.heap.size + 1) 23 (b.map u8v), blkE w.heap.size 23 (a.map u8v)] (wy2.alloc (.cells #[.int .u8 0, .int .u8 0, .int .u8 0, .int .u8 0, .int .u8 0, .int .u8 0, .int .u8 0, .int .u8 0, .int .u8 0, .int .u8 0, .int .u8 0, .int .u8 0, .int .u8 0, .int .u8 0, .int .u8 0, .int .u8 0, .int .u8 0, .int .u8 0, .int .u8 0, .int .u8 0, .int .u8 0, .int .u8 0, .int .u8 0, .int .u8 0, .int .u8 0, .int .u8 0, .int .u8 0, .int .u8 0, .int .u8 0, .int .u8 0, .int .u8 0, .int .u8 0] 23)) from HM.out.alloc rfl 23 #[.int .u8 0, .int .u8 0, .int .u8 0, .int .u8 0, .int .u8 0, .int .u8 0, .int .u8 0, .int .u8 0, .int .u8 0, .int .u8 0, .int .u8 0, .int .u8 0, .int .u8 0, .int .u8 0, .int .u8 0, .int .u8 0, .int .u8 0, .int .u8 0, .int .u8 0, .int .u8 0, .int .u8 0, .int .u8 0, .int .u8 0, .int .u8 0, .int .u8 0, .int .u8 0, .int .u8 0, .int .u8 0, .int .u8 0, .int .u8 0, .int .u8 0, .int .u8 0] (aeZ 32) rfl)
        generalize wy2.alloc (.cells #[.int .u8 0, .int .u8 0, .int .u8 0, .int .u8 0, .int .u8 0, .int .u8 0, .int .u8 0, .int .u8 0, .int .u8 0, .int .u8 0, .int .u8 0, .int .u8 0, .int .u8 0, .int .u8 0, .int .u8 0, .int .u8 0, .int .u8 0, .int .u8 0, .int .u8 0, .int .u8 0, .int .u8 0, .int .u8 0, .int .u8 0, .int .u8 0, .int .u8 0, .int .u8 0, .int .u8 0, .int .u8 0, .int .u8 0, .int .u8 0, .int .u8 0, .int .u8 0] 23) = wy3 at HM ⊢
        generalize wy2.heap.size = P7 at HM ⊢
        refine hK.out _ _ ((HM.out.erase 0)) (fun hHeld => ?_)
        clear hK K
        (try simp only [Act.put, List.setIfInBounds_toArray, List.set_cons_zero, List.set_cons_succ])
        refine step_one 3 rfl (by kernel_rfl) (fun K hK => ?_)
        clear hHeld
        go_simp
        refine (HSb.out _).mono ?_
        rintro e wy4 ⟨rfl, hb⟩
        replace HM := Lib.hid (show Mem w [blkE P7 23 (aeZ 32), blkE P5 23 (r.map u8v), blkE (w.heap.size + 1) 23 (b.map u8v), blkE w.heap.size 23 (a.map u8v)] wy4 from HM.out.below hb)
        clear hb
        go_wp2_with fail
        refine hK.out _ _ ((HM.out.erase 0)) (fun hHeld => ?_)
        clear hK K
        (try simp only [Act.put, List.setIfInBounds_toArray, List.set_cons_zero, List.set_cons_succ])
        refine take_first (v := ?_) 4 rfl (by kernel_rfl) (by kernel_rfl) (by kernel_rfl) (fun _ _ _ h => h) (Or.inl ⟨by rfl, ?_⟩) (by assumption) ?_
        rotate_left
        · (intro w hSw; (try dsimp only at hSw); go_simp; try with_reducible rfl)
        (try simp only [Act.put, List.setIfInBounds_toArray, List.set_cons_zero, List.set_cons_succ])
        refine take_first (v := ?_) 5 rfl (by kernel_rfl) (by kernel_rfl) (by kernel_rfl) (fun _ _ _ h => h) (Or.inl ⟨by rfl, ?_⟩) (by assumption) ?_
        rotate_left
        · (intro w hSw; (try dsimp only at hSw); go_simp; try with_reducible rfl)
        (try simp only [Act.put, List.setIfInBounds_toArray, List.set_cons_zero, List.set_cons_succ])
        refine take_first (v := ?_) 6 rfl (by kernel_rfl) (by kernel_rfl) (by kernel_rfl) (fun _ _ _ h => h) (Or.inl ⟨by rfl, ?_⟩) (by assumption) ?_
        rotate_left
        · (intro w hSw; (try dsimp only at hSw); go_simp; try with_reducible rfl)
        (try simp only [Act.put, List.setIfInBounds_toArray, List.set_cons_zero, List.set_cons_succ])
        refine step_one 8 rfl (by kernel_rfl) (fun K hK => ?_)
        clear hHeld
        refine step_store_blk _ rfl 23 (.tmp 7) (.tmp 21) rfl P7 (r.map u8v) rfl (by show Value.agg cr = _; rw [HC.out.2.2]) 23 (aeZ 32) (HM.out.blk 0 rfl) (cells32 r HR.out) (by rw [List.length_map, HR.out]; rfl) (by intro v hv; obtain ⟨_, _, rfl⟩ := List.mem_map.1 hv; rfl) ?_
        intro wy5 hb hg
        replace HM := Lib.hid (show Mem w [blkE P7 23 (r.map u8v), blkE P5 23 (r.map u8v), blkE (w.heap.size + 1) 23 (b.map u8v), blkE w.heap.size 23 (a.map u8v)] wy5 from HM.out.put 0 rfl _ hg hb)
        clear hb hg
        refine hK.out _ _ ((HM.out.erase 0)) (fun hHeld => ?_)
        clear hK K
        (try simp only [Act.put])
        refine take_first (v := ?_) 9 rfl (by kernel_rfl) (by kernel_rfl) (by kernel_rfl) (fun _ _ _ h => h) (Or.inl ⟨by rfl, ?_⟩) (by assumption) ?_
        rotate_left
        · (intro w hSw; (try dsimp only at hSw); go_simp; try with_reducible rfl)
        (try simp only [Act.put, List.setIfInBounds_toArray, List.set_cons_zero, List.set_cons_succ])
        refine wpAnyH_done (by kernel_rfl) ?_ _
        go_wp2_with fail
        go_meet
        exact ⟨P7, rfl, rfl, HM.out⟩
    · clear hHeld
      go_simp
      replace HM := Lib.hid (show Mem w [blkE wd1.heap.size 23 (aeZ 32), blkE P5 23 (r.map u8v), blkE (w.heap.size + 1) 23 (b.map u8v), blkE w.heap.size 23 (a.map u8v)] (wd1.alloc (.cells #[.int .u8 0, .int .u8 0, .int .u8 0, .int .u8 0, .int .u8 0, .int .u8 0, .int .u8 0, .int .u8 0, .int .u8 0, .int .u8 0, .int .u8 0, .int .u8 0, .int .u8 0, .int .u8 0, .int .u8 0, .int .u8 0, .int .u8 0, .int .u8 0, .int .u8 0, .int .u8 0, .int .u8 0, .int .u8 0, .int .u8 0, .int .u8 0, .int .u8 0, .int .u8 0, .int .u8 0, .int .u8 0, .int .u8 0, .int .u8 0, .int .u8 0, .int .u8 0] 23)) from HM.out.alloc rfl 23 #[.int .u8 0, .int .u8 0, .int .u8 0, .int .u8 0, .int .u8 0, .int .u8 0, .int .u8 0, .int .u8 0, .int .u8 0, .int .u8 0, .int .u8 0, .int .u8 0, .int .u8 0, .int .u8 0, .int .u8 0, .int .u8 0, .int .u8 0, .int .u8 0, .int .u8 0, .int .u8 0, .int .u8 0, .int .u8 0, .int .u8 0, .int .u8 0, .int .u8 0, .int .u8 0, .int .u8 0, .int .u8 0, .int .u8 0, .int .u8 0, .int .u8 0, .int .u8 0] (aeZ 32) rfl)
      generalize wd1.alloc (.cells #[.int .u8 0, .int .u8 0, .int .u8 0, .int .u8 0, .int .u8 0, .int .u8 0, .int .u8 0, .int .u8 0, .int .u8 0, .int .u8 0, .int .u8 0, .int .u8 0, .int .u8 0, .int .u8 0, .int .u8 0, .int .u8 0, .int .u8 0, .int .u8 0, .int .u8 0, .int .u8 0, .int .u8 0, .int .u8 0, .int .u8 0, .int .u8 0, .int .u8 0, .int .u8 0, .int .u8 0, .int .u8 0, .int .u8 0, .int .u8 0, .int .u8 0, .int .u8 0] 23) = wy2 at HM ⊢
      generalize wd1.heap.size = P7 at HM ⊢
      refine hK.out _ _ ((HM.out.erase 0)) (fun hHeld => ?_)
      clear hK K
      (try simp only [Act.put, List.setIfInBounds_toArray, List.set_cons_zero, List.set_cons_succ])
      refine step_one 2 rfl (by kernel_rfl) (fun K hK => ?_)
      clear hHeld
      go_simp
      refine (HPa.out _).mono ?_
      rintro e wy3 ⟨rfl, hb⟩
      replace HM := Lib.hid (show Mem w [blkE P7 23 (aeZ 32), blkE P5 23 (r.map u8v), blkE (w.heap.size + 1) 23 (b.map u8v), blkE w.heap.size 23 (a.map u8v)] wy3 from HM.out.below hb)
      clear hb
      go_wp2_with fail
      refine hK.out _ _ ((HM.out.erase 0)) (fun hHeld => ?_)
      clear hK K
      (try simp only [Act.put, List.setIfInBounds_toArray, List.set_cons_zero, List.set_cons_succ])
      refine step_one 3 rfl (by kernel_rfl) (fun K hK => ?_)
      clear hHeld
      go_simp
      refine (HSb.out _).mono ?_
      rintro e wy4 ⟨rfl, hb⟩
      replace HM := Lib.hid (show Mem w [blkE P7 23 (aeZ 32), blkE P5 23 (r.map u8v), blkE (w.heap.size + 1) 23 (b.map u8v), blkE w.heap.size 23 (a.map u8v)] wy4 from HM.out.below hb)
      clear hb
      go_wp2_with fail
      refine hK.out _ _ ((HM.out.erase 0)) (fun hHeld => ?_)
      clear hK K
      (try simp only [Act.put, List.setIfInBounds_toArray, List.set_cons_zero, List.set_cons_succ])
      refine take_first (v := ?_) 4 rfl (by kernel_rfl) (by kernel_rfl) (by kernel_rfl) (fun _ _ _ h => h) (Or.inl ⟨by rfl, ?_⟩) (by assumption) ?_
      rotate_left
      · (intro w hSw; (try dsimp only at hSw); go_simp; try with_reducible rfl)
      (try simp only [Act.put, List.setIfInBounds_toArray, List.set_cons_zero, List.set_cons_succ])
      refine take_first (v := ?_) 5 rfl (by kernel_rfl) (by kernel_rfl) (by kernel_rfl) (fun _ _ _ h => h) (Or.inl ⟨by rfl, ?_⟩) (by assumption) ?_
      rotate_left
      · (intro w hSw; (try dsimp only at hSw); go_simp; try with_reducible rfl)
      (try simp only [Act.put, List.setIfInBounds_toArray, List.set_cons_zero, List.set_cons_succ])
      refine take_first (v := ?_) 6 rfl (by kernel_rfl) (by kernel_rfl) (by kernel_rfl) (fun _ _ _ h => h) (Or.inl ⟨by rfl, ?_⟩) (by assumption) ?_
      rotate_left
      · (intro w hSw; (try dsimp only at hSw); go_simp; try with_reducible rfl)
      (try simp only [Act.put, List.setIfInBounds_toArray, List.set_cons_zero, List.set_cons_succ])
      refine step_one 8 rfl (by kernel_rfl) (fun K hK => ?_)
      clear hHeld
      refine step_store_blk _ rfl 23 (.tmp 7) (.tmp 21) rfl P7 (r.map u8v) rfl (by show Value.agg cr = _; rw [HC.out.2.2]) 23 (aeZ 32) (HM.out.blk 0 rfl) (cells32 r HR.out) (by rw [List.length_map, HR.out]; rfl) (by intro v hv; obtain ⟨_, _, rfl⟩ := List.mem_map.1 hv; rfl) ?_
      intro wy5 hb hg
      replace HM := Lib.hid (show Mem w [blkE P7 23 (r.map u8v), blkE P5 23 (r.map u8v), blkE (w.heap.size + 1) 23 (b.map u8v), blkE w.heap.size 23 (a.map u8v)] wy5 from HM.out.put 0 rfl _ hg hb)
      clear hb hg
      refine hK.out _ _ ((HM.out.erase 0)) (fun hHeld => ?_)
      clear hK K
      (try simp only [Act.put])
      refine take_first (v := ?_) 9 rfl (by kernel_rfl) (by kernel_rfl) (by kernel_rfl) (fun _ _ _ h => h) (Or.inl ⟨by rfl, ?_⟩) (by assumption) ?_
      rotate_left
      · (intro w hSw; (try dsimp only at hSw); go_simp; try with_reducible rfl)
      (try simp only [Act.put, List.setIfInBounds_toArray, List.set_cons_zero, List.set_cons_succ])
      refine wpAnyH_done (by kernel_rfl) ?_ _
      go_wp2_with fail
      go_meet
      exact ⟨P7, rfl, rfl, HM.out⟩
  case rest =>
  clear HM
  obtain ⟨P7, rfl, rfl, hM⟩ := hcut
  have HM := Lib.hid hM
  clear hM
  have e1 := HE1.out
  have e2 := HE2.out
  rw [HQ.out] at e2
  have hee : ((er : Int) == (er : Int)) = true := by simp
  cases q with
  | true =>
    have he := HER.out
    rw [if_pos rfl] at he
    subst he
    go_wp2_with (first | (refine wpList_load_blk_g (by rfl) 23 (.tmp 5) rfl P5 rfl 23 (r.map u8v) (HM.out.blk 1 rfl) 32 5 Try.underlying23 (cells32 r HR.out) ?_; rw [HC.out.2.2]) | (refine wpList_load_blk_g (by rfl) 23 (.tmp 7) rfl P7 rfl 23 (r.map u8v) (HM.out.blk 0 rfl) 32 5 Try.underlying23 (cells32 r HR.out) ?_; rw [HC.out.2.2]) | (refine wpList_build_as_g (by rfl) 23 [] rfl cz HZ.out ?_))
    refine (HBG.out _).mono ?_
    rintro e w9 ⟨rfl, hb⟩
    have HF := Lib.hid (HM.out.below hb).bel
    clear hb HM
    go_wp2_with fail
    go_ret
    exact ⟨rfl, HF.out⟩
  | false =>
    have he := HER.out
    rw [if_neg (by decide)] at he
    subst he
    go_wp2_with (first | (refine wpList_load_blk_g (by rfl) 23 (.tmp 5) rfl P5 rfl 23 (r.map u8v) (HM.out.blk 1 rfl) 32 5 Try.underlying23 (cells32 r HR.out) ?_; rw [HC.out.2.2]) | (refine wpList_load_blk_g (by rfl) 23 (.tmp 7) rfl P7 rfl 23 (r.map u8v) (HM.out.blk 0 rfl) 32 5 Try.underlying23 (cells32 r HR.out) ?_; rw [HC.out.2.2]) | (refine wpList_build_as_g (by rfl) 23 [] rfl cz HZ.out ?_))
    refine (HBG.out _).mono ?_
    rintro e w9 ⟨rfl, hb⟩
    have HF := Lib.hid (HM.out.below hb).bel
    clear hb HM
    go_wp2_with fail
    go_ret
    exact ⟨rfl, HF.out⟩
end Go.Proofs.Ytgdgecehmnokdaa
