/-
  The contract of the program's step: one step of the ladder. No statement is proved here.
-/
import Derived.Test.YtgdgecehmnokdaaCvRung
namespace Go.Proofs.Ytgdgecehmnokdaa.Cv
open Go.RowKit

def LadN (a b c d : List Nat) : Cu.Lad := ⟨Cu.fq (val a : Int), Cu.fq (val b : Int), Cu.fq (val c : Int), Cu.fq (val d : Int)⟩
def kL : List Nat := [121665, 0, 0, 0, 0]
theorem kL_loose : LooseN kL := ⟨rfl, fun i => by
  by_cases h : i < 5
  · have hi : i = 0 ∨ i = 1 ∨ i = 2 ∨ i = 3 ∨ i = 4 := by omega
    rcases hi with rfl | rfl | rfl | rfl | rfl <;> decide
  · rw [dg_high _ _ (by simp [kL]; omega)]; omega⟩
theorem kL_val : Cu.fq (val kL : Int) = Cu.fqC := by decide +kernel
theorem kL_built : Try.prog.built 51 [(0, .int .u64 121665)] = some (kL.map uv).toArray := by kernel_rfl
theorem multiply_ex (x y : List Nat) (hx : LooseN x) (hy : LooseN y) (w : World) :
    Calls Try.prog 30 #[.agg (x.map uv).toArray, .agg (y.map uv).toArray] w fun e w' => ∃ r, SmallN r ∧ Cu.fq (val r : Int) = Cu.fq (val x : Int) * Cu.fq (val y : Int) ∧ e = .returned (.agg (r.map uv).toArray) ∧ Below w.heap.size w w' :=
  (multiply_any x y hx hy w).mono fun _ _ h => ⟨mulN x y, mulN_small x y hx hy, mulN_fq x y, h.1, h.2⟩

set_option maxRecDepth 100000 in
set_option maxHeartbeats 8000000 in
theorem step_any (x2 z2 x3 z3 x1 : List Nat) (h2 : SmallN x2) (hz2 : SmallN z2) (h3 : SmallN x3) (hz3 : SmallN z3) (h1 : SmallN x1) (w : World) :
    Calls Try.prog 27 #[.agg (rungV x2 z2 x3 z3).toArray, .agg (x1.map uv).toArray] w fun e w' => ∃ a b c d, SmallN a ∧ SmallN b ∧ SmallN c ∧ SmallN d ∧ LadN a b c d = Cu.ladStep Cu.fqC (Cu.fq (val x1 : Int)) (LadN x2 z2 x3 z3) ∧ e = .returned (.agg (rungV a b c d).toArray) ∧ Below w.heap.size w w' := by
  obtain ⟨cl, hcl⟩ : ∃ x, (rungV x2 z2 x3 z3).toArray = x := ⟨_, rfl⟩
  obtain ⟨cx2, hcx2⟩ : ∃ x, (x2.map uv).toArray = x := ⟨_, rfl⟩
  obtain ⟨cz2, hcz2⟩ : ∃ x, (z2.map uv).toArray = x := ⟨_, rfl⟩
  obtain ⟨cx3, hcx3⟩ : ∃ x, (x3.map uv).toArray = x := ⟨_, rfl⟩
  obtain ⟨cz3, hcz3⟩ : ∃ x, (z3.map uv).toArray = x := ⟨_, rfl⟩
  obtain ⟨cx1, hcx1⟩ : ∃ x, (x1.map uv).toArray = x := ⟨_, rfl⟩
  rw [hcl, hcx1]
  have HM := Lib.hid (show Mem w [blkE (w.heap.size + 1 + 1) 54 (zr), blkE (w.heap.size + 1) 51 (x1.map uv), blkE w.heap.size 54 (rungV x2 z2 x3 z3)] (((w.alloc (.cells cl 54)).alloc (.cells cx1 51)).alloc (.cells #[.int .u64 0, .int .u64 0, .int .u64 0, .int .u64 0, .int .u64 0, .int .u64 0, .int .u64 0, .int .u64 0, .int .u64 0, .int .u64 0, .int .u64 0, .int .u64 0, .int .u64 0, .int .u64 0, .int .u64 0, .int .u64 0, .int .u64 0, .int .u64 0, .int .u64 0, .int .u64 0] 54)) from (((Mem.nil w).alloc rfl 54 cl (rungV x2 z2 x3 z3) hcl.symm).alloc (by simp) 51 cx1 (x1.map uv) hcx1.symm).alloc (by simp) 54 #[.int .u64 0, .int .u64 0, .int .u64 0, .int .u64 0, .int .u64 0, .int .u64 0, .int .u64 0, .int .u64 0, .int .u64 0, .int .u64 0, .int .u64 0, .int .u64 0, .int .u64 0, .int .u64 0, .int .u64 0, .int .u64 0, .int .u64 0, .int .u64 0, .int .u64 0, .int .u64 0] (zr) rfl)
  have HL := Lib.hid (And.intro h2 (And.intro hz2 (And.intro h3 (And.intro hz3 h1))))
  have HC := Lib.hid (And.intro hcx2 (And.intro hcz2 (And.intro hcx3 (And.intro hcz3 hcx1))))
  clear hcl hcx2 hcz2 hcx3 hcz3 hcx1 h2 hz2 h3 hz3 h1
  have Cla := fun W : World => add_any x2 z2 HL.out.1 HL.out.2.1 W
  have Fla : LooseN (addN x2 z2) := addN_loose x2 z2 HL.out.1 HL.out.2.1
  have Qla : Cu.fq (val (addN x2 z2) : Int) = Cu.fq (val x2 : Int) + Cu.fq (val z2 : Int) := by rw [addN_fq x2 z2 (HL.out.1).1]
  generalize addN x2 z2 = la at Cla Fla Qla
  obtain ⟨cla, hcla⟩ : ∃ c, (la.map uv).toArray = c := ⟨_, rfl⟩
  rw [HC.out.1, HC.out.2.1, hcla] at Cla
  have Hla := Lib.hid (And.intro hcla (And.intro Fla Qla))
  have Kla := Lib.hid Cla
  clear Cla Fla Qla hcla
  have Clb := fun W : World => sub_any x2 z2 HL.out.1 HL.out.2.1 W
  have Flb : LooseN (subN x2 z2) := subN_loose x2 z2 HL.out.1 HL.out.2.1
  have Qlb : Cu.fq (val (subN x2 z2) : Int) = Cu.fq (val x2 : Int) - Cu.fq (val z2 : Int) := by rw [subN_fq x2 z2 HL.out.2.1]
  generalize subN x2 z2 = lb at Clb Flb Qlb
  obtain ⟨clb, hclb⟩ : ∃ c, (lb.map uv).toArray = c := ⟨_, rfl⟩
  rw [HC.out.1, HC.out.2.1, hclb] at Clb
  have Hlb := Lib.hid (And.intro hclb (And.intro Flb Qlb))
  have Klb := Lib.hid Clb
  clear Clb Flb Qlb hclb
  have Clc := fun W : World => add_any x3 z3 HL.out.2.2.1 HL.out.2.2.2.1 W
  have Flc : LooseN (addN x3 z3) := addN_loose x3 z3 HL.out.2.2.1 HL.out.2.2.2.1
  have Qlc : Cu.fq (val (addN x3 z3) : Int) = Cu.fq (val x3 : Int) + Cu.fq (val z3 : Int) := by rw [addN_fq x3 z3 (HL.out.2.2.1).1]
  generalize addN x3 z3 = lc at Clc Flc Qlc
  obtain ⟨clc, hclc⟩ : ∃ c, (lc.map uv).toArray = c := ⟨_, rfl⟩
  rw [HC.out.2.2.1, HC.out.2.2.2.1, hclc] at Clc
  have Hlc := Lib.hid (And.intro hclc (And.intro Flc Qlc))
  have Klc := Lib.hid Clc
  clear Clc Flc Qlc hclc
  have Cld := fun W : World => sub_any x3 z3 HL.out.2.2.1 HL.out.2.2.2.1 W
  have Fld : LooseN (subN x3 z3) := subN_loose x3 z3 HL.out.2.2.1 HL.out.2.2.2.1
  have Qld : Cu.fq (val (subN x3 z3) : Int) = Cu.fq (val x3 : Int) - Cu.fq (val z3 : Int) := by rw [subN_fq x3 z3 HL.out.2.2.2.1]
  generalize subN x3 z3 = ld at Cld Fld Qld
  obtain ⟨cld, hcld⟩ : ∃ c, (ld.map uv).toArray = c := ⟨_, rfl⟩
  rw [HC.out.2.2.1, HC.out.2.2.2.1, hcld] at Cld
  have Hld := Lib.hid (And.intro hcld (And.intro Fld Qld))
  have Kld := Lib.hid Cld
  clear Cld Fld Qld hcld
  have HS := Lib.hid (show w.heap.size + 3 ≤ (((w.alloc (.cells cl 54)).alloc (.cells cx1 51)).alloc (.cells #[.int .u64 0, .int .u64 0, .int .u64 0, .int .u64 0, .int .u64 0, .int .u64 0, .int .u64 0, .int .u64 0, .int .u64 0, .int .u64 0, .int .u64 0, .int .u64 0, .int .u64 0, .int .u64 0, .int .u64 0, .int .u64 0, .int .u64 0, .int .u64 0, .int .u64 0, .int .u64 0] 54)).heap.size by simp)
  go_enter Try.func27, Try.ntmps27
  go_upto_region 1 with fail
  generalize (((w.alloc (.cells cl 54)).alloc (.cells cx1 51)).alloc (.cells #[.int .u64 0, .int .u64 0, .int .u64 0, .int .u64 0, .int .u64 0, .int .u64 0, .int .u64 0, .int .u64 0, .int .u64 0, .int .u64 0, .int .u64 0, .int .u64 0, .int .u64 0, .int .u64 0, .int .u64 0, .int .u64 0, .int .u64 0, .int .u64 0, .int .u64 0, .int .u64 0] 54)) = wb at HM HS ⊢
  have HB := Lib.hid (show Blk wb w.heap.size 54 (rungV x2 z2 x3 z3) ∧ Blk wb (w.heap.size + 1) 51 (x1.map uv) ∧ Blk wb (w.heap.size + 1 + 1) 54 (zr) ∧ Below w.heap.size w wb ∧ w.heap.size + 3 ≤ wb.heap.size from ⟨HM.out.blk 2 rfl, HM.out.blk 1 rfl, HM.out.blk 0 rfl, HM.out.bel, HS.out⟩)
  clear HM HS
  go_upto_region 1 with fail
  go_cut [5, 6] (fun p q wx => ∃ P5 P6, p = .pointer (some ⟨P5, 0, none⟩) ∧ q = .pointer (some ⟨P6, 0, none⟩) ∧ w.heap.size + 3 ≤ P5 ∧ w.heap.size + 3 ≤ P6 ∧ Blk wx P5 51 (la.map uv) ∧ Blk wx P6 51 (lb.map uv) ∧ Blk wx w.heap.size 54 (rungV x2 z2 x3 z3) ∧ Blk wx (w.heap.size + 1) 51 (x1.map uv) ∧ Blk wx (w.heap.size + 1 + 1) 54 (zr) ∧ Below w.heap.size w wx ∧ w.heap.size + 3 ≤ wx.heap.size)
  case first =>
    have HM := Lib.hid (Mem.nil wb)
    have HKE := Lib.hid (show ∀ W, Below wb.heap.size wb W → Blk W w.heap.size 54 (rungV x2 z2 x3 z3) ∧ Blk W (w.heap.size + 1) 51 (x1.map uv) ∧ Blk W (w.heap.size + 1 + 1) 54 (zr) ∧ Below w.heap.size w W ∧ w.heap.size + 3 ≤ W.heap.size from fun W hW => ⟨(HB.out.1).below hW (HB.out.1).lt, (HB.out.2.1).below hW (HB.out.2.1).lt, (HB.out.2.2.1).below hW (HB.out.2.2.1).lt, (HB.out.2.2.2.1).trans (hW.mono (HB.out.2.2.2.1).size), Nat.le_trans (HB.out.2.2.2.2) hW.size⟩)
    refine wp_region_held_drew (S := fun W' => Mem wb [] W') (by kernel_rfl) (HM.out.drew) (fun hHeld => ?_)
    replace HM := Lib.hid HM.out.drew
    generalize wb.drew = wd1 at HM hHeld ⊢
    refine take_first (v := ?_) 0 rfl (by kernel_rfl) (by kernel_rfl) (by kernel_rfl) (fun _ _ _ h => h) (Or.inl ⟨by rfl, ?_⟩) (by assumption) ?_
    rotate_left
    · (intro w hSw; (try dsimp only at hSw); go_simp; try with_reducible rfl)
    (try simp only [Act.put, List.setIfInBounds_toArray, List.set_cons_zero, List.set_cons_succ])
    refine take_first (v := .agg cx2) 1 rfl (by kernel_rfl) (by kernel_rfl) (by kernel_rfl) (fun _ _ _ h => h) (by rw [← HC.out.1]; exact cu_yields_off (by rfl) 51 (.tmp 16) rfl w.heap.size 0 rfl (x2.map uv) (fun w' hb => by have h := ((HB.out.1).below hb.bel (HB.out.1).lt).row 0 5; rw [rungV_row0 _ _ _ _ HL.out.1.1 HL.out.2.1.1 HL.out.2.2.1.1 HL.out.2.2.2.1.1] at h; exact h) 5 49 Try.underlying51 (cells5 x2 HL.out.1.1)) (by assumption) ?_
    (try simp only [Act.put, List.setIfInBounds_toArray, List.set_cons_zero, List.set_cons_succ])
    refine take_first (v := ?_) 2 rfl (by kernel_rfl) (by kernel_rfl) (by kernel_rfl) (fun _ _ _ h => h) (Or.inl ⟨by rfl, ?_⟩) (by assumption) ?_
    rotate_left
    · (intro w hSw; (try dsimp only at hSw); go_simp; try with_reducible rfl)
    (try simp only [Act.put, List.setIfInBounds_toArray, List.set_cons_zero, List.set_cons_succ])
    refine take_first (v := .agg cz2) 3 rfl (by kernel_rfl) (by kernel_rfl) (by kernel_rfl) (fun _ _ _ h => h) (by rw [← HC.out.2.1]; exact cu_yields_off (by rfl) 51 (.tmp 18) rfl w.heap.size 5 rfl (z2.map uv) (fun w' hb => by have h := ((HB.out.1).below hb.bel (HB.out.1).lt).row 5 5; rw [rungV_row1 _ _ _ _ HL.out.1.1 HL.out.2.1.1 HL.out.2.2.1.1 HL.out.2.2.2.1.1] at h; exact h) 5 49 Try.underlying51 (cells5 z2 HL.out.2.1.1)) (by assumption) ?_
    (try simp only [Act.put, List.setIfInBounds_toArray, List.set_cons_zero, List.set_cons_succ])
    refine take_first (v := ?_) 5 rfl (by kernel_rfl) (by kernel_rfl) (by kernel_rfl) (fun _ _ _ h => h) (Or.inl ⟨by rfl, ?_⟩) (by assumption) ?_
    rotate_left
    · (intro w hSw; (try dsimp only at hSw); go_simp; try with_reducible rfl)
    (try simp only [Act.put, List.setIfInBounds_toArray, List.set_cons_zero, List.set_cons_succ])
    refine take_first (v := .agg cx2) 6 rfl (by kernel_rfl) (by kernel_rfl) (by kernel_rfl) (fun _ _ _ h => h) (by rw [← HC.out.1]; exact cu_yields_off (by rfl) 51 (.tmp 21) rfl w.heap.size 0 rfl (x2.map uv) (fun w' hb => by have h := ((HB.out.1).below hb.bel (HB.out.1).lt).row 0 5; rw [rungV_row0 _ _ _ _ HL.out.1.1 HL.out.2.1.1 HL.out.2.2.1.1 HL.out.2.2.2.1.1] at h; exact h) 5 49 Try.underlying51 (cells5 x2 HL.out.1.1)) (by assumption) ?_
    (try simp only [Act.put, List.setIfInBounds_toArray, List.set_cons_zero, List.set_cons_succ])
    refine take_first (v := ?_) 7 rfl (by kernel_rfl) (by kernel_rfl) (by kernel_rfl) (fun _ _ _ h => h) (Or.inl ⟨by rfl, ?_⟩) (by assumption) ?_
    rotate_left
    · (intro w hSw; (try dsimp only at hSw); go_simp; try with_reducible rfl)
    (try simp only [Act.put, List.setIfInBounds_toArray, List.set_cons_zero, List.set_cons_succ])
    refine take_first (v := .agg cz2) 8 rfl (by kernel_rfl) (by kernel_rfl) (by kernel_rfl) (fun _ _ _ h => h) (by rw [← HC.out.2.1]; exact cu_yields_off (by rfl) 51 (.tmp 23) rfl w.heap.size 5 rfl (z2.map uv) (fun w' hb => by have h := ((HB.out.1).below hb.bel (HB.out.1).lt).row 5 5; rw [rungV_row1 _ _ _ _ HL.out.1.1 HL.out.2.1.1 HL.out.2.2.1.1 HL.out.2.2.2.1.1] at h; exact h) 5 49 Try.underlying51 (cells5 z2 HL.out.2.1.1)) (by assumption) ?_
    (try simp only [Act.put, List.setIfInBounds_toArray, List.set_cons_zero, List.set_cons_succ])
    refine step_three 4 10 11 rfl rfl rfl (by kernel_rfl) (fun K hK => ?_) (fun K hK => ?_) (fun K hK => ?_)
    · clear hHeld
      go_simp
      refine (Kla.out _).mono ?_
      rintro e wy2 ⟨rfl, hb⟩
      replace HM := Lib.hid (show Mem wb [] wy2 from HM.out.below hb)
      clear hb
      go_wp2_with fail
      refine hK.out _ _ (HM.out) (fun hHeld => ?_)
      clear hK K
      (try simp only [Act.put, List.setIfInBounds_toArray, List.set_cons_zero, List.set_cons_succ])
      refine step_three 9 10 11 rfl rfl rfl (by kernel_rfl) (fun K hK => ?_) (fun K hK => ?_) (fun K hK => ?_)
      · clear hHeld
        go_simp
        refine (Klb.out _).mono ?_
        rintro e wy3 ⟨rfl, hb⟩
        replace HM := Lib.hid (show Mem wb [] wy3 from HM.out.below hb)
        clear hb
        go_wp2_with fail
        refine hK.out _ _ (HM.out) (fun hHeld => ?_)
        clear hK K
        (try simp only [Act.put, List.setIfInBounds_toArray, List.set_cons_zero, List.set_cons_succ])
        refine step_two 10 11 rfl rfl (by kernel_rfl) (fun K hK => ?_) (fun K hK => ?_)
        · clear hHeld
          go_simp
          replace HM := Lib.hid (show Mem wb [blkE wy3.heap.size 51 (z5)] (wy3.alloc (.cells vZ5 51)) from HM.out.alloc rfl 51 vZ5 (z5) rfl)
          generalize wy3.alloc (.cells vZ5 51) = wy4 at HM ⊢
          generalize wy3.heap.size = P5 at HM ⊢
          refine hK.out _ _ ((HM.out.erase 0)) (fun hHeld => ?_)
          clear hK K
          (try simp only [Act.put, List.setIfInBounds_toArray, List.set_cons_zero, List.set_cons_succ])
          refine step_one 11 rfl (by kernel_rfl) (fun K hK => ?_)
          clear hHeld
          go_simp
          replace HM := Lib.hid (show Mem wb [blkE wy4.heap.size 51 (z5), blkE P5 51 (z5)] (wy4.alloc (.cells vZ5 51)) from HM.out.alloc rfl 51 vZ5 (z5) rfl)
          generalize wy4.alloc (.cells vZ5 51) = wy5 at HM ⊢
          generalize wy4.heap.size = P6 at HM ⊢
          refine hK.out _ _ (((HM.out.erase 0).erase 0)) (fun hHeld => ?_)
          clear hK K
          (try simp only [Act.put, List.setIfInBounds_toArray, List.set_cons_zero, List.set_cons_succ])
          refine step_one 12 rfl (by kernel_rfl) (fun K hK => ?_)
          clear hHeld
          refine step_store_blk _ rfl 51 (.tmp 5) (.tmp 20) rfl P5 (la.map uv) rfl (by show Value.agg cla = _; rw [Hla.out.1]) 51 (z5) (HM.out.blk 1 rfl) (cells5 _ Hla.out.2.1.1) (by rw [List.length_map, Hla.out.2.1.1]; rfl) (by intro v hv; obtain ⟨_, _, rfl⟩ := List.mem_map.1 hv; rfl) ?_
          intro wy6 hb hg
          replace HM := Lib.hid (show Mem wb [blkE P6 51 (z5), blkE P5 51 (la.map uv)] wy6 from HM.out.put 1 rfl _ hg hb)
          clear hb hg
          refine hK.out _ _ (((HM.out.erase 0).erase 0)) (fun hHeld => ?_)
          clear hK K
          (try simp only [Act.put])
          refine step_one 13 rfl (by kernel_rfl) (fun K hK => ?_)
          clear hHeld
          refine step_store_blk _ rfl 51 (.tmp 6) (.tmp 25) rfl P6 (lb.map uv) rfl (by show Value.agg clb = _; rw [Hlb.out.1]) 51 (z5) (HM.out.blk 0 rfl) (cells5 _ Hlb.out.2.1.1) (by rw [List.length_map, Hlb.out.2.1.1]; rfl) (by intro v hv; obtain ⟨_, _, rfl⟩ := List.mem_map.1 hv; rfl) ?_
          intro wy7 hb hg
          replace HM := Lib.hid (show Mem wb [blkE P6 51 (lb.map uv), blkE P5 51 (la.map uv)] wy7 from HM.out.put 0 rfl _ hg hb)
          clear hb hg
          refine hK.out _ _ (((HM.out.erase 0).erase 0)) (fun hHeld => ?_)
          clear hK K
          (try simp only [Act.put])
          refine wpAnyH_done (by kernel_rfl) ?_ _
          go_wp2_with fail
          go_meet
          exact ⟨P5, P6, rfl, rfl, Nat.le_trans (HB.out.2.2.2.2) (MemE.low HM.out.1 1 _ rfl), Nat.le_trans (HB.out.2.2.2.2) (MemE.low HM.out.1 0 _ rfl), HM.out.blk 1 rfl, HM.out.blk 0 rfl, HKE.out _ HM.out.bel⟩
        · clear hHeld
          go_simp
          replace HM := Lib.hid (show Mem wb [blkE wy3.heap.size 51 (z5)] (wy3.alloc (.cells vZ5 51)) from HM.out.alloc rfl 51 vZ5 (z5) rfl)
          generalize wy3.alloc (.cells vZ5 51) = wy4 at HM ⊢
          generalize wy3.heap.size = P6 at HM ⊢
          refine hK.out _ _ ((HM.out.erase 0)) (fun hHeld => ?_)
          clear hK K
          (try simp only [Act.put, List.setIfInBounds_toArray, List.set_cons_zero, List.set_cons_succ])
          refine step_one 10 rfl (by kernel_rfl) (fun K hK => ?_)
          clear hHeld
          go_simp
          replace HM := Lib.hid (show Mem wb [blkE wy4.heap.size 51 (z5), blkE P6 51 (z5)] (wy4.alloc (.cells vZ5 51)) from HM.out.alloc rfl 51 vZ5 (z5) rfl)
          generalize wy4.alloc (.cells vZ5 51) = wy5 at HM ⊢
          generalize wy4.heap.size = P5 at HM ⊢
          refine hK.out _ _ (((HM.out.erase 0).erase 0)) (fun hHeld => ?_)
          clear hK K
          (try simp only [Act.put, List.setIfInBounds_toArray, List.set_cons_zero, List.set_cons_succ])
          refine step_one 12 rfl (by kernel_rfl) (fun K hK => ?_)
          clear hHeld
          refine step_store_blk _ rfl 51 (.tmp 5) (.tmp 20) rfl P5 (la.map uv) rfl (by show Value.agg cla = _; rw [Hla.out.1]) 51 (z5) (HM.out.blk 0 rfl) (cells5 _ Hla.out.2.1.1) (by rw [List.length_map, Hla.out.2.1.1]; rfl) (by intro v hv; obtain ⟨_, _, rfl⟩ := List.mem_map.1 hv; rfl) ?_
          intro wy6 hb hg
          replace HM := Lib.hid (show Mem wb [blkE P5 51 (la.map uv), blkE P6 51 (z5)] wy6 from HM.out.put 0 rfl _ hg hb)
          clear hb hg
          refine hK.out _ _ (((HM.out.erase 0).erase 0)) (fun hHeld => ?_)
          clear hK K
          (try simp only [Act.put])
          refine step_one 13 rfl (by kernel_rfl) (fun K hK => ?_)
          clear hHeld
          refine step_store_blk _ rfl 51 (.tmp 6) (.tmp 25) rfl P6 (lb.map uv) rfl (by show Value.agg clb = _; rw [Hlb.out.1]) 51 (z5) (HM.out.blk 1 rfl) (cells5 _ Hlb.out.2.1.1) (by rw [List.length_map, Hlb.out.2.1.1]; rfl) (by intro v hv; obtain ⟨_, _, rfl⟩ := List.mem_map.1 hv; rfl) ?_
          intro wy7 hb hg
          replace HM := Lib.hid (show Mem wb [blkE P5 51 (la.map uv), blkE P6 51 (lb.map uv)] wy7 from HM.out.put 1 rfl _ hg hb)
          clear hb hg
          refine hK.out _ _ (((HM.out.erase 0).erase 0)) (fun hHeld => ?_)
          clear hK K
          (try simp only [Act.put])
          refine wpAnyH_done (by kernel_rfl) ?_ _
          go_wp2_with fail
          go_meet
          exact ⟨P5, P6, rfl, rfl, Nat.le_trans (HB.out.2.2.2.2) (MemE.low HM.out.1 0 _ rfl), Nat.le_trans (HB.out.2.2.2.2) (MemE.low HM.out.1 1 _ rfl), HM.out.blk 0 rfl, HM.out.blk 1 rfl, HKE.out _ HM.out.bel⟩
      · clear hHeld
        go_simp
        replace HM := Lib.hid (show Mem wb [blkE wy2.heap.size 51 (z5)] (wy2.alloc (.cells vZ5 51)) from HM.out.alloc rfl 51 vZ5 (z5) rfl)
        generalize wy2.alloc (.cells vZ5 51) = wy3 at HM ⊢
        generalize wy2.heap.size = P5 at HM ⊢
        refine hK.out _ _ ((HM.out.erase 0)) (fun hHeld => ?_)
        clear hK K
        (try simp only [Act.put, List.setIfInBounds_toArray, List.set_cons_zero, List.set_cons_succ])
        refine step_two 9 11 rfl rfl (by kernel_rfl) (fun K hK => ?_) (fun K hK => ?_)
        · clear hHeld
          go_simp
          refine (Klb.out _).mono ?_
          rintro e wy4 ⟨rfl, hb⟩
          replace HM := Lib.hid (show Mem wb [blkE P5 51 (z5)] wy4 from HM.out.below hb)
          clear hb
          go_wp2_with fail
          refine hK.out _ _ ((HM.out.erase 0)) (fun hHeld => ?_)
          clear hK K
          (try simp only [Act.put, List.setIfInBounds_toArray, List.set_cons_zero, List.set_cons_succ])
          refine step_one 11 rfl (by kernel_rfl) (fun K hK => ?_)
          clear hHeld
          go_simp
          replace HM := Lib.hid (show Mem wb [blkE wy4.heap.size 51 (z5), blkE P5 51 (z5)] (wy4.alloc (.cells vZ5 51)) from HM.out.alloc rfl 51 vZ5 (z5) rfl)
          generalize wy4.alloc (.cells vZ5 51) = wy5 at HM ⊢
          generalize wy4.heap.size = P6 at HM ⊢
          refine hK.out _ _ (((HM.out.erase 0).erase 0)) (fun hHeld => ?_)
          clear hK K
          (try simp only [Act.put, List.setIfInBounds_toArray, List.set_cons_zero, List.set_cons_succ])
          refine step_one 12 rfl (by kernel_rfl) (fun K hK => ?_)
          clear hHeld
          refine step_store_blk _ rfl 51 (.tmp 5) (.tmp 20) rfl P5 (la.map uv) rfl (by show Value.agg cla = _; rw [Hla.out.1]) 51 (z5) (HM.out.blk 1 rfl) (cells5 _ Hla.out.2.1.1) (by rw [List.length_map, Hla.out.2.1.1]; rfl) (by intro v hv; obtain ⟨_, _, rfl⟩ := List.mem_map.1 hv; rfl) ?_
          intro wy6 hb hg
          replace HM := Lib.hid (show Mem wb [blkE P6 51 (z5), blkE P5 51 (la.map uv)] wy6 from HM.out.put 1 rfl _ hg hb)
          clear hb hg
          refine hK.out _ _ (((HM.out.erase 0).erase 0)) (fun hHeld => ?_)
          clear hK K
          (try simp only [Act.put])
          refine step_one 13 rfl (by kernel_rfl) (fun K hK => ?_)
          clear hHeld
          refine step_store_blk _ rfl 51 (.tmp 6) (.tmp 25) rfl P6 (lb.map uv) rfl (by show Value.agg clb = _; rw [Hlb.out.1]) 51 (z5) (HM.out.blk 0 rfl) (cells5 _ Hlb.out.2.1.1) (by rw [List.length_map, Hlb.out.2.1.1]; rfl) (by intro v hv; obtain ⟨_, _, rfl⟩ := List.mem_map.1 hv; rfl) ?_
          intro wy7 hb hg
          replace HM := Lib.hid (show Mem wb [blkE P6 51 (lb.map uv), blkE P5 51 (la.map uv)] wy7 from HM.out.put 0 rfl _ hg hb)
          clear hb hg
          refine hK.out _ _ (((HM.out.erase 0).erase 0)) (fun hHeld => ?_)
          clear hK K
          (try simp only [Act.put])
          refine wpAnyH_done (by kernel_rfl) ?_ _
          go_wp2_with fail
          go_meet
          exact ⟨P5, P6, rfl, rfl, Nat.le_trans (HB.out.2.2.2.2) (MemE.low HM.out.1 1 _ rfl), Nat.le_trans (HB.out.2.2.2.2) (MemE.low HM.out.1 0 _ rfl), HM.out.blk 1 rfl, HM.out.blk 0 rfl, HKE.out _ HM.out.bel⟩
        · clear hHeld
          go_simp
          replace HM := Lib.hid (show Mem wb [blkE wy3.heap.size 51 (z5), blkE P5 51 (z5)] (wy3.alloc (.cells vZ5 51)) from HM.out.alloc rfl 51 vZ5 (z5) rfl)
          generalize wy3.alloc (.cells vZ5 51) = wy4 at HM ⊢
          generalize wy3.heap.size = P6 at HM ⊢
          refine hK.out _ _ (((HM.out.erase 0).erase 0)) (fun hHeld => ?_)
          clear hK K
          (try simp only [Act.put, List.setIfInBounds_toArray, List.set_cons_zero, List.set_cons_succ])
          refine step_one 9 rfl (by kernel_rfl) (fun K hK => ?_)
          clear hHeld
          go_simp
          refine (Klb.out _).mono ?_
          rintro e wy5 ⟨rfl, hb⟩
          replace HM := Lib.hid (show Mem wb [blkE P6 51 (z5), blkE P5 51 (z5)] wy5 from HM.out.below hb)
          clear hb
          go_wp2_with fail
          refine hK.out _ _ (((HM.out.erase 0).erase 0)) (fun hHeld => ?_)
          clear hK K
          (try simp only [Act.put, List.setIfInBounds_toArray, List.set_cons_zero, List.set_cons_succ])
          refine step_one 12 rfl (by kernel_rfl) (fun K hK => ?_)
          clear hHeld
          refine step_store_blk _ rfl 51 (.tmp 5) (.tmp 20) rfl P5 (la.map uv) rfl (by show Value.agg cla = _; rw [Hla.out.1]) 51 (z5) (HM.out.blk 1 rfl) (cells5 _ Hla.out.2.1.1) (by rw [List.length_map, Hla.out.2.1.1]; rfl) (by intro v hv; obtain ⟨_, _, rfl⟩ := List.mem_map.1 hv; rfl) ?_
          intro wy6 hb hg
          replace HM := Lib.hid (show Mem wb [blkE P6 51 (z5), blkE P5 51 (la.map uv)] wy6 from HM.out.put 1 rfl _ hg hb)
          clear hb hg
          refine hK.out _ _ (((HM.out.erase 0).erase 0)) (fun hHeld => ?_)
          clear hK K
          (try simp only [Act.put])
          refine step_one 13 rfl (by kernel_rfl) (fun K hK => ?_)
          clear hHeld
          refine step_store_blk _ rfl 51 (.tmp 6) (.tmp 25) rfl P6 (lb.map uv) rfl (by show Value.agg clb = _; rw [Hlb.out.1]) 51 (z5) (HM.out.blk 0 rfl) (cells5 _ Hlb.out.2.1.1) (by rw [List.length_map, Hlb.out.2.1.1]; rfl) (by intro v hv; obtain ⟨_, _, rfl⟩ := List.mem_map.1 hv; rfl) ?_
          intro wy7 hb hg
          replace HM := Lib.hid (show Mem wb [blkE P6 51 (lb.map uv), blkE P5 51 (la.map uv)] wy7 from HM.out.put 0 rfl _ hg hb)
          clear hb hg
          refine hK.out _ _ (((HM.out.erase 0).erase 0)) (fun hHeld => ?_)
          clear hK K
          (try simp only [Act.put])
          refine wpAnyH_done (by kernel_rfl) ?_ _
          go_wp2_with fail
          go_meet
          exact ⟨P5, P6, rfl, rfl, Nat.le_trans (HB.out.2.2.2.2) (MemE.low HM.out.1 1 _ rfl), Nat.le_trans (HB.out.2.2.2.2) (MemE.low HM.out.1 0 _ rfl), HM.out.blk 1 rfl, HM.out.blk 0 rfl, HKE.out _ HM.out.bel⟩
      · clear hHeld
        go_simp
        replace HM := Lib.hid (show Mem wb [blkE wy2.heap.size 51 (z5)] (wy2.alloc (.cells vZ5 51)) from HM.out.alloc rfl 51 vZ5 (z5) rfl)
        generalize wy2.alloc (.cells vZ5 51) = wy3 at HM ⊢
        generalize wy2.heap.size = P6 at HM ⊢
        refine hK.out _ _ ((HM.out.erase 0)) (fun hHeld => ?_)
        clear hK K
        (try simp only [Act.put, List.setIfInBounds_toArray, List.set_cons_zero, List.set_cons_succ])
        refine step_two 9 10 rfl rfl (by kernel_rfl) (fun K hK => ?_) (fun K hK => ?_)
        · clear hHeld
          go_simp
          refine (Klb.out _).mono ?_
          rintro e wy4 ⟨rfl, hb⟩
          replace HM := Lib.hid (show Mem wb [blkE P6 51 (z5)] wy4 from HM.out.below hb)
          clear hb
          go_wp2_with fail
          refine hK.out _ _ ((HM.out.erase 0)) (fun hHeld => ?_)
          clear hK K
          (try simp only [Act.put, List.setIfInBounds_toArray, List.set_cons_zero, List.set_cons_succ])
          refine step_one 10 rfl (by kernel_rfl) (fun K hK => ?_)
          clear hHeld
          go_simp
          replace HM := Lib.hid (show Mem wb [blkE wy4.heap.size 51 (z5), blkE P6 51 (z5)] (wy4.alloc (.cells vZ5 51)) from HM.out.alloc rfl 51 vZ5 (z5) rfl)
          generalize wy4.alloc (.cells vZ5 51) = wy5 at HM ⊢
          generalize wy4.heap.size = P5 at HM ⊢
          refine hK.out _ _ (((HM.out.erase 0).erase 0)) (fun hHeld => ?_)
          clear hK K
          (try simp only [Act.put, List.setIfInBounds_toArray, List.set_cons_zero, List.set_cons_succ])
          refine step_one 12 rfl (by kernel_rfl) (fun K hK => ?_)
          clear hHeld
          refine step_store_blk _ rfl 51 (.tmp 5) (.tmp 20) rfl P5 (la.map uv) rfl (by show Value.agg cla = _; rw [Hla.out.1]) 51 (z5) (HM.out.blk 0 rfl) (cells5 _ Hla.out.2.1.1) (by rw [List.length_map, Hla.out.2.1.1]; rfl) (by intro v hv; obtain ⟨_, _, rfl⟩ := List.mem_map.1 hv; rfl) ?_
          intro wy6 hb hg
          replace HM := Lib.hid (show Mem wb [blkE P5 51 (la.map uv), blkE P6 51 (z5)] wy6 from HM.out.put 0 rfl _ hg hb)
          clear hb hg
          refine hK.out _ _ (((HM.out.erase 0).erase 0)) (fun hHeld => ?_)
          clear hK K
          (try simp only [Act.put])
          refine step_one 13 rfl (by kernel_rfl) (fun K hK => ?_)
          clear hHeld
          refine step_store_blk _ rfl 51 (.tmp 6) (.tmp 25) rfl P6 (lb.map uv) rfl (by show Value.agg clb = _; rw [Hlb.out.1]) 51 (z5) (HM.out.blk 1 rfl) (cells5 _ Hlb.out.2.1.1) (by rw [List.length_map, Hlb.out.2.1.1]; rfl) (by intro v hv; obtain ⟨_, _, rfl⟩ := List.mem_map.1 hv; rfl) ?_
          intro wy7 hb hg
          replace HM := Lib.hid (show Mem wb [blkE P5 51 (la.map uv), blkE P6 51 (lb.map uv)] wy7 from HM.out.put 1 rfl _ hg hb)
          clear hb hg
          refine hK.out _ _ (((HM.out.erase 0).erase 0)) (fun hHeld => ?_)
          clear hK K
          (try simp only [Act.put])
          refine wpAnyH_done (by kernel_rfl) ?_ _
          go_wp2_with fail
          go_meet
          exact ⟨P5, P6, rfl, rfl, Nat.le_trans (HB.out.2.2.2.2) (MemE.low HM.out.1 0 _ rfl), Nat.le_trans (HB.out.2.2.2.2) (MemE.low HM.out.1 1 _ rfl), HM.out.blk 0 rfl, HM.out.blk 1 rfl, HKE.out _ HM.out.bel⟩
        · clear hHeld
          go_simp
          replace HM := Lib.hid (show Mem wb [blkE wy3.heap.size 51 (z5), blkE P6 51 (z5)] (wy3.alloc (.cells vZ5 51)) from HM.out.alloc rfl 51 vZ5 (z5) rfl)
          generalize wy3.alloc (.cells vZ5 51) = wy4 at HM ⊢
          generalize wy3.heap.size = P5 at HM ⊢
          refine hK.out _ _ (((HM.out.erase 0).erase 0)) (fun hHeld => ?_)
          clear hK K
          (try simp only [Act.put, List.setIfInBounds_toArray, List.set_cons_zero, List.set_cons_succ])
          refine step_one 9 rfl (by kernel_rfl) (fun K hK => ?_)
          clear hHeld
          go_simp
          refine (Klb.out _).mono ?_
          rintro e wy5 ⟨rfl, hb⟩
          replace HM := Lib.hid (show Mem wb [blkE P5 51 (z5), blkE P6 51 (z5)] wy5 from HM.out.below hb)
          clear hb
          go_wp2_with fail
          refine hK.out _ _ (((HM.out.erase 0).erase 0)) (fun hHeld => ?_)
          clear hK K
          (try simp only [Act.put, List.setIfInBounds_toArray, List.set_cons_zero, List.set_cons_succ])
          refine step_one 12 rfl (by kernel_rfl) (fun K hK => ?_)
          clear hHeld
          refine step_store_blk _ rfl 51 (.tmp 5) (.tmp 20) rfl P5 (la.map uv) rfl (by show Value.agg cla = _; rw [Hla.out.1]) 51 (z5) (HM.out.blk 0 rfl) (cells5 _ Hla.out.2.1.1) (by rw [List.length_map, Hla.out.2.1.1]; rfl) (by intro v hv; obtain ⟨_, _, rfl⟩ := List.mem_map.1 hv; rfl) ?_
          intro wy6 hb hg
          replace HM := Lib.hid (show Mem wb [blkE P5 51 (la.map uv), blkE P6 51 (z5)] wy6 from HM.out.put 0 rfl _ hg hb)
          clear hb hg
          refine hK.out _ _ (((HM.out.erase 0).erase 0)) (fun hHeld => ?_)
          clear hK K
          (try simp only [Act.put])
          refine step_one 13 rfl (by kernel_rfl) (fun K hK => ?_)
          clear hHeld
          refine step_store_blk _ rfl 51 (.tmp 6) (.tmp 25) rfl P6 (lb.map uv) rfl (by show Value.agg clb = _; rw [Hlb.out.1]) 51 (z5) (HM.out.blk 1 rfl) (cells5 _ Hlb.out.2.1.1) (by rw [List.length_map, Hlb.out.2.1.1]; rfl) (by intro v hv; obtain ⟨_, _, rfl⟩ := List.mem_map.1 hv; rfl) ?_
          intro wy7 hb hg
          replace HM := Lib.hid (show Mem wb [blkE P5 51 (la.map uv), blkE P6 51 (lb.map uv)] wy7 from HM.out.put 1 rfl _ hg hb)
          clear hb hg
          refine hK.out _ _ (((HM.out.erase 0).erase 0)) (fun hHeld => ?_)
          clear hK K
          (try simp only [Act.put])
          refine wpAnyH_done (by kernel_rfl) ?_ _
          go_wp2_with fail
          go_meet
          exact ⟨P5, P6, rfl, rfl, Nat.le_trans (HB.out.2.2.2.2) (MemE.low HM.out.1 0 _ rfl), Nat.le_trans (HB.out.2.2.2.2) (MemE.low HM.out.1 1 _ rfl), HM.out.blk 0 rfl, HM.out.blk 1 rfl, HKE.out _ HM.out.bel⟩
    · clear hHeld
      go_simp
      replace HM := Lib.hid (show Mem wb [blkE wd1.heap.size 51 (z5)] (wd1.alloc (.cells vZ5 51)) from HM.out.alloc rfl 51 vZ5 (z5) rfl)
      generalize wd1.alloc (.cells vZ5 51) = wy2 at HM ⊢
      generalize wd1.heap.size = P5 at HM ⊢
      refine hK.out _ _ ((HM.out.erase 0)) (fun hHeld => ?_)
      clear hK K
      (try simp only [Act.put, List.setIfInBounds_toArray, List.set_cons_zero, List.set_cons_succ])
      refine step_two 4 11 rfl rfl (by kernel_rfl) (fun K hK => ?_) (fun K hK => ?_)
      · clear hHeld
        go_simp
        refine (Kla.out _).mono ?_
        rintro e wy3 ⟨rfl, hb⟩
        replace HM := Lib.hid (show Mem wb [blkE P5 51 (z5)] wy3 from HM.out.below hb)
        clear hb
        go_wp2_with fail
        refine hK.out _ _ ((HM.out.erase 0)) (fun hHeld => ?_)
        clear hK K
        (try simp only [Act.put, List.setIfInBounds_toArray, List.set_cons_zero, List.set_cons_succ])
        refine step_two 9 11 rfl rfl (by kernel_rfl) (fun K hK => ?_) (fun K hK => ?_)
        · clear hHeld
          go_simp
          refine (Klb.out _).mono ?_
          rintro e wy4 ⟨rfl, hb⟩
          replace HM := Lib.hid (show Mem wb [blkE P5 51 (z5)] wy4 from HM.out.below hb)
          clear hb
          go_wp2_with fail
          refine hK.out _ _ ((HM.out.erase 0)) (fun hHeld => ?_)
          clear hK K
          (try simp only [Act.put, List.setIfInBounds_toArray, List.set_cons_zero, List.set_cons_succ])
          refine step_one 11 rfl (by kernel_rfl) (fun K hK => ?_)
          clear hHeld
          go_simp
          replace HM := Lib.hid (show Mem wb [blkE wy4.heap.size 51 (z5), blkE P5 51 (z5)] (wy4.alloc (.cells vZ5 51)) from HM.out.alloc rfl 51 vZ5 (z5) rfl)
          generalize wy4.alloc (.cells vZ5 51) = wy5 at HM ⊢
          generalize wy4.heap.size = P6 at HM ⊢
          refine hK.out _ _ (((HM.out.erase 0).erase 0)) (fun hHeld => ?_)
          clear hK K
          (try simp only [Act.put, List.setIfInBounds_toArray, List.set_cons_zero, List.set_cons_succ])
          refine step_one 12 rfl (by kernel_rfl) (fun K hK => ?_)
          clear hHeld
          refine step_store_blk _ rfl 51 (.tmp 5) (.tmp 20) rfl P5 (la.map uv) rfl (by show Value.agg cla = _; rw [Hla.out.1]) 51 (z5) (HM.out.blk 1 rfl) (cells5 _ Hla.out.2.1.1) (by rw [List.length_map, Hla.out.2.1.1]; rfl) (by intro v hv; obtain ⟨_, _, rfl⟩ := List.mem_map.1 hv; rfl) ?_
          intro wy6 hb hg
          replace HM := Lib.hid (show Mem wb [blkE P6 51 (z5), blkE P5 51 (la.map uv)] wy6 from HM.out.put 1 rfl _ hg hb)
          clear hb hg
          refine hK.out _ _ (((HM.out.erase 0).erase 0)) (fun hHeld => ?_)
          clear hK K
          (try simp only [Act.put])
          refine step_one 13 rfl (by kernel_rfl) (fun K hK => ?_)
          clear hHeld
          refine step_store_blk _ rfl 51 (.tmp 6) (.tmp 25) rfl P6 (lb.map uv) rfl (by show Value.agg clb = _; rw [Hlb.out.1]) 51 (z5) (HM.out.blk 0 rfl) (cells5 _ Hlb.out.2.1.1) (by rw [List.length_map, Hlb.out.2.1.1]; rfl) (by intro v hv; obtain ⟨_, _, rfl⟩ := List.mem_map.1 hv; rfl) ?_
          intro wy7 hb hg
          replace HM := Lib.hid (show Mem wb [blkE P6 51 (lb.map uv), blkE P5 51 (la.map uv)] wy7 from HM.out.put 0 rfl _ hg hb)
          clear hb hg
          refine hK.out _ _ (((HM.out.erase 0).erase 0)) (fun hHeld => ?_)
          clear hK K
          (try simp only [Act.put])
          refine wpAnyH_done (by kernel_rfl) ?_ _
          go_wp2_with fail
          go_meet
          exact ⟨P5, P6, rfl, rfl, Nat.le_trans (HB.out.2.2.2.2) (MemE.low HM.out.1 1 _ rfl), Nat.le_trans (HB.out.2.2.2.2) (MemE.low HM.out.1 0 _ rfl), HM.out.blk 1 rfl, HM.out.blk 0 rfl, HKE.out _ HM.out.bel⟩
        · clear hHeld
          go_simp
          replace HM := Lib.hid (show Mem wb [blkE wy3.heap.size 51 (z5), blkE P5 51 (z5)] (wy3.alloc (.cells vZ5 51)) from HM.out.alloc rfl 51 vZ5 (z5) rfl)
          generalize wy3.alloc (.cells vZ5 51) = wy4 at HM ⊢
          generalize wy3.heap.size = P6 at HM ⊢
          refine hK.out _ _ (((HM.out.erase 0).erase 0)) (fun hHeld => ?_)
          clear hK K
          (try simp only [Act.put, List.setIfInBounds_toArray, List.set_cons_zero, List.set_cons_succ])
          refine step_one 9 rfl (by kernel_rfl) (fun K hK => ?_)
          clear hHeld
          go_simp
          refine (Klb.out _).mono ?_
          rintro e wy5 ⟨rfl, hb⟩
          replace HM := Lib.hid (show Mem wb [blkE P6 51 (z5), blkE P5 51 (z5)] wy5 from HM.out.below hb)
          clear hb
          go_wp2_with fail
          refine hK.out _ _ (((HM.out.erase 0).erase 0)) (fun hHeld => ?_)
          clear hK K
          (try simp only [Act.put, List.setIfInBounds_toArray, List.set_cons_zero, List.set_cons_succ])
          refine step_one 12 rfl (by kernel_rfl) (fun K hK => ?_)
          clear hHeld
          refine step_store_blk _ rfl 51 (.tmp 5) (.tmp 20) rfl P5 (la.map uv) rfl (by show Value.agg cla = _; rw [Hla.out.1]) 51 (z5) (HM.out.blk 1 rfl) (cells5 _ Hla.out.2.1.1) (by rw [List.length_map, Hla.out.2.1.1]; rfl) (by intro v hv; obtain ⟨_, _, rfl⟩ := List.mem_map.1 hv; rfl) ?_
          intro wy6 hb hg
          replace HM := Lib.hid (show Mem wb [blkE P6 51 (z5), blkE P5 51 (la.map uv)] wy6 from HM.out.put 1 rfl _ hg hb)
          clear hb hg
          refine hK.out _ _ (((HM.out.erase 0).erase 0)) (fun hHeld => ?_)
          clear hK K
          (try simp only [Act.put])
          refine step_one 13 rfl (by kernel_rfl) (fun K hK => ?_)
          clear hHeld
          refine step_store_blk _ rfl 51 (.tmp 6) (.tmp 25) rfl P6 (lb.map uv) rfl (by show Value.agg clb = _; rw [Hlb.out.1]) 51 (z5) (HM.out.blk 0 rfl) (cells5 _ Hlb.out.2.1.1) (by rw [List.length_map, Hlb.out.2.1.1]; rfl) (by intro v hv; obtain ⟨_, _, rfl⟩ := List.mem_map.1 hv; rfl) ?_
          intro wy7 hb hg
          replace HM := Lib.hid (show Mem wb [blkE P6 51 (lb.map uv), blkE P5 51 (la.map uv)] wy7 from HM.out.put 0 rfl _ hg hb)
          clear hb hg
          refine hK.out _ _ (((HM.out.erase 0).erase 0)) (fun hHeld => ?_)
          clear hK K
          (try simp only [Act.put])
          refine wpAnyH_done (by kernel_rfl) ?_ _
          go_wp2_with fail
          go_meet
          exact ⟨P5, P6, rfl, rfl, Nat.le_trans (HB.out.2.2.2.2) (MemE.low HM.out.1 1 _ rfl), Nat.le_trans (HB.out.2.2.2.2) (MemE.low HM.out.1 0 _ rfl), HM.out.blk 1 rfl, HM.out.blk 0 rfl, HKE.out _ HM.out.bel⟩
      · clear hHeld
        go_simp
        replace HM := Lib.hid (show Mem wb [blkE wy2.heap.size 51 (z5), blkE P5 51 (z5)] (wy2.alloc (.cells vZ5 51)) from HM.out.alloc rfl 51 vZ5 (z5) rfl)
        generalize wy2.alloc (.cells vZ5 51) = wy3 at HM ⊢
        generalize wy2.heap.size = P6 at HM ⊢
        refine hK.out _ _ (((HM.out.erase 0).erase 0)) (fun hHeld => ?_)
        clear hK K
        (try simp only [Act.put, List.setIfInBounds_toArray, List.set_cons_zero, List.set_cons_succ])
        refine step_one 4 rfl (by kernel_rfl) (fun K hK => ?_)
        clear hHeld
        go_simp
        refine (Kla.out _).mono ?_
        rintro e wy4 ⟨rfl, hb⟩
        replace HM := Lib.hid (show Mem wb [blkE P6 51 (z5), blkE P5 51 (z5)] wy4 from HM.out.below hb)
        clear hb
        go_wp2_with fail
        refine hK.out _ _ (((HM.out.erase 0).erase 0)) (fun hHeld => ?_)
        clear hK K
        (try simp only [Act.put, List.setIfInBounds_toArray, List.set_cons_zero, List.set_cons_succ])
        refine step_one 9 rfl (by kernel_rfl) (fun K hK => ?_)
        clear hHeld
        go_simp
        refine (Klb.out _).mono ?_
        rintro e wy5 ⟨rfl, hb⟩
        replace HM := Lib.hid (show Mem wb [blkE P6 51 (z5), blkE P5 51 (z5)] wy5 from HM.out.below hb)
        clear hb
        go_wp2_with fail
        refine hK.out _ _ (((HM.out.erase 0).erase 0)) (fun hHeld => ?_)
        clear hK K
        (try simp only [Act.put, List.setIfInBounds_toArray, List.set_cons_zero, List.set_cons_succ])
        refine step_one 12 rfl (by kernel_rfl) (fun K hK => ?_)
        clear hHeld
        refine step_store_blk _ rfl 51 (.tmp 5) (.tmp 20) rfl P5 (la.map uv) rfl (by show Value.agg cla = _; rw [Hla.out.1]) 51 (z5) (HM.out.blk 1 rfl) (cells5 _ Hla.out.2.1.1) (by rw [List.length_map, Hla.out.2.1.1]; rfl) (by intro v hv; obtain ⟨_, _, rfl⟩ := List.mem_map.1 hv; rfl) ?_
        intro wy6 hb hg
        replace HM := Lib.hid (show Mem wb [blkE P6 51 (z5), blkE P5 51 (la.map uv)] wy6 from HM.out.put 1 rfl _ hg hb)
        clear hb hg
        refine hK.out _ _ (((HM.out.erase 0).erase 0)) (fun hHeld => ?_)
        clear hK K
        (try simp only [Act.put])
        refine step_one 13 rfl (by kernel_rfl) (fun K hK => ?_)
        clear hHeld
        refine step_store_blk _ rfl 51 (.tmp 6) (.tmp 25) rfl P6 (lb.map uv) rfl (by show Value.agg clb = _; rw [Hlb.out.1]) 51 (z5) (HM.out.blk 0 rfl) (cells5 _ Hlb.out.2.1.1) (by rw [List.length_map, Hlb.out.2.1.1]; rfl) (by intro v hv; obtain ⟨_, _, rfl⟩ := List.mem_map.1 hv; rfl) ?_
        intro wy7 hb hg
        replace HM := Lib.hid (show Mem wb [blkE P6 51 (lb.map uv), blkE P5 51 (la.map uv)] wy7 from HM.out.put 0 rfl _ hg hb)
        clear hb hg
        refine hK.out _ _ (((HM.out.erase 0).erase 0)) (fun hHeld => ?_)
        clear hK K
        (try simp only [Act.put])
        refine wpAnyH_done (by kernel_rfl) ?_ _
        go_wp2_with fail
        go_meet
        exact ⟨P5, P6, rfl, rfl, Nat.le_trans (HB.out.2.2.2.2) (MemE.low HM.out.1 1 _ rfl), Nat.le_trans (HB.out.2.2.2.2) (MemE.low HM.out.1 0 _ rfl), HM.out.blk 1 rfl, HM.out.blk 0 rfl, HKE.out _ HM.out.bel⟩
    · clear hHeld
      go_simp
      replace HM := Lib.hid (show Mem wb [blkE wd1.heap.size 51 (z5)] (wd1.alloc (.cells vZ5 51)) from HM.out.alloc rfl 51 vZ5 (z5) rfl)
      generalize wd1.alloc (.cells vZ5 51) = wy2 at HM ⊢
      generalize wd1.heap.size = P6 at HM ⊢
      refine hK.out _ _ ((HM.out.erase 0)) (fun hHeld => ?_)
      clear hK K
      (try simp only [Act.put, List.setIfInBounds_toArray, List.set_cons_zero, List.set_cons_succ])
      refine step_two 4 10 rfl rfl (by kernel_rfl) (fun K hK => ?_) (fun K hK => ?_)
      · clear hHeld
        go_simp
        refine (Kla.out _).mono ?_
        rintro e wy3 ⟨rfl, hb⟩
        replace HM := Lib.hid (show Mem wb [blkE P6 51 (z5)] wy3 from HM.out.below hb)
        clear hb
        go_wp2_with fail
        refine hK.out _ _ ((HM.out.erase 0)) (fun hHeld => ?_)
        clear hK K
        (try simp only [Act.put, List.setIfInBounds_toArray, List.set_cons_zero, List.set_cons_succ])
        refine step_two 9 10 rfl rfl (by kernel_rfl) (fun K hK => ?_) (fun K hK => ?_)
        · clear hHeld
          go_simp
          refine (Klb.out _).mono ?_
          rintro e wy4 ⟨rfl, hb⟩
          replace HM := Lib.hid (show Mem wb [blkE P6 51 (z5)] wy4 from HM.out.below hb)
          clear hb
          go_wp2_with fail
          refine hK.out _ _ ((HM.out.erase 0)) (fun hHeld => ?_)
          clear hK K
          (try simp only [Act.put, List.setIfInBounds_toArray, List.set_cons_zero, List.set_cons_succ])
          refine step_one 10 rfl (by kernel_rfl) (fun K hK => ?_)
          clear hHeld
          go_simp
          replace HM := Lib.hid (show Mem wb [blkE wy4.heap.size 51 (z5), blkE P6 51 (z5)] (wy4.alloc (.cells vZ5 51)) from HM.out.alloc rfl 51 vZ5 (z5) rfl)
          generalize wy4.alloc (.cells vZ5 51) = wy5 at HM ⊢
          generalize wy4.heap.size = P5 at HM ⊢
          refine hK.out _ _ (((HM.out.erase 0).erase 0)) (fun hHeld => ?_)
          clear hK K
          (try simp only [Act.put, List.setIfInBounds_toArray, List.set_cons_zero, List.set_cons_succ])
          refine step_one 12 rfl (by kernel_rfl) (fun K hK => ?_)
          clear hHeld
          refine step_store_blk _ rfl 51 (.tmp 5) (.tmp 20) rfl P5 (la.map uv) rfl (by show Value.agg cla = _; rw [Hla.out.1]) 51 (z5) (HM.out.blk 0 rfl) (cells5 _ Hla.out.2.1.1) (by rw [List.length_map, Hla.out.2.1.1]; rfl) (by intro v hv; obtain ⟨_, _, rfl⟩ := List.mem_map.1 hv; rfl) ?_
          intro wy6 hb hg
          replace HM := Lib.hid (show Mem wb [blkE P5 51 (la.map uv), blkE P6 51 (z5)] wy6 from HM.out.put 0 rfl _ hg hb)
          clear hb hg
          refine hK.out _ _ (((HM.out.erase 0).erase 0)) (fun hHeld => ?_)
          clear hK K
          (try simp only [Act.put])
          refine step_one 13 rfl (by kernel_rfl) (fun K hK => ?_)
          clear hHeld
          refine step_store_blk _ rfl 51 (.tmp 6) (.tmp 25) rfl P6 (lb.map uv) rfl (by show Value.agg clb = _; rw [Hlb.out.1]) 51 (z5) (HM.out.blk 1 rfl) (cells5 _ Hlb.out.2.1.1) (by rw [List.length_map, Hlb.out.2.1.1]; rfl) (by intro v hv; obtain ⟨_, _, rfl⟩ := List.mem_map.1 hv; rfl) ?_
          intro wy7 hb hg
          replace HM := Lib.hid (show Mem wb [blkE P5 51 (la.map uv), blkE P6 51 (lb.map uv)] wy7 from HM.out.put 1 rfl _ hg hb)
          clear hb hg
          refine hK.out _ _ (((HM.out.erase 0).erase 0)) (fun hHeld => ?_)
          clear hK K
          (try simp only [Act.put])
          refine wpAnyH_done (by kernel_rfl) ?_ _
          go_wp2_with fail
          go_meet
          exact ⟨P5, P6, rfl, rfl, Nat.le_trans (HB.out.2.2.2.2) (MemE.low HM.out.1 0 _ rfl), Nat.le_trans (HB.out.2.2.2.2) (MemE.low HM.out.1 1 _ rfl), HM.out.blk 0 rfl, HM.out.blk 1 rfl, HKE.out _ HM.out.bel⟩
        · clear hHeld
          go_simp
          replace HM := Lib.hid (show Mem wb [blkE wy3.heap.size 51 (z5), blkE P6 51 (z5)] (wy3.alloc (.cells vZ5 51)) from HM.out.alloc rfl 51 vZ5 (z5) rfl)
          generalize wy3.alloc (.cells vZ5 51) = wy4 at HM ⊢
          generalize wy3.heap.size = P5 at HM ⊢
          refine hK.out _ _ (((HM.out.erase 0).erase 0)) (fun hHeld => ?_)
          clear hK K
          (try simp only [Act.put, List.setIfInBounds_toArray, List.set_cons_zero, List.set_cons_succ])
          refine step_one 9 rfl (by kernel_rfl) (fun K hK => ?_)
          clear hHeld
          go_simp
          refine (Klb.out _).mono ?_
          rintro e wy5 ⟨rfl, hb⟩
          replace HM := Lib.hid (show Mem wb [blkE P5 51 (z5), blkE P6 51 (z5)] wy5 from HM.out.below hb)
          clear hb
          go_wp2_with fail
          refine hK.out _ _ (((HM.out.erase 0).erase 0)) (fun hHeld => ?_)
          clear hK K
          (try simp only [Act.put, List.setIfInBounds_toArray, List.set_cons_zero, List.set_cons_succ])
          refine step_one 12 rfl (by kernel_rfl) (fun K hK => ?_)
          clear hHeld
          refine step_store_blk _ rfl 51 (.tmp 5) (.tmp 20) rfl P5 (la.map uv) rfl (by show Value.agg cla = _; rw [Hla.out.1]) 51 (z5) (HM.out.blk 0 rfl) (cells5 _ Hla.out.2.1.1) (by rw [List.length_map, Hla.out.2.1.1]; rfl) (by intro v hv; obtain ⟨_, _, rfl⟩ := List.mem_map.1 hv; rfl) ?_
          intro wy6 hb hg
          replace HM := Lib.hid (show Mem wb [blkE P5 51 (la.map uv), blkE P6 51 (z5)] wy6 from HM.out.put 0 rfl _ hg hb)
          clear hb hg
          refine hK.out _ _ (((HM.out.erase 0).erase 0)) (fun hHeld => ?_)
          clear hK K
          (try simp only [Act.put])
          refine step_one 13 rfl (by kernel_rfl) (fun K hK => ?_)
          clear hHeld
          refine step_store_blk _ rfl 51 (.tmp 6) (.tmp 25) rfl P6 (lb.map uv) rfl (by show Value.agg clb = _; rw [Hlb.out.1]) 51 (z5) (HM.out.blk 1 rfl) (cells5 _ Hlb.out.2.1.1) (by rw [List.length_map, Hlb.out.2.1.1]; rfl) (by intro v hv; obtain ⟨_, _, rfl⟩ := List.mem_map.1 hv; rfl) ?_
          intro wy7 hb hg
          replace HM := Lib.hid (show Mem wb [blkE P5 51 (la.map uv), blkE P6 51 (lb.map uv)] wy7 from HM.out.put 1 rfl _ hg hb)
          clear hb hg
          refine hK.out _ _ (((HM.out.erase 0).erase 0)) (fun hHeld => ?_)
          clear hK K
          (try simp only [Act.put])
          refine wpAnyH_done (by kernel_rfl) ?_ _
          go_wp2_with fail
          go_meet
          exact ⟨P5, P6, rfl, rfl, Nat.le_trans (HB.out.2.2.2.2) (MemE.low HM.out.1 0 _ rfl), Nat.le_trans (HB.out.2.2.2.2) (MemE.low HM.out.1 1 _ rfl), HM.out.blk 0 rfl, HM.out.blk 1 rfl, HKE.out _ HM.out.bel⟩
      · clear hHeld
        go_simp
        replace HM := Lib.hid (show Mem wb [blkE wy2.heap.size 51 (z5), blkE P6 51 (z5)] (wy2.alloc (.cells vZ5 51)) from HM.out.alloc rfl 51 vZ5 (z5) rfl)
        generalize wy2.alloc (.cells vZ5 51) = wy3 at HM ⊢
        generalize wy2.heap.size = P5 at HM ⊢
        refine hK.out _ _ (((HM.out.erase 0).erase 0)) (fun hHeld => ?_)
        clear hK K
        (try simp only [Act.put, List.setIfInBounds_toArray, List.set_cons_zero, List.set_cons_succ])
        refine step_one 4 rfl (by kernel_rfl) (fun K hK => ?_)
        clear hHeld
        go_simp
        refine (Kla.out _).mono ?_
        rintro e wy4 ⟨rfl, hb⟩
        replace HM := Lib.hid (show Mem wb [blkE P5 51 (z5), blkE P6 51 (z5)] wy4 from HM.out.below hb)
        clear hb
        go_wp2_with fail
        refine hK.out _ _ (((HM.out.erase 0).erase 0)) (fun hHeld => ?_)
        clear hK K
        (try simp only [Act.put, List.setIfInBounds_toArray, List.set_cons_zero, List.set_cons_succ])
        refine step_one 9 rfl (by kernel_rfl) (fun K hK => ?_)
        clear hHeld
        go_simp
        refine (Klb.out _).mono ?_
        rintro e wy5 ⟨rfl, hb⟩
        replace HM := Lib.hid (show Mem wb [blkE P5 51 (z5), blkE P6 51 (z5)] wy5 from HM.out.below hb)
        clear hb
        go_wp2_with fail
        refine hK.out _ _ (((HM.out.erase 0).erase 0)) (fun hHeld => ?_)
        clear hK K
        (try simp only [Act.put, List.setIfInBounds_toArray, List.set_cons_zero, List.set_cons_succ])
        refine step_one 12 rfl (by kernel_rfl) (fun K hK => ?_)
        clear hHeld
        refine step_store_blk _ rfl 51 (.tmp 5) (.tmp 20) rfl P5 (la.map uv) rfl (by show Value.agg cla = _; rw [Hla.out.1]) 51 (z5) (HM.out.blk 0 rfl) (cells5 _ Hla.out.2.1.1) (by rw [List.length_map, Hla.out.2.1.1]; rfl) (by intro v hv; obtain ⟨_, _, rfl⟩ := List.mem_map.1 hv; rfl) ?_
        intro wy6 hb hg
        replace HM := Lib.hid (show Mem wb [blkE P5 51 (la.map uv), blkE P6 51 (z5)] wy6 from HM.out.put 0 rfl _ hg hb)
        clear hb hg
        refine hK.out _ _ (((HM.out.erase 0).erase 0)) (fun hHeld => ?_)
        clear hK K
        (try simp only [Act.put])
        refine step_one 13 rfl (by kernel_rfl) (fun K hK => ?_)
        clear hHeld
        refine step_store_blk _ rfl 51 (.tmp 6) (.tmp 25) rfl P6 (lb.map uv) rfl (by show Value.agg clb = _; rw [Hlb.out.1]) 51 (z5) (HM.out.blk 1 rfl) (cells5 _ Hlb.out.2.1.1) (by rw [List.length_map, Hlb.out.2.1.1]; rfl) (by intro v hv; obtain ⟨_, _, rfl⟩ := List.mem_map.1 hv; rfl) ?_
        intro wy7 hb hg
        replace HM := Lib.hid (show Mem wb [blkE P5 51 (la.map uv), blkE P6 51 (lb.map uv)] wy7 from HM.out.put 1 rfl _ hg hb)
        clear hb hg
        refine hK.out _ _ (((HM.out.erase 0).erase 0)) (fun hHeld => ?_)
        clear hK K
        (try simp only [Act.put])
        refine wpAnyH_done (by kernel_rfl) ?_ _
        go_wp2_with fail
        go_meet
        exact ⟨P5, P6, rfl, rfl, Nat.le_trans (HB.out.2.2.2.2) (MemE.low HM.out.1 0 _ rfl), Nat.le_trans (HB.out.2.2.2.2) (MemE.low HM.out.1 1 _ rfl), HM.out.blk 0 rfl, HM.out.blk 1 rfl, HKE.out _ HM.out.bel⟩
  case rest =>
  clear HB
  revert wc
  intro wb hcut
  obtain ⟨P5, P6, rfl, rfl, hP5, hP6, hcut⟩ := hcut
  have HB := Lib.hid hcut
  have HP5 := Lib.hid (And.intro hP5 hP6)
  clear hcut hP5 hP6
  go_upto_region 2 with fail
  go_cut [7, 8] (fun p q wx => ∃ P7 P8, p = .pointer (some ⟨P7, 0, none⟩) ∧ q = .pointer (some ⟨P8, 0, none⟩) ∧ w.heap.size + 3 ≤ P7 ∧ w.heap.size + 3 ≤ P8 ∧ Blk wx P7 51 (lc.map uv) ∧ Blk wx P8 51 (ld.map uv) ∧ Blk wx P5 51 (la.map uv) ∧ Blk wx P6 51 (lb.map uv) ∧ Blk wx w.heap.size 54 (rungV x2 z2 x3 z3) ∧ Blk wx (w.heap.size + 1) 51 (x1.map uv) ∧ Blk wx (w.heap.size + 1 + 1) 54 (zr) ∧ Below w.heap.size w wx ∧ w.heap.size + 3 ≤ wx.heap.size)
  case first =>
    have HM := Lib.hid (Mem.nil wb)
    have HKE := Lib.hid (show ∀ W, Below wb.heap.size wb W → Blk W P5 51 (la.map uv) ∧ Blk W P6 51 (lb.map uv) ∧ Blk W w.heap.size 54 (rungV x2 z2 x3 z3) ∧ Blk W (w.heap.size + 1) 51 (x1.map uv) ∧ Blk W (w.heap.size + 1 + 1) 54 (zr) ∧ Below w.heap.size w W ∧ w.heap.size + 3 ≤ W.heap.size from fun W hW => ⟨(HB.out.1).below hW (HB.out.1).lt, (HB.out.2.1).below hW (HB.out.2.1).lt, (HB.out.2.2.1).below hW (HB.out.2.2.1).lt, (HB.out.2.2.2.1).below hW (HB.out.2.2.2.1).lt, (HB.out.2.2.2.2.1).below hW (HB.out.2.2.2.2.1).lt, (HB.out.2.2.2.2.2.1).trans (hW.mono (HB.out.2.2.2.2.2.1).size), Nat.le_trans (HB.out.2.2.2.2.2.2) hW.size⟩)
    refine wp_region_held_drew (S := fun W' => Mem wb [] W') (by kernel_rfl) (HM.out.drew) (fun hHeld => ?_)
    replace HM := Lib.hid HM.out.drew
    generalize wb.drew = wd1 at HM hHeld ⊢
    refine take_first (v := ?_) 0 rfl (by kernel_rfl) (by kernel_rfl) (by kernel_rfl) (fun _ _ _ h => h) (Or.inl ⟨by rfl, ?_⟩) (by assumption) ?_
    rotate_left
    · (intro w hSw; (try dsimp only at hSw); go_simp; try with_reducible rfl)
    (try simp only [Act.put, List.setIfInBounds_toArray, List.set_cons_zero, List.set_cons_succ])
    refine take_first (v := .agg cx3) 1 rfl (by kernel_rfl) (by kernel_rfl) (by kernel_rfl) (fun _ _ _ h => h) (by rw [← HC.out.2.2.1]; exact cu_yields_off (by rfl) 51 (.tmp 26) rfl w.heap.size 10 rfl (x3.map uv) (fun w' hb => by have h := ((HB.out.2.2.1).below hb.bel (HB.out.2.2.1).lt).row 10 5; rw [rungV_row2 _ _ _ _ HL.out.1.1 HL.out.2.1.1 HL.out.2.2.1.1 HL.out.2.2.2.1.1] at h; exact h) 5 49 Try.underlying51 (cells5 x3 HL.out.2.2.1.1)) (by assumption) ?_
    (try simp only [Act.put, List.setIfInBounds_toArray, List.set_cons_zero, List.set_cons_succ])
    refine take_first (v := ?_) 2 rfl (by kernel_rfl) (by kernel_rfl) (by kernel_rfl) (fun _ _ _ h => h) (Or.inl ⟨by rfl, ?_⟩) (by assumption) ?_
    rotate_left
    · (intro w hSw; (try dsimp only at hSw); go_simp; try with_reducible rfl)
    (try simp only [Act.put, List.setIfInBounds_toArray, List.set_cons_zero, List.set_cons_succ])
    refine take_first (v := .agg cz3) 3 rfl (by kernel_rfl) (by kernel_rfl) (by kernel_rfl) (fun _ _ _ h => h) (by rw [← HC.out.2.2.2.1]; exact cu_yields_off (by rfl) 51 (.tmp 28) rfl w.heap.size 15 rfl (z3.map uv) (fun w' hb => by have h := ((HB.out.2.2.1).below hb.bel (HB.out.2.2.1).lt).row 15 5; rw [rungV_row3 _ _ _ _ HL.out.1.1 HL.out.2.1.1 HL.out.2.2.1.1 HL.out.2.2.2.1.1] at h; exact h) 5 49 Try.underlying51 (cells5 z3 HL.out.2.2.2.1.1)) (by assumption) ?_
    (try simp only [Act.put, List.setIfInBounds_toArray, List.set_cons_zero, List.set_cons_succ])
    refine take_first (v := ?_) 5 rfl (by kernel_rfl) (by kernel_rfl) (by kernel_rfl) (fun _ _ _ h => h) (Or.inl ⟨by rfl, ?_⟩) (by assumption) ?_
    rotate_left
    · (intro w hSw; (try dsimp only at hSw); go_simp; try with_reducible rfl)
    (try simp only [Act.put, List.setIfInBounds_toArray, List.set_cons_zero, List.set_cons_succ])
    refine take_first (v := .agg cx3) 6 rfl (by kernel_rfl) (by kernel_rfl) (by kernel_rfl) (fun _ _ _ h => h) (by rw [← HC.out.2.2.1]; exact cu_yields_off (by rfl) 51 (.tmp 31) rfl w.heap.size 10 rfl (x3.map uv) (fun w' hb => by have h := ((HB.out.2.2.1).below hb.bel (HB.out.2.2.1).lt).row 10 5; rw [rungV_row2 _ _ _ _ HL.out.1.1 HL.out.2.1.1 HL.out.2.2.1.1 HL.out.2.2.2.1.1] at h; exact h) 5 49 Try.underlying51 (cells5 x3 HL.out.2.2.1.1)) (by assumption) ?_
    (try simp only [Act.put, List.setIfInBounds_toArray, List.set_cons_zero, List.set_cons_succ])
    refine take_first (v := ?_) 7 rfl (by kernel_rfl) (by kernel_rfl) (by kernel_rfl) (fun _ _ _ h => h) (Or.inl ⟨by rfl, ?_⟩) (by assumption) ?_
    rotate_left
    · (intro w hSw; (try dsimp only at hSw); go_simp; try with_reducible rfl)
    (try simp only [Act.put, List.setIfInBounds_toArray, List.set_cons_zero, List.set_cons_succ])
    refine take_first (v := .agg cz3) 8 rfl (by kernel_rfl) (by kernel_rfl) (by kernel_rfl) (fun _ _ _ h => h) (by rw [← HC.out.2.2.2.1]; exact cu_yields_off (by rfl) 51 (.tmp 33) rfl w.heap.size 15 rfl (z3.map uv) (fun w' hb => by have h := ((HB.out.2.2.1).below hb.bel (HB.out.2.2.1).lt).row 15 5; rw [rungV_row3 _ _ _ _ HL.out.1.1 HL.out.2.1.1 HL.out.2.2.1.1 HL.out.2.2.2.1.1] at h; exact h) 5 49 Try.underlying51 (cells5 z3 HL.out.2.2.2.1.1)) (by assumption) ?_
    (try simp only [Act.put, List.setIfInBounds_toArray, List.set_cons_zero, List.set_cons_succ])
    refine step_three 4 10 11 rfl rfl rfl (by kernel_rfl) (fun K hK => ?_) (fun K hK => ?_) (fun K hK => ?_)
    · clear hHeld
      go_simp
      refine (Klc.out _).mono ?_
      rintro e wy2 ⟨rfl, hb⟩
      replace HM := Lib.hid (show Mem wb [] wy2 from HM.out.below hb)
      clear hb
      go_wp2_with fail
      refine hK.out _ _ (HM.out) (fun hHeld => ?_)
      clear hK K
      (try simp only [Act.put, List.setIfInBounds_toArray, List.set_cons_zero, List.set_cons_succ])
      refine step_three 9 10 11 rfl rfl rfl (by kernel_rfl) (fun K hK => ?_) (fun K hK => ?_) (fun K hK => ?_)
      · clear hHeld
        go_simp
        refine (Kld.out _).mono ?_
        rintro e wy3 ⟨rfl, hb⟩
        replace HM := Lib.hid (show Mem wb [] wy3 from HM.out.below hb)
        clear hb
        go_wp2_with fail
        refine hK.out _ _ (HM.out) (fun hHeld => ?_)
        clear hK K
        (try simp only [Act.put, List.setIfInBounds_toArray, List.set_cons_zero, List.set_cons_succ])
        refine step_two 10 11 rfl rfl (by kernel_rfl) (fun K hK => ?_) (fun K hK => ?_)
        · clear hHeld
          go_simp
          replace HM := Lib.hid (show Mem wb [blkE wy3.heap.size 51 (z5)] (wy3.alloc (.cells vZ5 51)) from HM.out.alloc rfl 51 vZ5 (z5) rfl)
          generalize wy3.alloc (.cells vZ5 51) = wy4 at HM ⊢
          generalize wy3.heap.size = P7 at HM ⊢
          refine hK.out _ _ ((HM.out.erase 0)) (fun hHeld => ?_)
          clear hK K
          (try simp only [Act.put, List.setIfInBounds_toArray, List.set_cons_zero, List.set_cons_succ])
          refine step_one 11 rfl (by kernel_rfl) (fun K hK => ?_)
          clear hHeld
          go_simp
          replace HM := Lib.hid (show Mem wb [blkE wy4.heap.size 51 (z5), blkE P7 51 (z5)] (wy4.alloc (.cells vZ5 51)) from HM.out.alloc rfl 51 vZ5 (z5) rfl)
          generalize wy4.alloc (.cells vZ5 51) = wy5 at HM ⊢
          generalize wy4.heap.size = P8 at HM ⊢
          refine hK.out _ _ (((HM.out.erase 0).erase 0)) (fun hHeld => ?_)
          clear hK K
          (try simp only [Act.put, List.setIfInBounds_toArray, List.set_cons_zero, List.set_cons_succ])
          refine step_one 12 rfl (by kernel_rfl) (fun K hK => ?_)
          clear hHeld
          refine step_store_blk _ rfl 51 (.tmp 7) (.tmp 30) rfl P7 (lc.map uv) rfl (by show Value.agg clc = _; rw [Hlc.out.1]) 51 (z5) (HM.out.blk 1 rfl) (cells5 _ Hlc.out.2.1.1) (by rw [List.length_map, Hlc.out.2.1.1]; rfl) (by intro v hv; obtain ⟨_, _, rfl⟩ := List.mem_map.1 hv; rfl) ?_
          intro wy6 hb hg
          replace HM := Lib.hid (show Mem wb [blkE P8 51 (z5), blkE P7 51 (lc.map uv)] wy6 from HM.out.put 1 rfl _ hg hb)
          clear hb hg
          refine hK.out _ _ (((HM.out.erase 0).erase 0)) (fun hHeld => ?_)
          clear hK K
          (try simp only [Act.put])
          refine step_one 13 rfl (by kernel_rfl) (fun K hK => ?_)
          clear hHeld
          refine step_store_blk _ rfl 51 (.tmp 8) (.tmp 35) rfl P8 (ld.map uv) rfl (by show Value.agg cld = _; rw [Hld.out.1]) 51 (z5) (HM.out.blk 0 rfl) (cells5 _ Hld.out.2.1.1) (by rw [List.length_map, Hld.out.2.1.1]; rfl) (by intro v hv; obtain ⟨_, _, rfl⟩ := List.mem_map.1 hv; rfl) ?_
          intro wy7 hb hg
          replace HM := Lib.hid (show Mem wb [blkE P8 51 (ld.map uv), blkE P7 51 (lc.map uv)] wy7 from HM.out.put 0 rfl _ hg hb)
          clear hb hg
          refine hK.out _ _ (((HM.out.erase 0).erase 0)) (fun hHeld => ?_)
          clear hK K
          (try simp only [Act.put])
          refine wpAnyH_done (by kernel_rfl) ?_ _
          go_wp2_with fail
          go_meet
          exact ⟨P7, P8, rfl, rfl, Nat.le_trans (HB.out.2.2.2.2.2.2) (MemE.low HM.out.1 1 _ rfl), Nat.le_trans (HB.out.2.2.2.2.2.2) (MemE.low HM.out.1 0 _ rfl), HM.out.blk 1 rfl, HM.out.blk 0 rfl, HKE.out _ HM.out.bel⟩
        · clear hHeld
          go_simp
          replace HM := Lib.hid (show Mem wb [blkE wy3.heap.size 51 (z5)] (wy3.alloc (.cells vZ5 51)) from HM.out.alloc rfl 51 vZ5 (z5) rfl)
          generalize wy3.alloc (.cells vZ5 51) = wy4 at HM ⊢
          generalize wy3.heap.size = P8 at HM ⊢
          refine hK.out _ _ ((HM.out.erase 0)) (fun hHeld => ?_)
          clear hK K
          (try simp only [Act.put, List.setIfInBounds_toArray, List.set_cons_zero, List.set_cons_succ])
          refine step_one 10 rfl (by kernel_rfl) (fun K hK => ?_)
          clear hHeld
          go_simp
          replace HM := Lib.hid (show Mem wb [blkE wy4.heap.size 51 (z5), blkE P8 51 (z5)] (wy4.alloc (.cells vZ5 51)) from HM.out.alloc rfl 51 vZ5 (z5) rfl)
          generalize wy4.alloc (.cells vZ5 51) = wy5 at HM ⊢
          generalize wy4.heap.size = P7 at HM ⊢
          refine hK.out _ _ (((HM.out.erase 0).erase 0)) (fun hHeld => ?_)
          clear hK K
          (try simp only [Act.put, List.setIfInBounds_toArray, List.set_cons_zero, List.set_cons_succ])
          refine step_one 12 rfl (by kernel_rfl) (fun K hK => ?_)
          clear hHeld
          refine step_store_blk _ rfl 51 (.tmp 7) (.tmp 30) rfl P7 (lc.map uv) rfl (by show Value.agg clc = _; rw [Hlc.out.1]) 51 (z5) (HM.out.blk 0 rfl) (cells5 _ Hlc.out.2.1.1) (by rw [List.length_map, Hlc.out.2.1.1]; rfl) (by intro v hv; obtain ⟨_, _, rfl⟩ := List.mem_map.1 hv; rfl) ?_
          intro wy6 hb hg
          replace HM := Lib.hid (show Mem wb [blkE P7 51 (lc.map uv), blkE P8 51 (z5)] wy6 from HM.out.put 0 rfl _ hg hb)
          clear hb hg
          refine hK.out _ _ (((HM.out.erase 0).erase 0)) (fun hHeld => ?_)
          clear hK K
          (try simp only [Act.put])
          refine step_one 13 rfl (by kernel_rfl) (fun K hK => ?_)
          clear hHeld
          refine step_store_blk _ rfl 51 (.tmp 8) (.tmp 35) rfl P8 (ld.map uv) rfl (by show Value.agg cld = _; rw [Hld.out.1]) 51 (z5) (HM.out.blk 1 rfl) (cells5 _ Hld.out.2.1.1) (by rw [List.length_map, Hld.out.2.1.1]; rfl) (by intro v hv; obtain ⟨_, _, rfl⟩ := List.mem_map.1 hv; rfl) ?_
          intro wy7 hb hg
          replace HM := Lib.hid (show Mem wb [blkE P7 51 (lc.map uv), blkE P8 51 (ld.map uv)] wy7 from HM.out.put 1 rfl _ hg hb)
          clear hb hg
          refine hK.out _ _ (((HM.out.erase 0).erase 0)) (fun hHeld => ?_)
          clear hK K
          (try simp only [Act.put])
          refine wpAnyH_done (by kernel_rfl) ?_ _
          go_wp2_with fail
          go_meet
          exact ⟨P7, P8, rfl, rfl, Nat.le_trans (HB.out.2.2.2.2.2.2) (MemE.low HM.out.1 0 _ rfl), Nat.le_trans (HB.out.2.2.2.2.2.2) (MemE.low HM.out.1 1 _ rfl), HM.out.blk 0 rfl, HM.out.blk 1 rfl, HKE.out _ HM.out.bel⟩
      · clear hHeld
        go_simp
        replace HM := Lib.hid (show Mem wb [blkE wy2.heap.size 51 (z5)] (wy2.alloc (.cells vZ5 51)) from HM.out.alloc rfl 51 vZ5 (z5) rfl)
        generalize wy2.alloc (.cells vZ5 51) = wy3 at HM ⊢
        generalize wy2.heap.size = P7 at HM ⊢
        refine hK.out _ _ ((HM.out.erase 0)) (fun hHeld => ?_)
        clear hK K
        (try simp only [Act.put, List.setIfInBounds_toArray, List.set_cons_zero, List.set_cons_succ])
        refine step_two 9 11 rfl rfl (by kernel_rfl) (fun K hK => ?_) (fun K hK => ?_)
        · clear hHeld
          go_simp
          refine (Kld.out _).mono ?_
          rintro e wy4 ⟨rfl, hb⟩
          replace HM := Lib.hid (show Mem wb [blkE P7 51 (z5)] wy4 from HM.out.below hb)
          clear hb
          go_wp2_with fail
          refine hK.out _ _ ((HM.out.erase 0)) (fun hHeld => ?_)
          clear hK K
          (try simp only [Act.put, List.setIfInBounds_toArray, List.set_cons_zero, List.set_cons_succ])
          refine step_one 11 rfl (by kernel_rfl) (fun K hK => ?_)
          clear hHeld
          go_simp
          replace HM := Lib.hid (show Mem wb [blkE wy4.heap.size 51 (z5), blkE P7 51 (z5)] (wy4.alloc (.cells vZ5 51)) from HM.out.alloc rfl 51 vZ5 (z5) rfl)
          generalize wy4.alloc (.cells vZ5 51) = wy5 at HM ⊢
          generalize wy4.heap.size = P8 at HM ⊢
          refine hK.out _ _ (((HM.out.erase 0).erase 0)) (fun hHeld => ?_)
          clear hK K
          (try simp only [Act.put, List.setIfInBounds_toArray, List.set_cons_zero, List.set_cons_succ])
          refine step_one 12 rfl (by kernel_rfl) (fun K hK => ?_)
          clear hHeld
          refine step_store_blk _ rfl 51 (.tmp 7) (.tmp 30) rfl P7 (lc.map uv) rfl (by show Value.agg clc = _; rw [Hlc.out.1]) 51 (z5) (HM.out.blk 1 rfl) (cells5 _ Hlc.out.2.1.1) (by rw [List.length_map, Hlc.out.2.1.1]; rfl) (by intro v hv; obtain ⟨_, _, rfl⟩ := List.mem_map.1 hv; rfl) ?_
          intro wy6 hb hg
          replace HM := Lib.hid (show Mem wb [blkE P8 51 (z5), blkE P7 51 (lc.map uv)] wy6 from HM.out.put 1 rfl _ hg hb)
          clear hb hg
          refine hK.out _ _ (((HM.out.erase 0).erase 0)) (fun hHeld => ?_)
          clear hK K
          (try simp only [Act.put])
          refine step_one 13 rfl (by kernel_rfl) (fun K hK => ?_)
          clear hHeld
          refine step_store_blk _ rfl 51 (.tmp 8) (.tmp 35) rfl P8 (ld.map uv) rfl (by show Value.agg cld = _; rw [Hld.out.1]) 51 (z5) (HM.out.blk 0 rfl) (cells5 _ Hld.out.2.1.1) (by rw [List.length_map, Hld.out.2.1.1]; rfl) (by intro v hv; obtain ⟨_, _, rfl⟩ := List.mem_map.1 hv; rfl) ?_
          intro wy7 hb hg
          replace HM := Lib.hid (show Mem wb [blkE P8 51 (ld.map uv), blkE P7 51 (lc.map uv)] wy7 from HM.out.put 0 rfl _ hg hb)
          clear hb hg
          refine hK.out _ _ (((HM.out.erase 0).erase 0)) (fun hHeld => ?_)
          clear hK K
          (try simp only [Act.put])
          refine wpAnyH_done (by kernel_rfl) ?_ _
          go_wp2_with fail
          go_meet
          exact ⟨P7, P8, rfl, rfl, Nat.le_trans (HB.out.2.2.2.2.2.2) (MemE.low HM.out.1 1 _ rfl), Nat.le_trans (HB.out.2.2.2.2.2.2) (MemE.low HM.out.1 0 _ rfl), HM.out.blk 1 rfl, HM.out.blk 0 rfl, HKE.out _ HM.out.bel⟩
        · clear hHeld
          go_simp
          replace HM := Lib.hid (show Mem wb [blkE wy3.heap.size 51 (z5), blkE P7 51 (z5)] (wy3.alloc (.cells vZ5 51)) from HM.out.alloc rfl 51 vZ5 (z5) rfl)
          generalize wy3.alloc (.cells vZ5 51) = wy4 at HM ⊢
          generalize wy3.heap.size = P8 at HM ⊢
          refine hK.out _ _ (((HM.out.erase 0).erase 0)) (fun hHeld => ?_)
          clear hK K
          (try simp only [Act.put, List.setIfInBounds_toArray, List.set_cons_zero, List.set_cons_succ])
          refine step_one 9 rfl (by kernel_rfl) (fun K hK => ?_)
          clear hHeld
          go_simp
          refine (Kld.out _).mono ?_
          rintro e wy5 ⟨rfl, hb⟩
          replace HM := Lib.hid (show Mem wb [blkE P8 51 (z5), blkE P7 51 (z5)] wy5 from HM.out.below hb)
          clear hb
          go_wp2_with fail
          refine hK.out _ _ (((HM.out.erase 0).erase 0)) (fun hHeld => ?_)
          clear hK K
          (try simp only [Act.put, List.setIfInBounds_toArray, List.set_cons_zero, List.set_cons_succ])
          refine step_one 12 rfl (by kernel_rfl) (fun K hK => ?_)
          clear hHeld
          refine step_store_blk _ rfl 51 (.tmp 7) (.tmp 30) rfl P7 (lc.map uv) rfl (by show Value.agg clc = _; rw [Hlc.out.1]) 51 (z5) (HM.out.blk 1 rfl) (cells5 _ Hlc.out.2.1.1) (by rw [List.length_map, Hlc.out.2.1.1]; rfl) (by intro v hv; obtain ⟨_, _, rfl⟩ := List.mem_map.1 hv; rfl) ?_
          intro wy6 hb hg
          replace HM := Lib.hid (show Mem wb [blkE P8 51 (z5), blkE P7 51 (lc.map uv)] wy6 from HM.out.put 1 rfl _ hg hb)
          clear hb hg
          refine hK.out _ _ (((HM.out.erase 0).erase 0)) (fun hHeld => ?_)
          clear hK K
          (try simp only [Act.put])
          refine step_one 13 rfl (by kernel_rfl) (fun K hK => ?_)
          clear hHeld
          refine step_store_blk _ rfl 51 (.tmp 8) (.tmp 35) rfl P8 (ld.map uv) rfl (by show Value.agg cld = _; rw [Hld.out.1]) 51 (z5) (HM.out.blk 0 rfl) (cells5 _ Hld.out.2.1.1) (by rw [List.length_map, Hld.out.2.1.1]; rfl) (by intro v hv; obtain ⟨_, _, rfl⟩ := List.mem_map.1 hv; rfl) ?_
          intro wy7 hb hg
          replace HM := Lib.hid (show Mem wb [blkE P8 51 (ld.map uv), blkE P7 51 (lc.map uv)] wy7 from HM.out.put 0 rfl _ hg hb)
          clear hb hg
          refine hK.out _ _ (((HM.out.erase 0).erase 0)) (fun hHeld => ?_)
          clear hK K
          (try simp only [Act.put])
          refine wpAnyH_done (by kernel_rfl) ?_ _
          go_wp2_with fail
          go_meet
          exact ⟨P7, P8, rfl, rfl, Nat.le_trans (HB.out.2.2.2.2.2.2) (MemE.low HM.out.1 1 _ rfl), Nat.le_trans (HB.out.2.2.2.2.2.2) (MemE.low HM.out.1 0 _ rfl), HM.out.blk 1 rfl, HM.out.blk 0 rfl, HKE.out _ HM.out.bel⟩
      · clear hHeld
        go_simp
        replace HM := Lib.hid (show Mem wb [blkE wy2.heap.size 51 (z5)] (wy2.alloc (.cells vZ5 51)) from HM.out.alloc rfl 51 vZ5 (z5) rfl)
        generalize wy2.alloc (.cells vZ5 51) = wy3 at HM ⊢
        generalize wy2.heap.size = P8 at HM ⊢
        refine hK.out _ _ ((HM.out.erase 0)) (fun hHeld => ?_)
        clear hK K
        (try simp only [Act.put, List.setIfInBounds_toArray, List.set_cons_zero, List.set_cons_succ])
        refine step_two 9 10 rfl rfl (by kernel_rfl) (fun K hK => ?_) (fun K hK => ?_)
        · clear hHeld
          go_simp
          refine (Kld.out _).mono ?_
          rintro e wy4 ⟨rfl, hb⟩
          replace HM := Lib.hid (show Mem wb [blkE P8 51 (z5)] wy4 from HM.out.below hb)
          clear hb
          go_wp2_with fail
          refine hK.out _ _ ((HM.out.erase 0)) (fun hHeld => ?_)
          clear hK K
          (try simp only [Act.put, List.setIfInBounds_toArray, List.set_cons_zero, List.set_cons_succ])
          refine step_one 10 rfl (by kernel_rfl) (fun K hK => ?_)
          clear hHeld
          go_simp
          replace HM := Lib.hid (show Mem wb [blkE wy4.heap.size 51 (z5), blkE P8 51 (z5)] (wy4.alloc (.cells vZ5 51)) from HM.out.alloc rfl 51 vZ5 (z5) rfl)
          generalize wy4.alloc (.cells vZ5 51) = wy5 at HM ⊢
          generalize wy4.heap.size = P7 at HM ⊢
          refine hK.out _ _ (((HM.out.erase 0).erase 0)) (fun hHeld => ?_)
          clear hK K
          (try simp only [Act.put, List.setIfInBounds_toArray, List.set_cons_zero, List.set_cons_succ])
          refine step_one 12 rfl (by kernel_rfl) (fun K hK => ?_)
          clear hHeld
          refine step_store_blk _ rfl 51 (.tmp 7) (.tmp 30) rfl P7 (lc.map uv) rfl (by show Value.agg clc = _; rw [Hlc.out.1]) 51 (z5) (HM.out.blk 0 rfl) (cells5 _ Hlc.out.2.1.1) (by rw [List.length_map, Hlc.out.2.1.1]; rfl) (by intro v hv; obtain ⟨_, _, rfl⟩ := List.mem_map.1 hv; rfl) ?_
          intro wy6 hb hg
          replace HM := Lib.hid (show Mem wb [blkE P7 51 (lc.map uv), blkE P8 51 (z5)] wy6 from HM.out.put 0 rfl _ hg hb)
          clear hb hg
          refine hK.out _ _ (((HM.out.erase 0).erase 0)) (fun hHeld => ?_)
          clear hK K
          (try simp only [Act.put])
          refine step_one 13 rfl (by kernel_rfl) (fun K hK => ?_)
          clear hHeld
          refine step_store_blk _ rfl 51 (.tmp 8) (.tmp 35) rfl P8 (ld.map uv) rfl (by show Value.agg cld = _; rw [Hld.out.1]) 51 (z5) (HM.out.blk 1 rfl) (cells5 _ Hld.out.2.1.1) (by rw [List.length_map, Hld.out.2.1.1]; rfl) (by intro v hv; obtain ⟨_, _, rfl⟩ := List.mem_map.1 hv; rfl) ?_
          intro wy7 hb hg
          replace HM := Lib.hid (show Mem wb [blkE P7 51 (lc.map uv), blkE P8 51 (ld.map uv)] wy7 from HM.out.put 1 rfl _ hg hb)
          clear hb hg
          refine hK.out _ _ (((HM.out.erase 0).erase 0)) (fun hHeld => ?_)
          clear hK K
          (try simp only [Act.put])
          refine wpAnyH_done (by kernel_rfl) ?_ _
          go_wp2_with fail
          go_meet
          exact ⟨P7, P8, rfl, rfl, Nat.le_trans (HB.out.2.2.2.2.2.2) (MemE.low HM.out.1 0 _ rfl), Nat.le_trans (HB.out.2.2.2.2.2.2) (MemE.low HM.out.1 1 _ rfl), HM.out.blk 0 rfl, HM.out.blk 1 rfl, HKE.out _ HM.out.bel⟩
        · clear hHeld
          go_simp
          replace HM := Lib.hid (show Mem wb [blkE wy3.heap.size 51 (z5), blkE P8 51 (z5)] (wy3.alloc (.cells vZ5 51)) from HM.out.alloc rfl 51 vZ5 (z5) rfl)
          generalize wy3.alloc (.cells vZ5 51) = wy4 at HM ⊢
          generalize wy3.heap.size = P7 at HM ⊢
          refine hK.out _ _ (((HM.out.erase 0).erase 0)) (fun hHeld => ?_)
          clear hK K
          (try simp only [Act.put, List.setIfInBounds_toArray, List.set_cons_zero, List.set_cons_succ])
          refine step_one 9 rfl (by kernel_rfl) (fun K hK => ?_)
          clear hHeld
          go_simp
          refine (Kld.out _).mono ?_
          rintro e wy5 ⟨rfl, hb⟩
          replace HM := Lib.hid (show Mem wb [blkE P7 51 (z5), blkE P8 51 (z5)] wy5 from HM.out.below hb)
          clear hb
          go_wp2_with fail
          refine hK.out _ _ (((HM.out.erase 0).erase 0)) (fun hHeld => ?_)
          clear hK K
          (try simp only [Act.put, List.setIfInBounds_toArray, List.set_cons_zero, List.set_cons_succ])
          refine step_one 12 rfl (by kernel_rfl) (fun K hK => ?_)
          clear hHeld
          refine step_store_blk _ rfl 51 (.tmp 7) (.tmp 30) rfl P7 (lc.map uv) rfl (by show Value.agg clc = _; rw [Hlc.out.1]) 51 (z5) (HM.out.blk 0 rfl) (cells5 _ Hlc.out.2.1.1) (by rw [List.length_map, Hlc.out.2.1.1]; rfl) (by intro v hv; obtain ⟨_, _, rfl⟩ := List.mem_map.1 hv; rfl) ?_
          intro wy6 hb hg
          replace HM := Lib.hid (show Mem wb [blkE P7 51 (lc.map uv), blkE P8 51 (z5)] wy6 from HM.out.put 0 rfl _ hg hb)
          clear hb hg
          refine hK.out _ _ (((HM.out.erase 0).erase 0)) (fun hHeld => ?_)
          clear hK K
          (try simp only [Act.put])
          refine step_one 13 rfl (by kernel_rfl) (fun K hK => ?_)
          clear hHeld
          refine step_store_blk _ rfl 51 (.tmp 8) (.tmp 35) rfl P8 (ld.map uv) rfl (by show Value.agg cld = _; rw [Hld.out.1]) 51 (z5) (HM.out.blk 1 rfl) (cells5 _ Hld.out.2.1.1) (by rw [List.length_map, Hld.out.2.1.1]; rfl) (by intro v hv; obtain ⟨_, _, rfl⟩ := List.mem_map.1 hv; rfl) ?_
          intro wy7 hb hg
          replace HM := Lib.hid (show Mem wb [blkE P7 51 (lc.map uv), blkE P8 51 (ld.map uv)] wy7 from HM.out.put 1 rfl _ hg hb)
          clear hb hg
          refine hK.out _ _ (((HM.out.erase 0).erase 0)) (fun hHeld => ?_)
          clear hK K
          (try simp only [Act.put])
          refine wpAnyH_done (by kernel_rfl) ?_ _
          go_wp2_with fail
          go_meet
          exact ⟨P7, P8, rfl, rfl, Nat.le_trans (HB.out.2.2.2.2.2.2) (MemE.low HM.out.1 0 _ rfl), Nat.le_trans (HB.out.2.2.2.2.2.2) (MemE.low HM.out.1 1 _ rfl), HM.out.blk 0 rfl, HM.out.blk 1 rfl, HKE.out _ HM.out.bel⟩
    · clear hHeld
      go_simp
      replace HM := Lib.hid (show Mem wb [blkE wd1.heap.size 51 (z5)] (wd1.alloc (.cells vZ5 51)) from HM.out.alloc rfl 51 vZ5 (z5) rfl)
      generalize wd1.alloc (.cells vZ5 51) = wy2 at HM ⊢
      generalize wd1.heap.size = P7 at HM ⊢
      refine hK.out _ _ ((HM.out.erase 0)) (fun hHeld => ?_)
      clear hK K
      (try simp only [Act.put, List.setIfInBounds_toArray, List.set_cons_zero, List.set_cons_succ])
      refine step_two 4 11 rfl rfl (by kernel_rfl) (fun K hK => ?_) (fun K hK => ?_)
      · clear hHeld
        go_simp
        refine (Klc.out _).mono ?_
        rintro e wy3 ⟨rfl, hb⟩
        replace HM := Lib.hid (show Mem wb [blkE P7 51 (z5)] wy3 from HM.out.below hb)
        clear hb
        go_wp2_with fail
        refine hK.out _ _ ((HM.out.erase 0)) (fun hHeld => ?_)
        clear hK K
        (try simp only [Act.put, List.setIfInBounds_toArray, List.set_cons_zero, List.set_cons_succ])
        refine step_two 9 11 rfl rfl (by kernel_rfl) (fun K hK => ?_) (fun K hK => ?_)
        · clear hHeld
          go_simp
          refine (Kld.out _).mono ?_
          rintro e wy4 ⟨rfl, hb⟩
          replace HM := Lib.hid (show Mem wb [blkE P7 51 (z5)] wy4 from HM.out.below hb)
          clear hb
          go_wp2_with fail
          refine hK.out _ _ ((HM.out.erase 0)) (fun hHeld => ?_)
          clear hK K
          (try simp only [Act.put, List.setIfInBounds_toArray, List.set_cons_zero, List.set_cons_succ])
          refine step_one 11 rfl (by kernel_rfl) (fun K hK => ?_)
          clear hHeld
          go_simp
          replace HM := Lib.hid (show Mem wb [blkE wy4.heap.size 51 (z5), blkE P7 51 (z5)] (wy4.alloc (.cells vZ5 51)) from HM.out.alloc rfl 51 vZ5 (z5) rfl)
          generalize wy4.alloc (.cells vZ5 51) = wy5 at HM ⊢
          generalize wy4.heap.size = P8 at HM ⊢
          refine hK.out _ _ (((HM.out.erase 0).erase 0)) (fun hHeld => ?_)
          clear hK K
          (try simp only [Act.put, List.setIfInBounds_toArray, List.set_cons_zero, List.set_cons_succ])
          refine step_one 12 rfl (by kernel_rfl) (fun K hK => ?_)
          clear hHeld
          refine step_store_blk _ rfl 51 (.tmp 7) (.tmp 30) rfl P7 (lc.map uv) rfl (by show Value.agg clc = _; rw [Hlc.out.1]) 51 (z5) (HM.out.blk 1 rfl) (cells5 _ Hlc.out.2.1.1) (by rw [List.length_map, Hlc.out.2.1.1]; rfl) (by intro v hv; obtain ⟨_, _, rfl⟩ := List.mem_map.1 hv; rfl) ?_
          intro wy6 hb hg
          replace HM := Lib.hid (show Mem wb [blkE P8 51 (z5), blkE P7 51 (lc.map uv)] wy6 from HM.out.put 1 rfl _ hg hb)
          clear hb hg
          refine hK.out _ _ (((HM.out.erase 0).erase 0)) (fun hHeld => ?_)
          clear hK K
          (try simp only [Act.put])
          refine step_one 13 rfl (by kernel_rfl) (fun K hK => ?_)
          clear hHeld
          refine step_store_blk _ rfl 51 (.tmp 8) (.tmp 35) rfl P8 (ld.map uv) rfl (by show Value.agg cld = _; rw [Hld.out.1]) 51 (z5) (HM.out.blk 0 rfl) (cells5 _ Hld.out.2.1.1) (by rw [List.length_map, Hld.out.2.1.1]; rfl) (by intro v hv; obtain ⟨_, _, rfl⟩ := List.mem_map.1 hv; rfl) ?_
          intro wy7 hb hg
          replace HM := Lib.hid (show Mem wb [blkE P8 51 (ld.map uv), blkE P7 51 (lc.map uv)] wy7 from HM.out.put 0 rfl _ hg hb)
          clear hb hg
          refine hK.out _ _ (((HM.out.erase 0).erase 0)) (fun hHeld => ?_)
          clear hK K
          (try simp only [Act.put])
          refine wpAnyH_done (by kernel_rfl) ?_ _
          go_wp2_with fail
          go_meet
          exact ⟨P7, P8, rfl, rfl, Nat.le_trans (HB.out.2.2.2.2.2.2) (MemE.low HM.out.1 1 _ rfl), Nat.le_trans (HB.out.2.2.2.2.2.2) (MemE.low HM.out.1 0 _ rfl), HM.out.blk 1 rfl, HM.out.blk 0 rfl, HKE.out _ HM.out.bel⟩
        · clear hHeld
          go_simp
          replace HM := Lib.hid (show Mem wb [blkE wy3.heap.size 51 (z5), blkE P7 51 (z5)] (wy3.alloc (.cells vZ5 51)) from HM.out.alloc rfl 51 vZ5 (z5) rfl)
          generalize wy3.alloc (.cells vZ5 51) = wy4 at HM ⊢
          generalize wy3.heap.size = P8 at HM ⊢
          refine hK.out _ _ (((HM.out.erase 0).erase 0)) (fun hHeld => ?_)
          clear hK K
          (try simp only [Act.put, List.setIfInBounds_toArray, List.set_cons_zero, List.set_cons_succ])
          refine step_one 9 rfl (by kernel_rfl) (fun K hK => ?_)
          clear hHeld
          go_simp
          refine (Kld.out _).mono ?_
          rintro e wy5 ⟨rfl, hb⟩
          replace HM := Lib.hid (show Mem wb [blkE P8 51 (z5), blkE P7 51 (z5)] wy5 from HM.out.below hb)
          clear hb
          go_wp2_with fail
          refine hK.out _ _ (((HM.out.erase 0).erase 0)) (fun hHeld => ?_)
          clear hK K
          (try simp only [Act.put, List.setIfInBounds_toArray, List.set_cons_zero, List.set_cons_succ])
          refine step_one 12 rfl (by kernel_rfl) (fun K hK => ?_)
          clear hHeld
          refine step_store_blk _ rfl 51 (.tmp 7) (.tmp 30) rfl P7 (lc.map uv) rfl (by show Value.agg clc = _; rw [Hlc.out.1]) 51 (z5) (HM.out.blk 1 rfl) (cells5 _ Hlc.out.2.1.1) (by rw [List.length_map, Hlc.out.2.1.1]; rfl) (by intro v hv; obtain ⟨_, _, rfl⟩ := List.mem_map.1 hv; rfl) ?_
          intro wy6 hb hg
          replace HM := Lib.hid (show Mem wb [blkE P8 51 (z5), blkE P7 51 (lc.map uv)] wy6 from HM.out.put 1 rfl _ hg hb)
          clear hb hg
          refine hK.out _ _ (((HM.out.erase 0).erase 0)) (fun hHeld => ?_)
          clear hK K
          (try simp only [Act.put])
          refine step_one 13 rfl (by kernel_rfl) (fun K hK => ?_)
          clear hHeld
          refine step_store_blk _ rfl 51 (.tmp 8) (.tmp 35) rfl P8 (ld.map uv) rfl (by show Value.agg cld = _; rw [Hld.out.1]) 51 (z5) (HM.out.blk 0 rfl) (cells5 _ Hld.out.2.1.1) (by rw [List.length_map, Hld.out.2.1.1]; rfl) (by intro v hv; obtain ⟨_, _, rfl⟩ := List.mem_map.1 hv; rfl) ?_
          intro wy7 hb hg
          replace HM := Lib.hid (show Mem wb [blkE P8 51 (ld.map uv), blkE P7 51 (lc.map uv)] wy7 from HM.out.put 0 rfl _ hg hb)
          clear hb hg
          refine hK.out _ _ (((HM.out.erase 0).erase 0)) (fun hHeld => ?_)
          clear hK K
          (try simp only [Act.put])
          refine wpAnyH_done (by kernel_rfl) ?_ _
          go_wp2_with fail
          go_meet
          exact ⟨P7, P8, rfl, rfl, Nat.le_trans (HB.out.2.2.2.2.2.2) (MemE.low HM.out.1 1 _ rfl), Nat.le_trans (HB.out.2.2.2.2.2.2) (MemE.low HM.out.1 0 _ rfl), HM.out.blk 1 rfl, HM.out.blk 0 rfl, HKE.out _ HM.out.bel⟩
      · clear hHeld
        go_simp
        replace HM := Lib.hid (show Mem wb [blkE wy2.heap.size 51 (z5), blkE P7 51 (z5)] (wy2.alloc (.cells vZ5 51)) from HM.out.alloc rfl 51 vZ5 (z5) rfl)
        generalize wy2.alloc (.cells vZ5 51) = wy3 at HM ⊢
        generalize wy2.heap.size = P8 at HM ⊢
        refine hK.out _ _ (((HM.out.erase 0).erase 0)) (fun hHeld => ?_)
        clear hK K
        (try simp only [Act.put, List.setIfInBounds_toArray, List.set_cons_zero, List.set_cons_succ])
        refine step_one 4 rfl (by kernel_rfl) (fun K hK => ?_)
        clear hHeld
        go_simp
        refine (Klc.out _).mono ?_
        rintro e wy4 ⟨rfl, hb⟩
        replace HM := Lib.hid (show Mem wb [blkE P8 51 (z5), blkE P7 51 (z5)] wy4 from HM.out.below hb)
        clear hb
        go_wp2_with fail
        refine hK.out _ _ (((HM.out.erase 0).erase 0)) (fun hHeld => ?_)
        clear hK K
        (try simp only [Act.put, List.setIfInBounds_toArray, List.set_cons_zero, List.set_cons_succ])
        refine step_one 9 rfl (by kernel_rfl) (fun K hK => ?_)
        clear hHeld
        go_simp
        refine (Kld.out _).mono ?_
        rintro e wy5 ⟨rfl, hb⟩
        replace HM := Lib.hid (show Mem wb [blkE P8 51 (z5), blkE P7 51 (z5)] wy5 from HM.out.below hb)
        clear hb
        go_wp2_with fail
        refine hK.out _ _ (((HM.out.erase 0).erase 0)) (fun hHeld => ?_)
        clear hK K
        (try simp only [Act.put, List.setIfInBounds_toArray, List.set_cons_zero, List.set_cons_succ])
        refine step_one 12 rfl (by kernel_rfl) (fun K hK => ?_)
        clear hHeld
        refine step_store_blk _ rfl 51 (.tmp 7) (.tmp 30) rfl P7 (lc.map uv) rfl (by show Value.agg clc = _; rw [Hlc.out.1]) 51 (z5) (HM.out.blk 1 rfl) (cells5 _ Hlc.out.2.1.1) (by rw [List.length_map, Hlc.out.2.1.1]; rfl) (by intro v hv; obtain ⟨_, _, rfl⟩ := List.mem_map.1 hv; rfl) ?_
        intro wy6 hb hg
        replace HM := Lib.hid (show Mem wb [blkE P8 51 (z5), blkE P7 51 (lc.map uv)] wy6 from HM.out.put 1 rfl _ hg hb)
        clear hb hg
        refine hK.out _ _ (((HM.out.erase 0).erase 0)) (fun hHeld => ?_)
        clear hK K
        (try simp only [Act.put])
        refine step_one 13 rfl (by kernel_rfl) (fun K hK => ?_)
        clear hHeld
        refine step_store_blk _ rfl 51 (.tmp 8) (.tmp 35) rfl P8 (ld.map uv) rfl (by show Value.agg cld = _; rw [Hld.out.1]) 51 (z5) (HM.out.blk 0 rfl) (cells5 _ Hld.out.2.1.1) (by rw [List.length_map, Hld.out.2.1.1]; rfl) (by intro v hv; obtain ⟨_, _, rfl⟩ := List.mem_map.1 hv; rfl) ?_
        intro wy7 hb hg
        replace HM := Lib.hid (show Mem wb [blkE P8 51 (ld.map uv), blkE P7 51 (lc.map uv)] wy7 from HM.out.put 0 rfl _ hg hb)
        clear hb hg
        refine hK.out _ _ (((HM.out.erase 0).erase 0)) (fun hHeld => ?_)
        clear hK K
        (try simp only [Act.put])
        refine wpAnyH_done (by kernel_rfl) ?_ _
        go_wp2_with fail
        go_meet
        exact ⟨P7, P8, rfl, rfl, Nat.le_trans (HB.out.2.2.2.2.2.2) (MemE.low HM.out.1 1 _ rfl), Nat.le_trans (HB.out.2.2.2.2.2.2) (MemE.low HM.out.1 0 _ rfl), HM.out.blk 1 rfl, HM.out.blk 0 rfl, HKE.out _ HM.out.bel⟩
    · clear hHeld
      go_simp
      replace HM := Lib.hid (show Mem wb [blkE wd1.heap.size 51 (z5)] (wd1.alloc (.cells vZ5 51)) from HM.out.alloc rfl 51 vZ5 (z5) rfl)
      generalize wd1.alloc (.cells vZ5 51) = wy2 at HM ⊢
      generalize wd1.heap.size = P8 at HM ⊢
      refine hK.out _ _ ((HM.out.erase 0)) (fun hHeld => ?_)
      clear hK K
      (try simp only [Act.put, List.setIfInBounds_toArray, List.set_cons_zero, List.set_cons_succ])
      refine step_two 4 10 rfl rfl (by kernel_rfl) (fun K hK => ?_) (fun K hK => ?_)
      · clear hHeld
        go_simp
        refine (Klc.out _).mono ?_
        rintro e wy3 ⟨rfl, hb⟩
        replace HM := Lib.hid (show Mem wb [blkE P8 51 (z5)] wy3 from HM.out.below hb)
        clear hb
        go_wp2_with fail
        refine hK.out _ _ ((HM.out.erase 0)) (fun hHeld => ?_)
        clear hK K
        (try simp only [Act.put, List.setIfInBounds_toArray, List.set_cons_zero, List.set_cons_succ])
        refine step_two 9 10 rfl rfl (by kernel_rfl) (fun K hK => ?_) (fun K hK => ?_)
        · clear hHeld
          go_simp
          refine (Kld.out _).mono ?_
          rintro e wy4 ⟨rfl, hb⟩
          replace HM := Lib.hid (show Mem wb [blkE P8 51 (z5)] wy4 from HM.out.below hb)
          clear hb
          go_wp2_with fail
          refine hK.out _ _ ((HM.out.erase 0)) (fun hHeld => ?_)
          clear hK K
          (try simp only [Act.put, List.setIfInBounds_toArray, List.set_cons_zero, List.set_cons_succ])
          refine step_one 10 rfl (by kernel_rfl) (fun K hK => ?_)
          clear hHeld
          go_simp
          replace HM := Lib.hid (show Mem wb [blkE wy4.heap.size 51 (z5), blkE P8 51 (z5)] (wy4.alloc (.cells vZ5 51)) from HM.out.alloc rfl 51 vZ5 (z5) rfl)
          generalize wy4.alloc (.cells vZ5 51) = wy5 at HM ⊢
          generalize wy4.heap.size = P7 at HM ⊢
          refine hK.out _ _ (((HM.out.erase 0).erase 0)) (fun hHeld => ?_)
          clear hK K
          (try simp only [Act.put, List.setIfInBounds_toArray, List.set_cons_zero, List.set_cons_succ])
          refine step_one 12 rfl (by kernel_rfl) (fun K hK => ?_)
          clear hHeld
          refine step_store_blk _ rfl 51 (.tmp 7) (.tmp 30) rfl P7 (lc.map uv) rfl (by show Value.agg clc = _; rw [Hlc.out.1]) 51 (z5) (HM.out.blk 0 rfl) (cells5 _ Hlc.out.2.1.1) (by rw [List.length_map, Hlc.out.2.1.1]; rfl) (by intro v hv; obtain ⟨_, _, rfl⟩ := List.mem_map.1 hv; rfl) ?_
          intro wy6 hb hg
          replace HM := Lib.hid (show Mem wb [blkE P7 51 (lc.map uv), blkE P8 51 (z5)] wy6 from HM.out.put 0 rfl _ hg hb)
          clear hb hg
          refine hK.out _ _ (((HM.out.erase 0).erase 0)) (fun hHeld => ?_)
          clear hK K
          (try simp only [Act.put])
          refine step_one 13 rfl (by kernel_rfl) (fun K hK => ?_)
          clear hHeld
          refine step_store_blk _ rfl 51 (.tmp 8) (.tmp 35) rfl P8 (ld.map uv) rfl (by show Value.agg cld = _; rw [Hld.out.1]) 51 (z5) (HM.out.blk 1 rfl) (cells5 _ Hld.out.2.1.1) (by rw [List.length_map, Hld.out.2.1.1]; rfl) (by intro v hv; obtain ⟨_, _, rfl⟩ := List.mem_map.1 hv; rfl) ?_
          intro wy7 hb hg
          replace HM := Lib.hid (show Mem wb [blkE P7 51 (lc.map uv), blkE P8 51 (ld.map uv)] wy7 from HM.out.put 1 rfl _ hg hb)
          clear hb hg
          refine hK.out _ _ (((HM.out.erase 0).erase 0)) (fun hHeld => ?_)
          clear hK K
          (try simp only [Act.put])
          refine wpAnyH_done (by kernel_rfl) ?_ _
          go_wp2_with fail
          go_meet
          exact ⟨P7, P8, rfl, rfl, Nat.le_trans (HB.out.2.2.2.2.2.2) (MemE.low HM.out.1 0 _ rfl), Nat.le_trans (HB.out.2.2.2.2.2.2) (MemE.low HM.out.1 1 _ rfl), HM.out.blk 0 rfl, HM.out.blk 1 rfl, HKE.out _ HM.out.bel⟩
        · clear hHeld
          go_simp
          replace HM := Lib.hid (show Mem wb [blkE wy3.heap.size 51 (z5), blkE P8 51 (z5)] (wy3.alloc (.cells vZ5 51)) from HM.out.alloc rfl 51 vZ5 (z5) rfl)
          generalize wy3.alloc (.cells vZ5 51) = wy4 at HM ⊢
          generalize wy3.heap.size = P7 at HM ⊢
          refine hK.out _ _ (((HM.out.erase 0).erase 0)) (fun hHeld => ?_)
          clear hK K
          (try simp only [Act.put, List.setIfInBounds_toArray, List.set_cons_zero, List.set_cons_succ])
          refine step_one 9 rfl (by kernel_rfl) (fun K hK => ?_)
          clear hHeld
          go_simp
          refine (Kld.out _).mono ?_
          rintro e wy5 ⟨rfl, hb⟩
          replace HM := Lib.hid (show Mem wb [blkE P7 51 (z5), blkE P8 51 (z5)] wy5 from HM.out.below hb)
          clear hb
          go_wp2_with fail
          refine hK.out _ _ (((HM.out.erase 0).erase 0)) (fun hHeld => ?_)
          clear hK K
          (try simp only [Act.put, List.setIfInBounds_toArray, List.set_cons_zero, List.set_cons_succ])
          refine step_one 12 rfl (by kernel_rfl) (fun K hK => ?_)
          clear hHeld
          refine step_store_blk _ rfl 51 (.tmp 7) (.tmp 30) rfl P7 (lc.map uv) rfl (by show Value.agg clc = _; rw [Hlc.out.1]) 51 (z5) (HM.out.blk 0 rfl) (cells5 _ Hlc.out.2.1.1) (by rw [List.length_map, Hlc.out.2.1.1]; rfl) (by intro v hv; obtain ⟨_, _, rfl⟩ := List.mem_map.1 hv; rfl) ?_
          intro wy6 hb hg
          replace HM := Lib.hid (show Mem wb [blkE P7 51 (lc.map uv), blkE P8 51 (z5)] wy6 from HM.out.put 0 rfl _ hg hb)
          clear hb hg
          refine hK.out _ _ (((HM.out.erase 0).erase 0)) (fun hHeld => ?_)
          clear hK K
          (try simp only [Act.put])
          refine step_one 13 rfl (by kernel_rfl) (fun K hK => ?_)
          clear hHeld
          refine step_store_blk _ rfl 51 (.tmp 8) (.tmp 35) rfl P8 (ld.map uv) rfl (by show Value.agg cld = _; rw [Hld.out.1]) 51 (z5) (HM.out.blk 1 rfl) (cells5 _ Hld.out.2.1.1) (by rw [List.length_map, Hld.out.2.1.1]; rfl) (by intro v hv; obtain ⟨_, _, rfl⟩ := List.mem_map.1 hv; rfl) ?_
          intro wy7 hb hg
          replace HM := Lib.hid (show Mem wb [blkE P7 51 (lc.map uv), blkE P8 51 (ld.map uv)] wy7 from HM.out.put 1 rfl _ hg hb)
          clear hb hg
          refine hK.out _ _ (((HM.out.erase 0).erase 0)) (fun hHeld => ?_)
          clear hK K
          (try simp only [Act.put])
          refine wpAnyH_done (by kernel_rfl) ?_ _
          go_wp2_with fail
          go_meet
          exact ⟨P7, P8, rfl, rfl, Nat.le_trans (HB.out.2.2.2.2.2.2) (MemE.low HM.out.1 0 _ rfl), Nat.le_trans (HB.out.2.2.2.2.2.2) (MemE.low HM.out.1 1 _ rfl), HM.out.blk 0 rfl, HM.out.blk 1 rfl, HKE.out _ HM.out.bel⟩
      · clear hHeld
        go_simp
        replace HM := Lib.hid (show Mem wb [blkE wy2.heap.size 51 (z5), blkE P8 51 (z5)] (wy2.alloc (.cells vZ5 51)) from HM.out.alloc rfl 51 vZ5 (z5) rfl)
        generalize wy2.alloc (.cells vZ5 51) = wy3 at HM ⊢
        generalize wy2.heap.size = P7 at HM ⊢
        refine hK.out _ _ (((HM.out.erase 0).erase 0)) (fun hHeld => ?_)
        clear hK K
        (try simp only [Act.put, List.setIfInBounds_toArray, List.set_cons_zero, List.set_cons_succ])
        refine step_one 4 rfl (by kernel_rfl) (fun K hK => ?_)
        clear hHeld
        go_simp
        refine (Klc.out _).mono ?_
        rintro e wy4 ⟨rfl, hb⟩
        replace HM := Lib.hid (show Mem wb [blkE P7 51 (z5), blkE P8 51 (z5)] wy4 from HM.out.below hb)
        clear hb
        go_wp2_with fail
        refine hK.out _ _ (((HM.out.erase 0).erase 0)) (fun hHeld => ?_)
        clear hK K
        (try simp only [Act.put, List.setIfInBounds_toArray, List.set_cons_zero, List.set_cons_succ])
        refine step_one 9 rfl (by kernel_rfl) (fun K hK => ?_)
        clear hHeld
        go_simp
        refine (Kld.out _).mono ?_
        rintro e wy5 ⟨rfl, hb⟩
        replace HM := Lib.hid (show Mem wb [blkE P7 51 (z5), blkE P8 51 (z5)] wy5 from HM.out.below hb)
        clear hb
        go_wp2_with fail
        refine hK.out _ _ (((HM.out.erase 0).erase 0)) (fun hHeld => ?_)
        clear hK K
        (try simp only [Act.put, List.setIfInBounds_toArray, List.set_cons_zero, List.set_cons_succ])
        refine step_one 12 rfl (by kernel_rfl) (fun K hK => ?_)
        clear hHeld
        refine step_store_blk _ rfl 51 (.tmp 7) (.tmp 30) rfl P7 (lc.map uv) rfl (by show Value.agg clc = _; rw [Hlc.out.1]) 51 (z5) (HM.out.blk 0 rfl) (cells5 _ Hlc.out.2.1.1) (by rw [List.length_map, Hlc.out.2.1.1]; rfl) (by intro v hv; obtain ⟨_, _, rfl⟩ := List.mem_map.1 hv; rfl) ?_
        intro wy6 hb hg
        replace HM := Lib.hid (show Mem wb [blkE P7 51 (lc.map uv), blkE P8 51 (z5)] wy6 from HM.out.put 0 rfl _ hg hb)
        clear hb hg
        refine hK.out _ _ (((HM.out.erase 0).erase 0)) (fun hHeld => ?_)
        clear hK K
        (try simp only [Act.put])
        refine step_one 13 rfl (by kernel_rfl) (fun K hK => ?_)
        clear hHeld
        refine step_store_blk _ rfl 51 (.tmp 8) (.tmp 35) rfl P8 (ld.map uv) rfl (by show Value.agg cld = _; rw [Hld.out.1]) 51 (z5) (HM.out.blk 1 rfl) (cells5 _ Hld.out.2.1.1) (by rw [List.length_map, Hld.out.2.1.1]; rfl) (by intro v hv; obtain ⟨_, _, rfl⟩ := List.mem_map.1 hv; rfl) ?_
        intro wy7 hb hg
        replace HM := Lib.hid (show Mem wb [blkE P7 51 (lc.map uv), blkE P8 51 (ld.map uv)] wy7 from HM.out.put 1 rfl _ hg hb)
        clear hb hg
        refine hK.out _ _ (((HM.out.erase 0).erase 0)) (fun hHeld => ?_)
        clear hK K
        (try simp only [Act.put])
        refine wpAnyH_done (by kernel_rfl) ?_ _
        go_wp2_with fail
        go_meet
        exact ⟨P7, P8, rfl, rfl, Nat.le_trans (HB.out.2.2.2.2.2.2) (MemE.low HM.out.1 0 _ rfl), Nat.le_trans (HB.out.2.2.2.2.2.2) (MemE.low HM.out.1 1 _ rfl), HM.out.blk 0 rfl, HM.out.blk 1 rfl, HKE.out _ HM.out.bel⟩
  case rest =>
  clear HB
  revert wc
  intro wb hcut
  obtain ⟨P7, P8, rfl, rfl, hP7, hP8, hcut⟩ := hcut
  have HB := Lib.hid hcut
  have HP7 := Lib.hid (And.intro hP7 hP8)
  clear hcut hP7 hP8
  have T9 := Lib.hid (show ∀ W : World, Calls Try.prog 30 #[.agg cla, .agg cla] W fun e w' => ∃ r, SmallN r ∧ Cu.fq (val r : Int) = (Cu.fq (val x2 : Int) + Cu.fq (val z2 : Int)) * (Cu.fq (val x2 : Int) + Cu.fq (val z2 : Int)) ∧ e = .returned (.agg (r.map uv).toArray) ∧ Below W.heap.size W w' from fun W => by
    have h := multiply_ex la la Hla.out.2.1 Hla.out.2.1 W
    rw [Hla.out.2.2, Hla.out.1] at h
    exact h)
  have T10 := Lib.hid (show ∀ W : World, Calls Try.prog 30 #[.agg clb, .agg clb] W fun e w' => ∃ r, SmallN r ∧ Cu.fq (val r : Int) = (Cu.fq (val x2 : Int) - Cu.fq (val z2 : Int)) * (Cu.fq (val x2 : Int) - Cu.fq (val z2 : Int)) ∧ e = .returned (.agg (r.map uv).toArray) ∧ Below W.heap.size W w' from fun W => by
    have h := multiply_ex lb lb Hlb.out.2.1 Hlb.out.2.1 W
    rw [Hlb.out.2.2, Hlb.out.1] at h
    exact h)
  go_upto_region 3 with fail
  go_cut [9, 10] (fun p q wx => ∃ P9 P10 r9 r10, p = .pointer (some ⟨P9, 0, none⟩) ∧ q = .pointer (some ⟨P10, 0, none⟩) ∧ SmallN r9 ∧ Cu.fq (val r9 : Int) = (Cu.fq (val x2 : Int) + Cu.fq (val z2 : Int)) * (Cu.fq (val x2 : Int) + Cu.fq (val z2 : Int)) ∧ SmallN r10 ∧ Cu.fq (val r10 : Int) = (Cu.fq (val x2 : Int) - Cu.fq (val z2 : Int)) * (Cu.fq (val x2 : Int) - Cu.fq (val z2 : Int)) ∧ w.heap.size + 3 ≤ P9 ∧ w.heap.size + 3 ≤ P10 ∧ Blk wx P9 51 (r9.map uv) ∧ Blk wx P10 51 (r10.map uv) ∧ Blk wx P7 51 (lc.map uv) ∧ Blk wx P8 51 (ld.map uv) ∧ Blk wx P5 51 (la.map uv) ∧ Blk wx P6 51 (lb.map uv) ∧ Blk wx w.heap.size 54 (rungV x2 z2 x3 z3) ∧ Blk wx (w.heap.size + 1) 51 (x1.map uv) ∧ Blk wx (w.heap.size + 1 + 1) 54 (zr) ∧ Below w.heap.size w wx ∧ w.heap.size + 3 ≤ wx.heap.size)
  case first =>
    have HM := Lib.hid (Mem.nil wb)
    have HKE := Lib.hid (show ∀ W, Below wb.heap.size wb W → Blk W P7 51 (lc.map uv) ∧ Blk W P8 51 (ld.map uv) ∧ Blk W P5 51 (la.map uv) ∧ Blk W P6 51 (lb.map uv) ∧ Blk W w.heap.size 54 (rungV x2 z2 x3 z3) ∧ Blk W (w.heap.size + 1) 51 (x1.map uv) ∧ Blk W (w.heap.size + 1 + 1) 54 (zr) ∧ Below w.heap.size w W ∧ w.heap.size + 3 ≤ W.heap.size from fun W hW => ⟨(HB.out.1).below hW (HB.out.1).lt, (HB.out.2.1).below hW (HB.out.2.1).lt, (HB.out.2.2.1).below hW (HB.out.2.2.1).lt, (HB.out.2.2.2.1).below hW (HB.out.2.2.2.1).lt, (HB.out.2.2.2.2.1).below hW (HB.out.2.2.2.2.1).lt, (HB.out.2.2.2.2.2.1).below hW (HB.out.2.2.2.2.2.1).lt, (HB.out.2.2.2.2.2.2.1).below hW (HB.out.2.2.2.2.2.2.1).lt, (HB.out.2.2.2.2.2.2.2.1).trans (hW.mono (HB.out.2.2.2.2.2.2.2.1).size), Nat.le_trans (HB.out.2.2.2.2.2.2.2.2) hW.size⟩)
    refine wp_region_held_drew (S := fun W' => Mem wb [] W') (by kernel_rfl) (HM.out.drew) (fun hHeld => ?_)
    replace HM := Lib.hid HM.out.drew
    generalize wb.drew = wd1 at HM hHeld ⊢
    refine take_first (v := .agg cla) 0 rfl (by kernel_rfl) (by kernel_rfl) (by kernel_rfl) (fun _ _ _ h => h) (by rw [← Hla.out.1]; exact yields_load_blk (by rfl) 51 (.tmp 5) rfl P5 rfl 51 (la.map uv) (fun w' hb => (HB.out.2.2.1).below hb.bel (HB.out.2.2.1).lt) 5 49 Try.underlying51 (cells5 la Hla.out.2.1.1)) (by assumption) ?_
    (try simp only [Act.put, List.setIfInBounds_toArray, List.set_cons_zero, List.set_cons_succ])
    refine take_first (v := .agg cla) 1 rfl (by kernel_rfl) (by kernel_rfl) (by kernel_rfl) (fun _ _ _ h => h) (by rw [← Hla.out.1]; exact yields_load_blk (by rfl) 51 (.tmp 5) rfl P5 rfl 51 (la.map uv) (fun w' hb => (HB.out.2.2.1).below hb.bel (HB.out.2.2.1).lt) 5 49 Try.underlying51 (cells5 la Hla.out.2.1.1)) (by assumption) ?_
    (try simp only [Act.put, List.setIfInBounds_toArray, List.set_cons_zero, List.set_cons_succ])
    refine take_first (v := .agg clb) 3 rfl (by kernel_rfl) (by kernel_rfl) (by kernel_rfl) (fun _ _ _ h => h) (by rw [← Hlb.out.1]; exact yields_load_blk (by rfl) 51 (.tmp 6) rfl P6 rfl 51 (lb.map uv) (fun w' hb => (HB.out.2.2.2.1).below hb.bel (HB.out.2.2.2.1).lt) 5 49 Try.underlying51 (cells5 lb Hlb.out.2.1.1)) (by assumption) ?_
    (try simp only [Act.put, List.setIfInBounds_toArray, List.set_cons_zero, List.set_cons_succ])
    refine take_first (v := .agg clb) 4 rfl (by kernel_rfl) (by kernel_rfl) (by kernel_rfl) (fun _ _ _ h => h) (by rw [← Hlb.out.1]; exact yields_load_blk (by rfl) 51 (.tmp 6) rfl P6 rfl 51 (lb.map uv) (fun w' hb => (HB.out.2.2.2.1).below hb.bel (HB.out.2.2.2.1).lt) 5 49 Try.underlying51 (cells5 lb Hlb.out.2.1.1)) (by assumption) ?_
    (try simp only [Act.put, List.setIfInBounds_toArray, List.set_cons_zero, List.set_cons_succ])
    refine step_three 2 6 7 rfl rfl rfl (by kernel_rfl) (fun K hK => ?_) (fun K hK => ?_) (fun K hK => ?_)
    · clear hHeld
      go_simp
      refine (T9.out _).mono ?_
      rintro e wy2 ⟨r9, hr9, vr9, rfl, hb⟩
      replace HM := Lib.hid (show Mem wb [] wy2 from HM.out.below hb)
      obtain ⟨c9, hc9⟩ : ∃ c, (r9.map uv).toArray = c := ⟨_, rfl⟩
      rw [hc9]
      clear hb
      go_wp2_with fail
      refine hK.out _ _ (HM.out) (fun hHeld => ?_)
      clear hK K
      (try simp only [Act.put, List.setIfInBounds_toArray, List.set_cons_zero, List.set_cons_succ])
      refine step_three 5 6 7 rfl rfl rfl (by kernel_rfl) (fun K hK => ?_) (fun K hK => ?_) (fun K hK => ?_)
      · clear hHeld
        go_simp
        refine (T10.out _).mono ?_
        rintro e wy3 ⟨r10, hr10, vr10, rfl, hb⟩
        replace HM := Lib.hid (show Mem wb [] wy3 from HM.out.below hb)
        obtain ⟨c10, hc10⟩ : ∃ c, (r10.map uv).toArray = c := ⟨_, rfl⟩
        rw [hc10]
        clear hb
        go_wp2_with fail
        refine hK.out _ _ (HM.out) (fun hHeld => ?_)
        clear hK K
        (try simp only [Act.put, List.setIfInBounds_toArray, List.set_cons_zero, List.set_cons_succ])
        refine step_two 6 7 rfl rfl (by kernel_rfl) (fun K hK => ?_) (fun K hK => ?_)
        · clear hHeld
          go_simp
          replace HM := Lib.hid (show Mem wb [blkE wy3.heap.size 51 (z5)] (wy3.alloc (.cells vZ5 51)) from HM.out.alloc rfl 51 vZ5 (z5) rfl)
          generalize wy3.alloc (.cells vZ5 51) = wy4 at HM ⊢
          generalize wy3.heap.size = P9 at HM ⊢
          refine hK.out _ _ ((HM.out.erase 0)) (fun hHeld => ?_)
          clear hK K
          (try simp only [Act.put, List.setIfInBounds_toArray, List.set_cons_zero, List.set_cons_succ])
          refine step_one 7 rfl (by kernel_rfl) (fun K hK => ?_)
          clear hHeld
          go_simp
          replace HM := Lib.hid (show Mem wb [blkE wy4.heap.size 51 (z5), blkE P9 51 (z5)] (wy4.alloc (.cells vZ5 51)) from HM.out.alloc rfl 51 vZ5 (z5) rfl)
          generalize wy4.alloc (.cells vZ5 51) = wy5 at HM ⊢
          generalize wy4.heap.size = P10 at HM ⊢
          refine hK.out _ _ (((HM.out.erase 0).erase 0)) (fun hHeld => ?_)
          clear hK K
          (try simp only [Act.put, List.setIfInBounds_toArray, List.set_cons_zero, List.set_cons_succ])
          refine step_one 8 rfl (by kernel_rfl) (fun K hK => ?_)
          clear hHeld
          refine step_store_blk _ rfl 51 (.tmp 9) (.tmp 38) rfl P9 (r9.map uv) rfl (by show Value.agg c9 = _; rw [hc9]) 51 (z5) (HM.out.blk 1 rfl) (cells5 _ hr9.1) (by rw [List.length_map, hr9.1]; rfl) (by intro v hv; obtain ⟨_, _, rfl⟩ := List.mem_map.1 hv; rfl) ?_
          intro wy6 hb hg
          replace HM := Lib.hid (show Mem wb [blkE P10 51 (z5), blkE P9 51 (r9.map uv)] wy6 from HM.out.put 1 rfl _ hg hb)
          clear hb hg
          refine hK.out _ _ (((HM.out.erase 0).erase 0)) (fun hHeld => ?_)
          clear hK K
          (try simp only [Act.put])
          refine step_one 9 rfl (by kernel_rfl) (fun K hK => ?_)
          clear hHeld
          refine step_store_blk _ rfl 51 (.tmp 10) (.tmp 41) rfl P10 (r10.map uv) rfl (by show Value.agg c10 = _; rw [hc10]) 51 (z5) (HM.out.blk 0 rfl) (cells5 _ hr10.1) (by rw [List.length_map, hr10.1]; rfl) (by intro v hv; obtain ⟨_, _, rfl⟩ := List.mem_map.1 hv; rfl) ?_
          intro wy7 hb hg
          replace HM := Lib.hid (show Mem wb [blkE P10 51 (r10.map uv), blkE P9 51 (r9.map uv)] wy7 from HM.out.put 0 rfl _ hg hb)
          clear hb hg
          refine hK.out _ _ (((HM.out.erase 0).erase 0)) (fun hHeld => ?_)
          clear hK K
          (try simp only [Act.put])
          refine wpAnyH_done (by kernel_rfl) ?_ _
          go_wp2_with fail
          go_meet
          exact ⟨P9, P10, r9, r10, rfl, rfl, hr9, vr9, hr10, vr10, Nat.le_trans (HB.out.2.2.2.2.2.2.2.2) (MemE.low HM.out.1 1 _ rfl), Nat.le_trans (HB.out.2.2.2.2.2.2.2.2) (MemE.low HM.out.1 0 _ rfl), HM.out.blk 1 rfl, HM.out.blk 0 rfl, HKE.out _ HM.out.bel⟩
        · clear hHeld
          go_simp
          replace HM := Lib.hid (show Mem wb [blkE wy3.heap.size 51 (z5)] (wy3.alloc (.cells vZ5 51)) from HM.out.alloc rfl 51 vZ5 (z5) rfl)
          generalize wy3.alloc (.cells vZ5 51) = wy4 at HM ⊢
          generalize wy3.heap.size = P10 at HM ⊢
          refine hK.out _ _ ((HM.out.erase 0)) (fun hHeld => ?_)
          clear hK K
          (try simp only [Act.put, List.setIfInBounds_toArray, List.set_cons_zero, List.set_cons_succ])
          refine step_one 6 rfl (by kernel_rfl) (fun K hK => ?_)
          clear hHeld
          go_simp
          replace HM := Lib.hid (show Mem wb [blkE wy4.heap.size 51 (z5), blkE P10 51 (z5)] (wy4.alloc (.cells vZ5 51)) from HM.out.alloc rfl 51 vZ5 (z5) rfl)
          generalize wy4.alloc (.cells vZ5 51) = wy5 at HM ⊢
          generalize wy4.heap.size = P9 at HM ⊢
          refine hK.out _ _ (((HM.out.erase 0).erase 0)) (fun hHeld => ?_)
          clear hK K
          (try simp only [Act.put, List.setIfInBounds_toArray, List.set_cons_zero, List.set_cons_succ])
          refine step_one 8 rfl (by kernel_rfl) (fun K hK => ?_)
          clear hHeld
          refine step_store_blk _ rfl 51 (.tmp 9) (.tmp 38) rfl P9 (r9.map uv) rfl (by show Value.agg c9 = _; rw [hc9]) 51 (z5) (HM.out.blk 0 rfl) (cells5 _ hr9.1) (by rw [List.length_map, hr9.1]; rfl) (by intro v hv; obtain ⟨_, _, rfl⟩ := List.mem_map.1 hv; rfl) ?_
          intro wy6 hb hg
          replace HM := Lib.hid (show Mem wb [blkE P9 51 (r9.map uv), blkE P10 51 (z5)] wy6 from HM.out.put 0 rfl _ hg hb)
          clear hb hg
          refine hK.out _ _ (((HM.out.erase 0).erase 0)) (fun hHeld => ?_)
          clear hK K
          (try simp only [Act.put])
          refine step_one 9 rfl (by kernel_rfl) (fun K hK => ?_)
          clear hHeld
          refine step_store_blk _ rfl 51 (.tmp 10) (.tmp 41) rfl P10 (r10.map uv) rfl (by show Value.agg c10 = _; rw [hc10]) 51 (z5) (HM.out.blk 1 rfl) (cells5 _ hr10.1) (by rw [List.length_map, hr10.1]; rfl) (by intro v hv; obtain ⟨_, _, rfl⟩ := List.mem_map.1 hv; rfl) ?_
          intro wy7 hb hg
          replace HM := Lib.hid (show Mem wb [blkE P9 51 (r9.map uv), blkE P10 51 (r10.map uv)] wy7 from HM.out.put 1 rfl _ hg hb)
          clear hb hg
          refine hK.out _ _ (((HM.out.erase 0).erase 0)) (fun hHeld => ?_)
          clear hK K
          (try simp only [Act.put])
          refine wpAnyH_done (by kernel_rfl) ?_ _
          go_wp2_with fail
          go_meet
          exact ⟨P9, P10, r9, r10, rfl, rfl, hr9, vr9, hr10, vr10, Nat.le_trans (HB.out.2.2.2.2.2.2.2.2) (MemE.low HM.out.1 0 _ rfl), Nat.le_trans (HB.out.2.2.2.2.2.2.2.2) (MemE.low HM.out.1 1 _ rfl), HM.out.blk 0 rfl, HM.out.blk 1 rfl, HKE.out _ HM.out.bel⟩
      · clear hHeld
        go_simp
        replace HM := Lib.hid (show Mem wb [blkE wy2.heap.size 51 (z5)] (wy2.alloc (.cells vZ5 51)) from HM.out.alloc rfl 51 vZ5 (z5) rfl)
        generalize wy2.alloc (.cells vZ5 51) = wy3 at HM ⊢
        generalize wy2.heap.size = P9 at HM ⊢
        refine hK.out _ _ ((HM.out.erase 0)) (fun hHeld => ?_)
        clear hK K
        (try simp only [Act.put, List.setIfInBounds_toArray, List.set_cons_zero, List.set_cons_succ])
        refine step_two 5 7 rfl rfl (by kernel_rfl) (fun K hK => ?_) (fun K hK => ?_)
        · clear hHeld
          go_simp
          refine (T10.out _).mono ?_
          rintro e wy4 ⟨r10, hr10, vr10, rfl, hb⟩
          replace HM := Lib.hid (show Mem wb [blkE P9 51 (z5)] wy4 from HM.out.below hb)
          obtain ⟨c10, hc10⟩ : ∃ c, (r10.map uv).toArray = c := ⟨_, rfl⟩
          rw [hc10]
          clear hb
          go_wp2_with fail
          refine hK.out _ _ ((HM.out.erase 0)) (fun hHeld => ?_)
          clear hK K
          (try simp only [Act.put, List.setIfInBounds_toArray, List.set_cons_zero, List.set_cons_succ])
          refine step_one 7 rfl (by kernel_rfl) (fun K hK => ?_)
          clear hHeld
          go_simp
          replace HM := Lib.hid (show Mem wb [blkE wy4.heap.size 51 (z5), blkE P9 51 (z5)] (wy4.alloc (.cells vZ5 51)) from HM.out.alloc rfl 51 vZ5 (z5) rfl)
          generalize wy4.alloc (.cells vZ5 51) = wy5 at HM ⊢
          generalize wy4.heap.size = P10 at HM ⊢
          refine hK.out _ _ (((HM.out.erase 0).erase 0)) (fun hHeld => ?_)
          clear hK K
          (try simp only [Act.put, List.setIfInBounds_toArray, List.set_cons_zero, List.set_cons_succ])
          refine step_one 8 rfl (by kernel_rfl) (fun K hK => ?_)
          clear hHeld
          refine step_store_blk _ rfl 51 (.tmp 9) (.tmp 38) rfl P9 (r9.map uv) rfl (by show Value.agg c9 = _; rw [hc9]) 51 (z5) (HM.out.blk 1 rfl) (cells5 _ hr9.1) (by rw [List.length_map, hr9.1]; rfl) (by intro v hv; obtain ⟨_, _, rfl⟩ := List.mem_map.1 hv; rfl) ?_
          intro wy6 hb hg
          replace HM := Lib.hid (show Mem wb [blkE P10 51 (z5), blkE P9 51 (r9.map uv)] wy6 from HM.out.put 1 rfl _ hg hb)
          clear hb hg
          refine hK.out _ _ (((HM.out.erase 0).erase 0)) (fun hHeld => ?_)
          clear hK K
          (try simp only [Act.put])
          refine step_one 9 rfl (by kernel_rfl) (fun K hK => ?_)
          clear hHeld
          refine step_store_blk _ rfl 51 (.tmp 10) (.tmp 41) rfl P10 (r10.map uv) rfl (by show Value.agg c10 = _; rw [hc10]) 51 (z5) (HM.out.blk 0 rfl) (cells5 _ hr10.1) (by rw [List.length_map, hr10.1]; rfl) (by intro v hv; obtain ⟨_, _, rfl⟩ := List.mem_map.1 hv; rfl) ?_
          intro wy7 hb hg
          replace HM := Lib.hid (show Mem wb [blkE P10 51 (r10.map uv), blkE P9 51 (r9.map uv)] wy7 from HM.out.put 0 rfl _ hg hb)
          clear hb hg
          refine hK.out _ _ (((HM.out.erase 0).erase 0)) (fun hHeld => ?_)
          clear hK K
          (try simp only [Act.put])
          refine wpAnyH_done (by kernel_rfl) ?_ _
          go_wp2_with fail
          go_meet
          exact ⟨P9, P10, r9, r10, rfl, rfl, hr9, vr9, hr10, vr10, Nat.le_trans (HB.out.2.2.2.2.2.2.2.2) (MemE.low HM.out.1 1 _ rfl), Nat.le_trans (HB.out.2.2.2.2.2.2.2.2) (MemE.low HM.out.1 0 _ rfl), HM.out.blk 1 rfl, HM.out.blk 0 rfl, HKE.out _ HM.out.bel⟩
        · clear hHeld
          go_simp
          replace HM := Lib.hid (show Mem wb [blkE wy3.heap.size 51 (z5), blkE P9 51 (z5)] (wy3.alloc (.cells vZ5 51)) from HM.out.alloc rfl 51 vZ5 (z5) rfl)
          generalize wy3.alloc (.cells vZ5 51) = wy4 at HM ⊢
          generalize wy3.heap.size = P10 at HM ⊢
          refine hK.out _ _ (((HM.out.erase 0).erase 0)) (fun hHeld => ?_)
          clear hK K
          (try simp only [Act.put, List.setIfInBounds_toArray, List.set_cons_zero, List.set_cons_succ])
          refine step_one 5 rfl (by kernel_rfl) (fun K hK => ?_)
          clear hHeld
          go_simp
          refine (T10.out _).mono ?_
          rintro e wy5 ⟨r10, hr10, vr10, rfl, hb⟩
          replace HM := Lib.hid (show Mem wb [blkE P10 51 (z5), blkE P9 51 (z5)] wy5 from HM.out.below hb)
          obtain ⟨c10, hc10⟩ : ∃ c, (r10.map uv).toArray = c := ⟨_, rfl⟩
          rw [hc10]
          clear hb
          go_wp2_with fail
          refine hK.out _ _ (((HM.out.erase 0).erase 0)) (fun hHeld => ?_)
          clear hK K
          (try simp only [Act.put, List.setIfInBounds_toArray, List.set_cons_zero, List.set_cons_succ])
          refine step_one 8 rfl (by kernel_rfl) (fun K hK => ?_)
          clear hHeld
          refine step_store_blk _ rfl 51 (.tmp 9) (.tmp 38) rfl P9 (r9.map uv) rfl (by show Value.agg c9 = _; rw [hc9]) 51 (z5) (HM.out.blk 1 rfl) (cells5 _ hr9.1) (by rw [List.length_map, hr9.1]; rfl) (by intro v hv; obtain ⟨_, _, rfl⟩ := List.mem_map.1 hv; rfl) ?_
          intro wy6 hb hg
          replace HM := Lib.hid (show Mem wb [blkE P10 51 (z5), blkE P9 51 (r9.map uv)] wy6 from HM.out.put 1 rfl _ hg hb)
          clear hb hg
          refine hK.out _ _ (((HM.out.erase 0).erase 0)) (fun hHeld => ?_)
          clear hK K
          (try simp only [Act.put])
          refine step_one 9 rfl (by kernel_rfl) (fun K hK => ?_)
          clear hHeld
          refine step_store_blk _ rfl 51 (.tmp 10) (.tmp 41) rfl P10 (r10.map uv) rfl (by show Value.agg c10 = _; rw [hc10]) 51 (z5) (HM.out.blk 0 rfl) (cells5 _ hr10.1) (by rw [List.length_map, hr10.1]; rfl) (by intro v hv; obtain ⟨_, _, rfl⟩ := List.mem_map.1 hv; rfl) ?_
          intro wy7 hb hg
          replace HM := Lib.hid (show Mem wb [blkE P10 51 (r10.map uv), blkE P9 51 (r9.map uv)] wy7 from HM.out.put 0 rfl _ hg hb)
          clear hb hg
          refine hK.out _ _ (((HM.out.erase 0).erase 0)) (fun hHeld => ?_)
          clear hK K
          (try simp only [Act.put])
          refine wpAnyH_done (by kernel_rfl) ?_ _
          go_wp2_with fail
          go_meet
          exact ⟨P9, P10, r9, r10, rfl, rfl, hr9, vr9, hr10, vr10, Nat.le_trans (HB.out.2.2.2.2.2.2.2.2) (MemE.low HM.out.1 1 _ rfl), Nat.le_trans (HB.out.2.2.2.2.2.2.2.2) (MemE.low HM.out.1 0 _ rfl), HM.out.blk 1 rfl, HM.out.blk 0 rfl, HKE.out _ HM.out.bel⟩
      · clear hHeld
        go_simp
        replace HM := Lib.hid (show Mem wb [blkE wy2.heap.size 51 (z5)] (wy2.alloc (.cells vZ5 51)) from HM.out.alloc rfl 51 vZ5 (z5) rfl)
        generalize wy2.alloc (.cells vZ5 51) = wy3 at HM ⊢
        generalize wy2.heap.size = P10 at HM ⊢
        refine hK.out _ _ ((HM.out.erase 0)) (fun hHeld => ?_)
        clear hK K
        (try simp only [Act.put, List.setIfInBounds_toArray, List.set_cons_zero, List.set_cons_succ])
        refine step_two 5 6 rfl rfl (by kernel_rfl) (fun K hK => ?_) (fun K hK => ?_)
        · clear hHeld
          go_simp
          refine (T10.out _).mono ?_
          rintro e wy4 ⟨r10, hr10, vr10, rfl, hb⟩
          replace HM := Lib.hid (show Mem wb [blkE P10 51 (z5)] wy4 from HM.out.below hb)
          obtain ⟨c10, hc10⟩ : ∃ c, (r10.map uv).toArray = c := ⟨_, rfl⟩
          rw [hc10]
          clear hb
          go_wp2_with fail
          refine hK.out _ _ ((HM.out.erase 0)) (fun hHeld => ?_)
          clear hK K
          (try simp only [Act.put, List.setIfInBounds_toArray, List.set_cons_zero, List.set_cons_succ])
          refine step_one 6 rfl (by kernel_rfl) (fun K hK => ?_)
          clear hHeld
          go_simp
          replace HM := Lib.hid (show Mem wb [blkE wy4.heap.size 51 (z5), blkE P10 51 (z5)] (wy4.alloc (.cells vZ5 51)) from HM.out.alloc rfl 51 vZ5 (z5) rfl)
          generalize wy4.alloc (.cells vZ5 51) = wy5 at HM ⊢
          generalize wy4.heap.size = P9 at HM ⊢
          refine hK.out _ _ (((HM.out.erase 0).erase 0)) (fun hHeld => ?_)
          clear hK K
          (try simp only [Act.put, List.setIfInBounds_toArray, List.set_cons_zero, List.set_cons_succ])
          refine step_one 8 rfl (by kernel_rfl) (fun K hK => ?_)
          clear hHeld
          refine step_store_blk _ rfl 51 (.tmp 9) (.tmp 38) rfl P9 (r9.map uv) rfl (by show Value.agg c9 = _; rw [hc9]) 51 (z5) (HM.out.blk 0 rfl) (cells5 _ hr9.1) (by rw [List.length_map, hr9.1]; rfl) (by intro v hv; obtain ⟨_, _, rfl⟩ := List.mem_map.1 hv; rfl) ?_
          intro wy6 hb hg
          replace HM := Lib.hid (show Mem wb [blkE P9 51 (r9.map uv), blkE P10 51 (z5)] wy6 from HM.out.put 0 rfl _ hg hb)
          clear hb hg
          refine hK.out _ _ (((HM.out.erase 0).erase 0)) (fun hHeld => ?_)
          clear hK K
          (try simp only [Act.put])
          refine step_one 9 rfl (by kernel_rfl) (fun K hK => ?_)
          clear hHeld
          refine step_store_blk _ rfl 51 (.tmp 10) (.tmp 41) rfl P10 (r10.map uv) rfl (by show Value.agg c10 = _; rw [hc10]) 51 (z5) (HM.out.blk 1 rfl) (cells5 _ hr10.1) (by rw [List.length_map, hr10.1]; rfl) (by intro v hv; obtain ⟨_, _, rfl⟩ := List.mem_map.1 hv; rfl) ?_
          intro wy7 hb hg
          replace HM := Lib.hid (show Mem wb [blkE P9 51 (r9.map uv), blkE P10 51 (r10.map uv)] wy7 from HM.out.put 1 rfl _ hg hb)
          clear hb hg
          refine hK.out _ _ (((HM.out.erase 0).erase 0)) (fun hHeld => ?_)
          clear hK K
          (try simp only [Act.put])
          refine wpAnyH_done (by kernel_rfl) ?_ _
          go_wp2_with fail
          go_meet
          exact ⟨P9, P10, r9, r10, rfl, rfl, hr9, vr9, hr10, vr10, Nat.le_trans (HB.out.2.2.2.2.2.2.2.2) (MemE.low HM.out.1 0 _ rfl), Nat.le_trans (HB.out.2.2.2.2.2.2.2.2) (MemE.low HM.out.1 1 _ rfl), HM.out.blk 0 rfl, HM.out.blk 1 rfl, HKE.out _ HM.out.bel⟩
        · clear hHeld
          go_simp
          replace HM := Lib.hid (show Mem wb [blkE wy3.heap.size 51 (z5), blkE P10 51 (z5)] (wy3.alloc (.cells vZ5 51)) from HM.out.alloc rfl 51 vZ5 (z5) rfl)
          generalize wy3.alloc (.cells vZ5 51) = wy4 at HM ⊢
          generalize wy3.heap.size = P9 at HM ⊢
          refine hK.out _ _ (((HM.out.erase 0).erase 0)) (fun hHeld => ?_)
          clear hK K
          (try simp only [Act.put, List.setIfInBounds_toArray, List.set_cons_zero, List.set_cons_succ])
          refine step_one 5 rfl (by kernel_rfl) (fun K hK => ?_)
          clear hHeld
          go_simp
          refine (T10.out _).mono ?_
          rintro e wy5 ⟨r10, hr10, vr10, rfl, hb⟩
          replace HM := Lib.hid (show Mem wb [blkE P9 51 (z5), blkE P10 51 (z5)] wy5 from HM.out.below hb)
          obtain ⟨c10, hc10⟩ : ∃ c, (r10.map uv).toArray = c := ⟨_, rfl⟩
          rw [hc10]
          clear hb
          go_wp2_with fail
          refine hK.out _ _ (((HM.out.erase 0).erase 0)) (fun hHeld => ?_)
          clear hK K
          (try simp only [Act.put, List.setIfInBounds_toArray, List.set_cons_zero, List.set_cons_succ])
          refine step_one 8 rfl (by kernel_rfl) (fun K hK => ?_)
          clear hHeld
          refine step_store_blk _ rfl 51 (.tmp 9) (.tmp 38) rfl P9 (r9.map uv) rfl (by show Value.agg c9 = _; rw [hc9]) 51 (z5) (HM.out.blk 0 rfl) (cells5 _ hr9.1) (by rw [List.length_map, hr9.1]; rfl) (by intro v hv; obtain ⟨_, _, rfl⟩ := List.mem_map.1 hv; rfl) ?_
          intro wy6 hb hg
          replace HM := Lib.hid (show Mem wb [blkE P9 51 (r9.map uv), blkE P10 51 (z5)] wy6 from HM.out.put 0 rfl _ hg hb)
          clear hb hg
          refine hK.out _ _ (((HM.out.erase 0).erase 0)) (fun hHeld => ?_)
          clear hK K
          (try simp only [Act.put])
          refine step_one 9 rfl (by kernel_rfl) (fun K hK => ?_)
          clear hHeld
          refine step_store_blk _ rfl 51 (.tmp 10) (.tmp 41) rfl P10 (r10.map uv) rfl (by show Value.agg c10 = _; rw [hc10]) 51 (z5) (HM.out.blk 1 rfl) (cells5 _ hr10.1) (by rw [List.length_map, hr10.1]; rfl) (by intro v hv; obtain ⟨_, _, rfl⟩ := List.mem_map.1 hv; rfl) ?_
          intro wy7 hb hg
          replace HM := Lib.hid (show Mem wb [blkE P9 51 (r9.map uv), blkE P10 51 (r10.map uv)] wy7 from HM.out.put 1 rfl _ hg hb)
          clear hb hg
          refine hK.out _ _ (((HM.out.erase 0).erase 0)) (fun hHeld => ?_)
          clear hK K
          (try simp only [Act.put])
          refine wpAnyH_done (by kernel_rfl) ?_ _
          go_wp2_with fail
          go_meet
          exact ⟨P9, P10, r9, r10, rfl, rfl, hr9, vr9, hr10, vr10, Nat.le_trans (HB.out.2.2.2.2.2.2.2.2) (MemE.low HM.out.1 0 _ rfl), Nat.le_trans (HB.out.2.2.2.2.2.2.2.2) (MemE.low HM.out.1 1 _ rfl), HM.out.blk 0 rfl, HM.out.blk 1 rfl, HKE.out _ HM.out.bel⟩
    · clear hHeld
      go_simp
      replace HM := Lib.hid (show Mem wb [blkE wd1.heap.size 51 (z5)] (wd1.alloc (.cells vZ5 51)) from HM.out.alloc rfl 51 vZ5 (z5) rfl)
      generalize wd1.alloc (.cells vZ5 51) = wy2 at HM ⊢
      generalize wd1.heap.size = P9 at HM ⊢
      refine hK.out _ _ ((HM.out.erase 0)) (fun hHeld => ?_)
      clear hK K
      (try simp only [Act.put, List.setIfInBounds_toArray, List.set_cons_zero, List.set_cons_succ])
      refine step_two 2 7 rfl rfl (by kernel_rfl) (fun K hK => ?_) (fun K hK => ?_)
      · clear hHeld
        go_simp
        refine (T9.out _).mono ?_
        rintro e wy3 ⟨r9, hr9, vr9, rfl, hb⟩
        replace HM := Lib.hid (show Mem wb [blkE P9 51 (z5)] wy3 from HM.out.below hb)
        obtain ⟨c9, hc9⟩ : ∃ c, (r9.map uv).toArray = c := ⟨_, rfl⟩
        rw [hc9]
        clear hb
        go_wp2_with fail
        refine hK.out _ _ ((HM.out.erase 0)) (fun hHeld => ?_)
        clear hK K
        (try simp only [Act.put, List.setIfInBounds_toArray, List.set_cons_zero, List.set_cons_succ])
        refine step_two 5 7 rfl rfl (by kernel_rfl) (fun K hK => ?_) (fun K hK => ?_)
        · clear hHeld
          go_simp
          refine (T10.out _).mono ?_
          rintro e wy4 ⟨r10, hr10, vr10, rfl, hb⟩
          replace HM := Lib.hid (show Mem wb [blkE P9 51 (z5)] wy4 from HM.out.below hb)
          obtain ⟨c10, hc10⟩ : ∃ c, (r10.map uv).toArray = c := ⟨_, rfl⟩
          rw [hc10]
          clear hb
          go_wp2_with fail
          refine hK.out _ _ ((HM.out.erase 0)) (fun hHeld => ?_)
          clear hK K
          (try simp only [Act.put, List.setIfInBounds_toArray, List.set_cons_zero, List.set_cons_succ])
          refine step_one 7 rfl (by kernel_rfl) (fun K hK => ?_)
          clear hHeld
          go_simp
          replace HM := Lib.hid (show Mem wb [blkE wy4.heap.size 51 (z5), blkE P9 51 (z5)] (wy4.alloc (.cells vZ5 51)) from HM.out.alloc rfl 51 vZ5 (z5) rfl)
          generalize wy4.alloc (.cells vZ5 51) = wy5 at HM ⊢
          generalize wy4.heap.size = P10 at HM ⊢
          refine hK.out _ _ (((HM.out.erase 0).erase 0)) (fun hHeld => ?_)
          clear hK K
          (try simp only [Act.put, List.setIfInBounds_toArray, List.set_cons_zero, List.set_cons_succ])
          refine step_one 8 rfl (by kernel_rfl) (fun K hK => ?_)
          clear hHeld
          refine step_store_blk _ rfl 51 (.tmp 9) (.tmp 38) rfl P9 (r9.map uv) rfl (by show Value.agg c9 = _; rw [hc9]) 51 (z5) (HM.out.blk 1 rfl) (cells5 _ hr9.1) (by rw [List.length_map, hr9.1]; rfl) (by intro v hv; obtain ⟨_, _, rfl⟩ := List.mem_map.1 hv; rfl) ?_
          intro wy6 hb hg
          replace HM := Lib.hid (show Mem wb [blkE P10 51 (z5), blkE P9 51 (r9.map uv)] wy6 from HM.out.put 1 rfl _ hg hb)
          clear hb hg
          refine hK.out _ _ (((HM.out.erase 0).erase 0)) (fun hHeld => ?_)
          clear hK K
          (try simp only [Act.put])
          refine step_one 9 rfl (by kernel_rfl) (fun K hK => ?_)
          clear hHeld
          refine step_store_blk _ rfl 51 (.tmp 10) (.tmp 41) rfl P10 (r10.map uv) rfl (by show Value.agg c10 = _; rw [hc10]) 51 (z5) (HM.out.blk 0 rfl) (cells5 _ hr10.1) (by rw [List.length_map, hr10.1]; rfl) (by intro v hv; obtain ⟨_, _, rfl⟩ := List.mem_map.1 hv; rfl) ?_
          intro wy7 hb hg
          replace HM := Lib.hid (show Mem wb [blkE P10 51 (r10.map uv), blkE P9 51 (r9.map uv)] wy7 from HM.out.put 0 rfl _ hg hb)
          clear hb hg
          refine hK.out _ _ (((HM.out.erase 0).erase 0)) (fun hHeld => ?_)
          clear hK K
          (try simp only [Act.put])
          refine wpAnyH_done (by kernel_rfl) ?_ _
          go_wp2_with fail
          go_meet
          exact ⟨P9, P10, r9, r10, rfl, rfl, hr9, vr9, hr10, vr10, Nat.le_trans (HB.out.2.2.2.2.2.2.2.2) (MemE.low HM.out.1 1 _ rfl), Nat.le_trans (HB.out.2.2.2.2.2.2.2.2) (MemE.low HM.out.1 0 _ rfl), HM.out.blk 1 rfl, HM.out.blk 0 rfl, HKE.out _ HM.out.bel⟩
        · clear hHeld
          go_simp
          replace HM := Lib.hid (show Mem wb [blkE wy3.heap.size 51 (z5), blkE P9 51 (z5)] (wy3.alloc (.cells vZ5 51)) from HM.out.alloc rfl 51 vZ5 (z5) rfl)
          generalize wy3.alloc (.cells vZ5 51) = wy4 at HM ⊢
          generalize wy3.heap.size = P10 at HM ⊢
          refine hK.out _ _ (((HM.out.erase 0).erase 0)) (fun hHeld => ?_)
          clear hK K
          (try simp only [Act.put, List.setIfInBounds_toArray, List.set_cons_zero, List.set_cons_succ])
          refine step_one 5 rfl (by kernel_rfl) (fun K hK => ?_)
          clear hHeld
          go_simp
          refine (T10.out _).mono ?_
          rintro e wy5 ⟨r10, hr10, vr10, rfl, hb⟩
          replace HM := Lib.hid (show Mem wb [blkE P10 51 (z5), blkE P9 51 (z5)] wy5 from HM.out.below hb)
          obtain ⟨c10, hc10⟩ : ∃ c, (r10.map uv).toArray = c := ⟨_, rfl⟩
          rw [hc10]
          clear hb
          go_wp2_with fail
          refine hK.out _ _ (((HM.out.erase 0).erase 0)) (fun hHeld => ?_)
          clear hK K
          (try simp only [Act.put, List.setIfInBounds_toArray, List.set_cons_zero, List.set_cons_succ])
          refine step_one 8 rfl (by kernel_rfl) (fun K hK => ?_)
          clear hHeld
          refine step_store_blk _ rfl 51 (.tmp 9) (.tmp 38) rfl P9 (r9.map uv) rfl (by show Value.agg c9 = _; rw [hc9]) 51 (z5) (HM.out.blk 1 rfl) (cells5 _ hr9.1) (by rw [List.length_map, hr9.1]; rfl) (by intro v hv; obtain ⟨_, _, rfl⟩ := List.mem_map.1 hv; rfl) ?_
          intro wy6 hb hg
          replace HM := Lib.hid (show Mem wb [blkE P10 51 (z5), blkE P9 51 (r9.map uv)] wy6 from HM.out.put 1 rfl _ hg hb)
          clear hb hg
          refine hK.out _ _ (((HM.out.erase 0).erase 0)) (fun hHeld => ?_)
          clear hK K
          (try simp only [Act.put])
          refine step_one 9 rfl (by kernel_rfl) (fun K hK => ?_)
          clear hHeld
          refine step_store_blk _ rfl 51 (.tmp 10) (.tmp 41) rfl P10 (r10.map uv) rfl (by show Value.agg c10 = _; rw [hc10]) 51 (z5) (HM.out.blk 0 rfl) (cells5 _ hr10.1) (by rw [List.length_map, hr10.1]; rfl) (by intro v hv; obtain ⟨_, _, rfl⟩ := List.mem_map.1 hv; rfl) ?_
          intro wy7 hb hg
          replace HM := Lib.hid (show Mem wb [blkE P10 51 (r10.map uv), blkE P9 51 (r9.map uv)] wy7 from HM.out.put 0 rfl _ hg hb)
          clear hb hg
          refine hK.out _ _ (((HM.out.erase 0).erase 0)) (fun hHeld => ?_)
          clear hK K
          (try simp only [Act.put])
          refine wpAnyH_done (by kernel_rfl) ?_ _
          go_wp2_with fail
          go_meet
          exact ⟨P9, P10, r9, r10, rfl, rfl, hr9, vr9, hr10, vr10, Nat.le_trans (HB.out.2.2.2.2.2.2.2.2) (MemE.low HM.out.1 1 _ rfl), Nat.le_trans (HB.out.2.2.2.2.2.2.2.2) (MemE.low HM.out.1 0 _ rfl), HM.out.blk 1 rfl, HM.out.blk 0 rfl, HKE.out _ HM.out.bel⟩
      · clear hHeld
        go_simp
        replace HM := Lib.hid (show Mem wb [blkE wy2.heap.size 51 (z5), blkE P9 51 (z5)] (wy2.alloc (.cells vZ5 51)) from HM.out.alloc rfl 51 vZ5 (z5) rfl)
        generalize wy2.alloc (.cells vZ5 51) = wy3 at HM ⊢
        generalize wy2.heap.size = P10 at HM ⊢
        refine hK.out _ _ (((HM.out.erase 0).erase 0)) (fun hHeld => ?_)
        clear hK K
        (try simp only [Act.put, List.setIfInBounds_toArray, List.set_cons_zero, List.set_cons_succ])
        refine step_one 2 rfl (by kernel_rfl) (fun K hK => ?_)
        clear hHeld
        go_simp
        refine (T9.out _).mono ?_
        rintro e wy4 ⟨r9, hr9, vr9, rfl, hb⟩
        replace HM := Lib.hid (show Mem wb [blkE P10 51 (z5), blkE P9 51 (z5)] wy4 from HM.out.below hb)
        obtain ⟨c9, hc9⟩ : ∃ c, (r9.map uv).toArray = c := ⟨_, rfl⟩
        rw [hc9]
        clear hb
        go_wp2_with fail
        refine hK.out _ _ (((HM.out.erase 0).erase 0)) (fun hHeld => ?_)
        clear hK K
        (try simp only [Act.put, List.setIfInBounds_toArray, List.set_cons_zero, List.set_cons_succ])
        refine step_one 5 rfl (by kernel_rfl) (fun K hK => ?_)
        clear hHeld
        go_simp
        refine (T10.out _).mono ?_
        rintro e wy5 ⟨r10, hr10, vr10, rfl, hb⟩
        replace HM := Lib.hid (show Mem wb [blkE P10 51 (z5), blkE P9 51 (z5)] wy5 from HM.out.below hb)
        obtain ⟨c10, hc10⟩ : ∃ c, (r10.map uv).toArray = c := ⟨_, rfl⟩
        rw [hc10]
        clear hb
        go_wp2_with fail
        refine hK.out _ _ (((HM.out.erase 0).erase 0)) (fun hHeld => ?_)
        clear hK K
        (try simp only [Act.put, List.setIfInBounds_toArray, List.set_cons_zero, List.set_cons_succ])
        refine step_one 8 rfl (by kernel_rfl) (fun K hK => ?_)
        clear hHeld
        refine step_store_blk _ rfl 51 (.tmp 9) (.tmp 38) rfl P9 (r9.map uv) rfl (by show Value.agg c9 = _; rw [hc9]) 51 (z5) (HM.out.blk 1 rfl) (cells5 _ hr9.1) (by rw [List.length_map, hr9.1]; rfl) (by intro v hv; obtain ⟨_, _, rfl⟩ := List.mem_map.1 hv; rfl) ?_
        intro wy6 hb hg
        replace HM := Lib.hid (show Mem wb [blkE P10 51 (z5), blkE P9 51 (r9.map uv)] wy6 from HM.out.put 1 rfl _ hg hb)
        clear hb hg
        refine hK.out _ _ (((HM.out.erase 0).erase 0)) (fun hHeld => ?_)
        clear hK K
        (try simp only [Act.put])
        refine step_one 9 rfl (by kernel_rfl) (fun K hK => ?_)
        clear hHeld
        refine step_store_blk _ rfl 51 (.tmp 10) (.tmp 41) rfl P10 (r10.map uv) rfl (by show Value.agg c10 = _; rw [hc10]) 51 (z5) (HM.out.blk 0 rfl) (cells5 _ hr10.1) (by rw [List.length_map, hr10.1]; rfl) (by intro v hv; obtain ⟨_, _, rfl⟩ := List.mem_map.1 hv; rfl) ?_
        intro wy7 hb hg
        replace HM := Lib.hid (show Mem wb [blkE P10 51 (r10.map uv), blkE P9 51 (r9.map uv)] wy7 from HM.out.put 0 rfl _ hg hb)
        clear hb hg
        refine hK.out _ _ (((HM.out.erase 0).erase 0)) (fun hHeld => ?_)
        clear hK K
        (try simp only [Act.put])
        refine wpAnyH_done (by kernel_rfl) ?_ _
        go_wp2_with fail
        go_meet
        exact ⟨P9, P10, r9, r10, rfl, rfl, hr9, vr9, hr10, vr10, Nat.le_trans (HB.out.2.2.2.2.2.2.2.2) (MemE.low HM.out.1 1 _ rfl), Nat.le_trans (HB.out.2.2.2.2.2.2.2.2) (MemE.low HM.out.1 0 _ rfl), HM.out.blk 1 rfl, HM.out.blk 0 rfl, HKE.out _ HM.out.bel⟩
    · clear hHeld
      go_simp
      replace HM := Lib.hid (show Mem wb [blkE wd1.heap.size 51 (z5)] (wd1.alloc (.cells vZ5 51)) from HM.out.alloc rfl 51 vZ5 (z5) rfl)
      generalize wd1.alloc (.cells vZ5 51) = wy2 at HM ⊢
      generalize wd1.heap.size = P10 at HM ⊢
      refine hK.out _ _ ((HM.out.erase 0)) (fun hHeld => ?_)
      clear hK K
      (try simp only [Act.put, List.setIfInBounds_toArray, List.set_cons_zero, List.set_cons_succ])
      refine step_two 2 6 rfl rfl (by kernel_rfl) (fun K hK => ?_) (fun K hK => ?_)
      · clear hHeld
        go_simp
        refine (T9.out _).mono ?_
        rintro e wy3 ⟨r9, hr9, vr9, rfl, hb⟩
        replace HM := Lib.hid (show Mem wb [blkE P10 51 (z5)] wy3 from HM.out.below hb)
        obtain ⟨c9, hc9⟩ : ∃ c, (r9.map uv).toArray = c := ⟨_, rfl⟩
        rw [hc9]
        clear hb
        go_wp2_with fail
        refine hK.out _ _ ((HM.out.erase 0)) (fun hHeld => ?_)
        clear hK K
        (try simp only [Act.put, List.setIfInBounds_toArray, List.set_cons_zero, List.set_cons_succ])
        refine step_two 5 6 rfl rfl (by kernel_rfl) (fun K hK => ?_) (fun K hK => ?_)
        · clear hHeld
          go_simp
          refine (T10.out _).mono ?_
          rintro e wy4 ⟨r10, hr10, vr10, rfl, hb⟩
          replace HM := Lib.hid (show Mem wb [blkE P10 51 (z5)] wy4 from HM.out.below hb)
          obtain ⟨c10, hc10⟩ : ∃ c, (r10.map uv).toArray = c := ⟨_, rfl⟩
          rw [hc10]
          clear hb
          go_wp2_with fail
          refine hK.out _ _ ((HM.out.erase 0)) (fun hHeld => ?_)
          clear hK K
          (try simp only [Act.put, List.setIfInBounds_toArray, List.set_cons_zero, List.set_cons_succ])
          refine step_one 6 rfl (by kernel_rfl) (fun K hK => ?_)
          clear hHeld
          go_simp
          replace HM := Lib.hid (show Mem wb [blkE wy4.heap.size 51 (z5), blkE P10 51 (z5)] (wy4.alloc (.cells vZ5 51)) from HM.out.alloc rfl 51 vZ5 (z5) rfl)
          generalize wy4.alloc (.cells vZ5 51) = wy5 at HM ⊢
          generalize wy4.heap.size = P9 at HM ⊢
          refine hK.out _ _ (((HM.out.erase 0).erase 0)) (fun hHeld => ?_)
          clear hK K
          (try simp only [Act.put, List.setIfInBounds_toArray, List.set_cons_zero, List.set_cons_succ])
          refine step_one 8 rfl (by kernel_rfl) (fun K hK => ?_)
          clear hHeld
          refine step_store_blk _ rfl 51 (.tmp 9) (.tmp 38) rfl P9 (r9.map uv) rfl (by show Value.agg c9 = _; rw [hc9]) 51 (z5) (HM.out.blk 0 rfl) (cells5 _ hr9.1) (by rw [List.length_map, hr9.1]; rfl) (by intro v hv; obtain ⟨_, _, rfl⟩ := List.mem_map.1 hv; rfl) ?_
          intro wy6 hb hg
          replace HM := Lib.hid (show Mem wb [blkE P9 51 (r9.map uv), blkE P10 51 (z5)] wy6 from HM.out.put 0 rfl _ hg hb)
          clear hb hg
          refine hK.out _ _ (((HM.out.erase 0).erase 0)) (fun hHeld => ?_)
          clear hK K
          (try simp only [Act.put])
          refine step_one 9 rfl (by kernel_rfl) (fun K hK => ?_)
          clear hHeld
          refine step_store_blk _ rfl 51 (.tmp 10) (.tmp 41) rfl P10 (r10.map uv) rfl (by show Value.agg c10 = _; rw [hc10]) 51 (z5) (HM.out.blk 1 rfl) (cells5 _ hr10.1) (by rw [List.length_map, hr10.1]; rfl) (by intro v hv; obtain ⟨_, _, rfl⟩ := List.mem_map.1 hv; rfl) ?_
          intro wy7 hb hg
          replace HM := Lib.hid (show Mem wb [blkE P9 51 (r9.map uv), blkE P10 51 (r10.map uv)] wy7 from HM.out.put 1 rfl _ hg hb)
          clear hb hg
          refine hK.out _ _ (((HM.out.erase 0).erase 0)) (fun hHeld => ?_)
          clear hK K
          (try simp only [Act.put])
          refine wpAnyH_done (by kernel_rfl) ?_ _
          go_wp2_with fail
          go_meet
          exact ⟨P9, P10, r9, r10, rfl, rfl, hr9, vr9, hr10, vr10, Nat.le_trans (HB.out.2.2.2.2.2.2.2.2) (MemE.low HM.out.1 0 _ rfl), Nat.le_trans (HB.out.2.2.2.2.2.2.2.2) (MemE.low HM.out.1 1 _ rfl), HM.out.blk 0 rfl, HM.out.blk 1 rfl, HKE.out _ HM.out.bel⟩
        · clear hHeld
          go_simp
          replace HM := Lib.hid (show Mem wb [blkE wy3.heap.size 51 (z5), blkE P10 51 (z5)] (wy3.alloc (.cells vZ5 51)) from HM.out.alloc rfl 51 vZ5 (z5) rfl)
          generalize wy3.alloc (.cells vZ5 51) = wy4 at HM ⊢
          generalize wy3.heap.size = P9 at HM ⊢
          refine hK.out _ _ (((HM.out.erase 0).erase 0)) (fun hHeld => ?_)
          clear hK K
          (try simp only [Act.put, List.setIfInBounds_toArray, List.set_cons_zero, List.set_cons_succ])
          refine step_one 5 rfl (by kernel_rfl) (fun K hK => ?_)
          clear hHeld
          go_simp
          refine (T10.out _).mono ?_
          rintro e wy5 ⟨r10, hr10, vr10, rfl, hb⟩
          replace HM := Lib.hid (show Mem wb [blkE P9 51 (z5), blkE P10 51 (z5)] wy5 from HM.out.below hb)
          obtain ⟨c10, hc10⟩ : ∃ c, (r10.map uv).toArray = c := ⟨_, rfl⟩
          rw [hc10]
          clear hb
          go_wp2_with fail
          refine hK.out _ _ (((HM.out.erase 0).erase 0)) (fun hHeld => ?_)
          clear hK K
          (try simp only [Act.put, List.setIfInBounds_toArray, List.set_cons_zero, List.set_cons_succ])
          refine step_one 8 rfl (by kernel_rfl) (fun K hK => ?_)
          clear hHeld
          refine step_store_blk _ rfl 51 (.tmp 9) (.tmp 38) rfl P9 (r9.map uv) rfl (by show Value.agg c9 = _; rw [hc9]) 51 (z5) (HM.out.blk 0 rfl) (cells5 _ hr9.1) (by rw [List.length_map, hr9.1]; rfl) (by intro v hv; obtain ⟨_, _, rfl⟩ := List.mem_map.1 hv; rfl) ?_
          intro wy6 hb hg
          replace HM := Lib.hid (show Mem wb [blkE P9 51 (r9.map uv), blkE P10 51 (z5)] wy6 from HM.out.put 0 rfl _ hg hb)
          clear hb hg
          refine hK.out _ _ (((HM.out.erase 0).erase 0)) (fun hHeld => ?_)
          clear hK K
          (try simp only [Act.put])
          refine step_one 9 rfl (by kernel_rfl) (fun K hK => ?_)
          clear hHeld
          refine step_store_blk _ rfl 51 (.tmp 10) (.tmp 41) rfl P10 (r10.map uv) rfl (by show Value.agg c10 = _; rw [hc10]) 51 (z5) (HM.out.blk 1 rfl) (cells5 _ hr10.1) (by rw [List.length_map, hr10.1]; rfl) (by intro v hv; obtain ⟨_, _, rfl⟩ := List.mem_map.1 hv; rfl) ?_
          intro wy7 hb hg
          replace HM := Lib.hid (show Mem wb [blkE P9 51 (r9.map uv), blkE P10 51 (r10.map uv)] wy7 from HM.out.put 1 rfl _ hg hb)
          clear hb hg
          refine hK.out _ _ (((HM.out.erase 0).erase 0)) (fun hHeld => ?_)
          clear hK K
          (try simp only [Act.put])
          refine wpAnyH_done (by kernel_rfl) ?_ _
          go_wp2_with fail
          go_meet
          exact ⟨P9, P10, r9, r10, rfl, rfl, hr9, vr9, hr10, vr10, Nat.le_trans (HB.out.2.2.2.2.2.2.2.2) (MemE.low HM.out.1 0 _ rfl), Nat.le_trans (HB.out.2.2.2.2.2.2.2.2) (MemE.low HM.out.1 1 _ rfl), HM.out.blk 0 rfl, HM.out.blk 1 rfl, HKE.out _ HM.out.bel⟩
      · clear hHeld
        go_simp
        replace HM := Lib.hid (show Mem wb [blkE wy2.heap.size 51 (z5), blkE P10 51 (z5)] (wy2.alloc (.cells vZ5 51)) from HM.out.alloc rfl 51 vZ5 (z5) rfl)
        generalize wy2.alloc (.cells vZ5 51) = wy3 at HM ⊢
        generalize wy2.heap.size = P9 at HM ⊢
        refine hK.out _ _ (((HM.out.erase 0).erase 0)) (fun hHeld => ?_)
        clear hK K
        (try simp only [Act.put, List.setIfInBounds_toArray, List.set_cons_zero, List.set_cons_succ])
        refine step_one 2 rfl (by kernel_rfl) (fun K hK => ?_)
        clear hHeld
        go_simp
        refine (T9.out _).mono ?_
        rintro e wy4 ⟨r9, hr9, vr9, rfl, hb⟩
        replace HM := Lib.hid (show Mem wb [blkE P9 51 (z5), blkE P10 51 (z5)] wy4 from HM.out.below hb)
        obtain ⟨c9, hc9⟩ : ∃ c, (r9.map uv).toArray = c := ⟨_, rfl⟩
        rw [hc9]
        clear hb
        go_wp2_with fail
        refine hK.out _ _ (((HM.out.erase 0).erase 0)) (fun hHeld => ?_)
        clear hK K
        (try simp only [Act.put, List.setIfInBounds_toArray, List.set_cons_zero, List.set_cons_succ])
        refine step_one 5 rfl (by kernel_rfl) (fun K hK => ?_)
        clear hHeld
        go_simp
        refine (T10.out _).mono ?_
        rintro e wy5 ⟨r10, hr10, vr10, rfl, hb⟩
        replace HM := Lib.hid (show Mem wb [blkE P9 51 (z5), blkE P10 51 (z5)] wy5 from HM.out.below hb)
        obtain ⟨c10, hc10⟩ : ∃ c, (r10.map uv).toArray = c := ⟨_, rfl⟩
        rw [hc10]
        clear hb
        go_wp2_with fail
        refine hK.out _ _ (((HM.out.erase 0).erase 0)) (fun hHeld => ?_)
        clear hK K
        (try simp only [Act.put, List.setIfInBounds_toArray, List.set_cons_zero, List.set_cons_succ])
        refine step_one 8 rfl (by kernel_rfl) (fun K hK => ?_)
        clear hHeld
        refine step_store_blk _ rfl 51 (.tmp 9) (.tmp 38) rfl P9 (r9.map uv) rfl (by show Value.agg c9 = _; rw [hc9]) 51 (z5) (HM.out.blk 0 rfl) (cells5 _ hr9.1) (by rw [List.length_map, hr9.1]; rfl) (by intro v hv; obtain ⟨_, _, rfl⟩ := List.mem_map.1 hv; rfl) ?_
        intro wy6 hb hg
        replace HM := Lib.hid (show Mem wb [blkE P9 51 (r9.map uv), blkE P10 51 (z5)] wy6 from HM.out.put 0 rfl _ hg hb)
        clear hb hg
        refine hK.out _ _ (((HM.out.erase 0).erase 0)) (fun hHeld => ?_)
        clear hK K
        (try simp only [Act.put])
        refine step_one 9 rfl (by kernel_rfl) (fun K hK => ?_)
        clear hHeld
        refine step_store_blk _ rfl 51 (.tmp 10) (.tmp 41) rfl P10 (r10.map uv) rfl (by show Value.agg c10 = _; rw [hc10]) 51 (z5) (HM.out.blk 1 rfl) (cells5 _ hr10.1) (by rw [List.length_map, hr10.1]; rfl) (by intro v hv; obtain ⟨_, _, rfl⟩ := List.mem_map.1 hv; rfl) ?_
        intro wy7 hb hg
        replace HM := Lib.hid (show Mem wb [blkE P9 51 (r9.map uv), blkE P10 51 (r10.map uv)] wy7 from HM.out.put 1 rfl _ hg hb)
        clear hb hg
        refine hK.out _ _ (((HM.out.erase 0).erase 0)) (fun hHeld => ?_)
        clear hK K
        (try simp only [Act.put])
        refine wpAnyH_done (by kernel_rfl) ?_ _
        go_wp2_with fail
        go_meet
        exact ⟨P9, P10, r9, r10, rfl, rfl, hr9, vr9, hr10, vr10, Nat.le_trans (HB.out.2.2.2.2.2.2.2.2) (MemE.low HM.out.1 0 _ rfl), Nat.le_trans (HB.out.2.2.2.2.2.2.2.2) (MemE.low HM.out.1 1 _ rfl), HM.out.blk 0 rfl, HM.out.blk 1 rfl, HKE.out _ HM.out.bel⟩
  case rest =>
  clear HB
  revert wc
  intro wb hcut
  obtain ⟨P9, P10, r9, r10, rfl, rfl, hr9, vr9, hr10, vr10, hP9, hP10, hcut⟩ := hcut
  have HB := Lib.hid hcut
  have HP9 := Lib.hid (And.intro hP9 hP10)
  clear hcut hP9 hP10
  obtain ⟨c9, hc9⟩ : ∃ c, (r9.map uv).toArray = c := ⟨_, rfl⟩
  obtain ⟨c10, hc10⟩ : ∃ c, (r10.map uv).toArray = c := ⟨_, rfl⟩
  have HR9 := Lib.hid (And.intro hc9 (And.intro hr9 vr9))
  have HR10 := Lib.hid (And.intro hc10 (And.intro hr10 vr10))
  clear hc9 hc10 hr9 vr9 hr10 vr10
  have T11 := Lib.hid (show ∀ W : World, Calls Try.prog 30 #[.agg cld, .agg cla] W fun e w' => ∃ r, SmallN r ∧ Cu.fq (val r : Int) = (Cu.fq (val x3 : Int) - Cu.fq (val z3 : Int)) * (Cu.fq (val x2 : Int) + Cu.fq (val z2 : Int)) ∧ e = .returned (.agg (r.map uv).toArray) ∧ Below W.heap.size W w' from fun W => by
    have h := multiply_ex ld la Hld.out.2.1 Hla.out.2.1 W
    rw [Hld.out.2.2, Hla.out.2.2, Hld.out.1, Hla.out.1] at h
    exact h)
  have T12 := Lib.hid (show ∀ W : World, Calls Try.prog 30 #[.agg clc, .agg clb] W fun e w' => ∃ r, SmallN r ∧ Cu.fq (val r : Int) = (Cu.fq (val x3 : Int) + Cu.fq (val z3 : Int)) * (Cu.fq (val x2 : Int) - Cu.fq (val z2 : Int)) ∧ e = .returned (.agg (r.map uv).toArray) ∧ Below W.heap.size W w' from fun W => by
    have h := multiply_ex lc lb Hlc.out.2.1 Hlb.out.2.1 W
    rw [Hlc.out.2.2, Hlb.out.2.2, Hlc.out.1, Hlb.out.1] at h
    exact h)
  go_upto_region 4 with fail
  go_cut [11, 12] (fun p q wx => ∃ P11 P12 r11 r12, p = .pointer (some ⟨P11, 0, none⟩) ∧ q = .pointer (some ⟨P12, 0, none⟩) ∧ SmallN r11 ∧ Cu.fq (val r11 : Int) = (Cu.fq (val x3 : Int) - Cu.fq (val z3 : Int)) * (Cu.fq (val x2 : Int) + Cu.fq (val z2 : Int)) ∧ SmallN r12 ∧ Cu.fq (val r12 : Int) = (Cu.fq (val x3 : Int) + Cu.fq (val z3 : Int)) * (Cu.fq (val x2 : Int) - Cu.fq (val z2 : Int)) ∧ w.heap.size + 3 ≤ P11 ∧ w.heap.size + 3 ≤ P12 ∧ Blk wx P11 51 (r11.map uv) ∧ Blk wx P12 51 (r12.map uv) ∧ Blk wx P9 51 (r9.map uv) ∧ Blk wx P10 51 (r10.map uv) ∧ Blk wx P7 51 (lc.map uv) ∧ Blk wx P8 51 (ld.map uv) ∧ Blk wx P5 51 (la.map uv) ∧ Blk wx P6 51 (lb.map uv) ∧ Blk wx w.heap.size 54 (rungV x2 z2 x3 z3) ∧ Blk wx (w.heap.size + 1) 51 (x1.map uv) ∧ Blk wx (w.heap.size + 1 + 1) 54 (zr) ∧ Below w.heap.size w wx ∧ w.heap.size + 3 ≤ wx.heap.size)
  case first =>
    have HM := Lib.hid (Mem.nil wb)
    have HKE := Lib.hid (show ∀ W, Below wb.heap.size wb W → Blk W P9 51 (r9.map uv) ∧ Blk W P10 51 (r10.map uv) ∧ Blk W P7 51 (lc.map uv) ∧ Blk W P8 51 (ld.map uv) ∧ Blk W P5 51 (la.map uv) ∧ Blk W P6 51 (lb.map uv) ∧ Blk W w.heap.size 54 (rungV x2 z2 x3 z3) ∧ Blk W (w.heap.size + 1) 51 (x1.map uv) ∧ Blk W (w.heap.size + 1 + 1) 54 (zr) ∧ Below w.heap.size w W ∧ w.heap.size + 3 ≤ W.heap.size from fun W hW => ⟨(HB.out.1).below hW (HB.out.1).lt, (HB.out.2.1).below hW (HB.out.2.1).lt, (HB.out.2.2.1).below hW (HB.out.2.2.1).lt, (HB.out.2.2.2.1).below hW (HB.out.2.2.2.1).lt, (HB.out.2.2.2.2.1).below hW (HB.out.2.2.2.2.1).lt, (HB.out.2.2.2.2.2.1).below hW (HB.out.2.2.2.2.2.1).lt, (HB.out.2.2.2.2.2.2.1).below hW (HB.out.2.2.2.2.2.2.1).lt, (HB.out.2.2.2.2.2.2.2.1).below hW (HB.out.2.2.2.2.2.2.2.1).lt, (HB.out.2.2.2.2.2.2.2.2.1).below hW (HB.out.2.2.2.2.2.2.2.2.1).lt, (HB.out.2.2.2.2.2.2.2.2.2.1).trans (hW.mono (HB.out.2.2.2.2.2.2.2.2.2.1).size), Nat.le_trans (HB.out.2.2.2.2.2.2.2.2.2.2) hW.size⟩)
    refine wp_region_held_drew (S := fun W' => Mem wb [] W') (by kernel_rfl) (HM.out.drew) (fun hHeld => ?_)
    replace HM := Lib.hid HM.out.drew
    generalize wb.drew = wd1 at HM hHeld ⊢
    refine take_first (v := .agg cld) 0 rfl (by kernel_rfl) (by kernel_rfl) (by kernel_rfl) (fun _ _ _ h => h) (by rw [← Hld.out.1]; exact yields_load_blk (by rfl) 51 (.tmp 8) rfl P8 rfl 51 (ld.map uv) (fun w' hb => (HB.out.2.2.2.1).below hb.bel (HB.out.2.2.2.1).lt) 5 49 Try.underlying51 (cells5 ld Hld.out.2.1.1)) (by assumption) ?_
    (try simp only [Act.put, List.setIfInBounds_toArray, List.set_cons_zero, List.set_cons_succ])
    refine take_first (v := .agg cla) 1 rfl (by kernel_rfl) (by kernel_rfl) (by kernel_rfl) (fun _ _ _ h => h) (by rw [← Hla.out.1]; exact yields_load_blk (by rfl) 51 (.tmp 5) rfl P5 rfl 51 (la.map uv) (fun w' hb => (HB.out.2.2.2.2.1).below hb.bel (HB.out.2.2.2.2.1).lt) 5 49 Try.underlying51 (cells5 la Hla.out.2.1.1)) (by assumption) ?_
    (try simp only [Act.put, List.setIfInBounds_toArray, List.set_cons_zero, List.set_cons_succ])
    refine take_first (v := .agg clc) 3 rfl (by kernel_rfl) (by kernel_rfl) (by kernel_rfl) (fun _ _ _ h => h) (by rw [← Hlc.out.1]; exact yields_load_blk (by rfl) 51 (.tmp 7) rfl P7 rfl 51 (lc.map uv) (fun w' hb => (HB.out.2.2.1).below hb.bel (HB.out.2.2.1).lt) 5 49 Try.underlying51 (cells5 lc Hlc.out.2.1.1)) (by assumption) ?_
    (try simp only [Act.put, List.setIfInBounds_toArray, List.set_cons_zero, List.set_cons_succ])
    refine take_first (v := .agg clb) 4 rfl (by kernel_rfl) (by kernel_rfl) (by kernel_rfl) (fun _ _ _ h => h) (by rw [← Hlb.out.1]; exact yields_load_blk (by rfl) 51 (.tmp 6) rfl P6 rfl 51 (lb.map uv) (fun w' hb => (HB.out.2.2.2.2.2.1).below hb.bel (HB.out.2.2.2.2.2.1).lt) 5 49 Try.underlying51 (cells5 lb Hlb.out.2.1.1)) (by assumption) ?_
    (try simp only [Act.put, List.setIfInBounds_toArray, List.set_cons_zero, List.set_cons_succ])
    refine step_three 2 6 7 rfl rfl rfl (by kernel_rfl) (fun K hK => ?_) (fun K hK => ?_) (fun K hK => ?_)
    · clear hHeld
      go_simp
      refine (T11.out _).mono ?_
      rintro e wy2 ⟨r11, hr11, vr11, rfl, hb⟩
      replace HM := Lib.hid (show Mem wb [] wy2 from HM.out.below hb)
      obtain ⟨c11, hc11⟩ : ∃ c, (r11.map uv).toArray = c := ⟨_, rfl⟩
      rw [hc11]
      clear hb
      go_wp2_with fail
      refine hK.out _ _ (HM.out) (fun hHeld => ?_)
      clear hK K
      (try simp only [Act.put, List.setIfInBounds_toArray, List.set_cons_zero, List.set_cons_succ])
      refine step_three 5 6 7 rfl rfl rfl (by kernel_rfl) (fun K hK => ?_) (fun K hK => ?_) (fun K hK => ?_)
      · clear hHeld
        go_simp
        refine (T12.out _).mono ?_
        rintro e wy3 ⟨r12, hr12, vr12, rfl, hb⟩
        replace HM := Lib.hid (show Mem wb [] wy3 from HM.out.below hb)
        obtain ⟨c12, hc12⟩ : ∃ c, (r12.map uv).toArray = c := ⟨_, rfl⟩
        rw [hc12]
        clear hb
        go_wp2_with fail
        refine hK.out _ _ (HM.out) (fun hHeld => ?_)
        clear hK K
        (try simp only [Act.put, List.setIfInBounds_toArray, List.set_cons_zero, List.set_cons_succ])
        refine step_two 6 7 rfl rfl (by kernel_rfl) (fun K hK => ?_) (fun K hK => ?_)
        · clear hHeld
          go_simp
          replace HM := Lib.hid (show Mem wb [blkE wy3.heap.size 51 (z5)] (wy3.alloc (.cells vZ5 51)) from HM.out.alloc rfl 51 vZ5 (z5) rfl)
          generalize wy3.alloc (.cells vZ5 51) = wy4 at HM ⊢
          generalize wy3.heap.size = P11 at HM ⊢
          refine hK.out _ _ ((HM.out.erase 0)) (fun hHeld => ?_)
          clear hK K
          (try simp only [Act.put, List.setIfInBounds_toArray, List.set_cons_zero, List.set_cons_succ])
          refine step_one 7 rfl (by kernel_rfl) (fun K hK => ?_)
          clear hHeld
          go_simp
          replace HM := Lib.hid (show Mem wb [blkE wy4.heap.size 51 (z5), blkE P11 51 (z5)] (wy4.alloc (.cells vZ5 51)) from HM.out.alloc rfl 51 vZ5 (z5) rfl)
          generalize wy4.alloc (.cells vZ5 51) = wy5 at HM ⊢
          generalize wy4.heap.size = P12 at HM ⊢
          refine hK.out _ _ (((HM.out.erase 0).erase 0)) (fun hHeld => ?_)
          clear hK K
          (try simp only [Act.put, List.setIfInBounds_toArray, List.set_cons_zero, List.set_cons_succ])
          refine step_one 8 rfl (by kernel_rfl) (fun K hK => ?_)
          clear hHeld
          refine step_store_blk _ rfl 51 (.tmp 11) (.tmp 44) rfl P11 (r11.map uv) rfl (by show Value.agg c11 = _; rw [hc11]) 51 (z5) (HM.out.blk 1 rfl) (cells5 _ hr11.1) (by rw [List.length_map, hr11.1]; rfl) (by intro v hv; obtain ⟨_, _, rfl⟩ := List.mem_map.1 hv; rfl) ?_
          intro wy6 hb hg
          replace HM := Lib.hid (show Mem wb [blkE P12 51 (z5), blkE P11 51 (r11.map uv)] wy6 from HM.out.put 1 rfl _ hg hb)
          clear hb hg
          refine hK.out _ _ (((HM.out.erase 0).erase 0)) (fun hHeld => ?_)
          clear hK K
          (try simp only [Act.put])
          refine step_one 9 rfl (by kernel_rfl) (fun K hK => ?_)
          clear hHeld
          refine step_store_blk _ rfl 51 (.tmp 12) (.tmp 47) rfl P12 (r12.map uv) rfl (by show Value.agg c12 = _; rw [hc12]) 51 (z5) (HM.out.blk 0 rfl) (cells5 _ hr12.1) (by rw [List.length_map, hr12.1]; rfl) (by intro v hv; obtain ⟨_, _, rfl⟩ := List.mem_map.1 hv; rfl) ?_
          intro wy7 hb hg
          replace HM := Lib.hid (show Mem wb [blkE P12 51 (r12.map uv), blkE P11 51 (r11.map uv)] wy7 from HM.out.put 0 rfl _ hg hb)
          clear hb hg
          refine hK.out _ _ (((HM.out.erase 0).erase 0)) (fun hHeld => ?_)
          clear hK K
          (try simp only [Act.put])
          refine wpAnyH_done (by kernel_rfl) ?_ _
          go_wp2_with fail
          go_meet
          exact ⟨P11, P12, r11, r12, rfl, rfl, hr11, vr11, hr12, vr12, Nat.le_trans (HB.out.2.2.2.2.2.2.2.2.2.2) (MemE.low HM.out.1 1 _ rfl), Nat.le_trans (HB.out.2.2.2.2.2.2.2.2.2.2) (MemE.low HM.out.1 0 _ rfl), HM.out.blk 1 rfl, HM.out.blk 0 rfl, HKE.out _ HM.out.bel⟩
        · clear hHeld
          go_simp
          replace HM := Lib.hid (show Mem wb [blkE wy3.heap.size 51 (z5)] (wy3.alloc (.cells vZ5 51)) from HM.out.alloc rfl 51 vZ5 (z5) rfl)
          generalize wy3.alloc (.cells vZ5 51) = wy4 at HM ⊢
          generalize wy3.heap.size = P12 at HM ⊢
          refine hK.out _ _ ((HM.out.erase 0)) (fun hHeld => ?_)
          clear hK K
          (try simp only [Act.put, List.setIfInBounds_toArray, List.set_cons_zero, List.set_cons_succ])
          refine step_one 6 rfl (by kernel_rfl) (fun K hK => ?_)
          clear hHeld
          go_simp
          replace HM := Lib.hid (show Mem wb [blkE wy4.heap.size 51 (z5), blkE P12 51 (z5)] (wy4.alloc (.cells vZ5 51)) from HM.out.alloc rfl 51 vZ5 (z5) rfl)
          generalize wy4.alloc (.cells vZ5 51) = wy5 at HM ⊢
          generalize wy4.heap.size = P11 at HM ⊢
          refine hK.out _ _ (((HM.out.erase 0).erase 0)) (fun hHeld => ?_)
          clear hK K
          (try simp only [Act.put, List.setIfInBounds_toArray, List.set_cons_zero, List.set_cons_succ])
          refine step_one 8 rfl (by kernel_rfl) (fun K hK => ?_)
          clear hHeld
          refine step_store_blk _ rfl 51 (.tmp 11) (.tmp 44) rfl P11 (r11.map uv) rfl (by show Value.agg c11 = _; rw [hc11]) 51 (z5) (HM.out.blk 0 rfl) (cells5 _ hr11.1) (by rw [List.length_map, hr11.1]; rfl) (by intro v hv; obtain ⟨_, _, rfl⟩ := List.mem_map.1 hv; rfl) ?_
          intro wy6 hb hg
          replace HM := Lib.hid (show Mem wb [blkE P11 51 (r11.map uv), blkE P12 51 (z5)] wy6 from HM.out.put 0 rfl _ hg hb)
          clear hb hg
          refine hK.out _ _ (((HM.out.erase 0).erase 0)) (fun hHeld => ?_)
          clear hK K
          (try simp only [Act.put])
          refine step_one 9 rfl (by kernel_rfl) (fun K hK => ?_)
          clear hHeld
          refine step_store_blk _ rfl 51 (.tmp 12) (.tmp 47) rfl P12 (r12.map uv) rfl (by show Value.agg c12 = _; rw [hc12]) 51 (z5) (HM.out.blk 1 rfl) (cells5 _ hr12.1) (by rw [List.length_map, hr12.1]; rfl) (by intro v hv; obtain ⟨_, _, rfl⟩ := List.mem_map.1 hv; rfl) ?_
          intro wy7 hb hg
          replace HM := Lib.hid (show Mem wb [blkE P11 51 (r11.map uv), blkE P12 51 (r12.map uv)] wy7 from HM.out.put 1 rfl _ hg hb)
          clear hb hg
          refine hK.out _ _ (((HM.out.erase 0).erase 0)) (fun hHeld => ?_)
          clear hK K
          (try simp only [Act.put])
          refine wpAnyH_done (by kernel_rfl) ?_ _
          go_wp2_with fail
          go_meet
          exact ⟨P11, P12, r11, r12, rfl, rfl, hr11, vr11, hr12, vr12, Nat.le_trans (HB.out.2.2.2.2.2.2.2.2.2.2) (MemE.low HM.out.1 0 _ rfl), Nat.le_trans (HB.out.2.2.2.2.2.2.2.2.2.2) (MemE.low HM.out.1 1 _ rfl), HM.out.blk 0 rfl, HM.out.blk 1 rfl, HKE.out _ HM.out.bel⟩
      · clear hHeld
        go_simp
        replace HM := Lib.hid (show Mem wb [blkE wy2.heap.size 51 (z5)] (wy2.alloc (.cells vZ5 51)) from HM.out.alloc rfl 51 vZ5 (z5) rfl)
        generalize wy2.alloc (.cells vZ5 51) = wy3 at HM ⊢
        generalize wy2.heap.size = P11 at HM ⊢
        refine hK.out _ _ ((HM.out.erase 0)) (fun hHeld => ?_)
        clear hK K
        (try simp only [Act.put, List.setIfInBounds_toArray, List.set_cons_zero, List.set_cons_succ])
        refine step_two 5 7 rfl rfl (by kernel_rfl) (fun K hK => ?_) (fun K hK => ?_)
        · clear hHeld
          go_simp
          refine (T12.out _).mono ?_
          rintro e wy4 ⟨r12, hr12, vr12, rfl, hb⟩
          replace HM := Lib.hid (show Mem wb [blkE P11 51 (z5)] wy4 from HM.out.below hb)
          obtain ⟨c12, hc12⟩ : ∃ c, (r12.map uv).toArray = c := ⟨_, rfl⟩
          rw [hc12]
          clear hb
          go_wp2_with fail
          refine hK.out _ _ ((HM.out.erase 0)) (fun hHeld => ?_)
          clear hK K
          (try simp only [Act.put, List.setIfInBounds_toArray, List.set_cons_zero, List.set_cons_succ])
          refine step_one 7 rfl (by kernel_rfl) (fun K hK => ?_)
          clear hHeld
          go_simp
          replace HM := Lib.hid (show Mem wb [blkE wy4.heap.size 51 (z5), blkE P11 51 (z5)] (wy4.alloc (.cells vZ5 51)) from HM.out.alloc rfl 51 vZ5 (z5) rfl)
          generalize wy4.alloc (.cells vZ5 51) = wy5 at HM ⊢
          generalize wy4.heap.size = P12 at HM ⊢
          refine hK.out _ _ (((HM.out.erase 0).erase 0)) (fun hHeld => ?_)
          clear hK K
          (try simp only [Act.put, List.setIfInBounds_toArray, List.set_cons_zero, List.set_cons_succ])
          refine step_one 8 rfl (by kernel_rfl) (fun K hK => ?_)
          clear hHeld
          refine step_store_blk _ rfl 51 (.tmp 11) (.tmp 44) rfl P11 (r11.map uv) rfl (by show Value.agg c11 = _; rw [hc11]) 51 (z5) (HM.out.blk 1 rfl) (cells5 _ hr11.1) (by rw [List.length_map, hr11.1]; rfl) (by intro v hv; obtain ⟨_, _, rfl⟩ := List.mem_map.1 hv; rfl) ?_
          intro wy6 hb hg
          replace HM := Lib.hid (show Mem wb [blkE P12 51 (z5), blkE P11 51 (r11.map uv)] wy6 from HM.out.put 1 rfl _ hg hb)
          clear hb hg
          refine hK.out _ _ (((HM.out.erase 0).erase 0)) (fun hHeld => ?_)
          clear hK K
          (try simp only [Act.put])
          refine step_one 9 rfl (by kernel_rfl) (fun K hK => ?_)
          clear hHeld
          refine step_store_blk _ rfl 51 (.tmp 12) (.tmp 47) rfl P12 (r12.map uv) rfl (by show Value.agg c12 = _; rw [hc12]) 51 (z5) (HM.out.blk 0 rfl) (cells5 _ hr12.1) (by rw [List.length_map, hr12.1]; rfl) (by intro v hv; obtain ⟨_, _, rfl⟩ := List.mem_map.1 hv; rfl) ?_
          intro wy7 hb hg
          replace HM := Lib.hid (show Mem wb [blkE P12 51 (r12.map uv), blkE P11 51 (r11.map uv)] wy7 from HM.out.put 0 rfl _ hg hb)
          clear hb hg
          refine hK.out _ _ (((HM.out.erase 0).erase 0)) (fun hHeld => ?_)
          clear hK K
          (try simp only [Act.put])
          refine wpAnyH_done (by kernel_rfl) ?_ _
          go_wp2_with fail
          go_meet
          exact ⟨P11, P12, r11, r12, rfl, rfl, hr11, vr11, hr12, vr12, Nat.le_trans (HB.out.2.2.2.2.2.2.2.2.2.2) (MemE.low HM.out.1 1 _ rfl), Nat.le_trans (HB.out.2.2.2.2.2.2.2.2.2.2) (MemE.low HM.out.1 0 _ rfl), HM.out.blk 1 rfl, HM.out.blk 0 rfl, HKE.out _ HM.out.bel⟩
        · clear hHeld
          go_simp
          replace HM := Lib.hid (show Mem wb [blkE wy3.heap.size 51 (z5), blkE P11 51 (z5)] (wy3.alloc (.cells vZ5 51)) from HM.out.alloc rfl 51 vZ5 (z5) rfl)
          generalize wy3.alloc (.cells vZ5 51) = wy4 at HM ⊢
          generalize wy3.heap.size = P12 at HM ⊢
          refine hK.out _ _ (((HM.out.erase 0).erase 0)) (fun hHeld => ?_)
          clear hK K
          (try simp only [Act.put, List.setIfInBounds_toArray, List.set_cons_zero, List.set_cons_succ])
          refine step_one 5 rfl (by kernel_rfl) (fun K hK => ?_)
          clear hHeld
          go_simp
          refine (T12.out _).mono ?_
          rintro e wy5 ⟨r12, hr12, vr12, rfl, hb⟩
          replace HM := Lib.hid (show Mem wb [blkE P12 51 (z5), blkE P11 51 (z5)] wy5 from HM.out.below hb)
          obtain ⟨c12, hc12⟩ : ∃ c, (r12.map uv).toArray = c := ⟨_, rfl⟩
          rw [hc12]
          clear hb
          go_wp2_with fail
          refine hK.out _ _ (((HM.out.erase 0).erase 0)) (fun hHeld => ?_)
          clear hK K
          (try simp only [Act.put, List.setIfInBounds_toArray, List.set_cons_zero, List.set_cons_succ])
          refine step_one 8 rfl (by kernel_rfl) (fun K hK => ?_)
          clear hHeld
          refine step_store_blk _ rfl 51 (.tmp 11) (.tmp 44) rfl P11 (r11.map uv) rfl (by show Value.agg c11 = _; rw [hc11]) 51 (z5) (HM.out.blk 1 rfl) (cells5 _ hr11.1) (by rw [List.length_map, hr11.1]; rfl) (by intro v hv; obtain ⟨_, _, rfl⟩ := List.mem_map.1 hv; rfl) ?_
          intro wy6 hb hg
          replace HM := Lib.hid (show Mem wb [blkE P12 51 (z5), blkE P11 51 (r11.map uv)] wy6 from HM.out.put 1 rfl _ hg hb)
          clear hb hg
          refine hK.out _ _ (((HM.out.erase 0).erase 0)) (fun hHeld => ?_)
          clear hK K
          (try simp only [Act.put])
          refine step_one 9 rfl (by kernel_rfl) (fun K hK => ?_)
          clear hHeld
          refine step_store_blk _ rfl 51 (.tmp 12) (.tmp 47) rfl P12 (r12.map uv) rfl (by show Value.agg c12 = _; rw [hc12]) 51 (z5) (HM.out.blk 0 rfl) (cells5 _ hr12.1) (by rw [List.length_map, hr12.1]; rfl) (by intro v hv; obtain ⟨_, _, rfl⟩ := List.mem_map.1 hv; rfl) ?_
          intro wy7 hb hg
          replace HM := Lib.hid (show Mem wb [blkE P12 51 (r12.map uv), blkE P11 51 (r11.map uv)] wy7 from HM.out.put 0 rfl _ hg hb)
          clear hb hg
          refine hK.out _ _ (((HM.out.erase 0).erase 0)) (fun hHeld => ?_)
          clear hK K
          (try simp only [Act.put])
          refine wpAnyH_done (by kernel_rfl) ?_ _
          go_wp2_with fail
          go_meet
          exact ⟨P11, P12, r11, r12, rfl, rfl, hr11, vr11, hr12, vr12, Nat.le_trans (HB.out.2.2.2.2.2.2.2.2.2.2) (MemE.low HM.out.1 1 _ rfl), Nat.le_trans (HB.out.2.2.2.2.2.2.2.2.2.2) (MemE.low HM.out.1 0 _ rfl), HM.out.blk 1 rfl, HM.out.blk 0 rfl, HKE.out _ HM.out.bel⟩
      · clear hHeld
        go_simp
        replace HM := Lib.hid (show Mem wb [blkE wy2.heap.size 51 (z5)] (wy2.alloc (.cells vZ5 51)) from HM.out.alloc rfl 51 vZ5 (z5) rfl)
        generalize wy2.alloc (.cells vZ5 51) = wy3 at HM ⊢
        generalize wy2.heap.size = P12 at HM ⊢
        refine hK.out _ _ ((HM.out.erase 0)) (fun hHeld => ?_)
        clear hK K
        (try simp only [Act.put, List.setIfInBounds_toArray, List.set_cons_zero, List.set_cons_succ])
        refine step_two 5 6 rfl rfl (by kernel_rfl) (fun K hK => ?_) (fun K hK => ?_)
        · clear hHeld
          go_simp
          refine (T12.out _).mono ?_
          rintro e wy4 ⟨r12, hr12, vr12, rfl, hb⟩
          replace HM := Lib.hid (show Mem wb [blkE P12 51 (z5)] wy4 from HM.out.below hb)
          obtain ⟨c12, hc12⟩ : ∃ c, (r12.map uv).toArray = c := ⟨_, rfl⟩
          rw [hc12]
          clear hb
          go_wp2_with fail
          refine hK.out _ _ ((HM.out.erase 0)) (fun hHeld => ?_)
          clear hK K
          (try simp only [Act.put, List.setIfInBounds_toArray, List.set_cons_zero, List.set_cons_succ])
          refine step_one 6 rfl (by kernel_rfl) (fun K hK => ?_)
          clear hHeld
          go_simp
          replace HM := Lib.hid (show Mem wb [blkE wy4.heap.size 51 (z5), blkE P12 51 (z5)] (wy4.alloc (.cells vZ5 51)) from HM.out.alloc rfl 51 vZ5 (z5) rfl)
          generalize wy4.alloc (.cells vZ5 51) = wy5 at HM ⊢
          generalize wy4.heap.size = P11 at HM ⊢
          refine hK.out _ _ (((HM.out.erase 0).erase 0)) (fun hHeld => ?_)
          clear hK K
          (try simp only [Act.put, List.setIfInBounds_toArray, List.set_cons_zero, List.set_cons_succ])
          refine step_one 8 rfl (by kernel_rfl) (fun K hK => ?_)
          clear hHeld
          refine step_store_blk _ rfl 51 (.tmp 11) (.tmp 44) rfl P11 (r11.map uv) rfl (by show Value.agg c11 = _; rw [hc11]) 51 (z5) (HM.out.blk 0 rfl) (cells5 _ hr11.1) (by rw [List.length_map, hr11.1]; rfl) (by intro v hv; obtain ⟨_, _, rfl⟩ := List.mem_map.1 hv; rfl) ?_
          intro wy6 hb hg
          replace HM := Lib.hid (show Mem wb [blkE P11 51 (r11.map uv), blkE P12 51 (z5)] wy6 from HM.out.put 0 rfl _ hg hb)
          clear hb hg
          refine hK.out _ _ (((HM.out.erase 0).erase 0)) (fun hHeld => ?_)
          clear hK K
          (try simp only [Act.put])
          refine step_one 9 rfl (by kernel_rfl) (fun K hK => ?_)
          clear hHeld
          refine step_store_blk _ rfl 51 (.tmp 12) (.tmp 47) rfl P12 (r12.map uv) rfl (by show Value.agg c12 = _; rw [hc12]) 51 (z5) (HM.out.blk 1 rfl) (cells5 _ hr12.1) (by rw [List.length_map, hr12.1]; rfl) (by intro v hv; obtain ⟨_, _, rfl⟩ := List.mem_map.1 hv; rfl) ?_
          intro wy7 hb hg
          replace HM := Lib.hid (show Mem wb [blkE P11 51 (r11.map uv), blkE P12 51 (r12.map uv)] wy7 from HM.out.put 1 rfl _ hg hb)
          clear hb hg
          refine hK.out _ _ (((HM.out.erase 0).erase 0)) (fun hHeld => ?_)
          clear hK K
          (try simp only [Act.put])
          refine wpAnyH_done (by kernel_rfl) ?_ _
          go_wp2_with fail
          go_meet
          exact ⟨P11, P12, r11, r12, rfl, rfl, hr11, vr11, hr12, vr12, Nat.le_trans (HB.out.2.2.2.2.2.2.2.2.2.2) (MemE.low HM.out.1 0 _ rfl), Nat.le_trans (HB.out.2.2.2.2.2.2.2.2.2.2) (MemE.low HM.out.1 1 _ rfl), HM.out.blk 0 rfl, HM.out.blk 1 rfl, HKE.out _ HM.out.bel⟩
        · clear hHeld
          go_simp
          replace HM := Lib.hid (show Mem wb [blkE wy3.heap.size 51 (z5), blkE P12 51 (z5)] (wy3.alloc (.cells vZ5 51)) from HM.out.alloc rfl 51 vZ5 (z5) rfl)
          generalize wy3.alloc (.cells vZ5 51) = wy4 at HM ⊢
          generalize wy3.heap.size = P11 at HM ⊢
          refine hK.out _ _ (((HM.out.erase 0).erase 0)) (fun hHeld => ?_)
          clear hK K
          (try simp only [Act.put, List.setIfInBounds_toArray, List.set_cons_zero, List.set_cons_succ])
          refine step_one 5 rfl (by kernel_rfl) (fun K hK => ?_)
          clear hHeld
          go_simp
          refine (T12.out _).mono ?_
          rintro e wy5 ⟨r12, hr12, vr12, rfl, hb⟩
          replace HM := Lib.hid (show Mem wb [blkE P11 51 (z5), blkE P12 51 (z5)] wy5 from HM.out.below hb)
          obtain ⟨c12, hc12⟩ : ∃ c, (r12.map uv).toArray = c := ⟨_, rfl⟩
          rw [hc12]
          clear hb
          go_wp2_with fail
          refine hK.out _ _ (((HM.out.erase 0).erase 0)) (fun hHeld => ?_)
          clear hK K
          (try simp only [Act.put, List.setIfInBounds_toArray, List.set_cons_zero, List.set_cons_succ])
          refine step_one 8 rfl (by kernel_rfl) (fun K hK => ?_)
          clear hHeld
          refine step_store_blk _ rfl 51 (.tmp 11) (.tmp 44) rfl P11 (r11.map uv) rfl (by show Value.agg c11 = _; rw [hc11]) 51 (z5) (HM.out.blk 0 rfl) (cells5 _ hr11.1) (by rw [List.length_map, hr11.1]; rfl) (by intro v hv; obtain ⟨_, _, rfl⟩ := List.mem_map.1 hv; rfl) ?_
          intro wy6 hb hg
          replace HM := Lib.hid (show Mem wb [blkE P11 51 (r11.map uv), blkE P12 51 (z5)] wy6 from HM.out.put 0 rfl _ hg hb)
          clear hb hg
          refine hK.out _ _ (((HM.out.erase 0).erase 0)) (fun hHeld => ?_)
          clear hK K
          (try simp only [Act.put])
          refine step_one 9 rfl (by kernel_rfl) (fun K hK => ?_)
          clear hHeld
          refine step_store_blk _ rfl 51 (.tmp 12) (.tmp 47) rfl P12 (r12.map uv) rfl (by show Value.agg c12 = _; rw [hc12]) 51 (z5) (HM.out.blk 1 rfl) (cells5 _ hr12.1) (by rw [List.length_map, hr12.1]; rfl) (by intro v hv; obtain ⟨_, _, rfl⟩ := List.mem_map.1 hv; rfl) ?_
          intro wy7 hb hg
          replace HM := Lib.hid (show Mem wb [blkE P11 51 (r11.map uv), blkE P12 51 (r12.map uv)] wy7 from HM.out.put 1 rfl _ hg hb)
          clear hb hg
          refine hK.out _ _ (((HM.out.erase 0).erase 0)) (fun hHeld => ?_)
          clear hK K
          (try simp only [Act.put])
          refine wpAnyH_done (by kernel_rfl) ?_ _
          go_wp2_with fail
          go_meet
          exact ⟨P11, P12, r11, r12, rfl, rfl, hr11, vr11, hr12, vr12, Nat.le_trans (HB.out.2.2.2.2.2.2.2.2.2.2) (MemE.low HM.out.1 0 _ rfl), Nat.le_trans (HB.out.2.2.2.2.2.2.2.2.2.2) (MemE.low HM.out.1 1 _ rfl), HM.out.blk 0 rfl, HM.out.blk 1 rfl, HKE.out _ HM.out.bel⟩
    · clear hHeld
      go_simp
      replace HM := Lib.hid (show Mem wb [blkE wd1.heap.size 51 (z5)] (wd1.alloc (.cells vZ5 51)) from HM.out.alloc rfl 51 vZ5 (z5) rfl)
      generalize wd1.alloc (.cells vZ5 51) = wy2 at HM ⊢
      generalize wd1.heap.size = P11 at HM ⊢
      refine hK.out _ _ ((HM.out.erase 0)) (fun hHeld => ?_)
      clear hK K
      (try simp only [Act.put, List.setIfInBounds_toArray, List.set_cons_zero, List.set_cons_succ])
      refine step_two 2 7 rfl rfl (by kernel_rfl) (fun K hK => ?_) (fun K hK => ?_)
      · clear hHeld
        go_simp
        refine (T11.out _).mono ?_
        rintro e wy3 ⟨r11, hr11, vr11, rfl, hb⟩
        replace HM := Lib.hid (show Mem wb [blkE P11 51 (z5)] wy3 from HM.out.below hb)
        obtain ⟨c11, hc11⟩ : ∃ c, (r11.map uv).toArray = c := ⟨_, rfl⟩
        rw [hc11]
        clear hb
        go_wp2_with fail
        refine hK.out _ _ ((HM.out.erase 0)) (fun hHeld => ?_)
        clear hK K
        (try simp only [Act.put, List.setIfInBounds_toArray, List.set_cons_zero, List.set_cons_succ])
        refine step_two 5 7 rfl rfl (by kernel_rfl) (fun K hK => ?_) (fun K hK => ?_)
        · clear hHeld
          go_simp
          refine (T12.out _).mono ?_
          rintro e wy4 ⟨r12, hr12, vr12, rfl, hb⟩
          replace HM := Lib.hid (show Mem wb [blkE P11 51 (z5)] wy4 from HM.out.below hb)
          obtain ⟨c12, hc12⟩ : ∃ c, (r12.map uv).toArray = c := ⟨_, rfl⟩
          rw [hc12]
          clear hb
          go_wp2_with fail
          refine hK.out _ _ ((HM.out.erase 0)) (fun hHeld => ?_)
          clear hK K
          (try simp only [Act.put, List.setIfInBounds_toArray, List.set_cons_zero, List.set_cons_succ])
          refine step_one 7 rfl (by kernel_rfl) (fun K hK => ?_)
          clear hHeld
          go_simp
          replace HM := Lib.hid (show Mem wb [blkE wy4.heap.size 51 (z5), blkE P11 51 (z5)] (wy4.alloc (.cells vZ5 51)) from HM.out.alloc rfl 51 vZ5 (z5) rfl)
          generalize wy4.alloc (.cells vZ5 51) = wy5 at HM ⊢
          generalize wy4.heap.size = P12 at HM ⊢
          refine hK.out _ _ (((HM.out.erase 0).erase 0)) (fun hHeld => ?_)
          clear hK K
          (try simp only [Act.put, List.setIfInBounds_toArray, List.set_cons_zero, List.set_cons_succ])
          refine step_one 8 rfl (by kernel_rfl) (fun K hK => ?_)
          clear hHeld
          refine step_store_blk _ rfl 51 (.tmp 11) (.tmp 44) rfl P11 (r11.map uv) rfl (by show Value.agg c11 = _; rw [hc11]) 51 (z5) (HM.out.blk 1 rfl) (cells5 _ hr11.1) (by rw [List.length_map, hr11.1]; rfl) (by intro v hv; obtain ⟨_, _, rfl⟩ := List.mem_map.1 hv; rfl) ?_
          intro wy6 hb hg
          replace HM := Lib.hid (show Mem wb [blkE P12 51 (z5), blkE P11 51 (r11.map uv)] wy6 from HM.out.put 1 rfl _ hg hb)
          clear hb hg
          refine hK.out _ _ (((HM.out.erase 0).erase 0)) (fun hHeld => ?_)
          clear hK K
          (try simp only [Act.put])
          refine step_one 9 rfl (by kernel_rfl) (fun K hK => ?_)
          clear hHeld
          refine step_store_blk _ rfl 51 (.tmp 12) (.tmp 47) rfl P12 (r12.map uv) rfl (by show Value.agg c12 = _; rw [hc12]) 51 (z5) (HM.out.blk 0 rfl) (cells5 _ hr12.1) (by rw [List.length_map, hr12.1]; rfl) (by intro v hv; obtain ⟨_, _, rfl⟩ := List.mem_map.1 hv; rfl) ?_
          intro wy7 hb hg
          replace HM := Lib.hid (show Mem wb [blkE P12 51 (r12.map uv), blkE P11 51 (r11.map uv)] wy7 from HM.out.put 0 rfl _ hg hb)
          clear hb hg
          refine hK.out _ _ (((HM.out.erase 0).erase 0)) (fun hHeld => ?_)
          clear hK K
          (try simp only [Act.put])
          refine wpAnyH_done (by kernel_rfl) ?_ _
          go_wp2_with fail
          go_meet
          exact ⟨P11, P12, r11, r12, rfl, rfl, hr11, vr11, hr12, vr12, Nat.le_trans (HB.out.2.2.2.2.2.2.2.2.2.2) (MemE.low HM.out.1 1 _ rfl), Nat.le_trans (HB.out.2.2.2.2.2.2.2.2.2.2) (MemE.low HM.out.1 0 _ rfl), HM.out.blk 1 rfl, HM.out.blk 0 rfl, HKE.out _ HM.out.bel⟩
        · clear hHeld
          go_simp
          replace HM := Lib.hid (show Mem wb [blkE wy3.heap.size 51 (z5), blkE P11 51 (z5)] (wy3.alloc (.cells vZ5 51)) from HM.out.alloc rfl 51 vZ5 (z5) rfl)
          generalize wy3.alloc (.cells vZ5 51) = wy4 at HM ⊢
          generalize wy3.heap.size = P12 at HM ⊢
          refine hK.out _ _ (((HM.out.erase 0).erase 0)) (fun hHeld => ?_)
          clear hK K
          (try simp only [Act.put, List.setIfInBounds_toArray, List.set_cons_zero, List.set_cons_succ])
          refine step_one 5 rfl (by kernel_rfl) (fun K hK => ?_)
          clear hHeld
          go_simp
          refine (T12.out _).mono ?_
          rintro e wy5 ⟨r12, hr12, vr12, rfl, hb⟩
          replace HM := Lib.hid (show Mem wb [blkE P12 51 (z5), blkE P11 51 (z5)] wy5 from HM.out.below hb)
          obtain ⟨c12, hc12⟩ : ∃ c, (r12.map uv).toArray = c := ⟨_, rfl⟩
          rw [hc12]
          clear hb
          go_wp2_with fail
          refine hK.out _ _ (((HM.out.erase 0).erase 0)) (fun hHeld => ?_)
          clear hK K
          (try simp only [Act.put, List.setIfInBounds_toArray, List.set_cons_zero, List.set_cons_succ])
          refine step_one 8 rfl (by kernel_rfl) (fun K hK => ?_)
          clear hHeld
          refine step_store_blk _ rfl 51 (.tmp 11) (.tmp 44) rfl P11 (r11.map uv) rfl (by show Value.agg c11 = _; rw [hc11]) 51 (z5) (HM.out.blk 1 rfl) (cells5 _ hr11.1) (by rw [List.length_map, hr11.1]; rfl) (by intro v hv; obtain ⟨_, _, rfl⟩ := List.mem_map.1 hv; rfl) ?_
          intro wy6 hb hg
          replace HM := Lib.hid (show Mem wb [blkE P12 51 (z5), blkE P11 51 (r11.map uv)] wy6 from HM.out.put 1 rfl _ hg hb)
          clear hb hg
          refine hK.out _ _ (((HM.out.erase 0).erase 0)) (fun hHeld => ?_)
          clear hK K
          (try simp only [Act.put])
          refine step_one 9 rfl (by kernel_rfl) (fun K hK => ?_)
          clear hHeld
          refine step_store_blk _ rfl 51 (.tmp 12) (.tmp 47) rfl P12 (r12.map uv) rfl (by show Value.agg c12 = _; rw [hc12]) 51 (z5) (HM.out.blk 0 rfl) (cells5 _ hr12.1) (by rw [List.length_map, hr12.1]; rfl) (by intro v hv; obtain ⟨_, _, rfl⟩ := List.mem_map.1 hv; rfl) ?_
          intro wy7 hb hg
          replace HM := Lib.hid (show Mem wb [blkE P12 51 (r12.map uv), blkE P11 51 (r11.map uv)] wy7 from HM.out.put 0 rfl _ hg hb)
          clear hb hg
          refine hK.out _ _ (((HM.out.erase 0).erase 0)) (fun hHeld => ?_)
          clear hK K
          (try simp only [Act.put])
          refine wpAnyH_done (by kernel_rfl) ?_ _
          go_wp2_with fail
          go_meet
          exact ⟨P11, P12, r11, r12, rfl, rfl, hr11, vr11, hr12, vr12, Nat.le_trans (HB.out.2.2.2.2.2.2.2.2.2.2) (MemE.low HM.out.1 1 _ rfl), Nat.le_trans (HB.out.2.2.2.2.2.2.2.2.2.2) (MemE.low HM.out.1 0 _ rfl), HM.out.blk 1 rfl, HM.out.blk 0 rfl, HKE.out _ HM.out.bel⟩
      · clear hHeld
        go_simp
        replace HM := Lib.hid (show Mem wb [blkE wy2.heap.size 51 (z5), blkE P11 51 (z5)] (wy2.alloc (.cells vZ5 51)) from HM.out.alloc rfl 51 vZ5 (z5) rfl)
        generalize wy2.alloc (.cells vZ5 51) = wy3 at HM ⊢
        generalize wy2.heap.size = P12 at HM ⊢
        refine hK.out _ _ (((HM.out.erase 0).erase 0)) (fun hHeld => ?_)
        clear hK K
        (try simp only [Act.put, List.setIfInBounds_toArray, List.set_cons_zero, List.set_cons_succ])
        refine step_one 2 rfl (by kernel_rfl) (fun K hK => ?_)
        clear hHeld
        go_simp
        refine (T11.out _).mono ?_
        rintro e wy4 ⟨r11, hr11, vr11, rfl, hb⟩
        replace HM := Lib.hid (show Mem wb [blkE P12 51 (z5), blkE P11 51 (z5)] wy4 from HM.out.below hb)
        obtain ⟨c11, hc11⟩ : ∃ c, (r11.map uv).toArray = c := ⟨_, rfl⟩
        rw [hc11]
        clear hb
        go_wp2_with fail
        refine hK.out _ _ (((HM.out.erase 0).erase 0)) (fun hHeld => ?_)
        clear hK K
        (try simp only [Act.put, List.setIfInBounds_toArray, List.set_cons_zero, List.set_cons_succ])
        refine step_one 5 rfl (by kernel_rfl) (fun K hK => ?_)
        clear hHeld
        go_simp
        refine (T12.out _).mono ?_
        rintro e wy5 ⟨r12, hr12, vr12, rfl, hb⟩
        replace HM := Lib.hid (show Mem wb [blkE P12 51 (z5), blkE P11 51 (z5)] wy5 from HM.out.below hb)
        obtain ⟨c12, hc12⟩ : ∃ c, (r12.map uv).toArray = c := ⟨_, rfl⟩
        rw [hc12]
        clear hb
        go_wp2_with fail
        refine hK.out _ _ (((HM.out.erase 0).erase 0)) (fun hHeld => ?_)
        clear hK K
        (try simp only [Act.put, List.setIfInBounds_toArray, List.set_cons_zero, List.set_cons_succ])
        refine step_one 8 rfl (by kernel_rfl) (fun K hK => ?_)
        clear hHeld
        refine step_store_blk _ rfl 51 (.tmp 11) (.tmp 44) rfl P11 (r11.map uv) rfl (by show Value.agg c11 = _; rw [hc11]) 51 (z5) (HM.out.blk 1 rfl) (cells5 _ hr11.1) (by rw [List.length_map, hr11.1]; rfl) (by intro v hv; obtain ⟨_, _, rfl⟩ := List.mem_map.1 hv; rfl) ?_
        intro wy6 hb hg
        replace HM := Lib.hid (show Mem wb [blkE P12 51 (z5), blkE P11 51 (r11.map uv)] wy6 from HM.out.put 1 rfl _ hg hb)
        clear hb hg
        refine hK.out _ _ (((HM.out.erase 0).erase 0)) (fun hHeld => ?_)
        clear hK K
        (try simp only [Act.put])
        refine step_one 9 rfl (by kernel_rfl) (fun K hK => ?_)
        clear hHeld
        refine step_store_blk _ rfl 51 (.tmp 12) (.tmp 47) rfl P12 (r12.map uv) rfl (by show Value.agg c12 = _; rw [hc12]) 51 (z5) (HM.out.blk 0 rfl) (cells5 _ hr12.1) (by rw [List.length_map, hr12.1]; rfl) (by intro v hv; obtain ⟨_, _, rfl⟩ := List.mem_map.1 hv; rfl) ?_
        intro wy7 hb hg
        replace HM := Lib.hid (show Mem wb [blkE P12 51 (r12.map uv), blkE P11 51 (r11.map uv)] wy7 from HM.out.put 0 rfl _ hg hb)
        clear hb hg
        refine hK.out _ _ (((HM.out.erase 0).erase 0)) (fun hHeld => ?_)
        clear hK K
        (try simp only [Act.put])
        refine wpAnyH_done (by kernel_rfl) ?_ _
        go_wp2_with fail
        go_meet
        exact ⟨P11, P12, r11, r12, rfl, rfl, hr11, vr11, hr12, vr12, Nat.le_trans (HB.out.2.2.2.2.2.2.2.2.2.2) (MemE.low HM.out.1 1 _ rfl), Nat.le_trans (HB.out.2.2.2.2.2.2.2.2.2.2) (MemE.low HM.out.1 0 _ rfl), HM.out.blk 1 rfl, HM.out.blk 0 rfl, HKE.out _ HM.out.bel⟩
    · clear hHeld
      go_simp
      replace HM := Lib.hid (show Mem wb [blkE wd1.heap.size 51 (z5)] (wd1.alloc (.cells vZ5 51)) from HM.out.alloc rfl 51 vZ5 (z5) rfl)
      generalize wd1.alloc (.cells vZ5 51) = wy2 at HM ⊢
      generalize wd1.heap.size = P12 at HM ⊢
      refine hK.out _ _ ((HM.out.erase 0)) (fun hHeld => ?_)
      clear hK K
      (try simp only [Act.put, List.setIfInBounds_toArray, List.set_cons_zero, List.set_cons_succ])
      refine step_two 2 6 rfl rfl (by kernel_rfl) (fun K hK => ?_) (fun K hK => ?_)
      · clear hHeld
        go_simp
        refine (T11.out _).mono ?_
        rintro e wy3 ⟨r11, hr11, vr11, rfl, hb⟩
        replace HM := Lib.hid (show Mem wb [blkE P12 51 (z5)] wy3 from HM.out.below hb)
        obtain ⟨c11, hc11⟩ : ∃ c, (r11.map uv).toArray = c := ⟨_, rfl⟩
        rw [hc11]
        clear hb
        go_wp2_with fail
        refine hK.out _ _ ((HM.out.erase 0)) (fun hHeld => ?_)
        clear hK K
        (try simp only [Act.put, List.setIfInBounds_toArray, List.set_cons_zero, List.set_cons_succ])
        refine step_two 5 6 rfl rfl (by kernel_rfl) (fun K hK => ?_) (fun K hK => ?_)
        · clear hHeld
          go_simp
          refine (T12.out _).mono ?_
          rintro e wy4 ⟨r12, hr12, vr12, rfl, hb⟩
          replace HM := Lib.hid (show Mem wb [blkE P12 51 (z5)] wy4 from HM.out.below hb)
          obtain ⟨c12, hc12⟩ : ∃ c, (r12.map uv).toArray = c := ⟨_, rfl⟩
          rw [hc12]
          clear hb
          go_wp2_with fail
          refine hK.out _ _ ((HM.out.erase 0)) (fun hHeld => ?_)
          clear hK K
          (try simp only [Act.put, List.setIfInBounds_toArray, List.set_cons_zero, List.set_cons_succ])
          refine step_one 6 rfl (by kernel_rfl) (fun K hK => ?_)
          clear hHeld
          go_simp
          replace HM := Lib.hid (show Mem wb [blkE wy4.heap.size 51 (z5), blkE P12 51 (z5)] (wy4.alloc (.cells vZ5 51)) from HM.out.alloc rfl 51 vZ5 (z5) rfl)
          generalize wy4.alloc (.cells vZ5 51) = wy5 at HM ⊢
          generalize wy4.heap.size = P11 at HM ⊢
          refine hK.out _ _ (((HM.out.erase 0).erase 0)) (fun hHeld => ?_)
          clear hK K
          (try simp only [Act.put, List.setIfInBounds_toArray, List.set_cons_zero, List.set_cons_succ])
          refine step_one 8 rfl (by kernel_rfl) (fun K hK => ?_)
          clear hHeld
          refine step_store_blk _ rfl 51 (.tmp 11) (.tmp 44) rfl P11 (r11.map uv) rfl (by show Value.agg c11 = _; rw [hc11]) 51 (z5) (HM.out.blk 0 rfl) (cells5 _ hr11.1) (by rw [List.length_map, hr11.1]; rfl) (by intro v hv; obtain ⟨_, _, rfl⟩ := List.mem_map.1 hv; rfl) ?_
          intro wy6 hb hg
          replace HM := Lib.hid (show Mem wb [blkE P11 51 (r11.map uv), blkE P12 51 (z5)] wy6 from HM.out.put 0 rfl _ hg hb)
          clear hb hg
          refine hK.out _ _ (((HM.out.erase 0).erase 0)) (fun hHeld => ?_)
          clear hK K
          (try simp only [Act.put])
          refine step_one 9 rfl (by kernel_rfl) (fun K hK => ?_)
          clear hHeld
          refine step_store_blk _ rfl 51 (.tmp 12) (.tmp 47) rfl P12 (r12.map uv) rfl (by show Value.agg c12 = _; rw [hc12]) 51 (z5) (HM.out.blk 1 rfl) (cells5 _ hr12.1) (by rw [List.length_map, hr12.1]; rfl) (by intro v hv; obtain ⟨_, _, rfl⟩ := List.mem_map.1 hv; rfl) ?_
          intro wy7 hb hg
          replace HM := Lib.hid (show Mem wb [blkE P11 51 (r11.map uv), blkE P12 51 (r12.map uv)] wy7 from HM.out.put 1 rfl _ hg hb)
          clear hb hg
          refine hK.out _ _ (((HM.out.erase 0).erase 0)) (fun hHeld => ?_)
          clear hK K
          (try simp only [Act.put])
          refine wpAnyH_done (by kernel_rfl) ?_ _
          go_wp2_with fail
          go_meet
          exact ⟨P11, P12, r11, r12, rfl, rfl, hr11, vr11, hr12, vr12, Nat.le_trans (HB.out.2.2.2.2.2.2.2.2.2.2) (MemE.low HM.out.1 0 _ rfl), Nat.le_trans (HB.out.2.2.2.2.2.2.2.2.2.2) (MemE.low HM.out.1 1 _ rfl), HM.out.blk 0 rfl, HM.out.blk 1 rfl, HKE.out _ HM.out.bel⟩
        · clear hHeld
          go_simp
          replace HM := Lib.hid (show Mem wb [blkE wy3.heap.size 51 (z5), blkE P12 51 (z5)] (wy3.alloc (.cells vZ5 51)) from HM.out.alloc rfl 51 vZ5 (z5) rfl)
          generalize wy3.alloc (.cells vZ5 51) = wy4 at HM ⊢
          generalize wy3.heap.size = P11 at HM ⊢
          refine hK.out _ _ (((HM.out.erase 0).erase 0)) (fun hHeld => ?_)
          clear hK K
          (try simp only [Act.put, List.setIfInBounds_toArray, List.set_cons_zero, List.set_cons_succ])
          refine step_one 5 rfl (by kernel_rfl) (fun K hK => ?_)
          clear hHeld
          go_simp
          refine (T12.out _).mono ?_
          rintro e wy5 ⟨r12, hr12, vr12, rfl, hb⟩
          replace HM := Lib.hid (show Mem wb [blkE P11 51 (z5), blkE P12 51 (z5)] wy5 from HM.out.below hb)
          obtain ⟨c12, hc12⟩ : ∃ c, (r12.map uv).toArray = c := ⟨_, rfl⟩
          rw [hc12]
          clear hb
          go_wp2_with fail
          refine hK.out _ _ (((HM.out.erase 0).erase 0)) (fun hHeld => ?_)
          clear hK K
          (try simp only [Act.put, List.setIfInBounds_toArray, List.set_cons_zero, List.set_cons_succ])
          refine step_one 8 rfl (by kernel_rfl) (fun K hK => ?_)
          clear hHeld
          refine step_store_blk _ rfl 51 (.tmp 11) (.tmp 44) rfl P11 (r11.map uv) rfl (by show Value.agg c11 = _; rw [hc11]) 51 (z5) (HM.out.blk 0 rfl) (cells5 _ hr11.1) (by rw [List.length_map, hr11.1]; rfl) (by intro v hv; obtain ⟨_, _, rfl⟩ := List.mem_map.1 hv; rfl) ?_
          intro wy6 hb hg
          replace HM := Lib.hid (show Mem wb [blkE P11 51 (r11.map uv), blkE P12 51 (z5)] wy6 from HM.out.put 0 rfl _ hg hb)
          clear hb hg
          refine hK.out _ _ (((HM.out.erase 0).erase 0)) (fun hHeld => ?_)
          clear hK K
          (try simp only [Act.put])
          refine step_one 9 rfl (by kernel_rfl) (fun K hK => ?_)
          clear hHeld
          refine step_store_blk _ rfl 51 (.tmp 12) (.tmp 47) rfl P12 (r12.map uv) rfl (by show Value.agg c12 = _; rw [hc12]) 51 (z5) (HM.out.blk 1 rfl) (cells5 _ hr12.1) (by rw [List.length_map, hr12.1]; rfl) (by intro v hv; obtain ⟨_, _, rfl⟩ := List.mem_map.1 hv; rfl) ?_
          intro wy7 hb hg
          replace HM := Lib.hid (show Mem wb [blkE P11 51 (r11.map uv), blkE P12 51 (r12.map uv)] wy7 from HM.out.put 1 rfl _ hg hb)
          clear hb hg
          refine hK.out _ _ (((HM.out.erase 0).erase 0)) (fun hHeld => ?_)
          clear hK K
          (try simp only [Act.put])
          refine wpAnyH_done (by kernel_rfl) ?_ _
          go_wp2_with fail
          go_meet
          exact ⟨P11, P12, r11, r12, rfl, rfl, hr11, vr11, hr12, vr12, Nat.le_trans (HB.out.2.2.2.2.2.2.2.2.2.2) (MemE.low HM.out.1 0 _ rfl), Nat.le_trans (HB.out.2.2.2.2.2.2.2.2.2.2) (MemE.low HM.out.1 1 _ rfl), HM.out.blk 0 rfl, HM.out.blk 1 rfl, HKE.out _ HM.out.bel⟩
      · clear hHeld
        go_simp
        replace HM := Lib.hid (show Mem wb [blkE wy2.heap.size 51 (z5), blkE P12 51 (z5)] (wy2.alloc (.cells vZ5 51)) from HM.out.alloc rfl 51 vZ5 (z5) rfl)
        generalize wy2.alloc (.cells vZ5 51) = wy3 at HM ⊢
        generalize wy2.heap.size = P11 at HM ⊢
        refine hK.out _ _ (((HM.out.erase 0).erase 0)) (fun hHeld => ?_)
        clear hK K
        (try simp only [Act.put, List.setIfInBounds_toArray, List.set_cons_zero, List.set_cons_succ])
        refine step_one 2 rfl (by kernel_rfl) (fun K hK => ?_)
        clear hHeld
        go_simp
        refine (T11.out _).mono ?_
        rintro e wy4 ⟨r11, hr11, vr11, rfl, hb⟩
        replace HM := Lib.hid (show Mem wb [blkE P11 51 (z5), blkE P12 51 (z5)] wy4 from HM.out.below hb)
        obtain ⟨c11, hc11⟩ : ∃ c, (r11.map uv).toArray = c := ⟨_, rfl⟩
        rw [hc11]
        clear hb
        go_wp2_with fail
        refine hK.out _ _ (((HM.out.erase 0).erase 0)) (fun hHeld => ?_)
        clear hK K
        (try simp only [Act.put, List.setIfInBounds_toArray, List.set_cons_zero, List.set_cons_succ])
        refine step_one 5 rfl (by kernel_rfl) (fun K hK => ?_)
        clear hHeld
        go_simp
        refine (T12.out _).mono ?_
        rintro e wy5 ⟨r12, hr12, vr12, rfl, hb⟩
        replace HM := Lib.hid (show Mem wb [blkE P11 51 (z5), blkE P12 51 (z5)] wy5 from HM.out.below hb)
        obtain ⟨c12, hc12⟩ : ∃ c, (r12.map uv).toArray = c := ⟨_, rfl⟩
        rw [hc12]
        clear hb
        go_wp2_with fail
        refine hK.out _ _ (((HM.out.erase 0).erase 0)) (fun hHeld => ?_)
        clear hK K
        (try simp only [Act.put, List.setIfInBounds_toArray, List.set_cons_zero, List.set_cons_succ])
        refine step_one 8 rfl (by kernel_rfl) (fun K hK => ?_)
        clear hHeld
        refine step_store_blk _ rfl 51 (.tmp 11) (.tmp 44) rfl P11 (r11.map uv) rfl (by show Value.agg c11 = _; rw [hc11]) 51 (z5) (HM.out.blk 0 rfl) (cells5 _ hr11.1) (by rw [List.length_map, hr11.1]; rfl) (by intro v hv; obtain ⟨_, _, rfl⟩ := List.mem_map.1 hv; rfl) ?_
        intro wy6 hb hg
        replace HM := Lib.hid (show Mem wb [blkE P11 51 (r11.map uv), blkE P12 51 (z5)] wy6 from HM.out.put 0 rfl _ hg hb)
        clear hb hg
        refine hK.out _ _ (((HM.out.erase 0).erase 0)) (fun hHeld => ?_)
        clear hK K
        (try simp only [Act.put])
        refine step_one 9 rfl (by kernel_rfl) (fun K hK => ?_)
        clear hHeld
        refine step_store_blk _ rfl 51 (.tmp 12) (.tmp 47) rfl P12 (r12.map uv) rfl (by show Value.agg c12 = _; rw [hc12]) 51 (z5) (HM.out.blk 1 rfl) (cells5 _ hr12.1) (by rw [List.length_map, hr12.1]; rfl) (by intro v hv; obtain ⟨_, _, rfl⟩ := List.mem_map.1 hv; rfl) ?_
        intro wy7 hb hg
        replace HM := Lib.hid (show Mem wb [blkE P11 51 (r11.map uv), blkE P12 51 (r12.map uv)] wy7 from HM.out.put 1 rfl _ hg hb)
        clear hb hg
        refine hK.out _ _ (((HM.out.erase 0).erase 0)) (fun hHeld => ?_)
        clear hK K
        (try simp only [Act.put])
        refine wpAnyH_done (by kernel_rfl) ?_ _
        go_wp2_with fail
        go_meet
        exact ⟨P11, P12, r11, r12, rfl, rfl, hr11, vr11, hr12, vr12, Nat.le_trans (HB.out.2.2.2.2.2.2.2.2.2.2) (MemE.low HM.out.1 0 _ rfl), Nat.le_trans (HB.out.2.2.2.2.2.2.2.2.2.2) (MemE.low HM.out.1 1 _ rfl), HM.out.blk 0 rfl, HM.out.blk 1 rfl, HKE.out _ HM.out.bel⟩
  case rest =>
  clear HB
  revert wc
  intro wb hcut
  obtain ⟨P11, P12, r11, r12, rfl, rfl, hr11, vr11, hr12, vr12, hP11, hP12, hcut⟩ := hcut
  have HB := Lib.hid hcut
  have HP11 := Lib.hid (And.intro hP11 hP12)
  clear hcut hP11 hP12
  obtain ⟨c11, hc11⟩ : ∃ c, (r11.map uv).toArray = c := ⟨_, rfl⟩
  obtain ⟨c12, hc12⟩ : ∃ c, (r12.map uv).toArray = c := ⟨_, rfl⟩
  have HR11 := Lib.hid (And.intro hc11 (And.intro hr11 vr11))
  have HR12 := Lib.hid (And.intro hc12 (And.intro hr12 vr12))
  clear hc11 hc12 hr11 vr11 hr12 vr12
  have Cle := fun W : World => sub_any r9 r10 HR9.out.2.1 HR10.out.2.1 W
  have Fle : LooseN (subN r9 r10) := subN_loose r9 r10 HR9.out.2.1 HR10.out.2.1
  have Qle : Cu.fq (val (subN r9 r10) : Int) = ((Cu.fq (val x2 : Int) + Cu.fq (val z2 : Int)) * (Cu.fq (val x2 : Int) + Cu.fq (val z2 : Int)) - (Cu.fq (val x2 : Int) - Cu.fq (val z2 : Int)) * (Cu.fq (val x2 : Int) - Cu.fq (val z2 : Int))) := by rw [subN_fq r9 r10 HR10.out.2.1, HR9.out.2.2, HR10.out.2.2]
  generalize subN r9 r10 = le at Cle Fle Qle
  obtain ⟨cle, hcle⟩ : ∃ c, (le.map uv).toArray = c := ⟨_, rfl⟩
  rw [HR9.out.1, HR10.out.1, hcle] at Cle
  have Hle := Lib.hid (And.intro hcle (And.intro Fle Qle))
  have Kle := Lib.hid Cle
  clear Cle Fle Qle hcle
  have HM := Lib.hid (Mem.nil wb)
  go_wp2_with (first | (refine wpList_load_blk rfl 51 (.tmp 9) rfl P9 rfl 51 (r9.map uv) (HB.out.2.2.1) 5 49 Try.underlying51 (cells5 r9 HR9.out.2.1.1) ?_; rw [HR9.out.1]) | (refine wpList_load_blk rfl 51 (.tmp 10) rfl P10 rfl 51 (r10.map uv) (HB.out.2.2.2.1) 5 49 Try.underlying51 (cells5 r10 HR10.out.2.1.1) ?_; rw [HR10.out.1]))
  refine (Kle.out _).mono ?_
  rintro e w3 ⟨rfl, hb⟩
  replace HM := Lib.hid (show Mem wb [] w3 from HM.out.below hb)
  clear hb
  have HA := Lib.hid (show Mem wb [blkE w3.heap.size 51 (z5)] (w3.alloc (.cells #[.int .u64 0, .int .u64 0, .int .u64 0, .int .u64 0, .int .u64 0] 51)) from HM.out.alloc rfl 51 #[.int .u64 0, .int .u64 0, .int .u64 0, .int .u64 0, .int .u64 0] (z5) rfl)
  go_upto_region 6 with (refine wpList_store_blk rfl 51 (.tmp 13) (.tmp 50) rfl w3.heap.size (le.map uv) rfl (by show Value.agg cle = _; rw [Hle.out.1]) 51 (z5) (HA.out.blk 0 rfl) (cells5 le Hle.out.2.1.1) (len5 Hle.out.2.1.1 rfl) (uv_one _) ?_; intro w4 hb9 hg9)
  (try simp only [Act.put])
  replace HM := Lib.hid (show Mem wb [blkE w3.heap.size 51 (le.map uv)] w4 from HA.out.put 0 rfl _ hg9 hb9)
  clear HA hb9 hg9
  generalize w3.heap.size = P13 at HM ⊢
  have HP13 := Lib.hid (show w.heap.size + 3 ≤ P13 from Nat.le_trans (HB.out.2.2.2.2.2.2.2.2.2.2.2.2) (MemE.low HM.out.1 0 _ rfl))
  have HB2 := Lib.hid (show Blk w4 P13 51 (le.map uv) ∧ Blk w4 P11 51 (r11.map uv) ∧ Blk w4 P12 51 (r12.map uv) ∧ Blk w4 P9 51 (r9.map uv) ∧ Blk w4 P10 51 (r10.map uv) ∧ Blk w4 P7 51 (lc.map uv) ∧ Blk w4 P8 51 (ld.map uv) ∧ Blk w4 P5 51 (la.map uv) ∧ Blk w4 P6 51 (lb.map uv) ∧ Blk w4 w.heap.size 54 (rungV x2 z2 x3 z3) ∧ Blk w4 (w.heap.size + 1) 51 (x1.map uv) ∧ Blk w4 (w.heap.size + 1 + 1) 54 (zr) ∧ Below w.heap.size w w4 ∧ w.heap.size + 3 ≤ w4.heap.size from ⟨HM.out.blk 0 rfl, (HB.out.1).below HM.out.bel (HB.out.1).lt, (HB.out.2.1).below HM.out.bel (HB.out.2.1).lt, (HB.out.2.2.1).below HM.out.bel (HB.out.2.2.1).lt, (HB.out.2.2.2.1).below HM.out.bel (HB.out.2.2.2.1).lt, (HB.out.2.2.2.2.1).below HM.out.bel (HB.out.2.2.2.2.1).lt, (HB.out.2.2.2.2.2.1).below HM.out.bel (HB.out.2.2.2.2.2.1).lt, (HB.out.2.2.2.2.2.2.1).below HM.out.bel (HB.out.2.2.2.2.2.2.1).lt, (HB.out.2.2.2.2.2.2.2.1).below HM.out.bel (HB.out.2.2.2.2.2.2.2.1).lt, (HB.out.2.2.2.2.2.2.2.2.1).below HM.out.bel (HB.out.2.2.2.2.2.2.2.2.1).lt, (HB.out.2.2.2.2.2.2.2.2.2.1).below HM.out.bel (HB.out.2.2.2.2.2.2.2.2.2.1).lt, (HB.out.2.2.2.2.2.2.2.2.2.2.1).below HM.out.bel (HB.out.2.2.2.2.2.2.2.2.2.2.1).lt, (HB.out.2.2.2.2.2.2.2.2.2.2.2.1).trans (HM.out.bel.mono (HB.out.2.2.2.2.2.2.2.2.2.2.2.1).size), Nat.le_trans (HB.out.2.2.2.2.2.2.2.2.2.2.2.2) HM.out.size⟩)
  clear HB HM
  have HB := HB2
  clear HB2
  revert w4
  intro wb HB
  have Cls := fun W : World => add_any r11 r12 HR11.out.2.1 HR12.out.2.1 W
  have Fls : LooseN (addN r11 r12) := addN_loose r11 r12 HR11.out.2.1 HR12.out.2.1
  have Qls : Cu.fq (val (addN r11 r12) : Int) = ((Cu.fq (val x3 : Int) - Cu.fq (val z3 : Int)) * (Cu.fq (val x2 : Int) + Cu.fq (val z2 : Int)) + (Cu.fq (val x3 : Int) + Cu.fq (val z3 : Int)) * (Cu.fq (val x2 : Int) - Cu.fq (val z2 : Int))) := by rw [addN_fq r11 r12 (HR11.out.2.1).1, HR11.out.2.2, HR12.out.2.2]
  generalize addN r11 r12 = ls at Cls Fls Qls
  obtain ⟨cls, hcls⟩ : ∃ c, (ls.map uv).toArray = c := ⟨_, rfl⟩
  rw [HR11.out.1, HR12.out.1, hcls] at Cls
  have Hls := Lib.hid (And.intro hcls (And.intro Fls Qls))
  have Kls := Lib.hid Cls
  clear Cls Fls Qls hcls
  have Clt := fun W : World => sub_any r11 r12 HR11.out.2.1 HR12.out.2.1 W
  have Flt : LooseN (subN r11 r12) := subN_loose r11 r12 HR11.out.2.1 HR12.out.2.1
  have Qlt : Cu.fq (val (subN r11 r12) : Int) = ((Cu.fq (val x3 : Int) - Cu.fq (val z3 : Int)) * (Cu.fq (val x2 : Int) + Cu.fq (val z2 : Int)) - (Cu.fq (val x3 : Int) + Cu.fq (val z3 : Int)) * (Cu.fq (val x2 : Int) - Cu.fq (val z2 : Int))) := by rw [subN_fq r11 r12 HR12.out.2.1, HR11.out.2.2, HR12.out.2.2]
  generalize subN r11 r12 = lt at Clt Flt Qlt
  obtain ⟨clt, hclt⟩ : ∃ c, (lt.map uv).toArray = c := ⟨_, rfl⟩
  rw [HR11.out.1, HR12.out.1, hclt] at Clt
  have Hlt := Lib.hid (And.intro hclt (And.intro Flt Qlt))
  have Klt := Lib.hid Clt
  clear Clt Flt Qlt hclt
  go_cut [14, 15] (fun p q wx => ∃ P14 P15, p = .pointer (some ⟨P14, 0, none⟩) ∧ q = .pointer (some ⟨P15, 0, none⟩) ∧ w.heap.size + 3 ≤ P14 ∧ w.heap.size + 3 ≤ P15 ∧ Blk wx P14 51 (ls.map uv) ∧ Blk wx P15 51 (lt.map uv) ∧ Blk wx P13 51 (le.map uv) ∧ Blk wx P11 51 (r11.map uv) ∧ Blk wx P12 51 (r12.map uv) ∧ Blk wx P9 51 (r9.map uv) ∧ Blk wx P10 51 (r10.map uv) ∧ Blk wx P7 51 (lc.map uv) ∧ Blk wx P8 51 (ld.map uv) ∧ Blk wx P5 51 (la.map uv) ∧ Blk wx P6 51 (lb.map uv) ∧ Blk wx w.heap.size 54 (rungV x2 z2 x3 z3) ∧ Blk wx (w.heap.size + 1) 51 (x1.map uv) ∧ Blk wx (w.heap.size + 1 + 1) 54 (zr) ∧ Below w.heap.size w wx ∧ w.heap.size + 3 ≤ wx.heap.size)
  case first =>
    have HM := Lib.hid (Mem.nil wb)
    have HKE := Lib.hid (show ∀ W, Below wb.heap.size wb W → Blk W P13 51 (le.map uv) ∧ Blk W P11 51 (r11.map uv) ∧ Blk W P12 51 (r12.map uv) ∧ Blk W P9 51 (r9.map uv) ∧ Blk W P10 51 (r10.map uv) ∧ Blk W P7 51 (lc.map uv) ∧ Blk W P8 51 (ld.map uv) ∧ Blk W P5 51 (la.map uv) ∧ Blk W P6 51 (lb.map uv) ∧ Blk W w.heap.size 54 (rungV x2 z2 x3 z3) ∧ Blk W (w.heap.size + 1) 51 (x1.map uv) ∧ Blk W (w.heap.size + 1 + 1) 54 (zr) ∧ Below w.heap.size w W ∧ w.heap.size + 3 ≤ W.heap.size from fun W hW => ⟨(HB.out.1).below hW (HB.out.1).lt, (HB.out.2.1).below hW (HB.out.2.1).lt, (HB.out.2.2.1).below hW (HB.out.2.2.1).lt, (HB.out.2.2.2.1).below hW (HB.out.2.2.2.1).lt, (HB.out.2.2.2.2.1).below hW (HB.out.2.2.2.2.1).lt, (HB.out.2.2.2.2.2.1).below hW (HB.out.2.2.2.2.2.1).lt, (HB.out.2.2.2.2.2.2.1).below hW (HB.out.2.2.2.2.2.2.1).lt, (HB.out.2.2.2.2.2.2.2.1).below hW (HB.out.2.2.2.2.2.2.2.1).lt, (HB.out.2.2.2.2.2.2.2.2.1).below hW (HB.out.2.2.2.2.2.2.2.2.1).lt, (HB.out.2.2.2.2.2.2.2.2.2.1).below hW (HB.out.2.2.2.2.2.2.2.2.2.1).lt, (HB.out.2.2.2.2.2.2.2.2.2.2.1).below hW (HB.out.2.2.2.2.2.2.2.2.2.2.1).lt, (HB.out.2.2.2.2.2.2.2.2.2.2.2.1).below hW (HB.out.2.2.2.2.2.2.2.2.2.2.2.1).lt, (HB.out.2.2.2.2.2.2.2.2.2.2.2.2.1).trans (hW.mono (HB.out.2.2.2.2.2.2.2.2.2.2.2.2.1).size), Nat.le_trans (HB.out.2.2.2.2.2.2.2.2.2.2.2.2.2) hW.size⟩)
    refine wp_region_held_drew (S := fun W' => Mem wb [] W') (by kernel_rfl) (HM.out.drew) (fun hHeld => ?_)
    replace HM := Lib.hid HM.out.drew
    generalize wb.drew = wd1 at HM hHeld ⊢
    refine take_first (v := .agg c11) 0 rfl (by kernel_rfl) (by kernel_rfl) (by kernel_rfl) (fun _ _ _ h => h) (by rw [← HR11.out.1]; exact yields_load_blk (by rfl) 51 (.tmp 11) rfl P11 rfl 51 (r11.map uv) (fun w' hb => (HB.out.2.1).below hb.bel (HB.out.2.1).lt) 5 49 Try.underlying51 (cells5 r11 HR11.out.2.1.1)) (by assumption) ?_
    (try simp only [Act.put, List.setIfInBounds_toArray, List.set_cons_zero, List.set_cons_succ])
    refine take_first (v := .agg c12) 1 rfl (by kernel_rfl) (by kernel_rfl) (by kernel_rfl) (fun _ _ _ h => h) (by rw [← HR12.out.1]; exact yields_load_blk (by rfl) 51 (.tmp 12) rfl P12 rfl 51 (r12.map uv) (fun w' hb => (HB.out.2.2.1).below hb.bel (HB.out.2.2.1).lt) 5 49 Try.underlying51 (cells5 r12 HR12.out.2.1.1)) (by assumption) ?_
    (try simp only [Act.put, List.setIfInBounds_toArray, List.set_cons_zero, List.set_cons_succ])
    refine take_first (v := .agg c11) 3 rfl (by kernel_rfl) (by kernel_rfl) (by kernel_rfl) (fun _ _ _ h => h) (by rw [← HR11.out.1]; exact yields_load_blk (by rfl) 51 (.tmp 11) rfl P11 rfl 51 (r11.map uv) (fun w' hb => (HB.out.2.1).below hb.bel (HB.out.2.1).lt) 5 49 Try.underlying51 (cells5 r11 HR11.out.2.1.1)) (by assumption) ?_
    (try simp only [Act.put, List.setIfInBounds_toArray, List.set_cons_zero, List.set_cons_succ])
    refine take_first (v := .agg c12) 4 rfl (by kernel_rfl) (by kernel_rfl) (by kernel_rfl) (fun _ _ _ h => h) (by rw [← HR12.out.1]; exact yields_load_blk (by rfl) 51 (.tmp 12) rfl P12 rfl 51 (r12.map uv) (fun w' hb => (HB.out.2.2.1).below hb.bel (HB.out.2.2.1).lt) 5 49 Try.underlying51 (cells5 r12 HR12.out.2.1.1)) (by assumption) ?_
    (try simp only [Act.put, List.setIfInBounds_toArray, List.set_cons_zero, List.set_cons_succ])
    refine step_three 2 6 7 rfl rfl rfl (by kernel_rfl) (fun K hK => ?_) (fun K hK => ?_) (fun K hK => ?_)
    · clear hHeld
      go_simp
      refine (Kls.out _).mono ?_
      rintro e wy2 ⟨rfl, hb⟩
      replace HM := Lib.hid (show Mem wb [] wy2 from HM.out.below hb)
      clear hb
      go_wp2_with fail
      refine hK.out _ _ (HM.out) (fun hHeld => ?_)
      clear hK K
      (try simp only [Act.put, List.setIfInBounds_toArray, List.set_cons_zero, List.set_cons_succ])
      refine step_three 5 6 7 rfl rfl rfl (by kernel_rfl) (fun K hK => ?_) (fun K hK => ?_) (fun K hK => ?_)
      · clear hHeld
        go_simp
        refine (Klt.out _).mono ?_
        rintro e wy3 ⟨rfl, hb⟩
        replace HM := Lib.hid (show Mem wb [] wy3 from HM.out.below hb)
        clear hb
        go_wp2_with fail
        refine hK.out _ _ (HM.out) (fun hHeld => ?_)
        clear hK K
        (try simp only [Act.put, List.setIfInBounds_toArray, List.set_cons_zero, List.set_cons_succ])
        refine step_two 6 7 rfl rfl (by kernel_rfl) (fun K hK => ?_) (fun K hK => ?_)
        · clear hHeld
          go_simp
          replace HM := Lib.hid (show Mem wb [blkE wy3.heap.size 51 (z5)] (wy3.alloc (.cells vZ5 51)) from HM.out.alloc rfl 51 vZ5 (z5) rfl)
          generalize wy3.alloc (.cells vZ5 51) = wy4 at HM ⊢
          generalize wy3.heap.size = P14 at HM ⊢
          refine hK.out _ _ ((HM.out.erase 0)) (fun hHeld => ?_)
          clear hK K
          (try simp only [Act.put, List.setIfInBounds_toArray, List.set_cons_zero, List.set_cons_succ])
          refine step_one 7 rfl (by kernel_rfl) (fun K hK => ?_)
          clear hHeld
          go_simp
          replace HM := Lib.hid (show Mem wb [blkE wy4.heap.size 51 (z5), blkE P14 51 (z5)] (wy4.alloc (.cells vZ5 51)) from HM.out.alloc rfl 51 vZ5 (z5) rfl)
          generalize wy4.alloc (.cells vZ5 51) = wy5 at HM ⊢
          generalize wy4.heap.size = P15 at HM ⊢
          refine hK.out _ _ (((HM.out.erase 0).erase 0)) (fun hHeld => ?_)
          clear hK K
          (try simp only [Act.put, List.setIfInBounds_toArray, List.set_cons_zero, List.set_cons_succ])
          refine step_one 8 rfl (by kernel_rfl) (fun K hK => ?_)
          clear hHeld
          refine step_store_blk _ rfl 51 (.tmp 14) (.tmp 53) rfl P14 (ls.map uv) rfl (by show Value.agg cls = _; rw [Hls.out.1]) 51 (z5) (HM.out.blk 1 rfl) (cells5 _ Hls.out.2.1.1) (by rw [List.length_map, Hls.out.2.1.1]; rfl) (by intro v hv; obtain ⟨_, _, rfl⟩ := List.mem_map.1 hv; rfl) ?_
          intro wy6 hb hg
          replace HM := Lib.hid (show Mem wb [blkE P15 51 (z5), blkE P14 51 (ls.map uv)] wy6 from HM.out.put 1 rfl _ hg hb)
          clear hb hg
          refine hK.out _ _ (((HM.out.erase 0).erase 0)) (fun hHeld => ?_)
          clear hK K
          (try simp only [Act.put])
          refine step_one 9 rfl (by kernel_rfl) (fun K hK => ?_)
          clear hHeld
          refine step_store_blk _ rfl 51 (.tmp 15) (.tmp 56) rfl P15 (lt.map uv) rfl (by show Value.agg clt = _; rw [Hlt.out.1]) 51 (z5) (HM.out.blk 0 rfl) (cells5 _ Hlt.out.2.1.1) (by rw [List.length_map, Hlt.out.2.1.1]; rfl) (by intro v hv; obtain ⟨_, _, rfl⟩ := List.mem_map.1 hv; rfl) ?_
          intro wy7 hb hg
          replace HM := Lib.hid (show Mem wb [blkE P15 51 (lt.map uv), blkE P14 51 (ls.map uv)] wy7 from HM.out.put 0 rfl _ hg hb)
          clear hb hg
          refine hK.out _ _ (((HM.out.erase 0).erase 0)) (fun hHeld => ?_)
          clear hK K
          (try simp only [Act.put])
          refine wpAnyH_done (by kernel_rfl) ?_ _
          go_wp2_with fail
          go_meet
          exact ⟨P14, P15, rfl, rfl, Nat.le_trans (HB.out.2.2.2.2.2.2.2.2.2.2.2.2.2) (MemE.low HM.out.1 1 _ rfl), Nat.le_trans (HB.out.2.2.2.2.2.2.2.2.2.2.2.2.2) (MemE.low HM.out.1 0 _ rfl), HM.out.blk 1 rfl, HM.out.blk 0 rfl, HKE.out _ HM.out.bel⟩
        · clear hHeld
          go_simp
          replace HM := Lib.hid (show Mem wb [blkE wy3.heap.size 51 (z5)] (wy3.alloc (.cells vZ5 51)) from HM.out.alloc rfl 51 vZ5 (z5) rfl)
          generalize wy3.alloc (.cells vZ5 51) = wy4 at HM ⊢
          generalize wy3.heap.size = P15 at HM ⊢
          refine hK.out _ _ ((HM.out.erase 0)) (fun hHeld => ?_)
          clear hK K
          (try simp only [Act.put, List.setIfInBounds_toArray, List.set_cons_zero, List.set_cons_succ])
          refine step_one 6 rfl (by kernel_rfl) (fun K hK => ?_)
          clear hHeld
          go_simp
          replace HM := Lib.hid (show Mem wb [blkE wy4.heap.size 51 (z5), blkE P15 51 (z5)] (wy4.alloc (.cells vZ5 51)) from HM.out.alloc rfl 51 vZ5 (z5) rfl)
          generalize wy4.alloc (.cells vZ5 51) = wy5 at HM ⊢
          generalize wy4.heap.size = P14 at HM ⊢
          refine hK.out _ _ (((HM.out.erase 0).erase 0)) (fun hHeld => ?_)
          clear hK K
          (try simp only [Act.put, List.setIfInBounds_toArray, List.set_cons_zero, List.set_cons_succ])
          refine step_one 8 rfl (by kernel_rfl) (fun K hK => ?_)
          clear hHeld
          refine step_store_blk _ rfl 51 (.tmp 14) (.tmp 53) rfl P14 (ls.map uv) rfl (by show Value.agg cls = _; rw [Hls.out.1]) 51 (z5) (HM.out.blk 0 rfl) (cells5 _ Hls.out.2.1.1) (by rw [List.length_map, Hls.out.2.1.1]; rfl) (by intro v hv; obtain ⟨_, _, rfl⟩ := List.mem_map.1 hv; rfl) ?_
          intro wy6 hb hg
          replace HM := Lib.hid (show Mem wb [blkE P14 51 (ls.map uv), blkE P15 51 (z5)] wy6 from HM.out.put 0 rfl _ hg hb)
          clear hb hg
          refine hK.out _ _ (((HM.out.erase 0).erase 0)) (fun hHeld => ?_)
          clear hK K
          (try simp only [Act.put])
          refine step_one 9 rfl (by kernel_rfl) (fun K hK => ?_)
          clear hHeld
          refine step_store_blk _ rfl 51 (.tmp 15) (.tmp 56) rfl P15 (lt.map uv) rfl (by show Value.agg clt = _; rw [Hlt.out.1]) 51 (z5) (HM.out.blk 1 rfl) (cells5 _ Hlt.out.2.1.1) (by rw [List.length_map, Hlt.out.2.1.1]; rfl) (by intro v hv; obtain ⟨_, _, rfl⟩ := List.mem_map.1 hv; rfl) ?_
          intro wy7 hb hg
          replace HM := Lib.hid (show Mem wb [blkE P14 51 (ls.map uv), blkE P15 51 (lt.map uv)] wy7 from HM.out.put 1 rfl _ hg hb)
          clear hb hg
          refine hK.out _ _ (((HM.out.erase 0).erase 0)) (fun hHeld => ?_)
          clear hK K
          (try simp only [Act.put])
          refine wpAnyH_done (by kernel_rfl) ?_ _
          go_wp2_with fail
          go_meet
          exact ⟨P14, P15, rfl, rfl, Nat.le_trans (HB.out.2.2.2.2.2.2.2.2.2.2.2.2.2) (MemE.low HM.out.1 0 _ rfl), Nat.le_trans (HB.out.2.2.2.2.2.2.2.2.2.2.2.2.2) (MemE.low HM.out.1 1 _ rfl), HM.out.blk 0 rfl, HM.out.blk 1 rfl, HKE.out _ HM.out.bel⟩
      · clear hHeld
        go_simp
        replace HM := Lib.hid (show Mem wb [blkE wy2.heap.size 51 (z5)] (wy2.alloc (.cells vZ5 51)) from HM.out.alloc rfl 51 vZ5 (z5) rfl)
        generalize wy2.alloc (.cells vZ5 51) = wy3 at HM ⊢
        generalize wy2.heap.size = P14 at HM ⊢
        refine hK.out _ _ ((HM.out.erase 0)) (fun hHeld => ?_)
        clear hK K
        (try simp only [Act.put, List.setIfInBounds_toArray, List.set_cons_zero, List.set_cons_succ])
        refine step_two 5 7 rfl rfl (by kernel_rfl) (fun K hK => ?_) (fun K hK => ?_)
        · clear hHeld
          go_simp
          refine (Klt.out _).mono ?_
          rintro e wy4 ⟨rfl, hb⟩
          replace HM := Lib.hid (show Mem wb [blkE P14 51 (z5)] wy4 from HM.out.below hb)
          clear hb
          go_wp2_with fail
          refine hK.out _ _ ((HM.out.erase 0)) (fun hHeld => ?_)
          clear hK K
          (try simp only [Act.put, List.setIfInBounds_toArray, List.set_cons_zero, List.set_cons_succ])
          refine step_one 7 rfl (by kernel_rfl) (fun K hK => ?_)
          clear hHeld
          go_simp
          replace HM := Lib.hid (show Mem wb [blkE wy4.heap.size 51 (z5), blkE P14 51 (z5)] (wy4.alloc (.cells vZ5 51)) from HM.out.alloc rfl 51 vZ5 (z5) rfl)
          generalize wy4.alloc (.cells vZ5 51) = wy5 at HM ⊢
          generalize wy4.heap.size = P15 at HM ⊢
          refine hK.out _ _ (((HM.out.erase 0).erase 0)) (fun hHeld => ?_)
          clear hK K
          (try simp only [Act.put, List.setIfInBounds_toArray, List.set_cons_zero, List.set_cons_succ])
          refine step_one 8 rfl (by kernel_rfl) (fun K hK => ?_)
          clear hHeld
          refine step_store_blk _ rfl 51 (.tmp 14) (.tmp 53) rfl P14 (ls.map uv) rfl (by show Value.agg cls = _; rw [Hls.out.1]) 51 (z5) (HM.out.blk 1 rfl) (cells5 _ Hls.out.2.1.1) (by rw [List.length_map, Hls.out.2.1.1]; rfl) (by intro v hv; obtain ⟨_, _, rfl⟩ := List.mem_map.1 hv; rfl) ?_
          intro wy6 hb hg
          replace HM := Lib.hid (show Mem wb [blkE P15 51 (z5), blkE P14 51 (ls.map uv)] wy6 from HM.out.put 1 rfl _ hg hb)
          clear hb hg
          refine hK.out _ _ (((HM.out.erase 0).erase 0)) (fun hHeld => ?_)
          clear hK K
          (try simp only [Act.put])
          refine step_one 9 rfl (by kernel_rfl) (fun K hK => ?_)
          clear hHeld
          refine step_store_blk _ rfl 51 (.tmp 15) (.tmp 56) rfl P15 (lt.map uv) rfl (by show Value.agg clt = _; rw [Hlt.out.1]) 51 (z5) (HM.out.blk 0 rfl) (cells5 _ Hlt.out.2.1.1) (by rw [List.length_map, Hlt.out.2.1.1]; rfl) (by intro v hv; obtain ⟨_, _, rfl⟩ := List.mem_map.1 hv; rfl) ?_
          intro wy7 hb hg
          replace HM := Lib.hid (show Mem wb [blkE P15 51 (lt.map uv), blkE P14 51 (ls.map uv)] wy7 from HM.out.put 0 rfl _ hg hb)
          clear hb hg
          refine hK.out _ _ (((HM.out.erase 0).erase 0)) (fun hHeld => ?_)
          clear hK K
          (try simp only [Act.put])
          refine wpAnyH_done (by kernel_rfl) ?_ _
          go_wp2_with fail
          go_meet
          exact ⟨P14, P15, rfl, rfl, Nat.le_trans (HB.out.2.2.2.2.2.2.2.2.2.2.2.2.2) (MemE.low HM.out.1 1 _ rfl), Nat.le_trans (HB.out.2.2.2.2.2.2.2.2.2.2.2.2.2) (MemE.low HM.out.1 0 _ rfl), HM.out.blk 1 rfl, HM.out.blk 0 rfl, HKE.out _ HM.out.bel⟩
        · clear hHeld
          go_simp
          replace HM := Lib.hid (show Mem wb [blkE wy3.heap.size 51 (z5), blkE P14 51 (z5)] (wy3.alloc (.cells vZ5 51)) from HM.out.alloc rfl 51 vZ5 (z5) rfl)
          generalize wy3.alloc (.cells vZ5 51) = wy4 at HM ⊢
          generalize wy3.heap.size = P15 at HM ⊢
          refine hK.out _ _ (((HM.out.erase 0).erase 0)) (fun hHeld => ?_)
          clear hK K
          (try simp only [Act.put, List.setIfInBounds_toArray, List.set_cons_zero, List.set_cons_succ])
          refine step_one 5 rfl (by kernel_rfl) (fun K hK => ?_)
          clear hHeld
          go_simp
          refine (Klt.out _).mono ?_
          rintro e wy5 ⟨rfl, hb⟩
          replace HM := Lib.hid (show Mem wb [blkE P15 51 (z5), blkE P14 51 (z5)] wy5 from HM.out.below hb)
          clear hb
          go_wp2_with fail
          refine hK.out _ _ (((HM.out.erase 0).erase 0)) (fun hHeld => ?_)
          clear hK K
          (try simp only [Act.put, List.setIfInBounds_toArray, List.set_cons_zero, List.set_cons_succ])
          refine step_one 8 rfl (by kernel_rfl) (fun K hK => ?_)
          clear hHeld
          refine step_store_blk _ rfl 51 (.tmp 14) (.tmp 53) rfl P14 (ls.map uv) rfl (by show Value.agg cls = _; rw [Hls.out.1]) 51 (z5) (HM.out.blk 1 rfl) (cells5 _ Hls.out.2.1.1) (by rw [List.length_map, Hls.out.2.1.1]; rfl) (by intro v hv; obtain ⟨_, _, rfl⟩ := List.mem_map.1 hv; rfl) ?_
          intro wy6 hb hg
          replace HM := Lib.hid (show Mem wb [blkE P15 51 (z5), blkE P14 51 (ls.map uv)] wy6 from HM.out.put 1 rfl _ hg hb)
          clear hb hg
          refine hK.out _ _ (((HM.out.erase 0).erase 0)) (fun hHeld => ?_)
          clear hK K
          (try simp only [Act.put])
          refine step_one 9 rfl (by kernel_rfl) (fun K hK => ?_)
          clear hHeld
          refine step_store_blk _ rfl 51 (.tmp 15) (.tmp 56) rfl P15 (lt.map uv) rfl (by show Value.agg clt = _; rw [Hlt.out.1]) 51 (z5) (HM.out.blk 0 rfl) (cells5 _ Hlt.out.2.1.1) (by rw [List.length_map, Hlt.out.2.1.1]; rfl) (by intro v hv; obtain ⟨_, _, rfl⟩ := List.mem_map.1 hv; rfl) ?_
          intro wy7 hb hg
          replace HM := Lib.hid (show Mem wb [blkE P15 51 (lt.map uv), blkE P14 51 (ls.map uv)] wy7 from HM.out.put 0 rfl _ hg hb)
          clear hb hg
          refine hK.out _ _ (((HM.out.erase 0).erase 0)) (fun hHeld => ?_)
          clear hK K
          (try simp only [Act.put])
          refine wpAnyH_done (by kernel_rfl) ?_ _
          go_wp2_with fail
          go_meet
          exact ⟨P14, P15, rfl, rfl, Nat.le_trans (HB.out.2.2.2.2.2.2.2.2.2.2.2.2.2) (MemE.low HM.out.1 1 _ rfl), Nat.le_trans (HB.out.2.2.2.2.2.2.2.2.2.2.2.2.2) (MemE.low HM.out.1 0 _ rfl), HM.out.blk 1 rfl, HM.out.blk 0 rfl, HKE.out _ HM.out.bel⟩
      · clear hHeld
        go_simp
        replace HM := Lib.hid (show Mem wb [blkE wy2.heap.size 51 (z5)] (wy2.alloc (.cells vZ5 51)) from HM.out.alloc rfl 51 vZ5 (z5) rfl)
        generalize wy2.alloc (.cells vZ5 51) = wy3 at HM ⊢
        generalize wy2.heap.size = P15 at HM ⊢
        refine hK.out _ _ ((HM.out.erase 0)) (fun hHeld => ?_)
        clear hK K
        (try simp only [Act.put, List.setIfInBounds_toArray, List.set_cons_zero, List.set_cons_succ])
        refine step_two 5 6 rfl rfl (by kernel_rfl) (fun K hK => ?_) (fun K hK => ?_)
        · clear hHeld
          go_simp
          refine (Klt.out _).mono ?_
          rintro e wy4 ⟨rfl, hb⟩
          replace HM := Lib.hid (show Mem wb [blkE P15 51 (z5)] wy4 from HM.out.below hb)
          clear hb
          go_wp2_with fail
          refine hK.out _ _ ((HM.out.erase 0)) (fun hHeld => ?_)
          clear hK K
          (try simp only [Act.put, List.setIfInBounds_toArray, List.set_cons_zero, List.set_cons_succ])
          refine step_one 6 rfl (by kernel_rfl) (fun K hK => ?_)
          clear hHeld
          go_simp
          replace HM := Lib.hid (show Mem wb [blkE wy4.heap.size 51 (z5), blkE P15 51 (z5)] (wy4.alloc (.cells vZ5 51)) from HM.out.alloc rfl 51 vZ5 (z5) rfl)
          generalize wy4.alloc (.cells vZ5 51) = wy5 at HM ⊢
          generalize wy4.heap.size = P14 at HM ⊢
          refine hK.out _ _ (((HM.out.erase 0).erase 0)) (fun hHeld => ?_)
          clear hK K
          (try simp only [Act.put, List.setIfInBounds_toArray, List.set_cons_zero, List.set_cons_succ])
          refine step_one 8 rfl (by kernel_rfl) (fun K hK => ?_)
          clear hHeld
          refine step_store_blk _ rfl 51 (.tmp 14) (.tmp 53) rfl P14 (ls.map uv) rfl (by show Value.agg cls = _; rw [Hls.out.1]) 51 (z5) (HM.out.blk 0 rfl) (cells5 _ Hls.out.2.1.1) (by rw [List.length_map, Hls.out.2.1.1]; rfl) (by intro v hv; obtain ⟨_, _, rfl⟩ := List.mem_map.1 hv; rfl) ?_
          intro wy6 hb hg
          replace HM := Lib.hid (show Mem wb [blkE P14 51 (ls.map uv), blkE P15 51 (z5)] wy6 from HM.out.put 0 rfl _ hg hb)
          clear hb hg
          refine hK.out _ _ (((HM.out.erase 0).erase 0)) (fun hHeld => ?_)
          clear hK K
          (try simp only [Act.put])
          refine step_one 9 rfl (by kernel_rfl) (fun K hK => ?_)
          clear hHeld
          refine step_store_blk _ rfl 51 (.tmp 15) (.tmp 56) rfl P15 (lt.map uv) rfl (by show Value.agg clt = _; rw [Hlt.out.1]) 51 (z5) (HM.out.blk 1 rfl) (cells5 _ Hlt.out.2.1.1) (by rw [List.length_map, Hlt.out.2.1.1]; rfl) (by intro v hv; obtain ⟨_, _, rfl⟩ := List.mem_map.1 hv; rfl) ?_
          intro wy7 hb hg
          replace HM := Lib.hid (show Mem wb [blkE P14 51 (ls.map uv), blkE P15 51 (lt.map uv)] wy7 from HM.out.put 1 rfl _ hg hb)
          clear hb hg
          refine hK.out _ _ (((HM.out.erase 0).erase 0)) (fun hHeld => ?_)
          clear hK K
          (try simp only [Act.put])
          refine wpAnyH_done (by kernel_rfl) ?_ _
          go_wp2_with fail
          go_meet
          exact ⟨P14, P15, rfl, rfl, Nat.le_trans (HB.out.2.2.2.2.2.2.2.2.2.2.2.2.2) (MemE.low HM.out.1 0 _ rfl), Nat.le_trans (HB.out.2.2.2.2.2.2.2.2.2.2.2.2.2) (MemE.low HM.out.1 1 _ rfl), HM.out.blk 0 rfl, HM.out.blk 1 rfl, HKE.out _ HM.out.bel⟩
        · clear hHeld
          go_simp
          replace HM := Lib.hid (show Mem wb [blkE wy3.heap.size 51 (z5), blkE P15 51 (z5)] (wy3.alloc (.cells vZ5 51)) from HM.out.alloc rfl 51 vZ5 (z5) rfl)
          generalize wy3.alloc (.cells vZ5 51) = wy4 at HM ⊢
          generalize wy3.heap.size = P14 at HM ⊢
          refine hK.out _ _ (((HM.out.erase 0).erase 0)) (fun hHeld => ?_)
          clear hK K
          (try simp only [Act.put, List.setIfInBounds_toArray, List.set_cons_zero, List.set_cons_succ])
          refine step_one 5 rfl (by kernel_rfl) (fun K hK => ?_)
          clear hHeld
          go_simp
          refine (Klt.out _).mono ?_
          rintro e wy5 ⟨rfl, hb⟩
          replace HM := Lib.hid (show Mem wb [blkE P14 51 (z5), blkE P15 51 (z5)] wy5 from HM.out.below hb)
          clear hb
          go_wp2_with fail
          refine hK.out _ _ (((HM.out.erase 0).erase 0)) (fun hHeld => ?_)
          clear hK K
          (try simp only [Act.put, List.setIfInBounds_toArray, List.set_cons_zero, List.set_cons_succ])
          refine step_one 8 rfl (by kernel_rfl) (fun K hK => ?_)
          clear hHeld
          refine step_store_blk _ rfl 51 (.tmp 14) (.tmp 53) rfl P14 (ls.map uv) rfl (by show Value.agg cls = _; rw [Hls.out.1]) 51 (z5) (HM.out.blk 0 rfl) (cells5 _ Hls.out.2.1.1) (by rw [List.length_map, Hls.out.2.1.1]; rfl) (by intro v hv; obtain ⟨_, _, rfl⟩ := List.mem_map.1 hv; rfl) ?_
          intro wy6 hb hg
          replace HM := Lib.hid (show Mem wb [blkE P14 51 (ls.map uv), blkE P15 51 (z5)] wy6 from HM.out.put 0 rfl _ hg hb)
          clear hb hg
          refine hK.out _ _ (((HM.out.erase 0).erase 0)) (fun hHeld => ?_)
          clear hK K
          (try simp only [Act.put])
          refine step_one 9 rfl (by kernel_rfl) (fun K hK => ?_)
          clear hHeld
          refine step_store_blk _ rfl 51 (.tmp 15) (.tmp 56) rfl P15 (lt.map uv) rfl (by show Value.agg clt = _; rw [Hlt.out.1]) 51 (z5) (HM.out.blk 1 rfl) (cells5 _ Hlt.out.2.1.1) (by rw [List.length_map, Hlt.out.2.1.1]; rfl) (by intro v hv; obtain ⟨_, _, rfl⟩ := List.mem_map.1 hv; rfl) ?_
          intro wy7 hb hg
          replace HM := Lib.hid (show Mem wb [blkE P14 51 (ls.map uv), blkE P15 51 (lt.map uv)] wy7 from HM.out.put 1 rfl _ hg hb)
          clear hb hg
          refine hK.out _ _ (((HM.out.erase 0).erase 0)) (fun hHeld => ?_)
          clear hK K
          (try simp only [Act.put])
          refine wpAnyH_done (by kernel_rfl) ?_ _
          go_wp2_with fail
          go_meet
          exact ⟨P14, P15, rfl, rfl, Nat.le_trans (HB.out.2.2.2.2.2.2.2.2.2.2.2.2.2) (MemE.low HM.out.1 0 _ rfl), Nat.le_trans (HB.out.2.2.2.2.2.2.2.2.2.2.2.2.2) (MemE.low HM.out.1 1 _ rfl), HM.out.blk 0 rfl, HM.out.blk 1 rfl, HKE.out _ HM.out.bel⟩
    · clear hHeld
      go_simp
      replace HM := Lib.hid (show Mem wb [blkE wd1.heap.size 51 (z5)] (wd1.alloc (.cells vZ5 51)) from HM.out.alloc rfl 51 vZ5 (z5) rfl)
      generalize wd1.alloc (.cells vZ5 51) = wy2 at HM ⊢
      generalize wd1.heap.size = P14 at HM ⊢
      refine hK.out _ _ ((HM.out.erase 0)) (fun hHeld => ?_)
      clear hK K
      (try simp only [Act.put, List.setIfInBounds_toArray, List.set_cons_zero, List.set_cons_succ])
      refine step_two 2 7 rfl rfl (by kernel_rfl) (fun K hK => ?_) (fun K hK => ?_)
      · clear hHeld
        go_simp
        refine (Kls.out _).mono ?_
        rintro e wy3 ⟨rfl, hb⟩
        replace HM := Lib.hid (show Mem wb [blkE P14 51 (z5)] wy3 from HM.out.below hb)
        clear hb
        go_wp2_with fail
        refine hK.out _ _ ((HM.out.erase 0)) (fun hHeld => ?_)
        clear hK K
        (try simp only [Act.put, List.setIfInBounds_toArray, List.set_cons_zero, List.set_cons_succ])
        refine step_two 5 7 rfl rfl (by kernel_rfl) (fun K hK => ?_) (fun K hK => ?_)
        · clear hHeld
          go_simp
          refine (Klt.out _).mono ?_
          rintro e wy4 ⟨rfl, hb⟩
          replace HM := Lib.hid (show Mem wb [blkE P14 51 (z5)] wy4 from HM.out.below hb)
          clear hb
          go_wp2_with fail
          refine hK.out _ _ ((HM.out.erase 0)) (fun hHeld => ?_)
          clear hK K
          (try simp only [Act.put, List.setIfInBounds_toArray, List.set_cons_zero, List.set_cons_succ])
          refine step_one 7 rfl (by kernel_rfl) (fun K hK => ?_)
          clear hHeld
          go_simp
          replace HM := Lib.hid (show Mem wb [blkE wy4.heap.size 51 (z5), blkE P14 51 (z5)] (wy4.alloc (.cells vZ5 51)) from HM.out.alloc rfl 51 vZ5 (z5) rfl)
          generalize wy4.alloc (.cells vZ5 51) = wy5 at HM ⊢
          generalize wy4.heap.size = P15 at HM ⊢
          refine hK.out _ _ (((HM.out.erase 0).erase 0)) (fun hHeld => ?_)
          clear hK K
          (try simp only [Act.put, List.setIfInBounds_toArray, List.set_cons_zero, List.set_cons_succ])
          refine step_one 8 rfl (by kernel_rfl) (fun K hK => ?_)
          clear hHeld
          refine step_store_blk _ rfl 51 (.tmp 14) (.tmp 53) rfl P14 (ls.map uv) rfl (by show Value.agg cls = _; rw [Hls.out.1]) 51 (z5) (HM.out.blk 1 rfl) (cells5 _ Hls.out.2.1.1) (by rw [List.length_map, Hls.out.2.1.1]; rfl) (by intro v hv; obtain ⟨_, _, rfl⟩ := List.mem_map.1 hv; rfl) ?_
          intro wy6 hb hg
          replace HM := Lib.hid (show Mem wb [blkE P15 51 (z5), blkE P14 51 (ls.map uv)] wy6 from HM.out.put 1 rfl _ hg hb)
          clear hb hg
          refine hK.out _ _ (((HM.out.erase 0).erase 0)) (fun hHeld => ?_)
          clear hK K
          (try simp only [Act.put])
          refine step_one 9 rfl (by kernel_rfl) (fun K hK => ?_)
          clear hHeld
          refine step_store_blk _ rfl 51 (.tmp 15) (.tmp 56) rfl P15 (lt.map uv) rfl (by show Value.agg clt = _; rw [Hlt.out.1]) 51 (z5) (HM.out.blk 0 rfl) (cells5 _ Hlt.out.2.1.1) (by rw [List.length_map, Hlt.out.2.1.1]; rfl) (by intro v hv; obtain ⟨_, _, rfl⟩ := List.mem_map.1 hv; rfl) ?_
          intro wy7 hb hg
          replace HM := Lib.hid (show Mem wb [blkE P15 51 (lt.map uv), blkE P14 51 (ls.map uv)] wy7 from HM.out.put 0 rfl _ hg hb)
          clear hb hg
          refine hK.out _ _ (((HM.out.erase 0).erase 0)) (fun hHeld => ?_)
          clear hK K
          (try simp only [Act.put])
          refine wpAnyH_done (by kernel_rfl) ?_ _
          go_wp2_with fail
          go_meet
          exact ⟨P14, P15, rfl, rfl, Nat.le_trans (HB.out.2.2.2.2.2.2.2.2.2.2.2.2.2) (MemE.low HM.out.1 1 _ rfl), Nat.le_trans (HB.out.2.2.2.2.2.2.2.2.2.2.2.2.2) (MemE.low HM.out.1 0 _ rfl), HM.out.blk 1 rfl, HM.out.blk 0 rfl, HKE.out _ HM.out.bel⟩
        · clear hHeld
          go_simp
          replace HM := Lib.hid (show Mem wb [blkE wy3.heap.size 51 (z5), blkE P14 51 (z5)] (wy3.alloc (.cells vZ5 51)) from HM.out.alloc rfl 51 vZ5 (z5) rfl)
          generalize wy3.alloc (.cells vZ5 51) = wy4 at HM ⊢
          generalize wy3.heap.size = P15 at HM ⊢
          refine hK.out _ _ (((HM.out.erase 0).erase 0)) (fun hHeld => ?_)
          clear hK K
          (try simp only [Act.put, List.setIfInBounds_toArray, List.set_cons_zero, List.set_cons_succ])
          refine step_one 5 rfl (by kernel_rfl) (fun K hK => ?_)
          clear hHeld
          go_simp
          refine (Klt.out _).mono ?_
          rintro e wy5 ⟨rfl, hb⟩
          replace HM := Lib.hid (show Mem wb [blkE P15 51 (z5), blkE P14 51 (z5)] wy5 from HM.out.below hb)
          clear hb
          go_wp2_with fail
          refine hK.out _ _ (((HM.out.erase 0).erase 0)) (fun hHeld => ?_)
          clear hK K
          (try simp only [Act.put, List.setIfInBounds_toArray, List.set_cons_zero, List.set_cons_succ])
          refine step_one 8 rfl (by kernel_rfl) (fun K hK => ?_)
          clear hHeld
          refine step_store_blk _ rfl 51 (.tmp 14) (.tmp 53) rfl P14 (ls.map uv) rfl (by show Value.agg cls = _; rw [Hls.out.1]) 51 (z5) (HM.out.blk 1 rfl) (cells5 _ Hls.out.2.1.1) (by rw [List.length_map, Hls.out.2.1.1]; rfl) (by intro v hv; obtain ⟨_, _, rfl⟩ := List.mem_map.1 hv; rfl) ?_
          intro wy6 hb hg
          replace HM := Lib.hid (show Mem wb [blkE P15 51 (z5), blkE P14 51 (ls.map uv)] wy6 from HM.out.put 1 rfl _ hg hb)
          clear hb hg
          refine hK.out _ _ (((HM.out.erase 0).erase 0)) (fun hHeld => ?_)
          clear hK K
          (try simp only [Act.put])
          refine step_one 9 rfl (by kernel_rfl) (fun K hK => ?_)
          clear hHeld
          refine step_store_blk _ rfl 51 (.tmp 15) (.tmp 56) rfl P15 (lt.map uv) rfl (by show Value.agg clt = _; rw [Hlt.out.1]) 51 (z5) (HM.out.blk 0 rfl) (cells5 _ Hlt.out.2.1.1) (by rw [List.length_map, Hlt.out.2.1.1]; rfl) (by intro v hv; obtain ⟨_, _, rfl⟩ := List.mem_map.1 hv; rfl) ?_
          intro wy7 hb hg
          replace HM := Lib.hid (show Mem wb [blkE P15 51 (lt.map uv), blkE P14 51 (ls.map uv)] wy7 from HM.out.put 0 rfl _ hg hb)
          clear hb hg
          refine hK.out _ _ (((HM.out.erase 0).erase 0)) (fun hHeld => ?_)
          clear hK K
          (try simp only [Act.put])
          refine wpAnyH_done (by kernel_rfl) ?_ _
          go_wp2_with fail
          go_meet
          exact ⟨P14, P15, rfl, rfl, Nat.le_trans (HB.out.2.2.2.2.2.2.2.2.2.2.2.2.2) (MemE.low HM.out.1 1 _ rfl), Nat.le_trans (HB.out.2.2.2.2.2.2.2.2.2.2.2.2.2) (MemE.low HM.out.1 0 _ rfl), HM.out.blk 1 rfl, HM.out.blk 0 rfl, HKE.out _ HM.out.bel⟩
      · clear hHeld
        go_simp
        replace HM := Lib.hid (show Mem wb [blkE wy2.heap.size 51 (z5), blkE P14 51 (z5)] (wy2.alloc (.cells vZ5 51)) from HM.out.alloc rfl 51 vZ5 (z5) rfl)
        generalize wy2.alloc (.cells vZ5 51) = wy3 at HM ⊢
        generalize wy2.heap.size = P15 at HM ⊢
        refine hK.out _ _ (((HM.out.erase 0).erase 0)) (fun hHeld => ?_)
        clear hK K
        (try simp only [Act.put, List.setIfInBounds_toArray, List.set_cons_zero, List.set_cons_succ])
        refine step_one 2 rfl (by kernel_rfl) (fun K hK => ?_)
        clear hHeld
        go_simp
        refine (Kls.out _).mono ?_
        rintro e wy4 ⟨rfl, hb⟩
        replace HM := Lib.hid (show Mem wb [blkE P15 51 (z5), blkE P14 51 (z5)] wy4 from HM.out.below hb)
        clear hb
        go_wp2_with fail
        refine hK.out _ _ (((HM.out.erase 0).erase 0)) (fun hHeld => ?_)
        clear hK K
        (try simp only [Act.put, List.setIfInBounds_toArray, List.set_cons_zero, List.set_cons_succ])
        refine step_one 5 rfl (by kernel_rfl) (fun K hK => ?_)
        clear hHeld
        go_simp
        refine (Klt.out _).mono ?_
        rintro e wy5 ⟨rfl, hb⟩
        replace HM := Lib.hid (show Mem wb [blkE P15 51 (z5), blkE P14 51 (z5)] wy5 from HM.out.below hb)
        clear hb
        go_wp2_with fail
        refine hK.out _ _ (((HM.out.erase 0).erase 0)) (fun hHeld => ?_)
        clear hK K
        (try simp only [Act.put, List.setIfInBounds_toArray, List.set_cons_zero, List.set_cons_succ])
        refine step_one 8 rfl (by kernel_rfl) (fun K hK => ?_)
        clear hHeld
        refine step_store_blk _ rfl 51 (.tmp 14) (.tmp 53) rfl P14 (ls.map uv) rfl (by show Value.agg cls = _; rw [Hls.out.1]) 51 (z5) (HM.out.blk 1 rfl) (cells5 _ Hls.out.2.1.1) (by rw [List.length_map, Hls.out.2.1.1]; rfl) (by intro v hv; obtain ⟨_, _, rfl⟩ := List.mem_map.1 hv; rfl) ?_
        intro wy6 hb hg
        replace HM := Lib.hid (show Mem wb [blkE P15 51 (z5), blkE P14 51 (ls.map uv)] wy6 from HM.out.put 1 rfl _ hg hb)
        clear hb hg
        refine hK.out _ _ (((HM.out.erase 0).erase 0)) (fun hHeld => ?_)
        clear hK K
        (try simp only [Act.put])
        refine step_one 9 rfl (by kernel_rfl) (fun K hK => ?_)
        clear hHeld
        refine step_store_blk _ rfl 51 (.tmp 15) (.tmp 56) rfl P15 (lt.map uv) rfl (by show Value.agg clt = _; rw [Hlt.out.1]) 51 (z5) (HM.out.blk 0 rfl) (cells5 _ Hlt.out.2.1.1) (by rw [List.length_map, Hlt.out.2.1.1]; rfl) (by intro v hv; obtain ⟨_, _, rfl⟩ := List.mem_map.1 hv; rfl) ?_
        intro wy7 hb hg
        replace HM := Lib.hid (show Mem wb [blkE P15 51 (lt.map uv), blkE P14 51 (ls.map uv)] wy7 from HM.out.put 0 rfl _ hg hb)
        clear hb hg
        refine hK.out _ _ (((HM.out.erase 0).erase 0)) (fun hHeld => ?_)
        clear hK K
        (try simp only [Act.put])
        refine wpAnyH_done (by kernel_rfl) ?_ _
        go_wp2_with fail
        go_meet
        exact ⟨P14, P15, rfl, rfl, Nat.le_trans (HB.out.2.2.2.2.2.2.2.2.2.2.2.2.2) (MemE.low HM.out.1 1 _ rfl), Nat.le_trans (HB.out.2.2.2.2.2.2.2.2.2.2.2.2.2) (MemE.low HM.out.1 0 _ rfl), HM.out.blk 1 rfl, HM.out.blk 0 rfl, HKE.out _ HM.out.bel⟩
    · clear hHeld
      go_simp
      replace HM := Lib.hid (show Mem wb [blkE wd1.heap.size 51 (z5)] (wd1.alloc (.cells vZ5 51)) from HM.out.alloc rfl 51 vZ5 (z5) rfl)
      generalize wd1.alloc (.cells vZ5 51) = wy2 at HM ⊢
      generalize wd1.heap.size = P15 at HM ⊢
      refine hK.out _ _ ((HM.out.erase 0)) (fun hHeld => ?_)
      clear hK K
      (try simp only [Act.put, List.setIfInBounds_toArray, List.set_cons_zero, List.set_cons_succ])
      refine step_two 2 6 rfl rfl (by kernel_rfl) (fun K hK => ?_) (fun K hK => ?_)
      · clear hHeld
        go_simp
        refine (Kls.out _).mono ?_
        rintro e wy3 ⟨rfl, hb⟩
        replace HM := Lib.hid (show Mem wb [blkE P15 51 (z5)] wy3 from HM.out.below hb)
        clear hb
        go_wp2_with fail
        refine hK.out _ _ ((HM.out.erase 0)) (fun hHeld => ?_)
        clear hK K
        (try simp only [Act.put, List.setIfInBounds_toArray, List.set_cons_zero, List.set_cons_succ])
        refine step_two 5 6 rfl rfl (by kernel_rfl) (fun K hK => ?_) (fun K hK => ?_)
        · clear hHeld
          go_simp
          refine (Klt.out _).mono ?_
          rintro e wy4 ⟨rfl, hb⟩
          replace HM := Lib.hid (show Mem wb [blkE P15 51 (z5)] wy4 from HM.out.below hb)
          clear hb
          go_wp2_with fail
          refine hK.out _ _ ((HM.out.erase 0)) (fun hHeld => ?_)
          clear hK K
          (try simp only [Act.put, List.setIfInBounds_toArray, List.set_cons_zero, List.set_cons_succ])
          refine step_one 6 rfl (by kernel_rfl) (fun K hK => ?_)
          clear hHeld
          go_simp
          replace HM := Lib.hid (show Mem wb [blkE wy4.heap.size 51 (z5), blkE P15 51 (z5)] (wy4.alloc (.cells vZ5 51)) from HM.out.alloc rfl 51 vZ5 (z5) rfl)
          generalize wy4.alloc (.cells vZ5 51) = wy5 at HM ⊢
          generalize wy4.heap.size = P14 at HM ⊢
          refine hK.out _ _ (((HM.out.erase 0).erase 0)) (fun hHeld => ?_)
          clear hK K
          (try simp only [Act.put, List.setIfInBounds_toArray, List.set_cons_zero, List.set_cons_succ])
          refine step_one 8 rfl (by kernel_rfl) (fun K hK => ?_)
          clear hHeld
          refine step_store_blk _ rfl 51 (.tmp 14) (.tmp 53) rfl P14 (ls.map uv) rfl (by show Value.agg cls = _; rw [Hls.out.1]) 51 (z5) (HM.out.blk 0 rfl) (cells5 _ Hls.out.2.1.1) (by rw [List.length_map, Hls.out.2.1.1]; rfl) (by intro v hv; obtain ⟨_, _, rfl⟩ := List.mem_map.1 hv; rfl) ?_
          intro wy6 hb hg
          replace HM := Lib.hid (show Mem wb [blkE P14 51 (ls.map uv), blkE P15 51 (z5)] wy6 from HM.out.put 0 rfl _ hg hb)
          clear hb hg
          refine hK.out _ _ (((HM.out.erase 0).erase 0)) (fun hHeld => ?_)
          clear hK K
          (try simp only [Act.put])
          refine step_one 9 rfl (by kernel_rfl) (fun K hK => ?_)
          clear hHeld
          refine step_store_blk _ rfl 51 (.tmp 15) (.tmp 56) rfl P15 (lt.map uv) rfl (by show Value.agg clt = _; rw [Hlt.out.1]) 51 (z5) (HM.out.blk 1 rfl) (cells5 _ Hlt.out.2.1.1) (by rw [List.length_map, Hlt.out.2.1.1]; rfl) (by intro v hv; obtain ⟨_, _, rfl⟩ := List.mem_map.1 hv; rfl) ?_
          intro wy7 hb hg
          replace HM := Lib.hid (show Mem wb [blkE P14 51 (ls.map uv), blkE P15 51 (lt.map uv)] wy7 from HM.out.put 1 rfl _ hg hb)
          clear hb hg
          refine hK.out _ _ (((HM.out.erase 0).erase 0)) (fun hHeld => ?_)
          clear hK K
          (try simp only [Act.put])
          refine wpAnyH_done (by kernel_rfl) ?_ _
          go_wp2_with fail
          go_meet
          exact ⟨P14, P15, rfl, rfl, Nat.le_trans (HB.out.2.2.2.2.2.2.2.2.2.2.2.2.2) (MemE.low HM.out.1 0 _ rfl), Nat.le_trans (HB.out.2.2.2.2.2.2.2.2.2.2.2.2.2) (MemE.low HM.out.1 1 _ rfl), HM.out.blk 0 rfl, HM.out.blk 1 rfl, HKE.out _ HM.out.bel⟩
        · clear hHeld
          go_simp
          replace HM := Lib.hid (show Mem wb [blkE wy3.heap.size 51 (z5), blkE P15 51 (z5)] (wy3.alloc (.cells vZ5 51)) from HM.out.alloc rfl 51 vZ5 (z5) rfl)
          generalize wy3.alloc (.cells vZ5 51) = wy4 at HM ⊢
          generalize wy3.heap.size = P14 at HM ⊢
          refine hK.out _ _ (((HM.out.erase 0).erase 0)) (fun hHeld => ?_)
          clear hK K
          (try simp only [Act.put, List.setIfInBounds_toArray, List.set_cons_zero, List.set_cons_succ])
          refine step_one 5 rfl (by kernel_rfl) (fun K hK => ?_)
          clear hHeld
          go_simp
          refine (Klt.out _).mono ?_
          rintro e wy5 ⟨rfl, hb⟩
          replace HM := Lib.hid (show Mem wb [blkE P14 51 (z5), blkE P15 51 (z5)] wy5 from HM.out.below hb)
          clear hb
          go_wp2_with fail
          refine hK.out _ _ (((HM.out.erase 0).erase 0)) (fun hHeld => ?_)
          clear hK K
          (try simp only [Act.put, List.setIfInBounds_toArray, List.set_cons_zero, List.set_cons_succ])
          refine step_one 8 rfl (by kernel_rfl) (fun K hK => ?_)
          clear hHeld
          refine step_store_blk _ rfl 51 (.tmp 14) (.tmp 53) rfl P14 (ls.map uv) rfl (by show Value.agg cls = _; rw [Hls.out.1]) 51 (z5) (HM.out.blk 0 rfl) (cells5 _ Hls.out.2.1.1) (by rw [List.length_map, Hls.out.2.1.1]; rfl) (by intro v hv; obtain ⟨_, _, rfl⟩ := List.mem_map.1 hv; rfl) ?_
          intro wy6 hb hg
          replace HM := Lib.hid (show Mem wb [blkE P14 51 (ls.map uv), blkE P15 51 (z5)] wy6 from HM.out.put 0 rfl _ hg hb)
          clear hb hg
          refine hK.out _ _ (((HM.out.erase 0).erase 0)) (fun hHeld => ?_)
          clear hK K
          (try simp only [Act.put])
          refine step_one 9 rfl (by kernel_rfl) (fun K hK => ?_)
          clear hHeld
          refine step_store_blk _ rfl 51 (.tmp 15) (.tmp 56) rfl P15 (lt.map uv) rfl (by show Value.agg clt = _; rw [Hlt.out.1]) 51 (z5) (HM.out.blk 1 rfl) (cells5 _ Hlt.out.2.1.1) (by rw [List.length_map, Hlt.out.2.1.1]; rfl) (by intro v hv; obtain ⟨_, _, rfl⟩ := List.mem_map.1 hv; rfl) ?_
          intro wy7 hb hg
          replace HM := Lib.hid (show Mem wb [blkE P14 51 (ls.map uv), blkE P15 51 (lt.map uv)] wy7 from HM.out.put 1 rfl _ hg hb)
          clear hb hg
          refine hK.out _ _ (((HM.out.erase 0).erase 0)) (fun hHeld => ?_)
          clear hK K
          (try simp only [Act.put])
          refine wpAnyH_done (by kernel_rfl) ?_ _
          go_wp2_with fail
          go_meet
          exact ⟨P14, P15, rfl, rfl, Nat.le_trans (HB.out.2.2.2.2.2.2.2.2.2.2.2.2.2) (MemE.low HM.out.1 0 _ rfl), Nat.le_trans (HB.out.2.2.2.2.2.2.2.2.2.2.2.2.2) (MemE.low HM.out.1 1 _ rfl), HM.out.blk 0 rfl, HM.out.blk 1 rfl, HKE.out _ HM.out.bel⟩
      · clear hHeld
        go_simp
        replace HM := Lib.hid (show Mem wb [blkE wy2.heap.size 51 (z5), blkE P15 51 (z5)] (wy2.alloc (.cells vZ5 51)) from HM.out.alloc rfl 51 vZ5 (z5) rfl)
        generalize wy2.alloc (.cells vZ5 51) = wy3 at HM ⊢
        generalize wy2.heap.size = P14 at HM ⊢
        refine hK.out _ _ (((HM.out.erase 0).erase 0)) (fun hHeld => ?_)
        clear hK K
        (try simp only [Act.put, List.setIfInBounds_toArray, List.set_cons_zero, List.set_cons_succ])
        refine step_one 2 rfl (by kernel_rfl) (fun K hK => ?_)
        clear hHeld
        go_simp
        refine (Kls.out _).mono ?_
        rintro e wy4 ⟨rfl, hb⟩
        replace HM := Lib.hid (show Mem wb [blkE P14 51 (z5), blkE P15 51 (z5)] wy4 from HM.out.below hb)
        clear hb
        go_wp2_with fail
        refine hK.out _ _ (((HM.out.erase 0).erase 0)) (fun hHeld => ?_)
        clear hK K
        (try simp only [Act.put, List.setIfInBounds_toArray, List.set_cons_zero, List.set_cons_succ])
        refine step_one 5 rfl (by kernel_rfl) (fun K hK => ?_)
        clear hHeld
        go_simp
        refine (Klt.out _).mono ?_
        rintro e wy5 ⟨rfl, hb⟩
        replace HM := Lib.hid (show Mem wb [blkE P14 51 (z5), blkE P15 51 (z5)] wy5 from HM.out.below hb)
        clear hb
        go_wp2_with fail
        refine hK.out _ _ (((HM.out.erase 0).erase 0)) (fun hHeld => ?_)
        clear hK K
        (try simp only [Act.put, List.setIfInBounds_toArray, List.set_cons_zero, List.set_cons_succ])
        refine step_one 8 rfl (by kernel_rfl) (fun K hK => ?_)
        clear hHeld
        refine step_store_blk _ rfl 51 (.tmp 14) (.tmp 53) rfl P14 (ls.map uv) rfl (by show Value.agg cls = _; rw [Hls.out.1]) 51 (z5) (HM.out.blk 0 rfl) (cells5 _ Hls.out.2.1.1) (by rw [List.length_map, Hls.out.2.1.1]; rfl) (by intro v hv; obtain ⟨_, _, rfl⟩ := List.mem_map.1 hv; rfl) ?_
        intro wy6 hb hg
        replace HM := Lib.hid (show Mem wb [blkE P14 51 (ls.map uv), blkE P15 51 (z5)] wy6 from HM.out.put 0 rfl _ hg hb)
        clear hb hg
        refine hK.out _ _ (((HM.out.erase 0).erase 0)) (fun hHeld => ?_)
        clear hK K
        (try simp only [Act.put])
        refine step_one 9 rfl (by kernel_rfl) (fun K hK => ?_)
        clear hHeld
        refine step_store_blk _ rfl 51 (.tmp 15) (.tmp 56) rfl P15 (lt.map uv) rfl (by show Value.agg clt = _; rw [Hlt.out.1]) 51 (z5) (HM.out.blk 1 rfl) (cells5 _ Hlt.out.2.1.1) (by rw [List.length_map, Hlt.out.2.1.1]; rfl) (by intro v hv; obtain ⟨_, _, rfl⟩ := List.mem_map.1 hv; rfl) ?_
        intro wy7 hb hg
        replace HM := Lib.hid (show Mem wb [blkE P14 51 (ls.map uv), blkE P15 51 (lt.map uv)] wy7 from HM.out.put 1 rfl _ hg hb)
        clear hb hg
        refine hK.out _ _ (((HM.out.erase 0).erase 0)) (fun hHeld => ?_)
        clear hK K
        (try simp only [Act.put])
        refine wpAnyH_done (by kernel_rfl) ?_ _
        go_wp2_with fail
        go_meet
        exact ⟨P14, P15, rfl, rfl, Nat.le_trans (HB.out.2.2.2.2.2.2.2.2.2.2.2.2.2) (MemE.low HM.out.1 0 _ rfl), Nat.le_trans (HB.out.2.2.2.2.2.2.2.2.2.2.2.2.2) (MemE.low HM.out.1 1 _ rfl), HM.out.blk 0 rfl, HM.out.blk 1 rfl, HKE.out _ HM.out.bel⟩
  case rest =>
  clear HB
  revert wc
  intro wb hcut
  obtain ⟨P14, P15, rfl, rfl, hP14, hP15, hcut⟩ := hcut
  have HB := Lib.hid hcut
  have HP14 := Lib.hid (And.intro hP14 hP15)
  clear hcut hP14 hP15
  obtain ⟨ck, hck⟩ : ∃ c, (kL.map uv).toArray = c := ⟨_, rfl⟩
  have HK := Lib.hid (And.intro hck (And.intro kL_loose kL_val))
  clear hck
  have T59 := Lib.hid (show ∀ W : World, Calls Try.prog 30 #[.agg c9, .agg c10] W fun e w' => ∃ r, SmallN r ∧ Cu.fq (val r : Int) = ((Cu.fq (val x2 : Int) + Cu.fq (val z2 : Int)) * (Cu.fq (val x2 : Int) + Cu.fq (val z2 : Int))) * ((Cu.fq (val x2 : Int) - Cu.fq (val z2 : Int)) * (Cu.fq (val x2 : Int) - Cu.fq (val z2 : Int))) ∧ e = .returned (.agg (r.map uv).toArray) ∧ Below W.heap.size W w' from fun W => by
    have h := multiply_ex r9 r10 (SmallN.loose HR9.out.2.1) (SmallN.loose HR10.out.2.1) W
    rw [HR9.out.2.2, HR10.out.2.2, HR9.out.1, HR10.out.1] at h
    exact h)
  have T64 := Lib.hid (show ∀ W : World, Calls Try.prog 30 #[.agg cle, .agg ck] W fun e w' => ∃ r, SmallN r ∧ Cu.fq (val r : Int) = ((Cu.fq (val x2 : Int) + Cu.fq (val z2 : Int)) * (Cu.fq (val x2 : Int) + Cu.fq (val z2 : Int)) - (Cu.fq (val x2 : Int) - Cu.fq (val z2 : Int)) * (Cu.fq (val x2 : Int) - Cu.fq (val z2 : Int))) * Cu.fqC ∧ e = .returned (.agg (r.map uv).toArray) ∧ Below W.heap.size W w' from fun W => by
    have h := multiply_ex le kL Hle.out.2.1 HK.out.2.1 W
    rw [Hle.out.2.2, HK.out.2.2, Hle.out.1, HK.out.1] at h
    exact h)
  have T69 := Lib.hid (show ∀ W : World, Calls Try.prog 30 #[.agg cls, .agg cls] W fun e w' => ∃ r, SmallN r ∧ Cu.fq (val r : Int) = ((Cu.fq (val x3 : Int) - Cu.fq (val z3 : Int)) * (Cu.fq (val x2 : Int) + Cu.fq (val z2 : Int)) + (Cu.fq (val x3 : Int) + Cu.fq (val z3 : Int)) * (Cu.fq (val x2 : Int) - Cu.fq (val z2 : Int))) * ((Cu.fq (val x3 : Int) - Cu.fq (val z3 : Int)) * (Cu.fq (val x2 : Int) + Cu.fq (val z2 : Int)) + (Cu.fq (val x3 : Int) + Cu.fq (val z3 : Int)) * (Cu.fq (val x2 : Int) - Cu.fq (val z2 : Int))) ∧ e = .returned (.agg (r.map uv).toArray) ∧ Below W.heap.size W w' from fun W => by
    have h := multiply_ex ls ls Hls.out.2.1 Hls.out.2.1 W
    rw [Hls.out.2.2, Hls.out.1] at h
    exact h)
  have T73 := Lib.hid (show ∀ W : World, Calls Try.prog 30 #[.agg clt, .agg clt] W fun e w' => ∃ r, SmallN r ∧ Cu.fq (val r : Int) = ((Cu.fq (val x3 : Int) - Cu.fq (val z3 : Int)) * (Cu.fq (val x2 : Int) + Cu.fq (val z2 : Int)) - (Cu.fq (val x3 : Int) + Cu.fq (val z3 : Int)) * (Cu.fq (val x2 : Int) - Cu.fq (val z2 : Int))) * ((Cu.fq (val x3 : Int) - Cu.fq (val z3 : Int)) * (Cu.fq (val x2 : Int) + Cu.fq (val z2 : Int)) - (Cu.fq (val x3 : Int) + Cu.fq (val z3 : Int)) * (Cu.fq (val x2 : Int) - Cu.fq (val z2 : Int))) ∧ e = .returned (.agg (r.map uv).toArray) ∧ Below W.heap.size W w' from fun W => by
    have h := multiply_ex lt lt Hlt.out.2.1 Hlt.out.2.1 W
    rw [Hlt.out.2.2, Hlt.out.1] at h
    exact h)
  go_upto_region 7 with fail
  have HM := Lib.hid (Mem.nil wb)
  refine wp_region_held_drew (S := fun W' => ∀ k, k < wb.heap.size → k ≠ (w.heap.size + 1 + 1) → W'.heap[k]? = wb.heap[k]?) (by kernel_rfl) ((fun k _ _ => rfl)) (fun hHeld => ?_)
  replace HM := Lib.hid HM.out.drew
  generalize wb.drew = wd1 at HM hHeld ⊢
  refine take_first (v := .agg c9) 0 rfl (by kernel_rfl) (by kernel_rfl) (by kernel_rfl) (fun _ _ _ h => h) (by rw [← HR9.out.1]; exact yields_load_blk (by rfl) 51 (.tmp 9) rfl P9 rfl 51 (r9.map uv) (fun w' hb => (hb _ (HB.out.2.2.2.2.2.1).lt (by have := HP9.out.1; omega)).trans (HB.out.2.2.2.2.2.1)) 5 49 Try.underlying51 (cells5 r9 HR9.out.2.1.1)) (by assumption) ?_
  (try simp only [Act.put, List.setIfInBounds_toArray, List.set_cons_zero, List.set_cons_succ])
  refine take_first (v := .agg c10) 1 rfl (by kernel_rfl) (by kernel_rfl) (by kernel_rfl) (fun _ _ _ h => h) (by rw [← HR10.out.1]; exact yields_load_blk (by rfl) 51 (.tmp 10) rfl P10 rfl 51 (r10.map uv) (fun w' hb => (hb _ (HB.out.2.2.2.2.2.2.1).lt (by have := HP9.out.2; omega)).trans (HB.out.2.2.2.2.2.2.1)) 5 49 Try.underlying51 (cells5 r10 HR10.out.2.1.1)) (by assumption) ?_
  (try simp only [Act.put, List.setIfInBounds_toArray, List.set_cons_zero, List.set_cons_succ])
  refine take_first (v := .agg cle) 3 rfl (by kernel_rfl) (by kernel_rfl) (by kernel_rfl) (fun _ _ _ h => h) (by rw [← Hle.out.1]; exact yields_load_blk (by rfl) 51 (.tmp 13) rfl P13 rfl 51 (le.map uv) (fun w' hb => (hb _ (HB.out.2.2.1).lt (by have := HP13.out; omega)).trans (HB.out.2.2.1)) 5 49 Try.underlying51 (cells5 le Hle.out.2.1.1)) (by assumption) ?_
  (try simp only [Act.put, List.setIfInBounds_toArray, List.set_cons_zero, List.set_cons_succ])
  refine take_first (v := .agg c9) 4 rfl (by kernel_rfl) (by kernel_rfl) (by kernel_rfl) (fun _ _ _ h => h) (by rw [← HR9.out.1]; exact yields_load_blk (by rfl) 51 (.tmp 9) rfl P9 rfl 51 (r9.map uv) (fun w' hb => (hb _ (HB.out.2.2.2.2.2.1).lt (by have := HP9.out.1; omega)).trans (HB.out.2.2.2.2.2.1)) 5 49 Try.underlying51 (cells5 r9 HR9.out.2.1.1)) (by assumption) ?_
  (try simp only [Act.put, List.setIfInBounds_toArray, List.set_cons_zero, List.set_cons_succ])
  refine take_first (v := .agg cle) 5 rfl (by kernel_rfl) (by kernel_rfl) (by kernel_rfl) (fun _ _ _ h => h) (by rw [← Hle.out.1]; exact yields_load_blk (by rfl) 51 (.tmp 13) rfl P13 rfl 51 (le.map uv) (fun w' hb => (hb _ (HB.out.2.2.1).lt (by have := HP13.out; omega)).trans (HB.out.2.2.1)) 5 49 Try.underlying51 (cells5 le Hle.out.2.1.1)) (by assumption) ?_
  (try simp only [Act.put, List.setIfInBounds_toArray, List.set_cons_zero, List.set_cons_succ])
  refine take_first (v := .agg ck) 6 rfl (by kernel_rfl) (by kernel_rfl) (by kernel_rfl) (fun _ _ _ h => h) (by rw [← HK.out.1]; exact cu_yields_build (by rfl) 51 [(0, .const (.int .u64 121665))] rfl _ kL_built) (by assumption) ?_
  (try simp only [Act.put, List.setIfInBounds_toArray, List.set_cons_zero, List.set_cons_succ])
  refine take_first (v := .agg cls) 10 rfl (by kernel_rfl) (by kernel_rfl) (by kernel_rfl) (fun _ _ _ h => h) (by rw [← Hls.out.1]; exact yields_load_blk (by rfl) 51 (.tmp 14) rfl P14 rfl 51 (ls.map uv) (fun w' hb => (hb _ (HB.out.1).lt (by have := HP14.out.1; omega)).trans (HB.out.1)) 5 49 Try.underlying51 (cells5 ls Hls.out.2.1.1)) (by assumption) ?_
  (try simp only [Act.put, List.setIfInBounds_toArray, List.set_cons_zero, List.set_cons_succ])
  refine take_first (v := .agg cls) 11 rfl (by kernel_rfl) (by kernel_rfl) (by kernel_rfl) (fun _ _ _ h => h) (by rw [← Hls.out.1]; exact yields_load_blk (by rfl) 51 (.tmp 14) rfl P14 rfl 51 (ls.map uv) (fun w' hb => (hb _ (HB.out.1).lt (by have := HP14.out.1; omega)).trans (HB.out.1)) 5 49 Try.underlying51 (cells5 ls Hls.out.2.1.1)) (by assumption) ?_
  (try simp only [Act.put, List.setIfInBounds_toArray, List.set_cons_zero, List.set_cons_succ])
  refine take_first (v := .agg cx1) 13 rfl (by kernel_rfl) (by kernel_rfl) (by kernel_rfl) (fun _ _ _ h => h) (by rw [← HC.out.2.2.2.2]; exact yields_load_blk (by rfl) 51 (.tmp 3) rfl (w.heap.size + 1) rfl 51 (x1.map uv) (fun w' hb => (hb _ (HB.out.2.2.2.2.2.2.2.2.2.2.2.2.1).lt (by have := HP9.out.1; omega)).trans (HB.out.2.2.2.2.2.2.2.2.2.2.2.2.1)) 5 49 Try.underlying51 (cells5 x1 HL.out.2.2.2.2.1)) (by assumption) ?_
  (try simp only [Act.put, List.setIfInBounds_toArray, List.set_cons_zero, List.set_cons_succ])
  refine take_first (v := .agg clt) 14 rfl (by kernel_rfl) (by kernel_rfl) (by kernel_rfl) (fun _ _ _ h => h) (by rw [← Hlt.out.1]; exact yields_load_blk (by rfl) 51 (.tmp 15) rfl P15 rfl 51 (lt.map uv) (fun w' hb => (hb _ (HB.out.2.1).lt (by have := HP14.out.2; omega)).trans (HB.out.2.1)) 5 49 Try.underlying51 (cells5 lt Hlt.out.2.1.1)) (by assumption) ?_
  (try simp only [Act.put, List.setIfInBounds_toArray, List.set_cons_zero, List.set_cons_succ])
  refine take_first (v := .agg clt) 15 rfl (by kernel_rfl) (by kernel_rfl) (by kernel_rfl) (fun _ _ _ h => h) (by rw [← Hlt.out.1]; exact yields_load_blk (by rfl) 51 (.tmp 15) rfl P15 rfl 51 (lt.map uv) (fun w' hb => (hb _ (HB.out.2.1).lt (by have := HP14.out.2; omega)).trans (HB.out.2.1)) 5 49 Try.underlying51 (cells5 lt Hlt.out.2.1.1)) (by assumption) ?_
  (try simp only [Act.put, List.setIfInBounds_toArray, List.set_cons_zero, List.set_cons_succ])
  refine step_one 2 rfl (by kernel_rfl) (fun K hK => ?_)
  clear hHeld
  go_simp
  refine (T59.out _).mono ?_
  rintro e wy2 ⟨r59, hr59, vr59, rfl, hb⟩
  replace HM := Lib.hid (show Mem wb [] wy2 from HM.out.below hb)
  obtain ⟨c59, hc59⟩ : ∃ c, (r59.map uv).toArray = c := ⟨_, rfl⟩
  rw [hc59]
  clear hb
  go_wp2_with fail
  refine hK.out _ _ (fun k hk _ => HM.out.bel.block k hk) (fun hHeld => ?_)
  clear hK K
  (try simp only [Act.put, List.setIfInBounds_toArray, List.set_cons_zero, List.set_cons_succ])
  refine step_one 7 rfl (by kernel_rfl) (fun K hK => ?_)
  clear hHeld
  go_simp
  refine (T64.out _).mono ?_
  rintro e wy3 ⟨r64, hr64, vr64, rfl, hb⟩
  replace HM := Lib.hid (show Mem wb [] wy3 from HM.out.below hb)
  rw [Cu.fmul_comm ((Cu.fq (val x2 : Int) + Cu.fq (val z2 : Int)) * (Cu.fq (val x2 : Int) + Cu.fq (val z2 : Int)) - (Cu.fq (val x2 : Int) - Cu.fq (val z2 : Int)) * (Cu.fq (val x2 : Int) - Cu.fq (val z2 : Int))) Cu.fqC] at vr64
  obtain ⟨c64, hc64⟩ : ∃ c, (r64.map uv).toArray = c := ⟨_, rfl⟩
  rw [hc64]
  have C65 := fun W : World => add_any r9 r64 HR9.out.2.1 hr64 W
  have F65 : LooseN (addN r9 r64) := addN_loose r9 r64 HR9.out.2.1 hr64
  have Q65 : Cu.fq (val (addN r9 r64) : Int) = ((Cu.fq (val x2 : Int) + Cu.fq (val z2 : Int)) * (Cu.fq (val x2 : Int) + Cu.fq (val z2 : Int)) + Cu.fqC * ((Cu.fq (val x2 : Int) + Cu.fq (val z2 : Int)) * (Cu.fq (val x2 : Int) + Cu.fq (val z2 : Int)) - (Cu.fq (val x2 : Int) - Cu.fq (val z2 : Int)) * (Cu.fq (val x2 : Int) - Cu.fq (val z2 : Int)))) := by rw [addN_fq r9 r64 HR9.out.2.1.1, HR9.out.2.2, vr64]
  generalize addN r9 r64 = lp at C65 F65 Q65
  obtain ⟨clp, hclp⟩ : ∃ c, (lp.map uv).toArray = c := ⟨_, rfl⟩
  rw [HR9.out.1, hc64, hclp] at C65
  have K65 := Lib.hid C65
  have T66 := multiply_ex le lp Hle.out.2.1 F65
  rw [Hle.out.2.2, Q65, Hle.out.1, hclp] at T66
  have K66 := Lib.hid T66
  clear C65 T66 F65 Q65 hclp
  clear hb
  go_wp2_with fail
  refine hK.out _ _ (fun k hk _ => HM.out.bel.block k hk) (fun hHeld => ?_)
  clear hK K
  (try simp only [Act.put, List.setIfInBounds_toArray, List.set_cons_zero, List.set_cons_succ])
  refine step_one 8 rfl (by kernel_rfl) (fun K hK => ?_)
  clear hHeld
  go_simp
  refine (K65.out _).mono ?_
  rintro e wy4 ⟨rfl, hb⟩
  replace HM := Lib.hid (show Mem wb [] wy4 from HM.out.below hb)
  clear hb
  go_wp2_with fail
  refine hK.out _ _ (fun k hk _ => HM.out.bel.block k hk) (fun hHeld => ?_)
  clear hK K
  (try simp only [Act.put, List.setIfInBounds_toArray, List.set_cons_zero, List.set_cons_succ])
  refine step_one 9 rfl (by kernel_rfl) (fun K hK => ?_)
  clear hHeld
  go_simp
  refine (K66.out _).mono ?_
  rintro e wy5 ⟨r66, hr66, vr66, rfl, hb⟩
  replace HM := Lib.hid (show Mem wb [] wy5 from HM.out.below hb)
  obtain ⟨c66, hc66⟩ : ∃ c, (r66.map uv).toArray = c := ⟨_, rfl⟩
  rw [hc66]
  clear hb
  go_wp2_with fail
  refine hK.out _ _ (fun k hk _ => HM.out.bel.block k hk) (fun hHeld => ?_)
  clear hK K
  (try simp only [Act.put, List.setIfInBounds_toArray, List.set_cons_zero, List.set_cons_succ])
  refine step_one 12 rfl (by kernel_rfl) (fun K hK => ?_)
  clear hHeld
  go_simp
  refine (T69.out _).mono ?_
  rintro e wy6 ⟨r69, hr69, vr69, rfl, hb⟩
  replace HM := Lib.hid (show Mem wb [] wy6 from HM.out.below hb)
  obtain ⟨c69, hc69⟩ : ∃ c, (r69.map uv).toArray = c := ⟨_, rfl⟩
  rw [hc69]
  clear hb
  go_wp2_with fail
  refine hK.out _ _ (fun k hk _ => HM.out.bel.block k hk) (fun hHeld => ?_)
  clear hK K
  (try simp only [Act.put, List.setIfInBounds_toArray, List.set_cons_zero, List.set_cons_succ])
  refine step_one 16 rfl (by kernel_rfl) (fun K hK => ?_)
  clear hHeld
  go_simp
  refine (T73.out _).mono ?_
  rintro e wy7 ⟨r73, hr73, vr73, rfl, hb⟩
  replace HM := Lib.hid (show Mem wb [] wy7 from HM.out.below hb)
  obtain ⟨c73, hc73⟩ : ∃ c, (r73.map uv).toArray = c := ⟨_, rfl⟩
  rw [hc73]
  have T74 := multiply_ex x1 r73 HL.out.2.2.2.2.loose hr73.loose
  rw [vr73, HC.out.2.2.2.2, hc73] at T74
  have K74 := Lib.hid T74
  clear T74
  clear hb
  go_wp2_with fail
  refine hK.out _ _ (fun k hk _ => HM.out.bel.block k hk) (fun hHeld => ?_)
  clear hK K
  (try simp only [Act.put, List.setIfInBounds_toArray, List.set_cons_zero, List.set_cons_succ])
  refine step_one 17 rfl (by kernel_rfl) (fun K hK => ?_)
  clear hHeld
  go_simp
  refine (K74.out _).mono ?_
  rintro e wy8 ⟨r74, hr74, vr74, rfl, hb⟩
  replace HM := Lib.hid (show Mem wb [] wy8 from HM.out.below hb)
  obtain ⟨c74, hc74⟩ : ∃ c, (r74.map uv).toArray = c := ⟨_, rfl⟩
  rw [hc74]
  obtain ⟨xr, hxr⟩ : ∃ x, (rungV r59 r66 r69 r74).toArray = x := ⟨_, rfl⟩
  have hbt := built_whole r59 r66 r69 r74 hr59.1 hr66.1 hr69.1 hr74.1
  rw [hc59, hc66, hc69, hc74, hxr] at hbt
  have HX := Lib.hid (And.intro hxr hbt)
  clear hbt hxr
  clear hb
  go_wp2_with fail
  refine hK.out _ _ (fun k hk _ => HM.out.bel.block k hk) (fun hHeld => ?_)
  clear hK K
  (try simp only [Act.put, List.setIfInBounds_toArray, List.set_cons_zero, List.set_cons_succ])
  refine take_first (v := .agg xr) 18 rfl (by kernel_rfl) (by kernel_rfl) (by kernel_rfl) (fun _ _ _ h => h) (cu_yields_build (by rfl) 54 [(0, .tmp 59), (1, .tmp 66), (2, .tmp 69), (3, .tmp 74)] rfl xr HX.out.2) (by assumption) ?_
  (try simp only [Act.put, List.setIfInBounds_toArray, List.set_cons_zero, List.set_cons_succ])
  refine step_one 19 rfl (by kernel_rfl) (fun K hK => ?_)
  clear hHeld
  refine step_store_blk _ rfl 54 (.tmp 4) (.tmp 75) rfl (w.heap.size + 1 + 1) (rungV r59 r66 r69 r74) rfl (by show Value.agg xr = _; rw [HX.out.1]) 54 (zr) ((HB.out.2.2.2.2.2.2.2.2.2.2.2.2.2.1).below HM.out.bel (HB.out.2.2.2.2.2.2.2.2.2.2.2.2.2.1).lt) (rungL _ (rungV_length _ _ _ _ hr59.1 hr66.1 hr69.1 hr74.1)) (by rw [rungV_length _ _ _ _ hr59.1 hr66.1 hr69.1 hr74.1]; rfl) (rungV_one _ _ _ _) ?_
  intro wz hb9 hg9
  refine hK.out _ _ (fun k hk hne => (hg9.block k (Nat.lt_of_lt_of_le hk HM.out.size) (by intro e; injection e with e; exact hne e)).trans (HM.out.bel.block k hk)) (fun hHeld => ?_)
  clear hK K
  (try simp only [Act.put])
  refine wpAnyH_done (by kernel_rfl) ?_ _
  go_wp2_with fail
  exact bodyPost_ret (results_rung rfl _ _ (w.heap.size + 1 + 1) 54 (rungV r59 r66 r69 r74) rfl hb9 (rungL _ (rungV_length _ _ _ _ hr59.1 hr66.1 hr69.1 hr74.1))) rfl ⟨r59, r66, r69, r74, hr59, hr66, hr69, hr74, by rw [LadN, vr59, vr66, vr69, vr74]; rfl, rfl, Below.grown ((HB.out.2.2.2.2.2.2.2.2.2.2.2.2.2.2.1).trans (HM.out.bel.mono (HB.out.2.2.2.2.2.2.2.2.2.2.2.2.2.2.1).size)) hg9 (Nat.le_trans (HB.out.2.2.2.2.2.2.2.2.2.2.2.2.2.2.1).size HM.out.size) (fun k hk => by injection hk with hk; omega)⟩
end Go.Proofs.Ytgdgecehmnokdaa.Cv
