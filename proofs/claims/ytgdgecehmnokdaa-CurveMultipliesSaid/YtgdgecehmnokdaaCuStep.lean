/-
  The contract of the reference's stepped: one step of the ladder.
-/
import Derived.Test.YtgdgecehmnokdaaCuLad
namespace Go.Proofs.Ytgdgecehmnokdaa
open Go.RowKit

@[reducible] def cuZ16 : Array Value := #[.int .i64 0, .int .i64 0, .int .i64 0, .int .i64 0, .int .i64 0, .int .i64 0, .int .i64 0, .int .i64 0, .int .i64 0, .int .i64 0, .int .i64 0, .int .i64 0, .int .i64 0, .int .i64 0, .int .i64 0, .int .i64 0]
def Small (l : List Int) : Prop := l.length = 16 ∧ Within 65573 l
def LadF (a b c d : List Int) : Cu.Lad := ⟨Cu.fq (Cu.valL a), Cu.fq (Cu.valL b), Cu.fq (Cu.valL c), Cu.fq (Cu.valL d)⟩
def kL : List Int := [56129, 1, 0, 0, 0, 0, 0, 0, 0, 0, 0, 0, 0, 0, 0, 0]
theorem kL_fit : Fit kL := ⟨rfl, by unfold Within; decide⟩
theorem kL_val : Cu.fq (Cu.valL kL) = Cu.fqC := by decide +kernel
theorem kL_built : Try.prog.built 38 [(0, .int .i64 56129), (1, .int .i64 1)] = some (kL.map i64v).toArray := by kernel_rfl
theorem cu_yields_build {P : Program} {ops : Array Oper} {S : World → Prop} {o : Oper} {a : Act} (hw : Region.wanted o (yielded ops a.tmps) = true) (t : TypeId) (parts : List (Nat × Operand)) (ho : o.op = .build t parts.toArray) (v : Array Value)
    (hb : P.built t (parts.map fun p => (p.1, a.eval p.2)) = some v) : YieldsIf P ops S o (.agg v) a := by
  refine Or.inl ⟨hw, fun w _ => ?_⟩
  have e : (parts.toArray.map fun (i, x) => (i, a.eval x)).toList = parts.map fun p => (p.1, a.eval p.2) := by simp
  have hr := run_build (P := P) w t (parts.toArray.map fun (i, x) => (i, a.eval x)) v (by rw [e]; exact hb)
  simp only [execOp, ho, Sem.run_bind, hr, Result.andThen_ok, Sem.run_pure]

set_option maxRecDepth 100000 in
set_option maxHeartbeats 8000000 in
theorem refStepped_any (x2 z2 x3 z3 x1 : List Int) (h2 : Small x2) (hz2 : Small z2) (h3 : Small x3) (hz3 : Small z3) (h1 : Fit x1) (w : World) :
    Calls Try.prog 21 #[.agg (ladV x2 z2 x3 z3).toArray, .agg (x1.map i64v).toArray] w fun e w' => ∃ a b c d, Cu.Good a ∧ Cu.Good b ∧ Cu.Good c ∧ Cu.Good d ∧ LadF a b c d = Cu.ladStep Cu.fqC (Cu.fq (Cu.valL x1)) (LadF x2 z2 x3 z3) ∧ e = .returned (.agg (ladV a b c d).toArray) ∧ Below w.heap.size w w' := by
  obtain ⟨cl, hcl⟩ : ∃ x, (ladV x2 z2 x3 z3).toArray = x := ⟨_, rfl⟩
  obtain ⟨cx2, hcx2⟩ : ∃ x, (x2.map i64v).toArray = x := ⟨_, rfl⟩
  obtain ⟨cz2, hcz2⟩ : ∃ x, (z2.map i64v).toArray = x := ⟨_, rfl⟩
  obtain ⟨cx3, hcx3⟩ : ∃ x, (x3.map i64v).toArray = x := ⟨_, rfl⟩
  obtain ⟨cz3, hcz3⟩ : ∃ x, (z3.map i64v).toArray = x := ⟨_, rfl⟩
  obtain ⟨cx1, hcx1⟩ : ∃ x, (x1.map i64v).toArray = x := ⟨_, rfl⟩
  rw [hcl, hcx1]
  have HM := Lib.hid (show Mem w [blkE (w.heap.size + 1 + 1) 41 (zd 64), blkE (w.heap.size + 1) 38 (x1.map i64v), blkE w.heap.size 41 (ladV x2 z2 x3 z3)] (((w.alloc (.cells cl 41)).alloc (.cells cx1 38)).alloc (.cells #[.int .i64 0, .int .i64 0, .int .i64 0, .int .i64 0, .int .i64 0, .int .i64 0, .int .i64 0, .int .i64 0, .int .i64 0, .int .i64 0, .int .i64 0, .int .i64 0, .int .i64 0, .int .i64 0, .int .i64 0, .int .i64 0, .int .i64 0, .int .i64 0, .int .i64 0, .int .i64 0, .int .i64 0, .int .i64 0, .int .i64 0, .int .i64 0, .int .i64 0, .int .i64 0, .int .i64 0, .int .i64 0, .int .i64 0, .int .i64 0, .int .i64 0, .int .i64 0, .int .i64 0, .int .i64 0, .int .i64 0, .int .i64 0, .int .i64 0, .int .i64 0, .int .i64 0, .int .i64 0, .int .i64 0, .int .i64 0, .int .i64 0, .int .i64 0, .int .i64 0, .int .i64 0, .int .i64 0, .int .i64 0, .int .i64 0, .int .i64 0, .int .i64 0, .int .i64 0, .int .i64 0, .int .i64 0, .int .i64 0, .int .i64 0, .int .i64 0, .int .i64 0, .int .i64 0, .int .i64 0, .int .i64 0, .int .i64 0, .int .i64 0, .int .i64 0] 41)) from (((Mem.nil w).alloc rfl 41 cl (ladV x2 z2 x3 z3) hcl.symm).alloc (by simp) 38 cx1 (x1.map i64v) hcx1.symm).alloc (by simp) 41 #[.int .i64 0, .int .i64 0, .int .i64 0, .int .i64 0, .int .i64 0, .int .i64 0, .int .i64 0, .int .i64 0, .int .i64 0, .int .i64 0, .int .i64 0, .int .i64 0, .int .i64 0, .int .i64 0, .int .i64 0, .int .i64 0, .int .i64 0, .int .i64 0, .int .i64 0, .int .i64 0, .int .i64 0, .int .i64 0, .int .i64 0, .int .i64 0, .int .i64 0, .int .i64 0, .int .i64 0, .int .i64 0, .int .i64 0, .int .i64 0, .int .i64 0, .int .i64 0, .int .i64 0, .int .i64 0, .int .i64 0, .int .i64 0, .int .i64 0, .int .i64 0, .int .i64 0, .int .i64 0, .int .i64 0, .int .i64 0, .int .i64 0, .int .i64 0, .int .i64 0, .int .i64 0, .int .i64 0, .int .i64 0, .int .i64 0, .int .i64 0, .int .i64 0, .int .i64 0, .int .i64 0, .int .i64 0, .int .i64 0, .int .i64 0, .int .i64 0, .int .i64 0, .int .i64 0, .int .i64 0, .int .i64 0, .int .i64 0, .int .i64 0, .int .i64 0] (zd 64) rfl)
  have HL := Lib.hid (And.intro h2 (And.intro hz2 (And.intro h3 (And.intro hz3 h1))))
  have HC := Lib.hid (And.intro hcx2 (And.intro hcz2 (And.intro hcx3 (And.intro hcz3 hcx1))))
  clear hcl hcx2 hcz2 hcx3 hcz3 hcx1 h2 hz2 h3 hz3 h1
  have Cla := fun W : World => ref_plus_any x2 z2 HL.out.1.1 HL.out.2.1.1 (HL.out.1.2.mono (by omega)) (HL.out.2.1.2.mono (by omega)) W
  have Fla : Fit (addL x2 z2) := ⟨addL_length _ _ HL.out.1.1 HL.out.2.1.1, (addL_within _ _ _ _ HL.out.1.2 HL.out.2.1.2).mono (by omega)⟩
  have Qla : Cu.fq (Cu.valL (addL x2 z2)) = Cu.fq (Cu.valL x2) + Cu.fq (Cu.valL z2) := by rw [addL_val _ _ (by rw [HL.out.1.1, HL.out.2.1.1]), Cu.fq_add]
  generalize addL x2 z2 = la at Cla Fla Qla
  obtain ⟨cla, hcla⟩ : ∃ c, (la.map i64v).toArray = c := ⟨_, rfl⟩
  rw [HC.out.1, HC.out.2.1, hcla] at Cla
  have Hla := Lib.hid (And.intro hcla (And.intro Fla Qla))
  have Kla := Lib.hid Cla
  clear Cla Fla Qla hcla
  have Clb := fun W : World => ref_minus_any x2 z2 HL.out.1.1 HL.out.2.1.1 (HL.out.1.2.mono (by omega)) (HL.out.2.1.2.mono (by omega)) W
  have Flb : Fit (subL x2 z2) := ⟨subL_length _ _ HL.out.1.1 HL.out.2.1.1, (subL_within _ _ _ _ HL.out.1.2 HL.out.2.1.2).mono (by omega)⟩
  have Qlb : Cu.fq (Cu.valL (subL x2 z2)) = Cu.fq (Cu.valL x2) - Cu.fq (Cu.valL z2) := by rw [subL_val _ _ (by rw [HL.out.1.1, HL.out.2.1.1]), Cu.fq_sub]
  generalize subL x2 z2 = lb at Clb Flb Qlb
  obtain ⟨clb, hclb⟩ : ∃ c, (lb.map i64v).toArray = c := ⟨_, rfl⟩
  rw [HC.out.1, HC.out.2.1, hclb] at Clb
  have Hlb := Lib.hid (And.intro hclb (And.intro Flb Qlb))
  have Klb := Lib.hid Clb
  clear Clb Flb Qlb hclb
  have Clc := fun W : World => ref_plus_any x3 z3 HL.out.2.2.1.1 HL.out.2.2.2.1.1 (HL.out.2.2.1.2.mono (by omega)) (HL.out.2.2.2.1.2.mono (by omega)) W
  have Flc : Fit (addL x3 z3) := ⟨addL_length _ _ HL.out.2.2.1.1 HL.out.2.2.2.1.1, (addL_within _ _ _ _ HL.out.2.2.1.2 HL.out.2.2.2.1.2).mono (by omega)⟩
  have Qlc : Cu.fq (Cu.valL (addL x3 z3)) = Cu.fq (Cu.valL x3) + Cu.fq (Cu.valL z3) := by rw [addL_val _ _ (by rw [HL.out.2.2.1.1, HL.out.2.2.2.1.1]), Cu.fq_add]
  generalize addL x3 z3 = lc at Clc Flc Qlc
  obtain ⟨clc, hclc⟩ : ∃ c, (lc.map i64v).toArray = c := ⟨_, rfl⟩
  rw [HC.out.2.2.1, HC.out.2.2.2.1, hclc] at Clc
  have Hlc := Lib.hid (And.intro hclc (And.intro Flc Qlc))
  have Klc := Lib.hid Clc
  clear Clc Flc Qlc hclc
  have Cld := fun W : World => ref_minus_any x3 z3 HL.out.2.2.1.1 HL.out.2.2.2.1.1 (HL.out.2.2.1.2.mono (by omega)) (HL.out.2.2.2.1.2.mono (by omega)) W
  have Fld : Fit (subL x3 z3) := ⟨subL_length _ _ HL.out.2.2.1.1 HL.out.2.2.2.1.1, (subL_within _ _ _ _ HL.out.2.2.1.2 HL.out.2.2.2.1.2).mono (by omega)⟩
  have Qld : Cu.fq (Cu.valL (subL x3 z3)) = Cu.fq (Cu.valL x3) - Cu.fq (Cu.valL z3) := by rw [subL_val _ _ (by rw [HL.out.2.2.1.1, HL.out.2.2.2.1.1]), Cu.fq_sub]
  generalize subL x3 z3 = ld at Cld Fld Qld
  obtain ⟨cld, hcld⟩ : ∃ c, (ld.map i64v).toArray = c := ⟨_, rfl⟩
  rw [HC.out.2.2.1, HC.out.2.2.2.1, hcld] at Cld
  have Hld := Lib.hid (And.intro hcld (And.intro Fld Qld))
  have Kld := Lib.hid Cld
  clear Cld Fld Qld hcld
  have HS := Lib.hid (show w.heap.size + 3 ≤ (((w.alloc (.cells cl 41)).alloc (.cells cx1 38)).alloc (.cells #[.int .i64 0, .int .i64 0, .int .i64 0, .int .i64 0, .int .i64 0, .int .i64 0, .int .i64 0, .int .i64 0, .int .i64 0, .int .i64 0, .int .i64 0, .int .i64 0, .int .i64 0, .int .i64 0, .int .i64 0, .int .i64 0, .int .i64 0, .int .i64 0, .int .i64 0, .int .i64 0, .int .i64 0, .int .i64 0, .int .i64 0, .int .i64 0, .int .i64 0, .int .i64 0, .int .i64 0, .int .i64 0, .int .i64 0, .int .i64 0, .int .i64 0, .int .i64 0, .int .i64 0, .int .i64 0, .int .i64 0, .int .i64 0, .int .i64 0, .int .i64 0, .int .i64 0, .int .i64 0, .int .i64 0, .int .i64 0, .int .i64 0, .int .i64 0, .int .i64 0, .int .i64 0, .int .i64 0, .int .i64 0, .int .i64 0, .int .i64 0, .int .i64 0, .int .i64 0, .int .i64 0, .int .i64 0, .int .i64 0, .int .i64 0, .int .i64 0, .int .i64 0, .int .i64 0, .int .i64 0, .int .i64 0, .int .i64 0, .int .i64 0, .int .i64 0] 41)).heap.size by simp)
  go_enter Try.func21, Try.ntmps21
  go_upto_region 1 with fail
  generalize (((w.alloc (.cells cl 41)).alloc (.cells cx1 38)).alloc (.cells #[.int .i64 0, .int .i64 0, .int .i64 0, .int .i64 0, .int .i64 0, .int .i64 0, .int .i64 0, .int .i64 0, .int .i64 0, .int .i64 0, .int .i64 0, .int .i64 0, .int .i64 0, .int .i64 0, .int .i64 0, .int .i64 0, .int .i64 0, .int .i64 0, .int .i64 0, .int .i64 0, .int .i64 0, .int .i64 0, .int .i64 0, .int .i64 0, .int .i64 0, .int .i64 0, .int .i64 0, .int .i64 0, .int .i64 0, .int .i64 0, .int .i64 0, .int .i64 0, .int .i64 0, .int .i64 0, .int .i64 0, .int .i64 0, .int .i64 0, .int .i64 0, .int .i64 0, .int .i64 0, .int .i64 0, .int .i64 0, .int .i64 0, .int .i64 0, .int .i64 0, .int .i64 0, .int .i64 0, .int .i64 0, .int .i64 0, .int .i64 0, .int .i64 0, .int .i64 0, .int .i64 0, .int .i64 0, .int .i64 0, .int .i64 0, .int .i64 0, .int .i64 0, .int .i64 0, .int .i64 0, .int .i64 0, .int .i64 0, .int .i64 0, .int .i64 0] 41)) = wb at HM HS ⊢
  have HB := Lib.hid (show Blk wb w.heap.size 41 (ladV x2 z2 x3 z3) ∧ Blk wb (w.heap.size + 1) 38 (x1.map i64v) ∧ Blk wb (w.heap.size + 1 + 1) 41 (zd 64) ∧ Below w.heap.size w wb ∧ w.heap.size + 3 ≤ wb.heap.size from ⟨HM.out.blk 2 rfl, HM.out.blk 1 rfl, HM.out.blk 0 rfl, HM.out.bel, HS.out⟩)
  clear HM HS
  go_upto_region 1 with fail
  go_cut [5, 6] (fun p q wx => ∃ P5 P6, p = .pointer (some ⟨P5, 0, none⟩) ∧ q = .pointer (some ⟨P6, 0, none⟩) ∧ w.heap.size + 3 ≤ P5 ∧ w.heap.size + 3 ≤ P6 ∧ Blk wx P5 38 (la.map i64v) ∧ Blk wx P6 38 (lb.map i64v) ∧ Blk wx w.heap.size 41 (ladV x2 z2 x3 z3) ∧ Blk wx (w.heap.size + 1) 38 (x1.map i64v) ∧ Blk wx (w.heap.size + 1 + 1) 41 (zd 64) ∧ Below w.heap.size w wx ∧ w.heap.size + 3 ≤ wx.heap.size)
  case first =>
    have HM := Lib.hid (Mem.nil wb)
    have HKE := Lib.hid (show ∀ W, Below wb.heap.size wb W → Blk W w.heap.size 41 (ladV x2 z2 x3 z3) ∧ Blk W (w.heap.size + 1) 38 (x1.map i64v) ∧ Blk W (w.heap.size + 1 + 1) 41 (zd 64) ∧ Below w.heap.size w W ∧ w.heap.size + 3 ≤ W.heap.size from fun W hW => ⟨(HB.out.1).below hW (HB.out.1).lt, (HB.out.2.1).below hW (HB.out.2.1).lt, (HB.out.2.2.1).below hW (HB.out.2.2.1).lt, (HB.out.2.2.2.1).trans (hW.mono (HB.out.2.2.2.1).size), Nat.le_trans (HB.out.2.2.2.2) hW.size⟩)
    refine wp_region_held_drew (S := fun W' => Mem wb [] W') (by kernel_rfl) (HM.out.drew) (fun hHeld => ?_)
    replace HM := Lib.hid HM.out.drew
    generalize wb.drew = wd1 at HM hHeld ⊢
    refine take_first (v := ?_) 0 rfl (by kernel_rfl) (by kernel_rfl) (by kernel_rfl) (fun _ _ _ h => h) (Or.inl ⟨by rfl, ?_⟩) (by assumption) ?_
    rotate_left
    · (intro w hSw; (try dsimp only at hSw); go_simp; try with_reducible rfl)
    (try simp only [Act.put, List.setIfInBounds_toArray, List.set_cons_zero, List.set_cons_succ])
    refine take_first (v := .agg cx2) 1 rfl (by kernel_rfl) (by kernel_rfl) (by kernel_rfl) (fun _ _ _ h => h) (by rw [← HC.out.1]; exact cu_yields_off (by rfl) 38 (.tmp 16) rfl w.heap.size 0 rfl (x2.map i64v) (fun w' hb => by have h := ((HB.out.1).below hb.bel (HB.out.1).lt).row 0 16; rw [ladV_row0 _ _ _ _ HL.out.1.1 HL.out.2.1.1 HL.out.2.2.1.1 HL.out.2.2.2.1.1] at h; exact h) 16 2 Try.underlying38 (cu_cells x2 HL.out.1.1)) (by assumption) ?_
    (try simp only [Act.put, List.setIfInBounds_toArray, List.set_cons_zero, List.set_cons_succ])
    refine take_first (v := ?_) 2 rfl (by kernel_rfl) (by kernel_rfl) (by kernel_rfl) (fun _ _ _ h => h) (Or.inl ⟨by rfl, ?_⟩) (by assumption) ?_
    rotate_left
    · (intro w hSw; (try dsimp only at hSw); go_simp; try with_reducible rfl)
    (try simp only [Act.put, List.setIfInBounds_toArray, List.set_cons_zero, List.set_cons_succ])
    refine take_first (v := .agg cz2) 3 rfl (by kernel_rfl) (by kernel_rfl) (by kernel_rfl) (fun _ _ _ h => h) (by rw [← HC.out.2.1]; exact cu_yields_off (by rfl) 38 (.tmp 18) rfl w.heap.size 16 rfl (z2.map i64v) (fun w' hb => by have h := ((HB.out.1).below hb.bel (HB.out.1).lt).row 16 16; rw [ladV_row1 _ _ _ _ HL.out.1.1 HL.out.2.1.1 HL.out.2.2.1.1 HL.out.2.2.2.1.1] at h; exact h) 16 2 Try.underlying38 (cu_cells z2 HL.out.2.1.1)) (by assumption) ?_
    (try simp only [Act.put, List.setIfInBounds_toArray, List.set_cons_zero, List.set_cons_succ])
    refine take_first (v := ?_) 5 rfl (by kernel_rfl) (by kernel_rfl) (by kernel_rfl) (fun _ _ _ h => h) (Or.inl ⟨by rfl, ?_⟩) (by assumption) ?_
    rotate_left
    · (intro w hSw; (try dsimp only at hSw); go_simp; try with_reducible rfl)
    (try simp only [Act.put, List.setIfInBounds_toArray, List.set_cons_zero, List.set_cons_succ])
    refine take_first (v := .agg cx2) 6 rfl (by kernel_rfl) (by kernel_rfl) (by kernel_rfl) (fun _ _ _ h => h) (by rw [← HC.out.1]; exact cu_yields_off (by rfl) 38 (.tmp 21) rfl w.heap.size 0 rfl (x2.map i64v) (fun w' hb => by have h := ((HB.out.1).below hb.bel (HB.out.1).lt).row 0 16; rw [ladV_row0 _ _ _ _ HL.out.1.1 HL.out.2.1.1 HL.out.2.2.1.1 HL.out.2.2.2.1.1] at h; exact h) 16 2 Try.underlying38 (cu_cells x2 HL.out.1.1)) (by assumption) ?_
    (try simp only [Act.put, List.setIfInBounds_toArray, List.set_cons_zero, List.set_cons_succ])
    refine take_first (v := ?_) 7 rfl (by kernel_rfl) (by kernel_rfl) (by kernel_rfl) (fun _ _ _ h => h) (Or.inl ⟨by rfl, ?_⟩) (by assumption) ?_
    rotate_left
    · (intro w hSw; (try dsimp only at hSw); go_simp; try with_reducible rfl)
    (try simp only [Act.put, List.setIfInBounds_toArray, List.set_cons_zero, List.set_cons_succ])
    refine take_first (v := .agg cz2) 8 rfl (by kernel_rfl) (by kernel_rfl) (by kernel_rfl) (fun _ _ _ h => h) (by rw [← HC.out.2.1]; exact cu_yields_off (by rfl) 38 (.tmp 23) rfl w.heap.size 16 rfl (z2.map i64v) (fun w' hb => by have h := ((HB.out.1).below hb.bel (HB.out.1).lt).row 16 16; rw [ladV_row1 _ _ _ _ HL.out.1.1 HL.out.2.1.1 HL.out.2.2.1.1 HL.out.2.2.2.1.1] at h; exact h) 16 2 Try.underlying38 (cu_cells z2 HL.out.2.1.1)) (by assumption) ?_
    (try simp only [Act.put, List.setIfInBounds_toArray, List.set_cons_zero, List.set_cons_succ])
    refine step_three 4 10 11 rfl rfl rfl (by kernel_rfl) (fun K hK => ?_) (fun K hK => ?_) (fun K hK => ?_)
    · clear hHeld
      go_simp
      refine (Kla.out _).mono ?_
      rintro e wy2 ⟨rfl, hb⟩
      replace HM := Lib.hid (show Mem wb [] wy2 from HM.out.below hb)
      clear hb
      go_wp2_with fail
      refine hK.out _ _ (HM.out) (fun hHeld => ?_)
      clear hK K
      (try simp only [Act.put, List.setIfInBounds_toArray, List.set_cons_zero, List.set_cons_succ])
      refine step_three 9 10 11 rfl rfl rfl (by kernel_rfl) (fun K hK => ?_) (fun K hK => ?_) (fun K hK => ?_)
      · clear hHeld
        go_simp
        refine (Klb.out _).mono ?_
        rintro e wy3 ⟨rfl, hb⟩
        replace HM := Lib.hid (show Mem wb [] wy3 from HM.out.below hb)
        clear hb
        go_wp2_with fail
        refine hK.out _ _ (HM.out) (fun hHeld => ?_)
        clear hK K
        (try simp only [Act.put, List.setIfInBounds_toArray, List.set_cons_zero, List.set_cons_succ])
        refine step_two 10 11 rfl rfl (by kernel_rfl) (fun K hK => ?_) (fun K hK => ?_)
        · clear hHeld
          go_simp
          replace HM := Lib.hid (show Mem wb [blkE wy3.heap.size 38 (zd 16)] (wy3.alloc (.cells cuZ16 38)) from HM.out.alloc rfl 38 cuZ16 (zd 16) rfl)
          generalize wy3.alloc (.cells cuZ16 38) = wy4 at HM ⊢
          generalize wy3.heap.size = P5 at HM ⊢
          refine hK.out _ _ ((HM.out.erase 0)) (fun hHeld => ?_)
          clear hK K
          (try simp only [Act.put, List.setIfInBounds_toArray, List.set_cons_zero, List.set_cons_succ])
          refine step_one 11 rfl (by kernel_rfl) (fun K hK => ?_)
          clear hHeld
          go_simp
          replace HM := Lib.hid (show Mem wb [blkE wy4.heap.size 38 (zd 16), blkE P5 38 (zd 16)] (wy4.alloc (.cells cuZ16 38)) from HM.out.alloc rfl 38 cuZ16 (zd 16) rfl)
          generalize wy4.alloc (.cells cuZ16 38) = wy5 at HM ⊢
          generalize wy4.heap.size = P6 at HM ⊢
          refine hK.out _ _ (((HM.out.erase 0).erase 0)) (fun hHeld => ?_)
          clear hK K
          (try simp only [Act.put, List.setIfInBounds_toArray, List.set_cons_zero, List.set_cons_succ])
          refine step_one 12 rfl (by kernel_rfl) (fun K hK => ?_)
          clear hHeld
          refine step_store_blk _ rfl 38 (.tmp 5) (.tmp 20) rfl P5 (la.map i64v) rfl (by show Value.agg cla = _; rw [Hla.out.1]) 38 (zd 16) (HM.out.blk 1 rfl) (cu_cells _ Hla.out.2.1.1) (by rw [List.length_map, Hla.out.2.1.1]; rfl) (by intro v hv; obtain ⟨_, _, rfl⟩ := List.mem_map.1 hv; rfl) ?_
          intro wy6 hb hg
          replace HM := Lib.hid (show Mem wb [blkE P6 38 (zd 16), blkE P5 38 (la.map i64v)] wy6 from HM.out.put 1 rfl _ hg hb)
          clear hb hg
          refine hK.out _ _ (((HM.out.erase 0).erase 0)) (fun hHeld => ?_)
          clear hK K
          (try simp only [Act.put])
          refine step_one 13 rfl (by kernel_rfl) (fun K hK => ?_)
          clear hHeld
          refine step_store_blk _ rfl 38 (.tmp 6) (.tmp 25) rfl P6 (lb.map i64v) rfl (by show Value.agg clb = _; rw [Hlb.out.1]) 38 (zd 16) (HM.out.blk 0 rfl) (cu_cells _ Hlb.out.2.1.1) (by rw [List.length_map, Hlb.out.2.1.1]; rfl) (by intro v hv; obtain ⟨_, _, rfl⟩ := List.mem_map.1 hv; rfl) ?_
          intro wy7 hb hg
          replace HM := Lib.hid (show Mem wb [blkE P6 38 (lb.map i64v), blkE P5 38 (la.map i64v)] wy7 from HM.out.put 0 rfl _ hg hb)
          clear hb hg
          refine hK.out _ _ (((HM.out.erase 0).erase 0)) (fun hHeld => ?_)
          clear hK K
          (try simp only [Act.put])
          refine wpAnyH_done (by kernel_rfl) ?_ _
          go_wp2_with fail
          go_meet
          exact ⟨P5, P6, rfl, rfl, Nat.le_trans (HB.out.2.2.2.2) (MemE.low HM.out.1 1 _ rfl), Nat.le_trans (HB.out.2.2.2.2) (MemE.low HM.out.1 0 _ rfl), HM.out.blk 1 rfl, HM.out.blk 0 rfl, HKE.out _ HM.out.bel⟩
        · clear hHeld
          go_simp
          replace HM := Lib.hid (show Mem wb [blkE wy3.heap.size 38 (zd 16)] (wy3.alloc (.cells cuZ16 38)) from HM.out.alloc rfl 38 cuZ16 (zd 16) rfl)
          generalize wy3.alloc (.cells cuZ16 38) = wy4 at HM ⊢
          generalize wy3.heap.size = P6 at HM ⊢
          refine hK.out _ _ ((HM.out.erase 0)) (fun hHeld => ?_)
          clear hK K
          (try simp only [Act.put, List.setIfInBounds_toArray, List.set_cons_zero, List.set_cons_succ])
          refine step_one 10 rfl (by kernel_rfl) (fun K hK => ?_)
          clear hHeld
          go_simp
          replace HM := Lib.hid (show Mem wb [blkE wy4.heap.size 38 (zd 16), blkE P6 38 (zd 16)] (wy4.alloc (.cells cuZ16 38)) from HM.out.alloc rfl 38 cuZ16 (zd 16) rfl)
          generalize wy4.alloc (.cells cuZ16 38) = wy5 at HM ⊢
          generalize wy4.heap.size = P5 at HM ⊢
          refine hK.out _ _ (((HM.out.erase 0).erase 0)) (fun hHeld => ?_)
          clear hK K
          (try simp only [Act.put, List.setIfInBounds_toArray, List.set_cons_zero, List.set_cons_succ])
          refine step_one 12 rfl (by kernel_rfl) (fun K hK => ?_)
          clear hHeld
          refine step_store_blk _ rfl 38 (.tmp 5) (.tmp 20) rfl P5 (la.map i64v) rfl (by show Value.agg cla = _; rw [Hla.out.1]) 38 (zd 16) (HM.out.blk 0 rfl) (cu_cells _ Hla.out.2.1.1) (by rw [List.length_map, Hla.out.2.1.1]; rfl) (by intro v hv; obtain ⟨_, _, rfl⟩ := List.mem_map.1 hv; rfl) ?_
          intro wy6 hb hg
          replace HM := Lib.hid (show Mem wb [blkE P5 38 (la.map i64v), blkE P6 38 (zd 16)] wy6 from HM.out.put 0 rfl _ hg hb)
          clear hb hg
          refine hK.out _ _ (((HM.out.erase 0).erase 0)) (fun hHeld => ?_)
          clear hK K
          (try simp only [Act.put])
          refine step_one 13 rfl (by kernel_rfl) (fun K hK => ?_)
          clear hHeld
          refine step_store_blk _ rfl 38 (.tmp 6) (.tmp 25) rfl P6 (lb.map i64v) rfl (by show Value.agg clb = _; rw [Hlb.out.1]) 38 (zd 16) (HM.out.blk 1 rfl) (cu_cells _ Hlb.out.2.1.1) (by rw [List.length_map, Hlb.out.2.1.1]; rfl) (by intro v hv; obtain ⟨_, _, rfl⟩ := List.mem_map.1 hv; rfl) ?_
          intro wy7 hb hg
          replace HM := Lib.hid (show Mem wb [blkE P5 38 (la.map i64v), blkE P6 38 (lb.map i64v)] wy7 from HM.out.put 1 rfl _ hg hb)
          clear hb hg
          refine hK.out _ _ (((HM.out.erase 0).erase 0)) (fun hHeld => ?_)
          clear hK K
          (try simp only [Act.put])
          refine wpAnyH_done (by kernel_rfl) ?_ _
          go_wp2_with fail
          go_meet
          exact ⟨P5, P6, rfl, rfl, Nat.le_trans (HB.out.2.2.2.2) (MemE.low HM.out.1 0 _ rfl), Nat.le_trans (HB.out.2.2.2.2) (MemE.low HM.out.1 1 _ rfl), HM.out.blk 0 rfl, HM.out.blk 1 rfl, HKE.out _ HM.out.bel⟩
      · clear hHeld
        go_simp
        replace HM := Lib.hid (show Mem wb [blkE wy2.heap.size 38 (zd 16)] (wy2.alloc (.cells cuZ16 38)) from HM.out.alloc rfl 38 cuZ16 (zd 16) rfl)
        generalize wy2.alloc (.cells cuZ16 38) = wy3 at HM ⊢
        generalize wy2.heap.size = P5 at HM ⊢
        refine hK.out _ _ ((HM.out.erase 0)) (fun hHeld => ?_)
        clear hK K
        (try simp only [Act.put, List.setIfInBounds_toArray, List.set_cons_zero, List.set_cons_succ])
        refine step_two 9 11 rfl rfl (by kernel_rfl) (fun K hK => ?_) (fun K hK => ?_)
        · clear hHeld
          go_simp
          refine (Klb.out _).mono ?_
          rintro e wy4 ⟨rfl, hb⟩
          replace HM := Lib.hid (show Mem wb [blkE P5 38 (zd 16)] wy4 from HM.out.below hb)
          clear hb
          go_wp2_with fail
          refine hK.out _ _ ((HM.out.erase 0)) (fun hHeld => ?_)
          clear hK K
          (try simp only [Act.put, List.setIfInBounds_toArray, List.set_cons_zero, List.set_cons_succ])
          refine step_one 11 rfl (by kernel_rfl) (fun K hK => ?_)
          clear hHeld
          go_simp
          replace HM := Lib.hid (show Mem wb [blkE wy4.heap.size 38 (zd 16), blkE P5 38 (zd 16)] (wy4.alloc (.cells cuZ16 38)) from HM.out.alloc rfl 38 cuZ16 (zd 16) rfl)
          generalize wy4.alloc (.cells cuZ16 38) = wy5 at HM ⊢
          generalize wy4.heap.size = P6 at HM ⊢
          refine hK.out _ _ (((HM.out.erase 0).erase 0)) (fun hHeld => ?_)
          clear hK K
          (try simp only [Act.put, List.setIfInBounds_toArray, List.set_cons_zero, List.set_cons_succ])
          refine step_one 12 rfl (by kernel_rfl) (fun K hK => ?_)
          clear hHeld
          refine step_store_blk _ rfl 38 (.tmp 5) (.tmp 20) rfl P5 (la.map i64v) rfl (by show Value.agg cla = _; rw [Hla.out.1]) 38 (zd 16) (HM.out.blk 1 rfl) (cu_cells _ Hla.out.2.1.1) (by rw [List.length_map, Hla.out.2.1.1]; rfl) (by intro v hv; obtain ⟨_, _, rfl⟩ := List.mem_map.1 hv; rfl) ?_
          intro wy6 hb hg
          replace HM := Lib.hid (show Mem wb [blkE P6 38 (zd 16), blkE P5 38 (la.map i64v)] wy6 from HM.out.put 1 rfl _ hg hb)
          clear hb hg
          refine hK.out _ _ (((HM.out.erase 0).erase 0)) (fun hHeld => ?_)
          clear hK K
          (try simp only [Act.put])
          refine step_one 13 rfl (by kernel_rfl) (fun K hK => ?_)
          clear hHeld
          refine step_store_blk _ rfl 38 (.tmp 6) (.tmp 25) rfl P6 (lb.map i64v) rfl (by show Value.agg clb = _; rw [Hlb.out.1]) 38 (zd 16) (HM.out.blk 0 rfl) (cu_cells _ Hlb.out.2.1.1) (by rw [List.length_map, Hlb.out.2.1.1]; rfl) (by intro v hv; obtain ⟨_, _, rfl⟩ := List.mem_map.1 hv; rfl) ?_
          intro wy7 hb hg
          replace HM := Lib.hid (show Mem wb [blkE P6 38 (lb.map i64v), blkE P5 38 (la.map i64v)] wy7 from HM.out.put 0 rfl _ hg hb)
          clear hb hg
          refine hK.out _ _ (((HM.out.erase 0).erase 0)) (fun hHeld => ?_)
          clear hK K
          (try simp only [Act.put])
          refine wpAnyH_done (by kernel_rfl) ?_ _
          go_wp2_with fail
          go_meet
          exact ⟨P5, P6, rfl, rfl, Nat.le_trans (HB.out.2.2.2.2) (MemE.low HM.out.1 1 _ rfl), Nat.le_trans (HB.out.2.2.2.2) (MemE.low HM.out.1 0 _ rfl), HM.out.blk 1 rfl, HM.out.blk 0 rfl, HKE.out _ HM.out.bel⟩
        · clear hHeld
          go_simp
          replace HM := Lib.hid (show Mem wb [blkE wy3.heap.size 38 (zd 16), blkE P5 38 (zd 16)] (wy3.alloc (.cells cuZ16 38)) from HM.out.alloc rfl 38 cuZ16 (zd 16) rfl)
          generalize wy3.alloc (.cells cuZ16 38) = wy4 at HM ⊢
          generalize wy3.heap.size = P6 at HM ⊢
          refine hK.out _ _ (((HM.out.erase 0).erase 0)) (fun hHeld => ?_)
          clear hK K
          (try simp only [Act.put, List.setIfInBounds_toArray, List.set_cons_zero, List.set_cons_succ])
          refine step_one 9 rfl (by kernel_rfl) (fun K hK => ?_)
          clear hHeld
          go_simp
          refine (Klb.out _).mono ?_
          rintro e wy5 ⟨rfl, hb⟩
          replace HM := Lib.hid (show Mem wb [blkE P6 38 (zd 16), blkE P5 38 (zd 16)] wy5 from HM.out.below hb)
          clear hb
          go_wp2_with fail
          refine hK.out _ _ (((HM.out.erase 0).erase 0)) (fun hHeld => ?_)
          clear hK K
          (try simp only [Act.put, List.setIfInBounds_toArray, List.set_cons_zero, List.set_cons_succ])
          refine step_one 12 rfl (by kernel_rfl) (fun K hK => ?_)
          clear hHeld
          refine step_store_blk _ rfl 38 (.tmp 5) (.tmp 20) rfl P5 (la.map i64v) rfl (by show Value.agg cla = _; rw [Hla.out.1]) 38 (zd 16) (HM.out.blk 1 rfl) (cu_cells _ Hla.out.2.1.1) (by rw [List.length_map, Hla.out.2.1.1]; rfl) (by intro v hv; obtain ⟨_, _, rfl⟩ := List.mem_map.1 hv; rfl) ?_
          intro wy6 hb hg
          replace HM := Lib.hid (show Mem wb [blkE P6 38 (zd 16), blkE P5 38 (la.map i64v)] wy6 from HM.out.put 1 rfl _ hg hb)
          clear hb hg
          refine hK.out _ _ (((HM.out.erase 0).erase 0)) (fun hHeld => ?_)
          clear hK K
          (try simp only [Act.put])
          refine step_one 13 rfl (by kernel_rfl) (fun K hK => ?_)
          clear hHeld
          refine step_store_blk _ rfl 38 (.tmp 6) (.tmp 25) rfl P6 (lb.map i64v) rfl (by show Value.agg clb = _; rw [Hlb.out.1]) 38 (zd 16) (HM.out.blk 0 rfl) (cu_cells _ Hlb.out.2.1.1) (by rw [List.length_map, Hlb.out.2.1.1]; rfl) (by intro v hv; obtain ⟨_, _, rfl⟩ := List.mem_map.1 hv; rfl) ?_
          intro wy7 hb hg
          replace HM := Lib.hid (show Mem wb [blkE P6 38 (lb.map i64v), blkE P5 38 (la.map i64v)] wy7 from HM.out.put 0 rfl _ hg hb)
          clear hb hg
          refine hK.out _ _ (((HM.out.erase 0).erase 0)) (fun hHeld => ?_)
          clear hK K
          (try simp only [Act.put])
          refine wpAnyH_done (by kernel_rfl) ?_ _
          go_wp2_with fail
          go_meet
          exact ⟨P5, P6, rfl, rfl, Nat.le_trans (HB.out.2.2.2.2) (MemE.low HM.out.1 1 _ rfl), Nat.le_trans (HB.out.2.2.2.2) (MemE.low HM.out.1 0 _ rfl), HM.out.blk 1 rfl, HM.out.blk 0 rfl, HKE.out _ HM.out.bel⟩
      · clear hHeld
        go_simp
        replace HM := Lib.hid (show Mem wb [blkE wy2.heap.size 38 (zd 16)] (wy2.alloc (.cells cuZ16 38)) from HM.out.alloc rfl 38 cuZ16 (zd 16) rfl)
        generalize wy2.alloc (.cells cuZ16 38) = wy3 at HM ⊢
        generalize wy2.heap.size = P6 at HM ⊢
        refine hK.out _ _ ((HM.out.erase 0)) (fun hHeld => ?_)
        clear hK K
        (try simp only [Act.put, List.setIfInBounds_toArray, List.set_cons_zero, List.set_cons_succ])
        refine step_two 9 10 rfl rfl (by kernel_rfl) (fun K hK => ?_) (fun K hK => ?_)
        · clear hHeld
          go_simp
          refine (Klb.out _).mono ?_
          rintro e wy4 ⟨rfl, hb⟩
          replace HM := Lib.hid (show Mem wb [blkE P6 38 (zd 16)] wy4 from HM.out.below hb)
          clear hb
          go_wp2_with fail
          refine hK.out _ _ ((HM.out.erase 0)) (fun hHeld => ?_)
          clear hK K
          (try simp only [Act.put, List.setIfInBounds_toArray, List.set_cons_zero, List.set_cons_succ])
          refine step_one 10 rfl (by kernel_rfl) (fun K hK => ?_)
          clear hHeld
          go_simp
          replace HM := Lib.hid (show Mem wb [blkE wy4.heap.size 38 (zd 16), blkE P6 38 (zd 16)] (wy4.alloc (.cells cuZ16 38)) from HM.out.alloc rfl 38 cuZ16 (zd 16) rfl)
          generalize wy4.alloc (.cells cuZ16 38) = wy5 at HM ⊢
          generalize wy4.heap.size = P5 at HM ⊢
          refine hK.out _ _ (((HM.out.erase 0).erase 0)) (fun hHeld => ?_)
          clear hK K
          (try simp only [Act.put, List.setIfInBounds_toArray, List.set_cons_zero, List.set_cons_succ])
          refine step_one 12 rfl (by kernel_rfl) (fun K hK => ?_)
          clear hHeld
          refine step_store_blk _ rfl 38 (.tmp 5) (.tmp 20) rfl P5 (la.map i64v) rfl (by show Value.agg cla = _; rw [Hla.out.1]) 38 (zd 16) (HM.out.blk 0 rfl) (cu_cells _ Hla.out.2.1.1) (by rw [List.length_map, Hla.out.2.1.1]; rfl) (by intro v hv; obtain ⟨_, _, rfl⟩ := List.mem_map.1 hv; rfl) ?_
          intro wy6 hb hg
          replace HM := Lib.hid (show Mem wb [blkE P5 38 (la.map i64v), blkE P6 38 (zd 16)] wy6 from HM.out.put 0 rfl _ hg hb)
          clear hb hg
          refine hK.out _ _ (((HM.out.erase 0).erase 0)) (fun hHeld => ?_)
          clear hK K
          (try simp only [Act.put])
          refine step_one 13 rfl (by kernel_rfl) (fun K hK => ?_)
          clear hHeld
          refine step_store_blk _ rfl 38 (.tmp 6) (.tmp 25) rfl P6 (lb.map i64v) rfl (by show Value.agg clb = _; rw [Hlb.out.1]) 38 (zd 16) (HM.out.blk 1 rfl) (cu_cells _ Hlb.out.2.1.1) (by rw [List.length_map, Hlb.out.2.1.1]; rfl) (by intro v hv; obtain ⟨_, _, rfl⟩ := List.mem_map.1 hv; rfl) ?_
          intro wy7 hb hg
          replace HM := Lib.hid (show Mem wb [blkE P5 38 (la.map i64v), blkE P6 38 (lb.map i64v)] wy7 from HM.out.put 1 rfl _ hg hb)
          clear hb hg
          refine hK.out _ _ (((HM.out.erase 0).erase 0)) (fun hHeld => ?_)
          clear hK K
          (try simp only [Act.put])
          refine wpAnyH_done (by kernel_rfl) ?_ _
          go_wp2_with fail
          go_meet
          exact ⟨P5, P6, rfl, rfl, Nat.le_trans (HB.out.2.2.2.2) (MemE.low HM.out.1 0 _ rfl), Nat.le_trans (HB.out.2.2.2.2) (MemE.low HM.out.1 1 _ rfl), HM.out.blk 0 rfl, HM.out.blk 1 rfl, HKE.out _ HM.out.bel⟩
        · clear hHeld
          go_simp
          replace HM := Lib.hid (show Mem wb [blkE wy3.heap.size 38 (zd 16), blkE P6 38 (zd 16)] (wy3.alloc (.cells cuZ16 38)) from HM.out.alloc rfl 38 cuZ16 (zd 16) rfl)
          generalize wy3.alloc (.cells cuZ16 38) = wy4 at HM ⊢
          generalize wy3.heap.size = P5 at HM ⊢
          refine hK.out _ _ (((HM.out.erase 0).erase 0)) (fun hHeld => ?_)
          clear hK K
          (try simp only [Act.put, List.setIfInBounds_toArray, List.set_cons_zero, List.set_cons_succ])
          refine step_one 9 rfl (by kernel_rfl) (fun K hK => ?_)
          clear hHeld
          go_simp
          refine (Klb.out _).mono ?_
          rintro e wy5 ⟨rfl, hb⟩
          replace HM := Lib.hid (show Mem wb [blkE P5 38 (zd 16), blkE P6 38 (zd 16)] wy5 from HM.out.below hb)
          clear hb
          go_wp2_with fail
          refine hK.out _ _ (((HM.out.erase 0).erase 0)) (fun hHeld => ?_)
          clear hK K
          (try simp only [Act.put, List.setIfInBounds_toArray, List.set_cons_zero, List.set_cons_succ])
          refine step_one 12 rfl (by kernel_rfl) (fun K hK => ?_)
          clear hHeld
          refine step_store_blk _ rfl 38 (.tmp 5) (.tmp 20) rfl P5 (la.map i64v) rfl (by show Value.agg cla = _; rw [Hla.out.1]) 38 (zd 16) (HM.out.blk 0 rfl) (cu_cells _ Hla.out.2.1.1) (by rw [List.length_map, Hla.out.2.1.1]; rfl) (by intro v hv; obtain ⟨_, _, rfl⟩ := List.mem_map.1 hv; rfl) ?_
          intro wy6 hb hg
          replace HM := Lib.hid (show Mem wb [blkE P5 38 (la.map i64v), blkE P6 38 (zd 16)] wy6 from HM.out.put 0 rfl _ hg hb)
          clear hb hg
          refine hK.out _ _ (((HM.out.erase 0).erase 0)) (fun hHeld => ?_)
          clear hK K
          (try simp only [Act.put])
          refine step_one 13 rfl (by kernel_rfl) (fun K hK => ?_)
          clear hHeld
          refine step_store_blk _ rfl 38 (.tmp 6) (.tmp 25) rfl P6 (lb.map i64v) rfl (by show Value.agg clb = _; rw [Hlb.out.1]) 38 (zd 16) (HM.out.blk 1 rfl) (cu_cells _ Hlb.out.2.1.1) (by rw [List.length_map, Hlb.out.2.1.1]; rfl) (by intro v hv; obtain ⟨_, _, rfl⟩ := List.mem_map.1 hv; rfl) ?_
          intro wy7 hb hg
          replace HM := Lib.hid (show Mem wb [blkE P5 38 (la.map i64v), blkE P6 38 (lb.map i64v)] wy7 from HM.out.put 1 rfl _ hg hb)
          clear hb hg
          refine hK.out _ _ (((HM.out.erase 0).erase 0)) (fun hHeld => ?_)
          clear hK K
          (try simp only [Act.put])
          refine wpAnyH_done (by kernel_rfl) ?_ _
          go_wp2_with fail
          go_meet
          exact ⟨P5, P6, rfl, rfl, Nat.le_trans (HB.out.2.2.2.2) (MemE.low HM.out.1 0 _ rfl), Nat.le_trans (HB.out.2.2.2.2) (MemE.low HM.out.1 1 _ rfl), HM.out.blk 0 rfl, HM.out.blk 1 rfl, HKE.out _ HM.out.bel⟩
    · clear hHeld
      go_simp
      replace HM := Lib.hid (show Mem wb [blkE wd1.heap.size 38 (zd 16)] (wd1.alloc (.cells cuZ16 38)) from HM.out.alloc rfl 38 cuZ16 (zd 16) rfl)
      generalize wd1.alloc (.cells cuZ16 38) = wy2 at HM ⊢
      generalize wd1.heap.size = P5 at HM ⊢
      refine hK.out _ _ ((HM.out.erase 0)) (fun hHeld => ?_)
      clear hK K
      (try simp only [Act.put, List.setIfInBounds_toArray, List.set_cons_zero, List.set_cons_succ])
      refine step_two 4 11 rfl rfl (by kernel_rfl) (fun K hK => ?_) (fun K hK => ?_)
      · clear hHeld
        go_simp
        refine (Kla.out _).mono ?_
        rintro e wy3 ⟨rfl, hb⟩
        replace HM := Lib.hid (show Mem wb [blkE P5 38 (zd 16)] wy3 from HM.out.below hb)
        clear hb
        go_wp2_with fail
        refine hK.out _ _ ((HM.out.erase 0)) (fun hHeld => ?_)
        clear hK K
        (try simp only [Act.put, List.setIfInBounds_toArray, List.set_cons_zero, List.set_cons_succ])
        refine step_two 9 11 rfl rfl (by kernel_rfl) (fun K hK => ?_) (fun K hK => ?_)
        · clear hHeld
          go_simp
          refine (Klb.out _).mono ?_
          rintro e wy4 ⟨rfl, hb⟩
          replace HM := Lib.hid (show Mem wb [blkE P5 38 (zd 16)] wy4 from HM.out.below hb)
          clear hb
          go_wp2_with fail
          refine hK.out _ _ ((HM.out.erase 0)) (fun hHeld => ?_)
          clear hK K
          (try simp only [Act.put, List.setIfInBounds_toArray, List.set_cons_zero, List.set_cons_succ])
          refine step_one 11 rfl (by kernel_rfl) (fun K hK => ?_)
          clear hHeld
          go_simp
          replace HM := Lib.hid (show Mem wb [blkE wy4.heap.size 38 (zd 16), blkE P5 38 (zd 16)] (wy4.alloc (.cells cuZ16 38)) from HM.out.alloc rfl 38 cuZ16 (zd 16) rfl)
          generalize wy4.alloc (.cells cuZ16 38) = wy5 at HM ⊢
          generalize wy4.heap.size = P6 at HM ⊢
          refine hK.out _ _ (((HM.out.erase 0).erase 0)) (fun hHeld => ?_)
          clear hK K
          (try simp only [Act.put, List.setIfInBounds_toArray, List.set_cons_zero, List.set_cons_succ])
          refine step_one 12 rfl (by kernel_rfl) (fun K hK => ?_)
          clear hHeld
          refine step_store_blk _ rfl 38 (.tmp 5) (.tmp 20) rfl P5 (la.map i64v) rfl (by show Value.agg cla = _; rw [Hla.out.1]) 38 (zd 16) (HM.out.blk 1 rfl) (cu_cells _ Hla.out.2.1.1) (by rw [List.length_map, Hla.out.2.1.1]; rfl) (by intro v hv; obtain ⟨_, _, rfl⟩ := List.mem_map.1 hv; rfl) ?_
          intro wy6 hb hg
          replace HM := Lib.hid (show Mem wb [blkE P6 38 (zd 16), blkE P5 38 (la.map i64v)] wy6 from HM.out.put 1 rfl _ hg hb)
          clear hb hg
          refine hK.out _ _ (((HM.out.erase 0).erase 0)) (fun hHeld => ?_)
          clear hK K
          (try simp only [Act.put])
          refine step_one 13 rfl (by kernel_rfl) (fun K hK => ?_)
          clear hHeld
          refine step_store_blk _ rfl 38 (.tmp 6) (.tmp 25) rfl P6 (lb.map i64v) rfl (by show Value.agg clb = _; rw [Hlb.out.1]) 38 (zd 16) (HM.out.blk 0 rfl) (cu_cells _ Hlb.out.2.1.1) (by rw [List.length_map, Hlb.out.2.1.1]; rfl) (by intro v hv; obtain ⟨_, _, rfl⟩ := List.mem_map.1 hv; rfl) ?_
          intro wy7 hb hg
          replace HM := Lib.hid (show Mem wb [blkE P6 38 (lb.map i64v), blkE P5 38 (la.map i64v)] wy7 from HM.out.put 0 rfl _ hg hb)
          clear hb hg
          refine hK.out _ _ (((HM.out.erase 0).erase 0)) (fun hHeld => ?_)
          clear hK K
          (try simp only [Act.put])
          refine wpAnyH_done (by kernel_rfl) ?_ _
          go_wp2_with fail
          go_meet
          exact ⟨P5, P6, rfl, rfl, Nat.le_trans (HB.out.2.2.2.2) (MemE.low HM.out.1 1 _ rfl), Nat.le_trans (HB.out.2.2.2.2) (MemE.low HM.out.1 0 _ rfl), HM.out.blk 1 rfl, HM.out.blk 0 rfl, HKE.out _ HM.out.bel⟩
        · clear hHeld
          go_simp
          replace HM := Lib.hid (show Mem wb [blkE wy3.heap.size 38 (zd 16), blkE P5 38 (zd 16)] (wy3.alloc (.cells cuZ16 38)) from HM.out.alloc rfl 38 cuZ16 (zd 16) rfl)
          generalize wy3.alloc (.cells cuZ16 38) = wy4 at HM ⊢
          generalize wy3.heap.size = P6 at HM ⊢
          refine hK.out _ _ (((HM.out.erase 0).erase 0)) (fun hHeld => ?_)
          clear hK K
          (try simp only [Act.put, List.setIfInBounds_toArray, List.set_cons_zero, List.set_cons_succ])
          refine step_one 9 rfl (by kernel_rfl) (fun K hK => ?_)
          clear hHeld
          go_simp
          refine (Klb.out _).mono ?_
          rintro e wy5 ⟨rfl, hb⟩
          replace HM := Lib.hid (show Mem wb [blkE P6 38 (zd 16), blkE P5 38 (zd 16)] wy5 from HM.out.below hb)
          clear hb
          go_wp2_with fail
          refine hK.out _ _ (((HM.out.erase 0).erase 0)) (fun hHeld => ?_)
          clear hK K
          (try simp only [Act.put, List.setIfInBounds_toArray, List.set_cons_zero, List.set_cons_succ])
          refine step_one 12 rfl (by kernel_rfl) (fun K hK => ?_)
          clear hHeld
          refine step_store_blk _ rfl 38 (.tmp 5) (.tmp 20) rfl P5 (la.map i64v) rfl (by show Value.agg cla = _; rw [Hla.out.1]) 38 (zd 16) (HM.out.blk 1 rfl) (cu_cells _ Hla.out.2.1.1) (by rw [List.length_map, Hla.out.2.1.1]; rfl) (by intro v hv; obtain ⟨_, _, rfl⟩ := List.mem_map.1 hv; rfl) ?_
          intro wy6 hb hg
          replace HM := Lib.hid (show Mem wb [blkE P6 38 (zd 16), blkE P5 38 (la.map i64v)] wy6 from HM.out.put 1 rfl _ hg hb)
          clear hb hg
          refine hK.out _ _ (((HM.out.erase 0).erase 0)) (fun hHeld => ?_)
          clear hK K
          (try simp only [Act.put])
          refine step_one 13 rfl (by kernel_rfl) (fun K hK => ?_)
          clear hHeld
          refine step_store_blk _ rfl 38 (.tmp 6) (.tmp 25) rfl P6 (lb.map i64v) rfl (by show Value.agg clb = _; rw [Hlb.out.1]) 38 (zd 16) (HM.out.blk 0 rfl) (cu_cells _ Hlb.out.2.1.1) (by rw [List.length_map, Hlb.out.2.1.1]; rfl) (by intro v hv; obtain ⟨_, _, rfl⟩ := List.mem_map.1 hv; rfl) ?_
          intro wy7 hb hg
          replace HM := Lib.hid (show Mem wb [blkE P6 38 (lb.map i64v), blkE P5 38 (la.map i64v)] wy7 from HM.out.put 0 rfl _ hg hb)
          clear hb hg
          refine hK.out _ _ (((HM.out.erase 0).erase 0)) (fun hHeld => ?_)
          clear hK K
          (try simp only [Act.put])
          refine wpAnyH_done (by kernel_rfl) ?_ _
          go_wp2_with fail
          go_meet
          exact ⟨P5, P6, rfl, rfl, Nat.le_trans (HB.out.2.2.2.2) (MemE.low HM.out.1 1 _ rfl), Nat.le_trans (HB.out.2.2.2.2) (MemE.low HM.out.1 0 _ rfl), HM.out.blk 1 rfl, HM.out.blk 0 rfl, HKE.out _ HM.out.bel⟩
      · clear hHeld
        go_simp
        replace HM := Lib.hid (show Mem wb [blkE wy2.heap.size 38 (zd 16), blkE P5 38 (zd 16)] (wy2.alloc (.cells cuZ16 38)) from HM.out.alloc rfl 38 cuZ16 (zd 16) rfl)
        generalize wy2.alloc (.cells cuZ16 38) = wy3 at HM ⊢
        generalize wy2.heap.size = P6 at HM ⊢
        refine hK.out _ _ (((HM.out.erase 0).erase 0)) (fun hHeld => ?_)
        clear hK K
        (try simp only [Act.put, List.setIfInBounds_toArray, List.set_cons_zero, List.set_cons_succ])
        refine step_one 4 rfl (by kernel_rfl) (fun K hK => ?_)
        clear hHeld
        go_simp
        refine (Kla.out _).mono ?_
        rintro e wy4 ⟨rfl, hb⟩
        replace HM := Lib.hid (show Mem wb [blkE P6 38 (zd 16), blkE P5 38 (zd 16)] wy4 from HM.out.below hb)
        clear hb
        go_wp2_with fail
        refine hK.out _ _ (((HM.out.erase 0).erase 0)) (fun hHeld => ?_)
        clear hK K
        (try simp only [Act.put, List.setIfInBounds_toArray, List.set_cons_zero, List.set_cons_succ])
        refine step_one 9 rfl (by kernel_rfl) (fun K hK => ?_)
        clear hHeld
        go_simp
        refine (Klb.out _).mono ?_
        rintro e wy5 ⟨rfl, hb⟩
        replace HM := Lib.hid (show Mem wb [blkE P6 38 (zd 16), blkE P5 38 (zd 16)] wy5 from HM.out.below hb)
        clear hb
        go_wp2_with fail
        refine hK.out _ _ (((HM.out.erase 0).erase 0)) (fun hHeld => ?_)
        clear hK K
        (try simp only [Act.put, List.setIfInBounds_toArray, List.set_cons_zero, List.set_cons_succ])
        refine step_one 12 rfl (by kernel_rfl) (fun K hK => ?_)
        clear hHeld
        refine step_store_blk _ rfl 38 (.tmp 5) (.tmp 20) rfl P5 (la.map i64v) rfl (by show Value.agg cla = _; rw [Hla.out.1]) 38 (zd 16) (HM.out.blk 1 rfl) (cu_cells _ Hla.out.2.1.1) (by rw [List.length_map, Hla.out.2.1.1]; rfl) (by intro v hv; obtain ⟨_, _, rfl⟩ := List.mem_map.1 hv; rfl) ?_
        intro wy6 hb hg
        replace HM := Lib.hid (show Mem wb [blkE P6 38 (zd 16), blkE P5 38 (la.map i64v)] wy6 from HM.out.put 1 rfl _ hg hb)
        clear hb hg
        refine hK.out _ _ (((HM.out.erase 0).erase 0)) (fun hHeld => ?_)
        clear hK K
        (try simp only [Act.put])
        refine step_one 13 rfl (by kernel_rfl) (fun K hK => ?_)
        clear hHeld
        refine step_store_blk _ rfl 38 (.tmp 6) (.tmp 25) rfl P6 (lb.map i64v) rfl (by show Value.agg clb = _; rw [Hlb.out.1]) 38 (zd 16) (HM.out.blk 0 rfl) (cu_cells _ Hlb.out.2.1.1) (by rw [List.length_map, Hlb.out.2.1.1]; rfl) (by intro v hv; obtain ⟨_, _, rfl⟩ := List.mem_map.1 hv; rfl) ?_
        intro wy7 hb hg
        replace HM := Lib.hid (show Mem wb [blkE P6 38 (lb.map i64v), blkE P5 38 (la.map i64v)] wy7 from HM.out.put 0 rfl _ hg hb)
        clear hb hg
        refine hK.out _ _ (((HM.out.erase 0).erase 0)) (fun hHeld => ?_)
        clear hK K
        (try simp only [Act.put])
        refine wpAnyH_done (by kernel_rfl) ?_ _
        go_wp2_with fail
        go_meet
        exact ⟨P5, P6, rfl, rfl, Nat.le_trans (HB.out.2.2.2.2) (MemE.low HM.out.1 1 _ rfl), Nat.le_trans (HB.out.2.2.2.2) (MemE.low HM.out.1 0 _ rfl), HM.out.blk 1 rfl, HM.out.blk 0 rfl, HKE.out _ HM.out.bel⟩
    · clear hHeld
      go_simp
      replace HM := Lib.hid (show Mem wb [blkE wd1.heap.size 38 (zd 16)] (wd1.alloc (.cells cuZ16 38)) from HM.out.alloc rfl 38 cuZ16 (zd 16) rfl)
      generalize wd1.alloc (.cells cuZ16 38) = wy2 at HM ⊢
      generalize wd1.heap.size = P6 at HM ⊢
      refine hK.out _ _ ((HM.out.erase 0)) (fun hHeld => ?_)
      clear hK K
      (try simp only [Act.put, List.setIfInBounds_toArray, List.set_cons_zero, List.set_cons_succ])
      refine step_two 4 10 rfl rfl (by kernel_rfl) (fun K hK => ?_) (fun K hK => ?_)
      · clear hHeld
        go_simp
        refine (Kla.out _).mono ?_
        rintro e wy3 ⟨rfl, hb⟩
        replace HM := Lib.hid (show Mem wb [blkE P6 38 (zd 16)] wy3 from HM.out.below hb)
        clear hb
        go_wp2_with fail
        refine hK.out _ _ ((HM.out.erase 0)) (fun hHeld => ?_)
        clear hK K
        (try simp only [Act.put, List.setIfInBounds_toArray, List.set_cons_zero, List.set_cons_succ])
        refine step_two 9 10 rfl rfl (by kernel_rfl) (fun K hK => ?_) (fun K hK => ?_)
        · clear hHeld
          go_simp
          refine (Klb.out _).mono ?_
          rintro e wy4 ⟨rfl, hb⟩
          replace HM := Lib.hid (show Mem wb [blkE P6 38 (zd 16)] wy4 from HM.out.below hb)
          clear hb
          go_wp2_with fail
          refine hK.out _ _ ((HM.out.erase 0)) (fun hHeld => ?_)
          clear hK K
          (try simp only [Act.put, List.setIfInBounds_toArray, List.set_cons_zero, List.set_cons_succ])
          refine step_one 10 rfl (by kernel_rfl) (fun K hK => ?_)
          clear hHeld
          go_simp
          replace HM := Lib.hid (show Mem wb [blkE wy4.heap.size 38 (zd 16), blkE P6 38 (zd 16)] (wy4.alloc (.cells cuZ16 38)) from HM.out.alloc rfl 38 cuZ16 (zd 16) rfl)
          generalize wy4.alloc (.cells cuZ16 38) = wy5 at HM ⊢
          generalize wy4.heap.size = P5 at HM ⊢
          refine hK.out _ _ (((HM.out.erase 0).erase 0)) (fun hHeld => ?_)
          clear hK K
          (try simp only [Act.put, List.setIfInBounds_toArray, List.set_cons_zero, List.set_cons_succ])
          refine step_one 12 rfl (by kernel_rfl) (fun K hK => ?_)
          clear hHeld
          refine step_store_blk _ rfl 38 (.tmp 5) (.tmp 20) rfl P5 (la.map i64v) rfl (by show Value.agg cla = _; rw [Hla.out.1]) 38 (zd 16) (HM.out.blk 0 rfl) (cu_cells _ Hla.out.2.1.1) (by rw [List.length_map, Hla.out.2.1.1]; rfl) (by intro v hv; obtain ⟨_, _, rfl⟩ := List.mem_map.1 hv; rfl) ?_
          intro wy6 hb hg
          replace HM := Lib.hid (show Mem wb [blkE P5 38 (la.map i64v), blkE P6 38 (zd 16)] wy6 from HM.out.put 0 rfl _ hg hb)
          clear hb hg
          refine hK.out _ _ (((HM.out.erase 0).erase 0)) (fun hHeld => ?_)
          clear hK K
          (try simp only [Act.put])
          refine step_one 13 rfl (by kernel_rfl) (fun K hK => ?_)
          clear hHeld
          refine step_store_blk _ rfl 38 (.tmp 6) (.tmp 25) rfl P6 (lb.map i64v) rfl (by show Value.agg clb = _; rw [Hlb.out.1]) 38 (zd 16) (HM.out.blk 1 rfl) (cu_cells _ Hlb.out.2.1.1) (by rw [List.length_map, Hlb.out.2.1.1]; rfl) (by intro v hv; obtain ⟨_, _, rfl⟩ := List.mem_map.1 hv; rfl) ?_
          intro wy7 hb hg
          replace HM := Lib.hid (show Mem wb [blkE P5 38 (la.map i64v), blkE P6 38 (lb.map i64v)] wy7 from HM.out.put 1 rfl _ hg hb)
          clear hb hg
          refine hK.out _ _ (((HM.out.erase 0).erase 0)) (fun hHeld => ?_)
          clear hK K
          (try simp only [Act.put])
          refine wpAnyH_done (by kernel_rfl) ?_ _
          go_wp2_with fail
          go_meet
          exact ⟨P5, P6, rfl, rfl, Nat.le_trans (HB.out.2.2.2.2) (MemE.low HM.out.1 0 _ rfl), Nat.le_trans (HB.out.2.2.2.2) (MemE.low HM.out.1 1 _ rfl), HM.out.blk 0 rfl, HM.out.blk 1 rfl, HKE.out _ HM.out.bel⟩
        · clear hHeld
          go_simp
          replace HM := Lib.hid (show Mem wb [blkE wy3.heap.size 38 (zd 16), blkE P6 38 (zd 16)] (wy3.alloc (.cells cuZ16 38)) from HM.out.alloc rfl 38 cuZ16 (zd 16) rfl)
          generalize wy3.alloc (.cells cuZ16 38) = wy4 at HM ⊢
          generalize wy3.heap.size = P5 at HM ⊢
          refine hK.out _ _ (((HM.out.erase 0).erase 0)) (fun hHeld => ?_)
          clear hK K
          (try simp only [Act.put, List.setIfInBounds_toArray, List.set_cons_zero, List.set_cons_succ])
          refine step_one 9 rfl (by kernel_rfl) (fun K hK => ?_)
          clear hHeld
          go_simp
          refine (Klb.out _).mono ?_
          rintro e wy5 ⟨rfl, hb⟩
          replace HM := Lib.hid (show Mem wb [blkE P5 38 (zd 16), blkE P6 38 (zd 16)] wy5 from HM.out.below hb)
          clear hb
          go_wp2_with fail
          refine hK.out _ _ (((HM.out.erase 0).erase 0)) (fun hHeld => ?_)
          clear hK K
          (try simp only [Act.put, List.setIfInBounds_toArray, List.set_cons_zero, List.set_cons_succ])
          refine step_one 12 rfl (by kernel_rfl) (fun K hK => ?_)
          clear hHeld
          refine step_store_blk _ rfl 38 (.tmp 5) (.tmp 20) rfl P5 (la.map i64v) rfl (by show Value.agg cla = _; rw [Hla.out.1]) 38 (zd 16) (HM.out.blk 0 rfl) (cu_cells _ Hla.out.2.1.1) (by rw [List.length_map, Hla.out.2.1.1]; rfl) (by intro v hv; obtain ⟨_, _, rfl⟩ := List.mem_map.1 hv; rfl) ?_
          intro wy6 hb hg
          replace HM := Lib.hid (show Mem wb [blkE P5 38 (la.map i64v), blkE P6 38 (zd 16)] wy6 from HM.out.put 0 rfl _ hg hb)
          clear hb hg
          refine hK.out _ _ (((HM.out.erase 0).erase 0)) (fun hHeld => ?_)
          clear hK K
          (try simp only [Act.put])
          refine step_one 13 rfl (by kernel_rfl) (fun K hK => ?_)
          clear hHeld
          refine step_store_blk _ rfl 38 (.tmp 6) (.tmp 25) rfl P6 (lb.map i64v) rfl (by show Value.agg clb = _; rw [Hlb.out.1]) 38 (zd 16) (HM.out.blk 1 rfl) (cu_cells _ Hlb.out.2.1.1) (by rw [List.length_map, Hlb.out.2.1.1]; rfl) (by intro v hv; obtain ⟨_, _, rfl⟩ := List.mem_map.1 hv; rfl) ?_
          intro wy7 hb hg
          replace HM := Lib.hid (show Mem wb [blkE P5 38 (la.map i64v), blkE P6 38 (lb.map i64v)] wy7 from HM.out.put 1 rfl _ hg hb)
          clear hb hg
          refine hK.out _ _ (((HM.out.erase 0).erase 0)) (fun hHeld => ?_)
          clear hK K
          (try simp only [Act.put])
          refine wpAnyH_done (by kernel_rfl) ?_ _
          go_wp2_with fail
          go_meet
          exact ⟨P5, P6, rfl, rfl, Nat.le_trans (HB.out.2.2.2.2) (MemE.low HM.out.1 0 _ rfl), Nat.le_trans (HB.out.2.2.2.2) (MemE.low HM.out.1 1 _ rfl), HM.out.blk 0 rfl, HM.out.blk 1 rfl, HKE.out _ HM.out.bel⟩
      · clear hHeld
        go_simp
        replace HM := Lib.hid (show Mem wb [blkE wy2.heap.size 38 (zd 16), blkE P6 38 (zd 16)] (wy2.alloc (.cells cuZ16 38)) from HM.out.alloc rfl 38 cuZ16 (zd 16) rfl)
        generalize wy2.alloc (.cells cuZ16 38) = wy3 at HM ⊢
        generalize wy2.heap.size = P5 at HM ⊢
        refine hK.out _ _ (((HM.out.erase 0).erase 0)) (fun hHeld => ?_)
        clear hK K
        (try simp only [Act.put, List.setIfInBounds_toArray, List.set_cons_zero, List.set_cons_succ])
        refine step_one 4 rfl (by kernel_rfl) (fun K hK => ?_)
        clear hHeld
        go_simp
        refine (Kla.out _).mono ?_
        rintro e wy4 ⟨rfl, hb⟩
        replace HM := Lib.hid (show Mem wb [blkE P5 38 (zd 16), blkE P6 38 (zd 16)] wy4 from HM.out.below hb)
        clear hb
        go_wp2_with fail
        refine hK.out _ _ (((HM.out.erase 0).erase 0)) (fun hHeld => ?_)
        clear hK K
        (try simp only [Act.put, List.setIfInBounds_toArray, List.set_cons_zero, List.set_cons_succ])
        refine step_one 9 rfl (by kernel_rfl) (fun K hK => ?_)
        clear hHeld
        go_simp
        refine (Klb.out _).mono ?_
        rintro e wy5 ⟨rfl, hb⟩
        replace HM := Lib.hid (show Mem wb [blkE P5 38 (zd 16), blkE P6 38 (zd 16)] wy5 from HM.out.below hb)
        clear hb
        go_wp2_with fail
        refine hK.out _ _ (((HM.out.erase 0).erase 0)) (fun hHeld => ?_)
        clear hK K
        (try simp only [Act.put, List.setIfInBounds_toArray, List.set_cons_zero, List.set_cons_succ])
        refine step_one 12 rfl (by kernel_rfl) (fun K hK => ?_)
        clear hHeld
        refine step_store_blk _ rfl 38 (.tmp 5) (.tmp 20) rfl P5 (la.map i64v) rfl (by show Value.agg cla = _; rw [Hla.out.1]) 38 (zd 16) (HM.out.blk 0 rfl) (cu_cells _ Hla.out.2.1.1) (by rw [List.length_map, Hla.out.2.1.1]; rfl) (by intro v hv; obtain ⟨_, _, rfl⟩ := List.mem_map.1 hv; rfl) ?_
        intro wy6 hb hg
        replace HM := Lib.hid (show Mem wb [blkE P5 38 (la.map i64v), blkE P6 38 (zd 16)] wy6 from HM.out.put 0 rfl _ hg hb)
        clear hb hg
        refine hK.out _ _ (((HM.out.erase 0).erase 0)) (fun hHeld => ?_)
        clear hK K
        (try simp only [Act.put])
        refine step_one 13 rfl (by kernel_rfl) (fun K hK => ?_)
        clear hHeld
        refine step_store_blk _ rfl 38 (.tmp 6) (.tmp 25) rfl P6 (lb.map i64v) rfl (by show Value.agg clb = _; rw [Hlb.out.1]) 38 (zd 16) (HM.out.blk 1 rfl) (cu_cells _ Hlb.out.2.1.1) (by rw [List.length_map, Hlb.out.2.1.1]; rfl) (by intro v hv; obtain ⟨_, _, rfl⟩ := List.mem_map.1 hv; rfl) ?_
        intro wy7 hb hg
        replace HM := Lib.hid (show Mem wb [blkE P5 38 (la.map i64v), blkE P6 38 (lb.map i64v)] wy7 from HM.out.put 1 rfl _ hg hb)
        clear hb hg
        refine hK.out _ _ (((HM.out.erase 0).erase 0)) (fun hHeld => ?_)
        clear hK K
        (try simp only [Act.put])
        refine wpAnyH_done (by kernel_rfl) ?_ _
        go_wp2_with fail
        go_meet
        exact ⟨P5, P6, rfl, rfl, Nat.le_trans (HB.out.2.2.2.2) (MemE.low HM.out.1 0 _ rfl), Nat.le_trans (HB.out.2.2.2.2) (MemE.low HM.out.1 1 _ rfl), HM.out.blk 0 rfl, HM.out.blk 1 rfl, HKE.out _ HM.out.bel⟩
  case rest =>
  clear HB
  revert wc
  intro wb hcut
  obtain ⟨P5, P6, rfl, rfl, hP5, hP6, hcut⟩ := hcut
  have HB := Lib.hid hcut
  have HP5 := Lib.hid (And.intro hP5 hP6)
  clear hcut hP5 hP6
  have T7 := Lib.hid (show ∀ W : World, Calls Try.prog 23 #[.agg cla, .agg cla] W fun e w' => ∃ r, Cu.Good r ∧ Cu.fq (Cu.valL r) = (Cu.fq (Cu.valL x2) + Cu.fq (Cu.valL z2)) * (Cu.fq (Cu.valL x2) + Cu.fq (Cu.valL z2)) ∧ e = .returned (.agg (r.map i64v).toArray) ∧ Below W.heap.size W w' from fun W => by
    have h := refTimes_any la la (Hla.out.2.1).1 (Hla.out.2.1).1 (Hla.out.2.1).2 (Hla.out.2.1).2 W
    rw [Hla.out.2.2, Hla.out.1] at h
    exact h)
  have T8 := Lib.hid (show ∀ W : World, Calls Try.prog 23 #[.agg clb, .agg clb] W fun e w' => ∃ r, Cu.Good r ∧ Cu.fq (Cu.valL r) = (Cu.fq (Cu.valL x2) - Cu.fq (Cu.valL z2)) * (Cu.fq (Cu.valL x2) - Cu.fq (Cu.valL z2)) ∧ e = .returned (.agg (r.map i64v).toArray) ∧ Below W.heap.size W w' from fun W => by
    have h := refTimes_any lb lb (Hlb.out.2.1).1 (Hlb.out.2.1).1 (Hlb.out.2.1).2 (Hlb.out.2.1).2 W
    rw [Hlb.out.2.2, Hlb.out.1] at h
    exact h)
  go_upto_region 2 with fail
  go_cut [7, 8] (fun p q wx => ∃ P7 P8 r7 r8, p = .pointer (some ⟨P7, 0, none⟩) ∧ q = .pointer (some ⟨P8, 0, none⟩) ∧ Cu.Good r7 ∧ Cu.fq (Cu.valL r7) = (Cu.fq (Cu.valL x2) + Cu.fq (Cu.valL z2)) * (Cu.fq (Cu.valL x2) + Cu.fq (Cu.valL z2)) ∧ Cu.Good r8 ∧ Cu.fq (Cu.valL r8) = (Cu.fq (Cu.valL x2) - Cu.fq (Cu.valL z2)) * (Cu.fq (Cu.valL x2) - Cu.fq (Cu.valL z2)) ∧ w.heap.size + 3 ≤ P7 ∧ w.heap.size + 3 ≤ P8 ∧ Blk wx P7 38 (r7.map i64v) ∧ Blk wx P8 38 (r8.map i64v) ∧ Blk wx P5 38 (la.map i64v) ∧ Blk wx P6 38 (lb.map i64v) ∧ Blk wx w.heap.size 41 (ladV x2 z2 x3 z3) ∧ Blk wx (w.heap.size + 1) 38 (x1.map i64v) ∧ Blk wx (w.heap.size + 1 + 1) 41 (zd 64) ∧ Below w.heap.size w wx ∧ w.heap.size + 3 ≤ wx.heap.size)
  case first =>
    have HM := Lib.hid (Mem.nil wb)
    have HKE := Lib.hid (show ∀ W, Below wb.heap.size wb W → Blk W P5 38 (la.map i64v) ∧ Blk W P6 38 (lb.map i64v) ∧ Blk W w.heap.size 41 (ladV x2 z2 x3 z3) ∧ Blk W (w.heap.size + 1) 38 (x1.map i64v) ∧ Blk W (w.heap.size + 1 + 1) 41 (zd 64) ∧ Below w.heap.size w W ∧ w.heap.size + 3 ≤ W.heap.size from fun W hW => ⟨(HB.out.1).below hW (HB.out.1).lt, (HB.out.2.1).below hW (HB.out.2.1).lt, (HB.out.2.2.1).below hW (HB.out.2.2.1).lt, (HB.out.2.2.2.1).below hW (HB.out.2.2.2.1).lt, (HB.out.2.2.2.2.1).below hW (HB.out.2.2.2.2.1).lt, (HB.out.2.2.2.2.2.1).trans (hW.mono (HB.out.2.2.2.2.2.1).size), Nat.le_trans (HB.out.2.2.2.2.2.2) hW.size⟩)
    refine wp_region_held_drew (S := fun W' => Mem wb [] W') (by kernel_rfl) (HM.out.drew) (fun hHeld => ?_)
    replace HM := Lib.hid HM.out.drew
    generalize wb.drew = wd1 at HM hHeld ⊢
    refine take_first (v := .agg cla) 0 rfl (by kernel_rfl) (by kernel_rfl) (by kernel_rfl) (fun _ _ _ h => h) (by rw [← Hla.out.1]; exact yields_load_blk (by rfl) 38 (.tmp 5) rfl P5 rfl 38 (la.map i64v) (fun w' hb => (HB.out.1).below hb.bel (HB.out.1).lt) 16 2 Try.underlying38 (cu_cells la Hla.out.2.1.1)) (by assumption) ?_
    (try simp only [Act.put, List.setIfInBounds_toArray, List.set_cons_zero, List.set_cons_succ])
    refine take_first (v := .agg cla) 1 rfl (by kernel_rfl) (by kernel_rfl) (by kernel_rfl) (fun _ _ _ h => h) (by rw [← Hla.out.1]; exact yields_load_blk (by rfl) 38 (.tmp 5) rfl P5 rfl 38 (la.map i64v) (fun w' hb => (HB.out.1).below hb.bel (HB.out.1).lt) 16 2 Try.underlying38 (cu_cells la Hla.out.2.1.1)) (by assumption) ?_
    (try simp only [Act.put, List.setIfInBounds_toArray, List.set_cons_zero, List.set_cons_succ])
    refine take_first (v := .agg clb) 3 rfl (by kernel_rfl) (by kernel_rfl) (by kernel_rfl) (fun _ _ _ h => h) (by rw [← Hlb.out.1]; exact yields_load_blk (by rfl) 38 (.tmp 6) rfl P6 rfl 38 (lb.map i64v) (fun w' hb => (HB.out.2.1).below hb.bel (HB.out.2.1).lt) 16 2 Try.underlying38 (cu_cells lb Hlb.out.2.1.1)) (by assumption) ?_
    (try simp only [Act.put, List.setIfInBounds_toArray, List.set_cons_zero, List.set_cons_succ])
    refine take_first (v := .agg clb) 4 rfl (by kernel_rfl) (by kernel_rfl) (by kernel_rfl) (fun _ _ _ h => h) (by rw [← Hlb.out.1]; exact yields_load_blk (by rfl) 38 (.tmp 6) rfl P6 rfl 38 (lb.map i64v) (fun w' hb => (HB.out.2.1).below hb.bel (HB.out.2.1).lt) 16 2 Try.underlying38 (cu_cells lb Hlb.out.2.1.1)) (by assumption) ?_
    (try simp only [Act.put, List.setIfInBounds_toArray, List.set_cons_zero, List.set_cons_succ])
    refine step_three 2 6 7 rfl rfl rfl (by kernel_rfl) (fun K hK => ?_) (fun K hK => ?_) (fun K hK => ?_)
    · clear hHeld
      go_simp
      refine (T7.out _).mono ?_
      rintro e wy2 ⟨r7, hr7, vr7, rfl, hb⟩
      replace HM := Lib.hid (show Mem wb [] wy2 from HM.out.below hb)
      obtain ⟨c7, hc7⟩ : ∃ c, (r7.map i64v).toArray = c := ⟨_, rfl⟩
      rw [hc7]
      clear hb
      go_wp2_with fail
      refine hK.out _ _ (HM.out) (fun hHeld => ?_)
      clear hK K
      (try simp only [Act.put, List.setIfInBounds_toArray, List.set_cons_zero, List.set_cons_succ])
      refine step_three 5 6 7 rfl rfl rfl (by kernel_rfl) (fun K hK => ?_) (fun K hK => ?_) (fun K hK => ?_)
      · clear hHeld
        go_simp
        refine (T8.out _).mono ?_
        rintro e wy3 ⟨r8, hr8, vr8, rfl, hb⟩
        replace HM := Lib.hid (show Mem wb [] wy3 from HM.out.below hb)
        obtain ⟨c8, hc8⟩ : ∃ c, (r8.map i64v).toArray = c := ⟨_, rfl⟩
        rw [hc8]
        clear hb
        go_wp2_with fail
        refine hK.out _ _ (HM.out) (fun hHeld => ?_)
        clear hK K
        (try simp only [Act.put, List.setIfInBounds_toArray, List.set_cons_zero, List.set_cons_succ])
        refine step_two 6 7 rfl rfl (by kernel_rfl) (fun K hK => ?_) (fun K hK => ?_)
        · clear hHeld
          go_simp
          replace HM := Lib.hid (show Mem wb [blkE wy3.heap.size 38 (zd 16)] (wy3.alloc (.cells cuZ16 38)) from HM.out.alloc rfl 38 cuZ16 (zd 16) rfl)
          generalize wy3.alloc (.cells cuZ16 38) = wy4 at HM ⊢
          generalize wy3.heap.size = P7 at HM ⊢
          refine hK.out _ _ ((HM.out.erase 0)) (fun hHeld => ?_)
          clear hK K
          (try simp only [Act.put, List.setIfInBounds_toArray, List.set_cons_zero, List.set_cons_succ])
          refine step_one 7 rfl (by kernel_rfl) (fun K hK => ?_)
          clear hHeld
          go_simp
          replace HM := Lib.hid (show Mem wb [blkE wy4.heap.size 38 (zd 16), blkE P7 38 (zd 16)] (wy4.alloc (.cells cuZ16 38)) from HM.out.alloc rfl 38 cuZ16 (zd 16) rfl)
          generalize wy4.alloc (.cells cuZ16 38) = wy5 at HM ⊢
          generalize wy4.heap.size = P8 at HM ⊢
          refine hK.out _ _ (((HM.out.erase 0).erase 0)) (fun hHeld => ?_)
          clear hK K
          (try simp only [Act.put, List.setIfInBounds_toArray, List.set_cons_zero, List.set_cons_succ])
          refine step_one 8 rfl (by kernel_rfl) (fun K hK => ?_)
          clear hHeld
          refine step_store_blk _ rfl 38 (.tmp 7) (.tmp 28) rfl P7 (r7.map i64v) rfl (by show Value.agg c7 = _; rw [hc7]) 38 (zd 16) (HM.out.blk 1 rfl) (cu_cells _ hr7.1) (by rw [List.length_map, hr7.1]; rfl) (by intro v hv; obtain ⟨_, _, rfl⟩ := List.mem_map.1 hv; rfl) ?_
          intro wy6 hb hg
          replace HM := Lib.hid (show Mem wb [blkE P8 38 (zd 16), blkE P7 38 (r7.map i64v)] wy6 from HM.out.put 1 rfl _ hg hb)
          clear hb hg
          refine hK.out _ _ (((HM.out.erase 0).erase 0)) (fun hHeld => ?_)
          clear hK K
          (try simp only [Act.put])
          refine step_one 9 rfl (by kernel_rfl) (fun K hK => ?_)
          clear hHeld
          refine step_store_blk _ rfl 38 (.tmp 8) (.tmp 31) rfl P8 (r8.map i64v) rfl (by show Value.agg c8 = _; rw [hc8]) 38 (zd 16) (HM.out.blk 0 rfl) (cu_cells _ hr8.1) (by rw [List.length_map, hr8.1]; rfl) (by intro v hv; obtain ⟨_, _, rfl⟩ := List.mem_map.1 hv; rfl) ?_
          intro wy7 hb hg
          replace HM := Lib.hid (show Mem wb [blkE P8 38 (r8.map i64v), blkE P7 38 (r7.map i64v)] wy7 from HM.out.put 0 rfl _ hg hb)
          clear hb hg
          refine hK.out _ _ (((HM.out.erase 0).erase 0)) (fun hHeld => ?_)
          clear hK K
          (try simp only [Act.put])
          refine wpAnyH_done (by kernel_rfl) ?_ _
          go_wp2_with fail
          go_meet
          exact ⟨P7, P8, r7, r8, rfl, rfl, hr7, vr7, hr8, vr8, Nat.le_trans (HB.out.2.2.2.2.2.2) (MemE.low HM.out.1 1 _ rfl), Nat.le_trans (HB.out.2.2.2.2.2.2) (MemE.low HM.out.1 0 _ rfl), HM.out.blk 1 rfl, HM.out.blk 0 rfl, HKE.out _ HM.out.bel⟩
        · clear hHeld
          go_simp
          replace HM := Lib.hid (show Mem wb [blkE wy3.heap.size 38 (zd 16)] (wy3.alloc (.cells cuZ16 38)) from HM.out.alloc rfl 38 cuZ16 (zd 16) rfl)
          generalize wy3.alloc (.cells cuZ16 38) = wy4 at HM ⊢
          generalize wy3.heap.size = P8 at HM ⊢
          refine hK.out _ _ ((HM.out.erase 0)) (fun hHeld => ?_)
          clear hK K
          (try simp only [Act.put, List.setIfInBounds_toArray, List.set_cons_zero, List.set_cons_succ])
          refine step_one 6 rfl (by kernel_rfl) (fun K hK => ?_)
          clear hHeld
          go_simp
          replace HM := Lib.hid (show Mem wb [blkE wy4.heap.size 38 (zd 16), blkE P8 38 (zd 16)] (wy4.alloc (.cells cuZ16 38)) from HM.out.alloc rfl 38 cuZ16 (zd 16) rfl)
          generalize wy4.alloc (.cells cuZ16 38) = wy5 at HM ⊢
          generalize wy4.heap.size = P7 at HM ⊢
          refine hK.out _ _ (((HM.out.erase 0).erase 0)) (fun hHeld => ?_)
          clear hK K
          (try simp only [Act.put, List.setIfInBounds_toArray, List.set_cons_zero, List.set_cons_succ])
          refine step_one 8 rfl (by kernel_rfl) (fun K hK => ?_)
          clear hHeld
          refine step_store_blk _ rfl 38 (.tmp 7) (.tmp 28) rfl P7 (r7.map i64v) rfl (by show Value.agg c7 = _; rw [hc7]) 38 (zd 16) (HM.out.blk 0 rfl) (cu_cells _ hr7.1) (by rw [List.length_map, hr7.1]; rfl) (by intro v hv; obtain ⟨_, _, rfl⟩ := List.mem_map.1 hv; rfl) ?_
          intro wy6 hb hg
          replace HM := Lib.hid (show Mem wb [blkE P7 38 (r7.map i64v), blkE P8 38 (zd 16)] wy6 from HM.out.put 0 rfl _ hg hb)
          clear hb hg
          refine hK.out _ _ (((HM.out.erase 0).erase 0)) (fun hHeld => ?_)
          clear hK K
          (try simp only [Act.put])
          refine step_one 9 rfl (by kernel_rfl) (fun K hK => ?_)
          clear hHeld
          refine step_store_blk _ rfl 38 (.tmp 8) (.tmp 31) rfl P8 (r8.map i64v) rfl (by show Value.agg c8 = _; rw [hc8]) 38 (zd 16) (HM.out.blk 1 rfl) (cu_cells _ hr8.1) (by rw [List.length_map, hr8.1]; rfl) (by intro v hv; obtain ⟨_, _, rfl⟩ := List.mem_map.1 hv; rfl) ?_
          intro wy7 hb hg
          replace HM := Lib.hid (show Mem wb [blkE P7 38 (r7.map i64v), blkE P8 38 (r8.map i64v)] wy7 from HM.out.put 1 rfl _ hg hb)
          clear hb hg
          refine hK.out _ _ (((HM.out.erase 0).erase 0)) (fun hHeld => ?_)
          clear hK K
          (try simp only [Act.put])
          refine wpAnyH_done (by kernel_rfl) ?_ _
          go_wp2_with fail
          go_meet
          exact ⟨P7, P8, r7, r8, rfl, rfl, hr7, vr7, hr8, vr8, Nat.le_trans (HB.out.2.2.2.2.2.2) (MemE.low HM.out.1 0 _ rfl), Nat.le_trans (HB.out.2.2.2.2.2.2) (MemE.low HM.out.1 1 _ rfl), HM.out.blk 0 rfl, HM.out.blk 1 rfl, HKE.out _ HM.out.bel⟩
      · clear hHeld
        go_simp
        replace HM := Lib.hid (show Mem wb [blkE wy2.heap.size 38 (zd 16)] (wy2.alloc (.cells cuZ16 38)) from HM.out.alloc rfl 38 cuZ16 (zd 16) rfl)
        generalize wy2.alloc (.cells cuZ16 38) = wy3 at HM ⊢
        generalize wy2.heap.size = P7 at HM ⊢
        refine hK.out _ _ ((HM.out.erase 0)) (fun hHeld => ?_)
        clear hK K
        (try simp only [Act.put, List.setIfInBounds_toArray, List.set_cons_zero, List.set_cons_succ])
        refine step_two 5 7 rfl rfl (by kernel_rfl) (fun K hK => ?_) (fun K hK => ?_)
        · clear hHeld
          go_simp
          refine (T8.out _).mono ?_
          rintro e wy4 ⟨r8, hr8, vr8, rfl, hb⟩
          replace HM := Lib.hid (show Mem wb [blkE P7 38 (zd 16)] wy4 from HM.out.below hb)
          obtain ⟨c8, hc8⟩ : ∃ c, (r8.map i64v).toArray = c := ⟨_, rfl⟩
          rw [hc8]
          clear hb
          go_wp2_with fail
          refine hK.out _ _ ((HM.out.erase 0)) (fun hHeld => ?_)
          clear hK K
          (try simp only [Act.put, List.setIfInBounds_toArray, List.set_cons_zero, List.set_cons_succ])
          refine step_one 7 rfl (by kernel_rfl) (fun K hK => ?_)
          clear hHeld
          go_simp
          replace HM := Lib.hid (show Mem wb [blkE wy4.heap.size 38 (zd 16), blkE P7 38 (zd 16)] (wy4.alloc (.cells cuZ16 38)) from HM.out.alloc rfl 38 cuZ16 (zd 16) rfl)
          generalize wy4.alloc (.cells cuZ16 38) = wy5 at HM ⊢
          generalize wy4.heap.size = P8 at HM ⊢
          refine hK.out _ _ (((HM.out.erase 0).erase 0)) (fun hHeld => ?_)
          clear hK K
          (try simp only [Act.put, List.setIfInBounds_toArray, List.set_cons_zero, List.set_cons_succ])
          refine step_one 8 rfl (by kernel_rfl) (fun K hK => ?_)
          clear hHeld
          refine step_store_blk _ rfl 38 (.tmp 7) (.tmp 28) rfl P7 (r7.map i64v) rfl (by show Value.agg c7 = _; rw [hc7]) 38 (zd 16) (HM.out.blk 1 rfl) (cu_cells _ hr7.1) (by rw [List.length_map, hr7.1]; rfl) (by intro v hv; obtain ⟨_, _, rfl⟩ := List.mem_map.1 hv; rfl) ?_
          intro wy6 hb hg
          replace HM := Lib.hid (show Mem wb [blkE P8 38 (zd 16), blkE P7 38 (r7.map i64v)] wy6 from HM.out.put 1 rfl _ hg hb)
          clear hb hg
          refine hK.out _ _ (((HM.out.erase 0).erase 0)) (fun hHeld => ?_)
          clear hK K
          (try simp only [Act.put])
          refine step_one 9 rfl (by kernel_rfl) (fun K hK => ?_)
          clear hHeld
          refine step_store_blk _ rfl 38 (.tmp 8) (.tmp 31) rfl P8 (r8.map i64v) rfl (by show Value.agg c8 = _; rw [hc8]) 38 (zd 16) (HM.out.blk 0 rfl) (cu_cells _ hr8.1) (by rw [List.length_map, hr8.1]; rfl) (by intro v hv; obtain ⟨_, _, rfl⟩ := List.mem_map.1 hv; rfl) ?_
          intro wy7 hb hg
          replace HM := Lib.hid (show Mem wb [blkE P8 38 (r8.map i64v), blkE P7 38 (r7.map i64v)] wy7 from HM.out.put 0 rfl _ hg hb)
          clear hb hg
          refine hK.out _ _ (((HM.out.erase 0).erase 0)) (fun hHeld => ?_)
          clear hK K
          (try simp only [Act.put])
          refine wpAnyH_done (by kernel_rfl) ?_ _
          go_wp2_with fail
          go_meet
          exact ⟨P7, P8, r7, r8, rfl, rfl, hr7, vr7, hr8, vr8, Nat.le_trans (HB.out.2.2.2.2.2.2) (MemE.low HM.out.1 1 _ rfl), Nat.le_trans (HB.out.2.2.2.2.2.2) (MemE.low HM.out.1 0 _ rfl), HM.out.blk 1 rfl, HM.out.blk 0 rfl, HKE.out _ HM.out.bel⟩
        · clear hHeld
          go_simp
          replace HM := Lib.hid (show Mem wb [blkE wy3.heap.size 38 (zd 16), blkE P7 38 (zd 16)] (wy3.alloc (.cells cuZ16 38)) from HM.out.alloc rfl 38 cuZ16 (zd 16) rfl)
          generalize wy3.alloc (.cells cuZ16 38) = wy4 at HM ⊢
          generalize wy3.heap.size = P8 at HM ⊢
          refine hK.out _ _ (((HM.out.erase 0).erase 0)) (fun hHeld => ?_)
          clear hK K
          (try simp only [Act.put, List.setIfInBounds_toArray, List.set_cons_zero, List.set_cons_succ])
          refine step_one 5 rfl (by kernel_rfl) (fun K hK => ?_)
          clear hHeld
          go_simp
          refine (T8.out _).mono ?_
          rintro e wy5 ⟨r8, hr8, vr8, rfl, hb⟩
          replace HM := Lib.hid (show Mem wb [blkE P8 38 (zd 16), blkE P7 38 (zd 16)] wy5 from HM.out.below hb)
          obtain ⟨c8, hc8⟩ : ∃ c, (r8.map i64v).toArray = c := ⟨_, rfl⟩
          rw [hc8]
          clear hb
          go_wp2_with fail
          refine hK.out _ _ (((HM.out.erase 0).erase 0)) (fun hHeld => ?_)
          clear hK K
          (try simp only [Act.put, List.setIfInBounds_toArray, List.set_cons_zero, List.set_cons_succ])
          refine step_one 8 rfl (by kernel_rfl) (fun K hK => ?_)
          clear hHeld
          refine step_store_blk _ rfl 38 (.tmp 7) (.tmp 28) rfl P7 (r7.map i64v) rfl (by show Value.agg c7 = _; rw [hc7]) 38 (zd 16) (HM.out.blk 1 rfl) (cu_cells _ hr7.1) (by rw [List.length_map, hr7.1]; rfl) (by intro v hv; obtain ⟨_, _, rfl⟩ := List.mem_map.1 hv; rfl) ?_
          intro wy6 hb hg
          replace HM := Lib.hid (show Mem wb [blkE P8 38 (zd 16), blkE P7 38 (r7.map i64v)] wy6 from HM.out.put 1 rfl _ hg hb)
          clear hb hg
          refine hK.out _ _ (((HM.out.erase 0).erase 0)) (fun hHeld => ?_)
          clear hK K
          (try simp only [Act.put])
          refine step_one 9 rfl (by kernel_rfl) (fun K hK => ?_)
          clear hHeld
          refine step_store_blk _ rfl 38 (.tmp 8) (.tmp 31) rfl P8 (r8.map i64v) rfl (by show Value.agg c8 = _; rw [hc8]) 38 (zd 16) (HM.out.blk 0 rfl) (cu_cells _ hr8.1) (by rw [List.length_map, hr8.1]; rfl) (by intro v hv; obtain ⟨_, _, rfl⟩ := List.mem_map.1 hv; rfl) ?_
          intro wy7 hb hg
          replace HM := Lib.hid (show Mem wb [blkE P8 38 (r8.map i64v), blkE P7 38 (r7.map i64v)] wy7 from HM.out.put 0 rfl _ hg hb)
          clear hb hg
          refine hK.out _ _ (((HM.out.erase 0).erase 0)) (fun hHeld => ?_)
          clear hK K
          (try simp only [Act.put])
          refine wpAnyH_done (by kernel_rfl) ?_ _
          go_wp2_with fail
          go_meet
          exact ⟨P7, P8, r7, r8, rfl, rfl, hr7, vr7, hr8, vr8, Nat.le_trans (HB.out.2.2.2.2.2.2) (MemE.low HM.out.1 1 _ rfl), Nat.le_trans (HB.out.2.2.2.2.2.2) (MemE.low HM.out.1 0 _ rfl), HM.out.blk 1 rfl, HM.out.blk 0 rfl, HKE.out _ HM.out.bel⟩
      · clear hHeld
        go_simp
        replace HM := Lib.hid (show Mem wb [blkE wy2.heap.size 38 (zd 16)] (wy2.alloc (.cells cuZ16 38)) from HM.out.alloc rfl 38 cuZ16 (zd 16) rfl)
        generalize wy2.alloc (.cells cuZ16 38) = wy3 at HM ⊢
        generalize wy2.heap.size = P8 at HM ⊢
        refine hK.out _ _ ((HM.out.erase 0)) (fun hHeld => ?_)
        clear hK K
        (try simp only [Act.put, List.setIfInBounds_toArray, List.set_cons_zero, List.set_cons_succ])
        refine step_two 5 6 rfl rfl (by kernel_rfl) (fun K hK => ?_) (fun K hK => ?_)
        · clear hHeld
          go_simp
          refine (T8.out _).mono ?_
          rintro e wy4 ⟨r8, hr8, vr8, rfl, hb⟩
          replace HM := Lib.hid (show Mem wb [blkE P8 38 (zd 16)] wy4 from HM.out.below hb)
          obtain ⟨c8, hc8⟩ : ∃ c, (r8.map i64v).toArray = c := ⟨_, rfl⟩
          rw [hc8]
          clear hb
          go_wp2_with fail
          refine hK.out _ _ ((HM.out.erase 0)) (fun hHeld => ?_)
          clear hK K
          (try simp only [Act.put, List.setIfInBounds_toArray, List.set_cons_zero, List.set_cons_succ])
          refine step_one 6 rfl (by kernel_rfl) (fun K hK => ?_)
          clear hHeld
          go_simp
          replace HM := Lib.hid (show Mem wb [blkE wy4.heap.size 38 (zd 16), blkE P8 38 (zd 16)] (wy4.alloc (.cells cuZ16 38)) from HM.out.alloc rfl 38 cuZ16 (zd 16) rfl)
          generalize wy4.alloc (.cells cuZ16 38) = wy5 at HM ⊢
          generalize wy4.heap.size = P7 at HM ⊢
          refine hK.out _ _ (((HM.out.erase 0).erase 0)) (fun hHeld => ?_)
          clear hK K
          (try simp only [Act.put, List.setIfInBounds_toArray, List.set_cons_zero, List.set_cons_succ])
          refine step_one 8 rfl (by kernel_rfl) (fun K hK => ?_)
          clear hHeld
          refine step_store_blk _ rfl 38 (.tmp 7) (.tmp 28) rfl P7 (r7.map i64v) rfl (by show Value.agg c7 = _; rw [hc7]) 38 (zd 16) (HM.out.blk 0 rfl) (cu_cells _ hr7.1) (by rw [List.length_map, hr7.1]; rfl) (by intro v hv; obtain ⟨_, _, rfl⟩ := List.mem_map.1 hv; rfl) ?_
          intro wy6 hb hg
          replace HM := Lib.hid (show Mem wb [blkE P7 38 (r7.map i64v), blkE P8 38 (zd 16)] wy6 from HM.out.put 0 rfl _ hg hb)
          clear hb hg
          refine hK.out _ _ (((HM.out.erase 0).erase 0)) (fun hHeld => ?_)
          clear hK K
          (try simp only [Act.put])
          refine step_one 9 rfl (by kernel_rfl) (fun K hK => ?_)
          clear hHeld
          refine step_store_blk _ rfl 38 (.tmp 8) (.tmp 31) rfl P8 (r8.map i64v) rfl (by show Value.agg c8 = _; rw [hc8]) 38 (zd 16) (HM.out.blk 1 rfl) (cu_cells _ hr8.1) (by rw [List.length_map, hr8.1]; rfl) (by intro v hv; obtain ⟨_, _, rfl⟩ := List.mem_map.1 hv; rfl) ?_
          intro wy7 hb hg
          replace HM := Lib.hid (show Mem wb [blkE P7 38 (r7.map i64v), blkE P8 38 (r8.map i64v)] wy7 from HM.out.put 1 rfl _ hg hb)
          clear hb hg
          refine hK.out _ _ (((HM.out.erase 0).erase 0)) (fun hHeld => ?_)
          clear hK K
          (try simp only [Act.put])
          refine wpAnyH_done (by kernel_rfl) ?_ _
          go_wp2_with fail
          go_meet
          exact ⟨P7, P8, r7, r8, rfl, rfl, hr7, vr7, hr8, vr8, Nat.le_trans (HB.out.2.2.2.2.2.2) (MemE.low HM.out.1 0 _ rfl), Nat.le_trans (HB.out.2.2.2.2.2.2) (MemE.low HM.out.1 1 _ rfl), HM.out.blk 0 rfl, HM.out.blk 1 rfl, HKE.out _ HM.out.bel⟩
        · clear hHeld
          go_simp
          replace HM := Lib.hid (show Mem wb [blkE wy3.heap.size 38 (zd 16), blkE P8 38 (zd 16)] (wy3.alloc (.cells cuZ16 38)) from HM.out.alloc rfl 38 cuZ16 (zd 16) rfl)
          generalize wy3.alloc (.cells cuZ16 38) = wy4 at HM ⊢
          generalize wy3.heap.size = P7 at HM ⊢
          refine hK.out _ _ (((HM.out.erase 0).erase 0)) (fun hHeld => ?_)
          clear hK K
          (try simp only [Act.put, List.setIfInBounds_toArray, List.set_cons_zero, List.set_cons_succ])
          refine step_one 5 rfl (by kernel_rfl) (fun K hK => ?_)
          clear hHeld
          go_simp
          refine (T8.out _).mono ?_
          rintro e wy5 ⟨r8, hr8, vr8, rfl, hb⟩
          replace HM := Lib.hid (show Mem wb [blkE P7 38 (zd 16), blkE P8 38 (zd 16)] wy5 from HM.out.below hb)
          obtain ⟨c8, hc8⟩ : ∃ c, (r8.map i64v).toArray = c := ⟨_, rfl⟩
          rw [hc8]
          clear hb
          go_wp2_with fail
          refine hK.out _ _ (((HM.out.erase 0).erase 0)) (fun hHeld => ?_)
          clear hK K
          (try simp only [Act.put, List.setIfInBounds_toArray, List.set_cons_zero, List.set_cons_succ])
          refine step_one 8 rfl (by kernel_rfl) (fun K hK => ?_)
          clear hHeld
          refine step_store_blk _ rfl 38 (.tmp 7) (.tmp 28) rfl P7 (r7.map i64v) rfl (by show Value.agg c7 = _; rw [hc7]) 38 (zd 16) (HM.out.blk 0 rfl) (cu_cells _ hr7.1) (by rw [List.length_map, hr7.1]; rfl) (by intro v hv; obtain ⟨_, _, rfl⟩ := List.mem_map.1 hv; rfl) ?_
          intro wy6 hb hg
          replace HM := Lib.hid (show Mem wb [blkE P7 38 (r7.map i64v), blkE P8 38 (zd 16)] wy6 from HM.out.put 0 rfl _ hg hb)
          clear hb hg
          refine hK.out _ _ (((HM.out.erase 0).erase 0)) (fun hHeld => ?_)
          clear hK K
          (try simp only [Act.put])
          refine step_one 9 rfl (by kernel_rfl) (fun K hK => ?_)
          clear hHeld
          refine step_store_blk _ rfl 38 (.tmp 8) (.tmp 31) rfl P8 (r8.map i64v) rfl (by show Value.agg c8 = _; rw [hc8]) 38 (zd 16) (HM.out.blk 1 rfl) (cu_cells _ hr8.1) (by rw [List.length_map, hr8.1]; rfl) (by intro v hv; obtain ⟨_, _, rfl⟩ := List.mem_map.1 hv; rfl) ?_
          intro wy7 hb hg
          replace HM := Lib.hid (show Mem wb [blkE P7 38 (r7.map i64v), blkE P8 38 (r8.map i64v)] wy7 from HM.out.put 1 rfl _ hg hb)
          clear hb hg
          refine hK.out _ _ (((HM.out.erase 0).erase 0)) (fun hHeld => ?_)
          clear hK K
          (try simp only [Act.put])
          refine wpAnyH_done (by kernel_rfl) ?_ _
          go_wp2_with fail
          go_meet
          exact ⟨P7, P8, r7, r8, rfl, rfl, hr7, vr7, hr8, vr8, Nat.le_trans (HB.out.2.2.2.2.2.2) (MemE.low HM.out.1 0 _ rfl), Nat.le_trans (HB.out.2.2.2.2.2.2) (MemE.low HM.out.1 1 _ rfl), HM.out.blk 0 rfl, HM.out.blk 1 rfl, HKE.out _ HM.out.bel⟩
    · clear hHeld
      go_simp
      replace HM := Lib.hid (show Mem wb [blkE wd1.heap.size 38 (zd 16)] (wd1.alloc (.cells cuZ16 38)) from HM.out.alloc rfl 38 cuZ16 (zd 16) rfl)
      generalize wd1.alloc (.cells cuZ16 38) = wy2 at HM ⊢
      generalize wd1.heap.size = P7 at HM ⊢
      refine hK.out _ _ ((HM.out.erase 0)) (fun hHeld => ?_)
      clear hK K
      (try simp only [Act.put, List.setIfInBounds_toArray, List.set_cons_zero, List.set_cons_succ])
      refine step_two 2 7 rfl rfl (by kernel_rfl) (fun K hK => ?_) (fun K hK => ?_)
      · clear hHeld
        go_simp
        refine (T7.out _).mono ?_
        rintro e wy3 ⟨r7, hr7, vr7, rfl, hb⟩
        replace HM := Lib.hid (show Mem wb [blkE P7 38 (zd 16)] wy3 from HM.out.below hb)
        obtain ⟨c7, hc7⟩ : ∃ c, (r7.map i64v).toArray = c := ⟨_, rfl⟩
        rw [hc7]
        clear hb
        go_wp2_with fail
        refine hK.out _ _ ((HM.out.erase 0)) (fun hHeld => ?_)
        clear hK K
        (try simp only [Act.put, List.setIfInBounds_toArray, List.set_cons_zero, List.set_cons_succ])
        refine step_two 5 7 rfl rfl (by kernel_rfl) (fun K hK => ?_) (fun K hK => ?_)
        · clear hHeld
          go_simp
          refine (T8.out _).mono ?_
          rintro e wy4 ⟨r8, hr8, vr8, rfl, hb⟩
          replace HM := Lib.hid (show Mem wb [blkE P7 38 (zd 16)] wy4 from HM.out.below hb)
          obtain ⟨c8, hc8⟩ : ∃ c, (r8.map i64v).toArray = c := ⟨_, rfl⟩
          rw [hc8]
          clear hb
          go_wp2_with fail
          refine hK.out _ _ ((HM.out.erase 0)) (fun hHeld => ?_)
          clear hK K
          (try simp only [Act.put, List.setIfInBounds_toArray, List.set_cons_zero, List.set_cons_succ])
          refine step_one 7 rfl (by kernel_rfl) (fun K hK => ?_)
          clear hHeld
          go_simp
          replace HM := Lib.hid (show Mem wb [blkE wy4.heap.size 38 (zd 16), blkE P7 38 (zd 16)] (wy4.alloc (.cells cuZ16 38)) from HM.out.alloc rfl 38 cuZ16 (zd 16) rfl)
          generalize wy4.alloc (.cells cuZ16 38) = wy5 at HM ⊢
          generalize wy4.heap.size = P8 at HM ⊢
          refine hK.out _ _ (((HM.out.erase 0).erase 0)) (fun hHeld => ?_)
          clear hK K
          (try simp only [Act.put, List.setIfInBounds_toArray, List.set_cons_zero, List.set_cons_succ])
          refine step_one 8 rfl (by kernel_rfl) (fun K hK => ?_)
          clear hHeld
          refine step_store_blk _ rfl 38 (.tmp 7) (.tmp 28) rfl P7 (r7.map i64v) rfl (by show Value.agg c7 = _; rw [hc7]) 38 (zd 16) (HM.out.blk 1 rfl) (cu_cells _ hr7.1) (by rw [List.length_map, hr7.1]; rfl) (by intro v hv; obtain ⟨_, _, rfl⟩ := List.mem_map.1 hv; rfl) ?_
          intro wy6 hb hg
          replace HM := Lib.hid (show Mem wb [blkE P8 38 (zd 16), blkE P7 38 (r7.map i64v)] wy6 from HM.out.put 1 rfl _ hg hb)
          clear hb hg
          refine hK.out _ _ (((HM.out.erase 0).erase 0)) (fun hHeld => ?_)
          clear hK K
          (try simp only [Act.put])
          refine step_one 9 rfl (by kernel_rfl) (fun K hK => ?_)
          clear hHeld
          refine step_store_blk _ rfl 38 (.tmp 8) (.tmp 31) rfl P8 (r8.map i64v) rfl (by show Value.agg c8 = _; rw [hc8]) 38 (zd 16) (HM.out.blk 0 rfl) (cu_cells _ hr8.1) (by rw [List.length_map, hr8.1]; rfl) (by intro v hv; obtain ⟨_, _, rfl⟩ := List.mem_map.1 hv; rfl) ?_
          intro wy7 hb hg
          replace HM := Lib.hid (show Mem wb [blkE P8 38 (r8.map i64v), blkE P7 38 (r7.map i64v)] wy7 from HM.out.put 0 rfl _ hg hb)
          clear hb hg
          refine hK.out _ _ (((HM.out.erase 0).erase 0)) (fun hHeld => ?_)
          clear hK K
          (try simp only [Act.put])
          refine wpAnyH_done (by kernel_rfl) ?_ _
          go_wp2_with fail
          go_meet
          exact ⟨P7, P8, r7, r8, rfl, rfl, hr7, vr7, hr8, vr8, Nat.le_trans (HB.out.2.2.2.2.2.2) (MemE.low HM.out.1 1 _ rfl), Nat.le_trans (HB.out.2.2.2.2.2.2) (MemE.low HM.out.1 0 _ rfl), HM.out.blk 1 rfl, HM.out.blk 0 rfl, HKE.out _ HM.out.bel⟩
        · clear hHeld
          go_simp
          replace HM := Lib.hid (show Mem wb [blkE wy3.heap.size 38 (zd 16), blkE P7 38 (zd 16)] (wy3.alloc (.cells cuZ16 38)) from HM.out.alloc rfl 38 cuZ16 (zd 16) rfl)
          generalize wy3.alloc (.cells cuZ16 38) = wy4 at HM ⊢
          generalize wy3.heap.size = P8 at HM ⊢
          refine hK.out _ _ (((HM.out.erase 0).erase 0)) (fun hHeld => ?_)
          clear hK K
          (try simp only [Act.put, List.setIfInBounds_toArray, List.set_cons_zero, List.set_cons_succ])
          refine step_one 5 rfl (by kernel_rfl) (fun K hK => ?_)
          clear hHeld
          go_simp
          refine (T8.out _).mono ?_
          rintro e wy5 ⟨r8, hr8, vr8, rfl, hb⟩
          replace HM := Lib.hid (show Mem wb [blkE P8 38 (zd 16), blkE P7 38 (zd 16)] wy5 from HM.out.below hb)
          obtain ⟨c8, hc8⟩ : ∃ c, (r8.map i64v).toArray = c := ⟨_, rfl⟩
          rw [hc8]
          clear hb
          go_wp2_with fail
          refine hK.out _ _ (((HM.out.erase 0).erase 0)) (fun hHeld => ?_)
          clear hK K
          (try simp only [Act.put, List.setIfInBounds_toArray, List.set_cons_zero, List.set_cons_succ])
          refine step_one 8 rfl (by kernel_rfl) (fun K hK => ?_)
          clear hHeld
          refine step_store_blk _ rfl 38 (.tmp 7) (.tmp 28) rfl P7 (r7.map i64v) rfl (by show Value.agg c7 = _; rw [hc7]) 38 (zd 16) (HM.out.blk 1 rfl) (cu_cells _ hr7.1) (by rw [List.length_map, hr7.1]; rfl) (by intro v hv; obtain ⟨_, _, rfl⟩ := List.mem_map.1 hv; rfl) ?_
          intro wy6 hb hg
          replace HM := Lib.hid (show Mem wb [blkE P8 38 (zd 16), blkE P7 38 (r7.map i64v)] wy6 from HM.out.put 1 rfl _ hg hb)
          clear hb hg
          refine hK.out _ _ (((HM.out.erase 0).erase 0)) (fun hHeld => ?_)
          clear hK K
          (try simp only [Act.put])
          refine step_one 9 rfl (by kernel_rfl) (fun K hK => ?_)
          clear hHeld
          refine step_store_blk _ rfl 38 (.tmp 8) (.tmp 31) rfl P8 (r8.map i64v) rfl (by show Value.agg c8 = _; rw [hc8]) 38 (zd 16) (HM.out.blk 0 rfl) (cu_cells _ hr8.1) (by rw [List.length_map, hr8.1]; rfl) (by intro v hv; obtain ⟨_, _, rfl⟩ := List.mem_map.1 hv; rfl) ?_
          intro wy7 hb hg
          replace HM := Lib.hid (show Mem wb [blkE P8 38 (r8.map i64v), blkE P7 38 (r7.map i64v)] wy7 from HM.out.put 0 rfl _ hg hb)
          clear hb hg
          refine hK.out _ _ (((HM.out.erase 0).erase 0)) (fun hHeld => ?_)
          clear hK K
          (try simp only [Act.put])
          refine wpAnyH_done (by kernel_rfl) ?_ _
          go_wp2_with fail
          go_meet
          exact ⟨P7, P8, r7, r8, rfl, rfl, hr7, vr7, hr8, vr8, Nat.le_trans (HB.out.2.2.2.2.2.2) (MemE.low HM.out.1 1 _ rfl), Nat.le_trans (HB.out.2.2.2.2.2.2) (MemE.low HM.out.1 0 _ rfl), HM.out.blk 1 rfl, HM.out.blk 0 rfl, HKE.out _ HM.out.bel⟩
      · clear hHeld
        go_simp
        replace HM := Lib.hid (show Mem wb [blkE wy2.heap.size 38 (zd 16), blkE P7 38 (zd 16)] (wy2.alloc (.cells cuZ16 38)) from HM.out.alloc rfl 38 cuZ16 (zd 16) rfl)
        generalize wy2.alloc (.cells cuZ16 38) = wy3 at HM ⊢
        generalize wy2.heap.size = P8 at HM ⊢
        refine hK.out _ _ (((HM.out.erase 0).erase 0)) (fun hHeld => ?_)
        clear hK K
        (try simp only [Act.put, List.setIfInBounds_toArray, List.set_cons_zero, List.set_cons_succ])
        refine step_one 2 rfl (by kernel_rfl) (fun K hK => ?_)
        clear hHeld
        go_simp
        refine (T7.out _).mono ?_
        rintro e wy4 ⟨r7, hr7, vr7, rfl, hb⟩
        replace HM := Lib.hid (show Mem wb [blkE P8 38 (zd 16), blkE P7 38 (zd 16)] wy4 from HM.out.below hb)
        obtain ⟨c7, hc7⟩ : ∃ c, (r7.map i64v).toArray = c := ⟨_, rfl⟩
        rw [hc7]
        clear hb
        go_wp2_with fail
        refine hK.out _ _ (((HM.out.erase 0).erase 0)) (fun hHeld => ?_)
        clear hK K
        (try simp only [Act.put, List.setIfInBounds_toArray, List.set_cons_zero, List.set_cons_succ])
        refine step_one 5 rfl (by kernel_rfl) (fun K hK => ?_)
        clear hHeld
        go_simp
        refine (T8.out _).mono ?_
        rintro e wy5 ⟨r8, hr8, vr8, rfl, hb⟩
        replace HM := Lib.hid (show Mem wb [blkE P8 38 (zd 16), blkE P7 38 (zd 16)] wy5 from HM.out.below hb)
        obtain ⟨c8, hc8⟩ : ∃ c, (r8.map i64v).toArray = c := ⟨_, rfl⟩
        rw [hc8]
        clear hb
        go_wp2_with fail
        refine hK.out _ _ (((HM.out.erase 0).erase 0)) (fun hHeld => ?_)
        clear hK K
        (try simp only [Act.put, List.setIfInBounds_toArray, List.set_cons_zero, List.set_cons_succ])
        refine step_one 8 rfl (by kernel_rfl) (fun K hK => ?_)
        clear hHeld
        refine step_store_blk _ rfl 38 (.tmp 7) (.tmp 28) rfl P7 (r7.map i64v) rfl (by show Value.agg c7 = _; rw [hc7]) 38 (zd 16) (HM.out.blk 1 rfl) (cu_cells _ hr7.1) (by rw [List.length_map, hr7.1]; rfl) (by intro v hv; obtain ⟨_, _, rfl⟩ := List.mem_map.1 hv; rfl) ?_
        intro wy6 hb hg
        replace HM := Lib.hid (show Mem wb [blkE P8 38 (zd 16), blkE P7 38 (r7.map i64v)] wy6 from HM.out.put 1 rfl _ hg hb)
        clear hb hg
        refine hK.out _ _ (((HM.out.erase 0).erase 0)) (fun hHeld => ?_)
        clear hK K
        (try simp only [Act.put])
        refine step_one 9 rfl (by kernel_rfl) (fun K hK => ?_)
        clear hHeld
        refine step_store_blk _ rfl 38 (.tmp 8) (.tmp 31) rfl P8 (r8.map i64v) rfl (by show Value.agg c8 = _; rw [hc8]) 38 (zd 16) (HM.out.blk 0 rfl) (cu_cells _ hr8.1) (by rw [List.length_map, hr8.1]; rfl) (by intro v hv; obtain ⟨_, _, rfl⟩ := List.mem_map.1 hv; rfl) ?_
        intro wy7 hb hg
        replace HM := Lib.hid (show Mem wb [blkE P8 38 (r8.map i64v), blkE P7 38 (r7.map i64v)] wy7 from HM.out.put 0 rfl _ hg hb)
        clear hb hg
        refine hK.out _ _ (((HM.out.erase 0).erase 0)) (fun hHeld => ?_)
        clear hK K
        (try simp only [Act.put])
        refine wpAnyH_done (by kernel_rfl) ?_ _
        go_wp2_with fail
        go_meet
        exact ⟨P7, P8, r7, r8, rfl, rfl, hr7, vr7, hr8, vr8, Nat.le_trans (HB.out.2.2.2.2.2.2) (MemE.low HM.out.1 1 _ rfl), Nat.le_trans (HB.out.2.2.2.2.2.2) (MemE.low HM.out.1 0 _ rfl), HM.out.blk 1 rfl, HM.out.blk 0 rfl, HKE.out _ HM.out.bel⟩
    · clear hHeld
      go_simp
      replace HM := Lib.hid (show Mem wb [blkE wd1.heap.size 38 (zd 16)] (wd1.alloc (.cells cuZ16 38)) from HM.out.alloc rfl 38 cuZ16 (zd 16) rfl)
      generalize wd1.alloc (.cells cuZ16 38) = wy2 at HM ⊢
      generalize wd1.heap.size = P8 at HM ⊢
      refine hK.out _ _ ((HM.out.erase 0)) (fun hHeld => ?_)
      clear hK K
      (try simp only [Act.put, List.setIfInBounds_toArray, List.set_cons_zero, List.set_cons_succ])
      refine step_two 2 6 rfl rfl (by kernel_rfl) (fun K hK => ?_) (fun K hK => ?_)
      · clear hHeld
        go_simp
        refine (T7.out _).mono ?_
        rintro e wy3 ⟨r7, hr7, vr7, rfl, hb⟩
        replace HM := Lib.hid (show Mem wb [blkE P8 38 (zd 16)] wy3 from HM.out.below hb)
        obtain ⟨c7, hc7⟩ : ∃ c, (r7.map i64v).toArray = c := ⟨_, rfl⟩
        rw [hc7]
        clear hb
        go_wp2_with fail
        refine hK.out _ _ ((HM.out.erase 0)) (fun hHeld => ?_)
        clear hK K
        (try simp only [Act.put, List.setIfInBounds_toArray, List.set_cons_zero, List.set_cons_succ])
        refine step_two 5 6 rfl rfl (by kernel_rfl) (fun K hK => ?_) (fun K hK => ?_)
        · clear hHeld
          go_simp
          refine (T8.out _).mono ?_
          rintro e wy4 ⟨r8, hr8, vr8, rfl, hb⟩
          replace HM := Lib.hid (show Mem wb [blkE P8 38 (zd 16)] wy4 from HM.out.below hb)
          obtain ⟨c8, hc8⟩ : ∃ c, (r8.map i64v).toArray = c := ⟨_, rfl⟩
          rw [hc8]
          clear hb
          go_wp2_with fail
          refine hK.out _ _ ((HM.out.erase 0)) (fun hHeld => ?_)
          clear hK K
          (try simp only [Act.put, List.setIfInBounds_toArray, List.set_cons_zero, List.set_cons_succ])
          refine step_one 6 rfl (by kernel_rfl) (fun K hK => ?_)
          clear hHeld
          go_simp
          replace HM := Lib.hid (show Mem wb [blkE wy4.heap.size 38 (zd 16), blkE P8 38 (zd 16)] (wy4.alloc (.cells cuZ16 38)) from HM.out.alloc rfl 38 cuZ16 (zd 16) rfl)
          generalize wy4.alloc (.cells cuZ16 38) = wy5 at HM ⊢
          generalize wy4.heap.size = P7 at HM ⊢
          refine hK.out _ _ (((HM.out.erase 0).erase 0)) (fun hHeld => ?_)
          clear hK K
          (try simp only [Act.put, List.setIfInBounds_toArray, List.set_cons_zero, List.set_cons_succ])
          refine step_one 8 rfl (by kernel_rfl) (fun K hK => ?_)
          clear hHeld
          refine step_store_blk _ rfl 38 (.tmp 7) (.tmp 28) rfl P7 (r7.map i64v) rfl (by show Value.agg c7 = _; rw [hc7]) 38 (zd 16) (HM.out.blk 0 rfl) (cu_cells _ hr7.1) (by rw [List.length_map, hr7.1]; rfl) (by intro v hv; obtain ⟨_, _, rfl⟩ := List.mem_map.1 hv; rfl) ?_
          intro wy6 hb hg
          replace HM := Lib.hid (show Mem wb [blkE P7 38 (r7.map i64v), blkE P8 38 (zd 16)] wy6 from HM.out.put 0 rfl _ hg hb)
          clear hb hg
          refine hK.out _ _ (((HM.out.erase 0).erase 0)) (fun hHeld => ?_)
          clear hK K
          (try simp only [Act.put])
          refine step_one 9 rfl (by kernel_rfl) (fun K hK => ?_)
          clear hHeld
          refine step_store_blk _ rfl 38 (.tmp 8) (.tmp 31) rfl P8 (r8.map i64v) rfl (by show Value.agg c8 = _; rw [hc8]) 38 (zd 16) (HM.out.blk 1 rfl) (cu_cells _ hr8.1) (by rw [List.length_map, hr8.1]; rfl) (by intro v hv; obtain ⟨_, _, rfl⟩ := List.mem_map.1 hv; rfl) ?_
          intro wy7 hb hg
          replace HM := Lib.hid (show Mem wb [blkE P7 38 (r7.map i64v), blkE P8 38 (r8.map i64v)] wy7 from HM.out.put 1 rfl _ hg hb)
          clear hb hg
          refine hK.out _ _ (((HM.out.erase 0).erase 0)) (fun hHeld => ?_)
          clear hK K
          (try simp only [Act.put])
          refine wpAnyH_done (by kernel_rfl) ?_ _
          go_wp2_with fail
          go_meet
          exact ⟨P7, P8, r7, r8, rfl, rfl, hr7, vr7, hr8, vr8, Nat.le_trans (HB.out.2.2.2.2.2.2) (MemE.low HM.out.1 0 _ rfl), Nat.le_trans (HB.out.2.2.2.2.2.2) (MemE.low HM.out.1 1 _ rfl), HM.out.blk 0 rfl, HM.out.blk 1 rfl, HKE.out _ HM.out.bel⟩
        · clear hHeld
          go_simp
          replace HM := Lib.hid (show Mem wb [blkE wy3.heap.size 38 (zd 16), blkE P8 38 (zd 16)] (wy3.alloc (.cells cuZ16 38)) from HM.out.alloc rfl 38 cuZ16 (zd 16) rfl)
          generalize wy3.alloc (.cells cuZ16 38) = wy4 at HM ⊢
          generalize wy3.heap.size = P7 at HM ⊢
          refine hK.out _ _ (((HM.out.erase 0).erase 0)) (fun hHeld => ?_)
          clear hK K
          (try simp only [Act.put, List.setIfInBounds_toArray, List.set_cons_zero, List.set_cons_succ])
          refine step_one 5 rfl (by kernel_rfl) (fun K hK => ?_)
          clear hHeld
          go_simp
          refine (T8.out _).mono ?_
          rintro e wy5 ⟨r8, hr8, vr8, rfl, hb⟩
          replace HM := Lib.hid (show Mem wb [blkE P7 38 (zd 16), blkE P8 38 (zd 16)] wy5 from HM.out.below hb)
          obtain ⟨c8, hc8⟩ : ∃ c, (r8.map i64v).toArray = c := ⟨_, rfl⟩
          rw [hc8]
          clear hb
          go_wp2_with fail
          refine hK.out _ _ (((HM.out.erase 0).erase 0)) (fun hHeld => ?_)
          clear hK K
          (try simp only [Act.put, List.setIfInBounds_toArray, List.set_cons_zero, List.set_cons_succ])
          refine step_one 8 rfl (by kernel_rfl) (fun K hK => ?_)
          clear hHeld
          refine step_store_blk _ rfl 38 (.tmp 7) (.tmp 28) rfl P7 (r7.map i64v) rfl (by show Value.agg c7 = _; rw [hc7]) 38 (zd 16) (HM.out.blk 0 rfl) (cu_cells _ hr7.1) (by rw [List.length_map, hr7.1]; rfl) (by intro v hv; obtain ⟨_, _, rfl⟩ := List.mem_map.1 hv; rfl) ?_
          intro wy6 hb hg
          replace HM := Lib.hid (show Mem wb [blkE P7 38 (r7.map i64v), blkE P8 38 (zd 16)] wy6 from HM.out.put 0 rfl _ hg hb)
          clear hb hg
          refine hK.out _ _ (((HM.out.erase 0).erase 0)) (fun hHeld => ?_)
          clear hK K
          (try simp only [Act.put])
          refine step_one 9 rfl (by kernel_rfl) (fun K hK => ?_)
          clear hHeld
          refine step_store_blk _ rfl 38 (.tmp 8) (.tmp 31) rfl P8 (r8.map i64v) rfl (by show Value.agg c8 = _; rw [hc8]) 38 (zd 16) (HM.out.blk 1 rfl) (cu_cells _ hr8.1) (by rw [List.length_map, hr8.1]; rfl) (by intro v hv; obtain ⟨_, _, rfl⟩ := List.mem_map.1 hv; rfl) ?_
          intro wy7 hb hg
          replace HM := Lib.hid (show Mem wb [blkE P7 38 (r7.map i64v), blkE P8 38 (r8.map i64v)] wy7 from HM.out.put 1 rfl _ hg hb)
          clear hb hg
          refine hK.out _ _ (((HM.out.erase 0).erase 0)) (fun hHeld => ?_)
          clear hK K
          (try simp only [Act.put])
          refine wpAnyH_done (by kernel_rfl) ?_ _
          go_wp2_with fail
          go_meet
          exact ⟨P7, P8, r7, r8, rfl, rfl, hr7, vr7, hr8, vr8, Nat.le_trans (HB.out.2.2.2.2.2.2) (MemE.low HM.out.1 0 _ rfl), Nat.le_trans (HB.out.2.2.2.2.2.2) (MemE.low HM.out.1 1 _ rfl), HM.out.blk 0 rfl, HM.out.blk 1 rfl, HKE.out _ HM.out.bel⟩
      · clear hHeld
        go_simp
        replace HM := Lib.hid (show Mem wb [blkE wy2.heap.size 38 (zd 16), blkE P8 38 (zd 16)] (wy2.alloc (.cells cuZ16 38)) from HM.out.alloc rfl 38 cuZ16 (zd 16) rfl)
        generalize wy2.alloc (.cells cuZ16 38) = wy3 at HM ⊢
        generalize wy2.heap.size = P7 at HM ⊢
        refine hK.out _ _ (((HM.out.erase 0).erase 0)) (fun hHeld => ?_)
        clear hK K
        (try simp only [Act.put, List.setIfInBounds_toArray, List.set_cons_zero, List.set_cons_succ])
        refine step_one 2 rfl (by kernel_rfl) (fun K hK => ?_)
        clear hHeld
        go_simp
        refine (T7.out _).mono ?_
        rintro e wy4 ⟨r7, hr7, vr7, rfl, hb⟩
        replace HM := Lib.hid (show Mem wb [blkE P7 38 (zd 16), blkE P8 38 (zd 16)] wy4 from HM.out.below hb)
        obtain ⟨c7, hc7⟩ : ∃ c, (r7.map i64v).toArray = c := ⟨_, rfl⟩
        rw [hc7]
        clear hb
        go_wp2_with fail
        refine hK.out _ _ (((HM.out.erase 0).erase 0)) (fun hHeld => ?_)
        clear hK K
        (try simp only [Act.put, List.setIfInBounds_toArray, List.set_cons_zero, List.set_cons_succ])
        refine step_one 5 rfl (by kernel_rfl) (fun K hK => ?_)
        clear hHeld
        go_simp
        refine (T8.out _).mono ?_
        rintro e wy5 ⟨r8, hr8, vr8, rfl, hb⟩
        replace HM := Lib.hid (show Mem wb [blkE P7 38 (zd 16), blkE P8 38 (zd 16)] wy5 from HM.out.below hb)
        obtain ⟨c8, hc8⟩ : ∃ c, (r8.map i64v).toArray = c := ⟨_, rfl⟩
        rw [hc8]
        clear hb
        go_wp2_with fail
        refine hK.out _ _ (((HM.out.erase 0).erase 0)) (fun hHeld => ?_)
        clear hK K
        (try simp only [Act.put, List.setIfInBounds_toArray, List.set_cons_zero, List.set_cons_succ])
        refine step_one 8 rfl (by kernel_rfl) (fun K hK => ?_)
        clear hHeld
        refine step_store_blk _ rfl 38 (.tmp 7) (.tmp 28) rfl P7 (r7.map i64v) rfl (by show Value.agg c7 = _; rw [hc7]) 38 (zd 16) (HM.out.blk 0 rfl) (cu_cells _ hr7.1) (by rw [List.length_map, hr7.1]; rfl) (by intro v hv; obtain ⟨_, _, rfl⟩ := List.mem_map.1 hv; rfl) ?_
        intro wy6 hb hg
        replace HM := Lib.hid (show Mem wb [blkE P7 38 (r7.map i64v), blkE P8 38 (zd 16)] wy6 from HM.out.put 0 rfl _ hg hb)
        clear hb hg
        refine hK.out _ _ (((HM.out.erase 0).erase 0)) (fun hHeld => ?_)
        clear hK K
        (try simp only [Act.put])
        refine step_one 9 rfl (by kernel_rfl) (fun K hK => ?_)
        clear hHeld
        refine step_store_blk _ rfl 38 (.tmp 8) (.tmp 31) rfl P8 (r8.map i64v) rfl (by show Value.agg c8 = _; rw [hc8]) 38 (zd 16) (HM.out.blk 1 rfl) (cu_cells _ hr8.1) (by rw [List.length_map, hr8.1]; rfl) (by intro v hv; obtain ⟨_, _, rfl⟩ := List.mem_map.1 hv; rfl) ?_
        intro wy7 hb hg
        replace HM := Lib.hid (show Mem wb [blkE P7 38 (r7.map i64v), blkE P8 38 (r8.map i64v)] wy7 from HM.out.put 1 rfl _ hg hb)
        clear hb hg
        refine hK.out _ _ (((HM.out.erase 0).erase 0)) (fun hHeld => ?_)
        clear hK K
        (try simp only [Act.put])
        refine wpAnyH_done (by kernel_rfl) ?_ _
        go_wp2_with fail
        go_meet
        exact ⟨P7, P8, r7, r8, rfl, rfl, hr7, vr7, hr8, vr8, Nat.le_trans (HB.out.2.2.2.2.2.2) (MemE.low HM.out.1 0 _ rfl), Nat.le_trans (HB.out.2.2.2.2.2.2) (MemE.low HM.out.1 1 _ rfl), HM.out.blk 0 rfl, HM.out.blk 1 rfl, HKE.out _ HM.out.bel⟩
  case rest =>
  clear HB
  revert wc
  intro wb hcut
  obtain ⟨P7, P8, r7, r8, rfl, rfl, hr7, vr7, hr8, vr8, hP7, hP8, hcut⟩ := hcut
  have HB := Lib.hid hcut
  have HP7 := Lib.hid (And.intro hP7 hP8)
  clear hcut hP7 hP8
  obtain ⟨c7, hc7⟩ : ∃ c, (r7.map i64v).toArray = c := ⟨_, rfl⟩
  obtain ⟨c8, hc8⟩ : ∃ c, (r8.map i64v).toArray = c := ⟨_, rfl⟩
  have HR7 := Lib.hid (And.intro hc7 (And.intro hr7 vr7))
  have HR8 := Lib.hid (And.intro hc8 (And.intro hr8 vr8))
  clear hc7 hc8 hr7 vr7 hr8 vr8
  have Cle := fun W : World => ref_minus_any r7 r8 HR7.out.2.1.1 HR8.out.2.1.1 ((Good.small HR7.out.2.1).mono (by omega)) ((Good.small HR8.out.2.1).mono (by omega)) W
  have Fle : Fit (subL r7 r8) := ⟨subL_length _ _ HR7.out.2.1.1 HR8.out.2.1.1, (subL_within _ _ _ _ (Good.small HR7.out.2.1) (Good.small HR8.out.2.1)).mono (by omega)⟩
  have Qle : Cu.fq (Cu.valL (subL r7 r8)) = ((Cu.fq (Cu.valL x2) + Cu.fq (Cu.valL z2)) * (Cu.fq (Cu.valL x2) + Cu.fq (Cu.valL z2)) - (Cu.fq (Cu.valL x2) - Cu.fq (Cu.valL z2)) * (Cu.fq (Cu.valL x2) - Cu.fq (Cu.valL z2))) := by rw [subL_val _ _ (by rw [HR7.out.2.1.1, HR8.out.2.1.1]), Cu.fq_sub, HR7.out.2.2, HR8.out.2.2]
  generalize subL r7 r8 = le at Cle Fle Qle
  obtain ⟨cle, hcle⟩ : ∃ c, (le.map i64v).toArray = c := ⟨_, rfl⟩
  rw [HR7.out.1, HR8.out.1, hcle] at Cle
  have Hle := Lib.hid (And.intro hcle (And.intro Fle Qle))
  have Kle := Lib.hid Cle
  clear Cle Fle Qle hcle
  have HM := Lib.hid (Mem.nil wb)
  go_wp2_with (first | (refine wpList_load_blk rfl 38 (.tmp 7) rfl P7 rfl 38 (r7.map i64v) (HB.out.1) 16 2 Try.underlying38 (cu_cells r7 HR7.out.2.1.1) ?_; rw [HR7.out.1]) | (refine wpList_load_blk rfl 38 (.tmp 8) rfl P8 rfl 38 (r8.map i64v) (HB.out.2.1) 16 2 Try.underlying38 (cu_cells r8 HR8.out.2.1.1) ?_; rw [HR8.out.1]))
  refine (Kle.out _).mono ?_
  rintro e w3 ⟨rfl, hb⟩
  replace HM := Lib.hid (show Mem wb [] w3 from HM.out.below hb)
  clear hb
  have HA := Lib.hid (show Mem wb [blkE w3.heap.size 38 (zd 16)] (w3.alloc (.cells #[.int .i64 0, .int .i64 0, .int .i64 0, .int .i64 0, .int .i64 0, .int .i64 0, .int .i64 0, .int .i64 0, .int .i64 0, .int .i64 0, .int .i64 0, .int .i64 0, .int .i64 0, .int .i64 0, .int .i64 0, .int .i64 0] 38)) from HM.out.alloc rfl 38 #[.int .i64 0, .int .i64 0, .int .i64 0, .int .i64 0, .int .i64 0, .int .i64 0, .int .i64 0, .int .i64 0, .int .i64 0, .int .i64 0, .int .i64 0, .int .i64 0, .int .i64 0, .int .i64 0, .int .i64 0, .int .i64 0] (zd 16) rfl)
  go_upto_region 4 with (refine wpList_store_blk rfl 38 (.tmp 9) (.tmp 34) rfl w3.heap.size (le.map i64v) rfl (by show Value.agg cle = _; rw [Hle.out.1]) 38 (zd 16) (HA.out.blk 0 rfl) (cu_cells le Hle.out.2.1.1) (by rw [List.length_map, Hle.out.2.1.1]; rfl) (i64v_one _) ?_; intro w4 hb9 hg9)
  (try simp only [Act.put])
  replace HM := Lib.hid (show Mem wb [blkE w3.heap.size 38 (le.map i64v)] w4 from HA.out.put 0 rfl _ hg9 hb9)
  clear HA hb9 hg9
  generalize w3.heap.size = P9 at HM ⊢
  have HP9 := Lib.hid (show w.heap.size + 3 ≤ P9 from Nat.le_trans (HB.out.2.2.2.2.2.2.2.2) (MemE.low HM.out.1 0 _ rfl))
  have HB2 := Lib.hid (show Blk w4 P9 38 (le.map i64v) ∧ Blk w4 P7 38 (r7.map i64v) ∧ Blk w4 P8 38 (r8.map i64v) ∧ Blk w4 P5 38 (la.map i64v) ∧ Blk w4 P6 38 (lb.map i64v) ∧ Blk w4 w.heap.size 41 (ladV x2 z2 x3 z3) ∧ Blk w4 (w.heap.size + 1) 38 (x1.map i64v) ∧ Blk w4 (w.heap.size + 1 + 1) 41 (zd 64) ∧ Below w.heap.size w w4 ∧ w.heap.size + 3 ≤ w4.heap.size from ⟨HM.out.blk 0 rfl, (HB.out.1).below HM.out.bel (HB.out.1).lt, (HB.out.2.1).below HM.out.bel (HB.out.2.1).lt, (HB.out.2.2.1).below HM.out.bel (HB.out.2.2.1).lt, (HB.out.2.2.2.1).below HM.out.bel (HB.out.2.2.2.1).lt, (HB.out.2.2.2.2.1).below HM.out.bel (HB.out.2.2.2.2.1).lt, (HB.out.2.2.2.2.2.1).below HM.out.bel (HB.out.2.2.2.2.2.1).lt, (HB.out.2.2.2.2.2.2.1).below HM.out.bel (HB.out.2.2.2.2.2.2.1).lt, (HB.out.2.2.2.2.2.2.2.1).trans (HM.out.bel.mono (HB.out.2.2.2.2.2.2.2.1).size), Nat.le_trans (HB.out.2.2.2.2.2.2.2.2) HM.out.size⟩)
  clear HB HM
  have HB := HB2
  clear HB2
  revert w4
  intro wb HB
  go_upto_region 4 with fail
  go_cut [10, 11] (fun p q wx => ∃ P10 P11, p = .pointer (some ⟨P10, 0, none⟩) ∧ q = .pointer (some ⟨P11, 0, none⟩) ∧ w.heap.size + 3 ≤ P10 ∧ w.heap.size + 3 ≤ P11 ∧ Blk wx P10 38 (lc.map i64v) ∧ Blk wx P11 38 (ld.map i64v) ∧ Blk wx P9 38 (le.map i64v) ∧ Blk wx P7 38 (r7.map i64v) ∧ Blk wx P8 38 (r8.map i64v) ∧ Blk wx P5 38 (la.map i64v) ∧ Blk wx P6 38 (lb.map i64v) ∧ Blk wx w.heap.size 41 (ladV x2 z2 x3 z3) ∧ Blk wx (w.heap.size + 1) 38 (x1.map i64v) ∧ Blk wx (w.heap.size + 1 + 1) 41 (zd 64) ∧ Below w.heap.size w wx ∧ w.heap.size + 3 ≤ wx.heap.size)
  case first =>
    have HM := Lib.hid (Mem.nil wb)
    have HKE := Lib.hid (show ∀ W, Below wb.heap.size wb W → Blk W P9 38 (le.map i64v) ∧ Blk W P7 38 (r7.map i64v) ∧ Blk W P8 38 (r8.map i64v) ∧ Blk W P5 38 (la.map i64v) ∧ Blk W P6 38 (lb.map i64v) ∧ Blk W w.heap.size 41 (ladV x2 z2 x3 z3) ∧ Blk W (w.heap.size + 1) 38 (x1.map i64v) ∧ Blk W (w.heap.size + 1 + 1) 41 (zd 64) ∧ Below w.heap.size w W ∧ w.heap.size + 3 ≤ W.heap.size from fun W hW => ⟨(HB.out.1).below hW (HB.out.1).lt, (HB.out.2.1).below hW (HB.out.2.1).lt, (HB.out.2.2.1).below hW (HB.out.2.2.1).lt, (HB.out.2.2.2.1).below hW (HB.out.2.2.2.1).lt, (HB.out.2.2.2.2.1).below hW (HB.out.2.2.2.2.1).lt, (HB.out.2.2.2.2.2.1).below hW (HB.out.2.2.2.2.2.1).lt, (HB.out.2.2.2.2.2.2.1).below hW (HB.out.2.2.2.2.2.2.1).lt, (HB.out.2.2.2.2.2.2.2.1).below hW (HB.out.2.2.2.2.2.2.2.1).lt, (HB.out.2.2.2.2.2.2.2.2.1).trans (hW.mono (HB.out.2.2.2.2.2.2.2.2.1).size), Nat.le_trans (HB.out.2.2.2.2.2.2.2.2.2) hW.size⟩)
    refine wp_region_held_drew (S := fun W' => Mem wb [] W') (by kernel_rfl) (HM.out.drew) (fun hHeld => ?_)
    replace HM := Lib.hid HM.out.drew
    generalize wb.drew = wd1 at HM hHeld ⊢
    refine take_first (v := ?_) 0 rfl (by kernel_rfl) (by kernel_rfl) (by kernel_rfl) (fun _ _ _ h => h) (Or.inl ⟨by rfl, ?_⟩) (by assumption) ?_
    rotate_left
    · (intro w hSw; (try dsimp only at hSw); go_simp; try with_reducible rfl)
    (try simp only [Act.put, List.setIfInBounds_toArray, List.set_cons_zero, List.set_cons_succ])
    refine take_first (v := .agg cx3) 1 rfl (by kernel_rfl) (by kernel_rfl) (by kernel_rfl) (fun _ _ _ h => h) (by rw [← HC.out.2.2.1]; exact cu_yields_off (by rfl) 38 (.tmp 35) rfl w.heap.size 32 rfl (x3.map i64v) (fun w' hb => by have h := ((HB.out.2.2.2.2.2.1).below hb.bel (HB.out.2.2.2.2.2.1).lt).row 32 16; rw [ladV_row2 _ _ _ _ HL.out.1.1 HL.out.2.1.1 HL.out.2.2.1.1 HL.out.2.2.2.1.1] at h; exact h) 16 2 Try.underlying38 (cu_cells x3 HL.out.2.2.1.1)) (by assumption) ?_
    (try simp only [Act.put, List.setIfInBounds_toArray, List.set_cons_zero, List.set_cons_succ])
    refine take_first (v := ?_) 2 rfl (by kernel_rfl) (by kernel_rfl) (by kernel_rfl) (fun _ _ _ h => h) (Or.inl ⟨by rfl, ?_⟩) (by assumption) ?_
    rotate_left
    · (intro w hSw; (try dsimp only at hSw); go_simp; try with_reducible rfl)
    (try simp only [Act.put, List.setIfInBounds_toArray, List.set_cons_zero, List.set_cons_succ])
    refine take_first (v := .agg cz3) 3 rfl (by kernel_rfl) (by kernel_rfl) (by kernel_rfl) (fun _ _ _ h => h) (by rw [← HC.out.2.2.2.1]; exact cu_yields_off (by rfl) 38 (.tmp 37) rfl w.heap.size 48 rfl (z3.map i64v) (fun w' hb => by have h := ((HB.out.2.2.2.2.2.1).below hb.bel (HB.out.2.2.2.2.2.1).lt).row 48 16; rw [ladV_row3 _ _ _ _ HL.out.1.1 HL.out.2.1.1 HL.out.2.2.1.1 HL.out.2.2.2.1.1] at h; exact h) 16 2 Try.underlying38 (cu_cells z3 HL.out.2.2.2.1.1)) (by assumption) ?_
    (try simp only [Act.put, List.setIfInBounds_toArray, List.set_cons_zero, List.set_cons_succ])
    refine take_first (v := ?_) 5 rfl (by kernel_rfl) (by kernel_rfl) (by kernel_rfl) (fun _ _ _ h => h) (Or.inl ⟨by rfl, ?_⟩) (by assumption) ?_
    rotate_left
    · (intro w hSw; (try dsimp only at hSw); go_simp; try with_reducible rfl)
    (try simp only [Act.put, List.setIfInBounds_toArray, List.set_cons_zero, List.set_cons_succ])
    refine take_first (v := .agg cx3) 6 rfl (by kernel_rfl) (by kernel_rfl) (by kernel_rfl) (fun _ _ _ h => h) (by rw [← HC.out.2.2.1]; exact cu_yields_off (by rfl) 38 (.tmp 40) rfl w.heap.size 32 rfl (x3.map i64v) (fun w' hb => by have h := ((HB.out.2.2.2.2.2.1).below hb.bel (HB.out.2.2.2.2.2.1).lt).row 32 16; rw [ladV_row2 _ _ _ _ HL.out.1.1 HL.out.2.1.1 HL.out.2.2.1.1 HL.out.2.2.2.1.1] at h; exact h) 16 2 Try.underlying38 (cu_cells x3 HL.out.2.2.1.1)) (by assumption) ?_
    (try simp only [Act.put, List.setIfInBounds_toArray, List.set_cons_zero, List.set_cons_succ])
    refine take_first (v := ?_) 7 rfl (by kernel_rfl) (by kernel_rfl) (by kernel_rfl) (fun _ _ _ h => h) (Or.inl ⟨by rfl, ?_⟩) (by assumption) ?_
    rotate_left
    · (intro w hSw; (try dsimp only at hSw); go_simp; try with_reducible rfl)
    (try simp only [Act.put, List.setIfInBounds_toArray, List.set_cons_zero, List.set_cons_succ])
    refine take_first (v := .agg cz3) 8 rfl (by kernel_rfl) (by kernel_rfl) (by kernel_rfl) (fun _ _ _ h => h) (by rw [← HC.out.2.2.2.1]; exact cu_yields_off (by rfl) 38 (.tmp 42) rfl w.heap.size 48 rfl (z3.map i64v) (fun w' hb => by have h := ((HB.out.2.2.2.2.2.1).below hb.bel (HB.out.2.2.2.2.2.1).lt).row 48 16; rw [ladV_row3 _ _ _ _ HL.out.1.1 HL.out.2.1.1 HL.out.2.2.1.1 HL.out.2.2.2.1.1] at h; exact h) 16 2 Try.underlying38 (cu_cells z3 HL.out.2.2.2.1.1)) (by assumption) ?_
    (try simp only [Act.put, List.setIfInBounds_toArray, List.set_cons_zero, List.set_cons_succ])
    refine step_three 4 10 11 rfl rfl rfl (by kernel_rfl) (fun K hK => ?_) (fun K hK => ?_) (fun K hK => ?_)
    · clear hHeld
      go_simp
      refine (Klc.out _).mono ?_
      rintro e wy2 ⟨rfl, hb⟩
      replace HM := Lib.hid (show Mem wb [] wy2 from HM.out.below hb)
      clear hb
      go_wp2_with fail
      refine hK.out _ _ (HM.out) (fun hHeld => ?_)
      clear hK K
      (try simp only [Act.put, List.setIfInBounds_toArray, List.set_cons_zero, List.set_cons_succ])
      refine step_three 9 10 11 rfl rfl rfl (by kernel_rfl) (fun K hK => ?_) (fun K hK => ?_) (fun K hK => ?_)
      · clear hHeld
        go_simp
        refine (Kld.out _).mono ?_
        rintro e wy3 ⟨rfl, hb⟩
        replace HM := Lib.hid (show Mem wb [] wy3 from HM.out.below hb)
        clear hb
        go_wp2_with fail
        refine hK.out _ _ (HM.out) (fun hHeld => ?_)
        clear hK K
        (try simp only [Act.put, List.setIfInBounds_toArray, List.set_cons_zero, List.set_cons_succ])
        refine step_two 10 11 rfl rfl (by kernel_rfl) (fun K hK => ?_) (fun K hK => ?_)
        · clear hHeld
          go_simp
          replace HM := Lib.hid (show Mem wb [blkE wy3.heap.size 38 (zd 16)] (wy3.alloc (.cells cuZ16 38)) from HM.out.alloc rfl 38 cuZ16 (zd 16) rfl)
          generalize wy3.alloc (.cells cuZ16 38) = wy4 at HM ⊢
          generalize wy3.heap.size = P10 at HM ⊢
          refine hK.out _ _ ((HM.out.erase 0)) (fun hHeld => ?_)
          clear hK K
          (try simp only [Act.put, List.setIfInBounds_toArray, List.set_cons_zero, List.set_cons_succ])
          refine step_one 11 rfl (by kernel_rfl) (fun K hK => ?_)
          clear hHeld
          go_simp
          replace HM := Lib.hid (show Mem wb [blkE wy4.heap.size 38 (zd 16), blkE P10 38 (zd 16)] (wy4.alloc (.cells cuZ16 38)) from HM.out.alloc rfl 38 cuZ16 (zd 16) rfl)
          generalize wy4.alloc (.cells cuZ16 38) = wy5 at HM ⊢
          generalize wy4.heap.size = P11 at HM ⊢
          refine hK.out _ _ (((HM.out.erase 0).erase 0)) (fun hHeld => ?_)
          clear hK K
          (try simp only [Act.put, List.setIfInBounds_toArray, List.set_cons_zero, List.set_cons_succ])
          refine step_one 12 rfl (by kernel_rfl) (fun K hK => ?_)
          clear hHeld
          refine step_store_blk _ rfl 38 (.tmp 10) (.tmp 39) rfl P10 (lc.map i64v) rfl (by show Value.agg clc = _; rw [Hlc.out.1]) 38 (zd 16) (HM.out.blk 1 rfl) (cu_cells _ Hlc.out.2.1.1) (by rw [List.length_map, Hlc.out.2.1.1]; rfl) (by intro v hv; obtain ⟨_, _, rfl⟩ := List.mem_map.1 hv; rfl) ?_
          intro wy6 hb hg
          replace HM := Lib.hid (show Mem wb [blkE P11 38 (zd 16), blkE P10 38 (lc.map i64v)] wy6 from HM.out.put 1 rfl _ hg hb)
          clear hb hg
          refine hK.out _ _ (((HM.out.erase 0).erase 0)) (fun hHeld => ?_)
          clear hK K
          (try simp only [Act.put])
          refine step_one 13 rfl (by kernel_rfl) (fun K hK => ?_)
          clear hHeld
          refine step_store_blk _ rfl 38 (.tmp 11) (.tmp 44) rfl P11 (ld.map i64v) rfl (by show Value.agg cld = _; rw [Hld.out.1]) 38 (zd 16) (HM.out.blk 0 rfl) (cu_cells _ Hld.out.2.1.1) (by rw [List.length_map, Hld.out.2.1.1]; rfl) (by intro v hv; obtain ⟨_, _, rfl⟩ := List.mem_map.1 hv; rfl) ?_
          intro wy7 hb hg
          replace HM := Lib.hid (show Mem wb [blkE P11 38 (ld.map i64v), blkE P10 38 (lc.map i64v)] wy7 from HM.out.put 0 rfl _ hg hb)
          clear hb hg
          refine hK.out _ _ (((HM.out.erase 0).erase 0)) (fun hHeld => ?_)
          clear hK K
          (try simp only [Act.put])
          refine wpAnyH_done (by kernel_rfl) ?_ _
          go_wp2_with fail
          go_meet
          exact ⟨P10, P11, rfl, rfl, Nat.le_trans (HB.out.2.2.2.2.2.2.2.2.2) (MemE.low HM.out.1 1 _ rfl), Nat.le_trans (HB.out.2.2.2.2.2.2.2.2.2) (MemE.low HM.out.1 0 _ rfl), HM.out.blk 1 rfl, HM.out.blk 0 rfl, HKE.out _ HM.out.bel⟩
        · clear hHeld
          go_simp
          replace HM := Lib.hid (show Mem wb [blkE wy3.heap.size 38 (zd 16)] (wy3.alloc (.cells cuZ16 38)) from HM.out.alloc rfl 38 cuZ16 (zd 16) rfl)
          generalize wy3.alloc (.cells cuZ16 38) = wy4 at HM ⊢
          generalize wy3.heap.size = P11 at HM ⊢
          refine hK.out _ _ ((HM.out.erase 0)) (fun hHeld => ?_)
          clear hK K
          (try simp only [Act.put, List.setIfInBounds_toArray, List.set_cons_zero, List.set_cons_succ])
          refine step_one 10 rfl (by kernel_rfl) (fun K hK => ?_)
          clear hHeld
          go_simp
          replace HM := Lib.hid (show Mem wb [blkE wy4.heap.size 38 (zd 16), blkE P11 38 (zd 16)] (wy4.alloc (.cells cuZ16 38)) from HM.out.alloc rfl 38 cuZ16 (zd 16) rfl)
          generalize wy4.alloc (.cells cuZ16 38) = wy5 at HM ⊢
          generalize wy4.heap.size = P10 at HM ⊢
          refine hK.out _ _ (((HM.out.erase 0).erase 0)) (fun hHeld => ?_)
          clear hK K
          (try simp only [Act.put, List.setIfInBounds_toArray, List.set_cons_zero, List.set_cons_succ])
          refine step_one 12 rfl (by kernel_rfl) (fun K hK => ?_)
          clear hHeld
          refine step_store_blk _ rfl 38 (.tmp 10) (.tmp 39) rfl P10 (lc.map i64v) rfl (by show Value.agg clc = _; rw [Hlc.out.1]) 38 (zd 16) (HM.out.blk 0 rfl) (cu_cells _ Hlc.out.2.1.1) (by rw [List.length_map, Hlc.out.2.1.1]; rfl) (by intro v hv; obtain ⟨_, _, rfl⟩ := List.mem_map.1 hv; rfl) ?_
          intro wy6 hb hg
          replace HM := Lib.hid (show Mem wb [blkE P10 38 (lc.map i64v), blkE P11 38 (zd 16)] wy6 from HM.out.put 0 rfl _ hg hb)
          clear hb hg
          refine hK.out _ _ (((HM.out.erase 0).erase 0)) (fun hHeld => ?_)
          clear hK K
          (try simp only [Act.put])
          refine step_one 13 rfl (by kernel_rfl) (fun K hK => ?_)
          clear hHeld
          refine step_store_blk _ rfl 38 (.tmp 11) (.tmp 44) rfl P11 (ld.map i64v) rfl (by show Value.agg cld = _; rw [Hld.out.1]) 38 (zd 16) (HM.out.blk 1 rfl) (cu_cells _ Hld.out.2.1.1) (by rw [List.length_map, Hld.out.2.1.1]; rfl) (by intro v hv; obtain ⟨_, _, rfl⟩ := List.mem_map.1 hv; rfl) ?_
          intro wy7 hb hg
          replace HM := Lib.hid (show Mem wb [blkE P10 38 (lc.map i64v), blkE P11 38 (ld.map i64v)] wy7 from HM.out.put 1 rfl _ hg hb)
          clear hb hg
          refine hK.out _ _ (((HM.out.erase 0).erase 0)) (fun hHeld => ?_)
          clear hK K
          (try simp only [Act.put])
          refine wpAnyH_done (by kernel_rfl) ?_ _
          go_wp2_with fail
          go_meet
          exact ⟨P10, P11, rfl, rfl, Nat.le_trans (HB.out.2.2.2.2.2.2.2.2.2) (MemE.low HM.out.1 0 _ rfl), Nat.le_trans (HB.out.2.2.2.2.2.2.2.2.2) (MemE.low HM.out.1 1 _ rfl), HM.out.blk 0 rfl, HM.out.blk 1 rfl, HKE.out _ HM.out.bel⟩
      · clear hHeld
        go_simp
        replace HM := Lib.hid (show Mem wb [blkE wy2.heap.size 38 (zd 16)] (wy2.alloc (.cells cuZ16 38)) from HM.out.alloc rfl 38 cuZ16 (zd 16) rfl)
        generalize wy2.alloc (.cells cuZ16 38) = wy3 at HM ⊢
        generalize wy2.heap.size = P10 at HM ⊢
        refine hK.out _ _ ((HM.out.erase 0)) (fun hHeld => ?_)
        clear hK K
        (try simp only [Act.put, List.setIfInBounds_toArray, List.set_cons_zero, List.set_cons_succ])
        refine step_two 9 11 rfl rfl (by kernel_rfl) (fun K hK => ?_) (fun K hK => ?_)
        · clear hHeld
          go_simp
          refine (Kld.out _).mono ?_
          rintro e wy4 ⟨rfl, hb⟩
          replace HM := Lib.hid (show Mem wb [blkE P10 38 (zd 16)] wy4 from HM.out.below hb)
          clear hb
          go_wp2_with fail
          refine hK.out _ _ ((HM.out.erase 0)) (fun hHeld => ?_)
          clear hK K
          (try simp only [Act.put, List.setIfInBounds_toArray, List.set_cons_zero, List.set_cons_succ])
          refine step_one 11 rfl (by kernel_rfl) (fun K hK => ?_)
          clear hHeld
          go_simp
          replace HM := Lib.hid (show Mem wb [blkE wy4.heap.size 38 (zd 16), blkE P10 38 (zd 16)] (wy4.alloc (.cells cuZ16 38)) from HM.out.alloc rfl 38 cuZ16 (zd 16) rfl)
          generalize wy4.alloc (.cells cuZ16 38) = wy5 at HM ⊢
          generalize wy4.heap.size = P11 at HM ⊢
          refine hK.out _ _ (((HM.out.erase 0).erase 0)) (fun hHeld => ?_)
          clear hK K
          (try simp only [Act.put, List.setIfInBounds_toArray, List.set_cons_zero, List.set_cons_succ])
          refine step_one 12 rfl (by kernel_rfl) (fun K hK => ?_)
          clear hHeld
          refine step_store_blk _ rfl 38 (.tmp 10) (.tmp 39) rfl P10 (lc.map i64v) rfl (by show Value.agg clc = _; rw [Hlc.out.1]) 38 (zd 16) (HM.out.blk 1 rfl) (cu_cells _ Hlc.out.2.1.1) (by rw [List.length_map, Hlc.out.2.1.1]; rfl) (by intro v hv; obtain ⟨_, _, rfl⟩ := List.mem_map.1 hv; rfl) ?_
          intro wy6 hb hg
          replace HM := Lib.hid (show Mem wb [blkE P11 38 (zd 16), blkE P10 38 (lc.map i64v)] wy6 from HM.out.put 1 rfl _ hg hb)
          clear hb hg
          refine hK.out _ _ (((HM.out.erase 0).erase 0)) (fun hHeld => ?_)
          clear hK K
          (try simp only [Act.put])
          refine step_one 13 rfl (by kernel_rfl) (fun K hK => ?_)
          clear hHeld
          refine step_store_blk _ rfl 38 (.tmp 11) (.tmp 44) rfl P11 (ld.map i64v) rfl (by show Value.agg cld = _; rw [Hld.out.1]) 38 (zd 16) (HM.out.blk 0 rfl) (cu_cells _ Hld.out.2.1.1) (by rw [List.length_map, Hld.out.2.1.1]; rfl) (by intro v hv; obtain ⟨_, _, rfl⟩ := List.mem_map.1 hv; rfl) ?_
          intro wy7 hb hg
          replace HM := Lib.hid (show Mem wb [blkE P11 38 (ld.map i64v), blkE P10 38 (lc.map i64v)] wy7 from HM.out.put 0 rfl _ hg hb)
          clear hb hg
          refine hK.out _ _ (((HM.out.erase 0).erase 0)) (fun hHeld => ?_)
          clear hK K
          (try simp only [Act.put])
          refine wpAnyH_done (by kernel_rfl) ?_ _
          go_wp2_with fail
          go_meet
          exact ⟨P10, P11, rfl, rfl, Nat.le_trans (HB.out.2.2.2.2.2.2.2.2.2) (MemE.low HM.out.1 1 _ rfl), Nat.le_trans (HB.out.2.2.2.2.2.2.2.2.2) (MemE.low HM.out.1 0 _ rfl), HM.out.blk 1 rfl, HM.out.blk 0 rfl, HKE.out _ HM.out.bel⟩
        · clear hHeld
          go_simp
          replace HM := Lib.hid (show Mem wb [blkE wy3.heap.size 38 (zd 16), blkE P10 38 (zd 16)] (wy3.alloc (.cells cuZ16 38)) from HM.out.alloc rfl 38 cuZ16 (zd 16) rfl)
          generalize wy3.alloc (.cells cuZ16 38) = wy4 at HM ⊢
          generalize wy3.heap.size = P11 at HM ⊢
          refine hK.out _ _ (((HM.out.erase 0).erase 0)) (fun hHeld => ?_)
          clear hK K
          (try simp only [Act.put, List.setIfInBounds_toArray, List.set_cons_zero, List.set_cons_succ])
          refine step_one 9 rfl (by kernel_rfl) (fun K hK => ?_)
          clear hHeld
          go_simp
          refine (Kld.out _).mono ?_
          rintro e wy5 ⟨rfl, hb⟩
          replace HM := Lib.hid (show Mem wb [blkE P11 38 (zd 16), blkE P10 38 (zd 16)] wy5 from HM.out.below hb)
          clear hb
          go_wp2_with fail
          refine hK.out _ _ (((HM.out.erase 0).erase 0)) (fun hHeld => ?_)
          clear hK K
          (try simp only [Act.put, List.setIfInBounds_toArray, List.set_cons_zero, List.set_cons_succ])
          refine step_one 12 rfl (by kernel_rfl) (fun K hK => ?_)
          clear hHeld
          refine step_store_blk _ rfl 38 (.tmp 10) (.tmp 39) rfl P10 (lc.map i64v) rfl (by show Value.agg clc = _; rw [Hlc.out.1]) 38 (zd 16) (HM.out.blk 1 rfl) (cu_cells _ Hlc.out.2.1.1) (by rw [List.length_map, Hlc.out.2.1.1]; rfl) (by intro v hv; obtain ⟨_, _, rfl⟩ := List.mem_map.1 hv; rfl) ?_
          intro wy6 hb hg
          replace HM := Lib.hid (show Mem wb [blkE P11 38 (zd 16), blkE P10 38 (lc.map i64v)] wy6 from HM.out.put 1 rfl _ hg hb)
          clear hb hg
          refine hK.out _ _ (((HM.out.erase 0).erase 0)) (fun hHeld => ?_)
          clear hK K
          (try simp only [Act.put])
          refine step_one 13 rfl (by kernel_rfl) (fun K hK => ?_)
          clear hHeld
          refine step_store_blk _ rfl 38 (.tmp 11) (.tmp 44) rfl P11 (ld.map i64v) rfl (by show Value.agg cld = _; rw [Hld.out.1]) 38 (zd 16) (HM.out.blk 0 rfl) (cu_cells _ Hld.out.2.1.1) (by rw [List.length_map, Hld.out.2.1.1]; rfl) (by intro v hv; obtain ⟨_, _, rfl⟩ := List.mem_map.1 hv; rfl) ?_
          intro wy7 hb hg
          replace HM := Lib.hid (show Mem wb [blkE P11 38 (ld.map i64v), blkE P10 38 (lc.map i64v)] wy7 from HM.out.put 0 rfl _ hg hb)
          clear hb hg
          refine hK.out _ _ (((HM.out.erase 0).erase 0)) (fun hHeld => ?_)
          clear hK K
          (try simp only [Act.put])
          refine wpAnyH_done (by kernel_rfl) ?_ _
          go_wp2_with fail
          go_meet
          exact ⟨P10, P11, rfl, rfl, Nat.le_trans (HB.out.2.2.2.2.2.2.2.2.2) (MemE.low HM.out.1 1 _ rfl), Nat.le_trans (HB.out.2.2.2.2.2.2.2.2.2) (MemE.low HM.out.1 0 _ rfl), HM.out.blk 1 rfl, HM.out.blk 0 rfl, HKE.out _ HM.out.bel⟩
      · clear hHeld
        go_simp
        replace HM := Lib.hid (show Mem wb [blkE wy2.heap.size 38 (zd 16)] (wy2.alloc (.cells cuZ16 38)) from HM.out.alloc rfl 38 cuZ16 (zd 16) rfl)
        generalize wy2.alloc (.cells cuZ16 38) = wy3 at HM ⊢
        generalize wy2.heap.size = P11 at HM ⊢
        refine hK.out _ _ ((HM.out.erase 0)) (fun hHeld => ?_)
        clear hK K
        (try simp only [Act.put, List.setIfInBounds_toArray, List.set_cons_zero, List.set_cons_succ])
        refine step_two 9 10 rfl rfl (by kernel_rfl) (fun K hK => ?_) (fun K hK => ?_)
        · clear hHeld
          go_simp
          refine (Kld.out _).mono ?_
          rintro e wy4 ⟨rfl, hb⟩
          replace HM := Lib.hid (show Mem wb [blkE P11 38 (zd 16)] wy4 from HM.out.below hb)
          clear hb
          go_wp2_with fail
          refine hK.out _ _ ((HM.out.erase 0)) (fun hHeld => ?_)
          clear hK K
          (try simp only [Act.put, List.setIfInBounds_toArray, List.set_cons_zero, List.set_cons_succ])
          refine step_one 10 rfl (by kernel_rfl) (fun K hK => ?_)
          clear hHeld
          go_simp
          replace HM := Lib.hid (show Mem wb [blkE wy4.heap.size 38 (zd 16), blkE P11 38 (zd 16)] (wy4.alloc (.cells cuZ16 38)) from HM.out.alloc rfl 38 cuZ16 (zd 16) rfl)
          generalize wy4.alloc (.cells cuZ16 38) = wy5 at HM ⊢
          generalize wy4.heap.size = P10 at HM ⊢
          refine hK.out _ _ (((HM.out.erase 0).erase 0)) (fun hHeld => ?_)
          clear hK K
          (try simp only [Act.put, List.setIfInBounds_toArray, List.set_cons_zero, List.set_cons_succ])
          refine step_one 12 rfl (by kernel_rfl) (fun K hK => ?_)
          clear hHeld
          refine step_store_blk _ rfl 38 (.tmp 10) (.tmp 39) rfl P10 (lc.map i64v) rfl (by show Value.agg clc = _; rw [Hlc.out.1]) 38 (zd 16) (HM.out.blk 0 rfl) (cu_cells _ Hlc.out.2.1.1) (by rw [List.length_map, Hlc.out.2.1.1]; rfl) (by intro v hv; obtain ⟨_, _, rfl⟩ := List.mem_map.1 hv; rfl) ?_
          intro wy6 hb hg
          replace HM := Lib.hid (show Mem wb [blkE P10 38 (lc.map i64v), blkE P11 38 (zd 16)] wy6 from HM.out.put 0 rfl _ hg hb)
          clear hb hg
          refine hK.out _ _ (((HM.out.erase 0).erase 0)) (fun hHeld => ?_)
          clear hK K
          (try simp only [Act.put])
          refine step_one 13 rfl (by kernel_rfl) (fun K hK => ?_)
          clear hHeld
          refine step_store_blk _ rfl 38 (.tmp 11) (.tmp 44) rfl P11 (ld.map i64v) rfl (by show Value.agg cld = _; rw [Hld.out.1]) 38 (zd 16) (HM.out.blk 1 rfl) (cu_cells _ Hld.out.2.1.1) (by rw [List.length_map, Hld.out.2.1.1]; rfl) (by intro v hv; obtain ⟨_, _, rfl⟩ := List.mem_map.1 hv; rfl) ?_
          intro wy7 hb hg
          replace HM := Lib.hid (show Mem wb [blkE P10 38 (lc.map i64v), blkE P11 38 (ld.map i64v)] wy7 from HM.out.put 1 rfl _ hg hb)
          clear hb hg
          refine hK.out _ _ (((HM.out.erase 0).erase 0)) (fun hHeld => ?_)
          clear hK K
          (try simp only [Act.put])
          refine wpAnyH_done (by kernel_rfl) ?_ _
          go_wp2_with fail
          go_meet
          exact ⟨P10, P11, rfl, rfl, Nat.le_trans (HB.out.2.2.2.2.2.2.2.2.2) (MemE.low HM.out.1 0 _ rfl), Nat.le_trans (HB.out.2.2.2.2.2.2.2.2.2) (MemE.low HM.out.1 1 _ rfl), HM.out.blk 0 rfl, HM.out.blk 1 rfl, HKE.out _ HM.out.bel⟩
        · clear hHeld
          go_simp
          replace HM := Lib.hid (show Mem wb [blkE wy3.heap.size 38 (zd 16), blkE P11 38 (zd 16)] (wy3.alloc (.cells cuZ16 38)) from HM.out.alloc rfl 38 cuZ16 (zd 16) rfl)
          generalize wy3.alloc (.cells cuZ16 38) = wy4 at HM ⊢
          generalize wy3.heap.size = P10 at HM ⊢
          refine hK.out _ _ (((HM.out.erase 0).erase 0)) (fun hHeld => ?_)
          clear hK K
          (try simp only [Act.put, List.setIfInBounds_toArray, List.set_cons_zero, List.set_cons_succ])
          refine step_one 9 rfl (by kernel_rfl) (fun K hK => ?_)
          clear hHeld
          go_simp
          refine (Kld.out _).mono ?_
          rintro e wy5 ⟨rfl, hb⟩
          replace HM := Lib.hid (show Mem wb [blkE P10 38 (zd 16), blkE P11 38 (zd 16)] wy5 from HM.out.below hb)
          clear hb
          go_wp2_with fail
          refine hK.out _ _ (((HM.out.erase 0).erase 0)) (fun hHeld => ?_)
          clear hK K
          (try simp only [Act.put, List.setIfInBounds_toArray, List.set_cons_zero, List.set_cons_succ])
          refine step_one 12 rfl (by kernel_rfl) (fun K hK => ?_)
          clear hHeld
          refine step_store_blk _ rfl 38 (.tmp 10) (.tmp 39) rfl P10 (lc.map i64v) rfl (by show Value.agg clc = _; rw [Hlc.out.1]) 38 (zd 16) (HM.out.blk 0 rfl) (cu_cells _ Hlc.out.2.1.1) (by rw [List.length_map, Hlc.out.2.1.1]; rfl) (by intro v hv; obtain ⟨_, _, rfl⟩ := List.mem_map.1 hv; rfl) ?_
          intro wy6 hb hg
          replace HM := Lib.hid (show Mem wb [blkE P10 38 (lc.map i64v), blkE P11 38 (zd 16)] wy6 from HM.out.put 0 rfl _ hg hb)
          clear hb hg
          refine hK.out _ _ (((HM.out.erase 0).erase 0)) (fun hHeld => ?_)
          clear hK K
          (try simp only [Act.put])
          refine step_one 13 rfl (by kernel_rfl) (fun K hK => ?_)
          clear hHeld
          refine step_store_blk _ rfl 38 (.tmp 11) (.tmp 44) rfl P11 (ld.map i64v) rfl (by show Value.agg cld = _; rw [Hld.out.1]) 38 (zd 16) (HM.out.blk 1 rfl) (cu_cells _ Hld.out.2.1.1) (by rw [List.length_map, Hld.out.2.1.1]; rfl) (by intro v hv; obtain ⟨_, _, rfl⟩ := List.mem_map.1 hv; rfl) ?_
          intro wy7 hb hg
          replace HM := Lib.hid (show Mem wb [blkE P10 38 (lc.map i64v), blkE P11 38 (ld.map i64v)] wy7 from HM.out.put 1 rfl _ hg hb)
          clear hb hg
          refine hK.out _ _ (((HM.out.erase 0).erase 0)) (fun hHeld => ?_)
          clear hK K
          (try simp only [Act.put])
          refine wpAnyH_done (by kernel_rfl) ?_ _
          go_wp2_with fail
          go_meet
          exact ⟨P10, P11, rfl, rfl, Nat.le_trans (HB.out.2.2.2.2.2.2.2.2.2) (MemE.low HM.out.1 0 _ rfl), Nat.le_trans (HB.out.2.2.2.2.2.2.2.2.2) (MemE.low HM.out.1 1 _ rfl), HM.out.blk 0 rfl, HM.out.blk 1 rfl, HKE.out _ HM.out.bel⟩
    · clear hHeld
      go_simp
      replace HM := Lib.hid (show Mem wb [blkE wd1.heap.size 38 (zd 16)] (wd1.alloc (.cells cuZ16 38)) from HM.out.alloc rfl 38 cuZ16 (zd 16) rfl)
      generalize wd1.alloc (.cells cuZ16 38) = wy2 at HM ⊢
      generalize wd1.heap.size = P10 at HM ⊢
      refine hK.out _ _ ((HM.out.erase 0)) (fun hHeld => ?_)
      clear hK K
      (try simp only [Act.put, List.setIfInBounds_toArray, List.set_cons_zero, List.set_cons_succ])
      refine step_two 4 11 rfl rfl (by kernel_rfl) (fun K hK => ?_) (fun K hK => ?_)
      · clear hHeld
        go_simp
        refine (Klc.out _).mono ?_
        rintro e wy3 ⟨rfl, hb⟩
        replace HM := Lib.hid (show Mem wb [blkE P10 38 (zd 16)] wy3 from HM.out.below hb)
        clear hb
        go_wp2_with fail
        refine hK.out _ _ ((HM.out.erase 0)) (fun hHeld => ?_)
        clear hK K
        (try simp only [Act.put, List.setIfInBounds_toArray, List.set_cons_zero, List.set_cons_succ])
        refine step_two 9 11 rfl rfl (by kernel_rfl) (fun K hK => ?_) (fun K hK => ?_)
        · clear hHeld
          go_simp
          refine (Kld.out _).mono ?_
          rintro e wy4 ⟨rfl, hb⟩
          replace HM := Lib.hid (show Mem wb [blkE P10 38 (zd 16)] wy4 from HM.out.below hb)
          clear hb
          go_wp2_with fail
          refine hK.out _ _ ((HM.out.erase 0)) (fun hHeld => ?_)
          clear hK K
          (try simp only [Act.put, List.setIfInBounds_toArray, List.set_cons_zero, List.set_cons_succ])
          refine step_one 11 rfl (by kernel_rfl) (fun K hK => ?_)
          clear hHeld
          go_simp
          replace HM := Lib.hid (show Mem wb [blkE wy4.heap.size 38 (zd 16), blkE P10 38 (zd 16)] (wy4.alloc (.cells cuZ16 38)) from HM.out.alloc rfl 38 cuZ16 (zd 16) rfl)
          generalize wy4.alloc (.cells cuZ16 38) = wy5 at HM ⊢
          generalize wy4.heap.size = P11 at HM ⊢
          refine hK.out _ _ (((HM.out.erase 0).erase 0)) (fun hHeld => ?_)
          clear hK K
          (try simp only [Act.put, List.setIfInBounds_toArray, List.set_cons_zero, List.set_cons_succ])
          refine step_one 12 rfl (by kernel_rfl) (fun K hK => ?_)
          clear hHeld
          refine step_store_blk _ rfl 38 (.tmp 10) (.tmp 39) rfl P10 (lc.map i64v) rfl (by show Value.agg clc = _; rw [Hlc.out.1]) 38 (zd 16) (HM.out.blk 1 rfl) (cu_cells _ Hlc.out.2.1.1) (by rw [List.length_map, Hlc.out.2.1.1]; rfl) (by intro v hv; obtain ⟨_, _, rfl⟩ := List.mem_map.1 hv; rfl) ?_
          intro wy6 hb hg
          replace HM := Lib.hid (show Mem wb [blkE P11 38 (zd 16), blkE P10 38 (lc.map i64v)] wy6 from HM.out.put 1 rfl _ hg hb)
          clear hb hg
          refine hK.out _ _ (((HM.out.erase 0).erase 0)) (fun hHeld => ?_)
          clear hK K
          (try simp only [Act.put])
          refine step_one 13 rfl (by kernel_rfl) (fun K hK => ?_)
          clear hHeld
          refine step_store_blk _ rfl 38 (.tmp 11) (.tmp 44) rfl P11 (ld.map i64v) rfl (by show Value.agg cld = _; rw [Hld.out.1]) 38 (zd 16) (HM.out.blk 0 rfl) (cu_cells _ Hld.out.2.1.1) (by rw [List.length_map, Hld.out.2.1.1]; rfl) (by intro v hv; obtain ⟨_, _, rfl⟩ := List.mem_map.1 hv; rfl) ?_
          intro wy7 hb hg
          replace HM := Lib.hid (show Mem wb [blkE P11 38 (ld.map i64v), blkE P10 38 (lc.map i64v)] wy7 from HM.out.put 0 rfl _ hg hb)
          clear hb hg
          refine hK.out _ _ (((HM.out.erase 0).erase 0)) (fun hHeld => ?_)
          clear hK K
          (try simp only [Act.put])
          refine wpAnyH_done (by kernel_rfl) ?_ _
          go_wp2_with fail
          go_meet
          exact ⟨P10, P11, rfl, rfl, Nat.le_trans (HB.out.2.2.2.2.2.2.2.2.2) (MemE.low HM.out.1 1 _ rfl), Nat.le_trans (HB.out.2.2.2.2.2.2.2.2.2) (MemE.low HM.out.1 0 _ rfl), HM.out.blk 1 rfl, HM.out.blk 0 rfl, HKE.out _ HM.out.bel⟩
        · clear hHeld
          go_simp
          replace HM := Lib.hid (show Mem wb [blkE wy3.heap.size 38 (zd 16), blkE P10 38 (zd 16)] (wy3.alloc (.cells cuZ16 38)) from HM.out.alloc rfl 38 cuZ16 (zd 16) rfl)
          generalize wy3.alloc (.cells cuZ16 38) = wy4 at HM ⊢
          generalize wy3.heap.size = P11 at HM ⊢
          refine hK.out _ _ (((HM.out.erase 0).erase 0)) (fun hHeld => ?_)
          clear hK K
          (try simp only [Act.put, List.setIfInBounds_toArray, List.set_cons_zero, List.set_cons_succ])
          refine step_one 9 rfl (by kernel_rfl) (fun K hK => ?_)
          clear hHeld
          go_simp
          refine (Kld.out _).mono ?_
          rintro e wy5 ⟨rfl, hb⟩
          replace HM := Lib.hid (show Mem wb [blkE P11 38 (zd 16), blkE P10 38 (zd 16)] wy5 from HM.out.below hb)
          clear hb
          go_wp2_with fail
          refine hK.out _ _ (((HM.out.erase 0).erase 0)) (fun hHeld => ?_)
          clear hK K
          (try simp only [Act.put, List.setIfInBounds_toArray, List.set_cons_zero, List.set_cons_succ])
          refine step_one 12 rfl (by kernel_rfl) (fun K hK => ?_)
          clear hHeld
          refine step_store_blk _ rfl 38 (.tmp 10) (.tmp 39) rfl P10 (lc.map i64v) rfl (by show Value.agg clc = _; rw [Hlc.out.1]) 38 (zd 16) (HM.out.blk 1 rfl) (cu_cells _ Hlc.out.2.1.1) (by rw [List.length_map, Hlc.out.2.1.1]; rfl) (by intro v hv; obtain ⟨_, _, rfl⟩ := List.mem_map.1 hv; rfl) ?_
          intro wy6 hb hg
          replace HM := Lib.hid (show Mem wb [blkE P11 38 (zd 16), blkE P10 38 (lc.map i64v)] wy6 from HM.out.put 1 rfl _ hg hb)
          clear hb hg
          refine hK.out _ _ (((HM.out.erase 0).erase 0)) (fun hHeld => ?_)
          clear hK K
          (try simp only [Act.put])
          refine step_one 13 rfl (by kernel_rfl) (fun K hK => ?_)
          clear hHeld
          refine step_store_blk _ rfl 38 (.tmp 11) (.tmp 44) rfl P11 (ld.map i64v) rfl (by show Value.agg cld = _; rw [Hld.out.1]) 38 (zd 16) (HM.out.blk 0 rfl) (cu_cells _ Hld.out.2.1.1) (by rw [List.length_map, Hld.out.2.1.1]; rfl) (by intro v hv; obtain ⟨_, _, rfl⟩ := List.mem_map.1 hv; rfl) ?_
          intro wy7 hb hg
          replace HM := Lib.hid (show Mem wb [blkE P11 38 (ld.map i64v), blkE P10 38 (lc.map i64v)] wy7 from HM.out.put 0 rfl _ hg hb)
          clear hb hg
          refine hK.out _ _ (((HM.out.erase 0).erase 0)) (fun hHeld => ?_)
          clear hK K
          (try simp only [Act.put])
          refine wpAnyH_done (by kernel_rfl) ?_ _
          go_wp2_with fail
          go_meet
          exact ⟨P10, P11, rfl, rfl, Nat.le_trans (HB.out.2.2.2.2.2.2.2.2.2) (MemE.low HM.out.1 1 _ rfl), Nat.le_trans (HB.out.2.2.2.2.2.2.2.2.2) (MemE.low HM.out.1 0 _ rfl), HM.out.blk 1 rfl, HM.out.blk 0 rfl, HKE.out _ HM.out.bel⟩
      · clear hHeld
        go_simp
        replace HM := Lib.hid (show Mem wb [blkE wy2.heap.size 38 (zd 16), blkE P10 38 (zd 16)] (wy2.alloc (.cells cuZ16 38)) from HM.out.alloc rfl 38 cuZ16 (zd 16) rfl)
        generalize wy2.alloc (.cells cuZ16 38) = wy3 at HM ⊢
        generalize wy2.heap.size = P11 at HM ⊢
        refine hK.out _ _ (((HM.out.erase 0).erase 0)) (fun hHeld => ?_)
        clear hK K
        (try simp only [Act.put, List.setIfInBounds_toArray, List.set_cons_zero, List.set_cons_succ])
        refine step_one 4 rfl (by kernel_rfl) (fun K hK => ?_)
        clear hHeld
        go_simp
        refine (Klc.out _).mono ?_
        rintro e wy4 ⟨rfl, hb⟩
        replace HM := Lib.hid (show Mem wb [blkE P11 38 (zd 16), blkE P10 38 (zd 16)] wy4 from HM.out.below hb)
        clear hb
        go_wp2_with fail
        refine hK.out _ _ (((HM.out.erase 0).erase 0)) (fun hHeld => ?_)
        clear hK K
        (try simp only [Act.put, List.setIfInBounds_toArray, List.set_cons_zero, List.set_cons_succ])
        refine step_one 9 rfl (by kernel_rfl) (fun K hK => ?_)
        clear hHeld
        go_simp
        refine (Kld.out _).mono ?_
        rintro e wy5 ⟨rfl, hb⟩
        replace HM := Lib.hid (show Mem wb [blkE P11 38 (zd 16), blkE P10 38 (zd 16)] wy5 from HM.out.below hb)
        clear hb
        go_wp2_with fail
        refine hK.out _ _ (((HM.out.erase 0).erase 0)) (fun hHeld => ?_)
        clear hK K
        (try simp only [Act.put, List.setIfInBounds_toArray, List.set_cons_zero, List.set_cons_succ])
        refine step_one 12 rfl (by kernel_rfl) (fun K hK => ?_)
        clear hHeld
        refine step_store_blk _ rfl 38 (.tmp 10) (.tmp 39) rfl P10 (lc.map i64v) rfl (by show Value.agg clc = _; rw [Hlc.out.1]) 38 (zd 16) (HM.out.blk 1 rfl) (cu_cells _ Hlc.out.2.1.1) (by rw [List.length_map, Hlc.out.2.1.1]; rfl) (by intro v hv; obtain ⟨_, _, rfl⟩ := List.mem_map.1 hv; rfl) ?_
        intro wy6 hb hg
        replace HM := Lib.hid (show Mem wb [blkE P11 38 (zd 16), blkE P10 38 (lc.map i64v)] wy6 from HM.out.put 1 rfl _ hg hb)
        clear hb hg
        refine hK.out _ _ (((HM.out.erase 0).erase 0)) (fun hHeld => ?_)
        clear hK K
        (try simp only [Act.put])
        refine step_one 13 rfl (by kernel_rfl) (fun K hK => ?_)
        clear hHeld
        refine step_store_blk _ rfl 38 (.tmp 11) (.tmp 44) rfl P11 (ld.map i64v) rfl (by show Value.agg cld = _; rw [Hld.out.1]) 38 (zd 16) (HM.out.blk 0 rfl) (cu_cells _ Hld.out.2.1.1) (by rw [List.length_map, Hld.out.2.1.1]; rfl) (by intro v hv; obtain ⟨_, _, rfl⟩ := List.mem_map.1 hv; rfl) ?_
        intro wy7 hb hg
        replace HM := Lib.hid (show Mem wb [blkE P11 38 (ld.map i64v), blkE P10 38 (lc.map i64v)] wy7 from HM.out.put 0 rfl _ hg hb)
        clear hb hg
        refine hK.out _ _ (((HM.out.erase 0).erase 0)) (fun hHeld => ?_)
        clear hK K
        (try simp only [Act.put])
        refine wpAnyH_done (by kernel_rfl) ?_ _
        go_wp2_with fail
        go_meet
        exact ⟨P10, P11, rfl, rfl, Nat.le_trans (HB.out.2.2.2.2.2.2.2.2.2) (MemE.low HM.out.1 1 _ rfl), Nat.le_trans (HB.out.2.2.2.2.2.2.2.2.2) (MemE.low HM.out.1 0 _ rfl), HM.out.blk 1 rfl, HM.out.blk 0 rfl, HKE.out _ HM.out.bel⟩
    · clear hHeld
      go_simp
      replace HM := Lib.hid (show Mem wb [blkE wd1.heap.size 38 (zd 16)] (wd1.alloc (.cells cuZ16 38)) from HM.out.alloc rfl 38 cuZ16 (zd 16) rfl)
      generalize wd1.alloc (.cells cuZ16 38) = wy2 at HM ⊢
      generalize wd1.heap.size = P11 at HM ⊢
      refine hK.out _ _ ((HM.out.erase 0)) (fun hHeld => ?_)
      clear hK K
      (try simp only [Act.put, List.setIfInBounds_toArray, List.set_cons_zero, List.set_cons_succ])
      refine step_two 4 10 rfl rfl (by kernel_rfl) (fun K hK => ?_) (fun K hK => ?_)
      · clear hHeld
        go_simp
        refine (Klc.out _).mono ?_
        rintro e wy3 ⟨rfl, hb⟩
        replace HM := Lib.hid (show Mem wb [blkE P11 38 (zd 16)] wy3 from HM.out.below hb)
        clear hb
        go_wp2_with fail
        refine hK.out _ _ ((HM.out.erase 0)) (fun hHeld => ?_)
        clear hK K
        (try simp only [Act.put, List.setIfInBounds_toArray, List.set_cons_zero, List.set_cons_succ])
        refine step_two 9 10 rfl rfl (by kernel_rfl) (fun K hK => ?_) (fun K hK => ?_)
        · clear hHeld
          go_simp
          refine (Kld.out _).mono ?_
          rintro e wy4 ⟨rfl, hb⟩
          replace HM := Lib.hid (show Mem wb [blkE P11 38 (zd 16)] wy4 from HM.out.below hb)
          clear hb
          go_wp2_with fail
          refine hK.out _ _ ((HM.out.erase 0)) (fun hHeld => ?_)
          clear hK K
          (try simp only [Act.put, List.setIfInBounds_toArray, List.set_cons_zero, List.set_cons_succ])
          refine step_one 10 rfl (by kernel_rfl) (fun K hK => ?_)
          clear hHeld
          go_simp
          replace HM := Lib.hid (show Mem wb [blkE wy4.heap.size 38 (zd 16), blkE P11 38 (zd 16)] (wy4.alloc (.cells cuZ16 38)) from HM.out.alloc rfl 38 cuZ16 (zd 16) rfl)
          generalize wy4.alloc (.cells cuZ16 38) = wy5 at HM ⊢
          generalize wy4.heap.size = P10 at HM ⊢
          refine hK.out _ _ (((HM.out.erase 0).erase 0)) (fun hHeld => ?_)
          clear hK K
          (try simp only [Act.put, List.setIfInBounds_toArray, List.set_cons_zero, List.set_cons_succ])
          refine step_one 12 rfl (by kernel_rfl) (fun K hK => ?_)
          clear hHeld
          refine step_store_blk _ rfl 38 (.tmp 10) (.tmp 39) rfl P10 (lc.map i64v) rfl (by show Value.agg clc = _; rw [Hlc.out.1]) 38 (zd 16) (HM.out.blk 0 rfl) (cu_cells _ Hlc.out.2.1.1) (by rw [List.length_map, Hlc.out.2.1.1]; rfl) (by intro v hv; obtain ⟨_, _, rfl⟩ := List.mem_map.1 hv; rfl) ?_
          intro wy6 hb hg
          replace HM := Lib.hid (show Mem wb [blkE P10 38 (lc.map i64v), blkE P11 38 (zd 16)] wy6 from HM.out.put 0 rfl _ hg hb)
          clear hb hg
          refine hK.out _ _ (((HM.out.erase 0).erase 0)) (fun hHeld => ?_)
          clear hK K
          (try simp only [Act.put])
          refine step_one 13 rfl (by kernel_rfl) (fun K hK => ?_)
          clear hHeld
          refine step_store_blk _ rfl 38 (.tmp 11) (.tmp 44) rfl P11 (ld.map i64v) rfl (by show Value.agg cld = _; rw [Hld.out.1]) 38 (zd 16) (HM.out.blk 1 rfl) (cu_cells _ Hld.out.2.1.1) (by rw [List.length_map, Hld.out.2.1.1]; rfl) (by intro v hv; obtain ⟨_, _, rfl⟩ := List.mem_map.1 hv; rfl) ?_
          intro wy7 hb hg
          replace HM := Lib.hid (show Mem wb [blkE P10 38 (lc.map i64v), blkE P11 38 (ld.map i64v)] wy7 from HM.out.put 1 rfl _ hg hb)
          clear hb hg
          refine hK.out _ _ (((HM.out.erase 0).erase 0)) (fun hHeld => ?_)
          clear hK K
          (try simp only [Act.put])
          refine wpAnyH_done (by kernel_rfl) ?_ _
          go_wp2_with fail
          go_meet
          exact ⟨P10, P11, rfl, rfl, Nat.le_trans (HB.out.2.2.2.2.2.2.2.2.2) (MemE.low HM.out.1 0 _ rfl), Nat.le_trans (HB.out.2.2.2.2.2.2.2.2.2) (MemE.low HM.out.1 1 _ rfl), HM.out.blk 0 rfl, HM.out.blk 1 rfl, HKE.out _ HM.out.bel⟩
        · clear hHeld
          go_simp
          replace HM := Lib.hid (show Mem wb [blkE wy3.heap.size 38 (zd 16), blkE P11 38 (zd 16)] (wy3.alloc (.cells cuZ16 38)) from HM.out.alloc rfl 38 cuZ16 (zd 16) rfl)
          generalize wy3.alloc (.cells cuZ16 38) = wy4 at HM ⊢
          generalize wy3.heap.size = P10 at HM ⊢
          refine hK.out _ _ (((HM.out.erase 0).erase 0)) (fun hHeld => ?_)
          clear hK K
          (try simp only [Act.put, List.setIfInBounds_toArray, List.set_cons_zero, List.set_cons_succ])
          refine step_one 9 rfl (by kernel_rfl) (fun K hK => ?_)
          clear hHeld
          go_simp
          refine (Kld.out _).mono ?_
          rintro e wy5 ⟨rfl, hb⟩
          replace HM := Lib.hid (show Mem wb [blkE P10 38 (zd 16), blkE P11 38 (zd 16)] wy5 from HM.out.below hb)
          clear hb
          go_wp2_with fail
          refine hK.out _ _ (((HM.out.erase 0).erase 0)) (fun hHeld => ?_)
          clear hK K
          (try simp only [Act.put, List.setIfInBounds_toArray, List.set_cons_zero, List.set_cons_succ])
          refine step_one 12 rfl (by kernel_rfl) (fun K hK => ?_)
          clear hHeld
          refine step_store_blk _ rfl 38 (.tmp 10) (.tmp 39) rfl P10 (lc.map i64v) rfl (by show Value.agg clc = _; rw [Hlc.out.1]) 38 (zd 16) (HM.out.blk 0 rfl) (cu_cells _ Hlc.out.2.1.1) (by rw [List.length_map, Hlc.out.2.1.1]; rfl) (by intro v hv; obtain ⟨_, _, rfl⟩ := List.mem_map.1 hv; rfl) ?_
          intro wy6 hb hg
          replace HM := Lib.hid (show Mem wb [blkE P10 38 (lc.map i64v), blkE P11 38 (zd 16)] wy6 from HM.out.put 0 rfl _ hg hb)
          clear hb hg
          refine hK.out _ _ (((HM.out.erase 0).erase 0)) (fun hHeld => ?_)
          clear hK K
          (try simp only [Act.put])
          refine step_one 13 rfl (by kernel_rfl) (fun K hK => ?_)
          clear hHeld
          refine step_store_blk _ rfl 38 (.tmp 11) (.tmp 44) rfl P11 (ld.map i64v) rfl (by show Value.agg cld = _; rw [Hld.out.1]) 38 (zd 16) (HM.out.blk 1 rfl) (cu_cells _ Hld.out.2.1.1) (by rw [List.length_map, Hld.out.2.1.1]; rfl) (by intro v hv; obtain ⟨_, _, rfl⟩ := List.mem_map.1 hv; rfl) ?_
          intro wy7 hb hg
          replace HM := Lib.hid (show Mem wb [blkE P10 38 (lc.map i64v), blkE P11 38 (ld.map i64v)] wy7 from HM.out.put 1 rfl _ hg hb)
          clear hb hg
          refine hK.out _ _ (((HM.out.erase 0).erase 0)) (fun hHeld => ?_)
          clear hK K
          (try simp only [Act.put])
          refine wpAnyH_done (by kernel_rfl) ?_ _
          go_wp2_with fail
          go_meet
          exact ⟨P10, P11, rfl, rfl, Nat.le_trans (HB.out.2.2.2.2.2.2.2.2.2) (MemE.low HM.out.1 0 _ rfl), Nat.le_trans (HB.out.2.2.2.2.2.2.2.2.2) (MemE.low HM.out.1 1 _ rfl), HM.out.blk 0 rfl, HM.out.blk 1 rfl, HKE.out _ HM.out.bel⟩
      · clear hHeld
        go_simp
        replace HM := Lib.hid (show Mem wb [blkE wy2.heap.size 38 (zd 16), blkE P11 38 (zd 16)] (wy2.alloc (.cells cuZ16 38)) from HM.out.alloc rfl 38 cuZ16 (zd 16) rfl)
        generalize wy2.alloc (.cells cuZ16 38) = wy3 at HM ⊢
        generalize wy2.heap.size = P10 at HM ⊢
        refine hK.out _ _ (((HM.out.erase 0).erase 0)) (fun hHeld => ?_)
        clear hK K
        (try simp only [Act.put, List.setIfInBounds_toArray, List.set_cons_zero, List.set_cons_succ])
        refine step_one 4 rfl (by kernel_rfl) (fun K hK => ?_)
        clear hHeld
        go_simp
        refine (Klc.out _).mono ?_
        rintro e wy4 ⟨rfl, hb⟩
        replace HM := Lib.hid (show Mem wb [blkE P10 38 (zd 16), blkE P11 38 (zd 16)] wy4 from HM.out.below hb)
        clear hb
        go_wp2_with fail
        refine hK.out _ _ (((HM.out.erase 0).erase 0)) (fun hHeld => ?_)
        clear hK K
        (try simp only [Act.put, List.setIfInBounds_toArray, List.set_cons_zero, List.set_cons_succ])
        refine step_one 9 rfl (by kernel_rfl) (fun K hK => ?_)
        clear hHeld
        go_simp
        refine (Kld.out _).mono ?_
        rintro e wy5 ⟨rfl, hb⟩
        replace HM := Lib.hid (show Mem wb [blkE P10 38 (zd 16), blkE P11 38 (zd 16)] wy5 from HM.out.below hb)
        clear hb
        go_wp2_with fail
        refine hK.out _ _ (((HM.out.erase 0).erase 0)) (fun hHeld => ?_)
        clear hK K
        (try simp only [Act.put, List.setIfInBounds_toArray, List.set_cons_zero, List.set_cons_succ])
        refine step_one 12 rfl (by kernel_rfl) (fun K hK => ?_)
        clear hHeld
        refine step_store_blk _ rfl 38 (.tmp 10) (.tmp 39) rfl P10 (lc.map i64v) rfl (by show Value.agg clc = _; rw [Hlc.out.1]) 38 (zd 16) (HM.out.blk 0 rfl) (cu_cells _ Hlc.out.2.1.1) (by rw [List.length_map, Hlc.out.2.1.1]; rfl) (by intro v hv; obtain ⟨_, _, rfl⟩ := List.mem_map.1 hv; rfl) ?_
        intro wy6 hb hg
        replace HM := Lib.hid (show Mem wb [blkE P10 38 (lc.map i64v), blkE P11 38 (zd 16)] wy6 from HM.out.put 0 rfl _ hg hb)
        clear hb hg
        refine hK.out _ _ (((HM.out.erase 0).erase 0)) (fun hHeld => ?_)
        clear hK K
        (try simp only [Act.put])
        refine step_one 13 rfl (by kernel_rfl) (fun K hK => ?_)
        clear hHeld
        refine step_store_blk _ rfl 38 (.tmp 11) (.tmp 44) rfl P11 (ld.map i64v) rfl (by show Value.agg cld = _; rw [Hld.out.1]) 38 (zd 16) (HM.out.blk 1 rfl) (cu_cells _ Hld.out.2.1.1) (by rw [List.length_map, Hld.out.2.1.1]; rfl) (by intro v hv; obtain ⟨_, _, rfl⟩ := List.mem_map.1 hv; rfl) ?_
        intro wy7 hb hg
        replace HM := Lib.hid (show Mem wb [blkE P10 38 (lc.map i64v), blkE P11 38 (ld.map i64v)] wy7 from HM.out.put 1 rfl _ hg hb)
        clear hb hg
        refine hK.out _ _ (((HM.out.erase 0).erase 0)) (fun hHeld => ?_)
        clear hK K
        (try simp only [Act.put])
        refine wpAnyH_done (by kernel_rfl) ?_ _
        go_wp2_with fail
        go_meet
        exact ⟨P10, P11, rfl, rfl, Nat.le_trans (HB.out.2.2.2.2.2.2.2.2.2) (MemE.low HM.out.1 0 _ rfl), Nat.le_trans (HB.out.2.2.2.2.2.2.2.2.2) (MemE.low HM.out.1 1 _ rfl), HM.out.blk 0 rfl, HM.out.blk 1 rfl, HKE.out _ HM.out.bel⟩
  case rest =>
  clear HB
  revert wc
  intro wb hcut
  obtain ⟨P10, P11, rfl, rfl, hP10, hP11, hcut⟩ := hcut
  have HB := Lib.hid hcut
  have HP10 := Lib.hid (And.intro hP10 hP11)
  clear hcut hP10 hP11
  have T12 := Lib.hid (show ∀ W : World, Calls Try.prog 23 #[.agg cld, .agg cla] W fun e w' => ∃ r, Cu.Good r ∧ Cu.fq (Cu.valL r) = (Cu.fq (Cu.valL x3) - Cu.fq (Cu.valL z3)) * (Cu.fq (Cu.valL x2) + Cu.fq (Cu.valL z2)) ∧ e = .returned (.agg (r.map i64v).toArray) ∧ Below W.heap.size W w' from fun W => by
    have h := refTimes_any ld la (Hld.out.2.1).1 (Hla.out.2.1).1 (Hld.out.2.1).2 (Hla.out.2.1).2 W
    rw [Hld.out.2.2, Hla.out.2.2, Hld.out.1, Hla.out.1] at h
    exact h)
  have T13 := Lib.hid (show ∀ W : World, Calls Try.prog 23 #[.agg clc, .agg clb] W fun e w' => ∃ r, Cu.Good r ∧ Cu.fq (Cu.valL r) = (Cu.fq (Cu.valL x3) + Cu.fq (Cu.valL z3)) * (Cu.fq (Cu.valL x2) - Cu.fq (Cu.valL z2)) ∧ e = .returned (.agg (r.map i64v).toArray) ∧ Below W.heap.size W w' from fun W => by
    have h := refTimes_any lc lb (Hlc.out.2.1).1 (Hlb.out.2.1).1 (Hlc.out.2.1).2 (Hlb.out.2.1).2 W
    rw [Hlc.out.2.2, Hlb.out.2.2, Hlc.out.1, Hlb.out.1] at h
    exact h)
  go_upto_region 5 with fail
  go_cut [12, 13] (fun p q wx => ∃ P12 P13 r12 r13, p = .pointer (some ⟨P12, 0, none⟩) ∧ q = .pointer (some ⟨P13, 0, none⟩) ∧ Cu.Good r12 ∧ Cu.fq (Cu.valL r12) = (Cu.fq (Cu.valL x3) - Cu.fq (Cu.valL z3)) * (Cu.fq (Cu.valL x2) + Cu.fq (Cu.valL z2)) ∧ Cu.Good r13 ∧ Cu.fq (Cu.valL r13) = (Cu.fq (Cu.valL x3) + Cu.fq (Cu.valL z3)) * (Cu.fq (Cu.valL x2) - Cu.fq (Cu.valL z2)) ∧ w.heap.size + 3 ≤ P12 ∧ w.heap.size + 3 ≤ P13 ∧ Blk wx P12 38 (r12.map i64v) ∧ Blk wx P13 38 (r13.map i64v) ∧ Blk wx P10 38 (lc.map i64v) ∧ Blk wx P11 38 (ld.map i64v) ∧ Blk wx P9 38 (le.map i64v) ∧ Blk wx P7 38 (r7.map i64v) ∧ Blk wx P8 38 (r8.map i64v) ∧ Blk wx P5 38 (la.map i64v) ∧ Blk wx P6 38 (lb.map i64v) ∧ Blk wx w.heap.size 41 (ladV x2 z2 x3 z3) ∧ Blk wx (w.heap.size + 1) 38 (x1.map i64v) ∧ Blk wx (w.heap.size + 1 + 1) 41 (zd 64) ∧ Below w.heap.size w wx ∧ w.heap.size + 3 ≤ wx.heap.size)
  case first =>
    have HM := Lib.hid (Mem.nil wb)
    have HKE := Lib.hid (show ∀ W, Below wb.heap.size wb W → Blk W P10 38 (lc.map i64v) ∧ Blk W P11 38 (ld.map i64v) ∧ Blk W P9 38 (le.map i64v) ∧ Blk W P7 38 (r7.map i64v) ∧ Blk W P8 38 (r8.map i64v) ∧ Blk W P5 38 (la.map i64v) ∧ Blk W P6 38 (lb.map i64v) ∧ Blk W w.heap.size 41 (ladV x2 z2 x3 z3) ∧ Blk W (w.heap.size + 1) 38 (x1.map i64v) ∧ Blk W (w.heap.size + 1 + 1) 41 (zd 64) ∧ Below w.heap.size w W ∧ w.heap.size + 3 ≤ W.heap.size from fun W hW => ⟨(HB.out.1).below hW (HB.out.1).lt, (HB.out.2.1).below hW (HB.out.2.1).lt, (HB.out.2.2.1).below hW (HB.out.2.2.1).lt, (HB.out.2.2.2.1).below hW (HB.out.2.2.2.1).lt, (HB.out.2.2.2.2.1).below hW (HB.out.2.2.2.2.1).lt, (HB.out.2.2.2.2.2.1).below hW (HB.out.2.2.2.2.2.1).lt, (HB.out.2.2.2.2.2.2.1).below hW (HB.out.2.2.2.2.2.2.1).lt, (HB.out.2.2.2.2.2.2.2.1).below hW (HB.out.2.2.2.2.2.2.2.1).lt, (HB.out.2.2.2.2.2.2.2.2.1).below hW (HB.out.2.2.2.2.2.2.2.2.1).lt, (HB.out.2.2.2.2.2.2.2.2.2.1).below hW (HB.out.2.2.2.2.2.2.2.2.2.1).lt, (HB.out.2.2.2.2.2.2.2.2.2.2.1).trans (hW.mono (HB.out.2.2.2.2.2.2.2.2.2.2.1).size), Nat.le_trans (HB.out.2.2.2.2.2.2.2.2.2.2.2) hW.size⟩)
    refine wp_region_held_drew (S := fun W' => Mem wb [] W') (by kernel_rfl) (HM.out.drew) (fun hHeld => ?_)
    replace HM := Lib.hid HM.out.drew
    generalize wb.drew = wd1 at HM hHeld ⊢
    refine take_first (v := .agg cld) 0 rfl (by kernel_rfl) (by kernel_rfl) (by kernel_rfl) (fun _ _ _ h => h) (by rw [← Hld.out.1]; exact yields_load_blk (by rfl) 38 (.tmp 11) rfl P11 rfl 38 (ld.map i64v) (fun w' hb => (HB.out.2.1).below hb.bel (HB.out.2.1).lt) 16 2 Try.underlying38 (cu_cells ld Hld.out.2.1.1)) (by assumption) ?_
    (try simp only [Act.put, List.setIfInBounds_toArray, List.set_cons_zero, List.set_cons_succ])
    refine take_first (v := .agg cla) 1 rfl (by kernel_rfl) (by kernel_rfl) (by kernel_rfl) (fun _ _ _ h => h) (by rw [← Hla.out.1]; exact yields_load_blk (by rfl) 38 (.tmp 5) rfl P5 rfl 38 (la.map i64v) (fun w' hb => (HB.out.2.2.2.2.2.1).below hb.bel (HB.out.2.2.2.2.2.1).lt) 16 2 Try.underlying38 (cu_cells la Hla.out.2.1.1)) (by assumption) ?_
    (try simp only [Act.put, List.setIfInBounds_toArray, List.set_cons_zero, List.set_cons_succ])
    refine take_first (v := .agg clc) 3 rfl (by kernel_rfl) (by kernel_rfl) (by kernel_rfl) (fun _ _ _ h => h) (by rw [← Hlc.out.1]; exact yields_load_blk (by rfl) 38 (.tmp 10) rfl P10 rfl 38 (lc.map i64v) (fun w' hb => (HB.out.1).below hb.bel (HB.out.1).lt) 16 2 Try.underlying38 (cu_cells lc Hlc.out.2.1.1)) (by assumption) ?_
    (try simp only [Act.put, List.setIfInBounds_toArray, List.set_cons_zero, List.set_cons_succ])
    refine take_first (v := .agg clb) 4 rfl (by kernel_rfl) (by kernel_rfl) (by kernel_rfl) (fun _ _ _ h => h) (by rw [← Hlb.out.1]; exact yields_load_blk (by rfl) 38 (.tmp 6) rfl P6 rfl 38 (lb.map i64v) (fun w' hb => (HB.out.2.2.2.2.2.2.1).below hb.bel (HB.out.2.2.2.2.2.2.1).lt) 16 2 Try.underlying38 (cu_cells lb Hlb.out.2.1.1)) (by assumption) ?_
    (try simp only [Act.put, List.setIfInBounds_toArray, List.set_cons_zero, List.set_cons_succ])
    refine step_three 2 6 7 rfl rfl rfl (by kernel_rfl) (fun K hK => ?_) (fun K hK => ?_) (fun K hK => ?_)
    · clear hHeld
      go_simp
      refine (T12.out _).mono ?_
      rintro e wy2 ⟨r12, hr12, vr12, rfl, hb⟩
      replace HM := Lib.hid (show Mem wb [] wy2 from HM.out.below hb)
      obtain ⟨c12, hc12⟩ : ∃ c, (r12.map i64v).toArray = c := ⟨_, rfl⟩
      rw [hc12]
      clear hb
      go_wp2_with fail
      refine hK.out _ _ (HM.out) (fun hHeld => ?_)
      clear hK K
      (try simp only [Act.put, List.setIfInBounds_toArray, List.set_cons_zero, List.set_cons_succ])
      refine step_three 5 6 7 rfl rfl rfl (by kernel_rfl) (fun K hK => ?_) (fun K hK => ?_) (fun K hK => ?_)
      · clear hHeld
        go_simp
        refine (T13.out _).mono ?_
        rintro e wy3 ⟨r13, hr13, vr13, rfl, hb⟩
        replace HM := Lib.hid (show Mem wb [] wy3 from HM.out.below hb)
        obtain ⟨c13, hc13⟩ : ∃ c, (r13.map i64v).toArray = c := ⟨_, rfl⟩
        rw [hc13]
        clear hb
        go_wp2_with fail
        refine hK.out _ _ (HM.out) (fun hHeld => ?_)
        clear hK K
        (try simp only [Act.put, List.setIfInBounds_toArray, List.set_cons_zero, List.set_cons_succ])
        refine step_two 6 7 rfl rfl (by kernel_rfl) (fun K hK => ?_) (fun K hK => ?_)
        · clear hHeld
          go_simp
          replace HM := Lib.hid (show Mem wb [blkE wy3.heap.size 38 (zd 16)] (wy3.alloc (.cells cuZ16 38)) from HM.out.alloc rfl 38 cuZ16 (zd 16) rfl)
          generalize wy3.alloc (.cells cuZ16 38) = wy4 at HM ⊢
          generalize wy3.heap.size = P12 at HM ⊢
          refine hK.out _ _ ((HM.out.erase 0)) (fun hHeld => ?_)
          clear hK K
          (try simp only [Act.put, List.setIfInBounds_toArray, List.set_cons_zero, List.set_cons_succ])
          refine step_one 7 rfl (by kernel_rfl) (fun K hK => ?_)
          clear hHeld
          go_simp
          replace HM := Lib.hid (show Mem wb [blkE wy4.heap.size 38 (zd 16), blkE P12 38 (zd 16)] (wy4.alloc (.cells cuZ16 38)) from HM.out.alloc rfl 38 cuZ16 (zd 16) rfl)
          generalize wy4.alloc (.cells cuZ16 38) = wy5 at HM ⊢
          generalize wy4.heap.size = P13 at HM ⊢
          refine hK.out _ _ (((HM.out.erase 0).erase 0)) (fun hHeld => ?_)
          clear hK K
          (try simp only [Act.put, List.setIfInBounds_toArray, List.set_cons_zero, List.set_cons_succ])
          refine step_one 8 rfl (by kernel_rfl) (fun K hK => ?_)
          clear hHeld
          refine step_store_blk _ rfl 38 (.tmp 12) (.tmp 47) rfl P12 (r12.map i64v) rfl (by show Value.agg c12 = _; rw [hc12]) 38 (zd 16) (HM.out.blk 1 rfl) (cu_cells _ hr12.1) (by rw [List.length_map, hr12.1]; rfl) (by intro v hv; obtain ⟨_, _, rfl⟩ := List.mem_map.1 hv; rfl) ?_
          intro wy6 hb hg
          replace HM := Lib.hid (show Mem wb [blkE P13 38 (zd 16), blkE P12 38 (r12.map i64v)] wy6 from HM.out.put 1 rfl _ hg hb)
          clear hb hg
          refine hK.out _ _ (((HM.out.erase 0).erase 0)) (fun hHeld => ?_)
          clear hK K
          (try simp only [Act.put])
          refine step_one 9 rfl (by kernel_rfl) (fun K hK => ?_)
          clear hHeld
          refine step_store_blk _ rfl 38 (.tmp 13) (.tmp 50) rfl P13 (r13.map i64v) rfl (by show Value.agg c13 = _; rw [hc13]) 38 (zd 16) (HM.out.blk 0 rfl) (cu_cells _ hr13.1) (by rw [List.length_map, hr13.1]; rfl) (by intro v hv; obtain ⟨_, _, rfl⟩ := List.mem_map.1 hv; rfl) ?_
          intro wy7 hb hg
          replace HM := Lib.hid (show Mem wb [blkE P13 38 (r13.map i64v), blkE P12 38 (r12.map i64v)] wy7 from HM.out.put 0 rfl _ hg hb)
          clear hb hg
          refine hK.out _ _ (((HM.out.erase 0).erase 0)) (fun hHeld => ?_)
          clear hK K
          (try simp only [Act.put])
          refine wpAnyH_done (by kernel_rfl) ?_ _
          go_wp2_with fail
          go_meet
          exact ⟨P12, P13, r12, r13, rfl, rfl, hr12, vr12, hr13, vr13, Nat.le_trans (HB.out.2.2.2.2.2.2.2.2.2.2.2) (MemE.low HM.out.1 1 _ rfl), Nat.le_trans (HB.out.2.2.2.2.2.2.2.2.2.2.2) (MemE.low HM.out.1 0 _ rfl), HM.out.blk 1 rfl, HM.out.blk 0 rfl, HKE.out _ HM.out.bel⟩
        · clear hHeld
          go_simp
          replace HM := Lib.hid (show Mem wb [blkE wy3.heap.size 38 (zd 16)] (wy3.alloc (.cells cuZ16 38)) from HM.out.alloc rfl 38 cuZ16 (zd 16) rfl)
          generalize wy3.alloc (.cells cuZ16 38) = wy4 at HM ⊢
          generalize wy3.heap.size = P13 at HM ⊢
          refine hK.out _ _ ((HM.out.erase 0)) (fun hHeld => ?_)
          clear hK K
          (try simp only [Act.put, List.setIfInBounds_toArray, List.set_cons_zero, List.set_cons_succ])
          refine step_one 6 rfl (by kernel_rfl) (fun K hK => ?_)
          clear hHeld
          go_simp
          replace HM := Lib.hid (show Mem wb [blkE wy4.heap.size 38 (zd 16), blkE P13 38 (zd 16)] (wy4.alloc (.cells cuZ16 38)) from HM.out.alloc rfl 38 cuZ16 (zd 16) rfl)
          generalize wy4.alloc (.cells cuZ16 38) = wy5 at HM ⊢
          generalize wy4.heap.size = P12 at HM ⊢
          refine hK.out _ _ (((HM.out.erase 0).erase 0)) (fun hHeld => ?_)
          clear hK K
          (try simp only [Act.put, List.setIfInBounds_toArray, List.set_cons_zero, List.set_cons_succ])
          refine step_one 8 rfl (by kernel_rfl) (fun K hK => ?_)
          clear hHeld
          refine step_store_blk _ rfl 38 (.tmp 12) (.tmp 47) rfl P12 (r12.map i64v) rfl (by show Value.agg c12 = _; rw [hc12]) 38 (zd 16) (HM.out.blk 0 rfl) (cu_cells _ hr12.1) (by rw [List.length_map, hr12.1]; rfl) (by intro v hv; obtain ⟨_, _, rfl⟩ := List.mem_map.1 hv; rfl) ?_
          intro wy6 hb hg
          replace HM := Lib.hid (show Mem wb [blkE P12 38 (r12.map i64v), blkE P13 38 (zd 16)] wy6 from HM.out.put 0 rfl _ hg hb)
          clear hb hg
          refine hK.out _ _ (((HM.out.erase 0).erase 0)) (fun hHeld => ?_)
          clear hK K
          (try simp only [Act.put])
          refine step_one 9 rfl (by kernel_rfl) (fun K hK => ?_)
          clear hHeld
          refine step_store_blk _ rfl 38 (.tmp 13) (.tmp 50) rfl P13 (r13.map i64v) rfl (by show Value.agg c13 = _; rw [hc13]) 38 (zd 16) (HM.out.blk 1 rfl) (cu_cells _ hr13.1) (by rw [List.length_map, hr13.1]; rfl) (by intro v hv; obtain ⟨_, _, rfl⟩ := List.mem_map.1 hv; rfl) ?_
          intro wy7 hb hg
          replace HM := Lib.hid (show Mem wb [blkE P12 38 (r12.map i64v), blkE P13 38 (r13.map i64v)] wy7 from HM.out.put 1 rfl _ hg hb)
          clear hb hg
          refine hK.out _ _ (((HM.out.erase 0).erase 0)) (fun hHeld => ?_)
          clear hK K
          (try simp only [Act.put])
          refine wpAnyH_done (by kernel_rfl) ?_ _
          go_wp2_with fail
          go_meet
          exact ⟨P12, P13, r12, r13, rfl, rfl, hr12, vr12, hr13, vr13, Nat.le_trans (HB.out.2.2.2.2.2.2.2.2.2.2.2) (MemE.low HM.out.1 0 _ rfl), Nat.le_trans (HB.out.2.2.2.2.2.2.2.2.2.2.2) (MemE.low HM.out.1 1 _ rfl), HM.out.blk 0 rfl, HM.out.blk 1 rfl, HKE.out _ HM.out.bel⟩
      · clear hHeld
        go_simp
        replace HM := Lib.hid (show Mem wb [blkE wy2.heap.size 38 (zd 16)] (wy2.alloc (.cells cuZ16 38)) from HM.out.alloc rfl 38 cuZ16 (zd 16) rfl)
        generalize wy2.alloc (.cells cuZ16 38) = wy3 at HM ⊢
        generalize wy2.heap.size = P12 at HM ⊢
        refine hK.out _ _ ((HM.out.erase 0)) (fun hHeld => ?_)
        clear hK K
        (try simp only [Act.put, List.setIfInBounds_toArray, List.set_cons_zero, List.set_cons_succ])
        refine step_two 5 7 rfl rfl (by kernel_rfl) (fun K hK => ?_) (fun K hK => ?_)
        · clear hHeld
          go_simp
          refine (T13.out _).mono ?_
          rintro e wy4 ⟨r13, hr13, vr13, rfl, hb⟩
          replace HM := Lib.hid (show Mem wb [blkE P12 38 (zd 16)] wy4 from HM.out.below hb)
          obtain ⟨c13, hc13⟩ : ∃ c, (r13.map i64v).toArray = c := ⟨_, rfl⟩
          rw [hc13]
          clear hb
          go_wp2_with fail
          refine hK.out _ _ ((HM.out.erase 0)) (fun hHeld => ?_)
          clear hK K
          (try simp only [Act.put, List.setIfInBounds_toArray, List.set_cons_zero, List.set_cons_succ])
          refine step_one 7 rfl (by kernel_rfl) (fun K hK => ?_)
          clear hHeld
          go_simp
          replace HM := Lib.hid (show Mem wb [blkE wy4.heap.size 38 (zd 16), blkE P12 38 (zd 16)] (wy4.alloc (.cells cuZ16 38)) from HM.out.alloc rfl 38 cuZ16 (zd 16) rfl)
          generalize wy4.alloc (.cells cuZ16 38) = wy5 at HM ⊢
          generalize wy4.heap.size = P13 at HM ⊢
          refine hK.out _ _ (((HM.out.erase 0).erase 0)) (fun hHeld => ?_)
          clear hK K
          (try simp only [Act.put, List.setIfInBounds_toArray, List.set_cons_zero, List.set_cons_succ])
          refine step_one 8 rfl (by kernel_rfl) (fun K hK => ?_)
          clear hHeld
          refine step_store_blk _ rfl 38 (.tmp 12) (.tmp 47) rfl P12 (r12.map i64v) rfl (by show Value.agg c12 = _; rw [hc12]) 38 (zd 16) (HM.out.blk 1 rfl) (cu_cells _ hr12.1) (by rw [List.length_map, hr12.1]; rfl) (by intro v hv; obtain ⟨_, _, rfl⟩ := List.mem_map.1 hv; rfl) ?_
          intro wy6 hb hg
          replace HM := Lib.hid (show Mem wb [blkE P13 38 (zd 16), blkE P12 38 (r12.map i64v)] wy6 from HM.out.put 1 rfl _ hg hb)
          clear hb hg
          refine hK.out _ _ (((HM.out.erase 0).erase 0)) (fun hHeld => ?_)
          clear hK K
          (try simp only [Act.put])
          refine step_one 9 rfl (by kernel_rfl) (fun K hK => ?_)
          clear hHeld
          refine step_store_blk _ rfl 38 (.tmp 13) (.tmp 50) rfl P13 (r13.map i64v) rfl (by show Value.agg c13 = _; rw [hc13]) 38 (zd 16) (HM.out.blk 0 rfl) (cu_cells _ hr13.1) (by rw [List.length_map, hr13.1]; rfl) (by intro v hv; obtain ⟨_, _, rfl⟩ := List.mem_map.1 hv; rfl) ?_
          intro wy7 hb hg
          replace HM := Lib.hid (show Mem wb [blkE P13 38 (r13.map i64v), blkE P12 38 (r12.map i64v)] wy7 from HM.out.put 0 rfl _ hg hb)
          clear hb hg
          refine hK.out _ _ (((HM.out.erase 0).erase 0)) (fun hHeld => ?_)
          clear hK K
          (try simp only [Act.put])
          refine wpAnyH_done (by kernel_rfl) ?_ _
          go_wp2_with fail
          go_meet
          exact ⟨P12, P13, r12, r13, rfl, rfl, hr12, vr12, hr13, vr13, Nat.le_trans (HB.out.2.2.2.2.2.2.2.2.2.2.2) (MemE.low HM.out.1 1 _ rfl), Nat.le_trans (HB.out.2.2.2.2.2.2.2.2.2.2.2) (MemE.low HM.out.1 0 _ rfl), HM.out.blk 1 rfl, HM.out.blk 0 rfl, HKE.out _ HM.out.bel⟩
        · clear hHeld
          go_simp
          replace HM := Lib.hid (show Mem wb [blkE wy3.heap.size 38 (zd 16), blkE P12 38 (zd 16)] (wy3.alloc (.cells cuZ16 38)) from HM.out.alloc rfl 38 cuZ16 (zd 16) rfl)
          generalize wy3.alloc (.cells cuZ16 38) = wy4 at HM ⊢
          generalize wy3.heap.size = P13 at HM ⊢
          refine hK.out _ _ (((HM.out.erase 0).erase 0)) (fun hHeld => ?_)
          clear hK K
          (try simp only [Act.put, List.setIfInBounds_toArray, List.set_cons_zero, List.set_cons_succ])
          refine step_one 5 rfl (by kernel_rfl) (fun K hK => ?_)
          clear hHeld
          go_simp
          refine (T13.out _).mono ?_
          rintro e wy5 ⟨r13, hr13, vr13, rfl, hb⟩
          replace HM := Lib.hid (show Mem wb [blkE P13 38 (zd 16), blkE P12 38 (zd 16)] wy5 from HM.out.below hb)
          obtain ⟨c13, hc13⟩ : ∃ c, (r13.map i64v).toArray = c := ⟨_, rfl⟩
          rw [hc13]
          clear hb
          go_wp2_with fail
          refine hK.out _ _ (((HM.out.erase 0).erase 0)) (fun hHeld => ?_)
          clear hK K
          (try simp only [Act.put, List.setIfInBounds_toArray, List.set_cons_zero, List.set_cons_succ])
          refine step_one 8 rfl (by kernel_rfl) (fun K hK => ?_)
          clear hHeld
          refine step_store_blk _ rfl 38 (.tmp 12) (.tmp 47) rfl P12 (r12.map i64v) rfl (by show Value.agg c12 = _; rw [hc12]) 38 (zd 16) (HM.out.blk 1 rfl) (cu_cells _ hr12.1) (by rw [List.length_map, hr12.1]; rfl) (by intro v hv; obtain ⟨_, _, rfl⟩ := List.mem_map.1 hv; rfl) ?_
          intro wy6 hb hg
          replace HM := Lib.hid (show Mem wb [blkE P13 38 (zd 16), blkE P12 38 (r12.map i64v)] wy6 from HM.out.put 1 rfl _ hg hb)
          clear hb hg
          refine hK.out _ _ (((HM.out.erase 0).erase 0)) (fun hHeld => ?_)
          clear hK K
          (try simp only [Act.put])
          refine step_one 9 rfl (by kernel_rfl) (fun K hK => ?_)
          clear hHeld
          refine step_store_blk _ rfl 38 (.tmp 13) (.tmp 50) rfl P13 (r13.map i64v) rfl (by show Value.agg c13 = _; rw [hc13]) 38 (zd 16) (HM.out.blk 0 rfl) (cu_cells _ hr13.1) (by rw [List.length_map, hr13.1]; rfl) (by intro v hv; obtain ⟨_, _, rfl⟩ := List.mem_map.1 hv; rfl) ?_
          intro wy7 hb hg
          replace HM := Lib.hid (show Mem wb [blkE P13 38 (r13.map i64v), blkE P12 38 (r12.map i64v)] wy7 from HM.out.put 0 rfl _ hg hb)
          clear hb hg
          refine hK.out _ _ (((HM.out.erase 0).erase 0)) (fun hHeld => ?_)
          clear hK K
          (try simp only [Act.put])
          refine wpAnyH_done (by kernel_rfl) ?_ _
          go_wp2_with fail
          go_meet
          exact ⟨P12, P13, r12, r13, rfl, rfl, hr12, vr12, hr13, vr13, Nat.le_trans (HB.out.2.2.2.2.2.2.2.2.2.2.2) (MemE.low HM.out.1 1 _ rfl), Nat.le_trans (HB.out.2.2.2.2.2.2.2.2.2.2.2) (MemE.low HM.out.1 0 _ rfl), HM.out.blk 1 rfl, HM.out.blk 0 rfl, HKE.out _ HM.out.bel⟩
      · clear hHeld
        go_simp
        replace HM := Lib.hid (show Mem wb [blkE wy2.heap.size 38 (zd 16)] (wy2.alloc (.cells cuZ16 38)) from HM.out.alloc rfl 38 cuZ16 (zd 16) rfl)
        generalize wy2.alloc (.cells cuZ16 38) = wy3 at HM ⊢
        generalize wy2.heap.size = P13 at HM ⊢
        refine hK.out _ _ ((HM.out.erase 0)) (fun hHeld => ?_)
        clear hK K
        (try simp only [Act.put, List.setIfInBounds_toArray, List.set_cons_zero, List.set_cons_succ])
        refine step_two 5 6 rfl rfl (by kernel_rfl) (fun K hK => ?_) (fun K hK => ?_)
        · clear hHeld
          go_simp
          refine (T13.out _).mono ?_
          rintro e wy4 ⟨r13, hr13, vr13, rfl, hb⟩
          replace HM := Lib.hid (show Mem wb [blkE P13 38 (zd 16)] wy4 from HM.out.below hb)
          obtain ⟨c13, hc13⟩ : ∃ c, (r13.map i64v).toArray = c := ⟨_, rfl⟩
          rw [hc13]
          clear hb
          go_wp2_with fail
          refine hK.out _ _ ((HM.out.erase 0)) (fun hHeld => ?_)
          clear hK K
          (try simp only [Act.put, List.setIfInBounds_toArray, List.set_cons_zero, List.set_cons_succ])
          refine step_one 6 rfl (by kernel_rfl) (fun K hK => ?_)
          clear hHeld
          go_simp
          replace HM := Lib.hid (show Mem wb [blkE wy4.heap.size 38 (zd 16), blkE P13 38 (zd 16)] (wy4.alloc (.cells cuZ16 38)) from HM.out.alloc rfl 38 cuZ16 (zd 16) rfl)
          generalize wy4.alloc (.cells cuZ16 38) = wy5 at HM ⊢
          generalize wy4.heap.size = P12 at HM ⊢
          refine hK.out _ _ (((HM.out.erase 0).erase 0)) (fun hHeld => ?_)
          clear hK K
          (try simp only [Act.put, List.setIfInBounds_toArray, List.set_cons_zero, List.set_cons_succ])
          refine step_one 8 rfl (by kernel_rfl) (fun K hK => ?_)
          clear hHeld
          refine step_store_blk _ rfl 38 (.tmp 12) (.tmp 47) rfl P12 (r12.map i64v) rfl (by show Value.agg c12 = _; rw [hc12]) 38 (zd 16) (HM.out.blk 0 rfl) (cu_cells _ hr12.1) (by rw [List.length_map, hr12.1]; rfl) (by intro v hv; obtain ⟨_, _, rfl⟩ := List.mem_map.1 hv; rfl) ?_
          intro wy6 hb hg
          replace HM := Lib.hid (show Mem wb [blkE P12 38 (r12.map i64v), blkE P13 38 (zd 16)] wy6 from HM.out.put 0 rfl _ hg hb)
          clear hb hg
          refine hK.out _ _ (((HM.out.erase 0).erase 0)) (fun hHeld => ?_)
          clear hK K
          (try simp only [Act.put])
          refine step_one 9 rfl (by kernel_rfl) (fun K hK => ?_)
          clear hHeld
          refine step_store_blk _ rfl 38 (.tmp 13) (.tmp 50) rfl P13 (r13.map i64v) rfl (by show Value.agg c13 = _; rw [hc13]) 38 (zd 16) (HM.out.blk 1 rfl) (cu_cells _ hr13.1) (by rw [List.length_map, hr13.1]; rfl) (by intro v hv; obtain ⟨_, _, rfl⟩ := List.mem_map.1 hv; rfl) ?_
          intro wy7 hb hg
          replace HM := Lib.hid (show Mem wb [blkE P12 38 (r12.map i64v), blkE P13 38 (r13.map i64v)] wy7 from HM.out.put 1 rfl _ hg hb)
          clear hb hg
          refine hK.out _ _ (((HM.out.erase 0).erase 0)) (fun hHeld => ?_)
          clear hK K
          (try simp only [Act.put])
          refine wpAnyH_done (by kernel_rfl) ?_ _
          go_wp2_with fail
          go_meet
          exact ⟨P12, P13, r12, r13, rfl, rfl, hr12, vr12, hr13, vr13, Nat.le_trans (HB.out.2.2.2.2.2.2.2.2.2.2.2) (MemE.low HM.out.1 0 _ rfl), Nat.le_trans (HB.out.2.2.2.2.2.2.2.2.2.2.2) (MemE.low HM.out.1 1 _ rfl), HM.out.blk 0 rfl, HM.out.blk 1 rfl, HKE.out _ HM.out.bel⟩
        · clear hHeld
          go_simp
          replace HM := Lib.hid (show Mem wb [blkE wy3.heap.size 38 (zd 16), blkE P13 38 (zd 16)] (wy3.alloc (.cells cuZ16 38)) from HM.out.alloc rfl 38 cuZ16 (zd 16) rfl)
          generalize wy3.alloc (.cells cuZ16 38) = wy4 at HM ⊢
          generalize wy3.heap.size = P12 at HM ⊢
          refine hK.out _ _ (((HM.out.erase 0).erase 0)) (fun hHeld => ?_)
          clear hK K
          (try simp only [Act.put, List.setIfInBounds_toArray, List.set_cons_zero, List.set_cons_succ])
          refine step_one 5 rfl (by kernel_rfl) (fun K hK => ?_)
          clear hHeld
          go_simp
          refine (T13.out _).mono ?_
          rintro e wy5 ⟨r13, hr13, vr13, rfl, hb⟩
          replace HM := Lib.hid (show Mem wb [blkE P12 38 (zd 16), blkE P13 38 (zd 16)] wy5 from HM.out.below hb)
          obtain ⟨c13, hc13⟩ : ∃ c, (r13.map i64v).toArray = c := ⟨_, rfl⟩
          rw [hc13]
          clear hb
          go_wp2_with fail
          refine hK.out _ _ (((HM.out.erase 0).erase 0)) (fun hHeld => ?_)
          clear hK K
          (try simp only [Act.put, List.setIfInBounds_toArray, List.set_cons_zero, List.set_cons_succ])
          refine step_one 8 rfl (by kernel_rfl) (fun K hK => ?_)
          clear hHeld
          refine step_store_blk _ rfl 38 (.tmp 12) (.tmp 47) rfl P12 (r12.map i64v) rfl (by show Value.agg c12 = _; rw [hc12]) 38 (zd 16) (HM.out.blk 0 rfl) (cu_cells _ hr12.1) (by rw [List.length_map, hr12.1]; rfl) (by intro v hv; obtain ⟨_, _, rfl⟩ := List.mem_map.1 hv; rfl) ?_
          intro wy6 hb hg
          replace HM := Lib.hid (show Mem wb [blkE P12 38 (r12.map i64v), blkE P13 38 (zd 16)] wy6 from HM.out.put 0 rfl _ hg hb)
          clear hb hg
          refine hK.out _ _ (((HM.out.erase 0).erase 0)) (fun hHeld => ?_)
          clear hK K
          (try simp only [Act.put])
          refine step_one 9 rfl (by kernel_rfl) (fun K hK => ?_)
          clear hHeld
          refine step_store_blk _ rfl 38 (.tmp 13) (.tmp 50) rfl P13 (r13.map i64v) rfl (by show Value.agg c13 = _; rw [hc13]) 38 (zd 16) (HM.out.blk 1 rfl) (cu_cells _ hr13.1) (by rw [List.length_map, hr13.1]; rfl) (by intro v hv; obtain ⟨_, _, rfl⟩ := List.mem_map.1 hv; rfl) ?_
          intro wy7 hb hg
          replace HM := Lib.hid (show Mem wb [blkE P12 38 (r12.map i64v), blkE P13 38 (r13.map i64v)] wy7 from HM.out.put 1 rfl _ hg hb)
          clear hb hg
          refine hK.out _ _ (((HM.out.erase 0).erase 0)) (fun hHeld => ?_)
          clear hK K
          (try simp only [Act.put])
          refine wpAnyH_done (by kernel_rfl) ?_ _
          go_wp2_with fail
          go_meet
          exact ⟨P12, P13, r12, r13, rfl, rfl, hr12, vr12, hr13, vr13, Nat.le_trans (HB.out.2.2.2.2.2.2.2.2.2.2.2) (MemE.low HM.out.1 0 _ rfl), Nat.le_trans (HB.out.2.2.2.2.2.2.2.2.2.2.2) (MemE.low HM.out.1 1 _ rfl), HM.out.blk 0 rfl, HM.out.blk 1 rfl, HKE.out _ HM.out.bel⟩
    · clear hHeld
      go_simp
      replace HM := Lib.hid (show Mem wb [blkE wd1.heap.size 38 (zd 16)] (wd1.alloc (.cells cuZ16 38)) from HM.out.alloc rfl 38 cuZ16 (zd 16) rfl)
      generalize wd1.alloc (.cells cuZ16 38) = wy2 at HM ⊢
      generalize wd1.heap.size = P12 at HM ⊢
      refine hK.out _ _ ((HM.out.erase 0)) (fun hHeld => ?_)
      clear hK K
      (try simp only [Act.put, List.setIfInBounds_toArray, List.set_cons_zero, List.set_cons_succ])
      refine step_two 2 7 rfl rfl (by kernel_rfl) (fun K hK => ?_) (fun K hK => ?_)
      · clear hHeld
        go_simp
        refine (T12.out _).mono ?_
        rintro e wy3 ⟨r12, hr12, vr12, rfl, hb⟩
        replace HM := Lib.hid (show Mem wb [blkE P12 38 (zd 16)] wy3 from HM.out.below hb)
        obtain ⟨c12, hc12⟩ : ∃ c, (r12.map i64v).toArray = c := ⟨_, rfl⟩
        rw [hc12]
        clear hb
        go_wp2_with fail
        refine hK.out _ _ ((HM.out.erase 0)) (fun hHeld => ?_)
        clear hK K
        (try simp only [Act.put, List.setIfInBounds_toArray, List.set_cons_zero, List.set_cons_succ])
        refine step_two 5 7 rfl rfl (by kernel_rfl) (fun K hK => ?_) (fun K hK => ?_)
        · clear hHeld
          go_simp
          refine (T13.out _).mono ?_
          rintro e wy4 ⟨r13, hr13, vr13, rfl, hb⟩
          replace HM := Lib.hid (show Mem wb [blkE P12 38 (zd 16)] wy4 from HM.out.below hb)
          obtain ⟨c13, hc13⟩ : ∃ c, (r13.map i64v).toArray = c := ⟨_, rfl⟩
          rw [hc13]
          clear hb
          go_wp2_with fail
          refine hK.out _ _ ((HM.out.erase 0)) (fun hHeld => ?_)
          clear hK K
          (try simp only [Act.put, List.setIfInBounds_toArray, List.set_cons_zero, List.set_cons_succ])
          refine step_one 7 rfl (by kernel_rfl) (fun K hK => ?_)
          clear hHeld
          go_simp
          replace HM := Lib.hid (show Mem wb [blkE wy4.heap.size 38 (zd 16), blkE P12 38 (zd 16)] (wy4.alloc (.cells cuZ16 38)) from HM.out.alloc rfl 38 cuZ16 (zd 16) rfl)
          generalize wy4.alloc (.cells cuZ16 38) = wy5 at HM ⊢
          generalize wy4.heap.size = P13 at HM ⊢
          refine hK.out _ _ (((HM.out.erase 0).erase 0)) (fun hHeld => ?_)
          clear hK K
          (try simp only [Act.put, List.setIfInBounds_toArray, List.set_cons_zero, List.set_cons_succ])
          refine step_one 8 rfl (by kernel_rfl) (fun K hK => ?_)
          clear hHeld
          refine step_store_blk _ rfl 38 (.tmp 12) (.tmp 47) rfl P12 (r12.map i64v) rfl (by show Value.agg c12 = _; rw [hc12]) 38 (zd 16) (HM.out.blk 1 rfl) (cu_cells _ hr12.1) (by rw [List.length_map, hr12.1]; rfl) (by intro v hv; obtain ⟨_, _, rfl⟩ := List.mem_map.1 hv; rfl) ?_
          intro wy6 hb hg
          replace HM := Lib.hid (show Mem wb [blkE P13 38 (zd 16), blkE P12 38 (r12.map i64v)] wy6 from HM.out.put 1 rfl _ hg hb)
          clear hb hg
          refine hK.out _ _ (((HM.out.erase 0).erase 0)) (fun hHeld => ?_)
          clear hK K
          (try simp only [Act.put])
          refine step_one 9 rfl (by kernel_rfl) (fun K hK => ?_)
          clear hHeld
          refine step_store_blk _ rfl 38 (.tmp 13) (.tmp 50) rfl P13 (r13.map i64v) rfl (by show Value.agg c13 = _; rw [hc13]) 38 (zd 16) (HM.out.blk 0 rfl) (cu_cells _ hr13.1) (by rw [List.length_map, hr13.1]; rfl) (by intro v hv; obtain ⟨_, _, rfl⟩ := List.mem_map.1 hv; rfl) ?_
          intro wy7 hb hg
          replace HM := Lib.hid (show Mem wb [blkE P13 38 (r13.map i64v), blkE P12 38 (r12.map i64v)] wy7 from HM.out.put 0 rfl _ hg hb)
          clear hb hg
          refine hK.out _ _ (((HM.out.erase 0).erase 0)) (fun hHeld => ?_)
          clear hK K
          (try simp only [Act.put])
          refine wpAnyH_done (by kernel_rfl) ?_ _
          go_wp2_with fail
          go_meet
          exact ⟨P12, P13, r12, r13, rfl, rfl, hr12, vr12, hr13, vr13, Nat.le_trans (HB.out.2.2.2.2.2.2.2.2.2.2.2) (MemE.low HM.out.1 1 _ rfl), Nat.le_trans (HB.out.2.2.2.2.2.2.2.2.2.2.2) (MemE.low HM.out.1 0 _ rfl), HM.out.blk 1 rfl, HM.out.blk 0 rfl, HKE.out _ HM.out.bel⟩
        · clear hHeld
          go_simp
          replace HM := Lib.hid (show Mem wb [blkE wy3.heap.size 38 (zd 16), blkE P12 38 (zd 16)] (wy3.alloc (.cells cuZ16 38)) from HM.out.alloc rfl 38 cuZ16 (zd 16) rfl)
          generalize wy3.alloc (.cells cuZ16 38) = wy4 at HM ⊢
          generalize wy3.heap.size = P13 at HM ⊢
          refine hK.out _ _ (((HM.out.erase 0).erase 0)) (fun hHeld => ?_)
          clear hK K
          (try simp only [Act.put, List.setIfInBounds_toArray, List.set_cons_zero, List.set_cons_succ])
          refine step_one 5 rfl (by kernel_rfl) (fun K hK => ?_)
          clear hHeld
          go_simp
          refine (T13.out _).mono ?_
          rintro e wy5 ⟨r13, hr13, vr13, rfl, hb⟩
          replace HM := Lib.hid (show Mem wb [blkE P13 38 (zd 16), blkE P12 38 (zd 16)] wy5 from HM.out.below hb)
          obtain ⟨c13, hc13⟩ : ∃ c, (r13.map i64v).toArray = c := ⟨_, rfl⟩
          rw [hc13]
          clear hb
          go_wp2_with fail
          refine hK.out _ _ (((HM.out.erase 0).erase 0)) (fun hHeld => ?_)
          clear hK K
          (try simp only [Act.put, List.setIfInBounds_toArray, List.set_cons_zero, List.set_cons_succ])
          refine step_one 8 rfl (by kernel_rfl) (fun K hK => ?_)
          clear hHeld
          refine step_store_blk _ rfl 38 (.tmp 12) (.tmp 47) rfl P12 (r12.map i64v) rfl (by show Value.agg c12 = _; rw [hc12]) 38 (zd 16) (HM.out.blk 1 rfl) (cu_cells _ hr12.1) (by rw [List.length_map, hr12.1]; rfl) (by intro v hv; obtain ⟨_, _, rfl⟩ := List.mem_map.1 hv; rfl) ?_
          intro wy6 hb hg
          replace HM := Lib.hid (show Mem wb [blkE P13 38 (zd 16), blkE P12 38 (r12.map i64v)] wy6 from HM.out.put 1 rfl _ hg hb)
          clear hb hg
          refine hK.out _ _ (((HM.out.erase 0).erase 0)) (fun hHeld => ?_)
          clear hK K
          (try simp only [Act.put])
          refine step_one 9 rfl (by kernel_rfl) (fun K hK => ?_)
          clear hHeld
          refine step_store_blk _ rfl 38 (.tmp 13) (.tmp 50) rfl P13 (r13.map i64v) rfl (by show Value.agg c13 = _; rw [hc13]) 38 (zd 16) (HM.out.blk 0 rfl) (cu_cells _ hr13.1) (by rw [List.length_map, hr13.1]; rfl) (by intro v hv; obtain ⟨_, _, rfl⟩ := List.mem_map.1 hv; rfl) ?_
          intro wy7 hb hg
          replace HM := Lib.hid (show Mem wb [blkE P13 38 (r13.map i64v), blkE P12 38 (r12.map i64v)] wy7 from HM.out.put 0 rfl _ hg hb)
          clear hb hg
          refine hK.out _ _ (((HM.out.erase 0).erase 0)) (fun hHeld => ?_)
          clear hK K
          (try simp only [Act.put])
          refine wpAnyH_done (by kernel_rfl) ?_ _
          go_wp2_with fail
          go_meet
          exact ⟨P12, P13, r12, r13, rfl, rfl, hr12, vr12, hr13, vr13, Nat.le_trans (HB.out.2.2.2.2.2.2.2.2.2.2.2) (MemE.low HM.out.1 1 _ rfl), Nat.le_trans (HB.out.2.2.2.2.2.2.2.2.2.2.2) (MemE.low HM.out.1 0 _ rfl), HM.out.blk 1 rfl, HM.out.blk 0 rfl, HKE.out _ HM.out.bel⟩
      · clear hHeld
        go_simp
        replace HM := Lib.hid (show Mem wb [blkE wy2.heap.size 38 (zd 16), blkE P12 38 (zd 16)] (wy2.alloc (.cells cuZ16 38)) from HM.out.alloc rfl 38 cuZ16 (zd 16) rfl)
        generalize wy2.alloc (.cells cuZ16 38) = wy3 at HM ⊢
        generalize wy2.heap.size = P13 at HM ⊢
        refine hK.out _ _ (((HM.out.erase 0).erase 0)) (fun hHeld => ?_)
        clear hK K
        (try simp only [Act.put, List.setIfInBounds_toArray, List.set_cons_zero, List.set_cons_succ])
        refine step_one 2 rfl (by kernel_rfl) (fun K hK => ?_)
        clear hHeld
        go_simp
        refine (T12.out _).mono ?_
        rintro e wy4 ⟨r12, hr12, vr12, rfl, hb⟩
        replace HM := Lib.hid (show Mem wb [blkE P13 38 (zd 16), blkE P12 38 (zd 16)] wy4 from HM.out.below hb)
        obtain ⟨c12, hc12⟩ : ∃ c, (r12.map i64v).toArray = c := ⟨_, rfl⟩
        rw [hc12]
        clear hb
        go_wp2_with fail
        refine hK.out _ _ (((HM.out.erase 0).erase 0)) (fun hHeld => ?_)
        clear hK K
        (try simp only [Act.put, List.setIfInBounds_toArray, List.set_cons_zero, List.set_cons_succ])
        refine step_one 5 rfl (by kernel_rfl) (fun K hK => ?_)
        clear hHeld
        go_simp
        refine (T13.out _).mono ?_
        rintro e wy5 ⟨r13, hr13, vr13, rfl, hb⟩
        replace HM := Lib.hid (show Mem wb [blkE P13 38 (zd 16), blkE P12 38 (zd 16)] wy5 from HM.out.below hb)
        obtain ⟨c13, hc13⟩ : ∃ c, (r13.map i64v).toArray = c := ⟨_, rfl⟩
        rw [hc13]
        clear hb
        go_wp2_with fail
        refine hK.out _ _ (((HM.out.erase 0).erase 0)) (fun hHeld => ?_)
        clear hK K
        (try simp only [Act.put, List.setIfInBounds_toArray, List.set_cons_zero, List.set_cons_succ])
        refine step_one 8 rfl (by kernel_rfl) (fun K hK => ?_)
        clear hHeld
        refine step_store_blk _ rfl 38 (.tmp 12) (.tmp 47) rfl P12 (r12.map i64v) rfl (by show Value.agg c12 = _; rw [hc12]) 38 (zd 16) (HM.out.blk 1 rfl) (cu_cells _ hr12.1) (by rw [List.length_map, hr12.1]; rfl) (by intro v hv; obtain ⟨_, _, rfl⟩ := List.mem_map.1 hv; rfl) ?_
        intro wy6 hb hg
        replace HM := Lib.hid (show Mem wb [blkE P13 38 (zd 16), blkE P12 38 (r12.map i64v)] wy6 from HM.out.put 1 rfl _ hg hb)
        clear hb hg
        refine hK.out _ _ (((HM.out.erase 0).erase 0)) (fun hHeld => ?_)
        clear hK K
        (try simp only [Act.put])
        refine step_one 9 rfl (by kernel_rfl) (fun K hK => ?_)
        clear hHeld
        refine step_store_blk _ rfl 38 (.tmp 13) (.tmp 50) rfl P13 (r13.map i64v) rfl (by show Value.agg c13 = _; rw [hc13]) 38 (zd 16) (HM.out.blk 0 rfl) (cu_cells _ hr13.1) (by rw [List.length_map, hr13.1]; rfl) (by intro v hv; obtain ⟨_, _, rfl⟩ := List.mem_map.1 hv; rfl) ?_
        intro wy7 hb hg
        replace HM := Lib.hid (show Mem wb [blkE P13 38 (r13.map i64v), blkE P12 38 (r12.map i64v)] wy7 from HM.out.put 0 rfl _ hg hb)
        clear hb hg
        refine hK.out _ _ (((HM.out.erase 0).erase 0)) (fun hHeld => ?_)
        clear hK K
        (try simp only [Act.put])
        refine wpAnyH_done (by kernel_rfl) ?_ _
        go_wp2_with fail
        go_meet
        exact ⟨P12, P13, r12, r13, rfl, rfl, hr12, vr12, hr13, vr13, Nat.le_trans (HB.out.2.2.2.2.2.2.2.2.2.2.2) (MemE.low HM.out.1 1 _ rfl), Nat.le_trans (HB.out.2.2.2.2.2.2.2.2.2.2.2) (MemE.low HM.out.1 0 _ rfl), HM.out.blk 1 rfl, HM.out.blk 0 rfl, HKE.out _ HM.out.bel⟩
    · clear hHeld
      go_simp
      replace HM := Lib.hid (show Mem wb [blkE wd1.heap.size 38 (zd 16)] (wd1.alloc (.cells cuZ16 38)) from HM.out.alloc rfl 38 cuZ16 (zd 16) rfl)
      generalize wd1.alloc (.cells cuZ16 38) = wy2 at HM ⊢
      generalize wd1.heap.size = P13 at HM ⊢
      refine hK.out _ _ ((HM.out.erase 0)) (fun hHeld => ?_)
      clear hK K
      (try simp only [Act.put, List.setIfInBounds_toArray, List.set_cons_zero, List.set_cons_succ])
      refine step_two 2 6 rfl rfl (by kernel_rfl) (fun K hK => ?_) (fun K hK => ?_)
      · clear hHeld
        go_simp
        refine (T12.out _).mono ?_
        rintro e wy3 ⟨r12, hr12, vr12, rfl, hb⟩
        replace HM := Lib.hid (show Mem wb [blkE P13 38 (zd 16)] wy3 from HM.out.below hb)
        obtain ⟨c12, hc12⟩ : ∃ c, (r12.map i64v).toArray = c := ⟨_, rfl⟩
        rw [hc12]
        clear hb
        go_wp2_with fail
        refine hK.out _ _ ((HM.out.erase 0)) (fun hHeld => ?_)
        clear hK K
        (try simp only [Act.put, List.setIfInBounds_toArray, List.set_cons_zero, List.set_cons_succ])
        refine step_two 5 6 rfl rfl (by kernel_rfl) (fun K hK => ?_) (fun K hK => ?_)
        · clear hHeld
          go_simp
          refine (T13.out _).mono ?_
          rintro e wy4 ⟨r13, hr13, vr13, rfl, hb⟩
          replace HM := Lib.hid (show Mem wb [blkE P13 38 (zd 16)] wy4 from HM.out.below hb)
          obtain ⟨c13, hc13⟩ : ∃ c, (r13.map i64v).toArray = c := ⟨_, rfl⟩
          rw [hc13]
          clear hb
          go_wp2_with fail
          refine hK.out _ _ ((HM.out.erase 0)) (fun hHeld => ?_)
          clear hK K
          (try simp only [Act.put, List.setIfInBounds_toArray, List.set_cons_zero, List.set_cons_succ])
          refine step_one 6 rfl (by kernel_rfl) (fun K hK => ?_)
          clear hHeld
          go_simp
          replace HM := Lib.hid (show Mem wb [blkE wy4.heap.size 38 (zd 16), blkE P13 38 (zd 16)] (wy4.alloc (.cells cuZ16 38)) from HM.out.alloc rfl 38 cuZ16 (zd 16) rfl)
          generalize wy4.alloc (.cells cuZ16 38) = wy5 at HM ⊢
          generalize wy4.heap.size = P12 at HM ⊢
          refine hK.out _ _ (((HM.out.erase 0).erase 0)) (fun hHeld => ?_)
          clear hK K
          (try simp only [Act.put, List.setIfInBounds_toArray, List.set_cons_zero, List.set_cons_succ])
          refine step_one 8 rfl (by kernel_rfl) (fun K hK => ?_)
          clear hHeld
          refine step_store_blk _ rfl 38 (.tmp 12) (.tmp 47) rfl P12 (r12.map i64v) rfl (by show Value.agg c12 = _; rw [hc12]) 38 (zd 16) (HM.out.blk 0 rfl) (cu_cells _ hr12.1) (by rw [List.length_map, hr12.1]; rfl) (by intro v hv; obtain ⟨_, _, rfl⟩ := List.mem_map.1 hv; rfl) ?_
          intro wy6 hb hg
          replace HM := Lib.hid (show Mem wb [blkE P12 38 (r12.map i64v), blkE P13 38 (zd 16)] wy6 from HM.out.put 0 rfl _ hg hb)
          clear hb hg
          refine hK.out _ _ (((HM.out.erase 0).erase 0)) (fun hHeld => ?_)
          clear hK K
          (try simp only [Act.put])
          refine step_one 9 rfl (by kernel_rfl) (fun K hK => ?_)
          clear hHeld
          refine step_store_blk _ rfl 38 (.tmp 13) (.tmp 50) rfl P13 (r13.map i64v) rfl (by show Value.agg c13 = _; rw [hc13]) 38 (zd 16) (HM.out.blk 1 rfl) (cu_cells _ hr13.1) (by rw [List.length_map, hr13.1]; rfl) (by intro v hv; obtain ⟨_, _, rfl⟩ := List.mem_map.1 hv; rfl) ?_
          intro wy7 hb hg
          replace HM := Lib.hid (show Mem wb [blkE P12 38 (r12.map i64v), blkE P13 38 (r13.map i64v)] wy7 from HM.out.put 1 rfl _ hg hb)
          clear hb hg
          refine hK.out _ _ (((HM.out.erase 0).erase 0)) (fun hHeld => ?_)
          clear hK K
          (try simp only [Act.put])
          refine wpAnyH_done (by kernel_rfl) ?_ _
          go_wp2_with fail
          go_meet
          exact ⟨P12, P13, r12, r13, rfl, rfl, hr12, vr12, hr13, vr13, Nat.le_trans (HB.out.2.2.2.2.2.2.2.2.2.2.2) (MemE.low HM.out.1 0 _ rfl), Nat.le_trans (HB.out.2.2.2.2.2.2.2.2.2.2.2) (MemE.low HM.out.1 1 _ rfl), HM.out.blk 0 rfl, HM.out.blk 1 rfl, HKE.out _ HM.out.bel⟩
        · clear hHeld
          go_simp
          replace HM := Lib.hid (show Mem wb [blkE wy3.heap.size 38 (zd 16), blkE P13 38 (zd 16)] (wy3.alloc (.cells cuZ16 38)) from HM.out.alloc rfl 38 cuZ16 (zd 16) rfl)
          generalize wy3.alloc (.cells cuZ16 38) = wy4 at HM ⊢
          generalize wy3.heap.size = P12 at HM ⊢
          refine hK.out _ _ (((HM.out.erase 0).erase 0)) (fun hHeld => ?_)
          clear hK K
          (try simp only [Act.put, List.setIfInBounds_toArray, List.set_cons_zero, List.set_cons_succ])
          refine step_one 5 rfl (by kernel_rfl) (fun K hK => ?_)
          clear hHeld
          go_simp
          refine (T13.out _).mono ?_
          rintro e wy5 ⟨r13, hr13, vr13, rfl, hb⟩
          replace HM := Lib.hid (show Mem wb [blkE P12 38 (zd 16), blkE P13 38 (zd 16)] wy5 from HM.out.below hb)
          obtain ⟨c13, hc13⟩ : ∃ c, (r13.map i64v).toArray = c := ⟨_, rfl⟩
          rw [hc13]
          clear hb
          go_wp2_with fail
          refine hK.out _ _ (((HM.out.erase 0).erase 0)) (fun hHeld => ?_)
          clear hK K
          (try simp only [Act.put, List.setIfInBounds_toArray, List.set_cons_zero, List.set_cons_succ])
          refine step_one 8 rfl (by kernel_rfl) (fun K hK => ?_)
          clear hHeld
          refine step_store_blk _ rfl 38 (.tmp 12) (.tmp 47) rfl P12 (r12.map i64v) rfl (by show Value.agg c12 = _; rw [hc12]) 38 (zd 16) (HM.out.blk 0 rfl) (cu_cells _ hr12.1) (by rw [List.length_map, hr12.1]; rfl) (by intro v hv; obtain ⟨_, _, rfl⟩ := List.mem_map.1 hv; rfl) ?_
          intro wy6 hb hg
          replace HM := Lib.hid (show Mem wb [blkE P12 38 (r12.map i64v), blkE P13 38 (zd 16)] wy6 from HM.out.put 0 rfl _ hg hb)
          clear hb hg
          refine hK.out _ _ (((HM.out.erase 0).erase 0)) (fun hHeld => ?_)
          clear hK K
          (try simp only [Act.put])
          refine step_one 9 rfl (by kernel_rfl) (fun K hK => ?_)
          clear hHeld
          refine step_store_blk _ rfl 38 (.tmp 13) (.tmp 50) rfl P13 (r13.map i64v) rfl (by show Value.agg c13 = _; rw [hc13]) 38 (zd 16) (HM.out.blk 1 rfl) (cu_cells _ hr13.1) (by rw [List.length_map, hr13.1]; rfl) (by intro v hv; obtain ⟨_, _, rfl⟩ := List.mem_map.1 hv; rfl) ?_
          intro wy7 hb hg
          replace HM := Lib.hid (show Mem wb [blkE P12 38 (r12.map i64v), blkE P13 38 (r13.map i64v)] wy7 from HM.out.put 1 rfl _ hg hb)
          clear hb hg
          refine hK.out _ _ (((HM.out.erase 0).erase 0)) (fun hHeld => ?_)
          clear hK K
          (try simp only [Act.put])
          refine wpAnyH_done (by kernel_rfl) ?_ _
          go_wp2_with fail
          go_meet
          exact ⟨P12, P13, r12, r13, rfl, rfl, hr12, vr12, hr13, vr13, Nat.le_trans (HB.out.2.2.2.2.2.2.2.2.2.2.2) (MemE.low HM.out.1 0 _ rfl), Nat.le_trans (HB.out.2.2.2.2.2.2.2.2.2.2.2) (MemE.low HM.out.1 1 _ rfl), HM.out.blk 0 rfl, HM.out.blk 1 rfl, HKE.out _ HM.out.bel⟩
      · clear hHeld
        go_simp
        replace HM := Lib.hid (show Mem wb [blkE wy2.heap.size 38 (zd 16), blkE P13 38 (zd 16)] (wy2.alloc (.cells cuZ16 38)) from HM.out.alloc rfl 38 cuZ16 (zd 16) rfl)
        generalize wy2.alloc (.cells cuZ16 38) = wy3 at HM ⊢
        generalize wy2.heap.size = P12 at HM ⊢
        refine hK.out _ _ (((HM.out.erase 0).erase 0)) (fun hHeld => ?_)
        clear hK K
        (try simp only [Act.put, List.setIfInBounds_toArray, List.set_cons_zero, List.set_cons_succ])
        refine step_one 2 rfl (by kernel_rfl) (fun K hK => ?_)
        clear hHeld
        go_simp
        refine (T12.out _).mono ?_
        rintro e wy4 ⟨r12, hr12, vr12, rfl, hb⟩
        replace HM := Lib.hid (show Mem wb [blkE P12 38 (zd 16), blkE P13 38 (zd 16)] wy4 from HM.out.below hb)
        obtain ⟨c12, hc12⟩ : ∃ c, (r12.map i64v).toArray = c := ⟨_, rfl⟩
        rw [hc12]
        clear hb
        go_wp2_with fail
        refine hK.out _ _ (((HM.out.erase 0).erase 0)) (fun hHeld => ?_)
        clear hK K
        (try simp only [Act.put, List.setIfInBounds_toArray, List.set_cons_zero, List.set_cons_succ])
        refine step_one 5 rfl (by kernel_rfl) (fun K hK => ?_)
        clear hHeld
        go_simp
        refine (T13.out _).mono ?_
        rintro e wy5 ⟨r13, hr13, vr13, rfl, hb⟩
        replace HM := Lib.hid (show Mem wb [blkE P12 38 (zd 16), blkE P13 38 (zd 16)] wy5 from HM.out.below hb)
        obtain ⟨c13, hc13⟩ : ∃ c, (r13.map i64v).toArray = c := ⟨_, rfl⟩
        rw [hc13]
        clear hb
        go_wp2_with fail
        refine hK.out _ _ (((HM.out.erase 0).erase 0)) (fun hHeld => ?_)
        clear hK K
        (try simp only [Act.put, List.setIfInBounds_toArray, List.set_cons_zero, List.set_cons_succ])
        refine step_one 8 rfl (by kernel_rfl) (fun K hK => ?_)
        clear hHeld
        refine step_store_blk _ rfl 38 (.tmp 12) (.tmp 47) rfl P12 (r12.map i64v) rfl (by show Value.agg c12 = _; rw [hc12]) 38 (zd 16) (HM.out.blk 0 rfl) (cu_cells _ hr12.1) (by rw [List.length_map, hr12.1]; rfl) (by intro v hv; obtain ⟨_, _, rfl⟩ := List.mem_map.1 hv; rfl) ?_
        intro wy6 hb hg
        replace HM := Lib.hid (show Mem wb [blkE P12 38 (r12.map i64v), blkE P13 38 (zd 16)] wy6 from HM.out.put 0 rfl _ hg hb)
        clear hb hg
        refine hK.out _ _ (((HM.out.erase 0).erase 0)) (fun hHeld => ?_)
        clear hK K
        (try simp only [Act.put])
        refine step_one 9 rfl (by kernel_rfl) (fun K hK => ?_)
        clear hHeld
        refine step_store_blk _ rfl 38 (.tmp 13) (.tmp 50) rfl P13 (r13.map i64v) rfl (by show Value.agg c13 = _; rw [hc13]) 38 (zd 16) (HM.out.blk 1 rfl) (cu_cells _ hr13.1) (by rw [List.length_map, hr13.1]; rfl) (by intro v hv; obtain ⟨_, _, rfl⟩ := List.mem_map.1 hv; rfl) ?_
        intro wy7 hb hg
        replace HM := Lib.hid (show Mem wb [blkE P12 38 (r12.map i64v), blkE P13 38 (r13.map i64v)] wy7 from HM.out.put 1 rfl _ hg hb)
        clear hb hg
        refine hK.out _ _ (((HM.out.erase 0).erase 0)) (fun hHeld => ?_)
        clear hK K
        (try simp only [Act.put])
        refine wpAnyH_done (by kernel_rfl) ?_ _
        go_wp2_with fail
        go_meet
        exact ⟨P12, P13, r12, r13, rfl, rfl, hr12, vr12, hr13, vr13, Nat.le_trans (HB.out.2.2.2.2.2.2.2.2.2.2.2) (MemE.low HM.out.1 0 _ rfl), Nat.le_trans (HB.out.2.2.2.2.2.2.2.2.2.2.2) (MemE.low HM.out.1 1 _ rfl), HM.out.blk 0 rfl, HM.out.blk 1 rfl, HKE.out _ HM.out.bel⟩
  case rest =>
  clear HB
  revert wc
  intro wb hcut
  obtain ⟨P12, P13, r12, r13, rfl, rfl, hr12, vr12, hr13, vr13, hP12, hP13, hcut⟩ := hcut
  have HB := Lib.hid hcut
  have HP12 := Lib.hid (And.intro hP12 hP13)
  clear hcut hP12 hP13
  obtain ⟨c12, hc12⟩ : ∃ c, (r12.map i64v).toArray = c := ⟨_, rfl⟩
  obtain ⟨c13, hc13⟩ : ∃ c, (r13.map i64v).toArray = c := ⟨_, rfl⟩
  have HR12 := Lib.hid (And.intro hc12 (And.intro hr12 vr12))
  have HR13 := Lib.hid (And.intro hc13 (And.intro hr13 vr13))
  clear hc12 hc13 hr12 vr12 hr13 vr13
  have Cls := fun W : World => ref_plus_any r12 r13 HR12.out.2.1.1 HR13.out.2.1.1 ((Good.small HR12.out.2.1).mono (by omega)) ((Good.small HR13.out.2.1).mono (by omega)) W
  have Fls : Fit (addL r12 r13) := ⟨addL_length _ _ HR12.out.2.1.1 HR13.out.2.1.1, (addL_within _ _ _ _ (Good.small HR12.out.2.1) (Good.small HR13.out.2.1)).mono (by omega)⟩
  have Qls : Cu.fq (Cu.valL (addL r12 r13)) = ((Cu.fq (Cu.valL x3) - Cu.fq (Cu.valL z3)) * (Cu.fq (Cu.valL x2) + Cu.fq (Cu.valL z2)) + (Cu.fq (Cu.valL x3) + Cu.fq (Cu.valL z3)) * (Cu.fq (Cu.valL x2) - Cu.fq (Cu.valL z2))) := by rw [addL_val _ _ (by rw [HR12.out.2.1.1, HR13.out.2.1.1]), Cu.fq_add, HR12.out.2.2, HR13.out.2.2]
  generalize addL r12 r13 = ls at Cls Fls Qls
  obtain ⟨cls, hcls⟩ : ∃ c, (ls.map i64v).toArray = c := ⟨_, rfl⟩
  rw [HR12.out.1, HR13.out.1, hcls] at Cls
  have Hls := Lib.hid (And.intro hcls (And.intro Fls Qls))
  have Kls := Lib.hid Cls
  clear Cls Fls Qls hcls
  have Clt := fun W : World => ref_minus_any r12 r13 HR12.out.2.1.1 HR13.out.2.1.1 ((Good.small HR12.out.2.1).mono (by omega)) ((Good.small HR13.out.2.1).mono (by omega)) W
  have Flt : Fit (subL r12 r13) := ⟨subL_length _ _ HR12.out.2.1.1 HR13.out.2.1.1, (subL_within _ _ _ _ (Good.small HR12.out.2.1) (Good.small HR13.out.2.1)).mono (by omega)⟩
  have Qlt : Cu.fq (Cu.valL (subL r12 r13)) = ((Cu.fq (Cu.valL x3) - Cu.fq (Cu.valL z3)) * (Cu.fq (Cu.valL x2) + Cu.fq (Cu.valL z2)) - (Cu.fq (Cu.valL x3) + Cu.fq (Cu.valL z3)) * (Cu.fq (Cu.valL x2) - Cu.fq (Cu.valL z2))) := by rw [subL_val _ _ (by rw [HR12.out.2.1.1, HR13.out.2.1.1]), Cu.fq_sub, HR12.out.2.2, HR13.out.2.2]
  generalize subL r12 r13 = lt at Clt Flt Qlt
  obtain ⟨clt, hclt⟩ : ∃ c, (lt.map i64v).toArray = c := ⟨_, rfl⟩
  rw [HR12.out.1, HR13.out.1, hclt] at Clt
  have Hlt := Lib.hid (And.intro hclt (And.intro Flt Qlt))
  have Klt := Lib.hid Clt
  clear Clt Flt Qlt hclt
  go_upto_region 6 with fail
  go_cut [14, 15] (fun p q wx => ∃ P14 P15, p = .pointer (some ⟨P14, 0, none⟩) ∧ q = .pointer (some ⟨P15, 0, none⟩) ∧ w.heap.size + 3 ≤ P14 ∧ w.heap.size + 3 ≤ P15 ∧ Blk wx P14 38 (ls.map i64v) ∧ Blk wx P15 38 (lt.map i64v) ∧ Blk wx P12 38 (r12.map i64v) ∧ Blk wx P13 38 (r13.map i64v) ∧ Blk wx P10 38 (lc.map i64v) ∧ Blk wx P11 38 (ld.map i64v) ∧ Blk wx P9 38 (le.map i64v) ∧ Blk wx P7 38 (r7.map i64v) ∧ Blk wx P8 38 (r8.map i64v) ∧ Blk wx P5 38 (la.map i64v) ∧ Blk wx P6 38 (lb.map i64v) ∧ Blk wx w.heap.size 41 (ladV x2 z2 x3 z3) ∧ Blk wx (w.heap.size + 1) 38 (x1.map i64v) ∧ Blk wx (w.heap.size + 1 + 1) 41 (zd 64) ∧ Below w.heap.size w wx ∧ w.heap.size + 3 ≤ wx.heap.size)
  case first =>
    have HM := Lib.hid (Mem.nil wb)
    have HKE := Lib.hid (show ∀ W, Below wb.heap.size wb W → Blk W P12 38 (r12.map i64v) ∧ Blk W P13 38 (r13.map i64v) ∧ Blk W P10 38 (lc.map i64v) ∧ Blk W P11 38 (ld.map i64v) ∧ Blk W P9 38 (le.map i64v) ∧ Blk W P7 38 (r7.map i64v) ∧ Blk W P8 38 (r8.map i64v) ∧ Blk W P5 38 (la.map i64v) ∧ Blk W P6 38 (lb.map i64v) ∧ Blk W w.heap.size 41 (ladV x2 z2 x3 z3) ∧ Blk W (w.heap.size + 1) 38 (x1.map i64v) ∧ Blk W (w.heap.size + 1 + 1) 41 (zd 64) ∧ Below w.heap.size w W ∧ w.heap.size + 3 ≤ W.heap.size from fun W hW => ⟨(HB.out.1).below hW (HB.out.1).lt, (HB.out.2.1).below hW (HB.out.2.1).lt, (HB.out.2.2.1).below hW (HB.out.2.2.1).lt, (HB.out.2.2.2.1).below hW (HB.out.2.2.2.1).lt, (HB.out.2.2.2.2.1).below hW (HB.out.2.2.2.2.1).lt, (HB.out.2.2.2.2.2.1).below hW (HB.out.2.2.2.2.2.1).lt, (HB.out.2.2.2.2.2.2.1).below hW (HB.out.2.2.2.2.2.2.1).lt, (HB.out.2.2.2.2.2.2.2.1).below hW (HB.out.2.2.2.2.2.2.2.1).lt, (HB.out.2.2.2.2.2.2.2.2.1).below hW (HB.out.2.2.2.2.2.2.2.2.1).lt, (HB.out.2.2.2.2.2.2.2.2.2.1).below hW (HB.out.2.2.2.2.2.2.2.2.2.1).lt, (HB.out.2.2.2.2.2.2.2.2.2.2.1).below hW (HB.out.2.2.2.2.2.2.2.2.2.2.1).lt, (HB.out.2.2.2.2.2.2.2.2.2.2.2.1).below hW (HB.out.2.2.2.2.2.2.2.2.2.2.2.1).lt, (HB.out.2.2.2.2.2.2.2.2.2.2.2.2.1).trans (hW.mono (HB.out.2.2.2.2.2.2.2.2.2.2.2.2.1).size), Nat.le_trans (HB.out.2.2.2.2.2.2.2.2.2.2.2.2.2) hW.size⟩)
    refine wp_region_held_drew (S := fun W' => Mem wb [] W') (by kernel_rfl) (HM.out.drew) (fun hHeld => ?_)
    replace HM := Lib.hid HM.out.drew
    generalize wb.drew = wd1 at HM hHeld ⊢
    refine take_first (v := .agg c12) 0 rfl (by kernel_rfl) (by kernel_rfl) (by kernel_rfl) (fun _ _ _ h => h) (by rw [← HR12.out.1]; exact yields_load_blk (by rfl) 38 (.tmp 12) rfl P12 rfl 38 (r12.map i64v) (fun w' hb => (HB.out.1).below hb.bel (HB.out.1).lt) 16 2 Try.underlying38 (cu_cells r12 HR12.out.2.1.1)) (by assumption) ?_
    (try simp only [Act.put, List.setIfInBounds_toArray, List.set_cons_zero, List.set_cons_succ])
    refine take_first (v := .agg c13) 1 rfl (by kernel_rfl) (by kernel_rfl) (by kernel_rfl) (fun _ _ _ h => h) (by rw [← HR13.out.1]; exact yields_load_blk (by rfl) 38 (.tmp 13) rfl P13 rfl 38 (r13.map i64v) (fun w' hb => (HB.out.2.1).below hb.bel (HB.out.2.1).lt) 16 2 Try.underlying38 (cu_cells r13 HR13.out.2.1.1)) (by assumption) ?_
    (try simp only [Act.put, List.setIfInBounds_toArray, List.set_cons_zero, List.set_cons_succ])
    refine take_first (v := .agg c12) 3 rfl (by kernel_rfl) (by kernel_rfl) (by kernel_rfl) (fun _ _ _ h => h) (by rw [← HR12.out.1]; exact yields_load_blk (by rfl) 38 (.tmp 12) rfl P12 rfl 38 (r12.map i64v) (fun w' hb => (HB.out.1).below hb.bel (HB.out.1).lt) 16 2 Try.underlying38 (cu_cells r12 HR12.out.2.1.1)) (by assumption) ?_
    (try simp only [Act.put, List.setIfInBounds_toArray, List.set_cons_zero, List.set_cons_succ])
    refine take_first (v := .agg c13) 4 rfl (by kernel_rfl) (by kernel_rfl) (by kernel_rfl) (fun _ _ _ h => h) (by rw [← HR13.out.1]; exact yields_load_blk (by rfl) 38 (.tmp 13) rfl P13 rfl 38 (r13.map i64v) (fun w' hb => (HB.out.2.1).below hb.bel (HB.out.2.1).lt) 16 2 Try.underlying38 (cu_cells r13 HR13.out.2.1.1)) (by assumption) ?_
    (try simp only [Act.put, List.setIfInBounds_toArray, List.set_cons_zero, List.set_cons_succ])
    refine step_three 2 6 7 rfl rfl rfl (by kernel_rfl) (fun K hK => ?_) (fun K hK => ?_) (fun K hK => ?_)
    · clear hHeld
      go_simp
      refine (Kls.out _).mono ?_
      rintro e wy2 ⟨rfl, hb⟩
      replace HM := Lib.hid (show Mem wb [] wy2 from HM.out.below hb)
      clear hb
      go_wp2_with fail
      refine hK.out _ _ (HM.out) (fun hHeld => ?_)
      clear hK K
      (try simp only [Act.put, List.setIfInBounds_toArray, List.set_cons_zero, List.set_cons_succ])
      refine step_three 5 6 7 rfl rfl rfl (by kernel_rfl) (fun K hK => ?_) (fun K hK => ?_) (fun K hK => ?_)
      · clear hHeld
        go_simp
        refine (Klt.out _).mono ?_
        rintro e wy3 ⟨rfl, hb⟩
        replace HM := Lib.hid (show Mem wb [] wy3 from HM.out.below hb)
        clear hb
        go_wp2_with fail
        refine hK.out _ _ (HM.out) (fun hHeld => ?_)
        clear hK K
        (try simp only [Act.put, List.setIfInBounds_toArray, List.set_cons_zero, List.set_cons_succ])
        refine step_two 6 7 rfl rfl (by kernel_rfl) (fun K hK => ?_) (fun K hK => ?_)
        · clear hHeld
          go_simp
          replace HM := Lib.hid (show Mem wb [blkE wy3.heap.size 38 (zd 16)] (wy3.alloc (.cells cuZ16 38)) from HM.out.alloc rfl 38 cuZ16 (zd 16) rfl)
          generalize wy3.alloc (.cells cuZ16 38) = wy4 at HM ⊢
          generalize wy3.heap.size = P14 at HM ⊢
          refine hK.out _ _ ((HM.out.erase 0)) (fun hHeld => ?_)
          clear hK K
          (try simp only [Act.put, List.setIfInBounds_toArray, List.set_cons_zero, List.set_cons_succ])
          refine step_one 7 rfl (by kernel_rfl) (fun K hK => ?_)
          clear hHeld
          go_simp
          replace HM := Lib.hid (show Mem wb [blkE wy4.heap.size 38 (zd 16), blkE P14 38 (zd 16)] (wy4.alloc (.cells cuZ16 38)) from HM.out.alloc rfl 38 cuZ16 (zd 16) rfl)
          generalize wy4.alloc (.cells cuZ16 38) = wy5 at HM ⊢
          generalize wy4.heap.size = P15 at HM ⊢
          refine hK.out _ _ (((HM.out.erase 0).erase 0)) (fun hHeld => ?_)
          clear hK K
          (try simp only [Act.put, List.setIfInBounds_toArray, List.set_cons_zero, List.set_cons_succ])
          refine step_one 8 rfl (by kernel_rfl) (fun K hK => ?_)
          clear hHeld
          refine step_store_blk _ rfl 38 (.tmp 14) (.tmp 53) rfl P14 (ls.map i64v) rfl (by show Value.agg cls = _; rw [Hls.out.1]) 38 (zd 16) (HM.out.blk 1 rfl) (cu_cells _ Hls.out.2.1.1) (by rw [List.length_map, Hls.out.2.1.1]; rfl) (by intro v hv; obtain ⟨_, _, rfl⟩ := List.mem_map.1 hv; rfl) ?_
          intro wy6 hb hg
          replace HM := Lib.hid (show Mem wb [blkE P15 38 (zd 16), blkE P14 38 (ls.map i64v)] wy6 from HM.out.put 1 rfl _ hg hb)
          clear hb hg
          refine hK.out _ _ (((HM.out.erase 0).erase 0)) (fun hHeld => ?_)
          clear hK K
          (try simp only [Act.put])
          refine step_one 9 rfl (by kernel_rfl) (fun K hK => ?_)
          clear hHeld
          refine step_store_blk _ rfl 38 (.tmp 15) (.tmp 56) rfl P15 (lt.map i64v) rfl (by show Value.agg clt = _; rw [Hlt.out.1]) 38 (zd 16) (HM.out.blk 0 rfl) (cu_cells _ Hlt.out.2.1.1) (by rw [List.length_map, Hlt.out.2.1.1]; rfl) (by intro v hv; obtain ⟨_, _, rfl⟩ := List.mem_map.1 hv; rfl) ?_
          intro wy7 hb hg
          replace HM := Lib.hid (show Mem wb [blkE P15 38 (lt.map i64v), blkE P14 38 (ls.map i64v)] wy7 from HM.out.put 0 rfl _ hg hb)
          clear hb hg
          refine hK.out _ _ (((HM.out.erase 0).erase 0)) (fun hHeld => ?_)
          clear hK K
          (try simp only [Act.put])
          refine wpAnyH_done (by kernel_rfl) ?_ _
          go_wp2_with fail
          go_meet
          exact ⟨P14, P15, rfl, rfl, Nat.le_trans (HB.out.2.2.2.2.2.2.2.2.2.2.2.2.2) (MemE.low HM.out.1 1 _ rfl), Nat.le_trans (HB.out.2.2.2.2.2.2.2.2.2.2.2.2.2) (MemE.low HM.out.1 0 _ rfl), HM.out.blk 1 rfl, HM.out.blk 0 rfl, HKE.out _ HM.out.bel⟩
        · clear hHeld
          go_simp
          replace HM := Lib.hid (show Mem wb [blkE wy3.heap.size 38 (zd 16)] (wy3.alloc (.cells cuZ16 38)) from HM.out.alloc rfl 38 cuZ16 (zd 16) rfl)
          generalize wy3.alloc (.cells cuZ16 38) = wy4 at HM ⊢
          generalize wy3.heap.size = P15 at HM ⊢
          refine hK.out _ _ ((HM.out.erase 0)) (fun hHeld => ?_)
          clear hK K
          (try simp only [Act.put, List.setIfInBounds_toArray, List.set_cons_zero, List.set_cons_succ])
          refine step_one 6 rfl (by kernel_rfl) (fun K hK => ?_)
          clear hHeld
          go_simp
          replace HM := Lib.hid (show Mem wb [blkE wy4.heap.size 38 (zd 16), blkE P15 38 (zd 16)] (wy4.alloc (.cells cuZ16 38)) from HM.out.alloc rfl 38 cuZ16 (zd 16) rfl)
          generalize wy4.alloc (.cells cuZ16 38) = wy5 at HM ⊢
          generalize wy4.heap.size = P14 at HM ⊢
          refine hK.out _ _ (((HM.out.erase 0).erase 0)) (fun hHeld => ?_)
          clear hK K
          (try simp only [Act.put, List.setIfInBounds_toArray, List.set_cons_zero, List.set_cons_succ])
          refine step_one 8 rfl (by kernel_rfl) (fun K hK => ?_)
          clear hHeld
          refine step_store_blk _ rfl 38 (.tmp 14) (.tmp 53) rfl P14 (ls.map i64v) rfl (by show Value.agg cls = _; rw [Hls.out.1]) 38 (zd 16) (HM.out.blk 0 rfl) (cu_cells _ Hls.out.2.1.1) (by rw [List.length_map, Hls.out.2.1.1]; rfl) (by intro v hv; obtain ⟨_, _, rfl⟩ := List.mem_map.1 hv; rfl) ?_
          intro wy6 hb hg
          replace HM := Lib.hid (show Mem wb [blkE P14 38 (ls.map i64v), blkE P15 38 (zd 16)] wy6 from HM.out.put 0 rfl _ hg hb)
          clear hb hg
          refine hK.out _ _ (((HM.out.erase 0).erase 0)) (fun hHeld => ?_)
          clear hK K
          (try simp only [Act.put])
          refine step_one 9 rfl (by kernel_rfl) (fun K hK => ?_)
          clear hHeld
          refine step_store_blk _ rfl 38 (.tmp 15) (.tmp 56) rfl P15 (lt.map i64v) rfl (by show Value.agg clt = _; rw [Hlt.out.1]) 38 (zd 16) (HM.out.blk 1 rfl) (cu_cells _ Hlt.out.2.1.1) (by rw [List.length_map, Hlt.out.2.1.1]; rfl) (by intro v hv; obtain ⟨_, _, rfl⟩ := List.mem_map.1 hv; rfl) ?_
          intro wy7 hb hg
          replace HM := Lib.hid (show Mem wb [blkE P14 38 (ls.map i64v), blkE P15 38 (lt.map i64v)] wy7 from HM.out.put 1 rfl _ hg hb)
          clear hb hg
          refine hK.out _ _ (((HM.out.erase 0).erase 0)) (fun hHeld => ?_)
          clear hK K
          (try simp only [Act.put])
          refine wpAnyH_done (by kernel_rfl) ?_ _
          go_wp2_with fail
          go_meet
          exact ⟨P14, P15, rfl, rfl, Nat.le_trans (HB.out.2.2.2.2.2.2.2.2.2.2.2.2.2) (MemE.low HM.out.1 0 _ rfl), Nat.le_trans (HB.out.2.2.2.2.2.2.2.2.2.2.2.2.2) (MemE.low HM.out.1 1 _ rfl), HM.out.blk 0 rfl, HM.out.blk 1 rfl, HKE.out _ HM.out.bel⟩
      · clear hHeld
        go_simp
        replace HM := Lib.hid (show Mem wb [blkE wy2.heap.size 38 (zd 16)] (wy2.alloc (.cells cuZ16 38)) from HM.out.alloc rfl 38 cuZ16 (zd 16) rfl)
        generalize wy2.alloc (.cells cuZ16 38) = wy3 at HM ⊢
        generalize wy2.heap.size = P14 at HM ⊢
        refine hK.out _ _ ((HM.out.erase 0)) (fun hHeld => ?_)
        clear hK K
        (try simp only [Act.put, List.setIfInBounds_toArray, List.set_cons_zero, List.set_cons_succ])
        refine step_two 5 7 rfl rfl (by kernel_rfl) (fun K hK => ?_) (fun K hK => ?_)
        · clear hHeld
          go_simp
          refine (Klt.out _).mono ?_
          rintro e wy4 ⟨rfl, hb⟩
          replace HM := Lib.hid (show Mem wb [blkE P14 38 (zd 16)] wy4 from HM.out.below hb)
          clear hb
          go_wp2_with fail
          refine hK.out _ _ ((HM.out.erase 0)) (fun hHeld => ?_)
          clear hK K
          (try simp only [Act.put, List.setIfInBounds_toArray, List.set_cons_zero, List.set_cons_succ])
          refine step_one 7 rfl (by kernel_rfl) (fun K hK => ?_)
          clear hHeld
          go_simp
          replace HM := Lib.hid (show Mem wb [blkE wy4.heap.size 38 (zd 16), blkE P14 38 (zd 16)] (wy4.alloc (.cells cuZ16 38)) from HM.out.alloc rfl 38 cuZ16 (zd 16) rfl)
          generalize wy4.alloc (.cells cuZ16 38) = wy5 at HM ⊢
          generalize wy4.heap.size = P15 at HM ⊢
          refine hK.out _ _ (((HM.out.erase 0).erase 0)) (fun hHeld => ?_)
          clear hK K
          (try simp only [Act.put, List.setIfInBounds_toArray, List.set_cons_zero, List.set_cons_succ])
          refine step_one 8 rfl (by kernel_rfl) (fun K hK => ?_)
          clear hHeld
          refine step_store_blk _ rfl 38 (.tmp 14) (.tmp 53) rfl P14 (ls.map i64v) rfl (by show Value.agg cls = _; rw [Hls.out.1]) 38 (zd 16) (HM.out.blk 1 rfl) (cu_cells _ Hls.out.2.1.1) (by rw [List.length_map, Hls.out.2.1.1]; rfl) (by intro v hv; obtain ⟨_, _, rfl⟩ := List.mem_map.1 hv; rfl) ?_
          intro wy6 hb hg
          replace HM := Lib.hid (show Mem wb [blkE P15 38 (zd 16), blkE P14 38 (ls.map i64v)] wy6 from HM.out.put 1 rfl _ hg hb)
          clear hb hg
          refine hK.out _ _ (((HM.out.erase 0).erase 0)) (fun hHeld => ?_)
          clear hK K
          (try simp only [Act.put])
          refine step_one 9 rfl (by kernel_rfl) (fun K hK => ?_)
          clear hHeld
          refine step_store_blk _ rfl 38 (.tmp 15) (.tmp 56) rfl P15 (lt.map i64v) rfl (by show Value.agg clt = _; rw [Hlt.out.1]) 38 (zd 16) (HM.out.blk 0 rfl) (cu_cells _ Hlt.out.2.1.1) (by rw [List.length_map, Hlt.out.2.1.1]; rfl) (by intro v hv; obtain ⟨_, _, rfl⟩ := List.mem_map.1 hv; rfl) ?_
          intro wy7 hb hg
          replace HM := Lib.hid (show Mem wb [blkE P15 38 (lt.map i64v), blkE P14 38 (ls.map i64v)] wy7 from HM.out.put 0 rfl _ hg hb)
          clear hb hg
          refine hK.out _ _ (((HM.out.erase 0).erase 0)) (fun hHeld => ?_)
          clear hK K
          (try simp only [Act.put])
          refine wpAnyH_done (by kernel_rfl) ?_ _
          go_wp2_with fail
          go_meet
          exact ⟨P14, P15, rfl, rfl, Nat.le_trans (HB.out.2.2.2.2.2.2.2.2.2.2.2.2.2) (MemE.low HM.out.1 1 _ rfl), Nat.le_trans (HB.out.2.2.2.2.2.2.2.2.2.2.2.2.2) (MemE.low HM.out.1 0 _ rfl), HM.out.blk 1 rfl, HM.out.blk 0 rfl, HKE.out _ HM.out.bel⟩
        · clear hHeld
          go_simp
          replace HM := Lib.hid (show Mem wb [blkE wy3.heap.size 38 (zd 16), blkE P14 38 (zd 16)] (wy3.alloc (.cells cuZ16 38)) from HM.out.alloc rfl 38 cuZ16 (zd 16) rfl)
          generalize wy3.alloc (.cells cuZ16 38) = wy4 at HM ⊢
          generalize wy3.heap.size = P15 at HM ⊢
          refine hK.out _ _ (((HM.out.erase 0).erase 0)) (fun hHeld => ?_)
          clear hK K
          (try simp only [Act.put, List.setIfInBounds_toArray, List.set_cons_zero, List.set_cons_succ])
          refine step_one 5 rfl (by kernel_rfl) (fun K hK => ?_)
          clear hHeld
          go_simp
          refine (Klt.out _).mono ?_
          rintro e wy5 ⟨rfl, hb⟩
          replace HM := Lib.hid (show Mem wb [blkE P15 38 (zd 16), blkE P14 38 (zd 16)] wy5 from HM.out.below hb)
          clear hb
          go_wp2_with fail
          refine hK.out _ _ (((HM.out.erase 0).erase 0)) (fun hHeld => ?_)
          clear hK K
          (try simp only [Act.put, List.setIfInBounds_toArray, List.set_cons_zero, List.set_cons_succ])
          refine step_one 8 rfl (by kernel_rfl) (fun K hK => ?_)
          clear hHeld
          refine step_store_blk _ rfl 38 (.tmp 14) (.tmp 53) rfl P14 (ls.map i64v) rfl (by show Value.agg cls = _; rw [Hls.out.1]) 38 (zd 16) (HM.out.blk 1 rfl) (cu_cells _ Hls.out.2.1.1) (by rw [List.length_map, Hls.out.2.1.1]; rfl) (by intro v hv; obtain ⟨_, _, rfl⟩ := List.mem_map.1 hv; rfl) ?_
          intro wy6 hb hg
          replace HM := Lib.hid (show Mem wb [blkE P15 38 (zd 16), blkE P14 38 (ls.map i64v)] wy6 from HM.out.put 1 rfl _ hg hb)
          clear hb hg
          refine hK.out _ _ (((HM.out.erase 0).erase 0)) (fun hHeld => ?_)
          clear hK K
          (try simp only [Act.put])
          refine step_one 9 rfl (by kernel_rfl) (fun K hK => ?_)
          clear hHeld
          refine step_store_blk _ rfl 38 (.tmp 15) (.tmp 56) rfl P15 (lt.map i64v) rfl (by show Value.agg clt = _; rw [Hlt.out.1]) 38 (zd 16) (HM.out.blk 0 rfl) (cu_cells _ Hlt.out.2.1.1) (by rw [List.length_map, Hlt.out.2.1.1]; rfl) (by intro v hv; obtain ⟨_, _, rfl⟩ := List.mem_map.1 hv; rfl) ?_
          intro wy7 hb hg
          replace HM := Lib.hid (show Mem wb [blkE P15 38 (lt.map i64v), blkE P14 38 (ls.map i64v)] wy7 from HM.out.put 0 rfl _ hg hb)
          clear hb hg
          refine hK.out _ _ (((HM.out.erase 0).erase 0)) (fun hHeld => ?_)
          clear hK K
          (try simp only [Act.put])
          refine wpAnyH_done (by kernel_rfl) ?_ _
          go_wp2_with fail
          go_meet
          exact ⟨P14, P15, rfl, rfl, Nat.le_trans (HB.out.2.2.2.2.2.2.2.2.2.2.2.2.2) (MemE.low HM.out.1 1 _ rfl), Nat.le_trans (HB.out.2.2.2.2.2.2.2.2.2.2.2.2.2) (MemE.low HM.out.1 0 _ rfl), HM.out.blk 1 rfl, HM.out.blk 0 rfl, HKE.out _ HM.out.bel⟩
      · clear hHeld
        go_simp
        replace HM := Lib.hid (show Mem wb [blkE wy2.heap.size 38 (zd 16)] (wy2.alloc (.cells cuZ16 38)) from HM.out.alloc rfl 38 cuZ16 (zd 16) rfl)
        generalize wy2.alloc (.cells cuZ16 38) = wy3 at HM ⊢
        generalize wy2.heap.size = P15 at HM ⊢
        refine hK.out _ _ ((HM.out.erase 0)) (fun hHeld => ?_)
        clear hK K
        (try simp only [Act.put, List.setIfInBounds_toArray, List.set_cons_zero, List.set_cons_succ])
        refine step_two 5 6 rfl rfl (by kernel_rfl) (fun K hK => ?_) (fun K hK => ?_)
        · clear hHeld
          go_simp
          refine (Klt.out _).mono ?_
          rintro e wy4 ⟨rfl, hb⟩
          replace HM := Lib.hid (show Mem wb [blkE P15 38 (zd 16)] wy4 from HM.out.below hb)
          clear hb
          go_wp2_with fail
          refine hK.out _ _ ((HM.out.erase 0)) (fun hHeld => ?_)
          clear hK K
          (try simp only [Act.put, List.setIfInBounds_toArray, List.set_cons_zero, List.set_cons_succ])
          refine step_one 6 rfl (by kernel_rfl) (fun K hK => ?_)
          clear hHeld
          go_simp
          replace HM := Lib.hid (show Mem wb [blkE wy4.heap.size 38 (zd 16), blkE P15 38 (zd 16)] (wy4.alloc (.cells cuZ16 38)) from HM.out.alloc rfl 38 cuZ16 (zd 16) rfl)
          generalize wy4.alloc (.cells cuZ16 38) = wy5 at HM ⊢
          generalize wy4.heap.size = P14 at HM ⊢
          refine hK.out _ _ (((HM.out.erase 0).erase 0)) (fun hHeld => ?_)
          clear hK K
          (try simp only [Act.put, List.setIfInBounds_toArray, List.set_cons_zero, List.set_cons_succ])
          refine step_one 8 rfl (by kernel_rfl) (fun K hK => ?_)
          clear hHeld
          refine step_store_blk _ rfl 38 (.tmp 14) (.tmp 53) rfl P14 (ls.map i64v) rfl (by show Value.agg cls = _; rw [Hls.out.1]) 38 (zd 16) (HM.out.blk 0 rfl) (cu_cells _ Hls.out.2.1.1) (by rw [List.length_map, Hls.out.2.1.1]; rfl) (by intro v hv; obtain ⟨_, _, rfl⟩ := List.mem_map.1 hv; rfl) ?_
          intro wy6 hb hg
          replace HM := Lib.hid (show Mem wb [blkE P14 38 (ls.map i64v), blkE P15 38 (zd 16)] wy6 from HM.out.put 0 rfl _ hg hb)
          clear hb hg
          refine hK.out _ _ (((HM.out.erase 0).erase 0)) (fun hHeld => ?_)
          clear hK K
          (try simp only [Act.put])
          refine step_one 9 rfl (by kernel_rfl) (fun K hK => ?_)
          clear hHeld
          refine step_store_blk _ rfl 38 (.tmp 15) (.tmp 56) rfl P15 (lt.map i64v) rfl (by show Value.agg clt = _; rw [Hlt.out.1]) 38 (zd 16) (HM.out.blk 1 rfl) (cu_cells _ Hlt.out.2.1.1) (by rw [List.length_map, Hlt.out.2.1.1]; rfl) (by intro v hv; obtain ⟨_, _, rfl⟩ := List.mem_map.1 hv; rfl) ?_
          intro wy7 hb hg
          replace HM := Lib.hid (show Mem wb [blkE P14 38 (ls.map i64v), blkE P15 38 (lt.map i64v)] wy7 from HM.out.put 1 rfl _ hg hb)
          clear hb hg
          refine hK.out _ _ (((HM.out.erase 0).erase 0)) (fun hHeld => ?_)
          clear hK K
          (try simp only [Act.put])
          refine wpAnyH_done (by kernel_rfl) ?_ _
          go_wp2_with fail
          go_meet
          exact ⟨P14, P15, rfl, rfl, Nat.le_trans (HB.out.2.2.2.2.2.2.2.2.2.2.2.2.2) (MemE.low HM.out.1 0 _ rfl), Nat.le_trans (HB.out.2.2.2.2.2.2.2.2.2.2.2.2.2) (MemE.low HM.out.1 1 _ rfl), HM.out.blk 0 rfl, HM.out.blk 1 rfl, HKE.out _ HM.out.bel⟩
        · clear hHeld
          go_simp
          replace HM := Lib.hid (show Mem wb [blkE wy3.heap.size 38 (zd 16), blkE P15 38 (zd 16)] (wy3.alloc (.cells cuZ16 38)) from HM.out.alloc rfl 38 cuZ16 (zd 16) rfl)
          generalize wy3.alloc (.cells cuZ16 38) = wy4 at HM ⊢
          generalize wy3.heap.size = P14 at HM ⊢
          refine hK.out _ _ (((HM.out.erase 0).erase 0)) (fun hHeld => ?_)
          clear hK K
          (try simp only [Act.put, List.setIfInBounds_toArray, List.set_cons_zero, List.set_cons_succ])
          refine step_one 5 rfl (by kernel_rfl) (fun K hK => ?_)
          clear hHeld
          go_simp
          refine (Klt.out _).mono ?_
          rintro e wy5 ⟨rfl, hb⟩
          replace HM := Lib.hid (show Mem wb [blkE P14 38 (zd 16), blkE P15 38 (zd 16)] wy5 from HM.out.below hb)
          clear hb
          go_wp2_with fail
          refine hK.out _ _ (((HM.out.erase 0).erase 0)) (fun hHeld => ?_)
          clear hK K
          (try simp only [Act.put, List.setIfInBounds_toArray, List.set_cons_zero, List.set_cons_succ])
          refine step_one 8 rfl (by kernel_rfl) (fun K hK => ?_)
          clear hHeld
          refine step_store_blk _ rfl 38 (.tmp 14) (.tmp 53) rfl P14 (ls.map i64v) rfl (by show Value.agg cls = _; rw [Hls.out.1]) 38 (zd 16) (HM.out.blk 0 rfl) (cu_cells _ Hls.out.2.1.1) (by rw [List.length_map, Hls.out.2.1.1]; rfl) (by intro v hv; obtain ⟨_, _, rfl⟩ := List.mem_map.1 hv; rfl) ?_
          intro wy6 hb hg
          replace HM := Lib.hid (show Mem wb [blkE P14 38 (ls.map i64v), blkE P15 38 (zd 16)] wy6 from HM.out.put 0 rfl _ hg hb)
          clear hb hg
          refine hK.out _ _ (((HM.out.erase 0).erase 0)) (fun hHeld => ?_)
          clear hK K
          (try simp only [Act.put])
          refine step_one 9 rfl (by kernel_rfl) (fun K hK => ?_)
          clear hHeld
          refine step_store_blk _ rfl 38 (.tmp 15) (.tmp 56) rfl P15 (lt.map i64v) rfl (by show Value.agg clt = _; rw [Hlt.out.1]) 38 (zd 16) (HM.out.blk 1 rfl) (cu_cells _ Hlt.out.2.1.1) (by rw [List.length_map, Hlt.out.2.1.1]; rfl) (by intro v hv; obtain ⟨_, _, rfl⟩ := List.mem_map.1 hv; rfl) ?_
          intro wy7 hb hg
          replace HM := Lib.hid (show Mem wb [blkE P14 38 (ls.map i64v), blkE P15 38 (lt.map i64v)] wy7 from HM.out.put 1 rfl _ hg hb)
          clear hb hg
          refine hK.out _ _ (((HM.out.erase 0).erase 0)) (fun hHeld => ?_)
          clear hK K
          (try simp only [Act.put])
          refine wpAnyH_done (by kernel_rfl) ?_ _
          go_wp2_with fail
          go_meet
          exact ⟨P14, P15, rfl, rfl, Nat.le_trans (HB.out.2.2.2.2.2.2.2.2.2.2.2.2.2) (MemE.low HM.out.1 0 _ rfl), Nat.le_trans (HB.out.2.2.2.2.2.2.2.2.2.2.2.2.2) (MemE.low HM.out.1 1 _ rfl), HM.out.blk 0 rfl, HM.out.blk 1 rfl, HKE.out _ HM.out.bel⟩
    · clear hHeld
      go_simp
      replace HM := Lib.hid (show Mem wb [blkE wd1.heap.size 38 (zd 16)] (wd1.alloc (.cells cuZ16 38)) from HM.out.alloc rfl 38 cuZ16 (zd 16) rfl)
      generalize wd1.alloc (.cells cuZ16 38) = wy2 at HM ⊢
      generalize wd1.heap.size = P14 at HM ⊢
      refine hK.out _ _ ((HM.out.erase 0)) (fun hHeld => ?_)
      clear hK K
      (try simp only [Act.put, List.setIfInBounds_toArray, List.set_cons_zero, List.set_cons_succ])
      refine step_two 2 7 rfl rfl (by kernel_rfl) (fun K hK => ?_) (fun K hK => ?_)
      · clear hHeld
        go_simp
        refine (Kls.out _).mono ?_
        rintro e wy3 ⟨rfl, hb⟩
        replace HM := Lib.hid (show Mem wb [blkE P14 38 (zd 16)] wy3 from HM.out.below hb)
        clear hb
        go_wp2_with fail
        refine hK.out _ _ ((HM.out.erase 0)) (fun hHeld => ?_)
        clear hK K
        (try simp only [Act.put, List.setIfInBounds_toArray, List.set_cons_zero, List.set_cons_succ])
        refine step_two 5 7 rfl rfl (by kernel_rfl) (fun K hK => ?_) (fun K hK => ?_)
        · clear hHeld
          go_simp
          refine (Klt.out _).mono ?_
          rintro e wy4 ⟨rfl, hb⟩
          replace HM := Lib.hid (show Mem wb [blkE P14 38 (zd 16)] wy4 from HM.out.below hb)
          clear hb
          go_wp2_with fail
          refine hK.out _ _ ((HM.out.erase 0)) (fun hHeld => ?_)
          clear hK K
          (try simp only [Act.put, List.setIfInBounds_toArray, List.set_cons_zero, List.set_cons_succ])
          refine step_one 7 rfl (by kernel_rfl) (fun K hK => ?_)
          clear hHeld
          go_simp
          replace HM := Lib.hid (show Mem wb [blkE wy4.heap.size 38 (zd 16), blkE P14 38 (zd 16)] (wy4.alloc (.cells cuZ16 38)) from HM.out.alloc rfl 38 cuZ16 (zd 16) rfl)
          generalize wy4.alloc (.cells cuZ16 38) = wy5 at HM ⊢
          generalize wy4.heap.size = P15 at HM ⊢
          refine hK.out _ _ (((HM.out.erase 0).erase 0)) (fun hHeld => ?_)
          clear hK K
          (try simp only [Act.put, List.setIfInBounds_toArray, List.set_cons_zero, List.set_cons_succ])
          refine step_one 8 rfl (by kernel_rfl) (fun K hK => ?_)
          clear hHeld
          refine step_store_blk _ rfl 38 (.tmp 14) (.tmp 53) rfl P14 (ls.map i64v) rfl (by show Value.agg cls = _; rw [Hls.out.1]) 38 (zd 16) (HM.out.blk 1 rfl) (cu_cells _ Hls.out.2.1.1) (by rw [List.length_map, Hls.out.2.1.1]; rfl) (by intro v hv; obtain ⟨_, _, rfl⟩ := List.mem_map.1 hv; rfl) ?_
          intro wy6 hb hg
          replace HM := Lib.hid (show Mem wb [blkE P15 38 (zd 16), blkE P14 38 (ls.map i64v)] wy6 from HM.out.put 1 rfl _ hg hb)
          clear hb hg
          refine hK.out _ _ (((HM.out.erase 0).erase 0)) (fun hHeld => ?_)
          clear hK K
          (try simp only [Act.put])
          refine step_one 9 rfl (by kernel_rfl) (fun K hK => ?_)
          clear hHeld
          refine step_store_blk _ rfl 38 (.tmp 15) (.tmp 56) rfl P15 (lt.map i64v) rfl (by show Value.agg clt = _; rw [Hlt.out.1]) 38 (zd 16) (HM.out.blk 0 rfl) (cu_cells _ Hlt.out.2.1.1) (by rw [List.length_map, Hlt.out.2.1.1]; rfl) (by intro v hv; obtain ⟨_, _, rfl⟩ := List.mem_map.1 hv; rfl) ?_
          intro wy7 hb hg
          replace HM := Lib.hid (show Mem wb [blkE P15 38 (lt.map i64v), blkE P14 38 (ls.map i64v)] wy7 from HM.out.put 0 rfl _ hg hb)
          clear hb hg
          refine hK.out _ _ (((HM.out.erase 0).erase 0)) (fun hHeld => ?_)
          clear hK K
          (try simp only [Act.put])
          refine wpAnyH_done (by kernel_rfl) ?_ _
          go_wp2_with fail
          go_meet
          exact ⟨P14, P15, rfl, rfl, Nat.le_trans (HB.out.2.2.2.2.2.2.2.2.2.2.2.2.2) (MemE.low HM.out.1 1 _ rfl), Nat.le_trans (HB.out.2.2.2.2.2.2.2.2.2.2.2.2.2) (MemE.low HM.out.1 0 _ rfl), HM.out.blk 1 rfl, HM.out.blk 0 rfl, HKE.out _ HM.out.bel⟩
        · clear hHeld
          go_simp
          replace HM := Lib.hid (show Mem wb [blkE wy3.heap.size 38 (zd 16), blkE P14 38 (zd 16)] (wy3.alloc (.cells cuZ16 38)) from HM.out.alloc rfl 38 cuZ16 (zd 16) rfl)
          generalize wy3.alloc (.cells cuZ16 38) = wy4 at HM ⊢
          generalize wy3.heap.size = P15 at HM ⊢
          refine hK.out _ _ (((HM.out.erase 0).erase 0)) (fun hHeld => ?_)
          clear hK K
          (try simp only [Act.put, List.setIfInBounds_toArray, List.set_cons_zero, List.set_cons_succ])
          refine step_one 5 rfl (by kernel_rfl) (fun K hK => ?_)
          clear hHeld
          go_simp
          refine (Klt.out _).mono ?_
          rintro e wy5 ⟨rfl, hb⟩
          replace HM := Lib.hid (show Mem wb [blkE P15 38 (zd 16), blkE P14 38 (zd 16)] wy5 from HM.out.below hb)
          clear hb
          go_wp2_with fail
          refine hK.out _ _ (((HM.out.erase 0).erase 0)) (fun hHeld => ?_)
          clear hK K
          (try simp only [Act.put, List.setIfInBounds_toArray, List.set_cons_zero, List.set_cons_succ])
          refine step_one 8 rfl (by kernel_rfl) (fun K hK => ?_)
          clear hHeld
          refine step_store_blk _ rfl 38 (.tmp 14) (.tmp 53) rfl P14 (ls.map i64v) rfl (by show Value.agg cls = _; rw [Hls.out.1]) 38 (zd 16) (HM.out.blk 1 rfl) (cu_cells _ Hls.out.2.1.1) (by rw [List.length_map, Hls.out.2.1.1]; rfl) (by intro v hv; obtain ⟨_, _, rfl⟩ := List.mem_map.1 hv; rfl) ?_
          intro wy6 hb hg
          replace HM := Lib.hid (show Mem wb [blkE P15 38 (zd 16), blkE P14 38 (ls.map i64v)] wy6 from HM.out.put 1 rfl _ hg hb)
          clear hb hg
          refine hK.out _ _ (((HM.out.erase 0).erase 0)) (fun hHeld => ?_)
          clear hK K
          (try simp only [Act.put])
          refine step_one 9 rfl (by kernel_rfl) (fun K hK => ?_)
          clear hHeld
          refine step_store_blk _ rfl 38 (.tmp 15) (.tmp 56) rfl P15 (lt.map i64v) rfl (by show Value.agg clt = _; rw [Hlt.out.1]) 38 (zd 16) (HM.out.blk 0 rfl) (cu_cells _ Hlt.out.2.1.1) (by rw [List.length_map, Hlt.out.2.1.1]; rfl) (by intro v hv; obtain ⟨_, _, rfl⟩ := List.mem_map.1 hv; rfl) ?_
          intro wy7 hb hg
          replace HM := Lib.hid (show Mem wb [blkE P15 38 (lt.map i64v), blkE P14 38 (ls.map i64v)] wy7 from HM.out.put 0 rfl _ hg hb)
          clear hb hg
          refine hK.out _ _ (((HM.out.erase 0).erase 0)) (fun hHeld => ?_)
          clear hK K
          (try simp only [Act.put])
          refine wpAnyH_done (by kernel_rfl) ?_ _
          go_wp2_with fail
          go_meet
          exact ⟨P14, P15, rfl, rfl, Nat.le_trans (HB.out.2.2.2.2.2.2.2.2.2.2.2.2.2) (MemE.low HM.out.1 1 _ rfl), Nat.le_trans (HB.out.2.2.2.2.2.2.2.2.2.2.2.2.2) (MemE.low HM.out.1 0 _ rfl), HM.out.blk 1 rfl, HM.out.blk 0 rfl, HKE.out _ HM.out.bel⟩
      · clear hHeld
        go_simp
        replace HM := Lib.hid (show Mem wb [blkE wy2.heap.size 38 (zd 16), blkE P14 38 (zd 16)] (wy2.alloc (.cells cuZ16 38)) from HM.out.alloc rfl 38 cuZ16 (zd 16) rfl)
        generalize wy2.alloc (.cells cuZ16 38) = wy3 at HM ⊢
        generalize wy2.heap.size = P15 at HM ⊢
        refine hK.out _ _ (((HM.out.erase 0).erase 0)) (fun hHeld => ?_)
        clear hK K
        (try simp only [Act.put, List.setIfInBounds_toArray, List.set_cons_zero, List.set_cons_succ])
        refine step_one 2 rfl (by kernel_rfl) (fun K hK => ?_)
        clear hHeld
        go_simp
        refine (Kls.out _).mono ?_
        rintro e wy4 ⟨rfl, hb⟩
        replace HM := Lib.hid (show Mem wb [blkE P15 38 (zd 16), blkE P14 38 (zd 16)] wy4 from HM.out.below hb)
        clear hb
        go_wp2_with fail
        refine hK.out _ _ (((HM.out.erase 0).erase 0)) (fun hHeld => ?_)
        clear hK K
        (try simp only [Act.put, List.setIfInBounds_toArray, List.set_cons_zero, List.set_cons_succ])
        refine step_one 5 rfl (by kernel_rfl) (fun K hK => ?_)
        clear hHeld
        go_simp
        refine (Klt.out _).mono ?_
        rintro e wy5 ⟨rfl, hb⟩
        replace HM := Lib.hid (show Mem wb [blkE P15 38 (zd 16), blkE P14 38 (zd 16)] wy5 from HM.out.below hb)
        clear hb
        go_wp2_with fail
        refine hK.out _ _ (((HM.out.erase 0).erase 0)) (fun hHeld => ?_)
        clear hK K
        (try simp only [Act.put, List.setIfInBounds_toArray, List.set_cons_zero, List.set_cons_succ])
        refine step_one 8 rfl (by kernel_rfl) (fun K hK => ?_)
        clear hHeld
        refine step_store_blk _ rfl 38 (.tmp 14) (.tmp 53) rfl P14 (ls.map i64v) rfl (by show Value.agg cls = _; rw [Hls.out.1]) 38 (zd 16) (HM.out.blk 1 rfl) (cu_cells _ Hls.out.2.1.1) (by rw [List.length_map, Hls.out.2.1.1]; rfl) (by intro v hv; obtain ⟨_, _, rfl⟩ := List.mem_map.1 hv; rfl) ?_
        intro wy6 hb hg
        replace HM := Lib.hid (show Mem wb [blkE P15 38 (zd 16), blkE P14 38 (ls.map i64v)] wy6 from HM.out.put 1 rfl _ hg hb)
        clear hb hg
        refine hK.out _ _ (((HM.out.erase 0).erase 0)) (fun hHeld => ?_)
        clear hK K
        (try simp only [Act.put])
        refine step_one 9 rfl (by kernel_rfl) (fun K hK => ?_)
        clear hHeld
        refine step_store_blk _ rfl 38 (.tmp 15) (.tmp 56) rfl P15 (lt.map i64v) rfl (by show Value.agg clt = _; rw [Hlt.out.1]) 38 (zd 16) (HM.out.blk 0 rfl) (cu_cells _ Hlt.out.2.1.1) (by rw [List.length_map, Hlt.out.2.1.1]; rfl) (by intro v hv; obtain ⟨_, _, rfl⟩ := List.mem_map.1 hv; rfl) ?_
        intro wy7 hb hg
        replace HM := Lib.hid (show Mem wb [blkE P15 38 (lt.map i64v), blkE P14 38 (ls.map i64v)] wy7 from HM.out.put 0 rfl _ hg hb)
        clear hb hg
        refine hK.out _ _ (((HM.out.erase 0).erase 0)) (fun hHeld => ?_)
        clear hK K
        (try simp only [Act.put])
        refine wpAnyH_done (by kernel_rfl) ?_ _
        go_wp2_with fail
        go_meet
        exact ⟨P14, P15, rfl, rfl, Nat.le_trans (HB.out.2.2.2.2.2.2.2.2.2.2.2.2.2) (MemE.low HM.out.1 1 _ rfl), Nat.le_trans (HB.out.2.2.2.2.2.2.2.2.2.2.2.2.2) (MemE.low HM.out.1 0 _ rfl), HM.out.blk 1 rfl, HM.out.blk 0 rfl, HKE.out _ HM.out.bel⟩
    · clear hHeld
      go_simp
      replace HM := Lib.hid (show Mem wb [blkE wd1.heap.size 38 (zd 16)] (wd1.alloc (.cells cuZ16 38)) from HM.out.alloc rfl 38 cuZ16 (zd 16) rfl)
      generalize wd1.alloc (.cells cuZ16 38) = wy2 at HM ⊢
      generalize wd1.heap.size = P15 at HM ⊢
      refine hK.out _ _ ((HM.out.erase 0)) (fun hHeld => ?_)
      clear hK K
      (try simp only [Act.put, List.setIfInBounds_toArray, List.set_cons_zero, List.set_cons_succ])
      refine step_two 2 6 rfl rfl (by kernel_rfl) (fun K hK => ?_) (fun K hK => ?_)
      · clear hHeld
        go_simp
        refine (Kls.out _).mono ?_
        rintro e wy3 ⟨rfl, hb⟩
        replace HM := Lib.hid (show Mem wb [blkE P15 38 (zd 16)] wy3 from HM.out.below hb)
        clear hb
        go_wp2_with fail
        refine hK.out _ _ ((HM.out.erase 0)) (fun hHeld => ?_)
        clear hK K
        (try simp only [Act.put, List.setIfInBounds_toArray, List.set_cons_zero, List.set_cons_succ])
        refine step_two 5 6 rfl rfl (by kernel_rfl) (fun K hK => ?_) (fun K hK => ?_)
        · clear hHeld
          go_simp
          refine (Klt.out _).mono ?_
          rintro e wy4 ⟨rfl, hb⟩
          replace HM := Lib.hid (show Mem wb [blkE P15 38 (zd 16)] wy4 from HM.out.below hb)
          clear hb
          go_wp2_with fail
          refine hK.out _ _ ((HM.out.erase 0)) (fun hHeld => ?_)
          clear hK K
          (try simp only [Act.put, List.setIfInBounds_toArray, List.set_cons_zero, List.set_cons_succ])
          refine step_one 6 rfl (by kernel_rfl) (fun K hK => ?_)
          clear hHeld
          go_simp
          replace HM := Lib.hid (show Mem wb [blkE wy4.heap.size 38 (zd 16), blkE P15 38 (zd 16)] (wy4.alloc (.cells cuZ16 38)) from HM.out.alloc rfl 38 cuZ16 (zd 16) rfl)
          generalize wy4.alloc (.cells cuZ16 38) = wy5 at HM ⊢
          generalize wy4.heap.size = P14 at HM ⊢
          refine hK.out _ _ (((HM.out.erase 0).erase 0)) (fun hHeld => ?_)
          clear hK K
          (try simp only [Act.put, List.setIfInBounds_toArray, List.set_cons_zero, List.set_cons_succ])
          refine step_one 8 rfl (by kernel_rfl) (fun K hK => ?_)
          clear hHeld
          refine step_store_blk _ rfl 38 (.tmp 14) (.tmp 53) rfl P14 (ls.map i64v) rfl (by show Value.agg cls = _; rw [Hls.out.1]) 38 (zd 16) (HM.out.blk 0 rfl) (cu_cells _ Hls.out.2.1.1) (by rw [List.length_map, Hls.out.2.1.1]; rfl) (by intro v hv; obtain ⟨_, _, rfl⟩ := List.mem_map.1 hv; rfl) ?_
          intro wy6 hb hg
          replace HM := Lib.hid (show Mem wb [blkE P14 38 (ls.map i64v), blkE P15 38 (zd 16)] wy6 from HM.out.put 0 rfl _ hg hb)
          clear hb hg
          refine hK.out _ _ (((HM.out.erase 0).erase 0)) (fun hHeld => ?_)
          clear hK K
          (try simp only [Act.put])
          refine step_one 9 rfl (by kernel_rfl) (fun K hK => ?_)
          clear hHeld
          refine step_store_blk _ rfl 38 (.tmp 15) (.tmp 56) rfl P15 (lt.map i64v) rfl (by show Value.agg clt = _; rw [Hlt.out.1]) 38 (zd 16) (HM.out.blk 1 rfl) (cu_cells _ Hlt.out.2.1.1) (by rw [List.length_map, Hlt.out.2.1.1]; rfl) (by intro v hv; obtain ⟨_, _, rfl⟩ := List.mem_map.1 hv; rfl) ?_
          intro wy7 hb hg
          replace HM := Lib.hid (show Mem wb [blkE P14 38 (ls.map i64v), blkE P15 38 (lt.map i64v)] wy7 from HM.out.put 1 rfl _ hg hb)
          clear hb hg
          refine hK.out _ _ (((HM.out.erase 0).erase 0)) (fun hHeld => ?_)
          clear hK K
          (try simp only [Act.put])
          refine wpAnyH_done (by kernel_rfl) ?_ _
          go_wp2_with fail
          go_meet
          exact ⟨P14, P15, rfl, rfl, Nat.le_trans (HB.out.2.2.2.2.2.2.2.2.2.2.2.2.2) (MemE.low HM.out.1 0 _ rfl), Nat.le_trans (HB.out.2.2.2.2.2.2.2.2.2.2.2.2.2) (MemE.low HM.out.1 1 _ rfl), HM.out.blk 0 rfl, HM.out.blk 1 rfl, HKE.out _ HM.out.bel⟩
        · clear hHeld
          go_simp
          replace HM := Lib.hid (show Mem wb [blkE wy3.heap.size 38 (zd 16), blkE P15 38 (zd 16)] (wy3.alloc (.cells cuZ16 38)) from HM.out.alloc rfl 38 cuZ16 (zd 16) rfl)
          generalize wy3.alloc (.cells cuZ16 38) = wy4 at HM ⊢
          generalize wy3.heap.size = P14 at HM ⊢
          refine hK.out _ _ (((HM.out.erase 0).erase 0)) (fun hHeld => ?_)
          clear hK K
          (try simp only [Act.put, List.setIfInBounds_toArray, List.set_cons_zero, List.set_cons_succ])
          refine step_one 5 rfl (by kernel_rfl) (fun K hK => ?_)
          clear hHeld
          go_simp
          refine (Klt.out _).mono ?_
          rintro e wy5 ⟨rfl, hb⟩
          replace HM := Lib.hid (show Mem wb [blkE P14 38 (zd 16), blkE P15 38 (zd 16)] wy5 from HM.out.below hb)
          clear hb
          go_wp2_with fail
          refine hK.out _ _ (((HM.out.erase 0).erase 0)) (fun hHeld => ?_)
          clear hK K
          (try simp only [Act.put, List.setIfInBounds_toArray, List.set_cons_zero, List.set_cons_succ])
          refine step_one 8 rfl (by kernel_rfl) (fun K hK => ?_)
          clear hHeld
          refine step_store_blk _ rfl 38 (.tmp 14) (.tmp 53) rfl P14 (ls.map i64v) rfl (by show Value.agg cls = _; rw [Hls.out.1]) 38 (zd 16) (HM.out.blk 0 rfl) (cu_cells _ Hls.out.2.1.1) (by rw [List.length_map, Hls.out.2.1.1]; rfl) (by intro v hv; obtain ⟨_, _, rfl⟩ := List.mem_map.1 hv; rfl) ?_
          intro wy6 hb hg
          replace HM := Lib.hid (show Mem wb [blkE P14 38 (ls.map i64v), blkE P15 38 (zd 16)] wy6 from HM.out.put 0 rfl _ hg hb)
          clear hb hg
          refine hK.out _ _ (((HM.out.erase 0).erase 0)) (fun hHeld => ?_)
          clear hK K
          (try simp only [Act.put])
          refine step_one 9 rfl (by kernel_rfl) (fun K hK => ?_)
          clear hHeld
          refine step_store_blk _ rfl 38 (.tmp 15) (.tmp 56) rfl P15 (lt.map i64v) rfl (by show Value.agg clt = _; rw [Hlt.out.1]) 38 (zd 16) (HM.out.blk 1 rfl) (cu_cells _ Hlt.out.2.1.1) (by rw [List.length_map, Hlt.out.2.1.1]; rfl) (by intro v hv; obtain ⟨_, _, rfl⟩ := List.mem_map.1 hv; rfl) ?_
          intro wy7 hb hg
          replace HM := Lib.hid (show Mem wb [blkE P14 38 (ls.map i64v), blkE P15 38 (lt.map i64v)] wy7 from HM.out.put 1 rfl _ hg hb)
          clear hb hg
          refine hK.out _ _ (((HM.out.erase 0).erase 0)) (fun hHeld => ?_)
          clear hK K
          (try simp only [Act.put])
          refine wpAnyH_done (by kernel_rfl) ?_ _
          go_wp2_with fail
          go_meet
          exact ⟨P14, P15, rfl, rfl, Nat.le_trans (HB.out.2.2.2.2.2.2.2.2.2.2.2.2.2) (MemE.low HM.out.1 0 _ rfl), Nat.le_trans (HB.out.2.2.2.2.2.2.2.2.2.2.2.2.2) (MemE.low HM.out.1 1 _ rfl), HM.out.blk 0 rfl, HM.out.blk 1 rfl, HKE.out _ HM.out.bel⟩
      · clear hHeld
        go_simp
        replace HM := Lib.hid (show Mem wb [blkE wy2.heap.size 38 (zd 16), blkE P15 38 (zd 16)] (wy2.alloc (.cells cuZ16 38)) from HM.out.alloc rfl 38 cuZ16 (zd 16) rfl)
        generalize wy2.alloc (.cells cuZ16 38) = wy3 at HM ⊢
        generalize wy2.heap.size = P14 at HM ⊢
        refine hK.out _ _ (((HM.out.erase 0).erase 0)) (fun hHeld => ?_)
        clear hK K
        (try simp only [Act.put, List.setIfInBounds_toArray, List.set_cons_zero, List.set_cons_succ])
        refine step_one 2 rfl (by kernel_rfl) (fun K hK => ?_)
        clear hHeld
        go_simp
        refine (Kls.out _).mono ?_
        rintro e wy4 ⟨rfl, hb⟩
        replace HM := Lib.hid (show Mem wb [blkE P14 38 (zd 16), blkE P15 38 (zd 16)] wy4 from HM.out.below hb)
        clear hb
        go_wp2_with fail
        refine hK.out _ _ (((HM.out.erase 0).erase 0)) (fun hHeld => ?_)
        clear hK K
        (try simp only [Act.put, List.setIfInBounds_toArray, List.set_cons_zero, List.set_cons_succ])
        refine step_one 5 rfl (by kernel_rfl) (fun K hK => ?_)
        clear hHeld
        go_simp
        refine (Klt.out _).mono ?_
        rintro e wy5 ⟨rfl, hb⟩
        replace HM := Lib.hid (show Mem wb [blkE P14 38 (zd 16), blkE P15 38 (zd 16)] wy5 from HM.out.below hb)
        clear hb
        go_wp2_with fail
        refine hK.out _ _ (((HM.out.erase 0).erase 0)) (fun hHeld => ?_)
        clear hK K
        (try simp only [Act.put, List.setIfInBounds_toArray, List.set_cons_zero, List.set_cons_succ])
        refine step_one 8 rfl (by kernel_rfl) (fun K hK => ?_)
        clear hHeld
        refine step_store_blk _ rfl 38 (.tmp 14) (.tmp 53) rfl P14 (ls.map i64v) rfl (by show Value.agg cls = _; rw [Hls.out.1]) 38 (zd 16) (HM.out.blk 0 rfl) (cu_cells _ Hls.out.2.1.1) (by rw [List.length_map, Hls.out.2.1.1]; rfl) (by intro v hv; obtain ⟨_, _, rfl⟩ := List.mem_map.1 hv; rfl) ?_
        intro wy6 hb hg
        replace HM := Lib.hid (show Mem wb [blkE P14 38 (ls.map i64v), blkE P15 38 (zd 16)] wy6 from HM.out.put 0 rfl _ hg hb)
        clear hb hg
        refine hK.out _ _ (((HM.out.erase 0).erase 0)) (fun hHeld => ?_)
        clear hK K
        (try simp only [Act.put])
        refine step_one 9 rfl (by kernel_rfl) (fun K hK => ?_)
        clear hHeld
        refine step_store_blk _ rfl 38 (.tmp 15) (.tmp 56) rfl P15 (lt.map i64v) rfl (by show Value.agg clt = _; rw [Hlt.out.1]) 38 (zd 16) (HM.out.blk 1 rfl) (cu_cells _ Hlt.out.2.1.1) (by rw [List.length_map, Hlt.out.2.1.1]; rfl) (by intro v hv; obtain ⟨_, _, rfl⟩ := List.mem_map.1 hv; rfl) ?_
        intro wy7 hb hg
        replace HM := Lib.hid (show Mem wb [blkE P14 38 (ls.map i64v), blkE P15 38 (lt.map i64v)] wy7 from HM.out.put 1 rfl _ hg hb)
        clear hb hg
        refine hK.out _ _ (((HM.out.erase 0).erase 0)) (fun hHeld => ?_)
        clear hK K
        (try simp only [Act.put])
        refine wpAnyH_done (by kernel_rfl) ?_ _
        go_wp2_with fail
        go_meet
        exact ⟨P14, P15, rfl, rfl, Nat.le_trans (HB.out.2.2.2.2.2.2.2.2.2.2.2.2.2) (MemE.low HM.out.1 0 _ rfl), Nat.le_trans (HB.out.2.2.2.2.2.2.2.2.2.2.2.2.2) (MemE.low HM.out.1 1 _ rfl), HM.out.blk 0 rfl, HM.out.blk 1 rfl, HKE.out _ HM.out.bel⟩
  case rest =>
  clear HB
  revert wc
  intro wb hcut
  obtain ⟨P14, P15, rfl, rfl, hP14, hP15, hcut⟩ := hcut
  have HB := Lib.hid hcut
  have HP14 := Lib.hid (And.intro hP14 hP15)
  clear hcut hP14 hP15
  obtain ⟨ck, hck⟩ : ∃ c, (kL.map i64v).toArray = c := ⟨_, rfl⟩
  have HK := Lib.hid (And.intro hck (And.intro kL_fit kL_val))
  clear hck
  have T59 := Lib.hid (show ∀ W : World, Calls Try.prog 23 #[.agg c7, .agg c8] W fun e w' => ∃ r, Cu.Good r ∧ Cu.fq (Cu.valL r) = ((Cu.fq (Cu.valL x2) + Cu.fq (Cu.valL z2)) * (Cu.fq (Cu.valL x2) + Cu.fq (Cu.valL z2))) * ((Cu.fq (Cu.valL x2) - Cu.fq (Cu.valL z2)) * (Cu.fq (Cu.valL x2) - Cu.fq (Cu.valL z2))) ∧ e = .returned (.agg (r.map i64v).toArray) ∧ Below W.heap.size W w' from fun W => by
    have h := refTimes_any r7 r8 ((Good.fit HR7.out.2.1)).1 ((Good.fit HR8.out.2.1)).1 ((Good.fit HR7.out.2.1)).2 ((Good.fit HR8.out.2.1)).2 W
    rw [HR7.out.2.2, HR8.out.2.2, HR7.out.1, HR8.out.1] at h
    exact h)
  have T64 := Lib.hid (show ∀ W : World, Calls Try.prog 23 #[.agg ck, .agg cle] W fun e w' => ∃ r, Cu.Good r ∧ Cu.fq (Cu.valL r) = Cu.fqC * ((Cu.fq (Cu.valL x2) + Cu.fq (Cu.valL z2)) * (Cu.fq (Cu.valL x2) + Cu.fq (Cu.valL z2)) - (Cu.fq (Cu.valL x2) - Cu.fq (Cu.valL z2)) * (Cu.fq (Cu.valL x2) - Cu.fq (Cu.valL z2))) ∧ e = .returned (.agg (r.map i64v).toArray) ∧ Below W.heap.size W w' from fun W => by
    have h := refTimes_any kL le (HK.out.2.1).1 (Hle.out.2.1).1 (HK.out.2.1).2 (Hle.out.2.1).2 W
    rw [HK.out.2.2, Hle.out.2.2, HK.out.1, Hle.out.1] at h
    exact h)
  have T69 := Lib.hid (show ∀ W : World, Calls Try.prog 23 #[.agg cls, .agg cls] W fun e w' => ∃ r, Cu.Good r ∧ Cu.fq (Cu.valL r) = ((Cu.fq (Cu.valL x3) - Cu.fq (Cu.valL z3)) * (Cu.fq (Cu.valL x2) + Cu.fq (Cu.valL z2)) + (Cu.fq (Cu.valL x3) + Cu.fq (Cu.valL z3)) * (Cu.fq (Cu.valL x2) - Cu.fq (Cu.valL z2))) * ((Cu.fq (Cu.valL x3) - Cu.fq (Cu.valL z3)) * (Cu.fq (Cu.valL x2) + Cu.fq (Cu.valL z2)) + (Cu.fq (Cu.valL x3) + Cu.fq (Cu.valL z3)) * (Cu.fq (Cu.valL x2) - Cu.fq (Cu.valL z2))) ∧ e = .returned (.agg (r.map i64v).toArray) ∧ Below W.heap.size W w' from fun W => by
    have h := refTimes_any ls ls (Hls.out.2.1).1 (Hls.out.2.1).1 (Hls.out.2.1).2 (Hls.out.2.1).2 W
    rw [Hls.out.2.2, Hls.out.1] at h
    exact h)
  have T73 := Lib.hid (show ∀ W : World, Calls Try.prog 23 #[.agg clt, .agg clt] W fun e w' => ∃ r, Cu.Good r ∧ Cu.fq (Cu.valL r) = ((Cu.fq (Cu.valL x3) - Cu.fq (Cu.valL z3)) * (Cu.fq (Cu.valL x2) + Cu.fq (Cu.valL z2)) - (Cu.fq (Cu.valL x3) + Cu.fq (Cu.valL z3)) * (Cu.fq (Cu.valL x2) - Cu.fq (Cu.valL z2))) * ((Cu.fq (Cu.valL x3) - Cu.fq (Cu.valL z3)) * (Cu.fq (Cu.valL x2) + Cu.fq (Cu.valL z2)) - (Cu.fq (Cu.valL x3) + Cu.fq (Cu.valL z3)) * (Cu.fq (Cu.valL x2) - Cu.fq (Cu.valL z2))) ∧ e = .returned (.agg (r.map i64v).toArray) ∧ Below W.heap.size W w' from fun W => by
    have h := refTimes_any lt lt (Hlt.out.2.1).1 (Hlt.out.2.1).1 (Hlt.out.2.1).2 (Hlt.out.2.1).2 W
    rw [Hlt.out.2.2, Hlt.out.1] at h
    exact h)
  go_upto_region 7 with fail
  have HM := Lib.hid (Mem.nil wb)
  refine wp_region_held_drew (S := fun W' => ∀ k, k < wb.heap.size → k ≠ (w.heap.size + 1 + 1) → W'.heap[k]? = wb.heap[k]?) (by kernel_rfl) ((fun k _ _ => rfl)) (fun hHeld => ?_)
  replace HM := Lib.hid HM.out.drew
  generalize wb.drew = wd1 at HM hHeld ⊢
  refine take_first (v := .agg c7) 0 rfl (by kernel_rfl) (by kernel_rfl) (by kernel_rfl) (fun _ _ _ h => h) (by rw [← HR7.out.1]; exact yields_load_blk (by rfl) 38 (.tmp 7) rfl P7 rfl 38 (r7.map i64v) (fun w' hb => (hb _ (HB.out.2.2.2.2.2.2.2.1).lt (by have := HP7.out.1; omega)).trans (HB.out.2.2.2.2.2.2.2.1)) 16 2 Try.underlying38 (cu_cells r7 HR7.out.2.1.1)) (by assumption) ?_
  (try simp only [Act.put, List.setIfInBounds_toArray, List.set_cons_zero, List.set_cons_succ])
  refine take_first (v := .agg c8) 1 rfl (by kernel_rfl) (by kernel_rfl) (by kernel_rfl) (fun _ _ _ h => h) (by rw [← HR8.out.1]; exact yields_load_blk (by rfl) 38 (.tmp 8) rfl P8 rfl 38 (r8.map i64v) (fun w' hb => (hb _ (HB.out.2.2.2.2.2.2.2.2.1).lt (by have := HP7.out.2; omega)).trans (HB.out.2.2.2.2.2.2.2.2.1)) 16 2 Try.underlying38 (cu_cells r8 HR8.out.2.1.1)) (by assumption) ?_
  (try simp only [Act.put, List.setIfInBounds_toArray, List.set_cons_zero, List.set_cons_succ])
  refine take_first (v := .agg cle) 3 rfl (by kernel_rfl) (by kernel_rfl) (by kernel_rfl) (fun _ _ _ h => h) (by rw [← Hle.out.1]; exact yields_load_blk (by rfl) 38 (.tmp 9) rfl P9 rfl 38 (le.map i64v) (fun w' hb => (hb _ (HB.out.2.2.2.2.2.2.1).lt (by have := HP9.out; omega)).trans (HB.out.2.2.2.2.2.2.1)) 16 2 Try.underlying38 (cu_cells le Hle.out.2.1.1)) (by assumption) ?_
  (try simp only [Act.put, List.setIfInBounds_toArray, List.set_cons_zero, List.set_cons_succ])
  refine take_first (v := .agg c7) 4 rfl (by kernel_rfl) (by kernel_rfl) (by kernel_rfl) (fun _ _ _ h => h) (by rw [← HR7.out.1]; exact yields_load_blk (by rfl) 38 (.tmp 7) rfl P7 rfl 38 (r7.map i64v) (fun w' hb => (hb _ (HB.out.2.2.2.2.2.2.2.1).lt (by have := HP7.out.1; omega)).trans (HB.out.2.2.2.2.2.2.2.1)) 16 2 Try.underlying38 (cu_cells r7 HR7.out.2.1.1)) (by assumption) ?_
  (try simp only [Act.put, List.setIfInBounds_toArray, List.set_cons_zero, List.set_cons_succ])
  refine take_first (v := .agg ck) 5 rfl (by kernel_rfl) (by kernel_rfl) (by kernel_rfl) (fun _ _ _ h => h) (by rw [← HK.out.1]; exact cu_yields_build (by rfl) 38 [(0, .const (.int .i64 56129)), (1, .const (.int .i64 1))] rfl _ kL_built) (by assumption) ?_
  (try simp only [Act.put, List.setIfInBounds_toArray, List.set_cons_zero, List.set_cons_succ])
  refine take_first (v := .agg cle) 6 rfl (by kernel_rfl) (by kernel_rfl) (by kernel_rfl) (fun _ _ _ h => h) (by rw [← Hle.out.1]; exact yields_load_blk (by rfl) 38 (.tmp 9) rfl P9 rfl 38 (le.map i64v) (fun w' hb => (hb _ (HB.out.2.2.2.2.2.2.1).lt (by have := HP9.out; omega)).trans (HB.out.2.2.2.2.2.2.1)) 16 2 Try.underlying38 (cu_cells le Hle.out.2.1.1)) (by assumption) ?_
  (try simp only [Act.put, List.setIfInBounds_toArray, List.set_cons_zero, List.set_cons_succ])
  refine take_first (v := .agg cls) 10 rfl (by kernel_rfl) (by kernel_rfl) (by kernel_rfl) (fun _ _ _ h => h) (by rw [← Hls.out.1]; exact yields_load_blk (by rfl) 38 (.tmp 14) rfl P14 rfl 38 (ls.map i64v) (fun w' hb => (hb _ (HB.out.1).lt (by have := HP14.out.1; omega)).trans (HB.out.1)) 16 2 Try.underlying38 (cu_cells ls Hls.out.2.1.1)) (by assumption) ?_
  (try simp only [Act.put, List.setIfInBounds_toArray, List.set_cons_zero, List.set_cons_succ])
  refine take_first (v := .agg cls) 11 rfl (by kernel_rfl) (by kernel_rfl) (by kernel_rfl) (fun _ _ _ h => h) (by rw [← Hls.out.1]; exact yields_load_blk (by rfl) 38 (.tmp 14) rfl P14 rfl 38 (ls.map i64v) (fun w' hb => (hb _ (HB.out.1).lt (by have := HP14.out.1; omega)).trans (HB.out.1)) 16 2 Try.underlying38 (cu_cells ls Hls.out.2.1.1)) (by assumption) ?_
  (try simp only [Act.put, List.setIfInBounds_toArray, List.set_cons_zero, List.set_cons_succ])
  refine take_first (v := .agg cx1) 13 rfl (by kernel_rfl) (by kernel_rfl) (by kernel_rfl) (fun _ _ _ h => h) (by rw [← HC.out.2.2.2.2]; exact yields_load_blk (by rfl) 38 (.tmp 3) rfl (w.heap.size + 1) rfl 38 (x1.map i64v) (fun w' hb => (hb _ (HB.out.2.2.2.2.2.2.2.2.2.2.2.2.1).lt (by have := HP7.out.1; omega)).trans (HB.out.2.2.2.2.2.2.2.2.2.2.2.2.1)) 16 2 Try.underlying38 (cu_cells x1 HL.out.2.2.2.2.1)) (by assumption) ?_
  (try simp only [Act.put, List.setIfInBounds_toArray, List.set_cons_zero, List.set_cons_succ])
  refine take_first (v := .agg clt) 14 rfl (by kernel_rfl) (by kernel_rfl) (by kernel_rfl) (fun _ _ _ h => h) (by rw [← Hlt.out.1]; exact yields_load_blk (by rfl) 38 (.tmp 15) rfl P15 rfl 38 (lt.map i64v) (fun w' hb => (hb _ (HB.out.2.1).lt (by have := HP14.out.2; omega)).trans (HB.out.2.1)) 16 2 Try.underlying38 (cu_cells lt Hlt.out.2.1.1)) (by assumption) ?_
  (try simp only [Act.put, List.setIfInBounds_toArray, List.set_cons_zero, List.set_cons_succ])
  refine take_first (v := .agg clt) 15 rfl (by kernel_rfl) (by kernel_rfl) (by kernel_rfl) (fun _ _ _ h => h) (by rw [← Hlt.out.1]; exact yields_load_blk (by rfl) 38 (.tmp 15) rfl P15 rfl 38 (lt.map i64v) (fun w' hb => (hb _ (HB.out.2.1).lt (by have := HP14.out.2; omega)).trans (HB.out.2.1)) 16 2 Try.underlying38 (cu_cells lt Hlt.out.2.1.1)) (by assumption) ?_
  (try simp only [Act.put, List.setIfInBounds_toArray, List.set_cons_zero, List.set_cons_succ])
  refine step_one 2 rfl (by kernel_rfl) (fun K hK => ?_)
  clear hHeld
  go_simp
  refine (T59.out _).mono ?_
  rintro e wy2 ⟨r59, hr59, vr59, rfl, hb⟩
  replace HM := Lib.hid (show Mem wb [] wy2 from HM.out.below hb)
  obtain ⟨c59, hc59⟩ : ∃ c, (r59.map i64v).toArray = c := ⟨_, rfl⟩
  rw [hc59]
  clear hb
  go_wp2_with fail
  refine hK.out _ _ (fun k hk _ => HM.out.bel.block k hk) (fun hHeld => ?_)
  clear hK K
  (try simp only [Act.put, List.setIfInBounds_toArray, List.set_cons_zero, List.set_cons_succ])
  refine step_one 7 rfl (by kernel_rfl) (fun K hK => ?_)
  clear hHeld
  go_simp
  refine (T64.out _).mono ?_
  rintro e wy3 ⟨r64, hr64, vr64, rfl, hb⟩
  replace HM := Lib.hid (show Mem wb [] wy3 from HM.out.below hb)
  obtain ⟨c64, hc64⟩ : ∃ c, (r64.map i64v).toArray = c := ⟨_, rfl⟩
  rw [hc64]
  have C65 := fun W : World => ref_plus_any r7 r64 HR7.out.2.1.1 hr64.1 ((Good.small HR7.out.2.1).mono (by omega)) ((Good.small hr64).mono (by omega)) W
  have F65 : Fit (addL r7 r64) := ⟨addL_length _ _ HR7.out.2.1.1 hr64.1, (addL_within _ _ _ _ (Good.small HR7.out.2.1) (Good.small hr64)).mono (by omega)⟩
  have Q65 : Cu.fq (Cu.valL (addL r7 r64)) = ((Cu.fq (Cu.valL x2) + Cu.fq (Cu.valL z2)) * (Cu.fq (Cu.valL x2) + Cu.fq (Cu.valL z2)) + Cu.fqC * ((Cu.fq (Cu.valL x2) + Cu.fq (Cu.valL z2)) * (Cu.fq (Cu.valL x2) + Cu.fq (Cu.valL z2)) - (Cu.fq (Cu.valL x2) - Cu.fq (Cu.valL z2)) * (Cu.fq (Cu.valL x2) - Cu.fq (Cu.valL z2)))) := by rw [addL_val _ _ (by rw [HR7.out.2.1.1, hr64.1]), Cu.fq_add, HR7.out.2.2, vr64]
  generalize addL r7 r64 = lp at C65 F65 Q65
  obtain ⟨clp, hclp⟩ : ∃ c, (lp.map i64v).toArray = c := ⟨_, rfl⟩
  rw [HR7.out.1, hc64, hclp] at C65
  have K65 := Lib.hid C65
  have T66 := refTimes_any le lp Hle.out.2.1.1 F65.1 Hle.out.2.1.2 F65.2
  rw [Hle.out.2.2, Q65, Hle.out.1, hclp] at T66
  have K66 := Lib.hid T66
  clear C65 T66 F65 Q65 hclp
  clear hb
  go_wp2_with fail
  refine hK.out _ _ (fun k hk _ => HM.out.bel.block k hk) (fun hHeld => ?_)
  clear hK K
  (try simp only [Act.put, List.setIfInBounds_toArray, List.set_cons_zero, List.set_cons_succ])
  refine step_one 8 rfl (by kernel_rfl) (fun K hK => ?_)
  clear hHeld
  go_simp
  refine (K65.out _).mono ?_
  rintro e wy4 ⟨rfl, hb⟩
  replace HM := Lib.hid (show Mem wb [] wy4 from HM.out.below hb)
  clear hb
  go_wp2_with fail
  refine hK.out _ _ (fun k hk _ => HM.out.bel.block k hk) (fun hHeld => ?_)
  clear hK K
  (try simp only [Act.put, List.setIfInBounds_toArray, List.set_cons_zero, List.set_cons_succ])
  refine step_one 9 rfl (by kernel_rfl) (fun K hK => ?_)
  clear hHeld
  go_simp
  refine (K66.out _).mono ?_
  rintro e wy5 ⟨r66, hr66, vr66, rfl, hb⟩
  replace HM := Lib.hid (show Mem wb [] wy5 from HM.out.below hb)
  obtain ⟨c66, hc66⟩ : ∃ c, (r66.map i64v).toArray = c := ⟨_, rfl⟩
  rw [hc66]
  clear hb
  go_wp2_with fail
  refine hK.out _ _ (fun k hk _ => HM.out.bel.block k hk) (fun hHeld => ?_)
  clear hK K
  (try simp only [Act.put, List.setIfInBounds_toArray, List.set_cons_zero, List.set_cons_succ])
  refine step_one 12 rfl (by kernel_rfl) (fun K hK => ?_)
  clear hHeld
  go_simp
  refine (T69.out _).mono ?_
  rintro e wy6 ⟨r69, hr69, vr69, rfl, hb⟩
  replace HM := Lib.hid (show Mem wb [] wy6 from HM.out.below hb)
  obtain ⟨c69, hc69⟩ : ∃ c, (r69.map i64v).toArray = c := ⟨_, rfl⟩
  rw [hc69]
  clear hb
  go_wp2_with fail
  refine hK.out _ _ (fun k hk _ => HM.out.bel.block k hk) (fun hHeld => ?_)
  clear hK K
  (try simp only [Act.put, List.setIfInBounds_toArray, List.set_cons_zero, List.set_cons_succ])
  refine step_one 16 rfl (by kernel_rfl) (fun K hK => ?_)
  clear hHeld
  go_simp
  refine (T73.out _).mono ?_
  rintro e wy7 ⟨r73, hr73, vr73, rfl, hb⟩
  replace HM := Lib.hid (show Mem wb [] wy7 from HM.out.below hb)
  obtain ⟨c73, hc73⟩ : ∃ c, (r73.map i64v).toArray = c := ⟨_, rfl⟩
  rw [hc73]
  have T74 := refTimes_any x1 r73 HL.out.2.2.2.2.1 hr73.1 HL.out.2.2.2.2.2 (Good.fit hr73).2
  rw [vr73, HC.out.2.2.2.2, hc73] at T74
  have K74 := Lib.hid T74
  clear T74
  clear hb
  go_wp2_with fail
  refine hK.out _ _ (fun k hk _ => HM.out.bel.block k hk) (fun hHeld => ?_)
  clear hK K
  (try simp only [Act.put, List.setIfInBounds_toArray, List.set_cons_zero, List.set_cons_succ])
  refine step_one 17 rfl (by kernel_rfl) (fun K hK => ?_)
  clear hHeld
  go_simp
  refine (K74.out _).mono ?_
  rintro e wy8 ⟨r74, hr74, vr74, rfl, hb⟩
  replace HM := Lib.hid (show Mem wb [] wy8 from HM.out.below hb)
  obtain ⟨c74, hc74⟩ : ∃ c, (r74.map i64v).toArray = c := ⟨_, rfl⟩
  rw [hc74]
  obtain ⟨xr, hxr⟩ : ∃ x, (ladV r59 r66 r69 r74).toArray = x := ⟨_, rfl⟩
  have hbt := built_four r59 r66 r69 r74 hr59.1 hr66.1 hr69.1 hr74.1
  rw [hc59, hc66, hc69, hc74, hxr] at hbt
  have HX := Lib.hid (And.intro hxr hbt)
  clear hbt hxr
  clear hb
  go_wp2_with fail
  refine hK.out _ _ (fun k hk _ => HM.out.bel.block k hk) (fun hHeld => ?_)
  clear hK K
  (try simp only [Act.put, List.setIfInBounds_toArray, List.set_cons_zero, List.set_cons_succ])
  refine take_first (v := .agg xr) 18 rfl (by kernel_rfl) (by kernel_rfl) (by kernel_rfl) (fun _ _ _ h => h) (cu_yields_build (by rfl) 41 [(0, .tmp 59), (1, .tmp 66), (2, .tmp 69), (3, .tmp 74)] rfl xr HX.out.2) (by assumption) ?_
  (try simp only [Act.put, List.setIfInBounds_toArray, List.set_cons_zero, List.set_cons_succ])
  refine step_one 19 rfl (by kernel_rfl) (fun K hK => ?_)
  clear hHeld
  refine step_store_blk _ rfl 41 (.tmp 4) (.tmp 75) rfl (w.heap.size + 1 + 1) (ladV r59 r66 r69 r74) rfl (by show Value.agg xr = _; rw [HX.out.1]) 41 (zd 64) ((HB.out.2.2.2.2.2.2.2.2.2.2.2.2.2.1).below HM.out.bel (HB.out.2.2.2.2.2.2.2.2.2.2.2.2.2.1).lt) (cells64L _ (ladV_length _ _ _ _ hr59.1 hr66.1 hr69.1 hr74.1)) (by rw [ladV_length _ _ _ _ hr59.1 hr66.1 hr69.1 hr74.1]; rfl) (ladV_one _ _ _ _) ?_
  intro wz hb9 hg9
  refine hK.out _ _ (fun k hk hne => (hg9.block k (Nat.lt_of_lt_of_le hk HM.out.size) (by intro e; injection e with e; exact hne e)).trans (HM.out.bel.block k hk)) (fun hHeld => ?_)
  clear hK K
  (try simp only [Act.put])
  refine wpAnyH_done (by kernel_rfl) ?_ _
  go_wp2_with fail
  exact bodyPost_ret (results_lad rfl _ _ (w.heap.size + 1 + 1) 41 (ladV r59 r66 r69 r74) rfl hb9 (cells64L _ (ladV_length _ _ _ _ hr59.1 hr66.1 hr69.1 hr74.1))) rfl ⟨r59, r66, r69, r74, hr59, hr66, hr69, hr74, by rw [LadF, vr59, vr66, vr69, vr74]; rfl, rfl, Below.grown ((HB.out.2.2.2.2.2.2.2.2.2.2.2.2.2.2.1).trans (HM.out.bel.mono (HB.out.2.2.2.2.2.2.2.2.2.2.2.2.2.2.1).size)) hg9 (Nat.le_trans (HB.out.2.2.2.2.2.2.2.2.2.2.2.2.2.2.1).size HM.out.size) (fun k hk => by injection hk with hk; omega)⟩
end Go.Proofs.Ytgdgecehmnokdaa
