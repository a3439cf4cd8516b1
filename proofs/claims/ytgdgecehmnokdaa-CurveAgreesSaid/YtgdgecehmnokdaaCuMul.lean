/-
  The contract of the reference's Mul: X25519.
-/
import Derived.Test.YtgdgecehmnokdaaCells32
import Derived.Test.YtgdgecehmnokdaaCuClamp
import Derived.Laws.ShiftsVarLaws
namespace Go.Proofs.Ytgdgecehmnokdaa
open Go.RowKit

def oneL : List Int := [1, 0, 0, 0, 0, 0, 0, 0, 0, 0, 0, 0, 0, 0, 0, 0]
theorem oneL_built : Try.prog.built 38 [(0, .int .i64 1)] = some (oneL.map i64v).toArray := by kernel_rfl
theorem oneL_small : Small oneL := ⟨rfl, by unfold Within; decide⟩
theorem zeroL_small : Small (List.replicate 16 0) := ⟨rfl, by unfold Within; decide⟩
theorem oneL_val : Cu.fq (Cu.valL oneL) = 1 := by decide +kernel
theorem zeroL_val : Cu.fq (Cu.valL (List.replicate 16 0)) = 0 := by decide +kernel
theorem readL_small (k : List UInt8) (h : k.length = 32) : Small (readL k) := by
  refine ⟨readL_length k h, fun x hx => ?_⟩
  rcases List.mem_or_eq_of_mem_set hx with h1 | h1
  · have := digL_within 16 k h x h1; omega
  · omega
theorem Good.sml {r : List Int} (h : Cu.Good r) : Small r := ⟨h.1, Good.small h⟩
theorem Small.fit {r : List Int} (h : Small r) : Fit r := ⟨h.1, h.2.mono (by omega)⟩
def bitV (b : Bool) : Value := .int .u8 (if b then 1 else 0)
/-- the state with the exchange that is put off -/
def LadS (b : Bool) (l : Cu.Lad) : Cu.Lad := if b then Cu.ladSwap l else l
theorem swap_swap (l : Cu.Lad) : Cu.ladSwap (Cu.ladSwap l) = l := rfl
theorem ladS_step (c u : Cu.Fq) (b bit : Bool) (l : Cu.Lad) : LadS bit (Cu.ladStep c u (if bit ≠ b then Cu.ladSwap l else l)) = Cu.ladBit c u (LadS b l) bit := by
  cases b <;> cases bit <;> rfl
theorem wpList_load_lad {ops : Array Oper} {rest : List Oper} {o : Oper} {a : Act} {w : World} {Q : Exit → Act → World → Prop} (hgd : o.guard = none) (x : Operand) (ho : o.op = .load 41 x)
    (g : Nat) (hx : a.eval x = .pointer (some ⟨g, 0, none⟩)) (t : TypeId) (cs : List Value) (hg : Blk w g t cs) (hi : (Try.prog.info? 41).map (·.size) = some cs.length)
    (h : wpList Try.prog ops Q rest (a.put o.dst (.agg cs.toArray)) w) : wpList Try.prog ops Q (o :: rest) a w :=
  wpList_plain hgd fun K hK => by
    unfold Oper.wp execOp
    simp only [ho, hx, Instr.loadAt, Instr.sureAddr, Sem.run_bind, Sem.run_pure, Result.andThen_ok, run_loadVar_row (P := Try.prog) w g t 41 cs.toArray (0, 0) _ hg Try.underlying41 rfl (by simpa using hi)]
    exact hK _ _ h
theorem ladF_swap (a b c d : List Int) : LadF c d a b = Cu.ladSwap (LadF a b c d) := rfl

set_option maxRecDepth 100000 in
set_option maxHeartbeats 8000000 in
theorem refMul_any (k u : List UInt8) (hk : k.length = 32) (hu : u.length = 32) (w : World) :
    Calls Try.prog 9 #[.agg (k.map u8v).toArray, .agg (u.map u8v).toArray] w fun e w' => e = .returned (.agg ((mulL k u).map u8v).toArray) ∧ Below w.heap.size w w' := by
  have CC := fun W : World => refClamp_any k hk W
  have CR := fun W : World => refRead_any u hu W
  have hcl : (clampL k).length = 32 := by rw [clampL_length]; exact hk
  have hx1 := readL_small u hu
  have hv1 := readL_val u hu
  have hmul : mulL k u = fqB (Cu.ladU Cu.fqC (Cu.fq (Cu.valL (readL u))) (bitsOf (clampL k))) := by rw [mulL, hv1]
  rw [hmul]
  clear hmul hv1
  generalize clampL k = cl at CC hcl ⊢
  generalize readL u = x1 at CR hx1 ⊢
  obtain ⟨ck, hck⟩ : ∃ c, (k.map u8v).toArray = c := ⟨_, rfl⟩
  obtain ⟨cu, hcu⟩ : ∃ c, (u.map u8v).toArray = c := ⟨_, rfl⟩
  obtain ⟨ccl, hccl⟩ : ∃ c, (cl.map u8v).toArray = c := ⟨_, rfl⟩
  obtain ⟨cx1, hcx1⟩ : ∃ c, (x1.map i64v).toArray = c := ⟨_, rfl⟩
  rw [hck, hccl] at CC
  rw [hcu, hcx1] at CR
  rw [hck, hcu]
  have HM := Lib.hid (show Mem w [blkE (w.heap.size + 1 + 1) 23 (aeZ 32), blkE (w.heap.size + 1) 23 (u.map u8v), blkE w.heap.size 23 (k.map u8v)] (((w.alloc (.cells ck 23)).alloc (.cells cu 23)).alloc (.cells #[.int .u8 0, .int .u8 0, .int .u8 0, .int .u8 0, .int .u8 0, .int .u8 0, .int .u8 0, .int .u8 0, .int .u8 0, .int .u8 0, .int .u8 0, .int .u8 0, .int .u8 0, .int .u8 0, .int .u8 0, .int .u8 0, .int .u8 0, .int .u8 0, .int .u8 0, .int .u8 0, .int .u8 0, .int .u8 0, .int .u8 0, .int .u8 0, .int .u8 0, .int .u8 0, .int .u8 0, .int .u8 0, .int .u8 0, .int .u8 0, .int .u8 0, .int .u8 0] 23)) from (((Mem.nil w).alloc rfl 23 ck (k.map u8v) hck.symm).alloc (by simp) 23 cu (u.map u8v) hcu.symm).alloc (by simp) 23 #[.int .u8 0, .int .u8 0, .int .u8 0, .int .u8 0, .int .u8 0, .int .u8 0, .int .u8 0, .int .u8 0, .int .u8 0, .int .u8 0, .int .u8 0, .int .u8 0, .int .u8 0, .int .u8 0, .int .u8 0, .int .u8 0, .int .u8 0, .int .u8 0, .int .u8 0, .int .u8 0, .int .u8 0, .int .u8 0, .int .u8 0, .int .u8 0, .int .u8 0, .int .u8 0, .int .u8 0, .int .u8 0, .int .u8 0, .int .u8 0, .int .u8 0, .int .u8 0] (aeZ 32) rfl)
  have HC := Lib.hid (And.intro hck hcu)
  have HX := Lib.hid (And.intro hccl hcx1)
  have HL := Lib.hid (And.intro hk (And.intro hu (And.intro hcl hx1)))
  have KC := Lib.hid CC
  have KR := Lib.hid CR
  clear hck hcu hccl hcx1 hk hu hcl hx1 CC CR
  go_enter Try.func9, Try.ntmps9
  go_upto_region 1 with fail
  generalize (((w.alloc (.cells ck 23)).alloc (.cells cu 23)).alloc (.cells #[.int .u8 0, .int .u8 0, .int .u8 0, .int .u8 0, .int .u8 0, .int .u8 0, .int .u8 0, .int .u8 0, .int .u8 0, .int .u8 0, .int .u8 0, .int .u8 0, .int .u8 0, .int .u8 0, .int .u8 0, .int .u8 0, .int .u8 0, .int .u8 0, .int .u8 0, .int .u8 0, .int .u8 0, .int .u8 0, .int .u8 0, .int .u8 0, .int .u8 0, .int .u8 0, .int .u8 0, .int .u8 0, .int .u8 0, .int .u8 0, .int .u8 0, .int .u8 0] 23)) = wb at HM ⊢
  have HB := Lib.hid (show Blk wb w.heap.size 23 (k.map u8v) ∧ Blk wb (w.heap.size + 1) 23 (u.map u8v) ∧ Blk wb (w.heap.size + 1 + 1) 23 (aeZ 32) ∧ Below w.heap.size w wb from ⟨HM.out.blk 2 rfl, HM.out.blk 1 rfl, HM.out.blk 0 rfl, HM.out.bel⟩)
  clear HM
  go_cut [5, 6] (fun p q wx => ∃ P5 P6, p = .pointer (some ⟨P5, 0, none⟩) ∧ q = .pointer (some ⟨P6, 0, none⟩) ∧ Blk wx P6 38 (x1.map i64v) ∧ Blk wx P5 23 (cl.map u8v) ∧ Blk wx (w.heap.size + 1 + 1) 23 (aeZ 32) ∧ Below w.heap.size w wx)
  case first =>
    have HM := Lib.hid (Mem.nil wb)
    refine wp_region_held_drew (S := fun W' => Mem wb [] W') (by kernel_rfl) (HM.out.drew) (fun hHeld => ?_)
    replace HM := Lib.hid HM.out.drew
    generalize wb.drew = wd1 at HM hHeld ⊢
    refine take_first (v := .agg ck) 0 rfl (by kernel_rfl) (by kernel_rfl) (by kernel_rfl) (fun _ _ _ h => h) (by rw [← HC.out.1]; exact yields_load_blk (by rfl) 23 (.tmp 2) rfl w.heap.size rfl 23 (k.map u8v) (fun w' hb => (HB.out.1).below hb.bel (HB.out.1).lt) 32 5 Try.underlying23 (cells32 k HL.out.1)) (by assumption) ?_
    (try simp only [Act.put, List.setIfInBounds_toArray, List.set_cons_zero, List.set_cons_succ])
    refine take_first (v := .agg cu) 2 rfl (by kernel_rfl) (by kernel_rfl) (by kernel_rfl) (fun _ _ _ h => h) (by rw [← HC.out.2]; exact yields_load_blk (by rfl) 23 (.tmp 3) rfl (w.heap.size + 1) rfl 23 (u.map u8v) (fun w' hb => (HB.out.2.1).below hb.bel (HB.out.2.1).lt) 32 5 Try.underlying23 (cells32 u HL.out.2.1)) (by assumption) ?_
    (try simp only [Act.put, List.setIfInBounds_toArray, List.set_cons_zero, List.set_cons_succ])
    refine step_three 1 4 5 rfl rfl rfl (by kernel_rfl) (fun K hK => ?_) (fun K hK => ?_) (fun K hK => ?_)
    · clear hHeld
      go_simp
      refine (KC.out _).mono ?_
      rintro e wy2 ⟨rfl, hb⟩
      replace HM := Lib.hid (show Mem wb [] wy2 from HM.out.below hb)
      clear hb
      go_wp2_with fail
      refine hK.out _ _ (HM.out) (fun hHeld => ?_)
      clear hK K
      (try simp only [Act.put, List.setIfInBounds_toArray, List.set_cons_zero, List.set_cons_succ])
      refine step_three 3 4 5 rfl rfl rfl (by kernel_rfl) (fun K hK => ?_) (fun K hK => ?_) (fun K hK => ?_)
      · clear hHeld
        go_simp
        refine (KR.out _).mono ?_
        rintro e wy3 ⟨rfl, hb⟩
        replace HM := Lib.hid (show Mem wb [] wy3 from HM.out.below hb)
        clear hb
        go_wp2_with fail
        refine hK.out _ _ (HM.out) (fun hHeld => ?_)
        clear hK K
        (try simp only [Act.put, List.setIfInBounds_toArray, List.set_cons_zero, List.set_cons_succ])
        refine step_two 4 5 rfl rfl (by kernel_rfl) (fun K hK => ?_) (fun K hK => ?_)
        · clear hHeld
          go_simp
          replace HM := Lib.hid (show Mem wb [blkE wy3.heap.size 23 (aeZ 32)] (wy3.alloc (.cells #[.int .u8 0, .int .u8 0, .int .u8 0, .int .u8 0, .int .u8 0, .int .u8 0, .int .u8 0, .int .u8 0, .int .u8 0, .int .u8 0, .int .u8 0, .int .u8 0, .int .u8 0, .int .u8 0, .int .u8 0, .int .u8 0, .int .u8 0, .int .u8 0, .int .u8 0, .int .u8 0, .int .u8 0, .int .u8 0, .int .u8 0, .int .u8 0, .int .u8 0, .int .u8 0, .int .u8 0, .int .u8 0, .int .u8 0, .int .u8 0, .int .u8 0, .int .u8 0] 23)) from HM.out.alloc rfl 23 #[.int .u8 0, .int .u8 0, .int .u8 0, .int .u8 0, .int .u8 0, .int .u8 0, .int .u8 0, .int .u8 0, .int .u8 0, .int .u8 0, .int .u8 0, .int .u8 0, .int .u8 0, .int .u8 0, .int .u8 0, .int .u8 0, .int .u8 0, .int .u8 0, .int .u8 0, .int .u8 0, .int .u8 0, .int .u8 0, .int .u8 0, .int .u8 0, .int .u8 0, .int .u8 0, .int .u8 0, .int .u8 0, .int .u8 0, .int .u8 0, .int .u8 0, .int .u8 0] (aeZ 32) rfl)
          generalize wy3.alloc (.cells #[.int .u8 0, .int .u8 0, .int .u8 0, .int .u8 0, .int .u8 0, .int .u8 0, .int .u8 0, .int .u8 0, .int .u8 0, .int .u8 0, .int .u8 0, .int .u8 0, .int .u8 0, .int .u8 0, .int .u8 0, .int .u8 0, .int .u8 0, .int .u8 0, .int .u8 0, .int .u8 0, .int .u8 0, .int .u8 0, .int .u8 0, .int .u8 0, .int .u8 0, .int .u8 0, .int .u8 0, .int .u8 0, .int .u8 0, .int .u8 0, .int .u8 0, .int .u8 0] 23) = wy4 at HM ⊢
          generalize wy3.heap.size = P5 at HM ⊢
          refine hK.out _ _ ((HM.out.erase 0)) (fun hHeld => ?_)
          clear hK K
          (try simp only [Act.put, List.setIfInBounds_toArray, List.set_cons_zero, List.set_cons_succ])
          refine step_one 5 rfl (by kernel_rfl) (fun K hK => ?_)
          clear hHeld
          go_simp
          replace HM := Lib.hid (show Mem wb [blkE wy4.heap.size 38 (zd 16), blkE P5 23 (aeZ 32)] (wy4.alloc (.cells cuZ16 38)) from HM.out.alloc rfl 38 cuZ16 (zd 16) rfl)
          generalize wy4.alloc (.cells cuZ16 38) = wy5 at HM ⊢
          generalize wy4.heap.size = P6 at HM ⊢
          refine hK.out _ _ (((HM.out.erase 0).erase 0)) (fun hHeld => ?_)
          clear hK K
          (try simp only [Act.put, List.setIfInBounds_toArray, List.set_cons_zero, List.set_cons_succ])
          refine step_one 6 rfl (by kernel_rfl) (fun K hK => ?_)
          clear hHeld
          refine step_store_blk _ rfl 23 (.tmp 5) (.tmp 12) rfl P5 (cl.map u8v) rfl (by show Value.agg ccl = _; rw [HX.out.1]) 23 (aeZ 32) (HM.out.blk 1 rfl) (cells32 cl HL.out.2.2.1) (by rw [List.length_map, HL.out.2.2.1]; rfl) (by intro v hv; obtain ⟨_, _, rfl⟩ := List.mem_map.1 hv; rfl) ?_
          intro wy6 hb hg
          replace HM := Lib.hid (show Mem wb [blkE P6 38 (zd 16), blkE P5 23 (cl.map u8v)] wy6 from HM.out.put 1 rfl _ hg hb)
          clear hb hg
          refine hK.out _ _ (((HM.out.erase 0).erase 0)) (fun hHeld => ?_)
          clear hK K
          (try simp only [Act.put])
          refine step_one 7 rfl (by kernel_rfl) (fun K hK => ?_)
          clear hHeld
          refine step_store_blk _ rfl 38 (.tmp 6) (.tmp 14) rfl P6 (x1.map i64v) rfl (by show Value.agg cx1 = _; rw [HX.out.2]) 38 (zd 16) (HM.out.blk 0 rfl) (cu_cells x1 HL.out.2.2.2.1) (by rw [List.length_map, HL.out.2.2.2.1]; rfl) (by intro v hv; obtain ⟨_, _, rfl⟩ := List.mem_map.1 hv; rfl) ?_
          intro wy7 hb hg
          replace HM := Lib.hid (show Mem wb [blkE P6 38 (x1.map i64v), blkE P5 23 (cl.map u8v)] wy7 from HM.out.put 0 rfl _ hg hb)
          clear hb hg
          refine hK.out _ _ (((HM.out.erase 0).erase 0)) (fun hHeld => ?_)
          clear hK K
          (try simp only [Act.put])
          refine wpAnyH_done (by kernel_rfl) ?_ _
          go_wp2_with fail
          go_meet
          exact ⟨P5, P6, rfl, rfl, HM.out.blk 0 rfl, HM.out.blk 1 rfl, HB.out.2.2.1.below HM.out.bel HB.out.2.2.1.lt, HB.out.2.2.2.trans (HM.out.bel.mono HB.out.2.2.2.size)⟩
        · clear hHeld
          go_simp
          replace HM := Lib.hid (show Mem wb [blkE wy3.heap.size 38 (zd 16)] (wy3.alloc (.cells cuZ16 38)) from HM.out.alloc rfl 38 cuZ16 (zd 16) rfl)
          generalize wy3.alloc (.cells cuZ16 38) = wy4 at HM ⊢
          generalize wy3.heap.size = P6 at HM ⊢
          refine hK.out _ _ ((HM.out.erase 0)) (fun hHeld => ?_)
          clear hK K
          (try simp only [Act.put, List.setIfInBounds_toArray, List.set_cons_zero, List.set_cons_succ])
          refine step_one 4 rfl (by kernel_rfl) (fun K hK => ?_)
          clear hHeld
          go_simp
          replace HM := Lib.hid (show Mem wb [blkE wy4.heap.size 23 (aeZ 32), blkE P6 38 (zd 16)] (wy4.alloc (.cells #[.int .u8 0, .int .u8 0, .int .u8 0, .int .u8 0, .int .u8 0, .int .u8 0, .int .u8 0, .int .u8 0, .int .u8 0, .int .u8 0, .int .u8 0, .int .u8 0, .int .u8 0, .int .u8 0, .int .u8 0, .int .u8 0, .int .u8 0, .int .u8 0, .int .u8 0, .int .u8 0, .int .u8 0, .int .u8 0, .int .u8 0, .int .u8 0, .int .u8 0, .int .u8 0, .int .u8 0, .int .u8 0, .int .u8 0, .int .u8 0, .int .u8 0, .int .u8 0] 23)) from HM.out.alloc rfl 23 #[.int .u8 0, .int .u8 0, .int .u8 0, .int .u8 0, .int .u8 0, .int .u8 0, .int .u8 0, .int .u8 0, .int .u8 0, .int .u8 0, .int .u8 0, .int .u8 0, .int .u8 0, .int .u8 0, .int .u8 0, .int .u8 0, .int .u8 0, .int .u8 0, .int .u8 0, .int .u8 0, .int .u8 0, .int .u8 0, .int .u8 0, .int .u8 0, .int .u8 0, .int .u8 0, .int .u8 0, .int .u8 0, .int .u8 0, .int .u8 0, .int .u8 0, .int .u8 0] (aeZ 32) rfl)
          generalize wy4.alloc (.cells #[.int .u8 0, .int .u8 0, .int .u8 0, .int .u8 0, .int .u8 0, .int .u8 0, .int .u8 0, .int .u8 0, .int .u8 0, .int .u8 0, .int .u8 0, .int .u8 0, .int .u8 0, .int .u8 0, .int .u8 0, .int .u8 0, .int .u8 0, .int .u8 0, .int .u8 0, .int .u8 0, .int .u8 0, .int .u8 0, .int .u8 0, .int .u8 0, .int .u8 0, .int .u8 0, .int .u8 0, .int .u8 0, .int .u8 0, .int .u8 0, .int .u8 0, .int .u8 0] 23) = wy5 at HM ⊢
          generalize wy4.heap.size = P5 at HM ⊢
          refine hK.out _ _ (((HM.out.erase 0).erase 0)) (fun hHeld => ?_)
          clear hK K
          (try simp only [Act.put, List.setIfInBounds_toArray, List.set_cons_zero, List.set_cons_succ])
          refine step_one 6 rfl (by kernel_rfl) (fun K hK => ?_)
          clear hHeld
          refine step_store_blk _ rfl 23 (.tmp 5) (.tmp 12) rfl P5 (cl.map u8v) rfl (by show Value.agg ccl = _; rw [HX.out.1]) 23 (aeZ 32) (HM.out.blk 0 rfl) (cells32 cl HL.out.2.2.1) (by rw [List.length_map, HL.out.2.2.1]; rfl) (by intro v hv; obtain ⟨_, _, rfl⟩ := List.mem_map.1 hv; rfl) ?_
          intro wy6 hb hg
          replace HM := Lib.hid (show Mem wb [blkE P5 23 (cl.map u8v), blkE P6 38 (zd 16)] wy6 from HM.out.put 0 rfl _ hg hb)
          clear hb hg
          refine hK.out _ _ (((HM.out.erase 0).erase 0)) (fun hHeld => ?_)
          clear hK K
          (try simp only [Act.put])
          refine step_one 7 rfl (by kernel_rfl) (fun K hK => ?_)
          clear hHeld
          refine step_store_blk _ rfl 38 (.tmp 6) (.tmp 14) rfl P6 (x1.map i64v) rfl (by show Value.agg cx1 = _; rw [HX.out.2]) 38 (zd 16) (HM.out.blk 1 rfl) (cu_cells x1 HL.out.2.2.2.1) (by rw [List.length_map, HL.out.2.2.2.1]; rfl) (by intro v hv; obtain ⟨_, _, rfl⟩ := List.mem_map.1 hv; rfl) ?_
          intro wy7 hb hg
          replace HM := Lib.hid (show Mem wb [blkE P5 23 (cl.map u8v), blkE P6 38 (x1.map i64v)] wy7 from HM.out.put 1 rfl _ hg hb)
          clear hb hg
          refine hK.out _ _ (((HM.out.erase 0).erase 0)) (fun hHeld => ?_)
          clear hK K
          (try simp only [Act.put])
          refine wpAnyH_done (by kernel_rfl) ?_ _
          go_wp2_with fail
          go_meet
          exact ⟨P5, P6, rfl, rfl, HM.out.blk 1 rfl, HM.out.blk 0 rfl, HB.out.2.2.1.below HM.out.bel HB.out.2.2.1.lt, HB.out.2.2.2.trans (HM.out.bel.mono HB.out.2.2.2.size)⟩
      · clear hHeld
        go_simp
        replace HM := Lib.hid (show Mem wb [blkE wy2.heap.size 23 (aeZ 32)] (wy2.alloc (.cells #[.int .u8 0, .int .u8 0, .int .u8 0, .int .u8 0, .int .u8 0, .int .u8 0, .int .u8 0, .int .u8 0, .int .u8 0, .int .u8 0, .int .u8 0, .int .u8 0, .int .u8 0, .int .u8 0, .int .u8 0, .int .u8 0, .int .u8 0, .int .u8 0, .int .u8 0, .int .u8 0, .int .u8 0, .int .u8 0, .int .u8 0, .int .u8 0, .int .u8 0, .int .u8 0, .int .u8 0, .int .u8 0, .int .u8 0, .int .u8 0, .int .u8 0, .int .u8 0] 23)) from HM.out.alloc rfl 23 #[.int .u8 0, .int .u8 0, .int .u8 0, .int .u8 0, .int .u8 0, .int .u8 0, .int .u8 0, .int .u8 0, .int .u8 0, .int .u8 0, .int .u8 0, .int .u8 0, .int .u8 0, .int .u8 0, .int .u8 0, .int .u8 0, .int .u8 0, .int .u8 0, .int .u8 0, .int .u8 0, .int .u8 0, .int .u8 0, .int .u8 0, .int .u8 0, .int .u8 0, .int .u8 0, .int .u8 0, .int .u8 0, .int .u8 0, .int .u8 0, .int .u8 0, .int .u8 0] (aeZ 32) rfl)
        generalize wy2.alloc (.cells #[.int .u8 0, .int .u8 0, .int .u8 0, .int .u8 0, .int .u8 0, .int .u8 0, .int .u8 0, .int .u8 0, .int .u8 0, .int .u8 0, .int .u8 0, .int .u8 0, .int .u8 0, .int .u8 0, .int .u8 0, .int .u8 0, .int .u8 0, .int .u8 0, .int .u8 0, .int .u8 0, .int .u8 0, .int .u8 0, .int .u8 0, .int .u8 0, .int .u8 0, .int .u8 0, .int .u8 0, .int .u8 0, .int .u8 0, .int .u8 0, .int .u8 0, .int .u8 0] 23) = wy3 at HM ⊢
        generalize wy2.heap.size = P5 at HM ⊢
        refine hK.out _ _ ((HM.out.erase 0)) (fun hHeld => ?_)
        clear hK K
        (try simp only [Act.put, List.setIfInBounds_toArray, List.set_cons_zero, List.set_cons_succ])
        refine step_two 3 5 rfl rfl (by kernel_rfl) (fun K hK => ?_) (fun K hK => ?_)
        · clear hHeld
          go_simp
          refine (KR.out _).mono ?_
          rintro e wy4 ⟨rfl, hb⟩
          replace HM := Lib.hid (show Mem wb [blkE P5 23 (aeZ 32)] wy4 from HM.out.below hb)
          clear hb
          go_wp2_with fail
          refine hK.out _ _ ((HM.out.erase 0)) (fun hHeld => ?_)
          clear hK K
          (try simp only [Act.put, List.setIfInBounds_toArray, List.set_cons_zero, List.set_cons_succ])
          refine step_one 5 rfl (by kernel_rfl) (fun K hK => ?_)
          clear hHeld
          go_simp
          replace HM := Lib.hid (show Mem wb [blkE wy4.heap.size 38 (zd 16), blkE P5 23 (aeZ 32)] (wy4.alloc (.cells cuZ16 38)) from HM.out.alloc rfl 38 cuZ16 (zd 16) rfl)
          generalize wy4.alloc (.cells cuZ16 38) = wy5 at HM ⊢
          generalize wy4.heap.size = P6 at HM ⊢
          refine hK.out _ _ (((HM.out.erase 0).erase 0)) (fun hHeld => ?_)
          clear hK K
          (try simp only [Act.put, List.setIfInBounds_toArray, List.set_cons_zero, List.set_cons_succ])
          refine step_one 6 rfl (by kernel_rfl) (fun K hK => ?_)
          clear hHeld
          refine step_store_blk _ rfl 23 (.tmp 5) (.tmp 12) rfl P5 (cl.map u8v) rfl (by show Value.agg ccl = _; rw [HX.out.1]) 23 (aeZ 32) (HM.out.blk 1 rfl) (cells32 cl HL.out.2.2.1) (by rw [List.length_map, HL.out.2.2.1]; rfl) (by intro v hv; obtain ⟨_, _, rfl⟩ := List.mem_map.1 hv; rfl) ?_
          intro wy6 hb hg
          replace HM := Lib.hid (show Mem wb [blkE P6 38 (zd 16), blkE P5 23 (cl.map u8v)] wy6 from HM.out.put 1 rfl _ hg hb)
          clear hb hg
          refine hK.out _ _ (((HM.out.erase 0).erase 0)) (fun hHeld => ?_)
          clear hK K
          (try simp only [Act.put])
          refine step_one 7 rfl (by kernel_rfl) (fun K hK => ?_)
          clear hHeld
          refine step_store_blk _ rfl 38 (.tmp 6) (.tmp 14) rfl P6 (x1.map i64v) rfl (by show Value.agg cx1 = _; rw [HX.out.2]) 38 (zd 16) (HM.out.blk 0 rfl) (cu_cells x1 HL.out.2.2.2.1) (by rw [List.length_map, HL.out.2.2.2.1]; rfl) (by intro v hv; obtain ⟨_, _, rfl⟩ := List.mem_map.1 hv; rfl) ?_
          intro wy7 hb hg
          replace HM := Lib.hid (show Mem wb [blkE P6 38 (x1.map i64v), blkE P5 23 (cl.map u8v)] wy7 from HM.out.put 0 rfl _ hg hb)
          clear hb hg
          refine hK.out _ _ (((HM.out.erase 0).erase 0)) (fun hHeld => ?_)
          clear hK K
          (try simp only [Act.put])
          refine wpAnyH_done (by kernel_rfl) ?_ _
          go_wp2_with fail
          go_meet
          exact ⟨P5, P6, rfl, rfl, HM.out.blk 0 rfl, HM.out.blk 1 rfl, HB.out.2.2.1.below HM.out.bel HB.out.2.2.1.lt, HB.out.2.2.2.trans (HM.out.bel.mono HB.out.2.2.2.size)⟩
        · clear hHeld
          go_simp
          replace HM := Lib.hid (show Mem wb [blkE wy3.heap.size 38 (zd 16), blkE P5 23 (aeZ 32)] (wy3.alloc (.cells cuZ16 38)) from HM.out.alloc rfl 38 cuZ16 (zd 16) rfl)
          generalize wy3.alloc (.cells cuZ16 38) = wy4 at HM ⊢
          generalize wy3.heap.size = P6 at HM ⊢
          refine hK.out _ _ (((HM.out.erase 0).erase 0)) (fun hHeld => ?_)
          clear hK K
          (try simp only [Act.put, List.setIfInBounds_toArray, List.set_cons_zero, List.set_cons_succ])
          refine step_one 3 rfl (by kernel_rfl) (fun K hK => ?_)
          clear hHeld
          go_simp
          refine (KR.out _).mono ?_
          rintro e wy5 ⟨rfl, hb⟩
          replace HM := Lib.hid (show Mem wb [blkE P6 38 (zd 16), blkE P5 23 (aeZ 32)] wy5 from HM.out.below hb)
          clear hb
          go_wp2_with fail
          refine hK.out _ _ (((HM.out.erase 0).erase 0)) (fun hHeld => ?_)
          clear hK K
          (try simp only [Act.put, List.setIfInBounds_toArray, List.set_cons_zero, List.set_cons_succ])
          refine step_one 6 rfl (by kernel_rfl) (fun K hK => ?_)
          clear hHeld
          refine step_store_blk _ rfl 23 (.tmp 5) (.tmp 12) rfl P5 (cl.map u8v) rfl (by show Value.agg ccl = _; rw [HX.out.1]) 23 (aeZ 32) (HM.out.blk 1 rfl) (cells32 cl HL.out.2.2.1) (by rw [List.length_map, HL.out.2.2.1]; rfl) (by intro v hv; obtain ⟨_, _, rfl⟩ := List.mem_map.1 hv; rfl) ?_
          intro wy6 hb hg
          replace HM := Lib.hid (show Mem wb [blkE P6 38 (zd 16), blkE P5 23 (cl.map u8v)] wy6 from HM.out.put 1 rfl _ hg hb)
          clear hb hg
          refine hK.out _ _ (((HM.out.erase 0).erase 0)) (fun hHeld => ?_)
          clear hK K
          (try simp only [Act.put])
          refine step_one 7 rfl (by kernel_rfl) (fun K hK => ?_)
          clear hHeld
          refine step_store_blk _ rfl 38 (.tmp 6) (.tmp 14) rfl P6 (x1.map i64v) rfl (by show Value.agg cx1 = _; rw [HX.out.2]) 38 (zd 16) (HM.out.blk 0 rfl) (cu_cells x1 HL.out.2.2.2.1) (by rw [List.length_map, HL.out.2.2.2.1]; rfl) (by intro v hv; obtain ⟨_, _, rfl⟩ := List.mem_map.1 hv; rfl) ?_
          intro wy7 hb hg
          replace HM := Lib.hid (show Mem wb [blkE P6 38 (x1.map i64v), blkE P5 23 (cl.map u8v)] wy7 from HM.out.put 0 rfl _ hg hb)
          clear hb hg
          refine hK.out _ _ (((HM.out.erase 0).erase 0)) (fun hHeld => ?_)
          clear hK K
          (try simp only [Act.put])
          refine wpAnyH_done (by kernel_rfl) ?_ _
          go_wp2_with fail
          go_meet
          exact ⟨P5, P6, rfl, rfl, HM.out.blk 0 rfl, HM.out.blk 1 rfl, HB.out.2.2.1.below HM.out.bel HB.out.2.2.1.lt, HB.out.2.2.2.trans (HM.out.bel.mono HB.out.2.2.2.size)⟩
      · clear hHeld
        go_simp
        replace HM := Lib.hid (show Mem wb [blkE wy2.heap.size 38 (zd 16)] (wy2.alloc (.cells cuZ16 38)) from HM.out.alloc rfl 38 cuZ16 (zd 16) rfl)
        generalize wy2.alloc (.cells cuZ16 38) = wy3 at HM ⊢
        generalize wy2.heap.size = P6 at HM ⊢
        refine hK.out _ _ ((HM.out.erase 0)) (fun hHeld => ?_)
        clear hK K
        (try simp only [Act.put, List.setIfInBounds_toArray, List.set_cons_zero, List.set_cons_succ])
        refine step_two 3 4 rfl rfl (by kernel_rfl) (fun K hK => ?_) (fun K hK => ?_)
        · clear hHeld
          go_simp
          refine (KR.out _).mono ?_
          rintro e wy4 ⟨rfl, hb⟩
          replace HM := Lib.hid (show Mem wb [blkE P6 38 (zd 16)] wy4 from HM.out.below hb)
          clear hb
          go_wp2_with fail
          refine hK.out _ _ ((HM.out.erase 0)) (fun hHeld => ?_)
          clear hK K
          (try simp only [Act.put, List.setIfInBounds_toArray, List.set_cons_zero, List.set_cons_succ])
          refine step_one 4 rfl (by kernel_rfl) (fun K hK => ?_)
          clear hHeld
          go_simp
          replace HM := Lib.hid (show Mem wb [blkE wy4.heap.size 23 (aeZ 32), blkE P6 38 (zd 16)] (wy4.alloc (.cells #[.int .u8 0, .int .u8 0, .int .u8 0, .int .u8 0, .int .u8 0, .int .u8 0, .int .u8 0, .int .u8 0, .int .u8 0, .int .u8 0, .int .u8 0, .int .u8 0, .int .u8 0, .int .u8 0, .int .u8 0, .int .u8 0, .int .u8 0, .int .u8 0, .int .u8 0, .int .u8 0, .int .u8 0, .int .u8 0, .int .u8 0, .int .u8 0, .int .u8 0, .int .u8 0, .int .u8 0, .int .u8 0, .int .u8 0, .int .u8 0, .int .u8 0, .int .u8 0] 23)) from HM.out.alloc rfl 23 #[.int .u8 0, .int .u8 0, .int .u8 0, .int .u8 0, .int .u8 0, .int .u8 0, .int .u8 0, .int .u8 0, .int .u8 0, .int .u8 0, .int .u8 0, .int .u8 0, .int .u8 0, .int .u8 0, .int .u8 0, .int .u8 0, .int .u8 0, .int .u8 0, .int .u8 0, .int .u8 0, .int .u8 0, .int .u8 0, .int .u8 0, .int .u8 0, .int .u8 0, .int .u8 0, .int .u8 0, .int .u8 0, .int .u8 0, .int .u8 0, .int .u8 0, .int .u8 0] (aeZ 32) rfl)
          generalize wy4.alloc (.cells #[.int .u8 0, .int .u8 0, .int .u8 0, .int .u8 0, .int .u8 0, .int .u8 0, .int .u8 0, .int .u8 0, .int .u8 0, .int .u8 0, .int .u8 0, .int .u8 0, .int .u8 0, .int .u8 0, .int .u8 0, .int .u8 0, .int .u8 0, .int .u8 0, .int .u8 0, .int .u8 0, .int .u8 0, .int .u8 0, .int .u8 0, .int .u8 0, .int .u8 0, .int .u8 0, .int .u8 0, .int .u8 0, .int .u8 0, .int .u8 0, .int .u8 0, .int .u8 0] 23) = wy5 at HM ⊢
          generalize wy4.heap.size = P5 at HM ⊢
          refine hK.out _ _ (((HM.out.erase 0).erase 0)) (fun hHeld => ?_)
          clear hK K
          (try simp only [Act.put, List.setIfInBounds_toArray, List.set_cons_zero, List.set_cons_succ])
          refine step_one 6 rfl (by kernel_rfl) (fun K hK => ?_)
          clear hHeld
          refine step_store_blk _ rfl 23 (.tmp 5) (.tmp 12) rfl P5 (cl.map u8v) rfl (by show Value.agg ccl = _; rw [HX.out.1]) 23 (aeZ 32) (HM.out.blk 0 rfl) (cells32 cl HL.out.2.2.1) (by rw [List.length_map, HL.out.2.2.1]; rfl) (by intro v hv; obtain ⟨_, _, rfl⟩ := List.mem_map.1 hv; rfl) ?_
          intro wy6 hb hg
          replace HM := Lib.hid (show Mem wb [blkE P5 23 (cl.map u8v), blkE P6 38 (zd 16)] wy6 from HM.out.put 0 rfl _ hg hb)
          clear hb hg
          refine hK.out _ _ (((HM.out.erase 0).erase 0)) (fun hHeld => ?_)
          clear hK K
          (try simp only [Act.put])
          refine step_one 7 rfl (by kernel_rfl) (fun K hK => ?_)
          clear hHeld
          refine step_store_blk _ rfl 38 (.tmp 6) (.tmp 14) rfl P6 (x1.map i64v) rfl (by show Value.agg cx1 = _; rw [HX.out.2]) 38 (zd 16) (HM.out.blk 1 rfl) (cu_cells x1 HL.out.2.2.2.1) (by rw [List.length_map, HL.out.2.2.2.1]; rfl) (by intro v hv; obtain ⟨_, _, rfl⟩ := List.mem_map.1 hv; rfl) ?_
          intro wy7 hb hg
          replace HM := Lib.hid (show Mem wb [blkE P5 23 (cl.map u8v), blkE P6 38 (x1.map i64v)] wy7 from HM.out.put 1 rfl _ hg hb)
          clear hb hg
          refine hK.out _ _ (((HM.out.erase 0).erase 0)) (fun hHeld => ?_)
          clear hK K
          (try simp only [Act.put])
          refine wpAnyH_done (by kernel_rfl) ?_ _
          go_wp2_with fail
          go_meet
          exact ⟨P5, P6, rfl, rfl, HM.out.blk 1 rfl, HM.out.blk 0 rfl, HB.out.2.2.1.below HM.out.bel HB.out.2.2.1.lt, HB.out.2.2.2.trans (HM.out.bel.mono HB.out.2.2.2.size)⟩
        · clear hHeld
          go_simp
          replace HM := Lib.hid (show Mem wb [blkE wy3.heap.size 23 (aeZ 32), blkE P6 38 (zd 16)] (wy3.alloc (.cells #[.int .u8 0, .int .u8 0, .int .u8 0, .int .u8 0, .int .u8 0, .int .u8 0, .int .u8 0, .int .u8 0, .int .u8 0, .int .u8 0, .int .u8 0, .int .u8 0, .int .u8 0, .int .u8 0, .int .u8 0, .int .u8 0, .int .u8 0, .int .u8 0, .int .u8 0, .int .u8 0, .int .u8 0, .int .u8 0, .int .u8 0, .int .u8 0, .int .u8 0, .int .u8 0, .int .u8 0, .int .u8 0, .int .u8 0, .int .u8 0, .int .u8 0, .int .u8 0] 23)) from HM.out.alloc rfl 23 #[.int .u8 0, .int .u8 0, .int .u8 0, .int .u8 0, .int .u8 0, .int .u8 0, .int .u8 0, .int .u8 0, .int .u8 0, .int .u8 0, .int .u8 0, .int .u8 0, .int .u8 0, .int .u8 0, .int .u8 0, .int .u8 0, .int .u8 0, .int .u8 0, .int .u8 0, .int .u8 0, .int .u8 0, .int .u8 0, .int .u8 0, .int .u8 0, .int .u8 0, .int .u8 0, .int .u8 0, .int .u8 0, .int .u8 0, .int .u8 0, .int .u8 0, .int .u8 0] (aeZ 32) rfl)
          generalize wy3.alloc (.cells #[.int .u8 0, .int .u8 0, .int .u8 0, .int .u8 0, .int .u8 0, .int .u8 0, .int .u8 0, .int .u8 0, .int .u8 0, .int .u8 0, .int .u8 0, .int .u8 0, .int .u8 0, .int .u8 0, .int .u8 0, .int .u8 0, .int .u8 0, .int .u8 0, .int .u8 0, .int .u8 0, .int .u8 0, .int .u8 0, .int .u8 0, .int .u8 0, .int .u8 0, .int .u8 0, .int .u8 0, .int .u8 0, .int .u8 0, .int .u8 0, .int .u8 0, .int .u8 0] 23) = wy4 at HM ⊢
          generalize wy3.heap.size = P5 at HM ⊢
          refine hK.out _ _ (((HM.out.erase 0).erase 0)) (fun hHeld => ?_)
          clear hK K
          (try simp only [Act.put, List.setIfInBounds_toArray, List.set_cons_zero, List.set_cons_succ])
          refine step_one 3 rfl (by kernel_rfl) (fun K hK => ?_)
          clear hHeld
          go_simp
          refine (KR.out _).mono ?_
          rintro e wy5 ⟨rfl, hb⟩
          replace HM := Lib.hid (show Mem wb [blkE P5 23 (aeZ 32), blkE P6 38 (zd 16)] wy5 from HM.out.below hb)
          clear hb
          go_wp2_with fail
          refine hK.out _ _ (((HM.out.erase 0).erase 0)) (fun hHeld => ?_)
          clear hK K
          (try simp only [Act.put, List.setIfInBounds_toArray, List.set_cons_zero, List.set_cons_succ])
          refine step_one 6 rfl (by kernel_rfl) (fun K hK => ?_)
          clear hHeld
          refine step_store_blk _ rfl 23 (.tmp 5) (.tmp 12) rfl P5 (cl.map u8v) rfl (by show Value.agg ccl = _; rw [HX.out.1]) 23 (aeZ 32) (HM.out.blk 0 rfl) (cells32 cl HL.out.2.2.1) (by rw [List.length_map, HL.out.2.2.1]; rfl) (by intro v hv; obtain ⟨_, _, rfl⟩ := List.mem_map.1 hv; rfl) ?_
          intro wy6 hb hg
          replace HM := Lib.hid (show Mem wb [blkE P5 23 (cl.map u8v), blkE P6 38 (zd 16)] wy6 from HM.out.put 0 rfl _ hg hb)
          clear hb hg
          refine hK.out _ _ (((HM.out.erase 0).erase 0)) (fun hHeld => ?_)
          clear hK K
          (try simp only [Act.put])
          refine step_one 7 rfl (by kernel_rfl) (fun K hK => ?_)
          clear hHeld
          refine step_store_blk _ rfl 38 (.tmp 6) (.tmp 14) rfl P6 (x1.map i64v) rfl (by show Value.agg cx1 = _; rw [HX.out.2]) 38 (zd 16) (HM.out.blk 1 rfl) (cu_cells x1 HL.out.2.2.2.1) (by rw [List.length_map, HL.out.2.2.2.1]; rfl) (by intro v hv; obtain ⟨_, _, rfl⟩ := List.mem_map.1 hv; rfl) ?_
          intro wy7 hb hg
          replace HM := Lib.hid (show Mem wb [blkE P5 23 (cl.map u8v), blkE P6 38 (x1.map i64v)] wy7 from HM.out.put 1 rfl _ hg hb)
          clear hb hg
          refine hK.out _ _ (((HM.out.erase 0).erase 0)) (fun hHeld => ?_)
          clear hK K
          (try simp only [Act.put])
          refine wpAnyH_done (by kernel_rfl) ?_ _
          go_wp2_with fail
          go_meet
          exact ⟨P5, P6, rfl, rfl, HM.out.blk 1 rfl, HM.out.blk 0 rfl, HB.out.2.2.1.below HM.out.bel HB.out.2.2.1.lt, HB.out.2.2.2.trans (HM.out.bel.mono HB.out.2.2.2.size)⟩
    · clear hHeld
      go_simp
      replace HM := Lib.hid (show Mem wb [blkE wd1.heap.size 23 (aeZ 32)] (wd1.alloc (.cells #[.int .u8 0, .int .u8 0, .int .u8 0, .int .u8 0, .int .u8 0, .int .u8 0, .int .u8 0, .int .u8 0, .int .u8 0, .int .u8 0, .int .u8 0, .int .u8 0, .int .u8 0, .int .u8 0, .int .u8 0, .int .u8 0, .int .u8 0, .int .u8 0, .int .u8 0, .int .u8 0, .int .u8 0, .int .u8 0, .int .u8 0, .int .u8 0, .int .u8 0, .int .u8 0, .int .u8 0, .int .u8 0, .int .u8 0, .int .u8 0, .int .u8 0, .int .u8 0] 23)) from HM.out.alloc rfl 23 #[.int .u8 0, .int .u8 0, .int .u8 0, .int .u8 0, .int .u8 0, .int .u8 0, .int .u8 0, .int .u8 0, .int .u8 0, .int .u8 0, .int .u8 0, .int .u8 0, .int .u8 0, .int .u8 0, .int .u8 0, .int .u8 0, .int .u8 0, .int .u8 0, .int .u8 0, .int .u8 0, .int .u8 0, .int .u8 0, .int .u8 0, .int .u8 0, .int .u8 0, .int .u8 0, .int .u8 0, .int .u8 0, .int .u8 0, .int .u8 0, .int .u8 0, .int .u8 0] (aeZ 32) rfl)
      generalize wd1.alloc (.cells #[.int .u8 0, .int .u8 0, .int .u8 0, .int .u8 0, .int .u8 0, .int .u8 0, .int .u8 0, .int .u8 0, .int .u8 0, .int .u8 0, .int .u8 0, .int .u8 0, .int .u8 0, .int .u8 0, .int .u8 0, .int .u8 0, .int .u8 0, .int .u8 0, .int .u8 0, .int .u8 0, .int .u8 0, .int .u8 0, .int .u8 0, .int .u8 0, .int .u8 0, .int .u8 0, .int .u8 0, .int .u8 0, .int .u8 0, .int .u8 0, .int .u8 0, .int .u8 0] 23) = wy2 at HM ⊢
      generalize wd1.heap.size = P5 at HM ⊢
      refine hK.out _ _ ((HM.out.erase 0)) (fun hHeld => ?_)
      clear hK K
      (try simp only [Act.put, List.setIfInBounds_toArray, List.set_cons_zero, List.set_cons_succ])
      refine step_two 1 5 rfl rfl (by kernel_rfl) (fun K hK => ?_) (fun K hK => ?_)
      · clear hHeld
        go_simp
        refine (KC.out _).mono ?_
        rintro e wy3 ⟨rfl, hb⟩
        replace HM := Lib.hid (show Mem wb [blkE P5 23 (aeZ 32)] wy3 from HM.out.below hb)
        clear hb
        go_wp2_with fail
        refine hK.out _ _ ((HM.out.erase 0)) (fun hHeld => ?_)
        clear hK K
        (try simp only [Act.put, List.setIfInBounds_toArray, List.set_cons_zero, List.set_cons_succ])
        refine step_two 3 5 rfl rfl (by kernel_rfl) (fun K hK => ?_) (fun K hK => ?_)
        · clear hHeld
          go_simp
          refine (KR.out _).mono ?_
          rintro e wy4 ⟨rfl, hb⟩
          replace HM := Lib.hid (show Mem wb [blkE P5 23 (aeZ 32)] wy4 from HM.out.below hb)
          clear hb
          go_wp2_with fail
          refine hK.out _ _ ((HM.out.erase 0)) (fun hHeld => ?_)
          clear hK K
          (try simp only [Act.put, List.setIfInBounds_toArray, List.set_cons_zero, List.set_cons_succ])
          refine step_one 5 rfl (by kernel_rfl) (fun K hK => ?_)
          clear hHeld
          go_simp
          replace HM := Lib.hid (show Mem wb [blkE wy4.heap.size 38 (zd 16), blkE P5 23 (aeZ 32)] (wy4.alloc (.cells cuZ16 38)) from HM.out.alloc rfl 38 cuZ16 (zd 16) rfl)
          generalize wy4.alloc (.cells cuZ16 38) = wy5 at HM ⊢
          generalize wy4.heap.size = P6 at HM ⊢
          refine hK.out _ _ (((HM.out.erase 0).erase 0)) (fun hHeld => ?_)
          clear hK K
          (try simp only [Act.put, List.setIfInBounds_toArray, List.set_cons_zero, List.set_cons_succ])
          refine step_one 6 rfl (by kernel_rfl) (fun K hK => ?_)
          clear hHeld
          refine step_store_blk _ rfl 23 (.tmp 5) (.tmp 12) rfl P5 (cl.map u8v) rfl (by show Value.agg ccl = _; rw [HX.out.1]) 23 (aeZ 32) (HM.out.blk 1 rfl) (cells32 cl HL.out.2.2.1) (by rw [List.length_map, HL.out.2.2.1]; rfl) (by intro v hv; obtain ⟨_, _, rfl⟩ := List.mem_map.1 hv; rfl) ?_
          intro wy6 hb hg
          replace HM := Lib.hid (show Mem wb [blkE P6 38 (zd 16), blkE P5 23 (cl.map u8v)] wy6 from HM.out.put 1 rfl _ hg hb)
          clear hb hg
          refine hK.out _ _ (((HM.out.erase 0).erase 0)) (fun hHeld => ?_)
          clear hK K
          (try simp only [Act.put])
          refine step_one 7 rfl (by kernel_rfl) (fun K hK => ?_)
          clear hHeld
          refine step_store_blk _ rfl 38 (.tmp 6) (.tmp 14) rfl P6 (x1.map i64v) rfl (by show Value.agg cx1 = _; rw [HX.out.2]) 38 (zd 16) (HM.out.blk 0 rfl) (cu_cells x1 HL.out.2.2.2.1) (by rw [List.length_map, HL.out.2.2.2.1]; rfl) (by intro v hv; obtain ⟨_, _, rfl⟩ := List.mem_map.1 hv; rfl) ?_
          intro wy7 hb hg
          replace HM := Lib.hid (show Mem wb [blkE P6 38 (x1.map i64v), blkE P5 23 (cl.map u8v)] wy7 from HM.out.put 0 rfl _ hg hb)
          clear hb hg
          refine hK.out _ _ (((HM.out.erase 0).erase 0)) (fun hHeld => ?_)
          clear hK K
          (try simp only [Act.put])
          refine wpAnyH_done (by kernel_rfl) ?_ _
          go_wp2_with fail
          go_meet
          exact ⟨P5, P6, rfl, rfl, HM.out.blk 0 rfl, HM.out.blk 1 rfl, HB.out.2.2.1.below HM.out.bel HB.out.2.2.1.lt, HB.out.2.2.2.trans (HM.out.bel.mono HB.out.2.2.2.size)⟩
        · clear hHeld
          go_simp
          replace HM := Lib.hid (show Mem wb [blkE wy3.heap.size 38 (zd 16), blkE P5 23 (aeZ 32)] (wy3.alloc (.cells cuZ16 38)) from HM.out.alloc rfl 38 cuZ16 (zd 16) rfl)
          generalize wy3.alloc (.cells cuZ16 38) = wy4 at HM ⊢
          generalize wy3.heap.size = P6 at HM ⊢
          refine hK.out _ _ (((HM.out.erase 0).erase 0)) (fun hHeld => ?_)
          clear hK K
          (try simp only [Act.put, List.setIfInBounds_toArray, List.set_cons_zero, List.set_cons_succ])
          refine step_one 3 rfl (by kernel_rfl) (fun K hK => ?_)
          clear hHeld
          go_simp
          refine (KR.out _).mono ?_
          rintro e wy5 ⟨rfl, hb⟩
          replace HM := Lib.hid (show Mem wb [blkE P6 38 (zd 16), blkE P5 23 (aeZ 32)] wy5 from HM.out.below hb)
          clear hb
          go_wp2_with fail
          refine hK.out _ _ (((HM.out.erase 0).erase 0)) (fun hHeld => ?_)
          clear hK K
          (try simp only [Act.put, List.setIfInBounds_toArray, List.set_cons_zero, List.set_cons_succ])
          refine step_one 6 rfl (by kernel_rfl) (fun K hK => ?_)
          clear hHeld
          refine step_store_blk _ rfl 23 (.tmp 5) (.tmp 12) rfl P5 (cl.map u8v) rfl (by show Value.agg ccl = _; rw [HX.out.1]) 23 (aeZ 32) (HM.out.blk 1 rfl) (cells32 cl HL.out.2.2.1) (by rw [List.length_map, HL.out.2.2.1]; rfl) (by intro v hv; obtain ⟨_, _, rfl⟩ := List.mem_map.1 hv; rfl) ?_
          intro wy6 hb hg
          replace HM := Lib.hid (show Mem wb [blkE P6 38 (zd 16), blkE P5 23 (cl.map u8v)] wy6 from HM.out.put 1 rfl _ hg hb)
          clear hb hg
          refine hK.out _ _ (((HM.out.erase 0).erase 0)) (fun hHeld => ?_)
          clear hK K
          (try simp only [Act.put])
          refine step_one 7 rfl (by kernel_rfl) (fun K hK => ?_)
          clear hHeld
          refine step_store_blk _ rfl 38 (.tmp 6) (.tmp 14) rfl P6 (x1.map i64v) rfl (by show Value.agg cx1 = _; rw [HX.out.2]) 38 (zd 16) (HM.out.blk 0 rfl) (cu_cells x1 HL.out.2.2.2.1) (by rw [List.length_map, HL.out.2.2.2.1]; rfl) (by intro v hv; obtain ⟨_, _, rfl⟩ := List.mem_map.1 hv; rfl) ?_
          intro wy7 hb hg
          replace HM := Lib.hid (show Mem wb [blkE P6 38 (x1.map i64v), blkE P5 23 (cl.map u8v)] wy7 from HM.out.put 0 rfl _ hg hb)
          clear hb hg
          refine hK.out _ _ (((HM.out.erase 0).erase 0)) (fun hHeld => ?_)
          clear hK K
          (try simp only [Act.put])
          refine wpAnyH_done (by kernel_rfl) ?_ _
          go_wp2_with fail
          go_meet
          exact ⟨P5, P6, rfl, rfl, HM.out.blk 0 rfl, HM.out.blk 1 rfl, HB.out.2.2.1.below HM.out.bel HB.out.2.2.1.lt, HB.out.2.2.2.trans (HM.out.bel.mono HB.out.2.2.2.size)⟩
      · clear hHeld
        go_simp
        replace HM := Lib.hid (show Mem wb [blkE wy2.heap.size 38 (zd 16), blkE P5 23 (aeZ 32)] (wy2.alloc (.cells cuZ16 38)) from HM.out.alloc rfl 38 cuZ16 (zd 16) rfl)
        generalize wy2.alloc (.cells cuZ16 38) = wy3 at HM ⊢
        generalize wy2.heap.size = P6 at HM ⊢
        refine hK.out _ _ (((HM.out.erase 0).erase 0)) (fun hHeld => ?_)
        clear hK K
        (try simp only [Act.put, List.setIfInBounds_toArray, List.set_cons_zero, List.set_cons_succ])
        refine step_one 1 rfl (by kernel_rfl) (fun K hK => ?_)
        clear hHeld
        go_simp
        refine (KC.out _).mono ?_
        rintro e wy4 ⟨rfl, hb⟩
        replace HM := Lib.hid (show Mem wb [blkE P6 38 (zd 16), blkE P5 23 (aeZ 32)] wy4 from HM.out.below hb)
        clear hb
        go_wp2_with fail
        refine hK.out _ _ (((HM.out.erase 0).erase 0)) (fun hHeld => ?_)
        clear hK K
        (try simp only [Act.put, List.setIfInBounds_toArray, List.set_cons_zero, List.set_cons_succ])
        refine step_one 3 rfl (by kernel_rfl) (fun K hK => ?_)
        clear hHeld
        go_simp
        refine (KR.out _).mono ?_
        rintro e wy5 ⟨rfl, hb⟩
        replace HM := Lib.hid (show Mem wb [blkE P6 38 (zd 16), blkE P5 23 (aeZ 32)] wy5 from HM.out.below hb)
        clear hb
        go_wp2_with fail
        refine hK.out _ _ (((HM.out.erase 0).erase 0)) (fun hHeld => ?_)
        clear hK K
        (try simp only [Act.put, List.setIfInBounds_toArray, List.set_cons_zero, List.set_cons_succ])
        refine step_one 6 rfl (by kernel_rfl) (fun K hK => ?_)
        clear hHeld
        refine step_store_blk _ rfl 23 (.tmp 5) (.tmp 12) rfl P5 (cl.map u8v) rfl (by show Value.agg ccl = _; rw [HX.out.1]) 23 (aeZ 32) (HM.out.blk 1 rfl) (cells32 cl HL.out.2.2.1) (by rw [List.length_map, HL.out.2.2.1]; rfl) (by intro v hv; obtain ⟨_, _, rfl⟩ := List.mem_map.1 hv; rfl) ?_
        intro wy6 hb hg
        replace HM := Lib.hid (show Mem wb [blkE P6 38 (zd 16), blkE P5 23 (cl.map u8v)] wy6 from HM.out.put 1 rfl _ hg hb)
        clear hb hg
        refine hK.out _ _ (((HM.out.erase 0).erase 0)) (fun hHeld => ?_)
        clear hK K
        (try simp only [Act.put])
        refine step_one 7 rfl (by kernel_rfl) (fun K hK => ?_)
        clear hHeld
        refine step_store_blk _ rfl 38 (.tmp 6) (.tmp 14) rfl P6 (x1.map i64v) rfl (by show Value.agg cx1 = _; rw [HX.out.2]) 38 (zd 16) (HM.out.blk 0 rfl) (cu_cells x1 HL.out.2.2.2.1) (by rw [List.length_map, HL.out.2.2.2.1]; rfl) (by intro v hv; obtain ⟨_, _, rfl⟩ := List.mem_map.1 hv; rfl) ?_
        intro wy7 hb hg
        replace HM := Lib.hid (show Mem wb [blkE P6 38 (x1.map i64v), blkE P5 23 (cl.map u8v)] wy7 from HM.out.put 0 rfl _ hg hb)
        clear hb hg
        refine hK.out _ _ (((HM.out.erase 0).erase 0)) (fun hHeld => ?_)
        clear hK K
        (try simp only [Act.put])
        refine wpAnyH_done (by kernel_rfl) ?_ _
        go_wp2_with fail
        go_meet
        exact ⟨P5, P6, rfl, rfl, HM.out.blk 0 rfl, HM.out.blk 1 rfl, HB.out.2.2.1.below HM.out.bel HB.out.2.2.1.lt, HB.out.2.2.2.trans (HM.out.bel.mono HB.out.2.2.2.size)⟩
    · clear hHeld
      go_simp
      replace HM := Lib.hid (show Mem wb [blkE wd1.heap.size 38 (zd 16)] (wd1.alloc (.cells cuZ16 38)) from HM.out.alloc rfl 38 cuZ16 (zd 16) rfl)
      generalize wd1.alloc (.cells cuZ16 38) = wy2 at HM ⊢
      generalize wd1.heap.size = P6 at HM ⊢
      refine hK.out _ _ ((HM.out.erase 0)) (fun hHeld => ?_)
      clear hK K
      (try simp only [Act.put, List.setIfInBounds_toArray, List.set_cons_zero, List.set_cons_succ])
      refine step_two 1 4 rfl rfl (by kernel_rfl) (fun K hK => ?_) (fun K hK => ?_)
      · clear hHeld
        go_simp
        refine (KC.out _).mono ?_
        rintro e wy3 ⟨rfl, hb⟩
        replace HM := Lib.hid (show Mem wb [blkE P6 38 (zd 16)] wy3 from HM.out.below hb)
        clear hb
        go_wp2_with fail
        refine hK.out _ _ ((HM.out.erase 0)) (fun hHeld => ?_)
        clear hK K
        (try simp only [Act.put, List.setIfInBounds_toArray, List.set_cons_zero, List.set_cons_succ])
        refine step_two 3 4 rfl rfl (by kernel_rfl) (fun K hK => ?_) (fun K hK => ?_)
        · clear hHeld
          go_simp
          refine (KR.out _).mono ?_
          rintro e wy4 ⟨rfl, hb⟩
          replace HM := Lib.hid (show Mem wb [blkE P6 38 (zd 16)] wy4 from HM.out.below hb)
          clear hb
          go_wp2_with fail
          refine hK.out _ _ ((HM.out.erase 0)) (fun hHeld => ?_)
          clear hK K
          (try simp only [Act.put, List.setIfInBounds_toArray, List.set_cons_zero, List.set_cons_succ])
          refine step_one 4 rfl (by kernel_rfl) (fun K hK => ?_)
          clear hHeld
          go_simp
          replace HM := Lib.hid (show Mem wb [blkE wy4.heap.size 23 (aeZ 32), blkE P6 38 (zd 16)] (wy4.alloc (.cells #[.int .u8 0, .int .u8 0, .int .u8 0, .int .u8 0, .int .u8 0, .int .u8 0, .int .u8 0, .int .u8 0, .int .u8 0, .int .u8 0, .int .u8 0, .int .u8 0, .int .u8 0, .int .u8 0, .int .u8 0, .int .u8 0, .int .u8 0, .int .u8 0, .int .u8 0, .int .u8 0, .int .u8 0, .int .u8 0, .int .u8 0, .int .u8 0, .int .u8 0, .int .u8 0, .int .u8 0, .int .u8 0, .int .u8 0, .int .u8 0, .int .u8 0, .int .u8 0] 23)) from HM.out.alloc rfl 23 #[.int .u8 0, .int .u8 0, .int .u8 0, .int .u8 0, .int .u8 0, .int .u8 0, .int .u8 0, .int .u8 0, .int .u8 0, .int .u8 0, .int .u8 0, .int .u8 0, .int .u8 0, .int .u8 0, .int .u8 0, .int .u8 0, .int .u8 0, .int .u8 0, .int .u8 0, .int .u8 0, .int .u8 0, .int .u8 0, .int .u8 0, .int .u8 0, .int .u8 0, .int .u8 0, .int .u8 0, .int .u8 0, .int .u8 0, .int .u8 0, .int .u8 0, .int .u8 0] (aeZ 32) rfl)
          generalize wy4.alloc (.cells #[.int .u8 0, .int .u8 0, .int .u8 0, .int .u8 0, .int .u8 0, .int .u8 0, .int .u8 0, .int .u8 0, .int .u8 0, .int .u8 0, .int .u8 0, .int .u8 0, .int .u8 0, .int .u8 0, .int .u8 0, .int .u8 0, .int .u8 0, .int .u8 0, .int .u8 0, .int .u8 0, .int .u8 0, .int .u8 0, .int .u8 0, .int .u8 0, .int .u8 0, .int .u8 0, .int .u8 0, .int .u8 0, .int .u8 0, .int .u8 0, .int .u8 0, .int .u8 0] 23) = wy5 at HM ⊢
          generalize wy4.heap.size = P5 at HM ⊢
          refine hK.out _ _ (((HM.out.erase 0).erase 0)) (fun hHeld => ?_)
          clear hK K
          (try simp only [Act.put, List.setIfInBounds_toArray, List.set_cons_zero, List.set_cons_succ])
          refine step_one 6 rfl (by kernel_rfl) (fun K hK => ?_)
          clear hHeld
          refine step_store_blk _ rfl 23 (.tmp 5) (.tmp 12) rfl P5 (cl.map u8v) rfl (by show Value.agg ccl = _; rw [HX.out.1]) 23 (aeZ 32) (HM.out.blk 0 rfl) (cells32 cl HL.out.2.2.1) (by rw [List.length_map, HL.out.2.2.1]; rfl) (by intro v hv; obtain ⟨_, _, rfl⟩ := List.mem_map.1 hv; rfl) ?_
          intro wy6 hb hg
          replace HM := Lib.hid (show Mem wb [blkE P5 23 (cl.map u8v), blkE P6 38 (zd 16)] wy6 from HM.out.put 0 rfl _ hg hb)
          clear hb hg
          refine hK.out _ _ (((HM.out.erase 0).erase 0)) (fun hHeld => ?_)
          clear hK K
          (try simp only [Act.put])
          refine step_one 7 rfl (by kernel_rfl) (fun K hK => ?_)
          clear hHeld
          refine step_store_blk _ rfl 38 (.tmp 6) (.tmp 14) rfl P6 (x1.map i64v) rfl (by show Value.agg cx1 = _; rw [HX.out.2]) 38 (zd 16) (HM.out.blk 1 rfl) (cu_cells x1 HL.out.2.2.2.1) (by rw [List.length_map, HL.out.2.2.2.1]; rfl) (by intro v hv; obtain ⟨_, _, rfl⟩ := List.mem_map.1 hv; rfl) ?_
          intro wy7 hb hg
          replace HM := Lib.hid (show Mem wb [blkE P5 23 (cl.map u8v), blkE P6 38 (x1.map i64v)] wy7 from HM.out.put 1 rfl _ hg hb)
          clear hb hg
          refine hK.out _ _ (((HM.out.erase 0).erase 0)) (fun hHeld => ?_)
          clear hK K
          (try simp only [Act.put])
          refine wpAnyH_done (by kernel_rfl) ?_ _
          go_wp2_with fail
          go_meet
          exact ⟨P5, P6, rfl, rfl, HM.out.blk 1 rfl, HM.out.blk 0 rfl, HB.out.2.2.1.below HM.out.bel HB.out.2.2.1.lt, HB.out.2.2.2.trans (HM.out.bel.mono HB.out.2.2.2.size)⟩
        · clear hHeld
          go_simp
          replace HM := Lib.hid (show Mem wb [blkE wy3.heap.size 23 (aeZ 32), blkE P6 38 (zd 16)] (wy3.alloc (.cells #[.int .u8 0, .int .u8 0, .int .u8 0, .int .u8 0, .int .u8 0, .int .u8 0, .int .u8 0, .int .u8 0, .int .u8 0, .int .u8 0, .int .u8 0, .int .u8 0, .int .u8 0, .int .u8 0, .int .u8 0, .int .u8 0, .int .u8 0, .int .u8 0, .int .u8 0, .int .u8 0, .int .u8 0, .int .u8 0, .int .u8 0, .int .u8 0, .int .u8 0, .int .u8 0, .int .u8 0, .int .u8 0, .int .u8 0, .int .u8 0, .int .u8 0, .int .u8 0] 23)) from HM.out.alloc rfl 23 #[.int .u8 0, .int .u8 0, .int .u8 0, .int .u8 0, .int .u8 0, .int .u8 0, .int .u8 0, .int .u8 0, .int .u8 0, .int .u8 0, .int .u8 0, .int .u8 0, .int .u8 0, .int .u8 0, .int .u8 0, .int .u8 0, .int .u8 0, .int .u8 0, .int .u8 0, .int .u8 0, .int .u8 0, .int .u8 0, .int .u8 0, .int .u8 0, .int .u8 0, .int .u8 0, .int .u8 0, .int .u8 0, .int .u8 0, .int .u8 0, .int .u8 0, .int .u8 0] (aeZ 32) rfl)
          generalize wy3.alloc (.cells #[.int .u8 0, .int .u8 0, .int .u8 0, .int .u8 0, .int .u8 0, .int .u8 0, .int .u8 0, .int .u8 0, .int .u8 0, .int .u8 0, .int .u8 0, .int .u8 0, .int .u8 0, .int .u8 0, .int .u8 0, .int .u8 0, .int .u8 0, .int .u8 0, .int .u8 0, .int .u8 0, .int .u8 0, .int .u8 0, .int .u8 0, .int .u8 0, .int .u8 0, .int .u8 0, .int .u8 0, .int .u8 0, .int .u8 0, .int .u8 0, .int .u8 0, .int .u8 0] 23) = wy4 at HM ⊢
          generalize wy3.heap.size = P5 at HM ⊢
          refine hK.out _ _ (((HM.out.erase 0).erase 0)) (fun hHeld => ?_)
          clear hK K
          (try simp only [Act.put, List.setIfInBounds_toArray, List.set_cons_zero, List.set_cons_succ])
          refine step_one 3 rfl (by kernel_rfl) (fun K hK => ?_)
          clear hHeld
          go_simp
          refine (KR.out _).mono ?_
          rintro e wy5 ⟨rfl, hb⟩
          replace HM := Lib.hid (show Mem wb [blkE P5 23 (aeZ 32), blkE P6 38 (zd 16)] wy5 from HM.out.below hb)
          clear hb
          go_wp2_with fail
          refine hK.out _ _ (((HM.out.erase 0).erase 0)) (fun hHeld => ?_)
          clear hK K
          (try simp only [Act.put, List.setIfInBounds_toArray, List.set_cons_zero, List.set_cons_succ])
          refine step_one 6 rfl (by kernel_rfl) (fun K hK => ?_)
          clear hHeld
          refine step_store_blk _ rfl 23 (.tmp 5) (.tmp 12) rfl P5 (cl.map u8v) rfl (by show Value.agg ccl = _; rw [HX.out.1]) 23 (aeZ 32) (HM.out.blk 0 rfl) (cells32 cl HL.out.2.2.1) (by rw [List.length_map, HL.out.2.2.1]; rfl) (by intro v hv; obtain ⟨_, _, rfl⟩ := List.mem_map.1 hv; rfl) ?_
          intro wy6 hb hg
          replace HM := Lib.hid (show Mem wb [blkE P5 23 (cl.map u8v), blkE P6 38 (zd 16)] wy6 from HM.out.put 0 rfl _ hg hb)
          clear hb hg
          refine hK.out _ _ (((HM.out.erase 0).erase 0)) (fun hHeld => ?_)
          clear hK K
          (try simp only [Act.put])
          refine step_one 7 rfl (by kernel_rfl) (fun K hK => ?_)
          clear hHeld
          refine step_store_blk _ rfl 38 (.tmp 6) (.tmp 14) rfl P6 (x1.map i64v) rfl (by show Value.agg cx1 = _; rw [HX.out.2]) 38 (zd 16) (HM.out.blk 1 rfl) (cu_cells x1 HL.out.2.2.2.1) (by rw [List.length_map, HL.out.2.2.2.1]; rfl) (by intro v hv; obtain ⟨_, _, rfl⟩ := List.mem_map.1 hv; rfl) ?_
          intro wy7 hb hg
          replace HM := Lib.hid (show Mem wb [blkE P5 23 (cl.map u8v), blkE P6 38 (x1.map i64v)] wy7 from HM.out.put 1 rfl _ hg hb)
          clear hb hg
          refine hK.out _ _ (((HM.out.erase 0).erase 0)) (fun hHeld => ?_)
          clear hK K
          (try simp only [Act.put])
          refine wpAnyH_done (by kernel_rfl) ?_ _
          go_wp2_with fail
          go_meet
          exact ⟨P5, P6, rfl, rfl, HM.out.blk 1 rfl, HM.out.blk 0 rfl, HB.out.2.2.1.below HM.out.bel HB.out.2.2.1.lt, HB.out.2.2.2.trans (HM.out.bel.mono HB.out.2.2.2.size)⟩
      · clear hHeld
        go_simp
        replace HM := Lib.hid (show Mem wb [blkE wy2.heap.size 23 (aeZ 32), blkE P6 38 (zd 16)] (wy2.alloc (.cells #[.int .u8 0, .int .u8 0, .int .u8 0, .int .u8 0, .int .u8 0, .int .u8 0, .int .u8 0, .int .u8 0, .int .u8 0, .int .u8 0, .int .u8 0, .int .u8 0, .int .u8 0, .int .u8 0, .int .u8 0, .int .u8 0, .int .u8 0, .int .u8 0, .int .u8 0, .int .u8 0, .int .u8 0, .int .u8 0, .int .u8 0, .int .u8 0, .int .u8 0, .int .u8 0, .int .u8 0, .int .u8 0, .int .u8 0, .int .u8 0, .int .u8 0, .int .u8 0] 23)) from HM.out.alloc rfl 23 #[.int .u8 0, .int .u8 0, .int .u8 0, .int .u8 0, .int .u8 0, .int .u8 0, .int .u8 0, .int .u8 0, .int .u8 0, .int .u8 0, .int .u8 0, .int .u8 0, .int .u8 0, .int .u8 0, .int .u8 0, .int .u8 0, .int .u8 0, .int .u8 0, .int .u8 0, .int .u8 0, .int .u8 0, .int .u8 0, .int .u8 0, .int .u8 0, .int .u8 0, .int .u8 0, .int .u8 0, .int .u8 0, .int .u8 0, .int .u8 0, .int .u8 0, .int .u8 0] (aeZ 32) rfl)
        generalize wy2.alloc (.cells #[.int .u8 0, .int .u8 0, .int .u8 0, .int .u8 0, .int .u8 0, .int .u8 0, .int .u8 0, .int .u8 0, .int .u8 0, .int .u8 0, .int .u8 0, .int .u8 0, .int .u8 0, .int .u8 0, .int .u8 0, .int .u8 0, .int .u8 0, .int .u8 0, .int .u8 0, .int .u8 0, .int .u8 0, .int .u8 0, .int .u8 0, .int .u8 0, .int .u8 0, .int .u8 0, .int .u8 0, .int .u8 0, .int .u8 0, .int .u8 0, .int .u8 0, .int .u8 0] 23) = wy3 at HM ⊢
        generalize wy2.heap.size = P5 at HM ⊢
        refine hK.out _ _ (((HM.out.erase 0).erase 0)) (fun hHeld => ?_)
        clear hK K
        (try simp only [Act.put, List.setIfInBounds_toArray, List.set_cons_zero, List.set_cons_succ])
        refine step_one 1 rfl (by kernel_rfl) (fun K hK => ?_)
        clear hHeld
        go_simp
        refine (KC.out _).mono ?_
        rintro e wy4 ⟨rfl, hb⟩
        replace HM := Lib.hid (show Mem wb [blkE P5 23 (aeZ 32), blkE P6 38 (zd 16)] wy4 from HM.out.below hb)
        clear hb
        go_wp2_with fail
        refine hK.out _ _ (((HM.out.erase 0).erase 0)) (fun hHeld => ?_)
        clear hK K
        (try simp only [Act.put, List.setIfInBounds_toArray, List.set_cons_zero, List.set_cons_succ])
        refine step_one 3 rfl (by kernel_rfl) (fun K hK => ?_)
        clear hHeld
        go_simp
        refine (KR.out _).mono ?_
        rintro e wy5 ⟨rfl, hb⟩
        replace HM := Lib.hid (show Mem wb [blkE P5 23 (aeZ 32), blkE P6 38 (zd 16)] wy5 from HM.out.below hb)
        clear hb
        go_wp2_with fail
        refine hK.out _ _ (((HM.out.erase 0).erase 0)) (fun hHeld => ?_)
        clear hK K
        (try simp only [Act.put, List.setIfInBounds_toArray, List.set_cons_zero, List.set_cons_succ])
        refine step_one 6 rfl (by kernel_rfl) (fun K hK => ?_)
        clear hHeld
        refine step_store_blk _ rfl 23 (.tmp 5) (.tmp 12) rfl P5 (cl.map u8v) rfl (by show Value.agg ccl = _; rw [HX.out.1]) 23 (aeZ 32) (HM.out.blk 0 rfl) (cells32 cl HL.out.2.2.1) (by rw [List.length_map, HL.out.2.2.1]; rfl) (by intro v hv; obtain ⟨_, _, rfl⟩ := List.mem_map.1 hv; rfl) ?_
        intro wy6 hb hg
        replace HM := Lib.hid (show Mem wb [blkE P5 23 (cl.map u8v), blkE P6 38 (zd 16)] wy6 from HM.out.put 0 rfl _ hg hb)
        clear hb hg
        refine hK.out _ _ (((HM.out.erase 0).erase 0)) (fun hHeld => ?_)
        clear hK K
        (try simp only [Act.put])
        refine step_one 7 rfl (by kernel_rfl) (fun K hK => ?_)
        clear hHeld
        refine step_store_blk _ rfl 38 (.tmp 6) (.tmp 14) rfl P6 (x1.map i64v) rfl (by show Value.agg cx1 = _; rw [HX.out.2]) 38 (zd 16) (HM.out.blk 1 rfl) (cu_cells x1 HL.out.2.2.2.1) (by rw [List.length_map, HL.out.2.2.2.1]; rfl) (by intro v hv; obtain ⟨_, _, rfl⟩ := List.mem_map.1 hv; rfl) ?_
        intro wy7 hb hg
        replace HM := Lib.hid (show Mem wb [blkE P5 23 (cl.map u8v), blkE P6 38 (x1.map i64v)] wy7 from HM.out.put 1 rfl _ hg hb)
        clear hb hg
        refine hK.out _ _ (((HM.out.erase 0).erase 0)) (fun hHeld => ?_)
        clear hK K
        (try simp only [Act.put])
        refine wpAnyH_done (by kernel_rfl) ?_ _
        go_wp2_with fail
        go_meet
        exact ⟨P5, P6, rfl, rfl, HM.out.blk 1 rfl, HM.out.blk 0 rfl, HB.out.2.2.1.below HM.out.bel HB.out.2.2.1.lt, HB.out.2.2.2.trans (HM.out.bel.mono HB.out.2.2.2.size)⟩
  case rest =>
  clear HB KC KR
  revert wc
  intro wb hcut
  obtain ⟨P5, P6, rfl, rfl, hcut⟩ := hcut
  have HB := Lib.hid hcut
  clear hcut
  have HM := Lib.hid (Mem.nil wb)
  have hb1 := built_begin oneL x1 oneL rfl HL.out.2.2.2.1 rfl
  obtain ⟨c1, hc1⟩ : ∃ c, (oneL.map i64v).toArray = c := ⟨_, rfl⟩
  have hb0 := oneL_built
  obtain ⟨cb, hcb⟩ : ∃ c, (ladV oneL (List.replicate 16 0) x1 oneL).toArray = c := ⟨_, rfl⟩
  rw [hc1] at hb0
  rw [hc1, HX.out.2, hcb] at hb1
  have HY := Lib.hid (And.intro hb0 (And.intro hb1 hcb))
  clear hb0 hb1 hcb hc1
  have HA := Lib.hid (show Mem wb [blkE wb.heap.size 41 (zd 64)] (wb.alloc (.cells #[.int .i64 0, .int .i64 0, .int .i64 0, .int .i64 0, .int .i64 0, .int .i64 0, .int .i64 0, .int .i64 0, .int .i64 0, .int .i64 0, .int .i64 0, .int .i64 0, .int .i64 0, .int .i64 0, .int .i64 0, .int .i64 0, .int .i64 0, .int .i64 0, .int .i64 0, .int .i64 0, .int .i64 0, .int .i64 0, .int .i64 0, .int .i64 0, .int .i64 0, .int .i64 0, .int .i64 0, .int .i64 0, .int .i64 0, .int .i64 0, .int .i64 0, .int .i64 0, .int .i64 0, .int .i64 0, .int .i64 0, .int .i64 0, .int .i64 0, .int .i64 0, .int .i64 0, .int .i64 0, .int .i64 0, .int .i64 0, .int .i64 0, .int .i64 0, .int .i64 0, .int .i64 0, .int .i64 0, .int .i64 0, .int .i64 0, .int .i64 0, .int .i64 0, .int .i64 0, .int .i64 0, .int .i64 0, .int .i64 0, .int .i64 0, .int .i64 0, .int .i64 0, .int .i64 0, .int .i64 0, .int .i64 0, .int .i64 0, .int .i64 0, .int .i64 0] 41)) from HM.out.alloc rfl 41 #[.int .i64 0, .int .i64 0, .int .i64 0, .int .i64 0, .int .i64 0, .int .i64 0, .int .i64 0, .int .i64 0, .int .i64 0, .int .i64 0, .int .i64 0, .int .i64 0, .int .i64 0, .int .i64 0, .int .i64 0, .int .i64 0, .int .i64 0, .int .i64 0, .int .i64 0, .int .i64 0, .int .i64 0, .int .i64 0, .int .i64 0, .int .i64 0, .int .i64 0, .int .i64 0, .int .i64 0, .int .i64 0, .int .i64 0, .int .i64 0, .int .i64 0, .int .i64 0, .int .i64 0, .int .i64 0, .int .i64 0, .int .i64 0, .int .i64 0, .int .i64 0, .int .i64 0, .int .i64 0, .int .i64 0, .int .i64 0, .int .i64 0, .int .i64 0, .int .i64 0, .int .i64 0, .int .i64 0, .int .i64 0, .int .i64 0, .int .i64 0, .int .i64 0, .int .i64 0, .int .i64 0, .int .i64 0, .int .i64 0, .int .i64 0, .int .i64 0, .int .i64 0, .int .i64 0, .int .i64 0, .int .i64 0, .int .i64 0, .int .i64 0, .int .i64 0] (zd 64) rfl)
  have hlv := ladV_length oneL (List.replicate 16 0) x1 oneL rfl rfl HL.out.2.2.2.1 rfl
  go_upto_region 3 with (first | (refine wpList_build_as rfl 38 [(0, .const (.int .i64 1))] rfl c1 HY.out.1 ?_) | (refine wpList_build_as rfl 41 [(0, .tmp 15), (2, .tmp 16), (3, .tmp 17)] rfl cb HY.out.2.1 ?_) | (refine wpList_load_blk rfl 38 (.tmp 6) rfl P6 rfl 38 (x1.map i64v) HB.out.1 16 2 Try.underlying38 (cu_cells x1 HL.out.2.2.2.1) ?_; rw [HX.out.2]) | (refine wpList_store_blk rfl 41 (.tmp 7) (.tmp 18) rfl wb.heap.size (ladV oneL (List.replicate 16 0) x1 oneL) rfl (by show Value.agg cb = _; rw [HY.out.2.2]) 41 (zd 64) (HA.out.blk 0 rfl) (cells64L _ hlv) (by rw [hlv]; rfl) (ladV_one _ _ _ _) ?_; intro w2 hb9 hg9))
  (try simp only [Act.put])
  replace HM := Lib.hid (show Mem wb [blkE wb.heap.size 41 (ladV oneL (List.replicate 16 0) x1 oneL)] w2 from HA.out.put 0 rfl _ hg9 hb9)
  clear HA hb9 hg9 hlv HY
  generalize wb.heap.size = P7 at HM ⊢
  go_wp2_with fail
  go_loopw [8, 9, 10] (fun v8 v9 _ wr => ∃ (n : Nat) (b : Bool), n ≤ 255 ∧ v8 = .int .u8 (b.toNat : Int) ∧ v9 = .int .i64 (254 - (n : Int)) ∧ ∃ x2 z2 x3 z3, Small x2 ∧ Small z2 ∧ Small x3 ∧ Small z3 ∧ LadS b (LadF x2 z2 x3 z3) = Cu.ladN Cu.fqC (Cu.fq (Cu.valL x1)) ((bitsOf cl).take n) ∧ Mem wb [blkE P7 41 (ladV x2 z2 x3 z3)] wr) (fun _ v9 _ _ => (intOf v9 + 1).toNat)
  case atStart => exact ⟨0, false, by omega, rfl, rfl, oneL, List.replicate 16 0, x1, oneL, oneL_small, zeroL_small, HL.out.2.2.2, oneL_small, by show LadF _ _ _ _ = Cu.ladN _ _ []; rw [LadF, oneL_val, zeroL_val]; rfl, HM.out⟩
  case round =>
    clear HM
    obtain ⟨n, b, hn, rfl, rfl, x2, z2, x3, z3, s1, s2, s3, s4, hlad, hM⟩ := hrel
    have HM := Lib.hid hM
    have HLD := Lib.hid (And.intro s1 (And.intro s2 (And.intro s3 (And.intro s4 hlad))))
    clear hM s1 s2 s3 s4 hlad
    by_cases hlt : n < 255
    · obtain ⟨t, ht⟩ : ∃ t : Nat, 254 - n = t := ⟨_, rfl⟩
      have htI : (254 : Int) - (n : Int) = (t : Int) := by omega
      rw [htI]
      have ht8 : t / 8 < 32 := by omega
      have fx := (HB.out.2.1.below HM.out.bel HB.out.2.1.lt).byt (t / 8) (by rw [HL.out.2.2.1]; exact ht8)
      have hbit : bitAt cl t = ((cl.getD (t / 8) 0).toNat / 2 ^ (t % 8) % 2 == 1) := rfl
      generalize cl.getD (t / 8) 0 = x at fx hbit
      obtain ⟨bit, hbt⟩ : ∃ q, bitAt cl t = q := ⟨_, rfl⟩
      rw [hbt] at hbit
      have hand : bits BinOp.and IntKind.u8 ((x.toNat : Int) / 2 ^ (t % 8)) 1 = (bit.toNat : Int) := by
        have e1 : (x.toNat : Int) / 2 ^ (t % 8) = ((x.toNat / 2 ^ (t % 8) : Nat) : Int) := by rw [Int.natCast_ediv, Int.natCast_pow]; rfl
        have hm : x.toNat / 2 ^ (t % 8) < 256 := Nat.lt_of_le_of_lt (Nat.div_le_self _ _) x.toNat_lt
        rw [e1, hbit]
        generalize x.toNat / 2 ^ (t % 8) = m at hm ⊢
        have h := u8_and_nat m 1 hm (by omega)
        rw [show ((1 : Nat) : Int) = 1 from rfl] at h
        rw [h, Nat.and_one_is_mod]
        by_cases h1 : m % 2 = 1
        · rw [h1]; rfl
        · have h0 : m % 2 = 0 := by omega
          rw [h0]; rfl
      clear hbit
      go_upto_if 33 with fail
      clear fx hand
      have HBT := Lib.hid (show (bitsOf cl).take (n + 1) = (bitsOf cl).take n ++ [bit] by rw [bitsOf_take cl n hlt, ht, hbt])
      go_cut [] (fun wx => ∃ y2 w2 y3 w3, Small y2 ∧ Small w2 ∧ Small y3 ∧ Small w3 ∧ LadF y2 w2 y3 w3 = (if bit ≠ b then Cu.ladSwap (LadF x2 z2 x3 z3) else LadF x2 z2 x3 z3) ∧ Mem wb [blkE P7 41 (ladV y2 w2 y3 w3)] wx)
      case first =>
        by_cases hbb : bit = b
        · have hne : ((bit.toNat : Int) != (b.toNat : Int)) = false := by rw [hbb]; simp
          go_wp2_with fail
          go_meet
          exact ⟨x2, z2, x3, z3, HLD.out.1, HLD.out.2.1, HLD.out.2.2.1, HLD.out.2.2.2.1, by rw [if_neg (fun h => h hbb)], HM.out⟩
        · have hne : ((bit.toNat : Int) != (b.toNat : Int)) = true := by
            revert hbb; cases bit <;> cases b <;> simp
          have SW := fun W : World => refSwapped_any x2 z2 x3 z3 HLD.out.1.1 HLD.out.2.1.1 HLD.out.2.2.1.1 HLD.out.2.2.2.1.1 W
          have hl1 := ladV_length x2 z2 x3 z3 HLD.out.1.1 HLD.out.2.1.1 HLD.out.2.2.1.1 HLD.out.2.2.2.1.1
          have hl2 := ladV_length x3 z3 x2 z2 HLD.out.2.2.1.1 HLD.out.2.2.2.1.1 HLD.out.1.1 HLD.out.2.1.1
          obtain ⟨ca, hca⟩ : ∃ c, (ladV x2 z2 x3 z3).toArray = c := ⟨_, rfl⟩
          obtain ⟨cb, hcb⟩ : ∃ c, (ladV x3 z3 x2 z2).toArray = c := ⟨_, rfl⟩
          rw [hca, hcb] at SW
          have HS := Lib.hid (And.intro hca (And.intro hcb (And.intro hl1 hl2)))
          have HSW := Lib.hid SW
          clear SW hca hcb hl1 hl2
          go_wp2_with (refine wpList_load_lad rfl (.tmp 7) rfl P7 rfl 41 (ladV x2 z2 x3 z3) (HM.out.blk 0 rfl) (cells64L _ HS.out.2.2.1) ?_; rw [HS.out.1])
          refine (HSW.out _).mono ?_
          rintro e w4 ⟨rfl, hb⟩
          replace HM := Lib.hid (show Mem wb [blkE P7 41 (ladV x2 z2 x3 z3)] w4 from HM.out.below hb)
          clear hb
          go_wp2_with (refine wpList_store_blk rfl 41 (.tmp 7) (.tmp 35) rfl P7 (ladV x3 z3 x2 z2) rfl (by show Value.agg cb = _; rw [HS.out.2.1]) 41 (ladV x2 z2 x3 z3) (HM.out.blk 0 rfl) (cells64L _ HS.out.2.2.2) (by rw [HS.out.2.2.1, HS.out.2.2.2]) (ladV_one _ _ _ _) ?_; intro w5 hb9 hg9)
          go_meet
          exact ⟨x3, z3, x2, z2, HLD.out.2.2.1, HLD.out.2.2.2.1, HLD.out.1, HLD.out.2.1, by rw [if_pos hbb]; rfl, HM.out.put 0 rfl _ hg9 hb9⟩
      case rest =>
        obtain ⟨y2, w2, y3, w3, s1, s2, s3, s4, hlf, hM⟩ := hcut
        have HN := Lib.hid hM
        have ST := fun W : World => refStepped_any y2 w2 y3 w3 x1 s1 s2 s3 s4 HL.out.2.2.2.fit W
        rw [hlf] at ST
        have hl1 := ladV_length y2 w2 y3 w3 s1.1 s2.1 s3.1 s4.1
        obtain ⟨ca, hca⟩ : ∃ c, (ladV y2 w2 y3 w3).toArray = c := ⟨_, rfl⟩
        rw [hca, HX.out.2] at ST
        have HS := Lib.hid (And.intro hca hl1)
        have HST := Lib.hid ST
        clear ST hca hl1 s1 s2 s3 s4 hlf hM HM
        go_wp2_with (first | (refine wpList_load_lad rfl (.tmp 7) rfl P7 rfl 41 (ladV y2 w2 y3 w3) (HN.out.blk 0 rfl) (cells64L _ HS.out.2) ?_; rw [HS.out.1]) | (refine wpList_load_blk rfl 38 (.tmp 6) rfl P6 rfl 38 (x1.map i64v) (HB.out.1.below HN.out.bel HB.out.1.lt) 16 2 Try.underlying38 (cu_cells x1 HL.out.2.2.2.1) ?_; rw [HX.out.2]))
        refine (HST.out _).mono ?_
        rintro e w4 ⟨p, q, r, s, g1, g2, g3, g4, hlf, rfl, hb⟩
        replace HN := Lib.hid (show Mem wb [blkE P7 41 (ladV y2 w2 y3 w3)] w4 from HN.out.below hb)
        clear hb
        have hl2 := ladV_length p q r s g1.1 g2.1 g3.1 g4.1
        obtain ⟨cb, hcb⟩ : ∃ c, (ladV p q r s).toArray = c := ⟨_, rfl⟩
        rw [hcb]
        have hlad : LadS bit (LadF p q r s) = Cu.ladN Cu.fqC (Cu.fq (Cu.valL x1)) ((bitsOf cl).take (n + 1)) := by
          rw [hlf, ladS_step, HLD.out.2.2.2.2, HBT.out, Cu.ladN_snoc]
        have HT := Lib.hid (And.intro hcb (And.intro hl2 (And.intro (Good.sml g1) (And.intro (Good.sml g2) (And.intro (Good.sml g3) (And.intro (Good.sml g4) hlad))))))
        clear hcb hl2 g1 g2 g3 g4 hlf hlad
        go_upto_region 6 with (refine wpList_store_blk rfl 41 (.tmp 7) (.tmp 39) rfl P7 (ladV p q r s) rfl (by show Value.agg cb = _; rw [HT.out.1]) 41 (ladV y2 w2 y3 w3) (HN.out.blk 0 rfl) (cells64L _ HT.out.2.1) (by rw [HS.out.2, HT.out.2.1]) (ladV_one _ _ _ _) ?_; intro w5 hb9 hg9)
        (try simp only [Act.put])
        replace HN := Lib.hid (show Mem wb [blkE P7 41 (ladV p q r s)] w5 from HN.out.put 0 rfl _ hg9 hb9)
        clear hb9 hg9
        have e2 : (t : Int) - 1 = 254 - ((n + 1 : Nat) : Int) := by omega
        go_wp2_with fail
        go_roundw
        case rel => exact ⟨n + 1, bit, by omega, rfl, by first | (rw [e2]) | go_num, p, q, r, s, HT.out.2.2.1, HT.out.2.2.2.1, HT.out.2.2.2.2.1, HT.out.2.2.2.2.2.1, HT.out.2.2.2.2.2.2, HN.out⟩
        case measure => simp [intOf]; omega
    · obtain rfl : n = 255 := by omega
      have d1 : decide ((254 : Int) - ((255 : Nat) : Int) ≥ 0) = false := by decide
      have hall : (bitsOf cl).take 255 = bitsOf cl := List.take_of_length_le (by rw [bitsOf_length]; omega)
      go_upto_if 41 with fail
      go_cut [] (fun wx => ∃ y2 w2 y3 w3, Small y2 ∧ Small w2 ∧ Small y3 ∧ Small w3 ∧ LadF y2 w2 y3 w3 = LadS b (LadF x2 z2 x3 z3) ∧ Mem wb [blkE P7 41 (ladV y2 w2 y3 w3)] wx)
      case first =>
        by_cases hbb : b = true
        · have hne : ((b.toNat : Int) == 1) = true := by rw [hbb]; rfl
          have HBB := Lib.hid hbb
          clear hbb
          have SW := fun W : World => refSwapped_any x2 z2 x3 z3 HLD.out.1.1 HLD.out.2.1.1 HLD.out.2.2.1.1 HLD.out.2.2.2.1.1 W
          have hl1 := ladV_length x2 z2 x3 z3 HLD.out.1.1 HLD.out.2.1.1 HLD.out.2.2.1.1 HLD.out.2.2.2.1.1
          have hl2 := ladV_length x3 z3 x2 z2 HLD.out.2.2.1.1 HLD.out.2.2.2.1.1 HLD.out.1.1 HLD.out.2.1.1
          obtain ⟨ca, hca⟩ : ∃ c, (ladV x2 z2 x3 z3).toArray = c := ⟨_, rfl⟩
          obtain ⟨cb, hcb⟩ : ∃ c, (ladV x3 z3 x2 z2).toArray = c := ⟨_, rfl⟩
          rw [hca, hcb] at SW
          have HS := Lib.hid (And.intro hca (And.intro hcb (And.intro hl1 hl2)))
          have HSW := Lib.hid SW
          clear SW hca hcb hl1 hl2
          go_wp2_with (refine wpList_load_lad rfl (.tmp 7) rfl P7 rfl 41 (ladV x2 z2 x3 z3) (HM.out.blk 0 rfl) (cells64L _ HS.out.2.2.1) ?_; rw [HS.out.1])
          refine (HSW.out _).mono ?_
          rintro e w4 ⟨rfl, hb⟩
          replace HM := Lib.hid (show Mem wb [blkE P7 41 (ladV x2 z2 x3 z3)] w4 from HM.out.below hb)
          clear hb
          go_wp2_with (refine wpList_store_blk rfl 41 (.tmp 7) (.tmp 43) rfl P7 (ladV x3 z3 x2 z2) rfl (by show Value.agg cb = _; rw [HS.out.2.1]) 41 (ladV x2 z2 x3 z3) (HM.out.blk 0 rfl) (cells64L _ HS.out.2.2.2) (by rw [HS.out.2.2.1, HS.out.2.2.2]) (ladV_one _ _ _ _) ?_; intro w5 hb9 hg9)
          go_meet
          exact ⟨x3, z3, x2, z2, HLD.out.2.2.1, HLD.out.2.2.2.1, HLD.out.1, HLD.out.2.1, by rw [LadS, if_pos HBB.out]; rfl, HM.out.put 0 rfl _ hg9 hb9⟩
        · have hne : ((b.toNat : Int) == 1) = false := by revert hbb; cases b <;> simp
          have HBB := Lib.hid hbb
          clear hbb
          go_wp2_with fail
          go_meet
          exact ⟨x2, z2, x3, z3, HLD.out.1, HLD.out.2.1, HLD.out.2.2.1, HLD.out.2.2.2.1, by rw [LadS, if_neg HBB.out], HM.out⟩
      case rest =>
        clear HM
        obtain ⟨y2, w2, y3, w3, s1, s2, s3, s4, hlf, hM⟩ := hcut
        rw [HLD.out.2.2.2.2, hall] at hlf
        have HN := Lib.hid hM
        have HV := Lib.hid hlf
        have HY := Lib.hid (And.intro s1 (And.intro s2 (And.intro s3 s4)))
        have IV := fun W : World => refInverse_any w2 s2.fit W
        obtain ⟨cy, hcy⟩ : ∃ c, (y2.map i64v).toArray = c := ⟨_, rfl⟩
        obtain ⟨cw, hcw⟩ : ∃ c, (w2.map i64v).toArray = c := ⟨_, rfl⟩
        rw [hcw] at IV
        have INV := Lib.hid IV
        have HZ := Lib.hid (And.intro hcy hcw)
        clear hM hlf s1 s2 s3 s4 IV hcy hcw HLD
        go_upto_region 14 with fail
        refine wp_region_held_drew (S := fun W' => Blk W' P7 41 (ladV y2 w2 y3 w3)) (by kernel_rfl) ((HN.out.drew.blk 0 rfl)) (fun hHeld => ?_)
        replace HN := Lib.hid HN.out.drew
        generalize wc.drew = wd1 at HN hHeld ⊢
        refine take_first (v := ?_) 0 rfl (by kernel_rfl) (by kernel_rfl) (by kernel_rfl) (fun _ _ _ h => h) (Or.inl ⟨by rfl, ?_⟩) (by assumption) ?_
        rotate_left
        · (intro w hSw; (try dsimp only at hSw); go_simp; try with_reducible rfl)
        (try simp only [Act.put, List.setIfInBounds_toArray, List.set_cons_zero, List.set_cons_succ])
        refine take_first (v := .agg cy) 1 rfl (by kernel_rfl) (by kernel_rfl) (by kernel_rfl) (fun _ _ _ h => h) (by rw [← HZ.out.1]; exact cu_yields_off (by rfl) 38 (.tmp 44) rfl P7 0 rfl (y2.map i64v) (fun w' hb => by have h := Blk.row hb 0 16; rw [ladV_row0 _ _ _ _ HY.out.1.1 HY.out.2.1.1 HY.out.2.2.1.1 HY.out.2.2.2.1] at h; exact h) 16 2 Try.underlying38 (cu_cells y2 HY.out.1.1)) (by assumption) ?_
        (try simp only [Act.put, List.setIfInBounds_toArray, List.set_cons_zero, List.set_cons_succ])
        refine take_first (v := ?_) 2 rfl (by kernel_rfl) (by kernel_rfl) (by kernel_rfl) (fun _ _ _ h => h) (Or.inl ⟨by rfl, ?_⟩) (by assumption) ?_
        rotate_left
        · (intro w hSw; (try dsimp only at hSw); go_simp; try with_reducible rfl)
        (try simp only [Act.put, List.setIfInBounds_toArray, List.set_cons_zero, List.set_cons_succ])
        refine take_first (v := .agg cw) 3 rfl (by kernel_rfl) (by kernel_rfl) (by kernel_rfl) (fun _ _ _ h => h) (by rw [← HZ.out.2]; exact cu_yields_off (by rfl) 38 (.tmp 46) rfl P7 16 rfl (w2.map i64v) (fun w' hb => by have h := Blk.row hb 16 16; rw [ladV_row1 _ _ _ _ HY.out.1.1 HY.out.2.1.1 HY.out.2.2.1.1 HY.out.2.2.2.1] at h; exact h) 16 2 Try.underlying38 (cu_cells w2 HY.out.2.1.1)) (by assumption) ?_
        (try simp only [Act.put, List.setIfInBounds_toArray, List.set_cons_zero, List.set_cons_succ])
        refine step_one 4 rfl (by kernel_rfl) (fun K hK => ?_)
        clear hHeld
        go_simp
        refine (INV.out _).mono ?_
        rintro e wy2 ⟨ri, fi, vi, rfl, hb⟩
        replace HN := Lib.hid (show Mem wb [blkE P7 41 (ladV y2 w2 y3 w3)] wy2 from HN.out.below hb)
        obtain ⟨ci, hci⟩ : ∃ c, (ri.map i64v).toArray = c := ⟨_, rfl⟩
        rw [hci]
        have TT := refTimes_any y2 ri HY.out.1.1 fi.1 HY.out.1.fit.2 fi.2
        rw [HZ.out.1, hci, vi] at TT
        have HTT := Lib.hid TT
        clear TT hci fi vi
        clear hb
        go_wp2_with fail
        refine hK.out _ _ (HN.out.blk 0 rfl) (fun hHeld => ?_)
        clear hK K
        (try simp only [Act.put, List.setIfInBounds_toArray, List.set_cons_zero, List.set_cons_succ])
        refine step_one 5 rfl (by kernel_rfl) (fun K hK => ?_)
        clear hHeld
        go_simp
        refine (HTT.out _).mono ?_
        rintro e wy3 ⟨rr, gr, vr, rfl, hb⟩
        replace HN := Lib.hid (show Mem wb [blkE P7 41 (ladV y2 w2 y3 w3)] wy3 from HN.out.below hb)
        obtain ⟨cr, hcr⟩ : ∃ c, (rr.map i64v).toArray = c := ⟨_, rfl⟩
        rw [hcr]
        have WW := refWrite_any rr gr
        rw [hcr, vr] at WW
        have hfin : fqB (Cu.fq (Cu.valL y2) * Cu.finv (Cu.fq (Cu.valL w2))) = fqB (Cu.ladU Cu.fqC (Cu.fq (Cu.valL x1)) (bitsOf cl)) := by rw [Cu.ladU, ← HV.out]; rfl
        rw [hfin] at WW
        obtain ⟨cq, hcq⟩ : ∃ c, ((fqB (Cu.ladU Cu.fqC (Cu.fq (Cu.valL x1)) (bitsOf cl))).map u8v).toArray = c := ⟨_, rfl⟩
        rw [hcq] at WW
        have HWW := Lib.hid WW
        have HQ := Lib.hid hcq
        clear WW hcr gr vr hcq hfin
        clear hb
        go_wp2_with fail
        refine hK.out _ _ (HN.out.blk 0 rfl) (fun hHeld => ?_)
        clear hK K
        (try simp only [Act.put, List.setIfInBounds_toArray, List.set_cons_zero, List.set_cons_succ])
        refine step_one 6 rfl (by kernel_rfl) (fun K hK => ?_)
        clear hHeld
        go_simp
        refine (HWW.out _).mono ?_
        rintro e wy4 ⟨rfl, hb⟩
        replace HN := Lib.hid (show Mem wb [blkE P7 41 (ladV y2 w2 y3 w3)] wy4 from HN.out.below hb)
        clear hb
        go_wp2_with fail
        refine hK.out _ _ (HN.out.blk 0 rfl) (fun hHeld => ?_)
        clear hK K
        (try simp only [Act.put, List.setIfInBounds_toArray, List.set_cons_zero, List.set_cons_succ])
        refine step_one 7 rfl (by kernel_rfl) (fun K hK => ?_)
        clear hHeld
        refine step_store_blk _ rfl 23 (.tmp 4) (.tmp 50) rfl (w.heap.size + 1 + 1) ((fqB (Cu.ladU Cu.fqC (Cu.fq (Cu.valL x1)) (bitsOf cl))).map u8v) rfl (by show Value.agg cq = _; rw [HQ.out]) 23 (aeZ 32) (HB.out.2.2.1.below HN.out.bel HB.out.2.2.1.lt) (cells32 _ (fqB_length _)) (by rw [List.length_map, fqB_length]; rfl) (u8v_one _) ?_
        intro wz hb9 hg9
        refine hK.out _ _ ((HN.out.blk 0 rfl).grown hg9 (by have h1 := MemE.low HN.out.1 0 _ rfl; have h2 := HB.out.2.2.1.lt; intro e; injection e with e; simp only [blkE] at h1; omega)) (fun hHeld => ?_)
        clear hK K
        (try simp only [Act.put])
        refine wpAnyH_done (by kernel_rfl) ?_ _
        go_wp2_with fail
        exact bodyPost_ret (results_blk rfl _ _ (w.heap.size + 1 + 1) 23 ((fqB (Cu.ladU Cu.fqC (Cu.fq (Cu.valL x1)) (bitsOf cl))).map u8v) 32 5 rfl hb9 Try.underlying23 (cells32 _ (fqB_length _))) rfl ⟨rfl, Below.grown (HB.out.2.2.2.trans (HN.out.bel.mono HB.out.2.2.2.size)) hg9 (Nat.le_trans HB.out.2.2.2.size HN.out.size) (fun k hk => by injection hk with hk; omega)⟩
end Go.Proofs.Ytgdgecehmnokdaa
