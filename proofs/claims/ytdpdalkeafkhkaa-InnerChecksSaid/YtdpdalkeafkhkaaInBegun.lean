/-
  The sanity check of layer 10: the example of the chapter. No statement is proved here.
-/
import Derived.Test.YtdpdalkeafkhkaaInC
import Derived.Test.YtdpdalkeafkhkaaInPacket
namespace Go.Proofs.Ytdpdalkeafkhkaa
open Go.RowKit

theorem step_make_full_g {P : Program} (w : World) {ops : Array Oper} {o : Oper} {a : Act} {K : Act → World → Prop} {Q : Exit → Act → World → Prop} {E : Prop} (hw : Region.wanted o (yielded ops a.tmps) = true) (l c : Operand) (t : TypeId) (ho : o.op = Op.makeSlice t l c)
    (base : Nat) (e : TypeId) (i : TypeInfo) (z : Value) (size : Nat) (h1 : P.underlying t = some (.slice e)) (h2 : P.info? e = some i) (h3 : i.zero = some z) (h4 : i.size = size)
    (kl kc : IntKind) (n : Nat) (hl : a.eval l = .int kl (n : Int)) (hc : a.eval c = .int kc (n : Int)) (b2 : i.bytes * n ≤ 281474976710656) (b3 : n ≤ maxLen) (b4 : base ≤ w.heap.size)
    (h : ∀ w', w'.ownsRow base e size (.slice (some ⟨w.heap.size, 0, none⟩) n n) n (madeCells z.cells (n * size)).toList → w.grownBy w' none → K (a.put o.dst (.slice (some ⟨w.heap.size, 0, none⟩) n n)) w') :
    if Region.wanted o (yielded ops a.tmps) = true then Oper.wp P o a w K Q else E := by
  rw [if_pos hw]
  obtain ⟨w', hrun, r1, r2⟩ := run_make_full (P := P) w base t e i z size h1 h2 h3 h4 kl kc n b2 b3 b4
  unfold Oper.wp
  simp [execOp, ho, hl, hc, hrun, Result.andThen]
  exact h w' r1 r2
theorem made_in (n : Nat) : (madeCells (Value.int IntKind.u8 0).cells (n * 1)).toList = (List.replicate n (0 : UInt8)).map u8v := by
  rw [show (Value.int IntKind.u8 0).cells = #[.int .u8 0] from rfl, toList_madeCells_one, Nat.mul_one, List.map_replicate]
  rfl
def exm : List UInt8 := packB (hostM 0 1) (hostM 0 2) 0 0
def exI : InfoM := ⟨hostM 0 1, hostM 0 2, 20⟩
theorem exI_ok : exI.ok := ⟨rfl, rfl, by simp [exI]⟩
theorem exm_check : checkB exm = (exI, 0) := by kernel_rfl
set_option maxRecDepth 100000 in
set_option maxHeartbeats 4000000 in
set_option linter.unusedSimpArgs false in
theorem in_begun_any (HKC : InCheckC) (HPD : InPadC) (w : World) : Calls Try.prog 15 #[] w fun e w' => e = .returned (.bool true) ∧ Below w.heap.size w w' := by
  obtain ⟨i0, hi, hz0, hz1, hz2⟩ := info_parts Try.info5
  obtain ⟨ii, hii⟩ : ∃ i, exI = i := ⟨_, rfl⟩
  have hck := exm_check
  have hok := exI_ok
  have k1 : (exI.cells.drop 0).take 17 = (hostM 0 1).cells := rfl
  have k2 : (exI.cells.drop 17).take 17 = (hostM 0 2).cells := rfl
  have k3 : exI.cells[34]? = some (.int .i64 20) := rfl
  rw [hii] at hck hok k1 k2 k3
  obtain ⟨c1, hc1⟩ : ∃ x, (hostM 0 1).cells.toArray = x := ⟨_, rfl⟩
  obtain ⟨c2, hc2⟩ : ∃ x, (hostM 0 2).cells.toArray = x := ⟨_, rfl⟩
  obtain ⟨ci, hci⟩ : ∃ x, ii.cells.toArray = x := ⟨_, rfl⟩
  have HH1 := Lib.hid (show ∀ W, Calls Try.prog 27 #[.int .i64 0, .int .i64 1] W fun e w' => e = .returned (.agg c1) ∧ Below W.heap.size W w' from fun W => hc1 ▸ caseHost_any 0 1 W)
  have HH2 := Lib.hid (show ∀ W, Calls Try.prog 27 #[.int .i64 0, .int .i64 2] W fun e w' => e = .returned (.agg c2) ∧ Below W.heap.size W w' from fun W => hc2 ▸ caseHost_any 0 2 W)
  have HPK := Lib.hid (show ∀ W, Calls Try.prog 26 #[.agg c1, .agg c2, .int .i64 0, .int .u8 0] W fun e w' => ∃ g, e = .returned (.slice (some ⟨g, 0, none⟩) 20 20) ∧ Rd w' w'.heap.size (some ⟨g, 0, none⟩) 20 exm ∧ Below W.heap.size W w' from fun W => by
    have h := casePacket_any (hostM 0 1) (hostM 0 2) rfl rfl 0 (by omega) 0 W
    rw [hc1, hc2] at h
    refine h.mono ?_
    rintro e w' ⟨g, rfl, hm⟩
    have hr := (hm.blk 0 rfl).rd 0 20 (by show 20 ≤ exm.length; exact Nat.le_refl 20)
    exact ⟨g, rfl, hr.mono (hm.blk 0 rfl).lt, hm.bel⟩)
  have HCK := Lib.hid (show ∀ W g, Rd W W.heap.size (some ⟨g, 0, none⟩) 20 exm → Calls Try.prog 9 #[.slice (some ⟨g, 0, none⟩) 20 20] W fun e w' => e = .returned (.tuple #[.agg ci, .int .i64 0]) ∧ Below W.heap.size W w' from fun W g hr => by
    have h := HKC (some ⟨g, 0, none⟩) 20 20 exm (by omega) (by unfold maxLen; omega) (by omega) W hr
    rw [hck, hci] at h
    exact h)
  have HPC := Lib.hid HPD
  have e1 := fun w' : World => addr_same (hostM 0 1) rfl w'
  have e2 := fun w' : World => addr_same (hostM 0 2) rfl w'
  rw [hc1] at e1
  rw [hc2] at e2
  have HE1 := Lib.hid e1
  have HE2 := Lib.hid e2
  have HC := Lib.hid (And.intro hc1 (And.intro hc2 (And.intro hci (And.intro k1 k2))))
  have HLC := Lib.hid k3
  have HOK := Lib.hid hok
  have HCO := Lib.hid (info_cellsOf ii hok)
  have HIL := Lib.hid (InfoM.cells_length hok)
  clear hii hck hok k1 k2 k3 hc1 hc2 hci e1 e2 HKC HPD
  have HM := Lib.hid (Mem.nil w)
  go_enter Try.func15, Try.ntmps15
  go_upto_region 1 with fail
  go_wp2_with fail
  go_simp
  refine (HH1.out _).mono ?_
  rintro e w1 ⟨rfl, hb⟩
  replace HM := Lib.hid (show Mem w [] w1 from HM.out.below hb)
  clear hb
  go_wp2_with fail
  go_simp
  refine (HH2.out _).mono ?_
  rintro e w2 ⟨rfl, hb⟩
  replace HM := Lib.hid (show Mem w [] w2 from HM.out.below hb)
  clear hb
  go_wp2_with fail
  go_simp
  refine (HPK.out _).mono ?_
  rintro e w3 ⟨g, rfl, hr, hb⟩
  replace HM := Lib.hid (show Mem w [] w3 from HM.out.below hb)
  clear hb
  have HR := Lib.hid hr
  clear hr
  go_wp2_with fail
  go_simp
  refine (HCK.out _ g HR.out).mono ?_
  rintro e w4 ⟨rfl, hb⟩
  replace HM := Lib.hid (show Mem w [] w4 from HM.out.below hb)
  clear hb
  clear HR
  have HA := Lib.hid (show Mem w [blkE w4.heap.size 31 info0.cells] (w4.alloc (.cells #[.bool false, .int .u8 0, .int .u8 0, .int .u8 0, .int .u8 0, .int .u8 0, .int .u8 0, .int .u8 0, .int .u8 0, .int .u8 0, .int .u8 0, .int .u8 0, .int .u8 0, .int .u8 0, .int .u8 0, .int .u8 0, .int .u8 0, .bool false, .int .u8 0, .int .u8 0, .int .u8 0, .int .u8 0, .int .u8 0, .int .u8 0, .int .u8 0, .int .u8 0, .int .u8 0, .int .u8 0, .int .u8 0, .int .u8 0, .int .u8 0, .int .u8 0, .int .u8 0, .int .u8 0, .int .i64 0] 31)) from HM.out.alloc rfl 31 #[.bool false, .int .u8 0, .int .u8 0, .int .u8 0, .int .u8 0, .int .u8 0, .int .u8 0, .int .u8 0, .int .u8 0, .int .u8 0, .int .u8 0, .int .u8 0, .int .u8 0, .int .u8 0, .int .u8 0, .int .u8 0, .int .u8 0, .bool false, .int .u8 0, .int .u8 0, .int .u8 0, .int .u8 0, .int .u8 0, .int .u8 0, .int .u8 0, .int .u8 0, .int .u8 0, .int .u8 0, .int .u8 0, .int .u8 0, .int .u8 0, .int .u8 0, .int .u8 0, .int .u8 0, .int .i64 0] info0.cells rfl)
  go_upto_region 2 with (refine wpList_store_blk rfl 31 (.tmp 1) (.tmp 8) rfl w4.heap.size ii.cells rfl (by show Value.agg ci = _; rw [HC.out.2.2.1]) 31 info0.cells (HA.out.blk 0 rfl) HCO.out (by rw [HIL.out]; rfl) (InfoM.one _) ?_; intro w6 hb hg)
  (try simp only [Act.put])
  replace HM := Lib.hid (show Mem w [blkE w4.heap.size 31 ii.cells] w6 from HA.out.put 0 rfl _ hg hb)
  clear HA hb hg
  generalize w4.heap.size = P at HM ⊢
  refine wp_region_held_drew (S := fun W' => Mem w [blkE P 31 ii.cells] W') (by kernel_rfl) ((HM.out).drew) (fun hHeld => ?_)
  replace HM := Lib.hid HM.out.drew
  generalize w6.drew = wd1 at HM hHeld ⊢
  refine take_first (v := ?_) 0 rfl (by kernel_rfl) (by kernel_rfl) (by kernel_rfl) (fun _ _ _ h => h) (Or.inl ⟨by rfl, ?_⟩) (by assumption) ?_
  rotate_left
  · (intro w hSw; (try dsimp only at hSw); go_simp; try with_reducible rfl)
  (try simp only [Act.put, List.setIfInBounds_toArray, List.set_cons_zero, List.set_cons_succ])
  refine take_first (v := ?_) 1 rfl (by kernel_rfl) (by kernel_rfl) (by kernel_rfl) (fun _ _ _ h => h) (Or.inl ⟨by rfl, ?_⟩) (by assumption) ?_
  rotate_left
  · (intro w hSw; (try dsimp only at hSw); go_simp; try with_reducible rfl)
  (try simp only [Act.put, List.setIfInBounds_toArray, List.set_cons_zero, List.set_cons_succ])
  refine take_first (v := ?_) 2 rfl (by kernel_rfl) (by kernel_rfl) (by kernel_rfl) (fun _ _ _ h => h) (Or.inl ⟨by rfl, ?_⟩) (by assumption) ?_
  rotate_left
  · (intro w hSw; (try dsimp only at hSw); go_simp; try with_reducible rfl)
  (try simp only [Act.put, List.setIfInBounds_toArray, List.set_cons_zero, List.set_cons_succ])
  refine take_first (v := ?_) 3 rfl (by kernel_rfl) (by kernel_rfl) (by kernel_rfl) (fun _ _ _ h => h) (Or.inl ⟨by rfl, ?_⟩) (by assumption) ?_
  rotate_left
  · (intro w hSw; (try dsimp only at hSw); go_simp; try with_reducible rfl)
  (try simp only [Act.put, List.setIfInBounds_toArray, List.set_cons_zero, List.set_cons_succ])
  refine take_first (v := ?_) 4 rfl (by kernel_rfl) (by kernel_rfl) (by kernel_rfl) (fun _ _ _ h => h) (Or.inl ⟨by rfl, ?_⟩) (by assumption) ?_
  rotate_left
  · (intro w hSw; (try dsimp only at hSw); have fb := (Mem.blk hSw 0 rfl).cell 34; rw [HLC.out] at fb; go_simp; try with_reducible rfl)
  (try simp only [Act.put, List.setIfInBounds_toArray, List.set_cons_zero, List.set_cons_succ])
  refine take_first (v := ?_) 5 rfl (by kernel_rfl) (by kernel_rfl) (by kernel_rfl) (fun _ _ _ h => h) (Or.inl ⟨by rfl, ?_⟩) (by assumption) ?_
  rotate_left
  · (intro w hSw; (try dsimp only at hSw); go_simp; try with_reducible rfl)
  (try simp only [Act.put, List.setIfInBounds_toArray, List.set_cons_zero, List.set_cons_succ])
  refine take_first (v := ?_) 6 rfl (by kernel_rfl) (by kernel_rfl) (by kernel_rfl) (fun _ _ _ h => h) (Or.inl ⟨by rfl, ?_⟩) (by assumption) ?_
  rotate_left
  · (intro w hSw; (try dsimp only at hSw); go_simp; try with_reducible rfl)
  (try simp only [Act.put, List.setIfInBounds_toArray, List.set_cons_zero, List.set_cons_succ])
  refine take_first (v := ?_) 7 rfl (by kernel_rfl) (by kernel_rfl) (by kernel_rfl) (fun _ _ _ h => h) (Or.inl ⟨by rfl, ?_⟩) (by assumption) ?_
  rotate_left
  · (intro w hSw; (try dsimp only at hSw); go_simp; try with_reducible rfl)
  (try simp only [Act.put, List.setIfInBounds_toArray, List.set_cons_zero, List.set_cons_succ])
  refine take_first (v := ?_) 8 rfl (by kernel_rfl) (by kernel_rfl) (by kernel_rfl) (fun _ _ _ h => h) (Or.inl ⟨by rfl, ?_⟩) (by assumption) ?_
  rotate_left
  · (intro w hSw; (try dsimp only at hSw); go_simp; try with_reducible rfl)
  (try simp only [Act.put, List.setIfInBounds_toArray, List.set_cons_zero, List.set_cons_succ])
  refine take_first (v := .agg c1) 9 rfl (by kernel_rfl) (by kernel_rfl) (by kernel_rfl) (fun _ _ _ h => h) (by rw [← HC.out.1]; exact yields_load_obj (by rfl) 29 (.tmp 18) rfl P 0 rfl (hostM 0 1).cells (fun w' hb => by have h := (Mem.blk hb 0 rfl).sub 0 17; rw [HC.out.2.2.2.1] at h; exact h) _ Try.underlying29 rfl (addr_cellsOf _ (hostM_ok _ _))) (by assumption) ?_
  (try simp only [Act.put, List.setIfInBounds_toArray, List.set_cons_zero, List.set_cons_succ])
  refine step_one 10 rfl (by kernel_rfl) (fun K hK => ?_)
  clear hHeld
  go_simp
  refine (HH1.out _).mono ?_
  rintro e wy2 ⟨rfl, hb⟩
  replace HM := Lib.hid (show Mem w [blkE P 31 ii.cells] wy2 from HM.out.below hb)
  clear hb
  go_wp2_with fail
  refine hK.out _ _ (HM.out) (fun hHeld => ?_)
  clear hK K
  (try simp only [Act.put, List.setIfInBounds_toArray, List.set_cons_zero, List.set_cons_succ])
  refine take_first (v := ?_) 11 rfl (by kernel_rfl) (by kernel_rfl) (by kernel_rfl) (fun _ _ _ h => h) (Or.inl ⟨by rfl, ?_⟩) (by assumption) ?_
  rotate_left
  · (intro w hSw; (try dsimp only at hSw); refine (run_eql_agg _ _ 29 29 19 20 ?_ c1 c1 true w ?_ ?_ addr_noguard (HE1.out w)).trans ?_ <;> first | with_reducible rfl | rfl)
  (try simp only [Act.put, List.setIfInBounds_toArray, List.set_cons_zero, List.set_cons_succ])
  refine take_first (v := ?_) 12 rfl (by kernel_rfl) (by kernel_rfl) (by kernel_rfl) (fun _ _ _ h => h) (Or.inl ⟨by rfl, ?_⟩) (by assumption) ?_
  rotate_left
  · (intro w hSw; (try dsimp only at hSw); go_simp; try with_reducible rfl)
  (try simp only [Act.put, List.setIfInBounds_toArray, List.set_cons_zero, List.set_cons_succ])
  refine take_first (v := ?_) 13 rfl (by kernel_rfl) (by kernel_rfl) (by kernel_rfl) (fun _ _ _ h => h) (Or.inl ⟨by rfl, ?_⟩) (by assumption) ?_
  rotate_left
  · (intro w hSw; (try dsimp only at hSw); go_simp; try with_reducible rfl)
  (try simp only [Act.put, List.setIfInBounds_toArray, List.set_cons_zero, List.set_cons_succ])
  refine take_first (v := ?_) 14 rfl (by kernel_rfl) (by kernel_rfl) (by kernel_rfl) (fun _ _ _ h => h) (Or.inl ⟨by rfl, ?_⟩) (by assumption) ?_
  rotate_left
  · (intro w hSw; (try dsimp only at hSw); go_simp; try with_reducible rfl)
  (try simp only [Act.put, List.setIfInBounds_toArray, List.set_cons_zero, List.set_cons_succ])
  refine take_first (v := .agg c2) 15 rfl (by kernel_rfl) (by kernel_rfl) (by kernel_rfl) (fun _ _ _ h => h) (by rw [← HC.out.2.1]; exact yields_load_obj (by rfl) 29 (.tmp 24) rfl P 17 rfl (hostM 0 2).cells (fun w' hb => by have h := (Mem.blk hb 0 rfl).sub 17 17; rw [HC.out.2.2.2.2] at h; exact h) _ Try.underlying29 rfl (addr_cellsOf _ (hostM_ok _ _))) (by assumption) ?_
  (try simp only [Act.put, List.setIfInBounds_toArray, List.set_cons_zero, List.set_cons_succ])
  refine step_one 16 rfl (by kernel_rfl) (fun K hK => ?_)
  clear hHeld
  go_simp
  refine (HH2.out _).mono ?_
  rintro e wy3 ⟨rfl, hb⟩
  replace HM := Lib.hid (show Mem w [blkE P 31 ii.cells] wy3 from HM.out.below hb)
  clear hb
  go_wp2_with fail
  refine hK.out _ _ (HM.out) (fun hHeld => ?_)
  clear hK K
  (try simp only [Act.put, List.setIfInBounds_toArray, List.set_cons_zero, List.set_cons_succ])
  refine take_first (v := ?_) 17 rfl (by kernel_rfl) (by kernel_rfl) (by kernel_rfl) (fun _ _ _ h => h) (Or.inl ⟨by rfl, ?_⟩) (by assumption) ?_
  rotate_left
  · (intro w hSw; (try dsimp only at hSw); refine (run_eql_agg _ _ 29 29 25 26 ?_ c2 c2 true w ?_ ?_ addr_noguard (HE2.out w)).trans ?_ <;> first | with_reducible rfl | rfl)
  (try simp only [Act.put, List.setIfInBounds_toArray, List.set_cons_zero, List.set_cons_succ])
  refine take_first (v := ?_) 18 rfl (by kernel_rfl) (by kernel_rfl) (by kernel_rfl) (fun _ _ _ h => h) (Or.inl ⟨by rfl, ?_⟩) (by assumption) ?_
  rotate_left
  · (intro w hSw; (try dsimp only at hSw); go_simp; try with_reducible rfl)
  (try simp only [Act.put, List.setIfInBounds_toArray, List.set_cons_zero, List.set_cons_succ])
  refine take_first (v := ?_) 19 rfl (by kernel_rfl) (by kernel_rfl) (by kernel_rfl) (fun _ _ _ h => h) (Or.inl ⟨by rfl, ?_⟩) (by assumption) ?_
  rotate_left
  · (intro w hSw; (try dsimp only at hSw); go_simp; try with_reducible rfl)
  (try simp only [Act.put, List.setIfInBounds_toArray, List.set_cons_zero, List.set_cons_succ])
  refine step_one 20 rfl (by kernel_rfl) (fun K hK => ?_)
  clear hHeld
  refine step_make_full_g _ (by rfl) (.const (.int .i64 20)) (.const (.int .i64 20)) 22 rfl wy3.heap.size 5 i0 (.int .u8 0) 1 Try.underlying22 hi hz0 hz1 .i64 .i64 20 rfl rfl (by rw [hz2]; omega) (by unfold maxLen; omega) (Nat.le_refl _) ?_
  intro wy4 hown hg
  rw [made_in] at hown
  have HZ := Lib.hid (Rd.of_own hown)
  replace HM := Lib.hid (show Mem w [blkE P 31 ii.cells] wy4 from HM.out.below (Below.grown (Below.refl _ _) hg (Nat.le_refl _) (by simp)))
  clear hown hg
  generalize wy3.heap.size = Q at HZ ⊢
  refine hK.out _ _ (HM.out) (fun hHeld => ?_)
  clear hK K
  (try simp only [Act.put, List.setIfInBounds_toArray, List.set_cons_zero, List.set_cons_succ])
  refine step_one 21 rfl (by kernel_rfl) (fun K hK => ?_)
  clear hHeld
  go_simp
  refine (HPC.out (some ⟨Q, 0, none⟩) 20 20 (List.replicate 20 0) (by omega) (by unfold maxLen; omega) (by omega) wy4 HZ.out).mono ?_
  rintro e wy5 ⟨A', c', rfl, hc1, hc2, -, hb⟩
  replace HM := Lib.hid (show Mem w [blkE P 31 ii.cells] wy5 from HM.out.below hb)
  clear hb
  rw [show (padB (List.replicate 20 (0 : UInt8))).length = 32 from rfl] at hc1 ⊢
  have HCC := Lib.hid (And.intro hc1 hc2)
  clear hc1 hc2
  go_wp2_with fail
  refine hK.out _ _ (HM.out) (fun hHeld => ?_)
  clear hK K
  (try simp only [Act.put, List.setIfInBounds_toArray, List.set_cons_zero, List.set_cons_succ])
  refine take_first (v := ?_) 22 rfl (by kernel_rfl) (by kernel_rfl) (by kernel_rfl) (fun _ _ _ h => h) (Or.inl ⟨by rfl, ?_⟩) (by assumption) ?_
  rotate_left
  · (intro w hSw; (try dsimp only at hSw); go_simp; try with_reducible rfl)
  (try simp only [Act.put, List.setIfInBounds_toArray, List.set_cons_zero, List.set_cons_succ])
  refine take_first (v := ?_) 23 rfl (by kernel_rfl) (by kernel_rfl) (by kernel_rfl) (fun _ _ _ h => h) (Or.inl ⟨by rfl, ?_⟩) (by assumption) ?_
  rotate_left
  · (intro w hSw; (try dsimp only at hSw); go_simp; try with_reducible rfl)
  (try simp only [Act.put, List.setIfInBounds_toArray, List.set_cons_zero, List.set_cons_succ])
  refine take_first (v := ?_) 24 rfl (by kernel_rfl) (by kernel_rfl) (by kernel_rfl) (fun _ _ _ h => h) (Or.inl ⟨by rfl, ?_⟩) (by assumption) ?_
  rotate_left
  · (intro w hSw; (try dsimp only at hSw); go_simp; try with_reducible rfl)
  (try simp only [Act.put, List.setIfInBounds_toArray, List.set_cons_zero, List.set_cons_succ])
  refine take_first (v := ?_) 25 rfl (by kernel_rfl) (by kernel_rfl) (by kernel_rfl) (fun _ _ _ h => h) (Or.inl ⟨by rfl, ?_⟩) (by assumption) ?_
  rotate_left
  · (intro w hSw; (try dsimp only at hSw); go_simp; try with_reducible rfl)
  (try simp only [Act.put, List.setIfInBounds_toArray, List.set_cons_zero, List.set_cons_succ])
  refine wpAnyH_done (by kernel_rfl) ?_ _
  have HF := Lib.hid HM.out.bel
  clear HM
  go_wp2_with fail
  go_ret
  exact ⟨rfl, HF.out⟩
end Go.Proofs.Ytdpdalkeafkhkaa
