/-
  The contracts of aead.Seal and Open.
-/
import Derived.Test.YtkbefhmgcodpaaaAeTag
import Derived.Test.YtkbefhmgcodpaaaAeC
import Derived.Test.YtkbefhmgcodpaaaChXor
import Derived.Test.YtkbefhmgcodpaaaCoEqual
namespace Go.Proofs.Ytkbefhmgcodpaaa
open Go.RowKit

theorem coJoin_two (g : Nat) (t : TypeId) (A1 A2 : Option Addr) (n1 c1 n2 c2 : Nat) (l1 l2 : List UInt8) (M : Nat) (hM : n1 + n2 = M) (hn : M ≤ 1000000) (w : World) (hb : Blk w g t [.slice A1 n1 c1, .slice A2 n2 c2])
    (h1 : Rd w w.heap.size A1 n1 l1) (h2 : Rd w w.heap.size A2 n2 l2) :
    Calls Try.prog 34 #[.slice (some ⟨g, 0, none⟩) 2 2] w fun e w' => ∃ A' c', e = .returned (.slice A' M c') ∧ w'.ownsRow w.heap.size 5 1 (.slice A' M c') M ((l1 ++ l2).map u8v) ∧ Below w.heap.size w w' := by
  have hf : flat [⟨A1, n1, c1, l1⟩, ⟨A2, n2, c2, l2⟩] 2 = l1 ++ l2 := by simp [flat]
  have hl : (l1 ++ l2).length = M := by simp only [List.length_append]; rw [h1.1, h2.1, hM]
  have hJ := coJoin_any w.heap.size 2 (some ⟨g, 0, none⟩) [⟨A1, n1, c1, l1⟩, ⟨A2, n2, c2, l2⟩] (by simp) (by show (flat _ 2).length ≤ _; rw [hf, hl]; exact hn) w (Nat.le_refl _) (fun _ => ⟨g, rfl, hb.lt, fun j hj => by
    rw [hb.cell]
    match j, hj with
    | 0, _ => exact ⟨rfl, h1⟩
    | 1, _ => exact ⟨rfl, h2⟩
    | j + 2, hj => exact absurd hj (by simp)⟩)
  refine hJ.mono ?_
  rintro e w' ⟨A', c', he, ho, hbl⟩
  have e2 : ([⟨A1, n1, c1, l1⟩, ⟨A2, n2, c2, l2⟩] : List Part).length = 2 := rfl
  rw [e2, hf, hl] at he ho
  exact ⟨A', c', he, ho, hbl⟩

set_option maxRecDepth 100000 in
set_option maxHeartbeats 4000000 in
theorem sealC : SealC := by
  intro k nn hk hn Ap Am np cp nm cm pl more _ _ _ _ hnp hnm w hrp hrm
  have XC := fun (w' : World) (h : Rd w' w'.heap.size Ap np pl) => xor_any k nn hk hn 1 w'.heap.size Ap np cp pl (by omega) w' (Nat.le_refl _) h
  have TC := fun (A : Option Addr) (c' : Nat) => tagOf_any k nn hk hn A Am np c' nm cm (xorL k 1 nn pl) more (by omega) (by omega)
  rw [show ((1 : UInt32).toNat : Int) = 1 from rfl] at XC
  obtain ⟨ck, hck⟩ : ∃ ck, (k.map u8v).toArray = ck := ⟨_, rfl⟩
  obtain ⟨cn, hcn⟩ : ∃ cn, (nn.map u8v).toArray = cn := ⟨_, rfl⟩
  rw [hck, hcn] at XC TC
  rw [hck, hcn]
  have h0 : Blk ((w.alloc (.cells ck 23)).alloc (.cells cn 39)) w.heap.size 23 (k.map u8v) := by rw [← hck]; exact (Blk.new w _ _).alloc _
  have h1 : Blk ((w.alloc (.cells ck 23)).alloc (.cells cn 39)) (w.heap.size + 1) 39 (nn.map u8v) := by rw [← hcn]; exact Blk.new' (w.alloc (.cells ck 23)) (by simp) _ _
  have h3 : Below w.heap.size w ((w.alloc (.cells ck 23)).alloc (.cells cn 39)) := ((Below.refl _ _).alloc (Nat.le_refl _) _).alloc (by simp) _
  have hst := sealT_length k nn (xorL k 1 nn pl) more
  have hse : xorL k 1 nn pl ++ sealT k nn (xorL k 1 nn pl) more = sealL k nn pl more := rfl
  generalize sealL k nn pl more = se at hse
  generalize sealT k nn (xorL k 1 nn pl) more = st at TC hst hse
  generalize xorL k 1 nn pl = xl at XC TC hse
  obtain ⟨cs, hcs⟩ : ∃ cs, (st.map u8v).toArray = cs := ⟨_, rfl⟩
  rw [hcs] at TC
  have HP := Lib.hid (hrp.below h3)
  have HM := Lib.hid (hrm.below h3)
  have HC := Lib.hid (And.intro hck hcn)
  have HL := Lib.hid (And.intro hk hn)
  have HS := Lib.hid (And.intro hst (And.intro hcs hse))
  have HXC2 := Lib.hid XC
  have HTC2 := Lib.hid TC
  clear hck hcn hk hn hst hcs hse XC TC hrp hrm
  go_enter Try.func22, Try.ntmps22
  go_upto_region 1 with fail
  generalize ((w.alloc (.cells ck 23)).alloc (.cells cn 39)) = w1 at h0 h1 h3 HP HM ⊢
  have hw1 := h3.size
  have H1 := Lib.hid (show Blk w1 w.heap.size 23 (k.map u8v) ∧ Blk w1 (w.heap.size + 1) 39 (nn.map u8v) ∧ Below w.heap.size w w1 from ⟨h0, h1, h3⟩)
  clear h0 h1 h3
  replace HP := Lib.hid (HP.out.mono H1.out.2.2.size)
  replace HM := Lib.hid (HM.out.mono H1.out.2.2.size)
  go_wp2_with (first | (refine wpList_load_blk rfl 23 (.tmp 4) rfl w.heap.size rfl 23 (k.map u8v) H1.out.1 32 5 Try.underlying23 (cells32 k HL.out.1) ?_; rw [HC.out.1]) | (refine wpList_load_blk rfl 39 (.tmp 5) rfl (w.heap.size + 1) rfl 39 (nn.map u8v) H1.out.2.1 12 5 Try.underlying39 (ae_cellsN nn HL.out.2) ?_; rw [HC.out.2]))
  refine (HXC2.out _ HP.out).mono ?_
  rintro e w2 ⟨g1, rfl, ho, hb⟩
  replace H1 := Lib.hid (show Blk w2 w.heap.size 23 (k.map u8v) ∧ Blk w2 (w.heap.size + 1) 39 (nn.map u8v) ∧ Below w.heap.size w w2 from ⟨H1.out.1.below hb H1.out.1.lt, H1.out.2.1.below hb H1.out.2.1.lt, H1.out.2.2.trans (hb.mono H1.out.2.2.size)⟩)
  have HO := Lib.hid (Rd.of_own ho)
  replace HM := Lib.hid ((HM.out.below hb).mono hb.size)
  clear ho hb HP
  go_wp2_with (first | (refine wpList_load_blk rfl 23 (.tmp 4) rfl w.heap.size rfl 23 (k.map u8v) H1.out.1 32 5 Try.underlying23 (cells32 k HL.out.1) ?_; rw [HC.out.1]) | (refine wpList_load_blk rfl 39 (.tmp 5) rfl (w.heap.size + 1) rfl 39 (nn.map u8v) H1.out.2.1 12 5 Try.underlying39 (ae_cellsN nn HL.out.2) ?_; rw [HC.out.2]))
  refine (HTC2.out (some ⟨g1, 0, none⟩) np _ HO.out HM.out).mono ?_
  rintro e w3 ⟨rfl, hb⟩
  have HO3 := Lib.hid (And.intro ((HO.out.below hb).mono hb.size) (H1.out.2.2.trans (hb.mono H1.out.2.2.size)))
  clear hb HO H1 HM
  go_upto_region 3 with (refine wpList_store_blk rfl 54 (.tmp 10) (.tmp 19) rfl w3.heap.size (st.map u8v) rfl (by show Value.agg cs = _; rw [HS.out.2.1]) 54 (aeZ 16) (Blk.new w3 54 (aeZ 16)) (ae_cellsT st HS.out.1) (by rw [List.length_map, HS.out.1]; rfl) (u8v_one _) ?_; intro w4 hb4 hg4)
  simp only [Act.put]
  have hb34 : Below w3.heap.size w3 w4 := Below.grown ((Below.refl _ _).alloc (Nat.le_refl _) (.cells (aeZ 16).toArray 54)) hg4 (by simp) (by intro k hk; injection hk with hk; omega)
  have HO4 := Lib.hid (And.intro ((HO3.out.1.below hb34).mono hb34.size) (And.intro (HO3.out.2.trans (hb34.mono HO3.out.2.size)) (blk_all hb4 HS.out.1)))
  clear hb4 hg4 hb34 HO3
  generalize w3.heap.size = P at HO4 ⊢
  go_wp2_with fail
  have hg := Blk.new w4 27 [Value.slice (some ⟨g1, 0, none⟩) np np, .slice (some ⟨P, 0, none⟩) 16 16]
  have hb : Below w4.heap.size w4 (w4.alloc (.cells [Value.slice (some ⟨g1, 0, none⟩) np np, .slice (some ⟨P, 0, none⟩) 16 16].toArray 27)) := (Below.refl _ _).alloc (Nat.le_refl _) _
  rw [show [Value.slice (some ⟨g1, 0, none⟩) np np, .slice (some ⟨P, 0, none⟩) 16 16].toArray = #[Value.slice (some ⟨g1, 0, none⟩) np np, .slice (some ⟨P, 0, none⟩) 16 16] from rfl] at hg hb
  have H5 := Lib.hid (And.intro hg (And.intro ((HO4.out.1.below hb).mono hb.size) (And.intro ((HO4.out.2.2.below hb).mono hb.size) (HO4.out.2.1.trans (hb.mono HO4.out.2.1.size)))))
  clear hg hb HO4
  generalize w4.alloc (.cells #[Value.slice (some ⟨g1, 0, none⟩) np np, .slice (some ⟨P, 0, none⟩) 16 16] 27) = w5 at H5 ⊢
  generalize w4.heap.size = g5 at H5 ⊢
  refine (coJoin_two g5 27 _ _ np np 16 16 xl st (np + 16) rfl (by omega) _ H5.out.1 H5.out.2.1 H5.out.2.2.1).mono ?_
  rintro e w6 ⟨A6, c6, rfl, ho, hb⟩
  rw [HS.out.2.2] at ho
  have HF := Lib.hid (And.intro (own_base ho H5.out.2.2.2.size) (H5.out.2.2.2.trans (hb.mono H5.out.2.2.2.size)))
  clear ho hb H5
  go_wp2
  go_ret
  exact ⟨_, _, rfl, HF.out.1, HF.out.2⟩

set_option maxRecDepth 100000 in
set_option maxHeartbeats 4000000 in
theorem openC : OpenC := by
  intro k nn hk hn As Am ns cs0 nm cm sl more hnc _hcm _ _ hns hnm w hrs hrm
  have hsl : sl.length = ns := hrs.1
  by_cases h16 : ns < 16
  · have ho : openL k nn sl more = ([], 2) := by rw [openL, if_pos (by omega)]
    rw [ho]
    have d16 : decide ((ns : Int) < 16) = true := by simp; omega
    have hB := Lib.hid (((Below.refl w.heap.size w).alloc (Nat.le_refl _) (.cells (k.map u8v).toArray 23)).alloc (by simp) (.cells (nn.map u8v).toArray 39))
    obtain ⟨ck, hck⟩ : ∃ ck, (k.map u8v).toArray = ck := ⟨_, rfl⟩
    obtain ⟨cn, hcn⟩ : ∃ cn, (nn.map u8v).toArray = cn := ⟨_, rfl⟩
    rw [hck, hcn] at hB
    rw [hck, hcn]
    clear hck hcn ho
    go_enter Try.func23, Try.ntmps23
    go_wp2_with fail
    exact bodyPost_ret (results_tmp2 rfl _ _ _) rfl ⟨_, 0, rfl, Rd.nil _ _ _, Nat.zero_le _, Nat.zero_le _, hB.out⟩
  · obtain ⟨m, hm⟩ : ∃ m, ns - 16 = m := ⟨_, rfl⟩
    have d16 : decide ((ns : Int) < 16) = false := by simp; omega
    have hsb : (ns : Int) - 16 = (m : Int) := by omega
    have hsw : IntKind.i64.wrap ((ns : Int) - 16) = (m : Int) := by rw [hsb]; exact IntWalk.i64_in _ (by omega)
    have b1 : (m : Int) ≤ (cs0 : Int) := by omega
    have b2 : ¬ cs0 = m := by omega
    have b3 : (m : Int) ≤ (ns : Int) := by omega
    obtain ⟨sb, soff, rfl, hsbl, _⟩ := hrs.2 (by omega)
    have ho : openL k nn sl more = if sealT k nn (sl.take m) more = sl.drop m then (xorL k 1 nn (sl.take m), 0) else ([], 6) := by rw [openL, if_neg (by omega), hsl, hm]
    have hr1 := hrs.take (m := m) (by omega)
    have hr2 := hrs.drop m sb soff rfl (by omega)
    rw [show ns - m = 16 by omega] at hr2
    have htl : (sl.drop m).length = 16 := hr2.1
    have hcl : (sl.take m).length = m := hr1.1
    have XC := fun (w' : World) (h : Rd w' w'.heap.size (some ⟨sb, soff, none⟩) m (sl.take m)) => xor_any k nn hk hn 1 w'.heap.size (some ⟨sb, soff, none⟩) m cs0 (sl.take m) (by omega) w' (Nat.le_refl _) h
    have TC := tagOf_any k nn hk hn (some ⟨sb, soff, none⟩) Am m cs0 nm cm (sl.take m) more (by omega) (by omega)
    rw [show ((1 : UInt32).toNat : Int) = 1 from rfl] at XC
    have hst := sealT_length k nn (sl.take m) more
    have hxl : (xorL k 1 nn (sl.take m)).length = m := by rw [xorL_length, hcl]
    obtain ⟨st, hste⟩ : ∃ st, sealT k nn (sl.take m) more = st := ⟨_, rfl⟩
    rw [hste] at TC hst ho
    generalize xorL k 1 nn (sl.take m) = xl at XC hxl ho
    generalize sl.take m = cl at XC TC hr1 hcl hste
    generalize sl.drop m = tl at hr2 htl ho
    obtain ⟨⟨ol, oe⟩, hoe⟩ : ∃ o, openL k nn sl more = o := ⟨_, rfl⟩
    rw [hoe] at ho ⊢
    have HOE := Lib.hid ho
    clear hste ho hrs hoe
    obtain ⟨cs, hcs⟩ : ∃ cs, (st.map u8v).toArray = cs := ⟨_, rfl⟩
    rw [hcs] at TC
    obtain ⟨ck, hck⟩ : ∃ ck, (k.map u8v).toArray = ck := ⟨_, rfl⟩
    obtain ⟨cn, hcn⟩ : ∃ cn, (nn.map u8v).toArray = cn := ⟨_, rfl⟩
    rw [hck, hcn] at XC TC
    rw [hck, hcn]
    have h0 : Blk ((w.alloc (.cells ck 23)).alloc (.cells cn 39)) w.heap.size 23 (k.map u8v) := by rw [← hck]; exact (Blk.new w _ _).alloc _
    have h1 : Blk ((w.alloc (.cells ck 23)).alloc (.cells cn 39)) (w.heap.size + 1) 39 (nn.map u8v) := by rw [← hcn]; exact Blk.new' (w.alloc (.cells ck 23)) (by simp) _ _
    have h3 : Below w.heap.size w ((w.alloc (.cells ck 23)).alloc (.cells cn 39)) := ((Below.refl _ _).alloc (Nat.le_refl _) _).alloc (by simp) _
    have HP := Lib.hid (hr1.below h3)
    have HT := Lib.hid (hr2.below h3)
    have HM := Lib.hid (hrm.below h3)
    have HC := Lib.hid (And.intro hck hcn)
    have HL := Lib.hid (And.intro hk hn)
    have HS := Lib.hid (And.intro hst (And.intro hcs (And.intro hcl (And.intro htl hxl))))
    have HXC2 := Lib.hid XC
    have HTC2 := Lib.hid TC
    have HSM := Lib.hid hm
    have HCM := Lib.hid (show m ≤ maxLen by omega)
    clear hck hcn hk hn hst hcs hcl htl hxl XC TC hr1 hr2 hrm hsl hm
    go_enter Try.func23, Try.ntmps23
    go_upto_region 1 with fail
    generalize ((w.alloc (.cells ck 23)).alloc (.cells cn 39)) = w1 at h0 h1 h3 HP HT HM ⊢
    have H1 := Lib.hid (show Blk w1 w.heap.size 23 (k.map u8v) ∧ Blk w1 (w.heap.size + 1) 39 (nn.map u8v) ∧ Below w.heap.size w w1 from ⟨h0, h1, h3⟩)
    clear h0 h1 h3
    replace HP := Lib.hid (HP.out.mono H1.out.2.2.size)
    replace HT := Lib.hid (HT.out.mono H1.out.2.2.size)
    replace HM := Lib.hid (HM.out.mono H1.out.2.2.size)
    go_wp2_with (first | (refine wpList_load_blk rfl 23 (.tmp 4) rfl w.heap.size rfl 23 (k.map u8v) H1.out.1 32 5 Try.underlying23 (cells32 k HL.out.1) ?_; rw [HC.out.1]) | (refine wpList_load_blk rfl 39 (.tmp 5) rfl (w.heap.size + 1) rfl 39 (nn.map u8v) H1.out.2.1 12 5 Try.underlying39 (ae_cellsN nn HL.out.2) ?_; rw [HC.out.2]))
    clear d16 hsb hsw b1
    refine (HTC2.out _ HP.out HM.out).mono ?_
    rintro e w2 ⟨rfl, hb⟩
    replace H1 := Lib.hid (show Blk w2 w.heap.size 23 (k.map u8v) ∧ Blk w2 (w.heap.size + 1) 39 (nn.map u8v) ∧ Below w.heap.size w w2 from ⟨H1.out.1.below hb H1.out.1.lt, H1.out.2.1.below hb H1.out.2.1.lt, H1.out.2.2.trans (hb.mono H1.out.2.2.size)⟩)
    replace HP := Lib.hid ((HP.out.below hb).mono hb.size)
    replace HT := Lib.hid ((HT.out.below hb).mono hb.size)
    clear hb HM
    go_upto_region 6 with (refine wpList_store_blk rfl 54 (.tmp 12) (.tmp 26) rfl w2.heap.size (st.map u8v) rfl (by show Value.agg cs = _; rw [HS.out.2.1]) 54 (aeZ 16) (Blk.new w2 54 (aeZ 16)) (ae_cellsT st HS.out.1) (by rw [List.length_map, HS.out.1]; rfl) (u8v_one _) ?_; intro w4 hb4 hg4)
    simp only [Act.put]
    have hb24 : Below w2.heap.size w2 w4 := Below.grown ((Below.refl _ _).alloc (Nat.le_refl _) (.cells (aeZ 16).toArray 54)) hg4 (by simp) (by intro k hk; injection hk with hk; omega)
    replace H1 := Lib.hid (show Blk w4 w.heap.size 23 (k.map u8v) ∧ Blk w4 (w.heap.size + 1) 39 (nn.map u8v) ∧ Below w.heap.size w w4 from ⟨H1.out.1.below hb24 H1.out.1.lt, H1.out.2.1.below hb24 H1.out.2.1.lt, H1.out.2.2.trans (hb24.mono H1.out.2.2.size)⟩)
    replace HP := Lib.hid ((HP.out.below hb24).mono hb24.size)
    replace HT := Lib.hid ((HT.out.below hb24).mono hb24.size)
    have HG := Lib.hid (blk_all hb4 HS.out.1)
    clear hb4 hg4 hb24
    generalize w2.heap.size = P at HG ⊢
    have e16 : ns - m = 16 := by have := HSM.out; omega
    by_cases hst : st = tl
    · have ho := HOE.out
      rw [if_pos hst] at ho
      injection ho with ho1 ho2
      subst ho1 ho2
      have hbe : (tl == st) = true := by rw [beq_iff_eq]; exact hst.symm
      refine wp_region_held_drew (S := fun w5 => Below w4.heap.size w4 w5) (by kernel_rfl) ((Below.refl w4.heap.size w4).drew) (fun hHeld => ?_)
      refine take_first (v := ?_) 0 rfl (by kernel_rfl) (by kernel_rfl) (by kernel_rfl) (fun _ _ _ h => h) (Or.inl ⟨by rfl, ?_⟩) (by assumption) ?_
      rotate_left
      · (intro w hSw; (try dsimp only at hSw); go_simp; try with_reducible rfl)
      (try simp only [Act.put, List.setIfInBounds_toArray, List.set_cons_zero, List.set_cons_succ])
      refine take_first (v := ?_) 1 rfl (by kernel_rfl) (by kernel_rfl) (by kernel_rfl) (fun _ _ _ h => h) (Or.inl ⟨by rfl, ?_⟩) (by assumption) ?_
      rotate_left
      · (intro w hSw; (try dsimp only at hSw); go_simp; try with_reducible rfl)
      (try simp only [Act.put, List.setIfInBounds_toArray, List.set_cons_zero, List.set_cons_succ])
      refine take_first (v := ?_) 2 rfl (by kernel_rfl) (by kernel_rfl) (by kernel_rfl) (fun _ _ _ h => h) (Or.inl ⟨by rfl, ?_⟩) (by assumption) ?_
      rotate_left
      · (intro w hSw; (try dsimp only at hSw); go_simp; try with_reducible rfl)
      (try simp only [Act.put, List.setIfInBounds_toArray, List.set_cons_zero, List.set_cons_succ])
      refine take_first (v := ?_) 3 rfl (by kernel_rfl) (by kernel_rfl) (by kernel_rfl) (fun _ _ _ h => h) (Or.inl ⟨by rfl, ?_⟩) (by assumption) ?_
      rotate_left
      · (intro w hSw; (try dsimp only at hSw); go_simp; try with_reducible rfl)
      (try simp only [Act.put, List.setIfInBounds_toArray, List.set_cons_zero, List.set_cons_succ])
      refine step_one 4 rfl (by kernel_rfl) (fun K hK => ?_)
      go_simp
      refine (equal_any w4.heap.size 16 16 (cs0 - m) 16 _ _ tl st (by omega) (by omega) w4.drew (Nat.le_refl _) HT.out.drew HG.out.drew).mono ?_
      rintro e w6 ⟨rfl, hb6⟩
      rw [hbe]
      replace H1 := Lib.hid (show Blk w6 w.heap.size 23 (k.map u8v) ∧ Blk w6 (w.heap.size + 1) 39 (nn.map u8v) ∧ Below w.heap.size w w6 from ⟨H1.out.1.drew.below hb6 H1.out.1.lt, H1.out.2.1.drew.below hb6 H1.out.2.1.lt, H1.out.2.2.drew.trans (hb6.mono H1.out.2.2.size)⟩)
      replace HP := Lib.hid ((HP.out.drew.below hb6).mono hb6.size)
      have hb7 : Below w4.heap.size w4 w6 := (Below.refl w4.heap.size w4).drew.trans hb6
      clear hb6
      go_wp2_with fail
      refine hK.out _ _ (hb7) (fun hHeld => ?_)
      clear hK K
      (try simp only [Act.put, List.setIfInBounds_toArray, List.set_cons_zero, List.set_cons_succ])
      refine take_first (v := ?_) 5 rfl (by kernel_rfl) (by kernel_rfl) (by kernel_rfl) (fun _ _ _ h => h) (Or.inl ⟨by rfl, ?_⟩) (by assumption) ?_
      rotate_left
      · (intro w hSw; (try dsimp only at hSw); go_simp; try with_reducible rfl)
      (try simp only [Act.put, List.setIfInBounds_toArray, List.set_cons_zero, List.set_cons_succ])
      refine wpAnyH_done (by kernel_rfl) ?_ _
      clear hb7
      clear HG HT hHeld HOE
      go_wp2_with (first | (refine wpList_load_blk rfl 23 (.tmp 4) rfl w.heap.size rfl 23 (k.map u8v) H1.out.1 32 5 Try.underlying23 (cells32 k HL.out.1) ?_; rw [HC.out.1]) | (refine wpList_load_blk rfl 39 (.tmp 5) rfl (w.heap.size + 1) rfl 39 (nn.map u8v) H1.out.2.1 12 5 Try.underlying39 (ae_cellsN nn HL.out.2) ?_; rw [HC.out.2]))
      refine (HXC2.out _ HP.out).mono ?_
      rintro e w8 ⟨g8, rfl, ho6, hb6⟩
      have HF := Lib.hid (And.intro (Rd.of_own ho6) (H1.out.2.2.trans (hb6.mono H1.out.2.2.size)))
      clear ho6 hb6 H1 HP
      go_wp2_with fail
      have hoL := HS.out.2.2.2.2
      exact bodyPost_ret (results_tmp2 rfl _ _ _) rfl ⟨_, m, by rw [hoL]; rfl, by rw [hoL]; exact HF.out.1, by rw [hoL]; exact Nat.le_refl _, HCM.out, HF.out.2⟩
    · have ho := HOE.out
      rw [if_neg hst] at ho
      injection ho with ho1 ho2
      subst ho1 ho2
      have hbe : (tl == st) = false := by rw [beq_eq_false_iff_ne]; exact fun h => hst h.symm
      refine wp_region_held_drew (S := fun w5 => Below w4.heap.size w4 w5) (by kernel_rfl) ((Below.refl w4.heap.size w4).drew) (fun hHeld => ?_)
      refine take_first (v := ?_) 0 rfl (by kernel_rfl) (by kernel_rfl) (by kernel_rfl) (fun _ _ _ h => h) (Or.inl ⟨by rfl, ?_⟩) (by assumption) ?_
      rotate_left
      · (intro w hSw; (try dsimp only at hSw); go_simp; try with_reducible rfl)
      (try simp only [Act.put, List.setIfInBounds_toArray, List.set_cons_zero, List.set_cons_succ])
      refine take_first (v := ?_) 1 rfl (by kernel_rfl) (by kernel_rfl) (by kernel_rfl) (fun _ _ _ h => h) (Or.inl ⟨by rfl, ?_⟩) (by assumption) ?_
      rotate_left
      · (intro w hSw; (try dsimp only at hSw); go_simp; try with_reducible rfl)
      (try simp only [Act.put, List.setIfInBounds_toArray, List.set_cons_zero, List.set_cons_succ])
      refine take_first (v := ?_) 2 rfl (by kernel_rfl) (by kernel_rfl) (by kernel_rfl) (fun _ _ _ h => h) (Or.inl ⟨by rfl, ?_⟩) (by assumption) ?_
      rotate_left
      · (intro w hSw; (try dsimp only at hSw); go_simp; try with_reducible rfl)
      (try simp only [Act.put, List.setIfInBounds_toArray, List.set_cons_zero, List.set_cons_succ])
      refine take_first (v := ?_) 3 rfl (by kernel_rfl) (by kernel_rfl) (by kernel_rfl) (fun _ _ _ h => h) (Or.inl ⟨by rfl, ?_⟩) (by assumption) ?_
      rotate_left
      · (intro w hSw; (try dsimp only at hSw); go_simp; try with_reducible rfl)
      (try simp only [Act.put, List.setIfInBounds_toArray, List.set_cons_zero, List.set_cons_succ])
      refine step_one 4 rfl (by kernel_rfl) (fun K hK => ?_)
      go_simp
      refine (equal_any w4.heap.size 16 16 (cs0 - m) 16 _ _ tl st (by omega) (by omega) w4.drew (Nat.le_refl _) HT.out.drew HG.out.drew).mono ?_
      rintro e w6 ⟨rfl, hb6⟩
      rw [hbe]
      replace H1 := Lib.hid (show Blk w6 w.heap.size 23 (k.map u8v) ∧ Blk w6 (w.heap.size + 1) 39 (nn.map u8v) ∧ Below w.heap.size w w6 from ⟨H1.out.1.drew.below hb6 H1.out.1.lt, H1.out.2.1.drew.below hb6 H1.out.2.1.lt, H1.out.2.2.drew.trans (hb6.mono H1.out.2.2.size)⟩)
      replace HP := Lib.hid ((HP.out.drew.below hb6).mono hb6.size)
      have hb7 : Below w4.heap.size w4 w6 := (Below.refl w4.heap.size w4).drew.trans hb6
      clear hb6
      go_wp2_with fail
      refine hK.out _ _ (hb7) (fun hHeld => ?_)
      clear hK K
      (try simp only [Act.put, List.setIfInBounds_toArray, List.set_cons_zero, List.set_cons_succ])
      refine take_first (v := ?_) 5 rfl (by kernel_rfl) (by kernel_rfl) (by kernel_rfl) (fun _ _ _ h => h) (Or.inl ⟨by rfl, ?_⟩) (by assumption) ?_
      rotate_left
      · (intro w hSw; (try dsimp only at hSw); go_simp; try with_reducible rfl)
      (try simp only [Act.put, List.setIfInBounds_toArray, List.set_cons_zero, List.set_cons_succ])
      refine wpAnyH_done (by kernel_rfl) ?_ _
      clear hb7
      have HF := Lib.hid H1.out.2.2
      clear HG HT hHeld HOE H1 HP
      go_wp2_with fail
      exact bodyPost_ret (results_tmp2 rfl _ _ _) rfl ⟨_, 0, rfl, Rd.nil _ _ _, Nat.zero_le _, Nat.zero_le _, HF.out⟩
end Go.Proofs.Ytkbefhmgcodpaaa
