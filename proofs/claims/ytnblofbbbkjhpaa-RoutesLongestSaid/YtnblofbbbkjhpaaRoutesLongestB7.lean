/-
  What is asked of Insert holds of the landed one. What is asked of Lookup holds of the landed one. RoutesLongest returns true for every input, by what the landed functions give. No statement is proved here.
-/
import Derived.Shelf.Abstract
import Derived.RegionTactic
import Derived.Deep.DeepCutAuto
import Derived.Test.YtnblofbbbkjhpaaRoutesLongestB6
namespace Go.Proofs.Ytnblofbbbkjhpaa
open Go.RowKit

set_option maxRecDepth 100000 in
set_option maxHeartbeats 8000000 in
theorem rtInsC : RtInsC 12 := by
  intro A n c l a bits k w hoa hob hk harg
  obtain ⟨hn, hnc, hcm, hr⟩ := harg
  have HO := Lib.hid hr.2
  have HL := Lib.hid hr.len
  have HNC := Lib.hid (And.intro hnc hcm)
  have HARG := Lib.hid (And.intro hoa (And.intro hob hk))
  have HNO := Lib.hid (show (RouteM.mk a bits k).ok from ⟨hoa, hk, hob⟩)
  have hbt := route_built ⟨a, bits, k⟩ ⟨hoa, hk, hob⟩
  have hva := valid_any a bits hoa
  have hpl := fun W (h : RtRd W W.heap.size A n l) => place_any A n c l (by omega) a bits hoa W h
  obtain ⟨ik, hik, hiz, his, hib⟩ := routeInfo
  have HKI := Lib.hid (And.intro hik (And.intro hiz (And.intro his hib)))
  clear hik hiz his hib
  obtain ⟨pa, hpa⟩ : ∃ z, (prefC a bits).toArray = z := ⟨_, rfl⟩
  obtain ⟨ka, hka⟩ : ∃ z, (k.map u8v).toArray = z := ⟨_, rfl⟩
  obtain ⟨nr, hnr⟩ : ∃ z, (RouteM.mk a bits k).cells.toArray = z := ⟨_, rfl⟩
  obtain ⟨y, hy⟩ : ∃ y, validM a bits = y := ⟨_, rfl⟩
  simp only [hpa, hka, hnr] at hbt
  rw [hpa, hy] at hva
  rw [hpa] at hpl
  rw [hpa, hka]
  have hm0 := (((Lows.nil w).cons (rtL A n l) hr).alloc 28 pa (prefC a bits) hpa.symm).alloc 30 ka (k.map u8v) hka.symm
  have HM := Lib.hid (show Lows w [blkL (w.heap.size + 1) 30 (k.map u8v), blkL w.heap.size 28 (prefC a bits), rtL A n l] ((w.alloc (.cells pa 28)).alloc (.cells ka 30)) from by simpa using hm0)
  have HPA := Lib.hid hpa
  have HKA := Lib.hid hka
  have HNR := Lib.hid hnr
  have HBT := Lib.hid hbt
  have HVA := Lib.hid hva
  have HPL := Lib.hid hpl
  have HY := Lib.hid hy
  have hlt1 : w.heap.size < ((w.alloc (.cells pa 28)).alloc (.cells ka 30)).heap.size := by simp; omega
  have HLT := Lib.hid hlt1
  clear hoa hob hk hr hnc hcm hbt hva hpl hpa hka hnr hy hm0 hlt1
  go_enter Try.func12, Try.ntmps12
  go_upto_region 1 with fail
  generalize (w.alloc (.cells pa 28)).alloc (.cells ka 30) = w1 at HM HLT ⊢
  go_wp2_with (refine wpList_load_obj rfl 28 (.tmp 4) rfl w.heap.size 0 rfl (prefC a bits) ((HM.out.blk 1 rfl).all) _ Try.underlying28 rfl (pref_cellsOf' a HARG.out.1 bits) ?_; rw [HPA.out])
  refine (HVA.out _).mono ?_
  rintro e w2 ⟨rfl, hb⟩
  have HB2 := Lib.hid hb
  have HM2 := Lib.hid (HM.out.below hb)
  clear hb HM HVA
  cases y with
  | false =>
    have HRES := Lib.hid (show insM l a bits k = ([], 1) from by rw [insM, if_pos HY.out])
    go_wp2
    go_ret2
    rw [HRES.out]
    exact ⟨_, rfl, none, 0, rfl, Nat.le_refl _, by unfold maxLen; omega, RtRd.nil, HM2.out.bel⟩
  | true =>
    have HINS := Lib.hid (show insM l a bits k = match findM a bits l with
      | some i => (l.set i ⟨a, bits, k⟩, 0)
      | none => if 16 ≤ l.length then ([], 12) else (l.take (aheadM a bits l) ++ ⟨a, bits, k⟩ :: l.drop (aheadM a bits l), 0) from by
      rw [insM, if_neg (by rw [HY.out]; simp)]
      all_goals (cases findM a bits l <;> rfl))
    have HZ := Lib.hid (Blk.new w2 37 routeZ)
    go_upto_region 4 with (first | (refine wpList_load_obj rfl 28 (.tmp 4) rfl w.heap.size 0 rfl (prefC a bits) ((HM2.out.blk 1 rfl).all) _ Try.underlying28 rfl (pref_cellsOf' a HARG.out.1 bits) ?_; rw [HPA.out]) | (refine wpList_load_obj rfl 30 (.tmp 5) rfl (w.heap.size + 1) 0 rfl (k.map u8v) ((HM2.out.blk 0 rfl).all) _ Try.underlying30 rfl (key_cellsOf k HARG.out.2.2) ?_; rw [HKA.out]) | (refine wpList_build_as rfl 37 [(0, .tmp 14), (1, .tmp 15)] rfl nr ?_ ?_; exact HBT.out) | (refine wpList_store_obj rfl 37 (.tmp 8) (.tmp 16) rfl w2.heap.size 0 (RouteM.mk a bits k).cells rfl (by show Value.agg nr = _; rw [HNR.out]) 37 routeZ HZ.out (route_cellsOf _ HNO.out) (by rw [RouteM.cells_length HNO.out, routeZ_length]; omega) (route_one _) ?_; intro w4 hb4 hg4))
    rw [setL_all routeZ _ (by rw [RouteM.cells_length HNO.out, routeZ_length])] at hb4
    have hm4 := (HM2.out.below (below_fresh hg4)).cons (blkL w2.heap.size 37 (RouteM.mk a bits k).cells) hb4
    have HB4 := Lib.hid (HB2.out.trans ((below_fresh hg4).mono HB2.out.size))
    clear hb4 hg4 HZ HM2 HB2
    generalize w2.heap.size = P8 at hm4 ⊢
    have HM := Lib.hid (show Lows w [blkL P8 37 (RouteM.mk a bits k).cells, blkL (w.heap.size + 1) 30 (k.map u8v), blkL w.heap.size 28 (prefC a bits), rtL A n l] w4 from hm4)
    clear hm4
    have hpr : PredB Try.prog 35 #[.pointer (some ⟨w.heap.size, 0, none⟩)] (prefP a bits) w1.heap.size w4 (rtsV l) := by
      intro o ho W hW
      obtain ⟨r, hr, rfl⟩ := rts_mem HO.out ho
      rw [prefP_is HARG.out.1 hr]
      have hw1 := HLT.out
      exact insPred_any a bits HARG.out.1 HARG.out.2.1 r hr w.heap.size W (Nat.lt_of_lt_of_le hw1 (Nat.le_trans HB4.out.size hW.size)) (((HM.out.blk 2 rfl).all).mono hW hw1)
    have hix := rtIdx_any A n c (rtsV l) (by omega) 35 #[.pointer (some ⟨w.heap.size, 0, none⟩)] (enters_of Try.func35 (by kernel_rfl) rfl) (prefP a bits) w1.heap.size w4 HB4.out.size (HM.out.get (f := rtL A n l) 3 rfl).1 hpr
    rw [idxM_pref HO.out HARG.out.1] at hix
    obtain ⟨f, hf⟩ : ∃ f, findM a bits l = f := ⟨_, rfl⟩
    rw [hf] at hix
    have HFD := Lib.hid hf
    have HIX := Lib.hid hix
    clear hpr hix hf
    go_wp2_with fail
    refine HIX.out.mono ?_
    rintro e wz ⟨rfl, hb⟩
    replace HM := Lib.hid (HM.out.below hb)
    clear hb HIX HB4 HLT
    cases f with
    | some i =>
      have hi : i < n := by
        have h := HFD.out
        rw [findM, List.findIdx?_eq_some_iff_getElem] at h
        obtain ⟨h, _⟩ := h
        rw [← HL.out]
        exact h
      have HIJ := Lib.hid (show i ≤ n ∧ i + 1 ≤ n from ⟨by omega, by omega⟩)
      have HRES := Lib.hid (show insM l a bits k = (l.take i ++ RouteM.mk a bits k :: l.drop (i + 1), 0) from by
        rw [HINS.out, HFD.out]
        show (l.set i _, 0) = _
        rw [List.set_eq_take_append_cons_drop, if_pos (by rw [HL.out]; exact hi)])
      have HLEN := Lib.hid (show (l.take i ++ RouteM.mk a bits k :: l.drop (i + 1)).length = i + (1 + (n - (i + 1))) from by
        rw [List.length_append, List.length_cons, List.length_take, List.length_drop, HL.out]; omega)
      have hadd : IntKind.i64.wrap ((i : Int) + 1) = ((i + 1 : Nat) : Int) := by rw [IntWalk.i64_in _ (by omega)]; omega
      have d1 : decide ((i : Int) ≥ 0) = true := by simp
      clear HINS HFD HO HL hi
      go_upto_region 6 with fail
      refine wp_region_held_drew (S := fun W' => Lows w [blkL P8 37 (RouteM.mk a bits k).cells, blkL (w.heap.size + 1) 30 (k.map u8v), blkL w.heap.size 28 (prefC a bits), rtL A n l] W') (by kernel_rfl) (HM.out.drew) (fun hHeld => ?_)
      replace HM := Lib.hid HM.out.drew
      generalize wz.drew = wd1 at HM hHeld ⊢
      refine take_first (v := ?_) 0 rfl (by kernel_rfl) (by kernel_rfl) (by kernel_rfl) (fun _ _ _ h => h) (Or.inl ⟨by rfl, ?_⟩) (by assumption) ?_
      rotate_left
      · (intro w hSw; (try dsimp only at hSw); go_simp; try with_reducible rfl)
      (try simp only [Act.put, List.setIfInBounds_toArray, List.set_cons_zero, List.set_cons_succ])
      refine take_first (v := ?_) 1 rfl (by kernel_rfl) (by kernel_rfl) (by kernel_rfl) (fun _ _ _ h => h) (Or.inl ⟨by rfl, ?_⟩) (by assumption) ?_
      rotate_left
      · (intro w hSw; (try dsimp only at hSw); go_simp; try with_reducible rfl)
      (try simp only [Act.put, List.setIfInBounds_toArray, List.set_cons_zero, List.set_cons_succ])
      refine take_first (v := ?_) 2 rfl (by kernel_rfl) (by kernel_rfl) (by kernel_rfl) (fun _ _ _ h => h) (Or.inl ⟨by rfl, ?_⟩) (by assumption) ?_
      rotate_left
      · (intro w hSw; (try dsimp only at hSw); have s := rt_h A (n := n) c i HIJ.out.1 HNC.out.1 w; go_simp; try with_reducible rfl)
      (try simp only [Act.put, List.setIfInBounds_toArray, List.set_cons_zero, List.set_cons_succ])
      refine take_first (v := .agg nr) 3 rfl (by kernel_rfl) (by kernel_rfl) (by kernel_rfl) (fun _ _ _ h => h) (by rw [← HNR.out]; exact yields_load_obj (by rfl) 37 (.tmp 8) rfl P8 0 rfl (RouteM.mk a bits k).cells (fun w' hb => (Lows.blk hb 0 rfl).all) _ Try.underlying37 rfl (route_cellsOf _ HNO.out)) (by assumption) ?_
      (try simp only [Act.put, List.setIfInBounds_toArray, List.set_cons_zero, List.set_cons_succ])
      refine take_first (v := ?_) 5 rfl (by kernel_rfl) (by kernel_rfl) (by kernel_rfl) (fun _ _ _ h => h) (Or.inl ⟨by rfl, ?_⟩) (by assumption) ?_
      rotate_left
      · (intro w hSw; (try dsimp only at hSw); go_simp; try with_reducible rfl)
      (try simp only [Act.put, List.setIfInBounds_toArray, List.set_cons_zero, List.set_cons_succ])
      refine take_first (v := ?_) 6 rfl (by kernel_rfl) (by kernel_rfl) (by kernel_rfl) (fun _ _ _ h => h) (Or.inl ⟨by rfl, ?_⟩) (by assumption) ?_
      rotate_left
      · (intro w hSw; (try dsimp only at hSw); go_simp; try with_reducible rfl)
      (try simp only [Act.put, List.setIfInBounds_toArray, List.set_cons_zero, List.set_cons_succ])
      refine take_first (v := ?_) 7 rfl (by kernel_rfl) (by kernel_rfl) (by kernel_rfl) (fun _ _ _ h => h) (Or.inl ⟨by rfl, ?_⟩) (by assumption) ?_
      rotate_left
      · (intro w hSw; (try dsimp only at hSw); have s := hadd; go_simp; try with_reducible rfl)
      (try simp only [Act.put, List.setIfInBounds_toArray, List.set_cons_zero, List.set_cons_succ])
      refine take_first (v := ?_) 8 rfl (by kernel_rfl) (by kernel_rfl) (by kernel_rfl) (fun _ _ _ h => h) (Or.inl ⟨by rfl, ?_⟩) (by assumption) ?_
      rotate_left
      · (intro w hSw; (try dsimp only at hSw); have s := rt_l A n c (i + 1) HIJ.out.2 w; rw [show ((i + 1 : Nat) : Int) = (i : Int) + 1 from by omega] at s; go_simp; try with_reducible rfl)
      (try simp only [Act.put, List.setIfInBounds_toArray, List.set_cons_zero, List.set_cons_succ])
      refine step_one 4 rfl (by kernel_rfl) (fun K hK => ?_)
      clear hHeld
      refine step_buildOne rfl 23 37 (.tmp 26) rfl nr rfl 50 Try.underlying23 ik HKI.out.1 HKI.out.2.2.1 _ HKI.out.2.1 (by omega) (by omega) (by rw [← HNR.out, List.size_toArray, RouteM.cells_length HNO.out]) ?_
      have hm9 := HM.out.alloc 37 nr (RouteM.mk a bits k).cells HNR.out.symm
      generalize wd1.alloc (.cells nr 37) = wy2 at hm9 ⊢
      generalize wd1.heap.size = g1 at hm9 ⊢
      replace HM := Lib.hid (show Lows w [blkL g1 37 (RouteM.mk a bits k).cells, blkL P8 37 (RouteM.mk a bits k).cells, blkL (w.heap.size + 1) 30 (k.map u8v), blkL w.heap.size 28 (prefC a bits), rtL A n l] wy2 from hm9)
      clear hm9
      refine hK.out _ _ (HM.out.tail 0) (fun hHeld => ?_)
      clear hK K
      (try simp only [Act.put, List.setIfInBounds_toArray, List.set_cons_zero, List.set_cons_succ])
      refine wpAnyH_stronger (T := fun W' => Lows w [blkL g1 37 (RouteM.mk a bits k).cells, blkL P8 37 (RouteM.mk a bits k).cells, blkL (w.heap.size + 1) 30 (k.map u8v), blkL w.heap.size 28 (prefC a bits), rtL A n l] W') (fun _ h' => (h'.tail 0)) _ _ _ _ ?_
      replace hHeld := HM.out
      refine step_one 9 rfl (by kernel_rfl) (fun K hK => ?_)
      clear hHeld
      go_simp
      have hm9 := HM.out.alloc 23 #[.slice (addrK A 0 c 50) i c, .slice (some ⟨g1, 0, none⟩) 1 1, .slice (addrK A (i + 1) c 50) (n - (i + 1)) (c - (i + 1))] (catV A n c i (i + 1) g1) rfl
      generalize wy2.alloc (.cells #[.slice (addrK A 0 c 50) i c, .slice (some ⟨g1, 0, none⟩) 1 1, .slice (addrK A (i + 1) c 50) (n - (i + 1)) (c - (i + 1))] 23) = wy3 at hm9 ⊢
      generalize wy2.heap.size = g2 at hm9 ⊢
      replace HM := Lib.hid (show Lows w [blkL g2 23 (catV A n c i (i + 1) g1), blkL g1 37 (RouteM.mk a bits k).cells, blkL P8 37 (RouteM.mk a bits k).cells, blkL (w.heap.size + 1) 30 (k.map u8v), blkL w.heap.size 28 (prefC a bits), rtL A n l] wy3 from hm9)
      clear hm9
      refine hK.out _ _ (HM.out.tail 0) (fun hHeld => ?_)
      clear hK K
      (try simp only [Act.put, List.setIfInBounds_toArray, List.set_cons_zero, List.set_cons_succ])
      refine wpAnyH_stronger (T := fun W' => Lows w [blkL g2 23 (catV A n c i (i + 1) g1), blkL g1 37 (RouteM.mk a bits k).cells, blkL P8 37 (RouteM.mk a bits k).cells, blkL (w.heap.size + 1) 30 (k.map u8v), blkL w.heap.size 28 (prefC a bits), rtL A n l] W') (fun _ h' => (h'.tail 0)) _ _ _ _ ?_
      replace hHeld := HM.out
      refine step_one 10 rfl (by kernel_rfl) (fun K hK => ?_)
      clear hHeld
      go_simp
      refine (cat_any A n c i (i + 1) l (RouteM.mk a bits k) hn HNC.out.1 HIJ.out.1 HIJ.out.2 HNO.out g1 g2 23 _ (HM.out.get (f := rtL A n l) 5 rfl) (HM.out.blk 1 rfl) (HM.out.blk 0 rfl)).mono ?_
      rintro e wy4 ⟨A7, c7, rfl, hr7, hc7, hb⟩
      replace HM := Lib.hid (show Lows w [rtL A7 (i + (1 + (n - (i + 1)))) (l.take i ++ RouteM.mk a bits k :: l.drop (i + 1)), blkL g2 23 (catV A n c i (i + 1) g1), blkL g1 37 (RouteM.mk a bits k).cells, blkL P8 37 (RouteM.mk a bits k).cells, blkL (w.heap.size + 1) 30 (k.map u8v), blkL w.heap.size 28 (prefC a bits), rtL A n l] wy4 from (HM.out.below hb).cons (rtL A7 (i + (1 + (n - (i + 1)))) (l.take i ++ RouteM.mk a bits k :: l.drop (i + 1))) (hr7))
      clear hb
      have HC7 := Lib.hid hc7
      clear hc7 hr7
      go_wp2_with fail
      refine hK.out _ _ (HM.out.tail 0) (fun hHeld => ?_)
      clear hK K
      (try simp only [Act.put, List.setIfInBounds_toArray, List.set_cons_zero, List.set_cons_succ])
      refine wpAnyH_stronger (T := fun W' => Lows w [rtL A7 (i + (1 + (n - (i + 1)))) (l.take i ++ RouteM.mk a bits k :: l.drop (i + 1)), blkL g2 23 (catV A n c i (i + 1) g1), blkL g1 37 (RouteM.mk a bits k).cells, blkL P8 37 (RouteM.mk a bits k).cells, blkL (w.heap.size + 1) 30 (k.map u8v), blkL w.heap.size 28 (prefC a bits), rtL A n l] W') (fun _ h' => (h'.tail 0)) _ _ _ _ ?_
      replace hHeld := HM.out
      refine take_first (v := ?_) 11 rfl (by kernel_rfl) (by kernel_rfl) (by kernel_rfl) (fun _ _ _ h => h) (Or.inl ⟨by rfl, ?_⟩) (by assumption) ?_
      rotate_left
      · (intro w hSw; (try dsimp only at hSw); go_simp; try with_reducible rfl)
      (try simp only [Act.put, List.setIfInBounds_toArray, List.set_cons_zero, List.set_cons_succ])
      refine take_first (v := ?_) 12 rfl (by kernel_rfl) (by kernel_rfl) (by kernel_rfl) (fun _ _ _ h => h) (Or.inl ⟨by rfl, ?_⟩) (by assumption) ?_
      rotate_left
      · (intro w hSw; (try dsimp only at hSw); go_simp; try with_reducible rfl)
      (try simp only [Act.put, List.setIfInBounds_toArray, List.set_cons_zero, List.set_cons_succ])
      refine wpAnyH_done (by kernel_rfl) ?_ _
      clear hHeld
      have HF := Lib.hid (And.intro (HM.out.get (f := rtL A7 (i + (1 + (n - (i + 1)))) (l.take i ++ RouteM.mk a bits k :: l.drop (i + 1))) 0 rfl) HM.out.bel)
      clear HM
      go_wp2_with fail
      go_ret2
      rw [HRES.out]
      exact ⟨_, rfl, A7, c7, by rw [HLEN.out]; rfl, by rw [HLEN.out]; exact HC7.out.1, HC7.out.2, by rw [HLEN.out]; exact HF.out.1, HF.out.2⟩
    | none =>
      by_cases h16 : 16 ≤ n
      · have HRES := Lib.hid (show insM l a bits k = ([], 12) from by
          rw [HINS.out, HFD.out]
          show (if 16 ≤ l.length then _ else _) = _
          rw [if_pos (by rw [HL.out]; exact h16)])
        have d1 : decide ((n : Int) ≥ 16) = true := by simp; omega
        clear HINS HFD
        go_wp2
        go_ret2
        rw [HRES.out]
        exact ⟨_, rfl, none, 0, rfl, Nat.le_refl _, by unfold maxLen; omega, RtRd.nil, HM.out.bel⟩
      · have hal : aheadM a bits l ≤ n := by rw [← HL.out]; exact aheadM_le a bits l
        have hres : insM l a bits k = (l.take (aheadM a bits l) ++ RouteM.mk a bits k :: l.drop (aheadM a bits l), 0) := by
          rw [HINS.out, HFD.out]
          show (if 16 ≤ l.length then _ else _) = _
          rw [if_neg (by rw [HL.out]; exact h16)]
        have hpl := HPL.out
        generalize aheadM a bits l = i at hal hres hpl
        have HIJ := Lib.hid (show i ≤ n ∧ i ≤ n from ⟨hal, hal⟩)
        have HRES := Lib.hid hres
        have HP2 := Lib.hid hpl
        have HLEN := Lib.hid (show (l.take i ++ RouteM.mk a bits k :: l.drop i).length = i + (1 + (n - i)) from by
          rw [List.length_append, List.length_cons, List.length_take, List.length_drop, HL.out]; omega)
        have d1 : decide ((n : Int) ≥ 16) = false := by simp; omega
        clear HINS HFD HO HL hal hres hpl HPL
        go_wp2_with (refine wpList_load_obj rfl 28 (.tmp 4) rfl w.heap.size 0 rfl (prefC a bits) ((HM.out.blk 2 rfl).all) _ Try.underlying28 rfl (pref_cellsOf' a HARG.out.1 bits) ?_; rw [HPA.out])
        refine (HP2.out _ (HM.out.get (f := rtL A n l) 3 rfl)).mono ?_
        rintro e wq ⟨rfl, hb⟩
        replace HM := Lib.hid (show Lows w [blkL P8 37 (RouteM.mk a bits k).cells, blkL (w.heap.size + 1) 30 (k.map u8v), blkL w.heap.size 28 (prefC a bits), rtL A n l] wq from HM.out.below hb)
        clear hb HP2
        go_upto_region 10 with fail
        refine wp_region_held_drew (S := fun W' => Lows w [blkL P8 37 (RouteM.mk a bits k).cells, blkL (w.heap.size + 1) 30 (k.map u8v), blkL w.heap.size 28 (prefC a bits), rtL A n l] W') (by kernel_rfl) (HM.out.drew) (fun hHeld => ?_)
        replace HM := Lib.hid HM.out.drew
        generalize wq.drew = wd1 at HM hHeld ⊢
        refine take_first (v := ?_) 0 rfl (by kernel_rfl) (by kernel_rfl) (by kernel_rfl) (fun _ _ _ h => h) (Or.inl ⟨by rfl, ?_⟩) (by assumption) ?_
        rotate_left
        · (intro w hSw; (try dsimp only at hSw); go_simp; try with_reducible rfl)
        (try simp only [Act.put, List.setIfInBounds_toArray, List.set_cons_zero, List.set_cons_succ])
        refine take_first (v := ?_) 1 rfl (by kernel_rfl) (by kernel_rfl) (by kernel_rfl) (fun _ _ _ h => h) (Or.inl ⟨by rfl, ?_⟩) (by assumption) ?_
        rotate_left
        · (intro w hSw; (try dsimp only at hSw); go_simp; try with_reducible rfl)
        (try simp only [Act.put, List.setIfInBounds_toArray, List.set_cons_zero, List.set_cons_succ])
        refine take_first (v := ?_) 2 rfl (by kernel_rfl) (by kernel_rfl) (by kernel_rfl) (fun _ _ _ h => h) (Or.inl ⟨by rfl, ?_⟩) (by assumption) ?_
        rotate_left
        · (intro w hSw; (try dsimp only at hSw); have s := rt_h A (n := n) c i HIJ.out.1 HNC.out.1 w; go_simp; try with_reducible rfl)
        (try simp only [Act.put, List.setIfInBounds_toArray, List.set_cons_zero, List.set_cons_succ])
        refine take_first (v := .agg nr) 3 rfl (by kernel_rfl) (by kernel_rfl) (by kernel_rfl) (fun _ _ _ h => h) (by rw [← HNR.out]; exact yields_load_obj (by rfl) 37 (.tmp 8) rfl P8 0 rfl (RouteM.mk a bits k).cells (fun w' hb => (Lows.blk hb 0 rfl).all) _ Try.underlying37 rfl (route_cellsOf _ HNO.out)) (by assumption) ?_
        (try simp only [Act.put, List.setIfInBounds_toArray, List.set_cons_zero, List.set_cons_succ])
        refine take_first (v := ?_) 5 rfl (by kernel_rfl) (by kernel_rfl) (by kernel_rfl) (fun _ _ _ h => h) (Or.inl ⟨by rfl, ?_⟩) (by assumption) ?_
        rotate_left
        · (intro w hSw; (try dsimp only at hSw); go_simp; try with_reducible rfl)
        (try simp only [Act.put, List.setIfInBounds_toArray, List.set_cons_zero, List.set_cons_succ])
        refine take_first (v := ?_) 6 rfl (by kernel_rfl) (by kernel_rfl) (by kernel_rfl) (fun _ _ _ h => h) (Or.inl ⟨by rfl, ?_⟩) (by assumption) ?_
        rotate_left
        · (intro w hSw; (try dsimp only at hSw); go_simp; try with_reducible rfl)
        (try simp only [Act.put, List.setIfInBounds_toArray, List.set_cons_zero, List.set_cons_succ])
        refine take_first (v := ?_) 7 rfl (by kernel_rfl) (by kernel_rfl) (by kernel_rfl) (fun _ _ _ h => h) (Or.inl ⟨by rfl, ?_⟩) (by assumption) ?_
        rotate_left
        · (intro w hSw; (try dsimp only at hSw); have s := rt_l A n c (i) HIJ.out.2 w; go_simp; try with_reducible rfl)
        (try simp only [Act.put, List.setIfInBounds_toArray, List.set_cons_zero, List.set_cons_succ])
        refine step_one 4 rfl (by kernel_rfl) (fun K hK => ?_)
        clear hHeld
        refine step_buildOne rfl 23 37 (.tmp 44) rfl nr rfl 50 Try.underlying23 ik HKI.out.1 HKI.out.2.2.1 _ HKI.out.2.1 (by omega) (by omega) (by rw [← HNR.out, List.size_toArray, RouteM.cells_length HNO.out]) ?_
        have hm9 := HM.out.alloc 37 nr (RouteM.mk a bits k).cells HNR.out.symm
        generalize wd1.alloc (.cells nr 37) = wy2 at hm9 ⊢
        generalize wd1.heap.size = g1 at hm9 ⊢
        replace HM := Lib.hid (show Lows w [blkL g1 37 (RouteM.mk a bits k).cells, blkL P8 37 (RouteM.mk a bits k).cells, blkL (w.heap.size + 1) 30 (k.map u8v), blkL w.heap.size 28 (prefC a bits), rtL A n l] wy2 from hm9)
        clear hm9
        refine hK.out _ _ (HM.out.tail 0) (fun hHeld => ?_)
        clear hK K
        (try simp only [Act.put, List.setIfInBounds_toArray, List.set_cons_zero, List.set_cons_succ])
        refine wpAnyH_stronger (T := fun W' => Lows w [blkL g1 37 (RouteM.mk a bits k).cells, blkL P8 37 (RouteM.mk a bits k).cells, blkL (w.heap.size + 1) 30 (k.map u8v), blkL w.heap.size 28 (prefC a bits), rtL A n l] W') (fun _ h' => (h'.tail 0)) _ _ _ _ ?_
        replace hHeld := HM.out
        refine step_one 8 rfl (by kernel_rfl) (fun K hK => ?_)
        clear hHeld
        go_simp
        have hm9 := HM.out.alloc 23 #[.slice (addrK A 0 c 50) i c, .slice (some ⟨g1, 0, none⟩) 1 1, .slice (addrK A (i) c 50) (n - (i)) (c - (i))] (catV A n c i (i) g1) rfl
        generalize wy2.alloc (.cells #[.slice (addrK A 0 c 50) i c, .slice (some ⟨g1, 0, none⟩) 1 1, .slice (addrK A (i) c 50) (n - (i)) (c - (i))] 23) = wy3 at hm9 ⊢
        generalize wy2.heap.size = g2 at hm9 ⊢
        replace HM := Lib.hid (show Lows w [blkL g2 23 (catV A n c i (i) g1), blkL g1 37 (RouteM.mk a bits k).cells, blkL P8 37 (RouteM.mk a bits k).cells, blkL (w.heap.size + 1) 30 (k.map u8v), blkL w.heap.size 28 (prefC a bits), rtL A n l] wy3 from hm9)
        clear hm9
        refine hK.out _ _ (HM.out.tail 0) (fun hHeld => ?_)
        clear hK K
        (try simp only [Act.put, List.setIfInBounds_toArray, List.set_cons_zero, List.set_cons_succ])
        refine wpAnyH_stronger (T := fun W' => Lows w [blkL g2 23 (catV A n c i (i) g1), blkL g1 37 (RouteM.mk a bits k).cells, blkL P8 37 (RouteM.mk a bits k).cells, blkL (w.heap.size + 1) 30 (k.map u8v), blkL w.heap.size 28 (prefC a bits), rtL A n l] W') (fun _ h' => (h'.tail 0)) _ _ _ _ ?_
        replace hHeld := HM.out
        refine step_one 9 rfl (by kernel_rfl) (fun K hK => ?_)
        clear hHeld
        go_simp
        refine (cat_any A n c i (i) l (RouteM.mk a bits k) hn HNC.out.1 HIJ.out.1 HIJ.out.2 HNO.out g1 g2 23 _ (HM.out.get (f := rtL A n l) 5 rfl) (HM.out.blk 1 rfl) (HM.out.blk 0 rfl)).mono ?_
        rintro e wy4 ⟨A7, c7, rfl, hr7, hc7, hb⟩
        replace HM := Lib.hid (show Lows w [rtL A7 (i + (1 + (n - (i)))) (l.take i ++ RouteM.mk a bits k :: l.drop (i)), blkL g2 23 (catV A n c i (i) g1), blkL g1 37 (RouteM.mk a bits k).cells, blkL P8 37 (RouteM.mk a bits k).cells, blkL (w.heap.size + 1) 30 (k.map u8v), blkL w.heap.size 28 (prefC a bits), rtL A n l] wy4 from (HM.out.below hb).cons (rtL A7 (i + (1 + (n - (i)))) (l.take i ++ RouteM.mk a bits k :: l.drop (i))) (hr7))
        clear hb
        have HC7 := Lib.hid hc7
        clear hc7 hr7
        go_wp2_with fail
        refine hK.out _ _ (HM.out.tail 0) (fun hHeld => ?_)
        clear hK K
        (try simp only [Act.put, List.setIfInBounds_toArray, List.set_cons_zero, List.set_cons_succ])
        refine wpAnyH_stronger (T := fun W' => Lows w [rtL A7 (i + (1 + (n - (i)))) (l.take i ++ RouteM.mk a bits k :: l.drop (i)), blkL g2 23 (catV A n c i (i) g1), blkL g1 37 (RouteM.mk a bits k).cells, blkL P8 37 (RouteM.mk a bits k).cells, blkL (w.heap.size + 1) 30 (k.map u8v), blkL w.heap.size 28 (prefC a bits), rtL A n l] W') (fun _ h' => (h'.tail 0)) _ _ _ _ ?_
        replace hHeld := HM.out
        refine take_first (v := ?_) 10 rfl (by kernel_rfl) (by kernel_rfl) (by kernel_rfl) (fun _ _ _ h => h) (Or.inl ⟨by rfl, ?_⟩) (by assumption) ?_
        rotate_left
        · (intro w hSw; (try dsimp only at hSw); go_simp; try with_reducible rfl)
        (try simp only [Act.put, List.setIfInBounds_toArray, List.set_cons_zero, List.set_cons_succ])
        refine take_first (v := ?_) 11 rfl (by kernel_rfl) (by kernel_rfl) (by kernel_rfl) (fun _ _ _ h => h) (Or.inl ⟨by rfl, ?_⟩) (by assumption) ?_
        rotate_left
        · (intro w hSw; (try dsimp only at hSw); go_simp; try with_reducible rfl)
        (try simp only [Act.put, List.setIfInBounds_toArray, List.set_cons_zero, List.set_cons_succ])
        refine wpAnyH_done (by kernel_rfl) ?_ _
        clear hHeld
        have HF := Lib.hid (And.intro (HM.out.get (f := rtL A7 (i + (1 + (n - (i)))) (l.take i ++ RouteM.mk a bits k :: l.drop (i))) 0 rfl) HM.out.bel)
        clear HM
        go_wp2_with fail
        go_ret2
        rw [HRES.out]
        exact ⟨_, rfl, A7, c7, by rw [HLEN.out]; rfl, by rw [HLEN.out]; exact HC7.out.1, HC7.out.2, by rw [HLEN.out]; exact HF.out.1, HF.out.2⟩
end Go.Proofs.Ytnblofbbbkjhpaa
namespace Go.Proofs.Ytnblofbbbkjhpaa
open Go.RowKit

/-- the cells of the best route so far -/
def bestC (l : List RouteM) : Option Nat → List Value
  | none => routeZ
  | some k => match l[k]? with
    | none => routeZ
    | some q => q.cells
theorem bestC_length {l : List RouteM} (h : ∀ r ∈ l, r.ok) (b : Option Nat) : (bestC l b).length = 50 := by
  unfold bestC
  cases b with
  | none => rfl
  | some k =>
    cases hq : l[k]? with
    | none => simp only [hq]; rfl
    | some q => simp only [hq]; exact RouteM.cells_length (h q (List.mem_of_getElem? hq))
set_option maxRecDepth 100000 in
set_option maxHeartbeats 16000000 in
theorem lookups_any (A : Option Addr) (n c : Nat) (l : List RouteM) (hn : n ≤ 1000) (x : AddrM) (hx : x.ok) (w : World) (ha : RtRd w w.heap.size A n l) :
    Calls Try.prog 26 #[.slice A n c, .agg x.cells.toArray] w fun e w' => e = .returned (.tuple #[.agg ((lookM l x).1.map u8v).toArray, .bool (lookM l x).2]) ∧ Below w.heap.size w w' := by
  have HA := Lib.hid ha
  have HOX := Lib.hid hx
  obtain ⟨cx, hcx⟩ : ∃ z, x.cells.toArray = z := ⟨_, rfl⟩
  rw [hcx]
  have HCX := Lib.hid hcx
  have hm := (((Mem.nil w).alloc (g := w.heap.size) rfl 26 cx x.cells hcx.symm).alloc (g := w.heap.size + 1) (by simp) 30 #[.int .u8 0, .int .u8 0, .int .u8 0, .int .u8 0, .int .u8 0, .int .u8 0, .int .u8 0, .int .u8 0, .int .u8 0, .int .u8 0, .int .u8 0, .int .u8 0, .int .u8 0, .int .u8 0, .int .u8 0, .int .u8 0, .int .u8 0, .int .u8 0, .int .u8 0, .int .u8 0, .int .u8 0, .int .u8 0, .int .u8 0, .int .u8 0, .int .u8 0, .int .u8 0, .int .u8 0, .int .u8 0, .int .u8 0, .int .u8 0, .int .u8 0, .int .u8 0] (aeZ 32) rfl).alloc (g := w.heap.size + 1 + 1) (by simp) 37 #[.bool false, .int .u8 0, .int .u8 0, .int .u8 0, .int .u8 0, .int .u8 0, .int .u8 0, .int .u8 0, .int .u8 0, .int .u8 0, .int .u8 0, .int .u8 0, .int .u8 0, .int .u8 0, .int .u8 0, .int .u8 0, .int .u8 0, .int .i64 0, .int .u8 0, .int .u8 0, .int .u8 0, .int .u8 0, .int .u8 0, .int .u8 0, .int .u8 0, .int .u8 0, .int .u8 0, .int .u8 0, .int .u8 0, .int .u8 0, .int .u8 0, .int .u8 0, .int .u8 0, .int .u8 0, .int .u8 0, .int .u8 0, .int .u8 0, .int .u8 0, .int .u8 0, .int .u8 0, .int .u8 0, .int .u8 0, .int .u8 0, .int .u8 0, .int .u8 0, .int .u8 0, .int .u8 0, .int .u8 0, .int .u8 0, .int .u8 0] routeZ rfl
  have HM := Lib.hid (show Mem w [blkE (w.heap.size + 1 + 1) 37 (bestC l none), blkE (w.heap.size + 1) 30 (aeZ 32), blkE w.heap.size 26 x.cells] (((w.alloc (.cells cx 26)).alloc (.cells #[.int .u8 0, .int .u8 0, .int .u8 0, .int .u8 0, .int .u8 0, .int .u8 0, .int .u8 0, .int .u8 0, .int .u8 0, .int .u8 0, .int .u8 0, .int .u8 0, .int .u8 0, .int .u8 0, .int .u8 0, .int .u8 0, .int .u8 0, .int .u8 0, .int .u8 0, .int .u8 0, .int .u8 0, .int .u8 0, .int .u8 0, .int .u8 0, .int .u8 0, .int .u8 0, .int .u8 0, .int .u8 0, .int .u8 0, .int .u8 0, .int .u8 0, .int .u8 0] 30)).alloc (.cells #[.bool false, .int .u8 0, .int .u8 0, .int .u8 0, .int .u8 0, .int .u8 0, .int .u8 0, .int .u8 0, .int .u8 0, .int .u8 0, .int .u8 0, .int .u8 0, .int .u8 0, .int .u8 0, .int .u8 0, .int .u8 0, .int .u8 0, .int .i64 0, .int .u8 0, .int .u8 0, .int .u8 0, .int .u8 0, .int .u8 0, .int .u8 0, .int .u8 0, .int .u8 0, .int .u8 0, .int .u8 0, .int .u8 0, .int .u8 0, .int .u8 0, .int .u8 0, .int .u8 0, .int .u8 0, .int .u8 0, .int .u8 0, .int .u8 0, .int .u8 0, .int .u8 0, .int .u8 0, .int .u8 0, .int .u8 0, .int .u8 0, .int .u8 0, .int .u8 0, .int .u8 0, .int .u8 0, .int .u8 0, .int .u8 0, .int .u8 0] 37)) from hm)
  clear ha hx hcx hm
  have HZK := Lib.hid (show (Try.prog.info? 30).map (·.size) = some (aeZ 32).length by kernel_rfl)
  go_enter Try.func26, Try.ntmps26
  go_upto_region 2 with fail
  generalize ((w.alloc (.cells cx 26)).alloc (.cells #[.int .u8 0, .int .u8 0, .int .u8 0, .int .u8 0, .int .u8 0, .int .u8 0, .int .u8 0, .int .u8 0, .int .u8 0, .int .u8 0, .int .u8 0, .int .u8 0, .int .u8 0, .int .u8 0, .int .u8 0, .int .u8 0, .int .u8 0, .int .u8 0, .int .u8 0, .int .u8 0, .int .u8 0, .int .u8 0, .int .u8 0, .int .u8 0, .int .u8 0, .int .u8 0, .int .u8 0, .int .u8 0, .int .u8 0, .int .u8 0, .int .u8 0, .int .u8 0] 30)).alloc (.cells #[.bool false, .int .u8 0, .int .u8 0, .int .u8 0, .int .u8 0, .int .u8 0, .int .u8 0, .int .u8 0, .int .u8 0, .int .u8 0, .int .u8 0, .int .u8 0, .int .u8 0, .int .u8 0, .int .u8 0, .int .u8 0, .int .u8 0, .int .i64 0, .int .u8 0, .int .u8 0, .int .u8 0, .int .u8 0, .int .u8 0, .int .u8 0, .int .u8 0, .int .u8 0, .int .u8 0, .int .u8 0, .int .u8 0, .int .u8 0, .int .u8 0, .int .u8 0, .int .u8 0, .int .u8 0, .int .u8 0, .int .u8 0, .int .u8 0, .int .u8 0, .int .u8 0, .int .u8 0, .int .u8 0, .int .u8 0, .int .u8 0, .int .u8 0, .int .u8 0, .int .u8 0, .int .u8 0, .int .u8 0, .int .u8 0, .int .u8 0] 37) = w1 at HM ⊢
  go_wp2_with fail
  go_loopw [12, 7] (fun i vb wr => ∃ j : Nat, j ≤ n ∧ i = .int .i64 (j : Int) ∧ vb = .bool (bestTo l x j).isSome ∧ Mem w [blkE (w.heap.size + 1 + 1) 37 (bestC l (bestTo l x j)), blkE (w.heap.size + 1) 30 (aeZ 32), blkE w.heap.size 26 x.cells] wr) (fun i _ _ => n - (intOf i).toNat)
  case atStart => exact ⟨0, by omega, rfl, rfl, HM.out⟩
  case round =>
    clear HM
    obtain ⟨j, hj, rfl, rfl, hM⟩ := hrel
    have HM := Lib.hid hM
    clear hM
    by_cases hjn : j < n
    · have d1 : decide ((j : Int) < (n : Int)) = true := by simp; omega
      obtain ⟨b, off, rfl⟩ := HA.out.1.addr (by omega)
      obtain ⟨r, hr⟩ : ∃ r, l[j]? = some r := ⟨l[j]'(by rw [HA.out.len]; exact hjn), List.getElem?_eq_getElem _⟩
      have HOK := Lib.hid (HA.out.ok hr)
      have hat := HA.out.at j r hr
      have HLA := Lib.hid (hat.2.mono HM.out.bel hat.1)
      have HJR := Lib.hid hr
      clear hat hr
      obtain ⟨rc, hrc⟩ : ∃ z, r.cells.toArray = z := ⟨_, rfl⟩
      have HRC := Lib.hid hrc
      have hvc := contains_any r.a r.bits HOK.out.1 x HOX.out
      obtain ⟨rp, hrp⟩ : ∃ z, (prefC r.a r.bits).toArray = z := ⟨_, rfl⟩
      rw [hrp, HCX.out] at hvc
      have HRP := Lib.hid hrp
      have HCC := Lib.hid hvc
      clear hrc hrp hvc
      have HZ := Lib.hid (Blk.new wr 37 routeZ)
      obtain ⟨bt, hbt⟩ : ∃ z, bestTo l x j = z := ⟨_, rfl⟩
      rw [hbt] at HM ⊢
      have HBL := Lib.hid (bestC_length HA.out.2 bt)
      go_upto_region 6 with (first | (refine wpList_load_obj rfl 37 (.tmp 14) rfl b _ rfl r.cells HLA.out _ Try.underlying37 rfl (route_cellsOf r HOK.out) ?_; rw [HRC.out]) | (refine wpList_store_obj rfl 37 (.tmp 9) (.tmp 15) rfl wr.heap.size 0 r.cells rfl (by show Value.agg rc = _; rw [HRC.out]) 37 routeZ HZ.out (route_cellsOf r HOK.out) (by rw [RouteM.cells_length HOK.out, routeZ_length]; omega) (route_one r) ?_; intro w4 hb4 hg4))
      rw [setL_all routeZ r.cells (by rw [RouteM.cells_length HOK.out, routeZ_length])] at hb4
      replace HM := Lib.hid (HM.out.below (below_fresh hg4))
      have HP := Lib.hid hb4
      clear hb4 hg4 HZ d1 HLA
      generalize wr.heap.size = P1 at HP ⊢
      obtain ⟨v, hv⟩ : ∃ v, containsM r.a r.bits x = v := ⟨_, rfl⟩
      rw [hv] at HCC
      have HV := Lib.hid hv
      have HBT := Lib.hid hbt
      clear hv hbt
      cases v with
      | false =>
        have HBE := Lib.hid (show bestTo l x (j + 1) = bt from by rw [bestTo_no HJR.out HV.out, HBT.out])
        go_wp2_with (first | (refine wpList_load_obj rfl 28 (.tmp 16) rfl P1 0 rfl (prefC r.a r.bits) (route_pref HP.out.all) _ Try.underlying28 rfl (pref_cellsOf' r.a HOK.out.1 r.bits) ?_; rw [HRP.out]) | (refine wpList_load_obj rfl 26 (.tmp 3) rfl w.heap.size 0 rfl x.cells ((HM.out.blk 2 rfl).all) _ Try.underlying26 rfl (addr_cellsOf x HOX.out) ?_; rw [HCX.out]))
        refine (HCC.out _).mono ?_
        rintro e w5 ⟨rfl, hb⟩
        have HM5 := Lib.hid (HM.out.below hb)
        clear hb HM HP
        go_wp2_with fail
        go_roundw
        case rel => exact ⟨j + 1, by omega, by go_num, by rw [HBE.out], by rw [HBE.out]; exact HM5.out⟩
        case measure => simp [intOf]; omega
      | true =>
        cases bt with
        | none =>
          obtain ⟨bt, hbt0⟩ : ∃ bt : Option Nat, none = bt := ⟨_, rfl⟩
          have HBQ := Lib.hid hbt0
          clear hbt0
          have HBE := Lib.hid (show bestTo l x (j + 1) = some j from bestTo_first HJR.out HV.out HBT.out)
          simp only [Option.isSome_none]
          go_wp2_with (first | (refine wpList_load_obj rfl 28 (.tmp 16) rfl P1 0 rfl (prefC r.a r.bits) (route_pref HP.out.all) _ Try.underlying28 rfl (pref_cellsOf' r.a HOK.out.1 r.bits) ?_; rw [HRP.out]) | (refine wpList_load_obj rfl 26 (.tmp 3) rfl w.heap.size 0 rfl x.cells ((HM.out.blk 2 rfl).all) _ Try.underlying26 rfl (addr_cellsOf x HOX.out) ?_; rw [HCX.out]))
          refine (HCC.out _).mono ?_
          rintro e w5 ⟨rfl, hb⟩
          have HM5 := Lib.hid (show Mem w [blkE (w.heap.size + 1 + 1) 37 (bestC l bt), blkE (w.heap.size + 1) 30 (aeZ 32), blkE w.heap.size 26 x.cells] w5 from by rw [← HBQ.out]; exact HM.out.below hb)
          have HP5 := Lib.hid (HP.out.below hb HP.out.lt)
          rw [HBQ.out] at HBL
          clear hb HM HP
          go_upto_region 7 with fail
          go_wp2_with (first | (refine wpList_load_obj rfl 37 (.tmp 9) rfl P1 0 rfl r.cells HP5.out.all _ Try.underlying37 rfl (route_cellsOf r HOK.out) ?_; rw [HRC.out]) | (refine wpList_store_obj rfl 37 (.tmp 6) (.tmp 33) rfl (w.heap.size + 1 + 1) 0 r.cells rfl (by show Value.agg rc = _; rw [HRC.out]) 37 (bestC l bt) (HM5.out.blk 0 rfl) (route_cellsOf r HOK.out) (by rw [RouteM.cells_length HOK.out, HBL.out]; omega) (route_one r) ?_; intro w7 hb7 hg7))
          rw [setL_all _ r.cells (by rw [RouteM.cells_length HOK.out, HBL.out])] at hb7
          have HM7 := Lib.hid (HM5.out.put 0 rfl _ hg7 hb7)
          clear hb7 hg7
          go_roundw
          case rel => exact ⟨j + 1, by omega, by go_num, by rw [HBE.out]; rfl, by rw [HBE.out]; show Mem w [blkE (w.heap.size + 1 + 1) 37 (bestC l (some j)), blkE (w.heap.size + 1) 30 (aeZ 32), blkE w.heap.size 26 x.cells] _; rw [show bestC l (some j) = r.cells from by show (match l[j]? with | none => routeZ | some q => q.cells) = _; rw [HJR.out]]; exact HM7.out⟩
          case measure => simp [intOf]; omega
        | some k =>
          have hkj := bestTo_lt HBT.out
          obtain ⟨q, hq⟩ : ∃ q, l[k]? = some q := ⟨l[k]'(by rw [HA.out.len]; omega), List.getElem?_eq_getElem _⟩
          have HOQ := Lib.hid (HA.out.ok hq)
          have HBC := Lib.hid (show bestC l (some k) = q.cells from by show (match l[k]? with | none => routeZ | some q => q.cells) = _; rw [hq])
          have HBM := Lib.hid (bestTo_more HJR.out HV.out HBT.out hq)
          obtain ⟨bt, hbt0⟩ : ∃ bt : Option Nat, some k = bt := ⟨_, rfl⟩
          have HBQ := Lib.hid hbt0
          clear hbt0
          simp only [Option.isSome_some]
          go_wp2_with (first | (refine wpList_load_obj rfl 28 (.tmp 16) rfl P1 0 rfl (prefC r.a r.bits) (route_pref HP.out.all) _ Try.underlying28 rfl (pref_cellsOf' r.a HOK.out.1 r.bits) ?_; rw [HRP.out]) | (refine wpList_load_obj rfl 26 (.tmp 3) rfl w.heap.size 0 rfl x.cells ((HM.out.blk 2 rfl).all) _ Try.underlying26 rfl (addr_cellsOf x HOX.out) ?_; rw [HCX.out]))
          refine (HCC.out _).mono ?_
          rintro e w5 ⟨rfl, hb⟩
          have HM5 := Lib.hid (show Mem w [blkE (w.heap.size + 1 + 1) 37 (bestC l bt), blkE (w.heap.size + 1) 30 (aeZ 32), blkE w.heap.size 26 x.cells] w5 from by rw [← HBQ.out]; exact HM.out.below hb)
          have HP5 := Lib.hid (HP.out.below hb HP.out.lt)
          rw [HBQ.out] at HBL
          have f1 : w5.cell? ⟨P1, 17, none⟩ = some (.int .i64 r.bits) := (HP5.out.cell 17).trans (route_bits r HOK.out)
          have f2 : w5.cell? ⟨w.heap.size + 1 + 1, 17, none⟩ = some (.int .i64 q.bits) := by rw [(HM5.out.blk 0 rfl).cell, ← HBQ.out, HBC.out]; exact route_bits q HOQ.out
          clear hb HM HP hq hkj
          by_cases hlt : q.bits < r.bits
          · have HBE := Lib.hid (HBM.out.trans (if_pos hlt))
            have d2 : decide (r.bits > q.bits) = true := by simp; omega
            clear hlt
            go_upto_region 7 with fail
            go_wp2_with (first | (refine wpList_load_obj rfl 37 (.tmp 9) rfl P1 0 rfl r.cells HP5.out.all _ Try.underlying37 rfl (route_cellsOf r HOK.out) ?_; rw [HRC.out]) | (refine wpList_store_obj rfl 37 (.tmp 6) (.tmp 33) rfl (w.heap.size + 1 + 1) 0 r.cells rfl (by show Value.agg rc = _; rw [HRC.out]) 37 (bestC l bt) (HM5.out.blk 0 rfl) (route_cellsOf r HOK.out) (by rw [RouteM.cells_length HOK.out, HBL.out]; omega) (route_one r) ?_; intro w7 hb7 hg7))
            rw [setL_all _ r.cells (by rw [RouteM.cells_length HOK.out, HBL.out])] at hb7
            have HM7 := Lib.hid (HM5.out.put 0 rfl _ hg7 hb7)
            clear hb7 hg7
            go_roundw
            case rel => exact ⟨j + 1, by omega, by go_num, by rw [HBE.out]; rfl, by rw [HBE.out]; show Mem w [blkE (w.heap.size + 1 + 1) 37 (bestC l (some j)), blkE (w.heap.size + 1) 30 (aeZ 32), blkE w.heap.size 26 x.cells] _; rw [show bestC l (some j) = r.cells from by show (match l[j]? with | none => routeZ | some q => q.cells) = _; rw [HJR.out]]; exact HM7.out⟩
            case measure => simp [intOf]; omega
          · have HBE := Lib.hid ((HBM.out.trans (if_neg hlt)).trans HBQ.out)
            have d2 : decide (r.bits > q.bits) = false := by simp; omega
            have hi : bt.isSome = true := by rw [← HBQ.out]; rfl
            clear hlt
            go_wp2_with fail
            go_roundw
            case rel => exact ⟨j + 1, by omega, by go_num, by rw [HBE.out, hi], by rw [HBE.out]; exact HM5.out⟩
            case measure => simp [intOf]; omega
    · obtain rfl : j = n := by omega
      have d1 : decide ((j : Int) < (j : Int)) = false := by simp
      have hl := HA.out.len
      have hbl : bestTo l x l.length = bestTo l x j := by rw [hl]
      have hbcl := bestC_length HA.out.2 (bestTo l x j)
      have hkey : ∃ kb : List UInt8, kb.length = 32 ∧ (bestC l (bestTo l x j)).drop 18 = kb.map u8v ∧ lookM l x = (kb, (bestTo l x j).isSome) := by
        cases hbt : bestTo l x j with
        | none => exact ⟨List.replicate 32 0, rfl, by rfl, by rw [lookM, hbl, hbt]; rfl⟩
        | some k =>
          have hkj := bestTo_lt hbt
          obtain ⟨q, hq⟩ : ∃ q, l[k]? = some q := ⟨l[k]'(by omega), List.getElem?_eq_getElem _⟩
          refine ⟨q.peer, (HA.out.ok hq).2.1, ?_, ?_⟩
          · show (match l[k]? with | none => routeZ | some q => q.cells).drop 18 = _
            rw [hq]
            show q.cells.drop 18 = _
            rw [RouteM.cells, List.drop_left' (prefC_length q.a (HA.out.ok hq).1 _)]
          · rw [lookM, hbl, hbt]
            show (match l[k]? with | none => _ | some r => (r.peer, true)) = _
            rw [hq]
            rfl
      obtain ⟨kb, hkl, hkd, hlk⟩ := hkey
      have HK := Lib.hid hkl
      have HKD := Lib.hid hkd
      have HLK := Lib.hid hlk
      obtain ⟨kc, hkc⟩ : ∃ z, (kb.map u8v).toArray = z := ⟨_, rfl⟩
      have HKC := Lib.hid hkc
      have HKS := Lib.hid (key_cellsOf kb hkl)
      have HAT := Lib.hid (show At wr (w.heap.size + 1 + 1) 18 (kb.map u8v) from fun q v hq => by
        rw [(HM.out.blk 0 rfl).cell, ← List.getElem?_drop, HKD.out]
        exact hq)
      obtain ⟨fl, hfl⟩ : ∃ z, (bestTo l x j).isSome = z := ⟨_, rfl⟩
      rw [hfl] at HLK ⊢
      clear hl hbl hkl hkd hlk hkc hbcl hfl
      go_wp2_with (first | (refine wpList_load_obj rfl 30 (.tmp 35) rfl (w.heap.size + 1 + 1) 18 rfl (kb.map u8v) HAT.out _ Try.underlying30 rfl HKS.out ?_; rw [HKC.out]) | (refine wpList_store_obj rfl 30 (.tmp 4) (.tmp 36) rfl (w.heap.size + 1) 0 (kb.map u8v) rfl (by show Value.agg kc = _; rw [HKC.out]) 30 (aeZ 32) (HM.out.blk 1 rfl) HKS.out (by rw [List.length_map, HK.out]; decide) (u8v_one _) ?_; intro w9 hb9 hg9))
      rw [setL_all _ _ (by rw [List.length_map, HK.out]; rfl)] at hb9
      exact bodyPost_ret (results_obj_tmp rfl _ _ (w.heap.size + 1) 30 (kb.map u8v) _ rfl hb9 Try.underlying30 rfl HKS.out) rfl ⟨by rw [HLK.out]; rfl, HM.out.bel.grown hg9 HM.out.bel.size (fun k hk => by injection hk with hk; omega)⟩
theorem rtLookC : RtLookC 26 := fun A n c l x w hx h => lookups_any A n c l (by have := h.1; omega) x hx w h.2.2.2
end Go.Proofs.Ytnblofbbbkjhpaa
namespace Go.Proofs.Ytnblofbbbkjhpaa
open Go.RowKit

theorem rt_longest_walk_all (w : World) (A : Option Addr) (n c : Nat) (l : List UInt8) (Am : Option Addr) (nm cm : Nat) (lm : List UInt8) (hnc : n ≤ c) (hcm : c ≤ maxLen) (hr : Rd w w.heap.size A n l) (hncm : nm ≤ cm) (hcmm : cm ≤ maxLen) (hrm : Rd w w.heap.size Am nm lm) :
    Calls Try.prog 5 #[.slice A n c, .slice Am nm cm] w fun e w' => e = .returned (.bool true) ∧ Below w.heap.size w w' :=
  rt_longest_walk rtInsC rtLookC w A n c l hnc hcm hr Am nm cm lm hncm hcmm hrm
end Go.Proofs.Ytnblofbbbkjhpaa
