/-
  The contract of slices.Insert of one element at a slice of structs of the call's own. What is asked of Set holds of the landed one. What is asked of Due holds of the landed one. A map that a call makes, whose keys are structs, as the list of the keys that it holds. No function of the program is named here. No statement is proved here.
-/
import Derived.RegionTactic
import Derived.Deep.DeepCutAuto
import Derived.Maps.OwnOps
import Derived.Maps.OwnSet
import Derived.DeepKeys3
import Derived.Test.YtffeecaidkeepaaWheelChangesB6
namespace Go.Proofs.Ytffeecaidkeepaa
open Go.RowKit

theorem blk_seg {w : World} {g off : Nat} {t : TypeId} {cur xs : List Value} (h : Blk w g t cur) (hx : ∀ (j : Nat) v, xs[j]? = some v → cur[off + j]? = some v) : ∀ j v, xs[j]? = some v → w.cell? ((⟨g, off, none⟩ : Addr).add j) = some v := fun j v hj => by
  rw [Go.WideShapes.add_plain, h.cell]
  exact hx j v hj
set_option maxRecDepth 100000 in
theorem tm_hc (A : Option Addr) (n c j : Nat) (h3 : j ≤ c) (w : World) : (Instr.sliceAt 23 (.slice A n c) none (some (.int .i64 (j : Int))) none).run Try.prog w = .ok (.slice (addrK A 0 c 34) j c) w := by
  rw [run_sliceAt_slice (P := Try.prog) (w := w) 23 _ _ _ _ tm_under, run_slice_h (P := Try.prog) (w := w) 23 A n c tm_under .i64 j (by omega) (by omega), tm_sizeOf]
  simp only [Result.andThen, sliced, Int.toNat_natCast, Nat.sub_zero]
  rfl
set_option maxRecDepth 100000 in
set_option maxHeartbeats 16000000 in
theorem tmIns_any (base : Nat) (A : Option Addr) (n c i : Nat) (os : List (List Value)) (o : List Value) (hn : n ≤ 1000) (hi : i ≤ n) (hl : os.length = n) (hk : ∀ x ∈ os, x.length = 34) (h1 : ∀ x ∈ os, ∀ v ∈ x, v.oneCell' = true) (ho : o.length = 34) (h1o : ∀ v ∈ o, v.oneCell' = true) (gv : Nat) (w : World) (hbase : base ≤ w.heap.size) (hown : w.ownsRow base 27 34 (.slice A n c) n os.flatten) (hv : Blk w gv 27 o) (hne : ∀ ad, A = some ad → ad.block ≠ gv) :
    Calls Try.prog 26 #[.slice A n c, .int .i64 (i : Int), .slice (some ⟨gv, 0, none⟩) 1 1] w fun e w' => ∃ v, e = .returned v ∧ w'.ownsRow base 27 34 v (n + 1) (os.take i ++ o :: os.drop i).flatten ∧ Below base w w' := by
  obtain ⟨ik, hik, hiz, his, hib⟩ := timerInfo
  have HKI := Lib.hid (And.intro hik (And.intro hiz (And.intro his hib)))
  have HSZ := Lib.hid (show (Try.prog.info? 27).map (·.size) = some 34 from by rw [hik, Option.map_some, his])
  clear hik hiz his hib
  obtain ⟨A5, c5, hv5, hnc, hcm, hlo⟩ := own_sliceK hown
  injection hv5 with hA5 _ hc5
  subst hA5 hc5
  have HOL := Lib.hid ho
  have H1O := Lib.hid h1o
  have HV := Lib.hid hv
  have HBS := Lib.hid hbase
  have hsl0 := tm_l A n c i hi
  rcases Nat.lt_or_ge i n with hin | hin
  · have hr := RdRow.of_own hl hk hown
    rcases hown.2 with ⟨_, h0⟩ | ⟨g, cap, cur0, hvv, hbg, hg, hnc2, hcm2, hcs, hcr⟩
    · omega
    injection hvv with hA _ hcc
    subst hA hcc
    obtain ⟨cur, hcur⟩ : ∃ z, cur0.toList = z := ⟨_, rfl⟩
    have hblk : Blk w g 27 cur := by
      unfold Blk
      rw [← hcur, Array.toArray_toList]
      exact hg
    have hlen : cur.length = c * 34 := by rw [← hcur]; simpa using hcs
    rw [hcur] at hcr
    have hte : (os.take i).flatten = cur.take (i * 34) := by
      rw [flat_take i hk, ← hcr, List.take_take, Nat.min_eq_left (Nat.mul_le_mul_right 34 hi)]
    have htl : (os.take i).flatten.length = i * 34 := by
      rw [flat_length (fun x hx => hk x (List.mem_of_mem_take hx)), List.length_take, hl, Nat.min_eq_left hi]
    have hdl : (os.drop i).flatten.length = (n - i) * 34 := by
      rw [flat_length (fun x hx => hk x (List.mem_of_mem_drop hx)), List.length_drop, hl]
    have hds : ∀ (j : Nat) v, (os.drop i).flatten[j]? = some v → cur[i * 34 + j]? = some v := fun j v hj => by
      rw [flat_drop i hk, List.getElem?_drop, ← hcr, List.getElem?_take] at hj
      split at hj
      · exact hj
      · cases hj
    have hd1 : ∀ v ∈ (os.drop i).flatten, v.oneCell' = true := one_flat fun x hx => h1 x (List.mem_of_mem_drop hx)
    obtain ⟨i1, hi1⟩ : ∃ z, i + 1 = z := ⟨_, rfl⟩
    obtain ⟨n1, hn1⟩ : ∃ z, n + 1 = z := ⟨_, rfl⟩
    have hfe : (os.take i).flatten ++ o ++ (os.drop i).flatten = (os.take i ++ o :: os.drop i).flatten := by simp
    have hnk : i * 34 + 34 + (n - i) * 34 = n1 * 34 := by omega
    have HW := Lib.hid (show (os.take i).flatten = cur.take (i * 34) ∧ (os.take i).flatten.length = i * 34 ∧ (os.drop i).flatten.length = (n - i) * 34 ∧ cur.length = c * 34 ∧ n + 1 = n1 ∧ i + 1 = i1 ∧ base ≤ g ∧ c ≤ maxLen ∧ n ≤ c ∧ (os.take i).flatten ++ o ++ (os.drop i).flatten = (os.take i ++ o :: os.drop i).flatten ∧ i * 34 + 34 + (n - i) * 34 = n1 * 34 from ⟨hte, htl, hdl, hlen, hn1, hi1, hbg, hcm, hnc, hfe, hnk⟩)
    have HDS := Lib.hid hds
    have HD1 := Lib.hid hd1
    have HBK := Lib.hid hblk
    have hgv : g ≠ gv := hne _ rfl
    have HGV := Lib.hid hgv
    have HGL := Lib.hid hblk.lt
    have ew1 : IntKind.i64.wrap ((n : Int) + 1) = (n1 : Int) := by rw [IntWalk.i64_in _ (by omega)]; omega
    have ew2 : IntKind.i64.wrap ((i : Int) + 1) = (i1 : Int) := by rw [IntWalk.i64_in _ (by omega)]; omega
    have ew3 : (n : Int) + 1 = (n1 : Int) := by omega
    have ew4 : (i : Int) + 1 = (i1 : Int) := by omega
    have ew7 : IntKind.i64.wrap (i1 : Int) = (i1 : Int) := IntWalk.i64_in _ (by omega)
    have ew8 : IntKind.i64.wrap (n1 : Int) = (n1 : Int) := IntWalk.i64_in _ (by omega)
    have e0 : ((i : Int) == (n : Int)) = false := by rw [beq_eq_false_iff_ne]; omega
    rcases Nat.lt_or_ge c n1 with hroom | hroom
    · have e1 : decide ((n1 : Int) > (c : Int)) = true := by simp; omega
      have e2 : decide ((c : Int) < (n1 : Int)) = true := by simp; omega
      have hra := hr.ahead i c hi
      rw [addrK_zero_some] at hra
      obtain ⟨d, hd⟩ : ∃ z, n1 - i = z := ⟨_, rfl⟩
      have hid : i + d = n1 := by omega
      have ew5 : IntKind.i64.wrap ((n1 : Int) - (i : Int)) = (d : Int) := by rw [IntWalk.i64_in _ (by omega)]; omega
      have ew6 : (n1 : Int) - (i : Int) = (d : Int) := by omega
      obtain ⟨w2, cap2, cur2, hap, hb2, hl2, ht2, hge2, hcm3, hbl2⟩ := run_append_made (P := Try.prog) w 23 3 23 27 ik (.agg timerZ.toArray) .i64 .i64 34 48 Try.underlying23 Try.underlying3 HKI.out.1 HKI.out.2.1 HKI.out.2.2.1 HKI.out.2.2.2 (by rfl) (by omega) w.heap.size ⟨g, 0, none⟩ i c (os.take i) hra d (by omega) (by omega) (by unfold maxLen; omega) (by omega)
      rw [hid] at hap hge2
      have hsh := tm_h (some ⟨g, 0, none⟩) (n := n) c i hi hnc
      rw [addrK_zero_some] at hsh
      obtain ⟨G2, hG2⟩ : ∃ z, w.heap.size = z := ⟨_, rfl⟩
      have HGG := Lib.hid (show g < G2 ∧ gv < G2 ∧ base ≤ G2 from ⟨by rw [← hG2]; exact HGL.out, by rw [← hG2]; exact HV.out.lt, by rw [← hG2]; exact HBS.out⟩)
      have HX2 := Lib.hid (show Blk w2 G2 27 cur2 ∧ Blk w2 g 27 cur ∧ Blk w2 gv 27 o ∧ Below base w w2 from ⟨hG2 ▸ hb2, HBK.out.below hbl2 HGL.out, HV.out.below hbl2 HV.out.lt, hbl2.mono HBS.out⟩)
      have HC2 := Lib.hid (And.intro hge2 (And.intro hcm3 (And.intro hl2 ht2)))
      rw [hG2] at hap
      have HAP := Lib.hid hap
      have hs1 := tm_l (some ⟨G2, 0, none⟩) n1 cap2 i (by omega)
      rw [addrK_some (show i < cap2 by omega), Nat.zero_add] at hs1
      have hs2 := tm_l (some ⟨G2, 0, none⟩) n1 cap2 i1 (by omega)
      rw [addrK_some (show i1 < cap2 by omega), Nat.zero_add] at hs2
      have hs3 := tm_l (some ⟨g, 0, none⟩) n c i hi
      rw [addrK_some (show i < c by omega), Nat.zero_add] at hs3
      have HS0 := Lib.hid hs1
      have HS1 := Lib.hid hs2
      have HS2 := Lib.hid hs3
      have HF0 := Lib.hid (show i * 34 + o.length ≤ cur2.length from by rw [HOL.out, hl2]; have := Nat.mul_le_mul_right 34 (show i + 1 ≤ cap2 by omega); rw [Nat.succ_mul] at this; exact this)
      have hsl : (setL cur2 (i * 34) o).length = cap2 * 34 := by
        have h := HF0.out
        simp only [setL, List.length_append, List.length_take, List.length_drop]
        omega
      have HN2 := Lib.hid (show (os.drop i).flatten.length = Nat.min (n - i) (n1 - i1) * 34 from by rw [HW.out.2.2.1, show n1 - i1 = n - i by omega]; simp)
      have HF2 := Lib.hid (show i1 * 34 + (os.drop i).flatten.length ≤ (setL cur2 (i * 34) o).length from by rw [hsl, HW.out.2.2.1]; omega)
      have HRES := Lib.hid (ins_new (cur := cur2) (D := (os.drop i).flatten) HW.out.2.1 ht2 HOL.out (by rw [HW.out.2.2.1, hl2]; omega))
      have HN1 := Lib.hid (show o.length = Nat.min 1 (n1 - i) * 34 from by rw [HOL.out, show Nat.min 1 (n1 - i) = 1 by simp [Nat.min_def]; omega])
      clear hb2 hl2 ht2 hge2 hcm3 hbl2 hs1 hs2 hs3 hra hd hid hsl hG2 hr hown hg hcr hcs hte htl hdl hlen hds hd1 hfe hnk hblk hbg hnc2 hcm2 hv hne hlo hgv hbase hap
      go_enter Try.func26, Try.ntmps26
      go_upto_region 10 with (at_builtin; refine Lib.wpList_append_run _ rfl _ _ _ _ rfl _ _ rfl rfl _ _ HAP.out ?_)
      clear hsh hsl0 e0 e1 e2 ew5 ew6
      have hs1 := HS0.out
      go_upto_region 11 with (refine wpList_copy_objs _ rfl (.tmp 43) (.tmp 44) 23 23 rfl 27 Try.underlying23 34 HSZ.out G2 (i * 34) (n1 - i) (cap2 - i) ⟨gv, 0, none⟩ 1 1 rfl rfl cur2 27 HX2.out.1 o HN1.out (blk_seg HX2.out.2.2.1 (fun j v hj => by rw [Nat.zero_add]; exact hj)) HF0.out H1O.out ?_; intro w3 hb3 hg3)
      have HX3 := Lib.hid (show Blk w3 G2 27 (setL cur2 (i * 34) o) ∧ Blk w3 g 27 cur ∧ Below base w w3 from ⟨hb3, (hg3.block g HX2.out.2.1.lt (fun e => by injection e with e; have := HGG.out; omega)).trans HX2.out.2.1, HX2.out.2.2.2.grown hg3 (Nat.le_trans HBS.out HX2.out.2.2.2.size) (fun q hq => by injection hq with hq; have := HGG.out; omega)⟩)
      clear hs1 hb3 hg3
      refine wp_region_held_drew (S := fun _ => True) (by kernel_rfl) (trivial) (fun hHeld => ?_)
      have hF : Blk w3.drew G2 27 (setL cur2 (i * 34) o) ∧ Blk w3.drew g 27 cur ∧ Below base w w3.drew := ⟨HX3.out.1, HX3.out.2.1, HX3.out.2.2.drew⟩
      generalize w3.drew = wd1 at hF ⊢
      refine take_first (v := ?_) 0 rfl (by kernel_rfl) (by kernel_rfl) (by kernel_rfl) (fun _ _ _ h => h) (Or.inl ⟨by rfl, ?_⟩) (by assumption) ?_
      rotate_left
      · (intro w hSw; (try dsimp only at hSw); go_simp; try with_reducible rfl)
      (try simp only [Act.put, List.setIfInBounds_toArray, List.set_cons_zero, List.set_cons_succ])
      refine take_first (v := ?_) 1 rfl (by kernel_rfl) (by kernel_rfl) (by kernel_rfl) (fun _ _ _ h => h) (Or.inl ⟨by rfl, ?_⟩) (by assumption) ?_
      rotate_left
      · (intro w hSw; (try dsimp only at hSw); go_simp; try with_reducible rfl)
      (try simp only [Act.put, List.setIfInBounds_toArray, List.set_cons_zero, List.set_cons_succ])
      refine take_first (v := ?_) 2 rfl (by kernel_rfl) (by kernel_rfl) (by kernel_rfl) (fun _ _ _ h => h) (Or.inl ⟨by rfl, ?_⟩) (by assumption) ?_
      rotate_left
      · (intro w hSw; (try dsimp only at hSw); go_simp; try with_reducible rfl)
      (try simp only [Act.put, List.setIfInBounds_toArray, List.set_cons_zero, List.set_cons_succ])
      refine take_first (v := ?_) 3 rfl (by kernel_rfl) (by kernel_rfl) (by kernel_rfl) (fun _ _ _ h => h) (Or.inl ⟨by rfl, ?_⟩) (by assumption) ?_
      rotate_left
      · (intro w hSw; (try dsimp only at hSw); go_simp; try with_reducible rfl)
      (try simp only [Act.put, List.setIfInBounds_toArray, List.set_cons_zero, List.set_cons_succ])
      refine take_first (v := ?_) 4 rfl (by kernel_rfl) (by kernel_rfl) (by kernel_rfl) (fun _ _ _ h => h) (Or.inl ⟨by rfl, ?_⟩) (by assumption) ?_
      rotate_left
      · (intro w hSw; (try dsimp only at hSw); have s := HS1.out w; go_simp; try with_reducible rfl)
      (try simp only [Act.put, List.setIfInBounds_toArray, List.set_cons_zero, List.set_cons_succ])
      refine take_first (v := ?_) 5 rfl (by kernel_rfl) (by kernel_rfl) (by kernel_rfl) (fun _ _ _ h => h) (Or.inl ⟨by rfl, ?_⟩) (by assumption) ?_
      rotate_left
      · (intro w hSw; (try dsimp only at hSw); go_simp; try with_reducible rfl)
      (try simp only [Act.put, List.setIfInBounds_toArray, List.set_cons_zero, List.set_cons_succ])
      refine take_first (v := ?_) 6 rfl (by kernel_rfl) (by kernel_rfl) (by kernel_rfl) (fun _ _ _ h => h) (Or.inl ⟨by rfl, ?_⟩) (by assumption) ?_
      rotate_left
      · (intro w hSw; (try dsimp only at hSw); go_simp; try with_reducible rfl)
      (try simp only [Act.put, List.setIfInBounds_toArray, List.set_cons_zero, List.set_cons_succ])
      refine take_first (v := ?_) 7 rfl (by kernel_rfl) (by kernel_rfl) (by kernel_rfl) (fun _ _ _ h => h) (Or.inl ⟨by rfl, ?_⟩) (by assumption) ?_
      rotate_left
      · (intro w hSw; (try dsimp only at hSw); have s := HS2.out w; go_simp; try with_reducible rfl)
      (try simp only [Act.put, List.setIfInBounds_toArray, List.set_cons_zero, List.set_cons_succ])
      refine step_one 8 rfl (by kernel_rfl) (fun K hK => ?_)
      refine step_copy_objs _ rfl (.tmp 50) (.tmp 53) 23 23 rfl 27 Try.underlying23 34 HSZ.out G2 (i1 * 34) (n1 - i1) (cap2 - i1) ⟨g, i * 34, none⟩ (n - i) (c - i) rfl rfl (setL cur2 (i * 34) o) 27 hF.1 (os.drop i).flatten HN2.out (blk_seg hF.2.1 HDS.out) HF2.out HD1.out ?_
      intro w4 hb4 hg4
      refine hK.out _ _ trivial (fun _ => ?_)
      clear hK K
      (try simp only [Act.put])
      refine wpAnyH_done (by kernel_rfl) ?_ _
      have HFIN := Lib.hid (show w4.ownsRow base 27 34 (.slice (some ⟨G2, 0, none⟩) n1 cap2) n1 (os.take i ++ o :: os.drop i).flatten ∧ Below base w w4 from ⟨own_of_blk hb4 HGG.out.2.2 HC2.out.1 HC2.out.2.1 (by have h := HRES.out.2; rw [HW.out.2.2.2.2.2.1] at h; rw [h]; exact HC2.out.2.2.1) (by have h := HRES.out.1; rw [HW.out.2.2.1, HW.out.2.2.2.2.2.2.2.2.2.2, HW.out.2.2.2.2.2.1] at h; rw [h]; exact HW.out.2.2.2.2.2.2.2.2.2.1), hF.2.2.grown hg4 (Nat.le_trans HBS.out hF.2.2.size) (fun q hq => by injection hq with hq; have := HGG.out; omega)⟩)
      clear hb4 hg4 hF
      go_wp2
      go_ret
      exact ⟨.slice (some ⟨G2, 0, none⟩) n1 cap2, rfl, by have h := HFIN.out.1; simp at h ⊢; exact h, HFIN.out.2⟩
    · have e1 : decide ((n1 : Int) > (c : Int)) = false := by simp; omega
      have e2 : decide ((c : Int) < (n1 : Int)) = false := by simp; omega
      have hsh := tm_hc (some ⟨g, 0, none⟩) n c n1 hroom
      rw [addrK_zero_some] at hsh
      have hs1 := tm_l (some ⟨g, 0, none⟩) n1 c i1 (by omega)
      rw [addrK_some (show i1 < c by omega), Nat.zero_add] at hs1
      have hs2 := tm_l (some ⟨g, 0, none⟩) n1 c i (by omega)
      rw [addrK_some (show i < c by omega), Nat.zero_add] at hs2
      have hov : (callFunc 37 #[.slice (some ⟨gv, 0, none⟩) 1 1, .slice (some ⟨g, i1 * 34, none⟩) (n1 - i1) (c - i1)]).run Try.prog w = .ok (.value (.bool false)) w := by
        rw [run_callFunc_extern Try.func37 (by kernel_rfl) (by kernel_rfl) (by kernel_rfl) (e := Extern.SlicesOverlaps.overlaps #[23, 23] #[4]) (by kernel_rfl),
          run_overlaps_blks HV.out hblk (Ne.symm hgv) (by rw [hlen]; omega) 23 4 27 Try.underlying23 34 (fun w => by simp [sizeOf, typeInfo, HKI.out.1, HKI.out.2.2.1])]
        rfl
      have HX2 := Lib.hid (show Blk w g 27 cur ∧ Blk w gv 27 o ∧ Below base w w from ⟨hblk, HV.out, (Below.refl _ _).mono HBS.out⟩)
      have HS1 := Lib.hid hs1
      have HS2 := Lib.hid hs2
      have HRM := Lib.hid hroom
      have HN2 := Lib.hid (show (os.drop i).flatten.length = Nat.min (n1 - i) (n1 - i1) * 34 from by rw [hdl, show n1 - i1 = n - i by omega, show Nat.min (n1 - i) (n - i) = n - i by simp [Nat.min_def]; omega])
      have HF1 := Lib.hid (show i1 * 34 + (os.drop i).flatten.length ≤ cur.length from by rw [hlen, hdl]; omega)
      have HRES := Lib.hid (ins_shift (cur := cur) (D := (os.drop i).flatten) htl hte.symm HOL.out (by rw [hdl, hlen]; omega))
      have HF0 := Lib.hid (show i * 34 + o.length ≤ (setL cur (i1 * 34) (os.drop i).flatten).length from by
        have h := HF1.out
        simp only [setL, List.length_append, List.length_take, List.length_drop, HOL.out]
        omega)
      have HN1 := Lib.hid (show o.length = Nat.min 1 (n1 - i) * 34 from by rw [HOL.out, show Nat.min 1 (n1 - i) = 1 by simp [Nat.min_def]; omega])
      clear hr hown hg hcr hcs hte htl hdl hlen hds hd1 hfe hnk hblk hbg hnc2 hcm2 hv hne hlo hgv hbase hs2
      go_enter Try.func26, Try.ntmps26
      go_upto_region 15 with fail
      clear hov e0 e1 e2 hsl0 hs1 hsh
      refine wp_region_held_drew (S := fun _ => True) (by kernel_rfl) (trivial) (fun hHeld => ?_)
      have hF : Blk w.drew g 27 cur ∧ Blk w.drew gv 27 o ∧ Below base w w.drew := ⟨HX2.out.1, HX2.out.2.1, HX2.out.2.2.drew⟩
      generalize w.drew = wd1 at hF ⊢
      refine take_first (v := ?_) 0 rfl (by kernel_rfl) (by kernel_rfl) (by kernel_rfl) (fun _ _ _ h => h) (Or.inl ⟨by rfl, ?_⟩) (by assumption) ?_
      rotate_left
      · (intro w hSw; (try dsimp only at hSw); go_simp; try with_reducible rfl)
      (try simp only [Act.put, List.setIfInBounds_toArray, List.set_cons_zero, List.set_cons_succ])
      refine take_first (v := ?_) 1 rfl (by kernel_rfl) (by kernel_rfl) (by kernel_rfl) (fun _ _ _ h => h) (Or.inl ⟨by rfl, ?_⟩) (by assumption) ?_
      rotate_left
      · (intro w hSw; (try dsimp only at hSw); go_simp; try with_reducible rfl)
      (try simp only [Act.put, List.setIfInBounds_toArray, List.set_cons_zero, List.set_cons_succ])
      refine take_first (v := ?_) 2 rfl (by kernel_rfl) (by kernel_rfl) (by kernel_rfl) (fun _ _ _ h => h) (Or.inl ⟨by rfl, ?_⟩) (by assumption) ?_
      rotate_left
      · (intro w hSw; (try dsimp only at hSw); go_simp; try with_reducible rfl)
      (try simp only [Act.put, List.setIfInBounds_toArray, List.set_cons_zero, List.set_cons_succ])
      refine take_first (v := ?_) 3 rfl (by kernel_rfl) (by kernel_rfl) (by kernel_rfl) (fun _ _ _ h => h) (Or.inl ⟨by rfl, ?_⟩) (by assumption) ?_
      rotate_left
      · (intro w hSw; (try dsimp only at hSw); go_simp; try with_reducible rfl)
      (try simp only [Act.put, List.setIfInBounds_toArray, List.set_cons_zero, List.set_cons_succ])
      refine take_first (v := ?_) 4 rfl (by kernel_rfl) (by kernel_rfl) (by kernel_rfl) (fun _ _ _ h => h) (Or.inl ⟨by rfl, ?_⟩) (by assumption) ?_
      rotate_left
      · (intro w hSw; (try dsimp only at hSw); have s := HS1.out w; go_simp; try with_reducible rfl)
      (try simp only [Act.put, List.setIfInBounds_toArray, List.set_cons_zero, List.set_cons_succ])
      refine take_first (v := ?_) 5 rfl (by kernel_rfl) (by kernel_rfl) (by kernel_rfl) (fun _ _ _ h => h) (Or.inl ⟨by rfl, ?_⟩) (by assumption) ?_
      rotate_left
      · (intro w hSw; (try dsimp only at hSw); go_simp; try with_reducible rfl)
      (try simp only [Act.put, List.setIfInBounds_toArray, List.set_cons_zero, List.set_cons_succ])
      refine take_first (v := ?_) 6 rfl (by kernel_rfl) (by kernel_rfl) (by kernel_rfl) (fun _ _ _ h => h) (Or.inl ⟨by rfl, ?_⟩) (by assumption) ?_
      rotate_left
      · (intro w hSw; (try dsimp only at hSw); go_simp; try with_reducible rfl)
      (try simp only [Act.put, List.setIfInBounds_toArray, List.set_cons_zero, List.set_cons_succ])
      refine take_first (v := ?_) 7 rfl (by kernel_rfl) (by kernel_rfl) (by kernel_rfl) (fun _ _ _ h => h) (Or.inl ⟨by rfl, ?_⟩) (by assumption) ?_
      rotate_left
      · (intro w hSw; (try dsimp only at hSw); have s := HS2.out w; go_simp; try with_reducible rfl)
      (try simp only [Act.put, List.setIfInBounds_toArray, List.set_cons_zero, List.set_cons_succ])
      refine step_one 8 rfl (by kernel_rfl) (fun K hK => ?_)
      refine step_copy_objs _ rfl (.tmp 73) (.tmp 76) 23 23 rfl 27 Try.underlying23 34 HSZ.out g (i1 * 34) (n1 - i1) (c - i1) ⟨g, i * 34, none⟩ (n1 - i) (c - i) rfl rfl cur 27 hF.1 (os.drop i).flatten HN2.out (blk_seg hF.1 HDS.out) HF1.out HD1.out ?_
      intro w4 hb4 hg4
      refine hK.out _ _ trivial (fun _ => ?_)
      clear hK K
      (try simp only [Act.put])
      refine wpAnyH_done (by kernel_rfl) ?_ _
      have HX4 := Lib.hid (show Blk w4 g 27 (setL cur (i1 * 34) (os.drop i).flatten) ∧ Blk w4 gv 27 o ∧ Below base w w4 from ⟨hb4, (hg4.block gv hF.2.1.lt (fun e => by injection e with e; exact HGV.out e.symm)).trans hF.2.1, hF.2.2.grown hg4 (Nat.le_trans HBS.out hF.2.2.size) (fun q hq => by injection hq with hq; have := HW.out.2.2.2.2.2.2.1; omega)⟩)
      clear hb4 hg4 hF
      have hs1 := HS2.out
      go_wp2_with (refine wpList_copy_objs _ rfl (.tmp 80) (.tmp 81) 23 23 rfl 27 Try.underlying23 34 HSZ.out g (i * 34) (n1 - i) (c - i) ⟨gv, 0, none⟩ 1 1 rfl rfl (setL cur (i1 * 34) (os.drop i).flatten) 27 HX4.out.1 o HN1.out (blk_seg HX4.out.2.1 (fun j v hj => by rw [Nat.zero_add]; exact hj)) HF0.out H1O.out ?_; intro w5 hb5 hg5)
      have HFIN := Lib.hid (show w5.ownsRow base 27 34 (.slice (some ⟨g, 0, none⟩) n1 c) n1 (os.take i ++ o :: os.drop i).flatten ∧ Below base w w5 from ⟨own_of_blk hb5 HW.out.2.2.2.2.2.2.1 HRM.out HW.out.2.2.2.2.2.2.2.1 (by have h := HRES.out.2; rw [HW.out.2.2.2.2.2.1] at h; rw [h]; exact HW.out.2.2.2.1) (by have h := HRES.out.1; rw [HW.out.2.2.1, HW.out.2.2.2.2.2.2.2.2.2.2, HW.out.2.2.2.2.2.1] at h; rw [h]; exact HW.out.2.2.2.2.2.2.2.2.2.1), HX4.out.2.2.grown hg5 (Nat.le_trans HBS.out HX4.out.2.2.size) (fun q hq => by injection hq with hq; have := HW.out.2.2.2.2.2.2.1; omega)⟩)
      clear hb5 hg5
      go_ret
      exact ⟨.slice (some ⟨g, 0, none⟩) n1 c, rfl, by have h := HFIN.out.1; simp at h ⊢; exact h, HFIN.out.2⟩
  · obtain rfl : i = n := by omega
    have HO := Lib.hid hown
    have HFE := Lib.hid (show os.flatten ++ o = (os.take i ++ o :: os.drop i).flatten from by rw [List.take_of_length_le (by omega), List.drop_of_length_le (by omega)]; simp)
    have e0 : ((i : Int) == (i : Int)) = true := by simp
    clear hown hv hne hlo
    go_enter Try.func26, Try.ntmps26
    go_wp2_with (refine wpList_append_own_at _ rfl (.tmp 23) (.tmp 24) 23 rfl base 27 ik _ 34 48 Try.underlying23 HKI.out.1 HKI.out.2.1 HKI.out.2.2.1 HKI.out.2.2.2 (by rfl) (by omega) (.slice A i c) i _ rfl HO.out ⟨gv, 0, none⟩ 1 1 o rfl (by rw [HOL.out]) (fun q v hv => by rw [Go.WideShapes.add_plain, Nat.zero_add, HV.out.cell]; exact hv) H1O.out (by unfold maxLen; omega) (by omega) HBS.out ?_; intro v6 w6 ho6 hg6 _ _)
    go_ret
    exact ⟨v6, rfl, by have h := ho6; rw [HFE.out] at h; simp at h ⊢; exact h, ((Below.refl _ _).mono HBS.out).grown hg6 HBS.out (own_from HO.out)⟩
end Go.Proofs.Ytffeecaidkeepaa
namespace Go.Proofs.Ytffeecaidkeepaa
open Go.RowKit

set_option maxRecDepth 100000 in
set_option maxHeartbeats 8000000 in
theorem whPlace_any (A : Option Addr) (n c : Nat) (l : List TimerM) (t : TimerM) (w : World) (hn : n ≤ 100) (ht : t.ok) (_hok : ∀ s ∈ l, s.ok) (hr : TmRd w w.heap.size A n l) :
    Calls Try.prog 27 #[.slice A n c, .agg t.cells.toArray] w fun e w' => e = .returned (.int .i64 (placeT l t : Int)) ∧ Below w.heap.size w w' := by
  have HA := Lib.hid hr
  have HOT := Lib.hid ht
  obtain ⟨tc, htc⟩ : ∃ z, t.cells.toArray = z := ⟨_, rfl⟩
  rw [htc]
  have HTC := Lib.hid htc
  have HM := Lib.hid (show Mem w [blkE w.heap.size 27 t.cells] (w.alloc (.cells tc 27)) from (Mem.nil w).alloc rfl 27 tc t.cells htc.symm)
  clear hr ht htc _hok
  go_enter Try.func27, Try.ntmps27
  go_upto_region 1 with fail
  generalize w.alloc (.cells tc 27) = w1 at HM ⊢
  go_wp2_with fail
  go_loopw [9] (fun v wr => ∃ j : Nat, j ≤ n ∧ v = .int .i64 (j : Int) ∧ (∀ (q : Nat) x, q < j → l[q]? = some x → lessT t x = false) ∧ Mem w [blkE w.heap.size 27 t.cells] wr) (fun v _ => n - (intOf v).toNat)
  case atStart => exact ⟨0, Nat.zero_le _, rfl, fun q _ h => absurd h (Nat.not_lt_zero _), HM.out⟩
  case round =>
    clear HM
    obtain ⟨j, hj, rfl, hno, hM⟩ := hrel
    have HM := Lib.hid hM
    have HNO := Lib.hid hno
    clear hM hno
    by_cases hjn : j < n
    · have d1 : decide ((j : Int) < (n : Int)) = true := by simp; omega
      obtain ⟨b, off, rfl⟩ := HA.out.1.addr (by omega)
      obtain ⟨s, hs⟩ : ∃ s, l[j]? = some s := ⟨l[j]'(by rw [HA.out.len]; exact hjn), List.getElem?_eq_getElem _⟩
      have HOK := Lib.hid (HA.out.ok hs)
      have hat := HA.out.at j s hs
      have HLA := Lib.hid (hat.2.mono HM.out.bel hat.1)
      have HJS := Lib.hid hs
      obtain ⟨sc, hsc⟩ : ∃ z, s.cells.toArray = z := ⟨_, rfl⟩
      have HSC := Lib.hid hsc
      obtain ⟨sk, hsk⟩ : ∃ z, (s.peer.map u8v).toArray = z := ⟨_, rfl⟩
      have HSK := Lib.hid hsk
      clear hat hs hsc hsk
      have HZ := Lib.hid (Blk.new wr 27 timerZ)
      go_upto_region 4 with (first | (refine wpList_load_obj rfl 27 (.tmp 12) rfl b _ rfl s.cells HLA.out _ Try.underlying27 rfl (timer_cellsOf s HOK.out) ?_; rw [HSC.out]) | (refine wpList_store_obj rfl 27 (.tmp 6) (.tmp 13) rfl wr.heap.size 0 s.cells rfl (by show Value.agg sc = _; rw [HSC.out]) 27 timerZ HZ.out (timer_cellsOf s HOK.out) (by rw [TimerM.cells_length HOK.out, timerZ_length]; omega) (timer_one s) ?_; intro w4 hb4 hg4))
      rw [setL_all timerZ s.cells (by rw [TimerM.cells_length HOK.out, timerZ_length])] at hb4
      replace HM := Lib.hid (HM.out.below (below_fresh hg4))
      have HP := Lib.hid hb4
      have hlc := whLessC t s
      rw [HTC.out, HSC.out] at hlc
      obtain ⟨y, hy⟩ : ∃ y, lessT t s = y := ⟨_, rfl⟩
      rw [hy] at hlc
      have HLC := Lib.hid hlc
      have HY := Lib.hid hy
      clear hb4 hg4 HZ d1 HLA hlc hy
      generalize wr.heap.size = P1 at HP ⊢
      go_wp2_with (first | (refine wpList_load_obj rfl 27 (.tmp 3) rfl w.heap.size 0 rfl t.cells ((HM.out.blk 0 rfl).all) _ Try.underlying27 rfl (timer_cellsOf t HOT.out) ?_; rw [HTC.out]) | (refine wpList_load_obj rfl 27 (.tmp 6) rfl P1 0 rfl s.cells (HP.out.all) _ Try.underlying27 rfl (timer_cellsOf s HOK.out) ?_; rw [HSC.out]))
      refine (HLC.out w4 HOT.out HOK.out).mono ?_
      rintro e w5 ⟨rfl, hb⟩
      replace HM := Lib.hid (HM.out.below hb)
      clear hb HLC HP
      cases y with
      | true =>
        have HR := Lib.hid (placeT_some HJS.out HY.out HNO.out)
        go_wp2_with fail
        go_ret
        exact ⟨by rw [HR.out]; rfl, HM.out.bel⟩
      | false =>
        go_wp2_with fail
        go_roundw
        case rel => exact ⟨j + 1, by omega, by go_num, fun q x hq hx => by
          rcases Nat.lt_or_ge q j with h | h
          · exact HNO.out q x h hx
          · obtain rfl : q = j := by omega
            have e := HJS.out.symm.trans hx
            injection e with e
            rw [← e]
            exact HY.out, HM.out⟩
        case measure => simp [intOf]; omega
    · obtain rfl : n = j := by omega
      have d1 : decide ((n : Int) < (n : Int)) = false := by simp
      have HR := Lib.hid (show placeT l t = n from (placeT_none fun q x hq hx => HNO.out q x (by rw [← HA.out.len]; exact hq) hx).trans HA.out.len)
      have HF := Lib.hid HM.out.bel
      clear HM HNO
      go_wp2
      go_ret
      exact ⟨by rw [HR.out]; rfl, HF.out⟩
theorem lows_below_t {w W W' : World} {g0 : Nat} {k : List Value} (h : Lows w [blkL w.heap.size 27 k] W) (hb : Below g0 W W') (hg : w.heap.size < g0) : Lows w [blkL w.heap.size 27 k] W' :=
  ⟨fun f hf => by
    cases List.mem_singleton.1 hf
    have h1 : Blk W w.heap.size 27 k := h.blk 0 rfl
    exact (hb.block _ hg).trans h1, h.bel.trans (hb.mono (Nat.le_of_lt hg))⟩
set_option maxRecDepth 100000 in
set_option maxHeartbeats 8000000 in
theorem whSetC : WhSetC 9 := by
  intro A n c l t w ht harg
  have hn := harg.1
  have HOT := Lib.hid ht
  have HOKS := Lib.hid harg.2.2.2.2
  have HLN := Lib.hid harg.2.2.2.len
  obtain ⟨ik, hik, hiz, his, hib⟩ := timerInfo
  have HKI := Lib.hid (And.intro hik (And.intro hiz (And.intro his hib)))
  clear hik hiz his hib
  obtain ⟨tc, htc⟩ : ∃ z, t.cells.toArray = z := ⟨_, rfl⟩
  rw [htc]
  have HTC := Lib.hid htc
  have HM := Lib.hid (show Lows w [blkL w.heap.size 27 t.cells] (w.alloc (.cells tc 27)) from (Lows.nil w).alloc 27 tc t.cells htc.symm)
  obtain ⟨kk, hkk⟩ : ∃ z, (t.peer.map u8v).toArray = z := ⟨_, rfl⟩
  have HKK := Lib.hid hkk
  have HARG := Lib.hid harg
  clear harg ht htc hkk
  go_enter Try.func9, Try.ntmps9
  go_upto_region 1 with fail
  generalize w.alloc (.cells tc 27) = w1 at HM ⊢
  have fk := kind_at (HM.out.blk 0 rfl).all HOT.out
  have hca := whCancelO A n c l t.peer t.kind w1 HOT.out.2.1 HOT.out.2.2 ⟨hn, HARG.out.2.1, HARG.out.2.2.1, tmAt HARG.out.2.2.2 HM.out.bel⟩
  rw [HKK.out] at hca
  have HCA := Lib.hid hca
  have HWL := Lib.hid (show w.heap.size < w1.heap.size from (HM.out.blk 0 rfl).lt)
  have HW1 := Lib.hid (show w.heap.size ≤ w1.heap.size from HM.out.bel.size)
  clear hca
  go_wp2_with (refine wpList_load_obj rfl 25 (.tmp 7) rfl w.heap.size 1 rfl (t.peer.map u8v) (peer_at (HM.out.blk 0 rfl).all) _ Try.underlying25 rfl (key_cellsOf _ HOT.out.2.1) ?_; rw [HKK.out])
  refine HCA.out.mono ?_
  rintro e wz ⟨v5, rfl, hown, hb⟩
  obtain ⟨rest, hrest⟩ : ∃ z, cancelT l t.peer t.kind = z := ⟨_, rfl⟩
  have hokr : ∀ s ∈ rest, s.ok := by rw [← hrest]; exact cancelT_ok HOKS.out _ _
  have hml : rest.length ≤ 100 := by rw [← hrest]; exact Nat.le_trans (cancelT_le _ _ _) (by rw [HLN.out]; exact hn)
  rw [hrest] at hown
  obtain ⟨m, hm⟩ : ∃ z, rest.length = z := ⟨_, rfl⟩
  rw [hm] at hown hml
  obtain ⟨A5, c5, rfl, _, _, _⟩ := own_sliceK hown
  replace HM := Lib.hid (HM.out.below hb)
  obtain ⟨zs, hzs⟩ : ∃ z, wz.heap.size = z := ⟨_, rfl⟩
  have HNE := Lib.hid (show ∀ ad, A5 = some ad → ad.block < zs from fun ad h => hzs ▸ (hown.lt ad.block (by rw [h]; rfl)).2)
  have HO := Lib.hid (show wz.ownsRow w1.heap.size 27 34 (.slice A5 m c5) m (tmsV rest).flatten ∧ zs ≤ wz.heap.size from ⟨hown, Nat.le_of_eq hzs.symm⟩)
  have HZS := Lib.hid (show w1.heap.size ≤ zs from hzs ▸ hb.size)
  have HREST := Lib.hid hrest
  have HLR := Lib.hid hm
  have HOKR := Lib.hid hokr
  have HML := Lib.hid hml
  have HRES := Lib.hid (show ((tmsV rest).take (placeT rest t) ++ t.cells :: (tmsV rest).drop (placeT rest t)).flatten = (tmsV (setT l t)).flatten from by rw [setT, hrest, putT, tmsV_take, tmsV_drop]; simp [tmsV])
  have hpl := fun W (hr : TmRd W W.heap.size A5 m rest) => whPlace_any A5 m c5 rest t W hml HOT.out hokr hr
  rw [HTC.out] at hpl
  have HPL := Lib.hid hpl
  clear hpl
  generalize w1.heap.size = w1s at HO HZS HWL HW1
  clear hb hown hrest hokr hml hm fk HCA hzs
  go_upto_region 2 with fail
  refine wp_region_held_drew (S := fun W' => Lows w [blkL w.heap.size 27 t.cells] W') (by kernel_rfl) (HM.out.drew) (fun hHeld => ?_)
  replace HM := Lib.hid HM.out.drew
  replace HO := Lib.hid (show wz.drew.ownsRow w1s 27 34 (.slice A5 m c5) m (tmsV rest).flatten ∧ zs ≤ wz.drew.heap.size from HO.out)
  generalize wz.drew = wd at HM HO hHeld ⊢
  refine take_first (v := ?_) 0 rfl (by kernel_rfl) (by kernel_rfl) (by kernel_rfl) (fun _ _ _ h => h) (Or.inl ⟨by rfl, ?_⟩) (by assumption) ?_
  rotate_left
  · (intro w hSw; (try dsimp only at hSw); go_simp; try with_reducible rfl)
  (try simp only [Act.put, List.setIfInBounds_toArray, List.set_cons_zero, List.set_cons_succ])
  refine take_first (v := ?_) 1 rfl (by kernel_rfl) (by kernel_rfl) (by kernel_rfl) (fun _ _ _ h => h) (Or.inl ⟨by rfl, ?_⟩) (by assumption) ?_
  rotate_left
  · (intro w hSw; (try dsimp only at hSw); go_simp; try with_reducible rfl)
  (try simp only [Act.put, List.setIfInBounds_toArray, List.set_cons_zero, List.set_cons_succ])
  refine take_first (v := .agg tc) 2 rfl (by kernel_rfl) (by kernel_rfl) (by kernel_rfl) (fun _ _ _ h => h) (by rw [← HTC.out]; exact yields_load_obj (by rfl) 27 (.tmp 3) rfl w.heap.size 0 rfl t.cells (fun w' hb => (Lows.blk hb 0 rfl).all) _ Try.underlying27 rfl (timer_cellsOf t HOT.out)) (by assumption) ?_
  (try simp only [Act.put, List.setIfInBounds_toArray, List.set_cons_zero, List.set_cons_succ])
  refine take_first (v := .agg tc) 4 rfl (by kernel_rfl) (by kernel_rfl) (by kernel_rfl) (fun _ _ _ h => h) (by rw [← HTC.out]; exact yields_load_obj (by rfl) 27 (.tmp 3) rfl w.heap.size 0 rfl t.cells (fun w' hb => (Lows.blk hb 0 rfl).all) _ Try.underlying27 rfl (timer_cellsOf t HOT.out)) (by assumption) ?_
  (try simp only [Act.put, List.setIfInBounds_toArray, List.set_cons_zero, List.set_cons_succ])
  refine step_two 3 5 rfl rfl (by kernel_rfl) (fun K hK => ?_) (fun K hK => ?_)
  · clear hHeld
    go_simp
    refine (HPL.out wd (TmRd.of_own HLR.out HOKR.out HO.out.1)).mono ?_
    rintro e we ⟨rfl, hb⟩
    replace HO := Lib.hid (show we.ownsRow w1s 27 34 (.slice A5 m c5) m (tmsV rest).flatten ∧ zs ≤ we.heap.size from ⟨own_below HO.out.1 hb, Nat.le_trans HO.out.2 hb.size⟩)
    replace HM := Lib.hid (HM.out.below hb)
    skip
    clear hb
    go_wp2_with fail
    refine hK.out _ _ (HM.out) (fun hHeld => ?_)
    clear hK K
    (try simp only [Act.put, List.setIfInBounds_toArray, List.set_cons_zero, List.set_cons_succ])
    refine step_one 5 rfl (by kernel_rfl) (fun K hK => ?_)
    clear hHeld
    refine step_buildOne rfl 23 27 (.tmp 16) rfl tc rfl 34 Try.underlying23 ik HKI.out.1 HKI.out.2.2.1 _ HKI.out.2.1 (by omega) (by omega) (by rw [← HTC.out, List.size_toArray, TimerM.cells_length HOT.out]) ?_
    have HGV := Lib.hid (show Blk (we.alloc (.cells tc 27)) we.heap.size 27 t.cells ∧ zs ≤ we.heap.size from ⟨by rw [← HTC.out]; exact Blk.new we 27 _, HO.out.2⟩)
    replace HO := Lib.hid (show (we.alloc (.cells tc 27)).ownsRow w1s 27 34 (.slice A5 m c5) m (tmsV rest).flatten ∧ zs ≤ (we.alloc (.cells tc 27)).heap.size from ⟨HO.out.1.alloc _, Nat.le_trans HO.out.2 (by simp)⟩)
    replace HM := Lib.hid (HM.out.below ((Below.refl _ _).alloc (Nat.le_refl _) (.cells tc 27)))
    generalize we.alloc (.cells tc 27) = wf at HM HO HGV ⊢
    generalize we.heap.size = gv at HGV ⊢
    refine hK.out _ _ (HM.out) (fun hHeld => ?_)
    clear hK K
    (try simp only [Act.put, List.setIfInBounds_toArray, List.set_cons_zero, List.set_cons_succ])
    refine step_one 6 rfl (by kernel_rfl) (fun K hK => ?_)
    clear hHeld
    go_simp
    refine (tmIns_any w1s A5 m c5 (placeT rest t) (tmsV rest) t.cells (by have := HML.out; omega) (by rw [← HLR.out]; exact placeT_le _ _) (by rw [tmsV_len]; exact HLR.out) (tms_34 HOKR.out) (tms_one rest) (TimerM.cells_length HOT.out) (timer_one t) gv wf (Nat.le_trans HZS.out (Nat.le_trans HGV.out.2 (Nat.le_of_lt HGV.out.1.lt))) HO.out.1 HGV.out.1 (fun ad h => by have h1 := HNE.out ad h; have h2 := HGV.out.2; omega)).mono ?_
    rintro e w9 ⟨v9, rfl, ho9, hb⟩
    have HF := Lib.hid (And.intro ho9 (HM.out.bel.trans (hb.mono HW1.out)))
    have hx := lows_below_t HM.out hb HWL.out
    clear ho9 hb HM
    go_wp2_with fail
    refine hK.out _ _ hx (fun hHeld => ?_)
    clear hK K hx
    (try simp only [Act.put, List.setIfInBounds_toArray, List.set_cons_zero, List.set_cons_succ])
    refine take_first (v := ?_) 7 rfl (by kernel_rfl) (by kernel_rfl) (by kernel_rfl) (fun _ _ _ h => h) (Or.inl ⟨by rfl, ?_⟩) (by assumption) ?_
    rotate_left
    · (intro w hSw; (try dsimp only at hSw); go_simp; try with_reducible rfl)
    (try simp only [Act.put, List.setIfInBounds_toArray, List.set_cons_zero, List.set_cons_succ])
    refine wpAnyH_done (by kernel_rfl) ?_ _
    clear hHeld
    go_wp2
    go_ret
    exact ⟨v9, rfl, whOut_own HW1.out (by rw [setT, putT_len, HREST.out, HLR.out]) (setT_ok HOKS.out HOT.out) (by have h := HF.out.1; rw [← HRES.out]; exact h) HF.out.2⟩
  · clear hHeld
    refine step_buildOne rfl 23 27 (.tmp 16) rfl tc rfl 34 Try.underlying23 ik HKI.out.1 HKI.out.2.2.1 _ HKI.out.2.1 (by omega) (by omega) (by rw [← HTC.out, List.size_toArray, TimerM.cells_length HOT.out]) ?_
    have HGV := Lib.hid (show Blk (wd.alloc (.cells tc 27)) wd.heap.size 27 t.cells ∧ zs ≤ wd.heap.size from ⟨by rw [← HTC.out]; exact Blk.new wd 27 _, HO.out.2⟩)
    replace HO := Lib.hid (show (wd.alloc (.cells tc 27)).ownsRow w1s 27 34 (.slice A5 m c5) m (tmsV rest).flatten ∧ zs ≤ (wd.alloc (.cells tc 27)).heap.size from ⟨HO.out.1.alloc _, Nat.le_trans HO.out.2 (by simp)⟩)
    replace HM := Lib.hid (HM.out.below ((Below.refl _ _).alloc (Nat.le_refl _) (.cells tc 27)))
    generalize wd.alloc (.cells tc 27) = we at HM HO HGV ⊢
    generalize wd.heap.size = gv at HGV ⊢
    refine hK.out _ _ (HM.out) (fun hHeld => ?_)
    clear hK K
    (try simp only [Act.put, List.setIfInBounds_toArray, List.set_cons_zero, List.set_cons_succ])
    refine step_one 3 rfl (by kernel_rfl) (fun K hK => ?_)
    clear hHeld
    go_simp
    refine (HPL.out we (TmRd.of_own HLR.out HOKR.out HO.out.1)).mono ?_
    rintro e wf ⟨rfl, hb⟩
    replace HO := Lib.hid (show wf.ownsRow w1s 27 34 (.slice A5 m c5) m (tmsV rest).flatten ∧ zs ≤ wf.heap.size from ⟨own_below HO.out.1 hb, Nat.le_trans HO.out.2 hb.size⟩)
    replace HM := Lib.hid (HM.out.below hb)
    replace HGV := Lib.hid (show Blk wf gv 27 t.cells ∧ zs ≤ gv from ⟨HGV.out.1.below hb HGV.out.1.lt, HGV.out.2⟩)
    clear hb
    go_wp2_with fail
    refine hK.out _ _ (HM.out) (fun hHeld => ?_)
    clear hK K
    (try simp only [Act.put, List.setIfInBounds_toArray, List.set_cons_zero, List.set_cons_succ])
    refine step_one 6 rfl (by kernel_rfl) (fun K hK => ?_)
    clear hHeld
    go_simp
    refine (tmIns_any w1s A5 m c5 (placeT rest t) (tmsV rest) t.cells (by have := HML.out; omega) (by rw [← HLR.out]; exact placeT_le _ _) (by rw [tmsV_len]; exact HLR.out) (tms_34 HOKR.out) (tms_one rest) (TimerM.cells_length HOT.out) (timer_one t) gv wf (Nat.le_trans HZS.out (Nat.le_trans HGV.out.2 (Nat.le_of_lt HGV.out.1.lt))) HO.out.1 HGV.out.1 (fun ad h => by have h1 := HNE.out ad h; have h2 := HGV.out.2; omega)).mono ?_
    rintro e w9 ⟨v9, rfl, ho9, hb⟩
    have HF := Lib.hid (And.intro ho9 (HM.out.bel.trans (hb.mono HW1.out)))
    have hx := lows_below_t HM.out hb HWL.out
    clear ho9 hb HM
    go_wp2_with fail
    refine hK.out _ _ hx (fun hHeld => ?_)
    clear hK K hx
    (try simp only [Act.put, List.setIfInBounds_toArray, List.set_cons_zero, List.set_cons_succ])
    refine take_first (v := ?_) 7 rfl (by kernel_rfl) (by kernel_rfl) (by kernel_rfl) (fun _ _ _ h => h) (Or.inl ⟨by rfl, ?_⟩) (by assumption) ?_
    rotate_left
    · (intro w hSw; (try dsimp only at hSw); go_simp; try with_reducible rfl)
    (try simp only [Act.put, List.setIfInBounds_toArray, List.set_cons_zero, List.set_cons_succ])
    refine wpAnyH_done (by kernel_rfl) ?_ _
    clear hHeld
    go_wp2
    go_ret
    exact ⟨v9, rfl, whOut_own HW1.out (by rw [setT, putT_len, HREST.out, HLR.out]) (setT_ok HOKS.out HOT.out) (by have h := HF.out.1; rw [← HRES.out]; exact h) HF.out.2⟩
end Go.Proofs.Ytffeecaidkeepaa
namespace Go.Proofs.Ytffeecaidkeepaa
open Go.RowKit

theorem dueT_is (l : List TimerM) (tz : Int) : dueT l tz = ((dueO l tz).getD timer0, (dueO l tz).isSome) := by
  unfold dueT
  cases dueO l tz <;> rfl
set_option maxRecDepth 100000 in
set_option maxHeartbeats 8000000 in
theorem whDueC : WhDueC 17 := by
  intro A n c l tz w htz harg
  have hn := harg.1
  have HA := Lib.hid harg.2.2.2
  have hm := ((Mem.nil w).alloc rfl 27 #[.int .i64 0, .int .u8 0, .int .u8 0, .int .u8 0, .int .u8 0, .int .u8 0, .int .u8 0, .int .u8 0, .int .u8 0, .int .u8 0, .int .u8 0, .int .u8 0, .int .u8 0, .int .u8 0, .int .u8 0, .int .u8 0, .int .u8 0, .int .u8 0, .int .u8 0, .int .u8 0, .int .u8 0, .int .u8 0, .int .u8 0, .int .u8 0, .int .u8 0, .int .u8 0, .int .u8 0, .int .u8 0, .int .u8 0, .int .u8 0, .int .u8 0, .int .u8 0, .int .u8 0, .int .i64 0] timerZ rfl)
  have HM0 := Lib.hid (show Mem w [blkE w.heap.size 27 timerZ] (w.alloc (.cells #[.int .i64 0, .int .u8 0, .int .u8 0, .int .u8 0, .int .u8 0, .int .u8 0, .int .u8 0, .int .u8 0, .int .u8 0, .int .u8 0, .int .u8 0, .int .u8 0, .int .u8 0, .int .u8 0, .int .u8 0, .int .u8 0, .int .u8 0, .int .u8 0, .int .u8 0, .int .u8 0, .int .u8 0, .int .u8 0, .int .u8 0, .int .u8 0, .int .u8 0, .int .u8 0, .int .u8 0, .int .u8 0, .int .u8 0, .int .u8 0, .int .u8 0, .int .u8 0, .int .u8 0, .int .i64 0] 27)) from hm)
  clear harg hm
  go_enter Try.func17, Try.ntmps17
  go_upto_region 1 with fail
  generalize hw1 : w.alloc (.cells #[.int .i64 0, .int .u8 0, .int .u8 0, .int .u8 0, .int .u8 0, .int .u8 0, .int .u8 0, .int .u8 0, .int .u8 0, .int .u8 0, .int .u8 0, .int .u8 0, .int .u8 0, .int .u8 0, .int .u8 0, .int .u8 0, .int .u8 0, .int .u8 0, .int .u8 0, .int .u8 0, .int .u8 0, .int .u8 0, .int .u8 0, .int .u8 0, .int .u8 0, .int .u8 0, .int .u8 0, .int .u8 0, .int .u8 0, .int .u8 0, .int .u8 0, .int .u8 0, .int .u8 0, .int .i64 0] 27) = w1 at HM0 ⊢
  have hs1 : w1.heap.size = w.heap.size + 1 := by rw [← hw1]; simp
  have HM := Lib.hid (show Mem w [blkE (w.heap.size + 1) 27 timerZ, blkE w.heap.size 27 timerZ] (w1.alloc (.cells #[.int .i64 0, .int .u8 0, .int .u8 0, .int .u8 0, .int .u8 0, .int .u8 0, .int .u8 0, .int .u8 0, .int .u8 0, .int .u8 0, .int .u8 0, .int .u8 0, .int .u8 0, .int .u8 0, .int .u8 0, .int .u8 0, .int .u8 0, .int .u8 0, .int .u8 0, .int .u8 0, .int .u8 0, .int .u8 0, .int .u8 0, .int .u8 0, .int .u8 0, .int .u8 0, .int .u8 0, .int .u8 0, .int .u8 0, .int .u8 0, .int .u8 0, .int .u8 0, .int .u8 0, .int .i64 0] 27)) from HM0.out.alloc hs1.symm 27 #[.int .i64 0, .int .u8 0, .int .u8 0, .int .u8 0, .int .u8 0, .int .u8 0, .int .u8 0, .int .u8 0, .int .u8 0, .int .u8 0, .int .u8 0, .int .u8 0, .int .u8 0, .int .u8 0, .int .u8 0, .int .u8 0, .int .u8 0, .int .u8 0, .int .u8 0, .int .u8 0, .int .u8 0, .int .u8 0, .int .u8 0, .int .u8 0, .int .u8 0, .int .u8 0, .int .u8 0, .int .u8 0, .int .u8 0, .int .u8 0, .int .u8 0, .int .u8 0, .int .u8 0, .int .i64 0] timerZ rfl)
  clear hw1
  go_upto_region 2 with fail
  generalize w1.alloc (.cells #[.int .i64 0, .int .u8 0, .int .u8 0, .int .u8 0, .int .u8 0, .int .u8 0, .int .u8 0, .int .u8 0, .int .u8 0, .int .u8 0, .int .u8 0, .int .u8 0, .int .u8 0, .int .u8 0, .int .u8 0, .int .u8 0, .int .u8 0, .int .u8 0, .int .u8 0, .int .u8 0, .int .u8 0, .int .u8 0, .int .u8 0, .int .u8 0, .int .u8 0, .int .u8 0, .int .u8 0, .int .u8 0, .int .u8 0, .int .u8 0, .int .u8 0, .int .u8 0, .int .u8 0, .int .i64 0] 27) = w2 at HM ⊢
  clear HM0 hs1
  go_wp2_with fail
  go_loopw [12, 7] (fun v vf wr => ∃ (j : Nat) (o : Option TimerM), j ≤ n ∧ v = .int .i64 (j : Int) ∧ dueO (l.take j) tz = o ∧ vf = .bool o.isSome ∧ (o.getD timer0).ok ∧ Mem w [blkE (w.heap.size + 1) 27 (o.getD timer0).cells, blkE w.heap.size 27 timerZ] wr) (fun v _ _ => n - (intOf v).toNat)
  case atStart => exact ⟨0, none, Nat.zero_le _, rfl, rfl, rfl, timer0_ok, HM.out⟩
  case round =>
    clear HM
    obtain ⟨j, o, hj, rfl, hdu, rfl, hoo, hM⟩ := hrel
    have HM := Lib.hid hM
    have HDU := Lib.hid hdu
    have HOO := Lib.hid hoo
    clear hM hdu hoo
    by_cases hjn : j < n
    · have d1 : decide ((j : Int) < (n : Int)) = true := by simp; omega
      obtain ⟨b, off, rfl⟩ := HA.out.1.addr (by omega)
      obtain ⟨s, hs⟩ : ∃ s, l[j]? = some s := ⟨l[j]'(by rw [HA.out.len]; exact hjn), List.getElem?_eq_getElem _⟩
      have HOK := Lib.hid (HA.out.ok hs)
      have hat := HA.out.at j s hs
      have HLA := Lib.hid (hat.2.mono HM.out.bel hat.1)
      have HJS := Lib.hid hs
      obtain ⟨sc, hsc⟩ : ∃ z, s.cells.toArray = z := ⟨_, rfl⟩
      have HSC := Lib.hid hsc
      obtain ⟨sk, hsk⟩ : ∃ z, (s.peer.map u8v).toArray = z := ⟨_, rfl⟩
      have HSK := Lib.hid hsk
      clear hat hs hsc hsk
      have HZ := Lib.hid (Blk.new wr 27 timerZ)
      have HST := Lib.hid (show dueO (l.take (j + 1)) tz = dueS tz o s from by rw [take_snoc HJS.out, dueO_snoc, HDU.out])
      go_upto_region 6 with (first | (refine wpList_load_obj rfl 27 (.tmp 14) rfl b _ rfl s.cells HLA.out _ Try.underlying27 rfl (timer_cellsOf s HOK.out) ?_; rw [HSC.out]) | (refine wpList_store_obj rfl 27 (.tmp 9) (.tmp 15) rfl wr.heap.size 0 s.cells rfl (by show Value.agg sc = _; rw [HSC.out]) 27 timerZ HZ.out (timer_cellsOf s HOK.out) (by rw [TimerM.cells_length HOK.out, timerZ_length]; omega) (timer_one s) ?_; intro w4 hb4 hg4))
      rw [setL_all timerZ s.cells (by rw [TimerM.cells_length HOK.out, timerZ_length])] at hb4
      replace HM := Lib.hid (HM.out.below (below_fresh hg4))
      have HP := Lib.hid hb4
      clear hb4 hg4 HZ d1 HLA
      generalize wr.heap.size = P1 at HP ⊢
      have ft := tm_at HP.out.all
      by_cases hle : s.tm ≤ tz
      · replace HST := Lib.hid (HST.out.trans (if_pos hle))
        have d2 : decide (s.tm ≤ tz) = true := by simpa using hle
        obtain ⟨tq, htq⟩ : ∃ z, s.tm = z := ⟨_, rfl⟩
        rw [htq] at ft d2
        clear hle htq
        cases o with
        | none =>
          simp only [Option.isSome_none]
          go_wp2_with (first | (refine wpList_load_obj rfl 27 (.tmp 9) rfl P1 0 rfl s.cells (HP.out.all) _ Try.underlying27 rfl (timer_cellsOf s HOK.out) ?_; rw [HSC.out]) | (refine wpList_store_obj rfl 27 (.tmp 6) (.tmp 29) rfl (w.heap.size + 1) 0 s.cells rfl (by show Value.agg sc = _; rw [HSC.out]) 27 ((none : Option TimerM).getD timer0).cells (HM.out.blk 0 rfl) (timer_cellsOf s HOK.out) (by rw [TimerM.cells_length HOK.out, TimerM.cells_length HOO.out]; omega) (timer_one s) ?_; intro w9 hb9 hg9))
          rw [setL_all _ _ (by rw [TimerM.cells_length HOK.out, TimerM.cells_length HOO.out])] at hb9
          have HM9 := Lib.hid (show Mem w [blkE (w.heap.size + 1) 27 ((some s).getD timer0).cells, blkE w.heap.size 27 timerZ] w9 from HM.out.put 0 rfl _ hg9 hb9)
          clear hb9 hg9 HM
          go_roundw
          case rel => exact ⟨j + 1, some s, by omega, by go_num, by rw [HST.out]; rfl, rfl, HOK.out, HM9.out⟩
          case measure => simp [intOf]; omega
        | some q =>
          simp only [Option.isSome_some]
          have hlc := whLessC s q
          obtain ⟨qc, hqc⟩ : ∃ z, q.cells.toArray = z := ⟨_, rfl⟩
          rw [HSC.out, hqc] at hlc
          have HQC := Lib.hid hqc
          obtain ⟨y, hy⟩ : ∃ y, lessT s q = y := ⟨_, rfl⟩
          rw [hy] at hlc
          replace HST := Lib.hid (show dueO (l.take (j + 1)) tz = if y = true then some s else some q from by rw [HST.out, leastS_some, hy])
          have HLC := Lib.hid hlc
          have HOQ := Lib.hid (show q.ok from HOO.out)
          clear hlc hqc hy
          go_wp2_with (first | (refine wpList_load_obj_g (by rfl) 27 (.tmp 9) rfl P1 0 rfl s.cells (HP.out.all) _ Try.underlying27 rfl (timer_cellsOf s HOK.out) ?_; rw [HSC.out]) | (refine wpList_load_obj_g (by rfl) 27 (.tmp 6) rfl (w.heap.size + 1) 0 rfl q.cells ((HM.out.blk 0 rfl).all) _ Try.underlying27 rfl (timer_cellsOf q HOQ.out) ?_; rw [HQC.out]))
          refine (HLC.out w4 HOK.out HOQ.out).mono ?_
          rintro e w5 ⟨rfl, hb⟩
          replace HM := Lib.hid (HM.out.below hb)
          replace HP := Lib.hid (show Blk w5 P1 27 s.cells from HP.out.below hb HP.out.lt)
          clear hb HLC ft d2
          cases y with
          | true =>
            go_wp2_with (first | (refine wpList_load_obj rfl 27 (.tmp 9) rfl P1 0 rfl s.cells (HP.out.all) _ Try.underlying27 rfl (timer_cellsOf s HOK.out) ?_; rw [HSC.out]) | (refine wpList_store_obj rfl 27 (.tmp 6) (.tmp 29) rfl (w.heap.size + 1) 0 s.cells rfl (by show Value.agg sc = _; rw [HSC.out]) 27 ((some q).getD timer0).cells (HM.out.blk 0 rfl) (timer_cellsOf s HOK.out) (by rw [TimerM.cells_length HOK.out, TimerM.cells_length HOO.out]; omega) (timer_one s) ?_; intro w9 hb9 hg9))
            rw [setL_all _ _ (by rw [TimerM.cells_length HOK.out, TimerM.cells_length HOO.out])] at hb9
            have HM9 := Lib.hid (show Mem w [blkE (w.heap.size + 1) 27 ((some s).getD timer0).cells, blkE w.heap.size 27 timerZ] w9 from HM.out.put 0 rfl _ hg9 hb9)
            clear hb9 hg9 HM
            go_roundw
            case rel => exact ⟨j + 1, some s, by omega, by go_num, by rw [HST.out]; rfl, rfl, HOK.out, HM9.out⟩
            case measure => simp [intOf]; omega
          | false =>
            go_wp2_with fail
            go_roundw
            case rel => exact ⟨j + 1, some q, by omega, by go_num, by first | exact HST.out | (rw [HST.out]; rfl), rfl, HOO.out, HM.out⟩
            case measure => simp [intOf]; omega
      · replace HST := Lib.hid (HST.out.trans (if_neg hle))
        have d2 : decide (s.tm ≤ tz) = false := by simpa using hle
        obtain ⟨tq, htq⟩ : ∃ z, s.tm = z := ⟨_, rfl⟩
        rw [htq] at ft d2
        clear hle htq
        go_wp2_with fail
        go_roundw
        case rel => exact ⟨j + 1, o, by omega, by go_num, by first | exact HST.out | (rw [HST.out]; rfl), rfl, HOO.out, HM.out⟩
        case measure => simp [intOf]; omega
    · obtain rfl : n = j := by omega
      have d1 : decide ((n : Int) < (n : Int)) = false := by simp
      have htk : l.take n = l := List.take_of_length_le (by rw [HA.out.len]; exact Nat.le_refl _)
      have HR := Lib.hid (show dueT l tz = (o.getD timer0, o.isSome) from by rw [dueT_is, ← htk, HDU.out])
      obtain ⟨q, hq⟩ : ∃ z, o.getD timer0 = z := ⟨_, rfl⟩
      obtain ⟨y, hy⟩ : ∃ z, o.isSome = z := ⟨_, rfl⟩
      rw [hq] at HM HOO HR
      rw [hy] at HR ⊢
      obtain ⟨qc, hqc⟩ : ∃ z, q.cells.toArray = z := ⟨_, rfl⟩
      have HQC := Lib.hid hqc
      clear htk HDU hq hy hqc
      go_wp2_with (first | (refine wpList_load_obj rfl 27 (.tmp 6) rfl (w.heap.size + 1) 0 rfl q.cells ((HM.out.blk 0 rfl).all) _ Try.underlying27 rfl (timer_cellsOf q HOO.out) ?_; rw [HQC.out]) | (refine wpList_store_obj rfl 27 (.tmp 4) (.tmp 31) rfl w.heap.size 0 q.cells rfl (by show Value.agg qc = _; rw [HQC.out]) 27 timerZ (HM.out.blk 1 rfl) (timer_cellsOf q HOO.out) (by rw [TimerM.cells_length HOO.out, timerZ_length]; omega) (timer_one q) ?_; intro w9 hb9 hg9))
      rw [setL_all timerZ q.cells (by rw [TimerM.cells_length HOO.out, timerZ_length])] at hb9
      exact bodyPost_ret (results_obj_tmp rfl _ _ w.heap.size 27 q.cells _ rfl hb9 Try.underlying27 rfl (timer_cellsOf q HOO.out)) rfl ⟨by rw [HR.out]; rfl, HM.out.bel.grown hg9 HM.out.bel.size (fun k hk => by injection hk with hk; omega)⟩
end Go.Proofs.Ytffeecaidkeepaa
namespace Go.Proofs.Ytffeecaidkeepaa
open Go.RowKit Go.Maps

/-- what the map reads as -/
def litsV (S : List Lit) : DataW Unit := S.foldr (fun (c : Lit) (D : DataW Unit) => DataW.put D c (.lit (.bool true))) (.map [])
theorem litsV_isMap : ∀ S : List Lit, IsMap (litsV S)
  | [] => isMap_empty
  | _ :: S => (litsV_isMap S).put _ _
theorem litsV_in {c : Lit} (hc : WideAt.IsKeyLit c) : ∀ S : List Lit, c ∈ S → (litsV S).atKey c (.lit (.bool false)) = .lit (.bool true)
  | [], h => by cases h
  | d :: S, h => by
    show ((litsV S).put d (.lit (.bool true))).atKey _ _ = _
    by_cases e : c = d
    · subst e
      rw [atKey_put_same (litsV_isMap S) hc]
    · rw [atKey_put_other (fun h => e (by first | exact h | exact h.symm)), litsV_in hc S (by rcases List.mem_cons.1 h with h | h; exact absurd h e; exact h)]
theorem litsV_out {c : Lit} (hc : WideAt.IsKeyLit c) : ∀ S : List Lit, c ∉ S → (litsV S).atKey c (.lit (.bool false)) = .lit (.bool false)
  | [], _ => rfl
  | d :: S, h => by
    show ((litsV S).put d (.lit (.bool true))).atKey _ _ = _
    have e : c ≠ d := fun e => h (by rw [e]; exact List.mem_cons_self ..)
    rw [atKey_put_other (fun h => e (by first | exact h | exact h.symm)), litsV_out hc S (fun hm => h (List.mem_cons_of_mem _ hm))]
/-- block b is the map of the keys of S -/
def KeysAt (P : Program) (k e : TypeId) (W : World) (b n : Nat) (S : List Lit) : Prop := W.ownsMap P k (plainElem P e) b n (litsV S)
theorem KeysAt.lt {P : Program} {k e : TypeId} {W : World} {b n : Nat} {S : List Lit} (h : KeysAt P k e W b n S) : b < W.heap.size := World.ownsMap.lt h
def keysL (P : Program) (k e : TypeId) (b n : Nat) (S : List Lit) : Low := ⟨fun W => KeysAt P k e W b n S, fun W W' hb h => by
  obtain ⟨es, clock, h1, h2⟩ := h
  exact ⟨es, clock, (hb.block b (Array.getElem?_eq_some_iff.1 h1).1).trans h1, h2⟩⟩
theorem plainElem_bool_inv2 {P : Program} {e : TypeId} (he : P.underlying e = some .bool) {v : Value} {z : DataW Unit × List MemPlace} (h : plainElem P e v = some z) : ∃ x, v = .bool x ∧ z = (.lit (.bool x), []) := by
  unfold plainElem at h
  rw [he] at h
  cases v <;> simp at h
  subst h
  exact ⟨_, rfl, rfl⟩
theorem run_lookup_keys {P : Program} {w : World} {t k e : TypeId} (K : Keyed P k) (ht : P.underlying t = some (.map k e)) (he : P.underlying e = some .bool) (hz : ∀ w, (zeroValue e).run P w = .ok (.bool false) w) {b n : Nat} {S : List Lit}
    (hown : KeysAt P k e w b n S) (v : Value) (c : Lit) (hc : keyOf P k v = some c) (y : Bool) (hy : y = true ↔ c ∈ S) : (Instr.lookup t (.map (some b)) v false).run P w = .ok (.bool y) w := by
  obtain ⟨z, ps, hrun, hv⟩ := World.ownsMap.lookup hown K ht (hz w) (plainElem_bool he false) hc
  obtain ⟨x, rfl, hz2⟩ := plainElem_bool_inv2 he hv
  rw [hrun]
  cases y with
  | true =>
    rw [litsV_in (K.key hc) S (hy.1 rfl)] at hz2
    simp only [Prod.mk.injEq, DataW.lit.injEq, Lit.bool.injEq] at hz2
    rw [hz2.1]
  | false =>
    rw [litsV_out (K.key hc) S (fun h => by cases hy.2 h)] at hz2
    simp only [Prod.mk.injEq, DataW.lit.injEq, Lit.bool.injEq] at hz2
    rw [hz2.1]
theorem wpList_update_keys {P : Program} {w : World} {ops : Array Oper} {rest : List Oper} {o : Oper} {a : Act} {Q : Exit → Act → World → Prop}
    (hg : o.guard = none) (m x v : Operand) (t : TypeId) (hop : o.op = Op.mapUpdate t m x v)
    (k e : TypeId) (K : Keyed P k) (ht : P.underlying t = some (.map k e)) (he : P.underlying e = some .bool) (b n : Nat) (S : List Lit)
    (hm : a.eval m = .map (some b)) (hown : KeysAt P k e w b n S) (hn : n < maxLen) (u : Value) (c : Lit) (hc : keyOf P k u = some c) (hx : a.eval x = u) (hv : a.eval v = .bool true)
    (h : ∀ w', KeysAt P k e w' b (n + 1) (c :: S) → w.grownBy w' (some b) → wpList P ops Q rest (a.put o.dst undef) w') : wpList P ops Q (o :: rest) a w :=
  wpList_mapUpdate_own w hg m x v t hop k e K ht (plainElem P e) b n (litsV S) hm hown hn _ _ c hx hv hc (.lit (.bool true)) [] (plainElem_bool he true) h
end Go.Proofs.Ytffeecaidkeepaa
