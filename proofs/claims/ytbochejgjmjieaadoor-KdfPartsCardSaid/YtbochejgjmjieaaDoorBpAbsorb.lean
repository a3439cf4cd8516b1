/-
  The contract of blake.absorb: the state behind all blocks of a message. No statement is proved here.
-/
import Derived.Test.YtbochejgjmjieaaDoorBpComp
import Derived.Test.YtbochejgjmjieaaDoorSliceOf
namespace Go.Proofs.YtbochejgjmjieaaDoor
open Go.RowKit

theorem to64_full (l : List UInt8) (h : l.length = 64) : to64 l = l := by
  rw [to64, h, Nat.sub_self, List.replicate_zero, List.append_nil]
theorem fill_mid (ml : List UInt8) (n b j : Nat) (hn : ml.length = n) (hb : b = 64 * j) (h : b + 64 ≤ n) : (((fillB ml).drop (64 * j)).take 64) = to64 ((ml.drop b).take 64) := by
  subst hb
  rw [to64_full _ (by rw [List.length_take, List.length_drop]; omega), fillB, List.drop_append_of_le_length (by omega), List.take_append_of_le_length (by rw [List.length_drop]; omega)]
theorem fill_last (ml : List UInt8) (n b j : Nat) (hn : ml.length = n) (hb : b = 64 * j) (h : n ≤ b + 64) (h2 : b < n ∨ b = 0) : (((fillB ml).drop (64 * j)).take 64) = to64 (ml.drop b) := by
  subst hb
  have hd : (ml.drop (64 * j)).length = n - 64 * j := by rw [List.length_drop, hn]
  rw [fillB, List.drop_append_of_le_length (by omega), to64, hd]
  have hp : (if ml = [] then 64 else (64 - ml.length % 64) % 64) = 64 - (n - 64 * j) := by
    by_cases e : ml = []
    · subst e
      simp at hn
      subst hn
      rw [if_pos rfl]
      omega
    · rw [if_neg e, hn]
      have : 0 < n := by rw [← hn]; exact List.length_pos_iff.2 e
      omega
  rw [hp, List.take_of_length_le]
  rw [List.length_append, hd, List.length_replicate]
  omega
theorem fill_count (ml : List UInt8) (n : Nat) (hn : ml.length = n) : (n = 0 → (fillB ml).length / 64 = 1) ∧ (0 < n → (fillB ml).length / 64 = (n + 63) / 64) := by
  rw [fillB, List.length_append, List.length_replicate, hn]
  constructor
  · intro h
    have : ml = [] := List.eq_nil_of_length_eq_zero (by omega)
    rw [if_pos this]
    omega
  · intro h
    rw [if_neg (by intro e; subst e; simp at hn; omega)]
    omega

set_option maxRecDepth 100000 in
set_option maxHeartbeats 16000000 in
theorem bpAbsorb_any (h : List UInt32) (hh : h.length = 8) (A : Option Addr) (n c : Nat) (ml : List UInt8) (hnc : n ≤ c) (_hcm : c ≤ maxLen) (hn5 : n ≤ 500000) (w : World) (hlv : LvBlake w) (hr : Rd w w.heap.size A n ml) :
    Calls Tryd.prog 23 #[.agg (h.map u32v).toArray, .slice A n c] w fun e w' => e = .returned (.agg ((statesB h (fillB ml) n ((fillB ml).length / 64) ((fillB ml).length / 64)).map u32v).toArray) ∧ Below w.heap.size w w' := by
  obtain ⟨ch, hch⟩ : ∃ x, (h.map u32v).toArray = x := ⟨_, rfl⟩
  have hN := fill_count ml n hr.1
  obtain ⟨N, hNE⟩ : ∃ N, (fillB ml).length / 64 = N := ⟨_, rfl⟩
  rw [hNE] at hN ⊢
  clear hNE
  obtain ⟨rz, hrz⟩ : ∃ x, statesB h (fillB ml) n N N = x := ⟨_, rfl⟩
  rw [hch, hrz]
  have HRZ := Lib.hid hrz
  have HM := Lib.hid (show Mem w [blkE (w.heap.size + 1) 46 (zw 8), blkE w.heap.size 46 ((h).map u32v)] ((w.alloc (.cells ch 46)).alloc (.cells #[.int .u32 0, .int .u32 0, .int .u32 0, .int .u32 0, .int .u32 0, .int .u32 0, .int .u32 0, .int .u32 0] 46)) from ((Mem.nil w).alloc rfl 46 ch (h.map u32v) hch.symm).alloc (by simp) 46 #[.int .u32 0, .int .u32 0, .int .u32 0, .int .u32 0, .int .u32 0, .int .u32 0, .int .u32 0, .int .u32 0] (zw 8) rfl)
  have HH := Lib.hid hh
  have HLV := Lib.hid hlv
  have HML := Lib.hid hr.1
  have HR := Lib.hid hr
  have HN := Lib.hid hN
  clear hch hh hlv hr hrz hN
  go_enter Tryd.func23, Tryd.ntmps23
  go_upto_region 1 with fail
  generalize ((w.alloc (.cells ch 46)).alloc (.cells #[.int .u32 0, .int .u32 0, .int .u32 0, .int .u32 0, .int .u32 0, .int .u32 0, .int .u32 0, .int .u32 0] 46)) = w1 at HM ⊢
  go_wp2_with fail
  go_loopw [5] (fun v wr => ∃ j b : Nat, j < N ∧ b = 64 * j ∧ v = .int .i64 (b : Int) ∧ Mem w [blkE (w.heap.size + 1) 46 (zw 8), blkE w.heap.size 46 ((statesB h (fillB ml) n N j).map u32v)] wr) (fun v _ => n - (intOf v).toNat)
  case atStart => exact ⟨0, 0, by have := HN.out; omega, rfl, rfl, HM.out⟩
  case round =>
    clear HM
    obtain ⟨j, b, hj, hb64, rfl, hM⟩ := hrel
    have HM := Lib.hid hM
    clear hM
    have HST := Lib.hid (rfl : statesB h (fillB ml) n N j = statesB h (fillB ml) n N j)
    have HHS := Lib.hid (show (statesB h (fillB ml) n N j).length = 8 from statesB_length _ _ _ _ HH.out j)
    obtain ⟨hs, hhs⟩ : ∃ x, statesB h (fillB ml) n N j = x := ⟨_, rfl⟩
    rw [hhs] at HM HHS
    replace HST := Lib.hid hhs
    clear hhs
    have hNN := HN.out
    have hbn : b < n ∨ b = 0 := by omega
    have m1 : IntKind.i64.wrap ((n : Int) - (b : Int)) = (n : Int) - (b : Int) := IntWalk.i64_in _ (by omega)
    by_cases hlt : n - b > 64
    · have dl : decide ((n : Int) - (b : Int) > 64) = true := by simp; omega
      obtain ⟨e, he⟩ : ∃ e : Nat, b + 64 = e := ⟨_, rfl⟩
      have m2 : (b : Int) + 64 = (e : Int) := by omega
      have m3 : IntKind.i64.wrap ((b : Int) + 64) = (e : Int) := by rw [m2]; exact IntWalk.i64_in _ (by omega)
      have HSL := Lib.hid (fun w' : World => slice_lh A n c b e (by omega) (by omega) hnc w')
      have hchunk : (((fillB ml).drop (64 * j)).take 64) = to64 ((ml.drop b).take 64) := fill_mid ml n b j HML.out hb64 (by omega)
      have HCR := Lib.hid (show Rd w w.heap.size (addrOf A b c) (e - b) ((ml.drop b).take 64) from by rw [show e - b = 64 by omega]; exact (HR.out.behind b c (by omega) hnc).take (by omega))
      obtain ⟨ck, hck⟩ : ∃ x, ((ml.drop b).take 64) = x := ⟨_, rfl⟩
      rw [hck] at HCR hchunk
      clear hck
      have BC := Lib.hid (fun (w' : World) (hr : Rd w' w'.heap.size (addrOf A b c) (e - b) ck) => bpBlock_any (addrOf A b c) (e - b) (c - b) ck (by omega) w' hr)
      obtain ⟨wm, hwm⟩ : ∃ x, wordsL (to64 ck) = x := ⟨_, rfl⟩
      have HWM := Lib.hid (show wm.length = 16 by rw [← hwm]; exact wordsL_length _)
      obtain ⟨hn, hhn⟩ : ∃ x, compM hs wm e false = x := ⟨_, rfl⟩
      have HHN := Lib.hid (show hn.length = 8 by rw [← hhn]; exact compM_length _ _ _ _)
      have HNX := Lib.hid (show statesB h (fillB ml) n N (j + 1) = hn by rw [statesB, HST.out, hchunk, if_neg (by omega), show (j + 1 == N) = false from by rw [beq_eq_false_iff_ne]; omega, show 64 * (j + 1) = e by omega, ← compM_compB, hwm, hhn])
      have CC := Lib.hid (fun (w' : World) (hv : LvBlake w') => bpComp_any hs wm HHS.out HWM.out e (by omega) false w' hv)
      obtain ⟨cs, hcs⟩ : ∃ x, (hs.map u32v).toArray = x := ⟨_, rfl⟩
      obtain ⟨cn, hcn⟩ : ∃ x, (hn.map u32v).toArray = x := ⟨_, rfl⟩
      obtain ⟨cw, hcw⟩ : ∃ x, (wm.map u32v).toArray = x := ⟨_, rfl⟩
      rw [hwm, hcw] at BC
      rw [hhn, hcs, hcn, hcw] at CC
      have HCS := Lib.hid (And.intro hcs (And.intro hcn hcw))
      clear hcs hcn hcw hhn hwm hchunk
      have q4 : IntKind.u64.wrap (e : Int) = (e : Int) := by rw [IntKind.wrap_u64]; omega
      have q9 : (e : Int) % 18446744073709551616 = (e : Int) := by omega
      have HB64 := Lib.hid (And.intro hb64 he)
      clear hb64 he
      go_upto_region 5 with fail
      refine wp_region_held_drew (S := fun W' => Mem w [blkE (w.heap.size + 1) 46 (zw 8)] W') (by kernel_rfl) (((HM.out.erase 1)).drew) (fun hHeld => ?_)
      replace HM := Lib.hid HM.out.drew
      generalize wr.drew = wd1 at HM hHeld ⊢
      refine take_first (v := ?_) 1 rfl (by kernel_rfl) (by kernel_rfl) (by kernel_rfl) (fun _ _ _ h => h) (Or.inl ⟨by rfl, ?_⟩) (by assumption) ?_
      rotate_left
      · (intro w hSw; (try dsimp only at hSw); go_simp; try with_reducible rfl)
      (try simp only [Act.put, List.setIfInBounds_toArray, List.set_cons_zero, List.set_cons_succ])
      refine take_first (v := ?_) 2 rfl (by kernel_rfl) (by kernel_rfl) (by kernel_rfl) (fun _ _ _ h => h) (Or.inl ⟨by rfl, ?_⟩) (by assumption) ?_
      rotate_left
      · (intro w hSw; (try dsimp only at hSw); go_simp; try with_reducible rfl)
      (try simp only [Act.put, List.setIfInBounds_toArray, List.set_cons_zero, List.set_cons_succ])
      refine take_first (v := ?_) 3 rfl (by kernel_rfl) (by kernel_rfl) (by kernel_rfl) (fun _ _ _ h => h) (Or.inl ⟨by rfl, ?_⟩) (by assumption) ?_
      rotate_left
      · (intro w hSw; (try dsimp only at hSw); go_simp; try with_reducible rfl)
      (try simp only [Act.put, List.setIfInBounds_toArray, List.set_cons_zero, List.set_cons_succ])
      refine take_first (v := ?_) 4 rfl (by kernel_rfl) (by kernel_rfl) (by kernel_rfl) (fun _ _ _ h => h) (Or.inl ⟨by rfl, ?_⟩) (by assumption) ?_
      rotate_left
      · (intro w hSw; (try dsimp only at hSw); have sl := HSL.out w; go_simp; try with_reducible rfl)
      (try simp only [Act.put, List.setIfInBounds_toArray, List.set_cons_zero, List.set_cons_succ])
      refine take_first (v := ?_) 6 rfl (by kernel_rfl) (by kernel_rfl) (by kernel_rfl) (fun _ _ _ h => h) (Or.inl ⟨by rfl, ?_⟩) (by assumption) ?_
      rotate_left
      · (intro w hSw; (try dsimp only at hSw); go_simp; try with_reducible rfl)
      (try simp only [Act.put, List.setIfInBounds_toArray, List.set_cons_zero, List.set_cons_succ])
      refine take_first (v := ?_) 7 rfl (by kernel_rfl) (by kernel_rfl) (by kernel_rfl) (fun _ _ _ h => h) (Or.inl ⟨by rfl, ?_⟩) (by assumption) ?_
      rotate_left
      · (intro w hSw; (try dsimp only at hSw); go_simp; try with_reducible rfl)
      (try simp only [Act.put, List.setIfInBounds_toArray, List.set_cons_zero, List.set_cons_succ])
      refine step_two 0 5 rfl rfl (by kernel_rfl) (fun K hK => ?_) (fun K hK => ?_)
      · clear hHeld
        refine step_load_blk rfl 46 (.tmp 2) rfl w.heap.size rfl 46 (hs.map u32v) (HM.out.blk 1 rfl) 8 44 Tryd.underlying46 (cellsSt hs HHS.out) ?_
        rw [HCS.out.1]
        refine hK.out _ _ ((HM.out.erase 1)) (fun hHeld => ?_)
        clear hK K
        (try simp only [Act.put, List.setIfInBounds_toArray, List.set_cons_zero, List.set_cons_succ])
        refine step_one 5 rfl (by kernel_rfl) (fun K hK => ?_)
        clear hHeld
        go_simp
        refine (BC.out _ (HM.out.arg HCR.out)).mono ?_
        rintro e wy2 ⟨rfl, hb⟩
        replace HM := Lib.hid (show Mem w [blkE (w.heap.size + 1) 46 (zw 8), blkE w.heap.size 46 ((hs).map u32v)] wy2 from HM.out.below hb)
        clear hb
        go_wp2_with fail
        refine hK.out _ _ ((HM.out.erase 1)) (fun hHeld => ?_)
        clear hK K
        (try simp only [Act.put, List.setIfInBounds_toArray, List.set_cons_zero, List.set_cons_succ])
        refine step_one 8 rfl (by kernel_rfl) (fun K hK => ?_)
        clear hHeld
        go_simp
        refine (CC.out _ (HLV.out.below HM.out.bel)).mono ?_
        rintro e wy3 ⟨rfl, hb⟩
        replace HM := Lib.hid (show Mem w [blkE (w.heap.size + 1) 46 (zw 8), blkE w.heap.size 46 ((hs).map u32v)] wy3 from HM.out.below hb)
        clear hb
        go_wp2_with fail
        refine hK.out _ _ ((HM.out.erase 1)) (fun hHeld => ?_)
        clear hK K
        (try simp only [Act.put, List.setIfInBounds_toArray, List.set_cons_zero, List.set_cons_succ])
        refine step_one 9 rfl (by kernel_rfl) (fun K hK => ?_)
        clear hHeld
        refine step_store_blk _ rfl 46 (.tmp 2) (.tmp 24) rfl w.heap.size (hn.map u32v) rfl (by show Value.agg cn = _; rw [HCS.out.2.1]) 46 (hs.map u32v) (HM.out.blk 1 rfl) (cellsSt hn HHN.out) (by rw [List.length_map, List.length_map, HHN.out, HHS.out]) (u32v_one _) ?_
        intro wy4 hb hg
        replace HM := Lib.hid (show Mem w [blkE (w.heap.size + 1) 46 (zw 8), blkE w.heap.size 46 ((hn).map u32v)] wy4 from HM.out.put 1 rfl _ hg hb)
        clear hb hg
        refine hK.out _ _ ((HM.out.erase 1)) (fun hHeld => ?_)
        clear hK K
        (try simp only [Act.put])
        refine wpAnyH_done (by kernel_rfl) ?_ _
        have HF := Lib.hid (show Mem w [blkE (w.heap.size + 1) 46 (zw 8), blkE w.heap.size 46 ((statesB h (fillB ml) n N (j + 1)).map u32v)] wy4 from by rw [HNX.out]; exact HM.out)
        clear HM HNX hHeld BC CC HCS HCR HSL q4 q9
        go_wp2
        have hb64 := HB64.out.1
        have he := HB64.out.2
        refine ⟨⟨j + 1, e, by omega, by omega, rfl, HF.out⟩, ?_⟩
        simp [intOf]
        omega
      · clear hHeld
        go_simp
        refine (BC.out _ (HM.out.arg HCR.out)).mono ?_
        rintro e wy2 ⟨rfl, hb⟩
        replace HM := Lib.hid (show Mem w [blkE (w.heap.size + 1) 46 (zw 8), blkE w.heap.size 46 ((hs).map u32v)] wy2 from HM.out.below hb)
        clear hb
        go_wp2_with fail
        refine hK.out _ _ ((HM.out.erase 1)) (fun hHeld => ?_)
        clear hK K
        (try simp only [Act.put, List.setIfInBounds_toArray, List.set_cons_zero, List.set_cons_succ])
        refine step_one 0 rfl (by kernel_rfl) (fun K hK => ?_)
        clear hHeld
        refine step_load_blk rfl 46 (.tmp 2) rfl w.heap.size rfl 46 (hs.map u32v) (HM.out.blk 1 rfl) 8 44 Tryd.underlying46 (cellsSt hs HHS.out) ?_
        rw [HCS.out.1]
        refine hK.out _ _ ((HM.out.erase 1)) (fun hHeld => ?_)
        clear hK K
        (try simp only [Act.put, List.setIfInBounds_toArray, List.set_cons_zero, List.set_cons_succ])
        refine step_one 8 rfl (by kernel_rfl) (fun K hK => ?_)
        clear hHeld
        go_simp
        refine (CC.out _ (HLV.out.below HM.out.bel)).mono ?_
        rintro e wy3 ⟨rfl, hb⟩
        replace HM := Lib.hid (show Mem w [blkE (w.heap.size + 1) 46 (zw 8), blkE w.heap.size 46 ((hs).map u32v)] wy3 from HM.out.below hb)
        clear hb
        go_wp2_with fail
        refine hK.out _ _ ((HM.out.erase 1)) (fun hHeld => ?_)
        clear hK K
        (try simp only [Act.put, List.setIfInBounds_toArray, List.set_cons_zero, List.set_cons_succ])
        refine step_one 9 rfl (by kernel_rfl) (fun K hK => ?_)
        clear hHeld
        refine step_store_blk _ rfl 46 (.tmp 2) (.tmp 24) rfl w.heap.size (hn.map u32v) rfl (by show Value.agg cn = _; rw [HCS.out.2.1]) 46 (hs.map u32v) (HM.out.blk 1 rfl) (cellsSt hn HHN.out) (by rw [List.length_map, List.length_map, HHN.out, HHS.out]) (u32v_one _) ?_
        intro wy4 hb hg
        replace HM := Lib.hid (show Mem w [blkE (w.heap.size + 1) 46 (zw 8), blkE w.heap.size 46 ((hn).map u32v)] wy4 from HM.out.put 1 rfl _ hg hb)
        clear hb hg
        refine hK.out _ _ ((HM.out.erase 1)) (fun hHeld => ?_)
        clear hK K
        (try simp only [Act.put])
        refine wpAnyH_done (by kernel_rfl) ?_ _
        have HF := Lib.hid (show Mem w [blkE (w.heap.size + 1) 46 (zw 8), blkE w.heap.size 46 ((statesB h (fillB ml) n N (j + 1)).map u32v)] wy4 from by rw [HNX.out]; exact HM.out)
        clear HM HNX hHeld BC CC HCS HCR HSL q4 q9
        go_wp2
        have hb64 := HB64.out.1
        have he := HB64.out.2
        refine ⟨⟨j + 1, e, by omega, by omega, rfl, HF.out⟩, ?_⟩
        simp [intOf]
        omega
    · have dl : decide ((n : Int) - (b : Int) > 64) = false := by simp; omega
      have HSL := Lib.hid (fun w' : World => slice_l A n c b (by omega) w')
      have hchunk : (((fillB ml).drop (64 * j)).take 64) = to64 (ml.drop b) := fill_last ml n b j HML.out hb64 (by omega) (by omega)
      have HCR := Lib.hid (show Rd w w.heap.size (addrOf A b c) (n - b) (ml.drop b) from HR.out.behind b c (by omega) hnc)
      obtain ⟨ck, hck⟩ : ∃ x, (ml.drop b) = x := ⟨_, rfl⟩
      rw [hck] at HCR hchunk
      clear hck
      have BC := Lib.hid (fun (w' : World) (hr : Rd w' w'.heap.size (addrOf A b c) (n - b) ck) => bpBlock_any (addrOf A b c) (n - b) (c - b) ck (by omega) w' hr)
      obtain ⟨wm, hwm⟩ : ∃ x, wordsL (to64 ck) = x := ⟨_, rfl⟩
      have HWM := Lib.hid (show wm.length = 16 by rw [← hwm]; exact wordsL_length _)
      obtain ⟨hn, hhn⟩ : ∃ x, compM hs wm n true = x := ⟨_, rfl⟩
      have HHN := Lib.hid (show hn.length = 8 by rw [← hhn]; exact compM_length _ _ _ _)
      have HNX := Lib.hid (show statesB h (fillB ml) n N (j + 1) = hn by rw [statesB, HST.out, hchunk, if_pos (by omega), show (j + 1 == N) = true from by rw [beq_iff_eq]; omega, ← compM_compB, hwm, hhn])
      have CC := Lib.hid (fun (w' : World) (hv : LvBlake w') => bpComp_any hs wm HHS.out HWM.out n (by omega) true w' hv)
      obtain ⟨cs, hcs⟩ : ∃ x, (hs.map u32v).toArray = x := ⟨_, rfl⟩
      obtain ⟨cn, hcn⟩ : ∃ x, (hn.map u32v).toArray = x := ⟨_, rfl⟩
      obtain ⟨cw, hcw⟩ : ∃ x, (wm.map u32v).toArray = x := ⟨_, rfl⟩
      rw [hwm, hcw] at BC
      rw [hhn, hcs, hcn, hcw] at CC
      have HCS := Lib.hid (And.intro hcs (And.intro hcn hcw))
      clear hcs hcn hcw hhn hwm hchunk
      have q4 : IntKind.u64.wrap (n : Int) = (n : Int) := by rw [IntKind.wrap_u64]; omega
      have q9 : (n : Int) % 18446744073709551616 = (n : Int) := by omega
      have HB64 := Lib.hid hb64
      clear hb64
      go_upto_region 6 with fail
      refine wp_region_held_drew (S := fun W' => Mem w [] W') (by kernel_rfl) ((((HM.out.erase 0).erase 0)).drew) (fun hHeld => ?_)
      replace HM := Lib.hid HM.out.drew
      generalize wr.drew = wd1 at HM hHeld ⊢
      refine take_first (v := ?_) 1 rfl (by kernel_rfl) (by kernel_rfl) (by kernel_rfl) (fun _ _ _ h => h) (Or.inl ⟨by rfl, ?_⟩) (by assumption) ?_
      rotate_left
      · (intro w hSw; (try dsimp only at hSw); go_simp; try with_reducible rfl)
      (try simp only [Act.put, List.setIfInBounds_toArray, List.set_cons_zero, List.set_cons_succ])
      refine take_first (v := ?_) 2 rfl (by kernel_rfl) (by kernel_rfl) (by kernel_rfl) (fun _ _ _ h => h) (Or.inl ⟨by rfl, ?_⟩) (by assumption) ?_
      rotate_left
      · (intro w hSw; (try dsimp only at hSw); go_simp; try with_reducible rfl)
      (try simp only [Act.put, List.setIfInBounds_toArray, List.set_cons_zero, List.set_cons_succ])
      refine take_first (v := ?_) 3 rfl (by kernel_rfl) (by kernel_rfl) (by kernel_rfl) (fun _ _ _ h => h) (Or.inl ⟨by rfl, ?_⟩) (by assumption) ?_
      rotate_left
      · (intro w hSw; (try dsimp only at hSw); have sl := HSL.out w; go_simp; try with_reducible rfl)
      (try simp only [Act.put, List.setIfInBounds_toArray, List.set_cons_zero, List.set_cons_succ])
      refine take_first (v := ?_) 5 rfl (by kernel_rfl) (by kernel_rfl) (by kernel_rfl) (fun _ _ _ h => h) (Or.inl ⟨by rfl, ?_⟩) (by assumption) ?_
      rotate_left
      · (intro w hSw; (try dsimp only at hSw); go_simp; try with_reducible rfl)
      (try simp only [Act.put, List.setIfInBounds_toArray, List.set_cons_zero, List.set_cons_succ])
      refine take_first (v := ?_) 6 rfl (by kernel_rfl) (by kernel_rfl) (by kernel_rfl) (fun _ _ _ h => h) (Or.inl ⟨by rfl, ?_⟩) (by assumption) ?_
      rotate_left
      · (intro w hSw; (try dsimp only at hSw); go_simp; try with_reducible rfl)
      (try simp only [Act.put, List.setIfInBounds_toArray, List.set_cons_zero, List.set_cons_succ])
      refine take_first (v := ?_) 7 rfl (by kernel_rfl) (by kernel_rfl) (by kernel_rfl) (fun _ _ _ h => h) (Or.inl ⟨by rfl, ?_⟩) (by assumption) ?_
      rotate_left
      · (intro w hSw; (try dsimp only at hSw); go_simp; try with_reducible rfl)
      (try simp only [Act.put, List.setIfInBounds_toArray, List.set_cons_zero, List.set_cons_succ])
      refine step_two 0 4 rfl rfl (by kernel_rfl) (fun K hK => ?_) (fun K hK => ?_)
      · clear hHeld
        refine step_load_blk rfl 46 (.tmp 2) rfl w.heap.size rfl 46 (hs.map u32v) (HM.out.blk 1 rfl) 8 44 Tryd.underlying46 (cellsSt hs HHS.out) ?_
        rw [HCS.out.1]
        refine hK.out _ _ (((HM.out.erase 0).erase 0)) (fun hHeld => ?_)
        clear hK K
        (try simp only [Act.put, List.setIfInBounds_toArray, List.set_cons_zero, List.set_cons_succ])
        refine step_one 4 rfl (by kernel_rfl) (fun K hK => ?_)
        clear hHeld
        go_simp
        refine (BC.out _ (HM.out.arg HCR.out)).mono ?_
        rintro e wy2 ⟨rfl, hb⟩
        replace HM := Lib.hid (show Mem w [blkE (w.heap.size + 1) 46 (zw 8), blkE w.heap.size 46 ((hs).map u32v)] wy2 from HM.out.below hb)
        clear hb
        go_wp2_with fail
        refine hK.out _ _ (((HM.out.erase 0).erase 0)) (fun hHeld => ?_)
        clear hK K
        (try simp only [Act.put, List.setIfInBounds_toArray, List.set_cons_zero, List.set_cons_succ])
        refine step_one 8 rfl (by kernel_rfl) (fun K hK => ?_)
        clear hHeld
        go_simp
        refine (CC.out _ (HLV.out.below HM.out.bel)).mono ?_
        rintro e wy3 ⟨rfl, hb⟩
        replace HM := Lib.hid (show Mem w [blkE (w.heap.size + 1) 46 (zw 8), blkE w.heap.size 46 ((hs).map u32v)] wy3 from HM.out.below hb)
        clear hb
        go_wp2_with fail
        refine hK.out _ _ (((HM.out.erase 0).erase 0)) (fun hHeld => ?_)
        clear hK K
        (try simp only [Act.put, List.setIfInBounds_toArray, List.set_cons_zero, List.set_cons_succ])
        refine step_one 9 rfl (by kernel_rfl) (fun K hK => ?_)
        clear hHeld
        refine step_store_blk _ rfl 46 (.tmp 4) (.tmp 33) rfl (w.heap.size + 1) (hn.map u32v) rfl (by show Value.agg cn = _; rw [HCS.out.2.1]) 46 (zw 8) (HM.out.blk 0 rfl) (cellsSt hn HHN.out) (by rw [List.length_map, HHN.out]; rfl) (u32v_one _) ?_
        intro wy4 hb hg
        replace HM := Lib.hid (show Mem w [blkE (w.heap.size + 1) 46 ((hn).map u32v), blkE w.heap.size 46 ((hs).map u32v)] wy4 from HM.out.put 0 rfl _ hg hb)
        clear hb hg
        refine hK.out _ _ (((HM.out.erase 0).erase 0)) (fun hHeld => ?_)
        clear hK K
        (try simp only [Act.put])
        refine wpAnyH_done (by kernel_rfl) ?_ _
        have HF := Lib.hid (show Mem w [blkE (w.heap.size + 1) 46 ((hn).map u32v), blkE w.heap.size 46 ((hs).map u32v)] wy4 from HM.out)
        clear HM hHeld BC CC HCR HSL q4 q9
        have hb64 := HB64.out
        have hend : statesB h (fillB ml) n N N = hn := by rw [← HNX.out]; congr 1; omega
        clear hb64
        rw [hend] at HRZ
        go_wp2
        exact bodyPost_ret (results_blk rfl _ _ (w.heap.size + 1) 46 (hn.map u32v) 8 44 rfl (HF.out.blk 0 rfl) Tryd.underlying46 (cellsSt hn HHN.out)) rfl ⟨by rw [HRZ.out], HF.out.bel⟩
      · clear hHeld
        go_simp
        refine (BC.out _ (HM.out.arg HCR.out)).mono ?_
        rintro e wy2 ⟨rfl, hb⟩
        replace HM := Lib.hid (show Mem w [blkE (w.heap.size + 1) 46 (zw 8), blkE w.heap.size 46 ((hs).map u32v)] wy2 from HM.out.below hb)
        clear hb
        go_wp2_with fail
        refine hK.out _ _ (((HM.out.erase 0).erase 0)) (fun hHeld => ?_)
        clear hK K
        (try simp only [Act.put, List.setIfInBounds_toArray, List.set_cons_zero, List.set_cons_succ])
        refine step_one 0 rfl (by kernel_rfl) (fun K hK => ?_)
        clear hHeld
        refine step_load_blk rfl 46 (.tmp 2) rfl w.heap.size rfl 46 (hs.map u32v) (HM.out.blk 1 rfl) 8 44 Tryd.underlying46 (cellsSt hs HHS.out) ?_
        rw [HCS.out.1]
        refine hK.out _ _ (((HM.out.erase 0).erase 0)) (fun hHeld => ?_)
        clear hK K
        (try simp only [Act.put, List.setIfInBounds_toArray, List.set_cons_zero, List.set_cons_succ])
        refine step_one 8 rfl (by kernel_rfl) (fun K hK => ?_)
        clear hHeld
        go_simp
        refine (CC.out _ (HLV.out.below HM.out.bel)).mono ?_
        rintro e wy3 ⟨rfl, hb⟩
        replace HM := Lib.hid (show Mem w [blkE (w.heap.size + 1) 46 (zw 8), blkE w.heap.size 46 ((hs).map u32v)] wy3 from HM.out.below hb)
        clear hb
        go_wp2_with fail
        refine hK.out _ _ (((HM.out.erase 0).erase 0)) (fun hHeld => ?_)
        clear hK K
        (try simp only [Act.put, List.setIfInBounds_toArray, List.set_cons_zero, List.set_cons_succ])
        refine step_one 9 rfl (by kernel_rfl) (fun K hK => ?_)
        clear hHeld
        refine step_store_blk _ rfl 46 (.tmp 4) (.tmp 33) rfl (w.heap.size + 1) (hn.map u32v) rfl (by show Value.agg cn = _; rw [HCS.out.2.1]) 46 (zw 8) (HM.out.blk 0 rfl) (cellsSt hn HHN.out) (by rw [List.length_map, HHN.out]; rfl) (u32v_one _) ?_
        intro wy4 hb hg
        replace HM := Lib.hid (show Mem w [blkE (w.heap.size + 1) 46 ((hn).map u32v), blkE w.heap.size 46 ((hs).map u32v)] wy4 from HM.out.put 0 rfl _ hg hb)
        clear hb hg
        refine hK.out _ _ (((HM.out.erase 0).erase 0)) (fun hHeld => ?_)
        clear hK K
        (try simp only [Act.put])
        refine wpAnyH_done (by kernel_rfl) ?_ _
        have HF := Lib.hid (show Mem w [blkE (w.heap.size + 1) 46 ((hn).map u32v), blkE w.heap.size 46 ((hs).map u32v)] wy4 from HM.out)
        clear HM hHeld BC CC HCR HSL q4 q9
        have hb64 := HB64.out
        have hend : statesB h (fillB ml) n N N = hn := by rw [← HNX.out]; congr 1; omega
        clear hb64
        rw [hend] at HRZ
        go_wp2
        exact bodyPost_ret (results_blk rfl _ _ (w.heap.size + 1) 46 (hn.map u32v) 8 44 rfl (HF.out.blk 0 rfl) Tryd.underlying46 (cellsSt hn HHN.out)) rfl ⟨by rw [HRZ.out], HF.out.bel⟩
end Go.Proofs.YtbochejgjmjieaaDoor
