/-
  The walk of WindowOnce over what is asked of the program. No statement is proved here.
-/
import Derived.Test.YteidabgkidablaaWiBegun
import Derived.Test.YteidabgkidablaaWiAccepts
import Derived.Test.YteidabgkidablaaSetMap
import Derived.RegionTactic
import Derived.Deep.DeepCutAuto
namespace Go.Proofs.Yteidabgkidablaa
open Go.RowKit

theorem boolZero (w : World) : (zeroValue 4).run Try.prog w = .ok (.bool false) w := by kernel_rfl
set_option maxRecDepth 100000 in
set_option maxHeartbeats 8000000 in
theorem wi_once_walk (HA : WiAcceptC 6) (HCK : WiCheckC 8) (w : World) (As : Option Addr) (ns cs : Nat) (st : List Int) (f : Nat) (hnc : ns ≤ cs ∧ cs ≤ maxLen) (hs : IntRd .u16 w w.heap.size As ns st) (hsr : ∀ z ∈ st, 0 ≤ z ∧ z < 65536) (hf : f < 4294967296) :
    Calls Try.prog 4 #[.slice As ns cs, .int .u32 (f : Int)] w fun e w' => e = .returned (.bool true) ∧ Below w.heap.size w w' := by
  have HBG := Lib.hid (fun W : World => wi_begun_any HA HCK W)
  have HAH := Lib.hid HA
  have HNC := Lib.hid hnc
  obtain ⟨mt, hmt⟩ : ∃ z, min ns 80 = z := ⟨_, rfl⟩
  have hmin : min (ns : Int) 80 = (mt : Int) := by omega
  obtain ⟨Aq, hAt⟩ : ∃ z, addrK As 0 cs 1 = z := ⟨_, rfl⟩
  obtain ⟨tt, htt⟩ : ∃ z, st.take mt = z := ⟨_, rfl⟩
  have hslr := ints_h Try.underlying26 u16Info As (n := ns) cs mt (by omega) hnc.1
  have hlt : IntRd .u16 w w.heap.size Aq mt tt := by
    rw [← hAt, ← htt]
    exact IntRd.ahead hs mt cs (by omega)
  rw [hAt] at hslr
  have HLT := Lib.hid hlt
  have HTL := Lib.hid hlt.len
  have HMT := Lib.hid (show mt ≤ ns ∧ mt ≤ 80 from by omega)
  have HTR := Lib.hid (show ∀ z ∈ tt, 0 ≤ z ∧ z < 65536 from fun z hz => hsr z (by rw [← htt] at hz; exact List.mem_of_mem_take hz))
  have hmm := @run_makeMap Try.prog
  have HF := Lib.hid hf
  have w9' : IntKind.u64.wrap (f : Int) = (f : Int) := by rw [IntKind.wrap_u64]; omega
  have HM := Lib.hid (show Lows w [blkL w.heap.size 25 winZ] (w.alloc (.cells #[.bool false, .int .u64 0, .int .u64 0, .int .u64 0, .int .u64 0, .int .u64 0] 25)) from (Lows.nil w).alloc 25 #[.bool false, .int .u64 0, .int .u64 0, .int .u64 0, .int .u64 0, .int .u64 0] winZ rfl)
  have HM2 := Lib.hid (show SetAt Try.prog 22 4 ((w.alloc (.cells #[.bool false, .int .u64 0, .int .u64 0, .int .u64 0, .int .u64 0, .int .u64 0] 25)).alloc (.map #[] 0)) (w.heap.size + 1) 0 [] from by
    have h := World.ownsMap_made (w.alloc (.cells #[.bool false, .int .u64 0, .int .u64 0, .int .u64 0, .int .u64 0, .int .u64 0] 25)) Try.prog 22 (plainElem (H := Unit) Try.prog 4)
    rw [show (w.alloc (.cells #[.bool false, .int .u64 0, .int .u64 0, .int .u64 0, .int .u64 0, .int .u64 0] 25)).heap.size = w.heap.size + 1 by simp] at h
    exact h)
  have HB := Lib.hid (show Below w.heap.size w ((w.alloc (.cells #[.bool false, .int .u64 0, .int .u64 0, .int .u64 0, .int .u64 0, .int .u64 0] 25)).alloc (.map #[] 0)) ∧ Blk ((w.alloc (.cells #[.bool false, .int .u64 0, .int .u64 0, .int .u64 0, .int .u64 0, .int .u64 0] 25)).alloc (.map #[] 0)) w.heap.size 25 winZ from ⟨(HM.out.bel).trans ((Below.refl _ _).alloc (by simp) _), (HM.out.blk 0 rfl).alloc _⟩)
  clear hs hsr hnc hmt hAt htt hlt HM hf HA HCK
  go_enter Try.func4, Try.ntmps4
  go_wp2_with (refine wpList_min_int rfl (.tmp 17) (.const (.int .i64 80)) #[3, 3] rfl (ns : Int) 80 (mt : Int) rfl rfl hmin ?_)
  clear hmin hslr hmm
  generalize (w.alloc (.cells #[.bool false, .int .u64 0, .int .u64 0, .int .u64 0, .int .u64 0, .int .u64 0] 25)).alloc (.map #[] 0) = w1 at HM2 HB ⊢
  go_loopw [21, 7] (fun i vm wr => ∃ (j n : Nat) (x : WinM) (S : List Nat), j ≤ mt ∧ n ≤ j ∧ i = .int .i64 (j : Int) ∧ vm = .int .u64 (x.top : Int) ∧ WInv x S ∧ Blk wr w.heap.size 25 x.cells ∧ SetAt Try.prog 22 4 wr (w.heap.size + 1) n S ∧ Below w.heap.size w wr) (fun i _ _ => mt - (intOf i).toNat)
  case atStart => exact ⟨0, 0, win0, [], Nat.zero_le _, Nat.le_refl _, rfl, rfl, WInv.nil, HB.out.2, HM2.out, HB.out.1⟩
  case round =>
    clear HB HM2
    obtain ⟨j, n, x, S, hj, hnj, rfl, rfl, hinv, hbx, hset, hbl⟩ := hrel
    have HBL := Lib.hid hbl
    have hm80 := HMT.out.2
    by_cases hjn : j < mt
    · have d1 : decide ((j : Int) < (mt : Int)) = true := by simp; omega
      obtain ⟨s, hs⟩ : ∃ s, tt[j]? = some s := ⟨tt[j]'(by rw [HTL.out]; exact hjn), List.getElem?_eq_getElem _⟩
      obtain ⟨bt, ot, rfl⟩ := HLT.out.addr (by omega)
      have hlt2 := (HLT.out.below hbl).mono hbl.size
      have hft := (IntRd.at hlt2 j s hs).2
      have hsr := HTR.out s (List.mem_of_getElem? hs)
      obtain ⟨sn, hsn⟩ : ∃ n : Nat, s = (n : Int) := ⟨s.toNat, by omega⟩
      subst hsn
      have HM := Lib.hid (show Lows wr [blkL w.heap.size 25 x.cells, seenL Try.prog 22 4 (w.heap.size + 1) n S, intsL .u16 (some ⟨bt, ot, none⟩) mt tt] wr from ⟨fun g hg => by
        simp only [List.mem_cons, List.not_mem_nil, or_false] at hg
        rcases hg with rfl | rfl | rfl
        · exact hbx
        · exact hset
        · exact hlt2, Below.refl _ _⟩)
      clear hs hlt2 hbx hset hbl
      obtain ⟨sr, hsr2⟩ : ∃ z, sn % 1200 = z := ⟨_, rfl⟩
      obtain ⟨c, hc⟩ : ∃ z, f + sr = z := ⟨_, rfl⟩
      have hff := HF.out
      have e1 : (sn : Int) % 1200 = (sr : Int) := by omega
      have e2 : (f : Int) + (sr : Int) = (c : Int) := by omega
      have w1' : IntKind.u64.wrap (sn : Int) = (sn : Int) := by rw [IntKind.wrap_u64]; omega
      have w2' : IntKind.u64.wrap (c : Int) = (c : Int) := by rw [IntKind.wrap_u64]; omega
      have hcc : c < 18446744073709551616 := by omega
      clear hsr2 hc hff hsr
      go_upto_region 8 with fail
      clear hft e1 e2 w1' w2'
      obtain ⟨y, b, hyb⟩ : ∃ y b, acceptM x c = (y, b) := ⟨_, _, rfl⟩
      have hai := accept_inv hinv hcc
      rw [hyb] at hai
      dsimp only at hai
      have HAI := Lib.hid hai
      clear hai
      have HXO := Lib.hid hinv.ok
      have HYO := Lib.hid (acc_ok hyb hinv.ok hcc)
      obtain ⟨xc, hxc⟩ : ∃ z, x.cells.toArray = z := ⟨_, rfl⟩
      obtain ⟨yc, hyc⟩ : ∃ z, y.cells.toArray = z := ⟨_, rfl⟩
      have h1 := wa_use HAH.out hyb hinv.ok hcc
      rw [hxc, hyc] at h1
      have H1 := Lib.hid h1
      have HXC := Lib.hid hxc
      have HYC := Lib.hid hyc
      have HQY := Lib.hid (show ∀ W : World, (Op.equalIn 10000 25 (.agg yc) (.agg yc)).run Try.prog W = .ok true W from fun W => by rw [← hyc]; exact win_eqd y y HYO.out HYO.out W true (by simp))
      clear h1 hxc hyc hyb
      go_wp2_with ((with_reducible refine at_op (.load 25 (.tmp 5)) rfl ?_); refine wpList_load_obj rfl 25 (.tmp 5) rfl w.heap.size 0 rfl x.cells (HM.out.blk 0 rfl).all _ Try.underlying25 rfl (win_cellsOf _ HXO.out) ?_; rw [HXC.out])
      refine (H1.out _).mono ?_
      rintro e w8 ⟨rfl, hb⟩
      replace HM := Lib.hid (HM.out.below hb)
      clear hb H1
      have HGX := Lib.hid (show w8.heap.size ≠ w.heap.size + 1 from by have h := SetAt.lt (HM.out.get (f := seenL Try.prog 22 4 (w.heap.size + 1) n S) 1 rfl); omega)
      have HZ := Lib.hid (Blk.new w8 25 winZ)
      go_upto_region 9 with ((with_reducible refine at_op (.store 25 (.tmp 11) (.tmp 35)) rfl ?_); refine wpList_store_obj rfl 25 (.tmp 11) (.tmp 35) rfl w8.heap.size 0 y.cells rfl (by show Value.agg yc = _; rw [HYC.out]) 25 winZ HZ.out (win_cellsOf _ HYO.out) (by rw [WinM.cells_length HYO.out, winZ_length]; omega) (win_one _) ?_; intro w9 hb4 hg4)
      rw [setL_all winZ _ (by rw [WinM.cells_length HYO.out, winZ_length])] at hb4
      replace HM := Lib.hid (show Lows wr [blkL w8.heap.size 25 y.cells, blkL w.heap.size 25 x.cells, seenL Try.prog 22 4 (w.heap.size + 1) n S, intsL .u16 (some ⟨bt, ot, none⟩) mt tt] w9 from HM.out.stored hg4 hb4)
      clear hb4 hg4 HZ
      generalize w8.heap.size = gx at HM HGX ⊢
      have hai := HAI.out
      clear HAI
      obtain ⟨sc, hsc⟩ : ∃ z, S.contains c = z := ⟨_, rfl⟩
      obtain ⟨se, hse⟩ : ∃ z, (!S.isEmpty) = z := ⟨_, rfl⟩
      have hsz := seenV_size S
      obtain ⟨sz, hszz⟩ : ∃ z, Maps.size (seenV S) = z := ⟨_, rfl⟩
      rw [hszz, hse] at hsz
      obtain ⟨cb, hcb⟩ : ∃ z, c / 64 = z := ⟨_, rfl⟩
      obtain ⟨c4, hc4⟩ : ∃ z, cb + 4 = z := ⟨_, rfl⟩
      obtain ⟨tb, htb⟩ : ∃ z, x.top / 64 = z := ⟨_, rfl⟩
      obtain ⟨ol, hol⟩ : ∃ z, decide (c4 ≤ tb) = z := ⟨_, rfl⟩
      have hbb : b = (!sc && !(se && ol)) := by rw [hai.1, newM, hsc, hse, hcb, htb, hc4, hol]
      have HIN := Lib.hid hai.2.2.1
      have HYX := Lib.hid hai.2.1
      have HTOP := Lib.hid hai.2.2.2
      have hxt := HXO.out.1
      have e1 : (c : Int) / 64 = (cb : Int) := by omega
      have e2 : (cb : Int) + 4 = (c4 : Int) := by omega
      have e3 : (x.top : Int) / 64 = (tb : Int) := by omega
      have w1' : IntKind.u64.wrap (cb : Int) = (cb : Int) := by rw [IntKind.wrap_u64]; omega
      have w2' : IntKind.u64.wrap (c4 : Int) = (c4 : Int) := by rw [IntKind.wrap_u64]; omega
      have w3' : IntKind.u64.wrap (tb : Int) = (tb : Int) := by rw [IntKind.wrap_u64]; omega
      have d2 : decide ((sz : Int) > 0) = se := by rw [← hsz, Bool.eq_iff_iff, decide_eq_true_iff, decide_eq_true_iff]; omega
      have d3 : decide (0 < sz) = se := hsz
      have d4 : decide ((c4 : Int) ≤ (tb : Int)) = ol := by rw [← hol, Bool.eq_iff_iff, decide_eq_true_iff, decide_eq_true_iff]; omega
      have d5 : decide (c4 ≤ tb) = ol := hol
      have HSC := Lib.hid hsc
      have HSZ := Lib.hid (show ((Maps.size (seenV S) : Nat) : Int) = (sz : Int) by rw [hszz])
      have HCC := Lib.hid hcc
      have HNJ := Lib.hid (show n < maxLen by unfold maxLen; omega)
      clear hai hse hsz hszz hcb hc4 htb hol hsc hxt hinv
      subst hbb
      cases sc with
      | true =>
        cases se with
        | true =>
          cases ol with
          | true =>
            have hyx := HYX.out rfl
            subst hyx
            go_upto_region 10 with (at_len; refine wpList_len_set rfl (.tmp 37) 36 rfl 22 4 Try.underlying36 (w.heap.size + 1) n S rfl (HM.out.get (f := seenL Try.prog 22 4 (w.heap.size + 1) n S) 2 rfl) (sz : Int) HSZ.out ?_)
            clear d2 d3 d4 d5 e1 e2 e3 w1' w2' w3'
            go_upto_region 14 with (first | (at_lookup; refine wpList_lookup_set rfl (.tmp 49) (.tmp 50) 36 rfl 22 4 Try.underlying22 Try.underlying36 Try.underlying4 boolZero (w.heap.size + 1) n S rfl (HM.out.get (f := seenL Try.prog 22 4 (w.heap.size + 1) n S) 2 rfl) c HCC.out rfl _ HSC.out ?_) | ((with_reducible refine at_op (.load 25 (.tmp 11)) rfl ?_); refine wpList_load_obj_g (by rfl) 25 (.tmp 11) rfl gx 0 rfl y.cells (HM.out.blk 0 rfl).all _ Try.underlying25 rfl (win_cellsOf _ HYO.out) ?_; rw [HYC.out]) | ((with_reducible refine at_op (.load 25 (.tmp 5)) rfl ?_); refine wpList_load_obj_g (by rfl) 25 (.tmp 5) rfl (w.heap.size) 0 rfl y.cells (HM.out.blk 1 rfl).all _ Try.underlying25 rfl (win_cellsOf _ HYO.out) ?_; rw [HYC.out]) | ((with_reducible refine at_op (.binOp .neq 25 (.tmp 62) (.tmp 63) 25) rfl ?_); refine wpList_neq_agg (by rfl) 25 25 62 63 rfl yc yc true rfl rfl win_noguard (HQY.out _) ?_))
            go_wp2_with (first | (refine wpList_load_obj rfl 25 (.tmp 11) rfl gx 0 rfl y.cells (HM.out.blk 0 rfl).all _ Try.underlying25 rfl (win_cellsOf _ HYO.out) ?_; rw [HYC.out]) | (refine wpList_store_obj rfl 25 (.tmp 5) (.tmp 73) rfl w.heap.size 0 y.cells rfl (by show Value.agg yc = _; rw [HYC.out]) 25 y.cells (HM.out.blk 1 rfl) (win_cellsOf _ HYO.out) (by rw [WinM.cells_length HYO.out]; omega) (win_one _) ?_; intro w13 hb13 hg13))
            rw [setL_all _ _ rfl] at hb13
            have hs13 := World.ownsMap.kept (HM.out.get (f := seenL Try.prog 22 4 (w.heap.size + 1) n S) 2 rfl) hg13 (by intro e; injection e with e; omega)
            have hl13 : Below w.heap.size w w13 := (HBL.out.trans (HM.out.bel.mono HBL.out.size)).grown hg13 (HBL.out.trans (HM.out.bel.mono HBL.out.size)).size (fun k hk => by injection hk with hk; omega)
            go_roundw
            case rel => exact ⟨j + 1, n, y, S, by omega, by omega, by go_num, rfl, HIN.out, hb13, hs13, hl13⟩
            case measure => simp [intOf]; omega
          | false =>
            have hyx := HYX.out rfl
            subst hyx
            go_upto_region 10 with (at_len; refine wpList_len_set rfl (.tmp 37) 36 rfl 22 4 Try.underlying36 (w.heap.size + 1) n S rfl (HM.out.get (f := seenL Try.prog 22 4 (w.heap.size + 1) n S) 2 rfl) (sz : Int) HSZ.out ?_)
            clear d2 d3 d4 d5 e1 e2 e3 w1' w2' w3'
            go_upto_region 14 with (first | (at_lookup; refine wpList_lookup_set rfl (.tmp 49) (.tmp 50) 36 rfl 22 4 Try.underlying22 Try.underlying36 Try.underlying4 boolZero (w.heap.size + 1) n S rfl (HM.out.get (f := seenL Try.prog 22 4 (w.heap.size + 1) n S) 2 rfl) c HCC.out rfl _ HSC.out ?_) | ((with_reducible refine at_op (.load 25 (.tmp 11)) rfl ?_); refine wpList_load_obj_g (by rfl) 25 (.tmp 11) rfl gx 0 rfl y.cells (HM.out.blk 0 rfl).all _ Try.underlying25 rfl (win_cellsOf _ HYO.out) ?_; rw [HYC.out]) | ((with_reducible refine at_op (.load 25 (.tmp 5)) rfl ?_); refine wpList_load_obj_g (by rfl) 25 (.tmp 5) rfl (w.heap.size) 0 rfl y.cells (HM.out.blk 1 rfl).all _ Try.underlying25 rfl (win_cellsOf _ HYO.out) ?_; rw [HYC.out]) | ((with_reducible refine at_op (.binOp .neq 25 (.tmp 62) (.tmp 63) 25) rfl ?_); refine wpList_neq_agg (by rfl) 25 25 62 63 rfl yc yc true rfl rfl win_noguard (HQY.out _) ?_))
            go_wp2_with (first | (refine wpList_load_obj rfl 25 (.tmp 11) rfl gx 0 rfl y.cells (HM.out.blk 0 rfl).all _ Try.underlying25 rfl (win_cellsOf _ HYO.out) ?_; rw [HYC.out]) | (refine wpList_store_obj rfl 25 (.tmp 5) (.tmp 73) rfl w.heap.size 0 y.cells rfl (by show Value.agg yc = _; rw [HYC.out]) 25 y.cells (HM.out.blk 1 rfl) (win_cellsOf _ HYO.out) (by rw [WinM.cells_length HYO.out]; omega) (win_one _) ?_; intro w13 hb13 hg13))
            rw [setL_all _ _ rfl] at hb13
            have hs13 := World.ownsMap.kept (HM.out.get (f := seenL Try.prog 22 4 (w.heap.size + 1) n S) 2 rfl) hg13 (by intro e; injection e with e; omega)
            have hl13 : Below w.heap.size w w13 := (HBL.out.trans (HM.out.bel.mono HBL.out.size)).grown hg13 (HBL.out.trans (HM.out.bel.mono HBL.out.size)).size (fun k hk => by injection hk with hk; omega)
            go_roundw
            case rel => exact ⟨j + 1, n, y, S, by omega, by omega, by go_num, rfl, HIN.out, hb13, hs13, hl13⟩
            case measure => simp [intOf]; omega
        | false =>
          cases ol with
          | true =>
            have hyx := HYX.out rfl
            subst hyx
            go_upto_region 10 with (at_len; refine wpList_len_set rfl (.tmp 37) 36 rfl 22 4 Try.underlying36 (w.heap.size + 1) n S rfl (HM.out.get (f := seenL Try.prog 22 4 (w.heap.size + 1) n S) 2 rfl) (sz : Int) HSZ.out ?_)
            clear d2 d3 d4 d5 e1 e2 e3 w1' w2' w3'
            go_upto_region 14 with (first | (at_lookup; refine wpList_lookup_set rfl (.tmp 49) (.tmp 50) 36 rfl 22 4 Try.underlying22 Try.underlying36 Try.underlying4 boolZero (w.heap.size + 1) n S rfl (HM.out.get (f := seenL Try.prog 22 4 (w.heap.size + 1) n S) 2 rfl) c HCC.out rfl _ HSC.out ?_) | ((with_reducible refine at_op (.load 25 (.tmp 11)) rfl ?_); refine wpList_load_obj_g (by rfl) 25 (.tmp 11) rfl gx 0 rfl y.cells (HM.out.blk 0 rfl).all _ Try.underlying25 rfl (win_cellsOf _ HYO.out) ?_; rw [HYC.out]) | ((with_reducible refine at_op (.load 25 (.tmp 5)) rfl ?_); refine wpList_load_obj_g (by rfl) 25 (.tmp 5) rfl (w.heap.size) 0 rfl y.cells (HM.out.blk 1 rfl).all _ Try.underlying25 rfl (win_cellsOf _ HYO.out) ?_; rw [HYC.out]) | ((with_reducible refine at_op (.binOp .neq 25 (.tmp 62) (.tmp 63) 25) rfl ?_); refine wpList_neq_agg (by rfl) 25 25 62 63 rfl yc yc true rfl rfl win_noguard (HQY.out _) ?_))
            go_wp2_with (first | (refine wpList_load_obj rfl 25 (.tmp 11) rfl gx 0 rfl y.cells (HM.out.blk 0 rfl).all _ Try.underlying25 rfl (win_cellsOf _ HYO.out) ?_; rw [HYC.out]) | (refine wpList_store_obj rfl 25 (.tmp 5) (.tmp 73) rfl w.heap.size 0 y.cells rfl (by show Value.agg yc = _; rw [HYC.out]) 25 y.cells (HM.out.blk 1 rfl) (win_cellsOf _ HYO.out) (by rw [WinM.cells_length HYO.out]; omega) (win_one _) ?_; intro w13 hb13 hg13))
            rw [setL_all _ _ rfl] at hb13
            have hs13 := World.ownsMap.kept (HM.out.get (f := seenL Try.prog 22 4 (w.heap.size + 1) n S) 2 rfl) hg13 (by intro e; injection e with e; omega)
            have hl13 : Below w.heap.size w w13 := (HBL.out.trans (HM.out.bel.mono HBL.out.size)).grown hg13 (HBL.out.trans (HM.out.bel.mono HBL.out.size)).size (fun k hk => by injection hk with hk; omega)
            go_roundw
            case rel => exact ⟨j + 1, n, y, S, by omega, by omega, by go_num, rfl, HIN.out, hb13, hs13, hl13⟩
            case measure => simp [intOf]; omega
          | false =>
            have hyx := HYX.out rfl
            subst hyx
            go_upto_region 10 with (at_len; refine wpList_len_set rfl (.tmp 37) 36 rfl 22 4 Try.underlying36 (w.heap.size + 1) n S rfl (HM.out.get (f := seenL Try.prog 22 4 (w.heap.size + 1) n S) 2 rfl) (sz : Int) HSZ.out ?_)
            clear d2 d3 d4 d5 e1 e2 e3 w1' w2' w3'
            go_upto_region 14 with (first | (at_lookup; refine wpList_lookup_set rfl (.tmp 49) (.tmp 50) 36 rfl 22 4 Try.underlying22 Try.underlying36 Try.underlying4 boolZero (w.heap.size + 1) n S rfl (HM.out.get (f := seenL Try.prog 22 4 (w.heap.size + 1) n S) 2 rfl) c HCC.out rfl _ HSC.out ?_) | ((with_reducible refine at_op (.load 25 (.tmp 11)) rfl ?_); refine wpList_load_obj_g (by rfl) 25 (.tmp 11) rfl gx 0 rfl y.cells (HM.out.blk 0 rfl).all _ Try.underlying25 rfl (win_cellsOf _ HYO.out) ?_; rw [HYC.out]) | ((with_reducible refine at_op (.load 25 (.tmp 5)) rfl ?_); refine wpList_load_obj_g (by rfl) 25 (.tmp 5) rfl (w.heap.size) 0 rfl y.cells (HM.out.blk 1 rfl).all _ Try.underlying25 rfl (win_cellsOf _ HYO.out) ?_; rw [HYC.out]) | ((with_reducible refine at_op (.binOp .neq 25 (.tmp 62) (.tmp 63) 25) rfl ?_); refine wpList_neq_agg (by rfl) 25 25 62 63 rfl yc yc true rfl rfl win_noguard (HQY.out _) ?_))
            go_wp2_with (first | (refine wpList_load_obj rfl 25 (.tmp 11) rfl gx 0 rfl y.cells (HM.out.blk 0 rfl).all _ Try.underlying25 rfl (win_cellsOf _ HYO.out) ?_; rw [HYC.out]) | (refine wpList_store_obj rfl 25 (.tmp 5) (.tmp 73) rfl w.heap.size 0 y.cells rfl (by show Value.agg yc = _; rw [HYC.out]) 25 y.cells (HM.out.blk 1 rfl) (win_cellsOf _ HYO.out) (by rw [WinM.cells_length HYO.out]; omega) (win_one _) ?_; intro w13 hb13 hg13))
            rw [setL_all _ _ rfl] at hb13
            have hs13 := World.ownsMap.kept (HM.out.get (f := seenL Try.prog 22 4 (w.heap.size + 1) n S) 2 rfl) hg13 (by intro e; injection e with e; omega)
            have hl13 : Below w.heap.size w w13 := (HBL.out.trans (HM.out.bel.mono HBL.out.size)).grown hg13 (HBL.out.trans (HM.out.bel.mono HBL.out.size)).size (fun k hk => by injection hk with hk; omega)
            go_roundw
            case rel => exact ⟨j + 1, n, y, S, by omega, by omega, by go_num, rfl, HIN.out, hb13, hs13, hl13⟩
            case measure => simp [intOf]; omega
      | false =>
        cases se with
        | true =>
          cases ol with
          | true =>
            have hyx := HYX.out rfl
            subst hyx
            go_upto_region 10 with (at_len; refine wpList_len_set rfl (.tmp 37) 36 rfl 22 4 Try.underlying36 (w.heap.size + 1) n S rfl (HM.out.get (f := seenL Try.prog 22 4 (w.heap.size + 1) n S) 2 rfl) (sz : Int) HSZ.out ?_)
            clear d2 d3 d4 d5 e1 e2 e3 w1' w2' w3'
            go_upto_region 14 with (first | (at_lookup; refine wpList_lookup_set rfl (.tmp 49) (.tmp 50) 36 rfl 22 4 Try.underlying22 Try.underlying36 Try.underlying4 boolZero (w.heap.size + 1) n S rfl (HM.out.get (f := seenL Try.prog 22 4 (w.heap.size + 1) n S) 2 rfl) c HCC.out rfl _ HSC.out ?_) | ((with_reducible refine at_op (.load 25 (.tmp 11)) rfl ?_); refine wpList_load_obj_g (by rfl) 25 (.tmp 11) rfl gx 0 rfl y.cells (HM.out.blk 0 rfl).all _ Try.underlying25 rfl (win_cellsOf _ HYO.out) ?_; rw [HYC.out]) | ((with_reducible refine at_op (.load 25 (.tmp 5)) rfl ?_); refine wpList_load_obj_g (by rfl) 25 (.tmp 5) rfl (w.heap.size) 0 rfl y.cells (HM.out.blk 1 rfl).all _ Try.underlying25 rfl (win_cellsOf _ HYO.out) ?_; rw [HYC.out]) | ((with_reducible refine at_op (.binOp .neq 25 (.tmp 62) (.tmp 63) 25) rfl ?_); refine wpList_neq_agg (by rfl) 25 25 62 63 rfl yc yc true rfl rfl win_noguard (HQY.out _) ?_))
            go_wp2_with (first | (refine wpList_load_obj rfl 25 (.tmp 11) rfl gx 0 rfl y.cells (HM.out.blk 0 rfl).all _ Try.underlying25 rfl (win_cellsOf _ HYO.out) ?_; rw [HYC.out]) | (refine wpList_store_obj rfl 25 (.tmp 5) (.tmp 73) rfl w.heap.size 0 y.cells rfl (by show Value.agg yc = _; rw [HYC.out]) 25 y.cells (HM.out.blk 1 rfl) (win_cellsOf _ HYO.out) (by rw [WinM.cells_length HYO.out]; omega) (win_one _) ?_; intro w13 hb13 hg13))
            rw [setL_all _ _ rfl] at hb13
            have hs13 := World.ownsMap.kept (HM.out.get (f := seenL Try.prog 22 4 (w.heap.size + 1) n S) 2 rfl) hg13 (by intro e; injection e with e; omega)
            have hl13 : Below w.heap.size w w13 := (HBL.out.trans (HM.out.bel.mono HBL.out.size)).grown hg13 (HBL.out.trans (HM.out.bel.mono HBL.out.size)).size (fun k hk => by injection hk with hk; omega)
            go_roundw
            case rel => exact ⟨j + 1, n, y, S, by omega, by omega, by go_num, rfl, HIN.out, hb13, hs13, hl13⟩
            case measure => simp [intOf]; omega
          | false =>
            have htop := HTOP.out rfl
            have hmax : max (x.top : Int) (c : Int) = (y.top : Int) := by rw [htop]; omega
            have HIF := Lib.hid (show (if x.top < c then (c : Int) else (x.top : Int)) = (y.top : Int) from by rw [htop]; split <;> omega)
            clear htop
            go_upto_region 10 with (at_len; refine wpList_len_set rfl (.tmp 37) 36 rfl 22 4 Try.underlying36 (w.heap.size + 1) n S rfl (HM.out.get (f := seenL Try.prog 22 4 (w.heap.size + 1) n S) 2 rfl) (sz : Int) HSZ.out ?_)
            clear d2 d3 d4 d5 e1 e2 e3 w1' w2' w3'
            go_upto_region 13 with (at_lookup; refine wpList_lookup_set rfl (.tmp 49) (.tmp 50) 36 rfl 22 4 Try.underlying22 Try.underlying36 Try.underlying4 boolZero (w.heap.size + 1) n S rfl (HM.out.get (f := seenL Try.prog 22 4 (w.heap.size + 1) n S) 2 rfl) c HCC.out rfl _ HSC.out ?_)
            go_upto_region 14 with (first | (refine wpList_max_k rfl (.tmp 70) (.tmp 71) #[22, 22] rfl .u64 (x.top : Int) (c : Int) (y.top : Int) rfl rfl hmax ?_) | (at_mapUpdate; refine wpList_update_set rfl (.tmp 68) (.tmp 69) (.const (.bool true)) 36 rfl 22 4 Try.underlying22 Try.underlying36 Try.underlying4 (w.heap.size + 1) n S rfl (HM.out.get (f := seenL Try.prog 22 4 (w.heap.size + 1) n S) 2 rfl) HNJ.out c HCC.out rfl rfl ?_; intro w12 hs12 hg12))
            have hgx : Blk w12 gx 25 y.cells := (hg12.block _ (HM.out.blk 0 rfl).lt (fun e => by injection e with e; exact HGX.out e)).trans (HM.out.blk 0 rfl)
            have hp5 : Blk w12 w.heap.size 25 x.cells := (hg12.block _ (HM.out.blk 1 rfl).lt (fun e => by injection e with e; omega)).trans (HM.out.blk 1 rfl)
            have hl12 : Below w.heap.size w w12 := (HBL.out.trans (HM.out.bel.mono HBL.out.size)).grown hg12 (HBL.out.trans (HM.out.bel.mono HBL.out.size)).size (fun k hk => by injection hk with hk; omega)
            have H12 := Lib.hid (And.intro hgx (And.intro hp5 (And.intro hs12 hl12)))
            clear hgx hp5 hs12 hg12 hl12 HM hmax
            go_wp2_with (first | (refine wpList_load_obj rfl 25 (.tmp 11) rfl gx 0 rfl y.cells H12.out.1.all _ Try.underlying25 rfl (win_cellsOf _ HYO.out) ?_; rw [HYC.out]) | (refine wpList_store_obj rfl 25 (.tmp 5) (.tmp 73) rfl w.heap.size 0 y.cells rfl (by show Value.agg yc = _; rw [HYC.out]) 25 x.cells H12.out.2.1 (win_cellsOf _ HYO.out) (by rw [WinM.cells_length HYO.out, WinM.cells_length HXO.out]; omega) (win_one _) ?_; intro w13 hb13 hg13))
            rw [setL_all _ _ (by rw [WinM.cells_length HYO.out, WinM.cells_length HXO.out])] at hb13
            have hs13 := World.ownsMap.kept H12.out.2.2.1 hg13 (by intro e; injection e with e; omega)
            have hl13 : Below w.heap.size w w13 := H12.out.2.2.2.grown hg13 H12.out.2.2.2.size (fun k hk => by injection hk with hk; omega)
            go_roundw
            case rel => exact ⟨j + 1, n + 1, y, c :: S, by omega, by omega, by go_num, by first | rfl | rw [HIF.out], HIN.out, hb13, hs13, hl13⟩
            case measure => simp [intOf]; omega
        | false =>
          cases ol with
          | true =>
            have htop := HTOP.out rfl
            have hmax : max (x.top : Int) (c : Int) = (y.top : Int) := by rw [htop]; omega
            have HIF := Lib.hid (show (if x.top < c then (c : Int) else (x.top : Int)) = (y.top : Int) from by rw [htop]; split <;> omega)
            clear htop
            go_upto_region 10 with (at_len; refine wpList_len_set rfl (.tmp 37) 36 rfl 22 4 Try.underlying36 (w.heap.size + 1) n S rfl (HM.out.get (f := seenL Try.prog 22 4 (w.heap.size + 1) n S) 2 rfl) (sz : Int) HSZ.out ?_)
            clear d2 d3 d4 d5 e1 e2 e3 w1' w2' w3'
            go_upto_region 13 with (at_lookup; refine wpList_lookup_set rfl (.tmp 49) (.tmp 50) 36 rfl 22 4 Try.underlying22 Try.underlying36 Try.underlying4 boolZero (w.heap.size + 1) n S rfl (HM.out.get (f := seenL Try.prog 22 4 (w.heap.size + 1) n S) 2 rfl) c HCC.out rfl _ HSC.out ?_)
            go_upto_region 14 with (first | (refine wpList_max_k rfl (.tmp 70) (.tmp 71) #[22, 22] rfl .u64 (x.top : Int) (c : Int) (y.top : Int) rfl rfl hmax ?_) | (at_mapUpdate; refine wpList_update_set rfl (.tmp 68) (.tmp 69) (.const (.bool true)) 36 rfl 22 4 Try.underlying22 Try.underlying36 Try.underlying4 (w.heap.size + 1) n S rfl (HM.out.get (f := seenL Try.prog 22 4 (w.heap.size + 1) n S) 2 rfl) HNJ.out c HCC.out rfl rfl ?_; intro w12 hs12 hg12))
            have hgx : Blk w12 gx 25 y.cells := (hg12.block _ (HM.out.blk 0 rfl).lt (fun e => by injection e with e; exact HGX.out e)).trans (HM.out.blk 0 rfl)
            have hp5 : Blk w12 w.heap.size 25 x.cells := (hg12.block _ (HM.out.blk 1 rfl).lt (fun e => by injection e with e; omega)).trans (HM.out.blk 1 rfl)
            have hl12 : Below w.heap.size w w12 := (HBL.out.trans (HM.out.bel.mono HBL.out.size)).grown hg12 (HBL.out.trans (HM.out.bel.mono HBL.out.size)).size (fun k hk => by injection hk with hk; omega)
            have H12 := Lib.hid (And.intro hgx (And.intro hp5 (And.intro hs12 hl12)))
            clear hgx hp5 hs12 hg12 hl12 HM hmax
            go_wp2_with (first | (refine wpList_load_obj rfl 25 (.tmp 11) rfl gx 0 rfl y.cells H12.out.1.all _ Try.underlying25 rfl (win_cellsOf _ HYO.out) ?_; rw [HYC.out]) | (refine wpList_store_obj rfl 25 (.tmp 5) (.tmp 73) rfl w.heap.size 0 y.cells rfl (by show Value.agg yc = _; rw [HYC.out]) 25 x.cells H12.out.2.1 (win_cellsOf _ HYO.out) (by rw [WinM.cells_length HYO.out, WinM.cells_length HXO.out]; omega) (win_one _) ?_; intro w13 hb13 hg13))
            rw [setL_all _ _ (by rw [WinM.cells_length HYO.out, WinM.cells_length HXO.out])] at hb13
            have hs13 := World.ownsMap.kept H12.out.2.2.1 hg13 (by intro e; injection e with e; omega)
            have hl13 : Below w.heap.size w w13 := H12.out.2.2.2.grown hg13 H12.out.2.2.2.size (fun k hk => by injection hk with hk; omega)
            go_roundw
            case rel => exact ⟨j + 1, n + 1, y, c :: S, by omega, by omega, by go_num, by first | rfl | rw [HIF.out], HIN.out, hb13, hs13, hl13⟩
            case measure => simp [intOf]; omega
          | false =>
            have htop := HTOP.out rfl
            have hmax : max (x.top : Int) (c : Int) = (y.top : Int) := by rw [htop]; omega
            have HIF := Lib.hid (show (if x.top < c then (c : Int) else (x.top : Int)) = (y.top : Int) from by rw [htop]; split <;> omega)
            clear htop
            go_upto_region 10 with (at_len; refine wpList_len_set rfl (.tmp 37) 36 rfl 22 4 Try.underlying36 (w.heap.size + 1) n S rfl (HM.out.get (f := seenL Try.prog 22 4 (w.heap.size + 1) n S) 2 rfl) (sz : Int) HSZ.out ?_)
            clear d2 d3 d4 d5 e1 e2 e3 w1' w2' w3'
            go_upto_region 13 with (at_lookup; refine wpList_lookup_set rfl (.tmp 49) (.tmp 50) 36 rfl 22 4 Try.underlying22 Try.underlying36 Try.underlying4 boolZero (w.heap.size + 1) n S rfl (HM.out.get (f := seenL Try.prog 22 4 (w.heap.size + 1) n S) 2 rfl) c HCC.out rfl _ HSC.out ?_)
            go_upto_region 14 with (first | (refine wpList_max_k rfl (.tmp 70) (.tmp 71) #[22, 22] rfl .u64 (x.top : Int) (c : Int) (y.top : Int) rfl rfl hmax ?_) | (at_mapUpdate; refine wpList_update_set rfl (.tmp 68) (.tmp 69) (.const (.bool true)) 36 rfl 22 4 Try.underlying22 Try.underlying36 Try.underlying4 (w.heap.size + 1) n S rfl (HM.out.get (f := seenL Try.prog 22 4 (w.heap.size + 1) n S) 2 rfl) HNJ.out c HCC.out rfl rfl ?_; intro w12 hs12 hg12))
            have hgx : Blk w12 gx 25 y.cells := (hg12.block _ (HM.out.blk 0 rfl).lt (fun e => by injection e with e; exact HGX.out e)).trans (HM.out.blk 0 rfl)
            have hp5 : Blk w12 w.heap.size 25 x.cells := (hg12.block _ (HM.out.blk 1 rfl).lt (fun e => by injection e with e; omega)).trans (HM.out.blk 1 rfl)
            have hl12 : Below w.heap.size w w12 := (HBL.out.trans (HM.out.bel.mono HBL.out.size)).grown hg12 (HBL.out.trans (HM.out.bel.mono HBL.out.size)).size (fun k hk => by injection hk with hk; omega)
            have H12 := Lib.hid (And.intro hgx (And.intro hp5 (And.intro hs12 hl12)))
            clear hgx hp5 hs12 hg12 hl12 HM hmax
            go_wp2_with (first | (refine wpList_load_obj rfl 25 (.tmp 11) rfl gx 0 rfl y.cells H12.out.1.all _ Try.underlying25 rfl (win_cellsOf _ HYO.out) ?_; rw [HYC.out]) | (refine wpList_store_obj rfl 25 (.tmp 5) (.tmp 73) rfl w.heap.size 0 y.cells rfl (by show Value.agg yc = _; rw [HYC.out]) 25 x.cells H12.out.2.1 (win_cellsOf _ HYO.out) (by rw [WinM.cells_length HYO.out, WinM.cells_length HXO.out]; omega) (win_one _) ?_; intro w13 hb13 hg13))
            rw [setL_all _ _ (by rw [WinM.cells_length HYO.out, WinM.cells_length HXO.out])] at hb13
            have hs13 := World.ownsMap.kept H12.out.2.2.1 hg13 (by intro e; injection e with e; omega)
            have hl13 : Below w.heap.size w w13 := H12.out.2.2.2.grown hg13 H12.out.2.2.2.size (fun k hk => by injection hk with hk; omega)
            go_roundw
            case rel => exact ⟨j + 1, n + 1, y, c :: S, by omega, by omega, by go_num, by first | rfl | rw [HIF.out], HIN.out, hb13, hs13, hl13⟩
            case measure => simp [intOf]; omega
    · obtain rfl : mt = j := by omega
      have d1 : decide ((mt : Int) < (mt : Int)) = false := by simp
      clear hinv hbx hset hbl
      go_wp2_with fail
      refine (HBG.out _).mono ?_
      rintro e wv ⟨rfl, hb⟩
      have HFF := Lib.hid (HBL.out.trans (hb.mono HBL.out.size))
      clear hb
      go_wp2_with fail
      go_ret
      exact ⟨rfl, HFF.out⟩
end Go.Proofs.Yteidabgkidablaa
