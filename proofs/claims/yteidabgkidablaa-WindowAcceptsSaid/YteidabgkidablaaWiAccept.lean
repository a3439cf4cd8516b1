/-
  The contract of the reference's AcceptWindow. No statement is proved here.
-/
import Derived.Test.YteidabgkidablaaWiCheck
import Derived.Test.YteidabgkidablaaMinK
import Derived.Test.YteidabgkidablaaBuildAs
import Derived.RegionTactic
import Derived.Deep.DeepCutAuto
namespace Go.Proofs.Yteidabgkidablaa
open Go.RowKit

set_option maxRecDepth 100000 in
set_option maxHeartbeats 8000000 in
theorem refAccept_any : WiAcceptC 7 := by
  intro x c w hx hc
  have HX := Lib.hid hx
  have HC := Lib.hid hc
  have hch := fun W => refCheck_any x c W hx hc
  obtain ⟨xc, hxc⟩ : ∃ z, x.cells.toArray = z := ⟨_, rfl⟩
  rw [hxc] at hch ⊢
  obtain ⟨y, hy⟩ : ∃ y, checkM x c = y := ⟨_, rfl⟩
  rw [hy] at hch
  have HCH := Lib.hid hch
  have HXC := Lib.hid hxc
  have HYY := Lib.hid hy
  have hm := ((Mem.nil w).alloc rfl 25 xc x.cells hxc.symm).alloc rfl 25 #[.bool false, .int .u64 0, .int .u64 0, .int .u64 0, .int .u64 0, .int .u64 0] winZ rfl
  have HM := Lib.hid (show Mem w [blkE (w.heap.size + 1) 25 winZ, blkE w.heap.size 25 x.cells] ((w.alloc (.cells xc 25)).alloc (.cells #[.bool false, .int .u64 0, .int .u64 0, .int .u64 0, .int .u64 0, .int .u64 0] 25)) from by simpa using hm)
  clear hm hx hxc hch hy
  go_enter Try.func7, Try.ntmps7
  go_upto_region 1 with fail
  generalize (w.alloc (.cells xc 25)).alloc (.cells #[.bool false, .int .u64 0, .int .u64 0, .int .u64 0, .int .u64 0, .int .u64 0] 25) = w1 at HM ⊢
  generalize w.heap.size + 1 = P4 at HM ⊢
  generalize w.heap.size = P1 at HM ⊢
  go_wp2_with (refine wpList_load_obj rfl 25 (.tmp 2) rfl P1 0 rfl x.cells (HM.out.blk 1 rfl).all _ Try.underlying25 rfl (win_cellsOf x HX.out) ?_; rw [HXC.out])
  refine (HCH.out _).mono ?_
  rintro e w2 ⟨rfl, hb⟩
  replace HM := Lib.hid (HM.out.below hb)
  clear hb HCH
  cases y with
  | false =>
    have HRES := Lib.hid (show acceptM x c = (x, false) from by rw [acceptM, if_neg (by rw [HYY.out]; simp)])
    go_wp2_with (first | (refine wpList_load_obj rfl 25 (.tmp 2) rfl P1 0 rfl x.cells (HM.out.blk 1 rfl).all _ Try.underlying25 rfl (win_cellsOf x HX.out) ?_; rw [HXC.out]) | (refine wpList_store_obj rfl 25 (.tmp 4) (.tmp 11) rfl P4 0 x.cells rfl (by show Value.agg xc = _; rw [HXC.out]) 25 winZ (HM.out.blk 0 rfl) (win_cellsOf x HX.out) (by rw [WinM.cells_length HX.out, winZ_length]; omega) (win_one _) ?_; intro w9 hb9 hg9))
    rw [setL_all winZ _ (by rw [WinM.cells_length HX.out, winZ_length])] at hb9
    exact bodyPost_ret (results_obj_tmp rfl _ _ P4 25 x.cells _ rfl hb9 Try.underlying25 rfl (win_cellsOf x HX.out)) rfl ⟨by rw [HRES.out]; rfl, (HM.out.put 0 rfl _ hg9 hb9).bel⟩
  | true =>
    have hres : acceptM x c = (markM (moveM (freshM x c) c) c, true) := by rw [acceptM, if_pos HYY.out]
    have fu := win_used (HM.out.blk 1 rfl).all
    obtain ⟨u, hu⟩ : ∃ z, x.used = z := ⟨_, rfl⟩
    rw [hu] at fu
    cases u with
    | false =>
      have HRES := Lib.hid (show acceptM x c = (markM ⟨true, c, [0, 0, 0, 0]⟩ c, true) from by rw [hres, freshM, if_neg (by rw [hu]; simp), moveM, if_neg (by simp)])
      have HY := Lib.hid (show (WinM.mk true c [0, 0, 0, 0]).ok from ⟨HC.out, rfl, by simp⟩)
      obtain ⟨yc, hyc⟩ : ∃ z, (WinM.mk true c [0, 0, 0, 0]).cells.toArray = z := ⟨_, rfl⟩
      have HYC := Lib.hid hyc
      have HBT := Lib.hid (show Try.prog.built 25 [(0, .bool true), (1, .int .u64 (c : Int))] = some yc from by rw [← hyc]; kernel_rfl)
      clear hres hu hyc
      go_upto_region 5 with (first | (refine wpList_build_as rfl 25 [(0, .const (.bool true)), (1, .tmp 15)] rfl yc ?_ ?_; exact HBT.out) | (refine wpList_store_obj rfl 25 (.tmp 2) (.tmp 16) rfl P1 0 (WinM.mk true c [0, 0, 0, 0]).cells rfl (by show Value.agg yc = _; rw [HYC.out]) 25 x.cells (HM.out.blk 1 rfl) (win_cellsOf _ HY.out) (by rw [WinM.cells_length HY.out, WinM.cells_length HX.out]; omega) (win_one _) ?_; intro w4 hb4 hg4))
      rw [setL_all x.cells _ (by rw [WinM.cells_length HY.out, WinM.cells_length HX.out])] at hb4
      replace HM := Lib.hid (show Mem w [blkE P4 25 winZ, blkE P1 25 (WinM.mk true c [0, 0, 0, 0]).cells] w4 from HM.out.put 1 rfl _ hg4 hb4)
      clear hb4 hg4 HYC HBT fu
      have ft := win_top (HM.out.blk 1 rfl).all
      have d1 : decide ((c : Int) > (c : Int)) = false := by simp
      go_upto_region 11 with fail
      clear ft d1
      obtain ⟨cb, hcb⟩ : ∃ z, c / 64 = z := ⟨_, rfl⟩
      obtain ⟨k, hk⟩ : ∃ z, c % 64 = z := ⟨_, rfl⟩
      obtain ⟨j, hj⟩ : ∃ z, cb % 4 = z := ⟨_, rfl⟩
      have fw := win_word (HM.out.blk 1 rfl).all HY.out.2.1 j (by omega)
      have hws := word_lt HY.out c
      rw [wordM, hcb, hj] at hws
      have hmk : markM (WinM.mk true c [0, 0, 0, 0]) c = ⟨(WinM.mk true c [0, 0, 0, 0]).used, (WinM.mk true c [0, 0, 0, 0]).top, (WinM.mk true c [0, 0, 0, 0]).ws.set j ((WinM.mk true c [0, 0, 0, 0]).ws.getD j 0 ||| 2 ^ k)⟩ := by rw [markM, wordM, hcb, hk, hj]
      have hset := win_set_word (WinM.mk true c [0, 0, 0, 0]) j ((WinM.mk true c [0, 0, 0, 0]).ws.getD j 0 ||| 2 ^ k)
      rw [← hmk] at hset
      obtain ⟨wd, hwd⟩ : ∃ z, (WinM.mk true c [0, 0, 0, 0]).ws.getD j 0 = z := ⟨_, rfl⟩
      rw [hwd] at fw hws hset
      rw [show 0 + 2 + j = 2 + j by omega] at fw
      have hk64 : k < 64 := by omega
      have hp64 : 2 ^ k < 18446744073709551616 := by have h : 2 ^ k < 2 ^ 64 := Nat.pow_lt_pow_right (by omega) hk64; simpa using h
      have hor := or_u64_nat wd (2 ^ k) hws hp64
      have e1 : (c : Int) / 64 = (cb : Int) := by omega
      have e3 : (c : Int) % 64 = (k : Int) := by omega
      have e4 : (cb : Int) % 4 = (j : Int) := by omega
      have w1' : IntKind.u64.wrap (cb : Int) = (cb : Int) := by rw [IntKind.wrap_u64]; omega
      have esh : IntKind.u64.wrap (2 ^ k : Int) = ((2 ^ k : Nat) : Int) := by have h := shl_u64 k hk64; rw [Int.one_mul] at h; exact h
      have esh2 : (2 ^ k : Int) % 18446744073709551616 = ((2 ^ k : Nat) : Int) := by rw [← IntKind.wrap_u64]; exact esh
      obtain ⟨pk, hpk⟩ : ∃ z, 2 ^ k = z := ⟨_, rfl⟩
      rw [hpk] at hor hp64 hset esh esh2
      obtain ⟨nw, hnw⟩ : ∃ z, wd ||| pk = z := ⟨_, rfl⟩
      rw [hnw] at hor hset
      have zx := (HM.out.blk 1 rfl).frozen (2 + j)
      have HSET := Lib.hid hset
      have hm9 := HM.out.setCell 1 rfl (2 + j) (.int .u64 (nw : Int))
      rw [show (.int .u64 (nw : Int) : Value) = u64n nw from rfl, hset] at hm9
      have HM9 := Lib.hid (show Mem w [blkE P4 25 winZ, blkE P1 25 (markM (WinM.mk true c [0, 0, 0, 0]) c).cells] (w4.setCell ⟨P1, 2 + j, none⟩ (.int .u64 (nw : Int))) from hm9)
      have HYO := Lib.hid (markM_ok HY.out c)
      clear hcb hk hj hws hmk hset hwd hp64 hpk hnw hm9 hk64
      go_upto_region 12 with fail
      clear fw zx hor esh esh2 e1 e3 e4
      obtain ⟨yc, hyc⟩ : ∃ z, (markM (WinM.mk true c [0, 0, 0, 0]) c).cells.toArray = z := ⟨_, rfl⟩
      have HYC := Lib.hid hyc
      go_wp2_with (first | (refine wpList_load_obj rfl 25 (.tmp 2) rfl P1 0 rfl (markM (WinM.mk true c [0, 0, 0, 0]) c).cells (HM9.out.blk 1 rfl).all _ Try.underlying25 rfl (win_cellsOf _ HYO.out) ?_; rw [HYC.out]) | (refine wpList_store_obj rfl 25 (.tmp 4) (.tmp 54) rfl P4 0 (markM (WinM.mk true c [0, 0, 0, 0]) c).cells rfl (by show Value.agg yc = _; rw [HYC.out]) 25 winZ (HM9.out.blk 0 rfl) (win_cellsOf _ HYO.out) (by rw [WinM.cells_length HYO.out, winZ_length]; omega) (win_one _) ?_; intro w9 hb9 hg9))
      rw [setL_all winZ _ (by rw [WinM.cells_length HYO.out, winZ_length])] at hb9
      exact bodyPost_ret (results_obj_tmp rfl _ _ P4 25 (markM (WinM.mk true c [0, 0, 0, 0]) c).cells _ rfl hb9 Try.underlying25 rfl (win_cellsOf _ HYO.out)) rfl ⟨by rw [HRES.out]; rfl, (HM9.out.put 0 rfl _ hg9 hb9).bel⟩
    | true =>
      have ft := win_top (HM.out.blk 1 rfl).all
      by_cases hlt : x.top < c
      · have d1 : decide ((c : Int) > (x.top : Int)) = true := by simp; omega
        have d2 : decide (x.top < c) = true := by simpa using hlt
        obtain ⟨cb, hcb⟩ : ∃ z, c / 64 = z := ⟨_, rfl⟩
        obtain ⟨tb, htb⟩ : ∃ z, x.top / 64 = z := ⟨_, rfl⟩
        obtain ⟨d, hd⟩ : ∃ z, cb - tb = z := ⟨_, rfl⟩
        obtain ⟨n, hn⟩ : ∃ z, min d 4 = z := ⟨_, rfl⟩
        have hxt := HX.out.1
        have hcc := HC.out
        have e1 : (c : Int) / 64 = (cb : Int) := by omega
        have e2 : (x.top : Int) / 64 = (tb : Int) := by omega
        have e5 : (cb : Int) - (tb : Int) = (d : Int) := by omega
        have w1' : IntKind.u64.wrap (cb : Int) = (cb : Int) := by rw [IntKind.wrap_u64]; omega
        have w2' : IntKind.u64.wrap (tb : Int) = (tb : Int) := by rw [IntKind.wrap_u64]; omega
        have w3' : IntKind.u64.wrap (d : Int) = (d : Int) := by rw [IntKind.wrap_u64]; omega
        have emin : min (d : Int) 4 = (n : Int) := by omega
        have HN := Lib.hid (show n ≤ 4 ∧ tb < 288230376151711744 from by omega)
        have HRES := Lib.hid (show acceptM x c = (markM ⟨true, c, clearM x.ws tb n⟩ c, true) from by rw [hres, freshM, if_pos hu, moveM, if_pos hlt, hu, hcb, htb, hd, hn])
        have HLT := Lib.hid hlt
        have HHU := Lib.hid hu
        clear hres hu hlt hxt hcc hcb htb hd hn
        go_wp2_with fail
        clear fu ft d1 d2
        go_loopw [6] (fun v wr => ∃ i q : Nat, i = q + 1 ∧ q ≤ n ∧ v = .int .u64 (i : Int) ∧ Mem w [blkE P4 25 winZ, blkE P1 25 (WinM.mk true x.top (clearM x.ws tb q)).cells] wr) (fun v _ => n + 1 - (intOf v).toNat)
        case atStart => exact ⟨1, 0, rfl, Nat.zero_le _, rfl, by rw [← HHU.out]; exact HM.out⟩
        case round =>
          clear HM
          obtain ⟨i, q, hi, hq, rfl, hM⟩ := hrel
          have HM := Lib.hid hM
          have HIQ := Lib.hid hi
          clear hM
          have hnn := HN.out
          have HQO := Lib.hid (show (WinM.mk true x.top (clearM x.ws tb q)).ok from ⟨HX.out.1, (clearM_length _ _ _).trans HX.out.2.1, clearM_mem HX.out.2.2 _ _⟩)
          have ft := win_top (HM.out.blk 1 rfl).all
          by_cases hin : i ≤ n
          · have d3 : decide ((i : Int) ≤ (n : Int)) = true := by simp; omega
            have d4 : decide (i ≤ n) = true := by simpa using hin
            obtain ⟨ti, hti⟩ : ∃ z, tb + i = z := ⟨_, rfl⟩
            obtain ⟨j, hj⟩ : ∃ z, ti % 4 = z := ⟨_, rfl⟩
            obtain ⟨i2, hi2⟩ : ∃ z, i + 1 = z := ⟨_, rfl⟩
            have fw := win_word (HM.out.blk 1 rfl).all HQO.out.2.1 j (by omega)
            have zx := (HM.out.blk 1 rfl).frozen (2 + j)
            rw [show 0 + 2 + j = 2 + j by omega] at fw
            have e6 : (tb : Int) + (i : Int) = (ti : Int) := by omega
            have e7 : (ti : Int) % 4 = (j : Int) := by omega
            have w6' : IntKind.u64.wrap (ti : Int) = (ti : Int) := by rw [IntKind.wrap_u64]; omega
            have e8 : (i : Int) + 1 = (i2 : Int) := by omega
            have w8' : IntKind.u64.wrap (i2 : Int) = (i2 : Int) := by rw [IntKind.wrap_u64]; omega
            have hset := win_set_word (WinM.mk true x.top (clearM x.ws tb q)) j 0
            have hcl : clearM x.ws tb (q + 1) = (clearM x.ws tb q).set j 0 := by rw [clearM, ← hi, hti, hj]
            have hm9 := HM.out.setCell 1 rfl (2 + j) (.int .u64 0)
            rw [show (.int .u64 0 : Value) = u64n 0 from rfl, hset] at hm9
            have HM9 := Lib.hid (show Mem w [blkE P4 25 winZ, blkE P1 25 (WinM.mk true x.top (clearM x.ws tb (q + 1))).cells] (wr.setCell ⟨P1, 2 + j, none⟩ (.int .u64 0)) from by rw [hcl]; exact hm9)
            have HI2 := Lib.hid (show i2 = q + 1 + 1 ∧ q + 1 ≤ n from by omega)
            have HMS := Lib.hid (show n + 1 - i2 < n + 1 - i from by omega)
            clear hset hcl hm9 hti hj hi hq hin hi2
            go_wp2_with (refine wpList_min_k rfl (.tmp 27) (.const (.int .u64 4)) #[22, 22] rfl .u64 (d : Int) 4 (n : Int) rfl rfl emin ?_)
            go_roundw
            case rel => exact ⟨i2, q + 1, HI2.out.1, HI2.out.2, rfl, HM9.out⟩
            case measure => simpa [intOf] using HMS.out
          · have d3 : decide ((i : Int) ≤ (n : Int)) = false := by simp; omega
            obtain rfl : q = n := by omega
            have d4 : decide (i ≤ q) = false := by simpa using hin
            clear hi hq hin
            have zt := (HM.out.blk 1 rfl).frozen 1
            have hm9 := HM.out.setCell 1 rfl 1 (.int .u64 (c : Int))
            have HM9 := Lib.hid (show Mem w [blkE P4 25 winZ, blkE P1 25 (WinM.mk true c (clearM x.ws tb q)).cells] (wr.setCell ⟨P1, 1, none⟩ (.int .u64 (c : Int))) from hm9)
            go_upto_region 11 with (refine wpList_min_k rfl (.tmp 27) (.const (.int .u64 4)) #[22, 22] rfl .u64 (d : Int) 4 (q : Int) rfl rfl emin ?_)
            clear hm9 zt ft d3 d4 e1 e2 e5 w1' w2' w3' emin
            generalize wr.setCell ⟨P1, 1, none⟩ (.int .u64 (c : Int)) = w7 at HM9 ⊢
            have HM := HM9
            have HY := Lib.hid (show (WinM.mk true c (clearM x.ws tb q)).ok from ⟨HC.out, (clearM_length _ _ _).trans HX.out.2.1, clearM_mem HX.out.2.2 _ _⟩)
            obtain ⟨cb, hcb⟩ : ∃ z, c / 64 = z := ⟨_, rfl⟩
            obtain ⟨k, hk⟩ : ∃ z, c % 64 = z := ⟨_, rfl⟩
            obtain ⟨j, hj⟩ : ∃ z, cb % 4 = z := ⟨_, rfl⟩
            have fw := win_word (HM.out.blk 1 rfl).all HY.out.2.1 j (by omega)
            have hws := word_lt HY.out c
            rw [wordM, hcb, hj] at hws
            have hmk : markM (WinM.mk true c (clearM x.ws tb q)) c = ⟨(WinM.mk true c (clearM x.ws tb q)).used, (WinM.mk true c (clearM x.ws tb q)).top, (WinM.mk true c (clearM x.ws tb q)).ws.set j ((WinM.mk true c (clearM x.ws tb q)).ws.getD j 0 ||| 2 ^ k)⟩ := by rw [markM, wordM, hcb, hk, hj]
            have hset := win_set_word (WinM.mk true c (clearM x.ws tb q)) j ((WinM.mk true c (clearM x.ws tb q)).ws.getD j 0 ||| 2 ^ k)
            rw [← hmk] at hset
            obtain ⟨wd, hwd⟩ : ∃ z, (WinM.mk true c (clearM x.ws tb q)).ws.getD j 0 = z := ⟨_, rfl⟩
            rw [hwd] at fw hws hset
            rw [show 0 + 2 + j = 2 + j by omega] at fw
            have hk64 : k < 64 := by omega
            have hp64 : 2 ^ k < 18446744073709551616 := by have h : 2 ^ k < 2 ^ 64 := Nat.pow_lt_pow_right (by omega) hk64; simpa using h
            have hor := or_u64_nat wd (2 ^ k) hws hp64
            have e1 : (c : Int) / 64 = (cb : Int) := by omega
            have e3 : (c : Int) % 64 = (k : Int) := by omega
            have e4 : (cb : Int) % 4 = (j : Int) := by omega
            have w1' : IntKind.u64.wrap (cb : Int) = (cb : Int) := by rw [IntKind.wrap_u64]; omega
            have esh : IntKind.u64.wrap (2 ^ k : Int) = ((2 ^ k : Nat) : Int) := by have h := shl_u64 k hk64; rw [Int.one_mul] at h; exact h
            have esh2 : (2 ^ k : Int) % 18446744073709551616 = ((2 ^ k : Nat) : Int) := by rw [← IntKind.wrap_u64]; exact esh
            obtain ⟨pk, hpk⟩ : ∃ z, 2 ^ k = z := ⟨_, rfl⟩
            rw [hpk] at hor hp64 hset esh esh2
            obtain ⟨nw, hnw⟩ : ∃ z, wd ||| pk = z := ⟨_, rfl⟩
            rw [hnw] at hor hset
            have zx := (HM.out.blk 1 rfl).frozen (2 + j)
            have HSET := Lib.hid hset
            have hm9 := HM.out.setCell 1 rfl (2 + j) (.int .u64 (nw : Int))
            rw [show (.int .u64 (nw : Int) : Value) = u64n nw from rfl, hset] at hm9
            have HM9 := Lib.hid (show Mem w [blkE P4 25 winZ, blkE P1 25 (markM (WinM.mk true c (clearM x.ws tb q)) c).cells] (w7.setCell ⟨P1, 2 + j, none⟩ (.int .u64 (nw : Int))) from hm9)
            have HYO := Lib.hid (markM_ok HY.out c)
            clear hcb hk hj hws hmk hset hwd hp64 hpk hnw hm9 hk64
            go_upto_region 12 with fail
            clear fw zx hor esh esh2 e1 e3 e4
            obtain ⟨yc, hyc⟩ : ∃ z, (markM (WinM.mk true c (clearM x.ws tb q)) c).cells.toArray = z := ⟨_, rfl⟩
            have HYC := Lib.hid hyc
            go_wp2_with (first | (refine wpList_load_obj rfl 25 (.tmp 2) rfl P1 0 rfl (markM (WinM.mk true c (clearM x.ws tb q)) c).cells (HM9.out.blk 1 rfl).all _ Try.underlying25 rfl (win_cellsOf _ HYO.out) ?_; rw [HYC.out]) | (refine wpList_store_obj rfl 25 (.tmp 4) (.tmp 54) rfl P4 0 (markM (WinM.mk true c (clearM x.ws tb q)) c).cells rfl (by show Value.agg yc = _; rw [HYC.out]) 25 winZ (HM9.out.blk 0 rfl) (win_cellsOf _ HYO.out) (by rw [WinM.cells_length HYO.out, winZ_length]; omega) (win_one _) ?_; intro w9 hb9 hg9))
            rw [setL_all winZ _ (by rw [WinM.cells_length HYO.out, winZ_length])] at hb9
            exact bodyPost_ret (results_obj_tmp rfl _ _ P4 25 (markM (WinM.mk true c (clearM x.ws tb q)) c).cells _ rfl hb9 Try.underlying25 rfl (win_cellsOf _ HYO.out)) rfl ⟨by rw [HRES.out]; rfl, (HM9.out.put 0 rfl _ hg9 hb9).bel⟩
      · have HRES := Lib.hid (show acceptM x c = (markM x c, true) from by rw [hres, freshM, if_pos hu, moveM, if_neg hlt])
        have HY := HX
        have d1 : decide ((c : Int) > (x.top : Int)) = false := by simp; omega
        have d2 : decide (x.top < c) = false := by simpa using hlt
        clear hres hu hlt
        go_upto_region 11 with fail
        clear ft fu d1 d2
        obtain ⟨cb, hcb⟩ : ∃ z, c / 64 = z := ⟨_, rfl⟩
        obtain ⟨k, hk⟩ : ∃ z, c % 64 = z := ⟨_, rfl⟩
        obtain ⟨j, hj⟩ : ∃ z, cb % 4 = z := ⟨_, rfl⟩
        have fw := win_word (HM.out.blk 1 rfl).all HY.out.2.1 j (by omega)
        have hws := word_lt HY.out c
        rw [wordM, hcb, hj] at hws
        have hmk : markM (x) c = ⟨(x).used, (x).top, (x).ws.set j ((x).ws.getD j 0 ||| 2 ^ k)⟩ := by rw [markM, wordM, hcb, hk, hj]
        have hset := win_set_word (x) j ((x).ws.getD j 0 ||| 2 ^ k)
        rw [← hmk] at hset
        obtain ⟨wd, hwd⟩ : ∃ z, (x).ws.getD j 0 = z := ⟨_, rfl⟩
        rw [hwd] at fw hws hset
        rw [show 0 + 2 + j = 2 + j by omega] at fw
        have hk64 : k < 64 := by omega
        have hp64 : 2 ^ k < 18446744073709551616 := by have h : 2 ^ k < 2 ^ 64 := Nat.pow_lt_pow_right (by omega) hk64; simpa using h
        have hor := or_u64_nat wd (2 ^ k) hws hp64
        have e1 : (c : Int) / 64 = (cb : Int) := by omega
        have e3 : (c : Int) % 64 = (k : Int) := by omega
        have e4 : (cb : Int) % 4 = (j : Int) := by omega
        have w1' : IntKind.u64.wrap (cb : Int) = (cb : Int) := by rw [IntKind.wrap_u64]; omega
        have esh : IntKind.u64.wrap (2 ^ k : Int) = ((2 ^ k : Nat) : Int) := by have h := shl_u64 k hk64; rw [Int.one_mul] at h; exact h
        have esh2 : (2 ^ k : Int) % 18446744073709551616 = ((2 ^ k : Nat) : Int) := by rw [← IntKind.wrap_u64]; exact esh
        obtain ⟨pk, hpk⟩ : ∃ z, 2 ^ k = z := ⟨_, rfl⟩
        rw [hpk] at hor hp64 hset esh esh2
        obtain ⟨nw, hnw⟩ : ∃ z, wd ||| pk = z := ⟨_, rfl⟩
        rw [hnw] at hor hset
        have zx := (HM.out.blk 1 rfl).frozen (2 + j)
        have HSET := Lib.hid hset
        have hm9 := HM.out.setCell 1 rfl (2 + j) (.int .u64 (nw : Int))
        rw [show (.int .u64 (nw : Int) : Value) = u64n nw from rfl, hset] at hm9
        have HM9 := Lib.hid (show Mem w [blkE P4 25 winZ, blkE P1 25 (markM (x) c).cells] (w2.setCell ⟨P1, 2 + j, none⟩ (.int .u64 (nw : Int))) from hm9)
        have HYO := Lib.hid (markM_ok HY.out c)
        clear hcb hk hj hws hmk hset hwd hp64 hpk hnw hm9 hk64
        go_upto_region 12 with fail
        clear fw zx hor esh esh2 e1 e3 e4
        obtain ⟨yc, hyc⟩ : ∃ z, (markM (x) c).cells.toArray = z := ⟨_, rfl⟩
        have HYC := Lib.hid hyc
        go_wp2_with (first | (refine wpList_load_obj rfl 25 (.tmp 2) rfl P1 0 rfl (markM (x) c).cells (HM9.out.blk 1 rfl).all _ Try.underlying25 rfl (win_cellsOf _ HYO.out) ?_; rw [HYC.out]) | (refine wpList_store_obj rfl 25 (.tmp 4) (.tmp 54) rfl P4 0 (markM (x) c).cells rfl (by show Value.agg yc = _; rw [HYC.out]) 25 winZ (HM9.out.blk 0 rfl) (win_cellsOf _ HYO.out) (by rw [WinM.cells_length HYO.out, winZ_length]; omega) (win_one _) ?_; intro w9 hb9 hg9))
        rw [setL_all winZ _ (by rw [WinM.cells_length HYO.out, winZ_length])] at hb9
        exact bodyPost_ret (results_obj_tmp rfl _ _ P4 25 (markM (x) c).cells _ rfl hb9 Try.underlying25 rfl (win_cellsOf _ HYO.out)) rfl ⟨by rw [HRES.out]; rfl, (HM9.out.put 0 rfl _ hg9 hb9).bel⟩
end Go.Proofs.Yteidabgkidablaa
