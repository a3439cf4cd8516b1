/-
  The contract of the program's Accept. No statement is proved here.
-/
import Derived.Test.YteidabgkidablaaWiPCheck
import Derived.Test.YteidabgkidablaaWiPClear
import Derived.Test.YteidabgkidablaaBuildAs
import Derived.Test.YteidabgkidablaaAtOp
import Derived.RegionTactic
import Derived.Deep.DeepCutAuto
namespace Go.Proofs.Yteidabgkidablaa
open Go.RowKit

theorem win_sub {w : World} {g : Nat} {x : WinM} (h : At w g 0 x.cells) : At w g 2 (x.ws.map u64n) := by
  intro j v hv
  have := h (2 + j) v (by rw [WinM.cells, Nat.add_comm 2 j, List.getElem?_cons_succ, List.getElem?_cons_succ]; exact hv)
  rwa [Nat.zero_add] at this
theorem win_put_words (x : WinM) (ws : List Nat) (hx : x.ws.length = 4) (h : ws.length = 4) : setL x.cells 2 (ws.map u64n) = (WinM.mk x.used x.top ws).cells := by
  rw [setL, WinM.cells, WinM.cells, List.take_succ_cons, List.take_succ_cons, List.take_zero, List.length_map, h]
  have : List.drop (2 + 4) (Value.bool x.used :: u64n x.top :: x.ws.map u64n) = [] := List.drop_eq_nil_of_le (by rw [List.length_cons, List.length_cons, List.length_map, hx]; decide)
  rw [this]
  simp
theorem clear_zero (b n : Nat) : clearM [0, 0, 0, 0] b n = [0, 0, 0, 0] := by
  induction n with
  | zero => rfl
  | succ n ih =>
    rw [clearM, ih]
    have h : (b + (n + 1)) % 4 < 4 := Nat.mod_lt _ (by omega)
    generalize (b + (n + 1)) % 4 = j at h
    match j, h with
    | 0, _ => rfl
    | 1, _ => rfl
    | 2, _ => rfl
    | 3, _ => rfl
/-- the window that an unused one begins with -/
def begM (x : WinM) : WinM := if x.used then x else ⟨true, 0, [0, 0, 0, 0]⟩
theorem begM_ok {x : WinM} (h : x.ok) : (begM x).ok := by
  unfold begM
  split
  · exact h
  · exact ⟨by decide, rfl, by simp⟩
theorem begM_used (x : WinM) : (begM x).used = true := by
  unfold begM
  split <;> simp_all
theorem accept_beg {x : WinM} {c : Nat} (h : checkM x c = true) : acceptM x c = (markM (moveM (begM x) c) c, true) := by
  rw [acceptM, if_pos h]
  congr 1
  unfold begM freshM
  split
  · rfl
  · rw [moveM, if_neg (by simp), moveM]
    split
    · rw [clear_zero]
    · rename_i h0
      obtain rfl : c = 0 := by simpa using h0
      rfl
set_option maxRecDepth 100000 in
set_option maxHeartbeats 8000000 in
theorem wiAcceptC : WiAcceptC 6 := by
  intro x c w hx hc
  have HX := Lib.hid hx
  have HC := Lib.hid hc
  have hch := fun W => wiCheckC x c W hx hc
  have HPL := Lib.hid (fun W => place_any c hc W)
  have HCL := Lib.hid (fun ws fr tz h1 h2 h3 W => cleared_any ws fr tz h1 h2 h3 W)
  obtain ⟨xc, hxc⟩ : ∃ z, x.cells.toArray = z := ⟨_, rfl⟩
  rw [hxc] at hch ⊢
  obtain ⟨y, hy⟩ : ∃ y, checkM x c = y := ⟨_, rfl⟩
  rw [hy] at hch
  have HCH := Lib.hid hch
  have HXC := Lib.hid hxc
  have HYY := Lib.hid hy
  have hm := ((Mem.nil w).alloc rfl 25 xc x.cells hxc.symm).alloc rfl 25 #[.bool false, .int .u64 0, .int .u64 0, .int .u64 0, .int .u64 0, .int .u64 0] winZ rfl
  have HM := Lib.hid (show Mem w [blkE (w.heap.size + 1) 25 winZ, blkE w.heap.size 25 x.cells] ((w.alloc (.cells xc 25)).alloc (.cells #[.bool false, .int .u64 0, .int .u64 0, .int .u64 0, .int .u64 0, .int .u64 0] 25)) from by simpa using hm)
  clear hm hx hxc hch hy
  go_enter Try.func6, Try.ntmps6
  go_upto_region 1 with fail
  generalize (w.alloc (.cells xc 25)).alloc (.cells #[.bool false, .int .u64 0, .int .u64 0, .int .u64 0, .int .u64 0, .int .u64 0] 25) = w1 at HM ⊢
  generalize w.heap.size + 1 = P4 at HM ⊢
  generalize w.heap.size = P2 at HM ⊢
  go_wp2_with ((with_reducible refine at_op (.load 25 (.tmp 2)) rfl ?_); refine wpList_load_obj rfl 25 (.tmp 2) rfl P2 0 rfl x.cells (HM.out.blk 1 rfl).all _ Try.underlying25 rfl (win_cellsOf x HX.out) ?_; rw [HXC.out])
  refine (HCH.out _).mono ?_
  rintro e w2 ⟨rfl, hb⟩
  replace HM := Lib.hid (HM.out.below hb)
  clear hb HCH
  cases y with
  | false =>
    have HRES := Lib.hid (show acceptM x c = (x, false) from by rw [acceptM, if_neg (by rw [HYY.out]; simp)])
    have HY := HX
    have HYC := HXC
    go_wp2_with (first | ((with_reducible refine at_op (.load 25 (.tmp 2)) rfl ?_); refine wpList_load_obj rfl 25 (.tmp 2) rfl P2 0 rfl (x).cells (HM.out.blk 1 rfl).all _ Try.underlying25 rfl (win_cellsOf _ HY.out) ?_; rw [HYC.out]) | ((with_reducible refine at_op (.store 25 (.tmp 4) (.tmp 12)) rfl ?_); refine wpList_store_obj rfl 25 (.tmp 4) (.tmp 12) rfl P4 0 (x).cells rfl (by show Value.agg xc = _; rw [HYC.out]) 25 winZ (HM.out.blk 0 rfl) (win_cellsOf _ HY.out) (by rw [WinM.cells_length HY.out, winZ_length]; omega) (win_one _) ?_; intro w9 hb9 hg9))
    rw [setL_all winZ _ (by rw [WinM.cells_length HY.out, winZ_length])] at hb9
    exact bodyPost_ret (results_obj_tmp rfl _ _ P4 25 (x).cells _ rfl hb9 Try.underlying25 rfl (win_cellsOf _ HY.out)) rfl ⟨by rw [HRES.out]; rfl, (HM.out.put 0 rfl _ hg9 hb9).bel⟩
  | true =>
    have hres := accept_beg HYY.out
    have fu := win_used (HM.out.blk 1 rfl).all
    obtain ⟨u, hu⟩ : ∃ z, x.used = z := ⟨_, rfl⟩
    rw [hu] at fu
    go_upto_if 15 with fail
    go_cut [] (fun wx => Mem w [blkE P4 25 winZ, blkE P2 25 (begM x).cells] wx)
    case first =>
      cases u with
      | true =>
        have HBM := Lib.hid (show begM x = x from by rw [begM, if_pos hu])
        clear hu fu
        go_wp2_with fail
        go_meet
        rw [HBM.out]; exact HM.out
      | false =>
        have HBM := Lib.hid (show begM x = WinM.mk true 0 [0, 0, 0, 0] from by rw [begM, if_neg (by rw [hu]; simp)])
        obtain ⟨zc, hzc⟩ : ∃ z, (WinM.mk true 0 [0, 0, 0, 0]).cells.toArray = z := ⟨_, rfl⟩
        have HZC := Lib.hid hzc
        have HBT := Lib.hid (show Try.prog.built 25 [(0, .bool true)] = some zc from by rw [← hzc]; kernel_rfl)
        have HZO := Lib.hid (show (WinM.mk true 0 [0, 0, 0, 0]).ok from ⟨by decide, rfl, by simp⟩)
        clear hu fu hzc
        go_wp2_with (first | (refine wpList_build_as rfl 25 [(0, .const (.bool true))] rfl zc ?_ ?_; exact HBT.out) | ((with_reducible refine at_op (.store 25 (.tmp 2) (.tmp 16)) rfl ?_); refine wpList_store_obj rfl 25 (.tmp 2) (.tmp 16) rfl P2 0 (WinM.mk true 0 [0, 0, 0, 0]).cells rfl (by show Value.agg zc = _; rw [HZC.out]) 25 x.cells (HM.out.blk 1 rfl) (win_cellsOf _ HZO.out) (by rw [WinM.cells_length HZO.out, WinM.cells_length HX.out]; omega) (win_one _) ?_; intro w4 hb4 hg4))
        go_meet
        rw [setL_all x.cells _ (by rw [WinM.cells_length HZO.out, WinM.cells_length HX.out])] at hb4
        rw [HBM.out]
        exact HM.out.put 1 rfl _ hg4 hb4
    clear HM hu fu
    have HM := Lib.hid hcut
    clear hcut
    revert wc
    intro w3 HM
    have HY := Lib.hid (begM_ok HX.out)
    have HYU := Lib.hid (begM_used x)
    obtain ⟨y, hy⟩ : ∃ z, begM x = z := ⟨_, rfl⟩
    rw [hy] at HM HY HYU hres
    clear hy
    have ft := win_top (HM.out.blk 1 rfl).all
    go_upto_if 20 with fail
    go_cut [] (fun wx => Mem w [blkE P4 25 winZ, blkE P2 25 (moveM y c).cells] wx)
    case first =>
      by_cases hlt : y.top < c
      · have d1 : decide ((c : Int) > (y.top : Int)) = true := by simp; omega
        have d2 : decide (y.top < c) = true := by simpa using hlt
        obtain ⟨cb, hcb⟩ : ∃ z, c / 64 = z := ⟨_, rfl⟩
        obtain ⟨tb, htb⟩ : ∃ z, y.top / 64 = z := ⟨_, rfl⟩
        have hcc := HC.out
        have htt := HY.out.1
        have e1 : (c : Int) / 64 = (cb : Int) := by omega
        have e2 : (y.top : Int) / 64 = (tb : Int) := by omega
        have w1' : IntKind.u64.wrap (cb : Int) = (cb : Int) := by rw [IntKind.wrap_u64]; omega
        have w2' : IntKind.u64.wrap (tb : Int) = (tb : Int) := by rw [IntKind.wrap_u64]; omega
        obtain ⟨ws2, hws2⟩ : ∃ z, clearM y.ws tb (min (cb - tb) 4) = z := ⟨_, rfl⟩
        have HMV := Lib.hid (show moveM y c = WinM.mk y.used c ws2 from by rw [moveM, if_pos hlt, hcb, htb, hws2])
        have HW2 := Lib.hid (show ws2.length = 4 from by rw [← hws2]; exact (clearM_length _ _ _).trans HY.out.2.1)
        have hcl := fun W => HCL.out y.ws tb cb HY.out.2.1 (by omega) (by omega) W
        rw [hws2] at hcl
        obtain ⟨wc0, hwc0⟩ : ∃ z, (y.ws.map u64n).toArray = z := ⟨_, rfl⟩
        rw [hwc0] at hcl
        obtain ⟨wc2, hwc2⟩ : ∃ z, (ws2.map u64n).toArray = z := ⟨_, rfl⟩
        rw [hwc2] at hcl
        have HCL2 := Lib.hid hcl
        have HWC0 := Lib.hid hwc0
        have HWC2 := Lib.hid hwc2
        clear hcl hwc0 hwc2 hws2 hcb htb hcc htt
        go_upto_region 6 with fail
        clear hlt
        go_wp2_with ((with_reducible refine at_op (.load 23 (.tmp 21)) rfl ?_); refine wpList_load_obj rfl 23 (.tmp 21) rfl P2 2 rfl (y.ws.map u64n) (win_sub (HM.out.blk 1 rfl).all) _ Try.underlying23 rfl (words_cellsOf _ HY.out.2.1) ?_; rw [HWC0.out])
        refine (HCL2.out _).mono ?_
        rintro e w4 ⟨rfl, hb⟩
        replace HM := Lib.hid (HM.out.below hb)
        clear hb ft d1 d2 e1 e2 w1' w2'
        go_upto_region 7 with ((with_reducible refine at_op (.store 23 (.tmp 29) (.tmp 28)) rfl ?_); refine wpList_store_obj rfl 23 (.tmp 29) (.tmp 28) rfl P2 2 (ws2.map u64n) rfl (by show Value.agg wc2 = _; rw [HWC2.out]) 25 y.cells (HM.out.blk 1 rfl) (words_cellsOf _ HW2.out) (by rw [List.length_map, HW2.out, WinM.cells_length HY.out]; decide) (words_one _) ?_; intro w5 hb5 hg5)
        rw [win_put_words _ _ HY.out.2.1 HW2.out] at hb5
        replace HM := Lib.hid (show Mem w [blkE P4 25 winZ, blkE P2 25 (WinM.mk y.used y.top ws2).cells] w5 from HM.out.put 1 rfl _ hg5 hb5)
        clear hb5 hg5
        have zt := (HM.out.blk 1 rfl).frozen 1
        have ft := win_top (HM.out.blk 1 rfl).all
        have hm9 := HM.out.setCell 1 rfl 1 (.int .u64 (c : Int))
        have HM9 := Lib.hid (show Mem w [blkE P4 25 winZ, blkE P2 25 (WinM.mk y.used c ws2).cells] (w5.setCell ⟨P2, 1, none⟩ (.int .u64 (c : Int))) from hm9)
        clear hm9
        go_wp2_with fail
        go_meet
        rw [HMV.out]; exact HM9.out
      · have d1 : decide ((c : Int) > (y.top : Int)) = false := by simp; omega
        have d2 : decide (y.top < c) = false := by simpa using hlt
        have HMV := Lib.hid (show moveM y c = y from by rw [moveM, if_neg hlt])
        go_wp2_with fail
        go_meet
        rw [HMV.out]; exact HM.out
    clear HM ft
    have HM := Lib.hid hcut
    clear hcut
    revert wc
    intro w7 HM
    have HRES := Lib.hid hres
    have HMO := Lib.hid (moveM_ok HY.out HC.out)
    obtain ⟨mv, hmv⟩ : ∃ q, moveM y c = q := ⟨_, rfl⟩
    rw [hmv] at HM HMO HRES
    clear HY HYU hmv hres
    have HY := HMO
    go_upto_region 8 with fail
    go_wp2_with fail
    refine (HPL.out _).mono ?_
    rintro e w8 ⟨rfl, rfl⟩
    obtain ⟨j, hj⟩ : ∃ z, c / 64 % 4 = z := ⟨_, rfl⟩
    have fw := win_word (HM.out.blk 1 rfl).all HY.out.2.1 j (by omega)
    have hws := word_lt HY.out c
    have hmk : markM (mv) c = ⟨(mv).used, (mv).top, (mv).ws.set (c / 64 % 4) (wordM (mv).ws c ||| 2 ^ (c % 64))⟩ := rfl
    rw [wordM, hj] at hws hmk
    have hset := win_set_word (mv) j ((mv).ws.getD j 0 ||| 2 ^ (c % 64))
    rw [← hmk] at hset
    obtain ⟨wd, hwd⟩ : ∃ z, (mv).ws.getD j 0 = z := ⟨_, rfl⟩
    rw [hwd] at fw hws hset
    rw [show 0 + 2 + j = 2 + j by omega] at fw
    have hp64 : 2 ^ (c % 64) < 18446744073709551616 := by have h : 2 ^ (c % 64) < 2 ^ 64 := Nat.pow_lt_pow_right (by omega) (by omega); simpa using h
    have hor := or_u64_nat wd (2 ^ (c % 64)) hws hp64
    rw [hj]
    obtain ⟨pk, hpk⟩ : ∃ z, 2 ^ (c % 64) = z := ⟨_, rfl⟩
    rw [hpk] at hor hset
    rw [hpk]
    obtain ⟨nw, hnw⟩ : ∃ z, wd ||| pk = z := ⟨_, rfl⟩
    rw [hnw] at hor hset
    have hj4 : (j : Int) < 4 := by omega
    have zx := (HM.out.blk 1 rfl).frozen (2 + j)
    have hm9 := HM.out.setCell 1 rfl (2 + j) (.int .u64 (nw : Int))
    rw [show (.int .u64 (nw : Int) : Value) = u64n nw from rfl, hset] at hm9
    have HM9 := Lib.hid (show Mem w [blkE P4 25 winZ, blkE P2 25 (markM (mv) c).cells] (w8.setCell ⟨P2, 2 + j, none⟩ (.int .u64 (nw : Int))) from hm9)
    have HYO := Lib.hid (markM_ok HY.out c)
    clear hj hws hmk hset hwd hp64 hpk hnw hm9
    go_upto_region 10 with fail
    clear fw zx hor hj4
    replace HM := HM9
    have HY := HYO
    obtain ⟨yc, hyc⟩ : ∃ z, (markM (mv) c).cells.toArray = z := ⟨_, rfl⟩
    have HYC := Lib.hid hyc
    clear hyc HM9 HYO
    go_wp2_with (first | ((with_reducible refine at_op (.load 25 (.tmp 2)) rfl ?_); refine wpList_load_obj rfl 25 (.tmp 2) rfl P2 0 rfl (markM (mv) c).cells (HM.out.blk 1 rfl).all _ Try.underlying25 rfl (win_cellsOf _ HY.out) ?_; rw [HYC.out]) | ((with_reducible refine at_op (.store 25 (.tmp 4) (.tmp 45)) rfl ?_); refine wpList_store_obj rfl 25 (.tmp 4) (.tmp 45) rfl P4 0 (markM (mv) c).cells rfl (by show Value.agg yc = _; rw [HYC.out]) 25 winZ (HM.out.blk 0 rfl) (win_cellsOf _ HY.out) (by rw [WinM.cells_length HY.out, winZ_length]; omega) (win_one _) ?_; intro w9 hb9 hg9))
    rw [setL_all winZ _ (by rw [WinM.cells_length HY.out, winZ_length])] at hb9
    exact bodyPost_ret (results_obj_tmp rfl _ _ P4 25 (markM (mv) c).cells _ rfl hb9 Try.underlying25 rfl (win_cellsOf _ HY.out)) rfl ⟨by rw [HRES.out]; rfl, (HM.out.put 0 rfl _ hg9 hb9).bel⟩
end Go.Proofs.Yteidabgkidablaa
