/-
  The walk of RoutesLookup over what is asked of the program. The contracts of inner's size and first: how many bits an address has, and an address without the bits behind the first ones. The contracts of inner's size, first and address. No statement is proved here.
-/
import Derived.RegionTactic
import Derived.Deep.DeepCutAuto
import Derived.Test.YtnblofbbbkjhpaaRoutesLookupB6
namespace Go.Proofs.Ytnblofbbbkjhpaa
open Go.RowKit

theorem lookM_len {l : List RouteM} (hl : ∀ r ∈ l, r.ok) (x : AddrM) : (lookM l x).1.length = 32 := by
  rw [longTo_end]
  exact longTo_peer hl x _
set_option maxRecDepth 100000 in
set_option maxHeartbeats 8000000 in
theorem rt_lookup_walk (HINS : RtInsC 12) (HLK : RtLookC 26) (w : World) (A : Option Addr) (n c : Nat) (l : List UInt8) (hnc : n ≤ c) (hcm : c ≤ maxLen) (hr : Rd w w.heap.size A n l) (Am : Option Addr) (nm cm : Nat) (lm : List UInt8) (hncm : nm ≤ cm) (hcmm : cm ≤ maxLen) (hrm : Rd w w.heap.size Am nm lm) (Aw : Option Addr) (nw cw : Nat) (rw' : List RouteM) (hcw : CapOk nw cw) (hrw : RtRd w w.heap.size Aw nw rw') (xa : AddrM) (hxa : xa.ok) :
    Calls Try.prog 4 #[.slice A n c, .slice Am nm cm, .slice Aw nw cw, .agg xa.cells.toArray] w fun e w' => e = .returned (.bool true) ∧ Below w.heap.size w w' := by
  have HBG := Lib.hid (fun W : World => rt_begun_any HINS HLK W)
  have HLP := Lib.hid (fun (Y : AddrM) (hY : Y.ok) A n c l W h => HLK A n c l Y W hY h)
  have HLR := Lib.hid (fun (Y : AddrM) (hY : Y.ok) A n c l W h => refLookC A n c l Y W hY h)
  have HRW := Lib.hid hrw
  have HCW := Lib.hid hcw
  have HOA := Lib.hid hxa
  obtain ⟨mr, hmr⟩ : ∃ z, min nw 18 = z := ⟨_, rfl⟩
  have hmin : min (nw : Int) 18 = (mr : Int) := by omega
  obtain ⟨Ar, hAr⟩ : ∃ z, addrK Aw 0 cw 50 = z := ⟨_, rfl⟩
  obtain ⟨rr, hrr⟩ : ∃ z, rw'.take mr = z := ⟨_, rfl⟩
  have hslr := rt_h Aw (n := nw) cw mr (by omega) hcw.1
  rw [hAr] at hslr
  have HAR := Lib.hid (And.intro hAr hrr)
  have HMR := Lib.hid (show mr ≤ nw ∧ mr ≤ 18 from by omega)
  have HMD := Lib.hid (made_any A n c l hnc hcm)
  obtain ⟨k0, hk⟩ : ∃ k, min nm 30 = k := ⟨_, rfl⟩
  have HR := Lib.hid (hrm.take (show k0 ≤ nm by omega))
  have HW1 := Lib.hid (caseNew_any Am nm cm 30 k0 (by omega) hncm hcmm hk)
  have hk30 : k0 ≤ 30 := by omega
  generalize lm.take k0 = lk at HR
  have HRA := Lib.hid hr
  have HL0 := Lib.hid (Lows.nil w)
  clear hr hrm hk hnc hcm hncm hcmm
  obtain ⟨ca, hca⟩ : ∃ z, xa.cells.toArray = z := ⟨_, rfl⟩
  rw [hca]
  replace HL0 := Lib.hid (show Lows w [blkL w.heap.size 26 xa.cells] (w.alloc (.cells ca 26)) from HL0.out.alloc 26 ca xa.cells hca.symm)
  have HCA := Lib.hid hca
  clear HINS HLK hrw hcw hxa hAr hrr hmr hca
  go_enter Try.func4, Try.ntmps4
  go_upto_region 1 with fail
  generalize w.alloc (.cells ca 26) = w0 at HL0 ⊢
  go_wp2_with fail
  refine (HMD.out _ ((HRA.out.below HL0.out.bel).mono HL0.out.size)).mono ?_
  rintro e w1 ⟨xs, A9, c9, hmo, rfl, hrt, hcp, hb1⟩
  have hms := made_spec hmo
  generalize insAll xs = rs at hrt hcp hms ⊢
  obtain ⟨nn, hnn⟩ : ∃ z, rs.length = z := ⟨_, rfl⟩
  rw [hnn] at hrt hcp hms ⊢
  have HNN := Lib.hid hnn
  have HCP := Lib.hid (show CapOk nn c9 from hcp)
  have HSO := Lib.hid (And.intro hms.2.1 hms.2.2.1)
  have hn10 : nn ≤ 10 := hms.2.2.2
  have HL1 := Lib.hid (show Lows w [rtL A9 nn rs, blkL w.heap.size 26 xa.cells] w1 from (HL0.out.below hb1).cons (rtL A9 nn rs) hrt)
  clear hnn hcp hrt hb1 hmo HMD hms HL0
  go_wp2_with fail
  refine (HW1.out w1).mono ?_
  rintro e w2 ⟨rfl, hm⟩
  have hc : CodesAt w2 w1.heap.size Am k0 cm lk w.heap.size 0 := ⟨hm.blk 0 rfl, HR.out.below (HL1.out.bel.trans (hm.bel.mono HL1.out.size)), HL1.out.size, (hm.blk 0 rfl).lt, by omega, Nat.zero_le _⟩
  have HAC := Lib.hid (caseAddr_any w1.heap.size Am k0 cm lk w.heap.size 0 w2 hc)
  have HB2 := Lib.hid hm.bel
  clear hc hm HW1
  go_wp2_with fail
  refine HAC.out.mono ?_
  rintro e w3 ⟨rfl, _, hg⟩
  have HM := Lib.hid (HL1.out.below (show Below w1.heap.size w1 w3 from HB2.out.grown hg HB2.out.size (fun q hq => by injection hq with hq; omega)))
  clear hg HB2 HAC HR hk30 HL1
  have hx := codeA_ok lk 0
  generalize codeA lk 0 = x at hx ⊢
  have HOX := Lib.hid hx
  obtain ⟨cx, hcx⟩ : ∃ z, x.cells.toArray = z := ⟨_, rfl⟩
  rw [hcx]
  have HCX := Lib.hid hcx
  clear hx hcx
  have HZ := Lib.hid (Blk.new w3 26 addr0.cells)
  go_upto_region 2 with (refine wpList_store_obj rfl 26 (.tmp 10) (.tmp 23) rfl w3.heap.size 0 x.cells rfl (by show Value.agg cx = _; rw [HCX.out]) 26 addr0.cells HZ.out (addr_cellsOf x HOX.out) (by rw [AddrM.cells_length HOX.out]; decide) (x.one) ?_; intro w4 hb4 hg4)
  rw [setL_all _ _ (by rw [AddrM.cells_length HOX.out]; rfl)] at hb4
  replace HM := Lib.hid (show Lows w [blkL w3.heap.size 26 x.cells, rtL A9 nn rs, blkL w.heap.size 26 xa.cells] w4 from HM.out.stored hg4 hb4)
  clear hb4 hg4 HZ
  generalize w3.heap.size = gp at HM ⊢
  clear HRA
  go_upto_region 3 with (refine wpList_min_int rfl (.tmp 26) (.const (.int .i64 18)) #[3, 3] rfl (nw : Int) 18 (mr : Int) rfl rfl hmin ?_)
  clear hmin hslr
  replace HM := Lib.hid (HM.out.cons (rtL Ar mr rr) (by
    have h := HRW.out.below HM.out.bel
    exact ⟨(show RdRow _ w.heap.size Ar 50 mr (rtsV rr) from by rw [← HAR.out.1, ← HAR.out.2, ← rtsV_take]; exact h.1.ahead mr cw HMR.out.1).mono HM.out.size, fun r hr => h.2 r (by rw [← HAR.out.2] at hr; exact List.mem_of_mem_take hr)⟩))
  replace HM := Lib.hid (show Lows w [rtL Ar mr rr, blkL gp 26 x.cells, rtL A9 nn rs, blkL w.heap.size 26 xa.cells] w4 from HM.out)
  go_upto_region 4 with fail
  have HM5 := Lib.hid (HM.out.alloc 23 #[.slice A9 nn c9, .slice Ar mr cw] [.slice A9 nn c9, .slice Ar mr cw] rfl)
  clear HM
  generalize w4.alloc (.cells #[.slice A9 nn c9, .slice Ar mr cw] 23) = w5 at HM5 ⊢
  generalize w4.heap.size = gs at HM5 ⊢
  have HM := Lib.hid (show Lows w [blkL gs 23 [.slice A9 nn c9, .slice Ar mr cw], rtL Ar mr rr, blkL gp 26 x.cells, rtL A9 nn rs, blkL w.heap.size 26 xa.cells] w5 from HM5.out)
  have HI := Lib.hid (show ∀ k, k < 2 → ∃ (Al : Option Addr) (nl cl : Nat) (ls : List RouteM), nl ≤ 18 ∧ CapOk nl cl ∧ ∀ W, Lows w [blkL gs 23 [.slice A9 nn c9, .slice Ar mr cw], rtL Ar mr rr, blkL gp 26 x.cells, rtL A9 nn rs, blkL w.heap.size 26 xa.cells] W → W.cell? ⟨gs, k, none⟩ = some (.slice Al nl cl) ∧ RtRd W W.heap.size Al nl ls from fun k hk => by
    rcases (show k = 0 ∨ k = 1 by omega) with rfl | rfl
    · exact ⟨A9, nn, c9, rs, by omega, HCP.out, fun W h => ⟨(h.blk 0 rfl).cell 0, h.get (f := rtL A9 nn rs) 3 rfl⟩⟩
    · exact ⟨Ar, mr, cw, rr, HMR.out.2, ⟨Nat.le_trans HMR.out.1 HCW.out.1, HCW.out.2⟩, fun W h => ⟨(h.blk 0 rfl).cell 1, h.get (f := rtL Ar mr rr) 1 rfl⟩⟩)
  clear HM5 HRW
  go_loopw [33] (fun i wr => ∃ k : Nat, k ≤ 2 ∧ i = .int .i64 (k : Int) ∧ Lows w [blkL gs 23 [.slice A9 nn c9, .slice Ar mr cw], rtL Ar mr rr, blkL gp 26 x.cells, rtL A9 nn rs, blkL w.heap.size 26 xa.cells] wr) (fun i _ => 2 - (intOf i).toNat)
  case atStart => exact ⟨0, Nat.zero_le _, rfl, HM.out⟩
  case round =>
    clear HM
    obtain ⟨k, hk, rfl, hM⟩ := hrel
    have HM := Lib.hid hM
    clear hM
    by_cases hk2 : k < 2
    · have d1 : decide ((k : Int) < 2) = true := by simp; omega
      obtain ⟨Al, nl, cl, ls, hnl, hcl, hl⟩ := HI.out k hk2
      have HCL := Lib.hid hcl
      have hcell := (hl wr HM.out).1
      replace HM := Lib.hid (show Lows w [rtL Al nl ls, blkL gs 23 [.slice A9 nn c9, .slice Ar mr cw], rtL Ar mr rr, blkL gp 26 x.cells, rtL A9 nn rs, blkL w.heap.size 26 xa.cells] wr from HM.out.cons (rtL Al nl ls) (hl wr HM.out).2)
      clear hcl hl
      go_wp2_with fail
      clear hcell d1
      go_loopw [13] (fun i wr => ∃ q : Nat, q ≤ nl + 2 ∧ i = .int .i64 ((q : Int) - 2) ∧ Lows w [rtL Al nl ls, blkL gs 23 [.slice A9 nn c9, .slice Ar mr cw], rtL Ar mr rr, blkL gp 26 x.cells, rtL A9 nn rs, blkL w.heap.size 26 xa.cells] wr) (fun i _ => nl + 3 - (intOf i + 3).toNat)
      case atStart => exact ⟨0, by omega, by go_num, HM.out⟩
      case round =>
        clear HM
        obtain ⟨q, hq, rfl, hM⟩ := hrel
        have HM := Lib.hid hM
        clear hM
        rcases (show q = 0 ∨ q = 1 ∨ (2 ≤ q ∧ q < nl + 2) ∨ q = nl + 2 by omega) with rfl | rfl | ⟨hq2, hqn⟩ | rfl
        · have d1 : decide ((-2 : Int) < (nl : Int)) = true := by simp; omega
          rw [show ((0 : Nat) : Int) - 2 = -2 from by omega]
          have HZ := Lib.hid (Blk.new wr 26 addr0.cells)
          go_upto_region 10 with (first | (refine wpList_load_obj rfl 26 (.tmp 7) rfl w.heap.size 0 rfl xa.cells (HM.out.blk 5 rfl).all _ Try.underlying26 rfl (addr_cellsOf xa HOA.out) ?_; rw [HCA.out]) | (refine wpList_store_obj rfl 26 (.tmp 14) (.tmp 43) rfl wr.heap.size 0 xa.cells rfl (by show Value.agg ca = _; rw [HCA.out]) 26 addr0.cells HZ.out (addr_cellsOf xa HOA.out) (by rw [AddrM.cells_length HOA.out]; decide) (xa.one) ?_; intro w7 hb7 hg7))
          rw [setL_all _ _ (by rw [AddrM.cells_length HOA.out]; rfl)] at hb7
          have HBF := Lib.hid (below_fresh hg7)
          have HP7 := Lib.hid hb7
          obtain ⟨P1, hP1⟩ : ∃ z, wr.heap.size = z := ⟨_, rfl⟩
          have HPB := Lib.hid hP1
          rw [hP1] at HP7 ⊢
          clear hb7 hg7 HZ hP1 d1
          go_upto_region 14 with fail
          obtain ⟨Y, hY⟩ : ∃ z, xa = z := ⟨_, rfl⟩
          obtain ⟨cy, hcy⟩ : ∃ z, ca = z := ⟨_, rfl⟩
          have HOY := Lib.hid (show Y.ok from hY ▸ HOA.out)
          have HCY := Lib.hid (show Y.cells.toArray = cy from by rw [← hY, ← hcy]; exact HCA.out)
          have HM8 := Lib.hid (show Lows w [blkL P1 26 Y.cells, rtL Al nl ls, blkL gs 23 [.slice A9 nn c9, .slice Ar mr cw], rtL Ar mr rr, blkL gp 26 x.cells, rtL A9 nn rs, blkL w.heap.size 26 xa.cells] w7 from by rw [← hY]; exact (HM.out.below HBF.out).cons _ HP7.out)
          clear HM HP7 HBF HPB hY hcy
          have hlk := HLP.out Y HOY.out Al nl cl ls
          have hlr := HLR.out Y HOY.out Al nl cl ls
          have hkl : (lookM ls Y).1.length = 32 := lookM_len (HM8.out.get (f := rtL Al nl ls) 1 rfl).2 Y
          obtain ⟨kf, hkf⟩ : ∃ z, (lookM ls Y).1 = z := ⟨_, rfl⟩
          obtain ⟨yb, hyb⟩ : ∃ z, (lookM ls Y).2 = z := ⟨_, rfl⟩
          obtain ⟨kk, hkk⟩ : ∃ z, (kf.map u8v).toArray = z := ⟨_, rfl⟩
          rw [HCY.out, hkf, hyb, hkk] at hlk hlr
          rw [hkf] at hkl
          have HL1 := Lib.hid hlk
          have HL2 := Lib.hid hlr
          have HKL := Lib.hid hkl
          have HKK := Lib.hid hkk
          have HE := Lib.hid (key_eq kf kf hkl hkl)
          rw [hkk, decide_eq_true rfl] at HE
          clear hlk hlr hkf hyb hkk hkl
          go_wp2_with (refine wpList_load_obj rfl 26 (.tmp 14) rfl P1 0 rfl Y.cells (HM8.out.blk 0 rfl).all _ Try.underlying26 rfl (addr_cellsOf Y HOY.out) ?_; rw [HCY.out])
          refine (HL1.out _ ⟨by omega, HCL.out.1, HCL.out.2, HM8.out.get (f := rtL Al nl ls) 1 rfl⟩).mono ?_
          rintro e w9 ⟨rfl, hb⟩
          replace HM8 := Lib.hid (HM8.out.below hb)
          clear hb HL1
          have HZ := Lib.hid (Blk.new w9 30 (aeZ 32))
          go_upto_region 15 with (refine wpList_store_obj rfl 30 (.tmp 15) (.tmp 59) rfl w9.heap.size 0 (kf.map u8v) rfl (by show Value.agg kk = _; rw [HKK.out]) 30 (aeZ 32) HZ.out (key_cellsOf _ HKL.out) (by rw [List.length_map, HKL.out]; decide) (u8v_one _) ?_; intro w10 hb6 hg6)
          rw [setL_all _ _ (by rw [List.length_map, HKL.out]; rfl)] at hb6
          have HM9 := Lib.hid (HM8.out.stored hg6 hb6)
          clear hb6 hg6 HZ HM8
          generalize w9.heap.size = gk1 at HM9 ⊢
          go_wp2_with (refine wpList_load_obj rfl 26 (.tmp 14) rfl P1 0 rfl Y.cells (HM9.out.blk 1 rfl).all _ Try.underlying26 rfl (addr_cellsOf Y HOY.out) ?_; rw [HCY.out])
          refine (HL2.out _ ⟨by omega, HCL.out.1, HCL.out.2, HM9.out.get (f := rtL Al nl ls) 2 rfl⟩).mono ?_
          rintro e w11 ⟨rfl, hb⟩
          replace HM9 := Lib.hid (HM9.out.below hb)
          clear hb HL2
          have HZ := Lib.hid (Blk.new w11 30 (aeZ 32))
          go_upto_region 16 with (refine wpList_store_obj rfl 30 (.tmp 17) (.tmp 65) rfl w11.heap.size 0 (kf.map u8v) rfl (by show Value.agg kk = _; rw [HKK.out]) 30 (aeZ 32) HZ.out (key_cellsOf _ HKL.out) (by rw [List.length_map, HKL.out]; decide) (u8v_one _) ?_; intro w12 hb6 hg6)
          rw [setL_all _ _ (by rw [List.length_map, HKL.out]; rfl)] at hb6
          have HM10 := Lib.hid (HM9.out.stored hg6 hb6)
          clear hb6 hg6 HZ HM9
          generalize w11.heap.size = gk2 at HM10 ⊢
          have hbb : (yb != yb) = false := by cases yb <;> rfl
          go_wp2_with (first | (refine wpList_load_obj rfl 30 (.tmp 15) rfl gk1 0 rfl (kf.map u8v) (HM10.out.blk 1 rfl).all _ Try.underlying30 rfl (key_cellsOf _ HKL.out) ?_; rw [HKK.out]) | (refine wpList_load_obj rfl 30 (.tmp 17) rfl gk2 0 rfl (kf.map u8v) (HM10.out.blk 0 rfl).all _ Try.underlying30 rfl (key_cellsOf _ HKL.out) ?_; rw [HKK.out]) | (refine wpList_neq_agg (by rfl) 30 30 67 68 rfl kk kk true rfl rfl key_noguard (HE.out _) ?_))
          go_roundw
          case rel => exact ⟨0 + 1, by omega, by go_num, ((HM10.out.tail 0).tail 0).tail 0⟩
          case measure => simp [intOf] <;> omega
        · have d1 : decide ((-1 : Int) < (nl : Int)) = true := by simp; omega
          rw [show ((1 : Nat) : Int) - 2 = -1 from by omega]
          have HZ := Lib.hid (Blk.new wr 26 addr0.cells)
          go_upto_region 10 with (first | (refine wpList_load_obj rfl 26 (.tmp 7) rfl w.heap.size 0 rfl xa.cells (HM.out.blk 5 rfl).all _ Try.underlying26 rfl (addr_cellsOf xa HOA.out) ?_; rw [HCA.out]) | (refine wpList_store_obj rfl 26 (.tmp 14) (.tmp 43) rfl wr.heap.size 0 xa.cells rfl (by show Value.agg ca = _; rw [HCA.out]) 26 addr0.cells HZ.out (addr_cellsOf xa HOA.out) (by rw [AddrM.cells_length HOA.out]; decide) (xa.one) ?_; intro w7 hb7 hg7))
          rw [setL_all _ _ (by rw [AddrM.cells_length HOA.out]; rfl)] at hb7
          have HBF := Lib.hid (below_fresh hg7)
          have HP7 := Lib.hid hb7
          obtain ⟨P1, hP1⟩ : ∃ z, wr.heap.size = z := ⟨_, rfl⟩
          have HPB := Lib.hid hP1
          rw [hP1] at HP7 ⊢
          clear hb7 hg7 HZ hP1 d1
          go_upto_region 14 with (first | (refine wpList_load_obj rfl 26 (.tmp 10) rfl gp _ rfl x.cells ((HM.out.below HBF.out).blk 3 rfl |>.all) _ Try.underlying26 rfl (addr_cellsOf x HOX.out) ?_; rw [HCX.out]) | (refine wpList_store_obj rfl 26 (.tmp 14) (.tmp 46) rfl P1 0 x.cells rfl (by show Value.agg cx = _; rw [HCX.out]) 26 xa.cells HP7.out (addr_cellsOf x HOX.out) (by rw [AddrM.cells_length HOX.out, AddrM.cells_length HOA.out]; omega) (x.one) ?_; intro w8 hb8 hg8))
          rw [setL_all _ _ (by rw [AddrM.cells_length HOX.out, AddrM.cells_length HOA.out])] at hb8
          have HM8 := Lib.hid (show Lows w [blkL P1 26 x.cells, rtL Al nl ls, blkL gs 23 [.slice A9 nn c9, .slice Ar mr cw], rtL Ar mr rr, blkL gp 26 x.cells, rtL A9 nn rs, blkL w.heap.size 26 xa.cells] w8 from (HM.out.below (HBF.out.grown hg8 (Nat.le_of_lt (by rw [HPB.out]; exact HP7.out.lt)) (fun k hk => by injection hk with hk; rw [HPB.out]; omega))).cons (blkL P1 26 x.cells) hb8)
          clear hb8 hg8 HM HP7 HBF HPB
          generalize w8 = w7 at HM8 ⊢
          have hlk := HLP.out x HOX.out Al nl cl ls
          have hlr := HLR.out x HOX.out Al nl cl ls
          have hkl : (lookM ls x).1.length = 32 := lookM_len (HM8.out.get (f := rtL Al nl ls) 1 rfl).2 x
          obtain ⟨kf, hkf⟩ : ∃ z, (lookM ls x).1 = z := ⟨_, rfl⟩
          obtain ⟨yb, hyb⟩ : ∃ z, (lookM ls x).2 = z := ⟨_, rfl⟩
          obtain ⟨kk, hkk⟩ : ∃ z, (kf.map u8v).toArray = z := ⟨_, rfl⟩
          rw [HCX.out, hkf, hyb, hkk] at hlk hlr
          rw [hkf] at hkl
          have HL1 := Lib.hid hlk
          have HL2 := Lib.hid hlr
          have HKL := Lib.hid hkl
          have HKK := Lib.hid hkk
          have HE := Lib.hid (key_eq kf kf hkl hkl)
          rw [hkk, decide_eq_true rfl] at HE
          clear hlk hlr hkf hyb hkk hkl
          go_wp2_with (refine wpList_load_obj rfl 26 (.tmp 14) rfl P1 0 rfl x.cells (HM8.out.blk 0 rfl).all _ Try.underlying26 rfl (addr_cellsOf x HOX.out) ?_; rw [HCX.out])
          refine (HL1.out _ ⟨by omega, HCL.out.1, HCL.out.2, HM8.out.get (f := rtL Al nl ls) 1 rfl⟩).mono ?_
          rintro e w9 ⟨rfl, hb⟩
          replace HM8 := Lib.hid (HM8.out.below hb)
          clear hb HL1
          have HZ := Lib.hid (Blk.new w9 30 (aeZ 32))
          go_upto_region 15 with (refine wpList_store_obj rfl 30 (.tmp 15) (.tmp 59) rfl w9.heap.size 0 (kf.map u8v) rfl (by show Value.agg kk = _; rw [HKK.out]) 30 (aeZ 32) HZ.out (key_cellsOf _ HKL.out) (by rw [List.length_map, HKL.out]; decide) (u8v_one _) ?_; intro w10 hb6 hg6)
          rw [setL_all _ _ (by rw [List.length_map, HKL.out]; rfl)] at hb6
          have HM9 := Lib.hid (HM8.out.stored hg6 hb6)
          clear hb6 hg6 HZ HM8
          generalize w9.heap.size = gk1 at HM9 ⊢
          go_wp2_with (refine wpList_load_obj rfl 26 (.tmp 14) rfl P1 0 rfl x.cells (HM9.out.blk 1 rfl).all _ Try.underlying26 rfl (addr_cellsOf x HOX.out) ?_; rw [HCX.out])
          refine (HL2.out _ ⟨by omega, HCL.out.1, HCL.out.2, HM9.out.get (f := rtL Al nl ls) 2 rfl⟩).mono ?_
          rintro e w11 ⟨rfl, hb⟩
          replace HM9 := Lib.hid (HM9.out.below hb)
          clear hb HL2
          have HZ := Lib.hid (Blk.new w11 30 (aeZ 32))
          go_upto_region 16 with (refine wpList_store_obj rfl 30 (.tmp 17) (.tmp 65) rfl w11.heap.size 0 (kf.map u8v) rfl (by show Value.agg kk = _; rw [HKK.out]) 30 (aeZ 32) HZ.out (key_cellsOf _ HKL.out) (by rw [List.length_map, HKL.out]; decide) (u8v_one _) ?_; intro w12 hb6 hg6)
          rw [setL_all _ _ (by rw [List.length_map, HKL.out]; rfl)] at hb6
          have HM10 := Lib.hid (HM9.out.stored hg6 hb6)
          clear hb6 hg6 HZ HM9
          generalize w11.heap.size = gk2 at HM10 ⊢
          have hbb : (yb != yb) = false := by cases yb <;> rfl
          go_wp2_with (first | (refine wpList_load_obj rfl 30 (.tmp 15) rfl gk1 0 rfl (kf.map u8v) (HM10.out.blk 1 rfl).all _ Try.underlying30 rfl (key_cellsOf _ HKL.out) ?_; rw [HKK.out]) | (refine wpList_load_obj rfl 30 (.tmp 17) rfl gk2 0 rfl (kf.map u8v) (HM10.out.blk 0 rfl).all _ Try.underlying30 rfl (key_cellsOf _ HKL.out) ?_; rw [HKK.out]) | (refine wpList_neq_agg (by rfl) 30 30 67 68 rfl kk kk true rfl rfl key_noguard (HE.out _) ?_))
          go_roundw
          case rel => exact ⟨1 + 1, by omega, by go_num, ((HM10.out.tail 0).tail 0).tail 0⟩
          case measure => simp [intOf] <;> omega
        · obtain ⟨i, rfl⟩ : ∃ i, q = i + 2 := ⟨q - 2, by omega⟩
          have hjn : i < nl := by omega
          have d1 : decide ((i : Int) < (nl : Int)) = true := by simp; omega
          have d2 : ((i : Int) == -1) = false := by rw [beq_eq_false_iff_ne]; omega
          have d3 : decide ((i : Int) ≥ 0) = true := by simp
          rw [show ((i + 2 : Nat) : Int) - 2 = (i : Int) from by omega]
          obtain ⟨b, off, rfl⟩ := (HM.out.get (f := rtL Al nl ls) 0 rfl).1.addr (by omega)
          obtain ⟨r, hr⟩ : ∃ r, ls[i]? = some r := ⟨ls[i]'(by rw [(HM.out.get (f := rtL (some ⟨b, off, none⟩) nl ls) 0 rfl).len]; exact hjn), List.getElem?_eq_getElem _⟩
          have HOK := Lib.hid ((HM.out.get (f := rtL (some ⟨b, off, none⟩) nl ls) 0 rfl).ok hr)
          obtain ⟨cy, hcy⟩ : ∃ z, r.a.cells.toArray = z := ⟨_, rfl⟩
          have HCY := Lib.hid hcy
          have HJR := Lib.hid hr
          clear hcy hr
          have HZ := Lib.hid (Blk.new wr 26 addr0.cells)
          go_upto_region 10 with (first | (refine wpList_load_obj rfl 26 (.tmp 7) rfl w.heap.size 0 rfl xa.cells (HM.out.blk 5 rfl).all _ Try.underlying26 rfl (addr_cellsOf xa HOA.out) ?_; rw [HCA.out]) | (refine wpList_store_obj rfl 26 (.tmp 14) (.tmp 43) rfl wr.heap.size 0 xa.cells rfl (by show Value.agg ca = _; rw [HCA.out]) 26 addr0.cells HZ.out (addr_cellsOf xa HOA.out) (by rw [AddrM.cells_length HOA.out]; decide) (xa.one) ?_; intro w7 hb7 hg7))
          rw [setL_all _ _ (by rw [AddrM.cells_length HOA.out]; rfl)] at hb7
          have HBF := Lib.hid (below_fresh hg7)
          have HP7 := Lib.hid hb7
          obtain ⟨P1, hP1⟩ : ∃ z, wr.heap.size = z := ⟨_, rfl⟩
          have HPB := Lib.hid hP1
          rw [hP1] at HP7 ⊢
          clear hb7 hg7 HZ hP1 d1
          have HLA := Lib.hid (prefA_at (route_pref ((HM.out.below HBF.out).get (f := rtL (some ⟨b, off, none⟩) nl ls) 0 rfl |>.at i r HJR.out).2))
          go_upto_region 14 with (first | (refine wpList_load_obj rfl 26 (.tmp 53) rfl b _ rfl r.a.cells (HLA.out) _ Try.underlying26 rfl (addr_cellsOf r.a HOK.out.1) ?_; rw [HCY.out]) | (refine wpList_store_obj rfl 26 (.tmp 14) (.tmp 54) rfl P1 0 r.a.cells rfl (by show Value.agg cy = _; rw [HCY.out]) 26 xa.cells HP7.out (addr_cellsOf r.a HOK.out.1) (by rw [AddrM.cells_length HOK.out.1, AddrM.cells_length HOA.out]; omega) (r.a.one) ?_; intro w8 hb8 hg8))
          rw [setL_all _ _ (by rw [AddrM.cells_length HOK.out.1, AddrM.cells_length HOA.out])] at hb8
          have HM8 := Lib.hid (show Lows w [blkL P1 26 r.a.cells, rtL (some ⟨b, off, none⟩) nl ls, blkL gs 23 [.slice A9 nn c9, .slice Ar mr cw], rtL Ar mr rr, blkL gp 26 x.cells, rtL A9 nn rs, blkL w.heap.size 26 xa.cells] w8 from (HM.out.below (HBF.out.grown hg8 (Nat.le_of_lt (by rw [HPB.out]; exact HP7.out.lt)) (fun k hk => by injection hk with hk; rw [HPB.out]; omega))).cons (blkL P1 26 r.a.cells) hb8)
          clear hb8 hg8 HM HP7 HBF HPB
          have HOY := Lib.hid HOK.out.1
          clear HLA d2 d3
          have hlk := HLP.out r.a HOY.out (some ⟨b, off, none⟩) nl cl ls
          have hlr := HLR.out r.a HOY.out (some ⟨b, off, none⟩) nl cl ls
          have hkl : (lookM ls r.a).1.length = 32 := lookM_len (HM8.out.get (f := rtL (some ⟨b, off, none⟩) nl ls) 1 rfl).2 r.a
          obtain ⟨kf, hkf⟩ : ∃ z, (lookM ls r.a).1 = z := ⟨_, rfl⟩
          obtain ⟨yb, hyb⟩ : ∃ z, (lookM ls r.a).2 = z := ⟨_, rfl⟩
          obtain ⟨kk, hkk⟩ : ∃ z, (kf.map u8v).toArray = z := ⟨_, rfl⟩
          rw [HCY.out, hkf, hyb, hkk] at hlk hlr
          rw [hkf] at hkl
          have HL1 := Lib.hid hlk
          have HL2 := Lib.hid hlr
          have HKL := Lib.hid hkl
          have HKK := Lib.hid hkk
          have HE := Lib.hid (key_eq kf kf hkl hkl)
          rw [hkk, decide_eq_true rfl] at HE
          clear hlk hlr hkf hyb hkk hkl
          go_wp2_with (refine wpList_load_obj rfl 26 (.tmp 14) rfl P1 0 rfl r.a.cells (HM8.out.blk 0 rfl).all _ Try.underlying26 rfl (addr_cellsOf r.a HOY.out) ?_; rw [HCY.out])
          refine (HL1.out _ ⟨by omega, HCL.out.1, HCL.out.2, HM8.out.get (f := rtL (some ⟨b, off, none⟩) nl ls) 1 rfl⟩).mono ?_
          rintro e w9 ⟨rfl, hb⟩
          replace HM8 := Lib.hid (HM8.out.below hb)
          clear hb HL1
          have HZ := Lib.hid (Blk.new w9 30 (aeZ 32))
          go_upto_region 15 with (refine wpList_store_obj rfl 30 (.tmp 15) (.tmp 59) rfl w9.heap.size 0 (kf.map u8v) rfl (by show Value.agg kk = _; rw [HKK.out]) 30 (aeZ 32) HZ.out (key_cellsOf _ HKL.out) (by rw [List.length_map, HKL.out]; decide) (u8v_one _) ?_; intro w10 hb6 hg6)
          rw [setL_all _ _ (by rw [List.length_map, HKL.out]; rfl)] at hb6
          have HM9 := Lib.hid (HM8.out.stored hg6 hb6)
          clear hb6 hg6 HZ HM8
          generalize w9.heap.size = gk1 at HM9 ⊢
          go_wp2_with (refine wpList_load_obj rfl 26 (.tmp 14) rfl P1 0 rfl r.a.cells (HM9.out.blk 1 rfl).all _ Try.underlying26 rfl (addr_cellsOf r.a HOY.out) ?_; rw [HCY.out])
          refine (HL2.out _ ⟨by omega, HCL.out.1, HCL.out.2, HM9.out.get (f := rtL (some ⟨b, off, none⟩) nl ls) 2 rfl⟩).mono ?_
          rintro e w11 ⟨rfl, hb⟩
          replace HM9 := Lib.hid (HM9.out.below hb)
          clear hb HL2
          have HZ := Lib.hid (Blk.new w11 30 (aeZ 32))
          go_upto_region 16 with (refine wpList_store_obj rfl 30 (.tmp 17) (.tmp 65) rfl w11.heap.size 0 (kf.map u8v) rfl (by show Value.agg kk = _; rw [HKK.out]) 30 (aeZ 32) HZ.out (key_cellsOf _ HKL.out) (by rw [List.length_map, HKL.out]; decide) (u8v_one _) ?_; intro w12 hb6 hg6)
          rw [setL_all _ _ (by rw [List.length_map, HKL.out]; rfl)] at hb6
          have HM10 := Lib.hid (HM9.out.stored hg6 hb6)
          clear hb6 hg6 HZ HM9
          generalize w11.heap.size = gk2 at HM10 ⊢
          have hbb : (yb != yb) = false := by cases yb <;> rfl
          go_wp2_with (first | (refine wpList_load_obj rfl 30 (.tmp 15) rfl gk1 0 rfl (kf.map u8v) (HM10.out.blk 1 rfl).all _ Try.underlying30 rfl (key_cellsOf _ HKL.out) ?_; rw [HKK.out]) | (refine wpList_load_obj rfl 30 (.tmp 17) rfl gk2 0 rfl (kf.map u8v) (HM10.out.blk 0 rfl).all _ Try.underlying30 rfl (key_cellsOf _ HKL.out) ?_; rw [HKK.out]) | (refine wpList_neq_agg (by rfl) 30 30 67 68 rfl kk kk true rfl rfl key_noguard (HE.out _) ?_))
          go_roundw
          case rel => exact ⟨i + 2 + 1, by omega, by go_num, ((HM10.out.tail 0).tail 0).tail 0⟩
          case measure => simp [intOf] <;> omega
        · have d1 : decide ((nl : Int) < (nl : Int)) = false := by simp
          rw [show ((nl + 2 : Nat) : Int) - 2 = (nl : Int) from by omega]
          have HF := Lib.hid (HM.out.tail 0)
          clear HM
          go_wp2_with fail
          go_roundw
          case rel => exact ⟨k + 1, by omega, by go_num, HF.out⟩
          case measure => simp [intOf]; omega
    · obtain rfl : k = 2 := by omega
      go_wp2_with fail
      refine (HBG.out _).mono ?_
      rintro e w15 ⟨rfl, hb⟩
      have HF := Lib.hid (HM.out.below hb).bel
      clear hb HM
      go_wp2_with fail
      go_ret
      exact ⟨rfl, HF.out⟩
end Go.Proofs.Ytnblofbbbkjhpaa
namespace Go.Proofs.Ytnblofbbbkjhpaa
open Go.RowKit

/-- a byte without the bits behind the first m -/
def cutByte (x : UInt8) (m : Nat) : UInt8 := x &&& ~~~(UInt8.ofNat (255 / 2 ^ m))
theorem cut_all : ∀ m : Fin 8, ∀ n : Fin 256, bits BinOp.andNot IntKind.u8 (n.val : Int) ((255 / 2 ^ m.val : Nat) : Int) = ((cutByte (UInt8.ofNat n.val) m.val).toNat : Int) := by decide +kernel
theorem cut_bits (x : UInt8) (m : Nat) (h : m < 8) : bits BinOp.andNot IntKind.u8 (x.toNat : Int) (255 / 2 ^ m) = ((cutByte x m).toNat : Int) := by
  have h1 := cut_all ⟨m, h⟩ ⟨x.toNat, x.toNat_lt⟩
  simp only [UInt8.ofNat_toNat] at h1
  rw [← h1, Int.natCast_ediv, Int.natCast_pow]
  rfl
theorem bit_cut_all : ∀ m : Fin 8, ∀ k : Fin 8, ∀ x : Fin 256, (cutByte (UInt8.ofNat x.val) m.val).toNat / 2 ^ (7 - k.val) % 2 = if k.val < m.val then x.val / 2 ^ (7 - k.val) % 2 else 0 := by decide +kernel
theorem bit_cut (x : UInt8) (m k : Nat) (hm : m < 8) (hk : k < 8) : (cutByte x m).toNat / 2 ^ (7 - k) % 2 = if k < m then x.toNat / 2 ^ (7 - k) % 2 else 0 := by
  have h := bit_cut_all ⟨m, hm⟩ ⟨k, hk⟩ ⟨x.toNat, x.toNat_lt⟩
  simp only [UInt8.ofNat_toNat] at h
  exact h
/-- an address without the bits behind the first k -/
def firstM (a : AddrM) (k : Nat) : AddrM := if k / 8 < 16 then ⟨a.six, (a.ip.set (k / 8) (cutByte (a.ip.getD (k / 8) 0) (k % 8))).take (k / 8 + 1) ++ List.replicate (15 - k / 8) 0⟩ else a
theorem firstM_ok (a : AddrM) (h : a.ok) (k : Nat) : (firstM a k).ok := by
  unfold firstM
  split
  · simp only [AddrM.ok, List.length_append, List.length_take, List.length_set, List.length_replicate]
    have : a.ip.length = 16 := h
    omega
  · exact h
theorem firstM_six (a : AddrM) (k : Nat) : (firstM a k).six = a.six := by unfold firstM; split <;> rfl
theorem firstM_bit (a : AddrM) (h : a.ok) (k i : Nat) (hi : i < 128) : bitM (firstM a k).ip i = if i < k then bitM a.ip i else 0 := by
  have hl : a.ip.length = 16 := h
  unfold firstM
  by_cases hk : k / 8 < 16
  · rw [if_pos hk]
    unfold bitM
    dsimp only
    rw [List.getD_eq_getElem?_getD, List.getElem?_append, List.length_take, List.length_set, List.getElem?_take]
    by_cases h1 : i / 8 < k / 8
    · rw [if_pos (by omega), if_pos (by omega), List.getElem?_set_ne (by omega), if_pos (by omega), ← List.getD_eq_getElem?_getD]
    · by_cases h2 : i / 8 = k / 8
      · rw [if_pos (by omega), if_pos (by omega), h2, List.getElem?_set_self (by omega), Option.getD_some, bit_cut _ _ _ (by omega) (by omega)]
        by_cases h3 : i % 8 < k % 8
        · rw [if_pos h3, if_pos (by omega)]
        · rw [if_neg h3, if_neg (by omega)]
      · rw [if_neg (by omega), if_neg (by omega), List.getElem?_replicate]
        split <;> simp
  · rw [if_neg hk, if_pos (by omega)]
/-- bytes whose bits are the same are the same -/
theorem byte_sum : ∀ x : Fin 256, x.val = 128 * (x.val / 2 ^ (7 - 0) % 2) + 64 * (x.val / 2 ^ (7 - 1) % 2) + 32 * (x.val / 2 ^ (7 - 2) % 2) + 16 * (x.val / 2 ^ (7 - 3) % 2) + 8 * (x.val / 2 ^ (7 - 4) % 2) + 4 * (x.val / 2 ^ (7 - 5) % 2) + 2 * (x.val / 2 ^ (7 - 6) % 2) + x.val / 2 ^ (7 - 7) % 2 := by decide +kernel
theorem byte_bits (x y : UInt8) (h : ∀ k, k < 8 → x.toNat / 2 ^ (7 - k) % 2 = y.toNat / 2 ^ (7 - k) % 2) : x = y := by
  have hx := byte_sum ⟨x.toNat, x.toNat_lt⟩
  have hy := byte_sum ⟨y.toNat, y.toNat_lt⟩
  simp only [] at hx hy
  rw [h 0 (by omega), h 1 (by omega), h 2 (by omega), h 3 (by omega), h 4 (by omega), h 5 (by omega), h 6 (by omega), h 7 (by omega), ← hy] at hx
  exact UInt8.toNat.inj hx
theorem ip_bits (l m : List UInt8) (hl : l.length = 16) (hm : m.length = 16) (h : ∀ i, i < 128 → bitM l i = bitM m i) : l = m := by
  apply List.ext_getElem (by omega)
  intro j h1 h2
  refine byte_bits _ _ (fun k hk => ?_)
  have := h (8 * j + k) (by omega)
  unfold bitM at this
  rw [show (8 * j + k) / 8 = j by omega, show (8 * j + k) % 8 = k by omega, List.getD_eq_getElem?_getD, List.getElem?_eq_getElem h1, List.getD_eq_getElem?_getD, List.getElem?_eq_getElem h2] at this
  exact this
theorem AddrM.ext_bits (a b : AddrM) (ha : a.ok) (hb : b.ok) (h6 : a.six = b.six) (h : ∀ i, i < 128 → bitM a.ip i = bitM b.ip i) : a = b := by
  have hi := ip_bits _ _ ha hb h
  cases a; cases b
  simp_all
theorem firstM_eq (a b : AddrM) (ha : a.ok) (hb : b.ok) (k : Nat) : firstM a k = b ↔ a.six = b.six ∧ ∀ i, i < 128 → (if i < k then bitM a.ip i else 0) = bitM b.ip i := by
  constructor
  · rintro rfl
    exact ⟨(firstM_six a k).symm, fun i hi => (firstM_bit a ha k i hi).symm⟩
  · rintro ⟨h6, h⟩
    exact AddrM.ext_bits _ _ (firstM_ok a ha k) hb ((firstM_six a k).trans h6) (fun i hi => (firstM_bit a ha k i hi).trans (h i hi))
theorem cells_inj (a b : AddrM) (h : a.cells = b.cells) : a = b := by
  cases a; cases b
  simp only [AddrM.cells, List.cons.injEq] at h
  obtain ⟨h1, h2⟩ := h
  injection h1 with h1
  subst h1
  congr 1
  refine List.map_inj_right ?_ |>.1 h2
  intro x y hxy
  have : ((x.toNat : Nat) : Int) = (y.toNat : Int) := by simpa [u8v] using hxy
  exact UInt8.toNat.inj (by omega)
/-- the bytes of IPv4 behind the fourth are zero exactly if the bits behind the 32nd are -/
theorem sound_first (a : AddrM) (h : a.ok) : soundM a = decide (firstM a (widthM a) = a) := by
  rw [Bool.eq_iff_iff, decide_eq_true_iff, firstM_eq a a h h]
  cases h6 : a.six with
  | true =>
    rw [soundM, h6, widthM, h6]
    simp only [Bool.true_or, true_and, true_iff, if_true]
    intro i hi
    rw [if_pos hi]
  | false =>
    rw [soundM_four a h h6, widthM, h6]
    simp only [true_and]
    constructor
    · intro hz i hi
      by_cases hlt : i < 32
      · rw [if_pos (by simpa using hlt)]
      · rw [if_neg (by simpa using hlt)]
        have := hz (i / 8 - 4) (by omega)
        rw [show 4 + (i / 8 - 4) = i / 8 by omega] at this
        rw [bitM, this]
        simp
    · intro hz j hj
      refine byte_bits _ _ (fun k hk => ?_)
      have := hz (8 * (4 + j) + k) (by omega)
      rw [if_neg (by simp; omega)] at this
      unfold bitM at this
      rw [show (8 * (4 + j) + k) / 8 = 4 + j by omega, show (8 * (4 + j) + k) % 8 = k by omega] at this
      rw [← this]
      simp
theorem valid_first (a : AddrM) (h : a.ok) (bits : Int) : validM a bits = (decide (0 ≤ bits) && (decide (bits ≤ (widthM a : Int)) && decide (firstM a bits.toNat = a))) := by
  by_cases h0 : 0 ≤ bits
  · by_cases h1 : bits ≤ (widthM a : Int)
    · rw [decide_eq_true h0, decide_eq_true h1, Bool.true_and, Bool.true_and, Bool.eq_iff_iff, decide_eq_true_iff, firstM_eq a a h h]
      constructor
      · intro hv
        have hs : soundM a = true := by rw [validM] at hv; exact (Bool.and_eq_true _ _ ▸ hv).1
        rw [validM_iff a bits hs h0 h1] at hv
        refine ⟨rfl, fun i hi => ?_⟩
        by_cases hlt : i < bits.toNat
        · rw [if_pos hlt]
        · rw [if_neg hlt, hv i (by omega) hi]
      · rintro ⟨_, hv⟩
        have hs : soundM a = true := by
          rw [sound_first a h, decide_eq_true_iff, firstM_eq a a h h]
          refine ⟨rfl, fun i hi => ?_⟩
          by_cases hlt : i < widthM a
          · rw [if_pos hlt]
          · have := hv i hi
            rw [if_neg (by omega)] at this
            rw [if_neg hlt, this]
        rw [validM_iff a bits hs h0 h1]
        intro i hb hi
        have := hv i hi
        rw [if_neg (by omega)] at this
        exact this.symm
    · rw [decide_eq_true h0, decide_eq_false h1, validM, decide_eq_true h0, decide_eq_false h1]
      simp
  · rw [decide_eq_false h0, validM, decide_eq_false h0]
    simp
theorem contains_first (a x : AddrM) (h : a.ok) (hx : x.ok) (bits : Int) : containsM a bits x = (validM a bits && (soundM x && decide (firstM x bits.toNat = a))) := by
  by_cases hv : validM a bits = true
  · by_cases hs : soundM x = true
    · rw [hv, hs, Bool.true_and, Bool.true_and]
      have hv2 := hv
      rw [valid_first a h, Bool.and_eq_true, Bool.and_eq_true, decide_eq_true_iff, decide_eq_true_iff, decide_eq_true_iff, firstM_eq a a h h] at hv2
      obtain ⟨h0, h1, _, h2⟩ := hv2
      by_cases h6 : x.six = a.six
      · rw [Bool.eq_iff_iff, containsM_iff a x bits hv hs (by rw [h6]; simp), decide_eq_true_iff, firstM_eq x a hx h]
        constructor
        · intro hc
          refine ⟨h6, fun i hi => ?_⟩
          by_cases hlt : i < bits.toNat
          · rw [if_pos hlt, hc i (by omega) hi]
          · have := h2 i hi
            rw [if_neg hlt] at this
            rw [if_neg hlt, this]
        · rintro ⟨_, hc⟩ i hb hi
          have := hc i hi
          rw [if_pos (by omega)] at this
          exact this
      · rw [containsM, hv, hs, show (x.six == a.six) = false by simpa using h6]
        simp only [Bool.true_and, Bool.false_and]
        refine (decide_eq_false fun e => h6 ?_).symm
        rw [← e, firstM_six]
    · rw [Bool.not_eq_true] at hs
      rw [hs, containsM, hs]
      simp
  · rw [Bool.not_eq_true] at hv
    rw [hv, containsM, hv]
    simp
end Go.Proofs.Ytnblofbbbkjhpaa
namespace Go.Proofs.Ytnblofbbbkjhpaa
open Go.RowKit

theorem run_clear_blk {P : Program} (w : World) (t e ty : TypeId) (ht : P.underlying t = some (.slice e)) (hv : ∀ w, (zeroValue e).run P w = .ok (.int .u8 0) w) (g off n c : Nat) (bt : TypeId) (old : List Value) (hg : Blk w g bt old) (hfit : off + n ≤ old.length) :
    ∃ w', (Builtin.clear_ #[t] ty #[.slice (some ⟨g, off, none⟩) n c]).run P w = .ok (.tuple #[]) w' ∧ Blk w' g bt (old.take off ++ List.replicate n (.int .u8 0) ++ old.drop (off + n)) ∧ w.grownBy w' (some g) := by
  cases n with
  | zero =>
    refine ⟨w, ?_, ?_, ⟨rfl, rfl, rfl, Nat.le_refl _, fun _ _ _ => rfl⟩⟩
    · simp [Builtin.clear_, run_underlying ht]
    · simp only [List.replicate_zero, List.append_nil, Nat.add_zero, List.take_append_drop]; exact hg
  | succ m =>
    have hst := run_storeCells_at P g off bt (List.replicate (m + 1) (Value.int .u8 0)) 0 old.toArray w hg (by simpa using hfit) (by intro v hv; rw [List.eq_of_mem_replicate hv]; rfl)
    rw [Nat.add_zero] at hst
    refine ⟨w.setRow g (old.toArray.toList.take off ++ List.replicate (m + 1) (Value.int .u8 0) ++ old.toArray.toList.drop (off + (List.replicate (m + 1) (Value.int .u8 0)).length)).toArray, ?_, ?_, ⟨rfl, rfl, rfl, by simp, fun k _ hk => setRow_other w g k _ (fun e => hk (by simp [e]))⟩⟩
    · have hz : (Builtin.zeroCells (Value.int .u8 0).cells (m + 1)).toList = List.replicate (m + 1) (.int .u8 0) := by
        apply List.ext_getElem
        · simp [Builtin.zeroCells, Value.cells]
        · intro i h1 h2; simp [Builtin.zeroCells, Value.cells, Nat.mod_one]
      simp only [Builtin.clear_, List.getElem?_toArray, List.getElem?_cons_zero, Sem.run_bind, run_underlying ht, Result.andThen_ok, hv, hz]
      rw [hst]
      rfl
    · have := setRow_heap w g old.toArray (old.toArray.toList.take off ++ List.replicate (m + 1) (Value.int .u8 0) ++ old.toArray.toList.drop (off + (List.replicate (m + 1) (Value.int .u8 0)).length)).toArray bt _ hg
      unfold Blk
      simpa using this
theorem wpList_clear_blk {P : Program} (w : World) {ops : Array Oper} {rest : List Oper} {o : Oper} {a : Act} {Q : Exit → Act → World → Prop} (hgd : o.guard = none) (d : Operand) (t e : TypeId)
    (ho : o.op = .call { callee := .builtin .clear, args := #[d], argTypes := #[t] }) (ht : P.underlying t = some (.slice e)) (hv : ∀ w, (zeroValue e).run P w = .ok (.int .u8 0) w)
    (g off n c : Nat) (hd : a.eval d = .slice (some ⟨g, off, none⟩) n c) (bt : TypeId) (old : List Value) (hg : Blk w g bt old) (hfit : off + n ≤ old.length)
    (h : ∀ w', Blk w' g bt (old.take off ++ List.replicate n (.int .u8 0) ++ old.drop (off + n)) → w.grownBy w' (some g) → wpList P ops Q rest (a.put o.dst (.tuple #[])) w') : wpList P ops Q (o :: rest) a w := by
  refine wpList_plain hgd fun K hK => ?_
  obtain ⟨w', hrun, h2, h3⟩ := run_clear_blk (P := P) w t e o.type ht hv g off n c bt old hg hfit
  unfold Oper.wp execOp
  simp only [ho, resolve, invoke, builtin, Sem.run_bind, Sem.run_pure, Result.andThen_ok, List.map_toArray, List.map_cons, List.map_nil, hd, hrun]
  exact hK _ _ (h w' h2 h3)

set_option maxRecDepth 100000 in
theorem size_any (a : AddrM) (w : World) :
    Calls Try.prog 50 #[.agg a.cells.toArray] w fun e w' => e = .returned (.int .i64 (widthM a : Int)) ∧ Below w.heap.size w w' := by
  obtain ⟨ca, hca⟩ : ∃ c, a.cells.toArray = c := ⟨_, rfl⟩
  rw [hca]
  have HM := Lib.hid (show Mem w [blkE w.heap.size 26 a.cells] (w.alloc (.cells ca 26)) from (Mem.nil w).alloc rfl 26 ca a.cells hca.symm)
  obtain ⟨sx, hsx⟩ : ∃ q, a.six = q := ⟨_, rfl⟩
  have HW := Lib.hid (show widthM a = if sx then 128 else 32 by rw [widthM, hsx])
  clear hca
  go_enter Try.func50, Try.ntmps50
  go_upto_region 1 with fail
  generalize w.alloc (.cells ca 26) = w1 at HM ⊢
  have f6 := ((HM.out.blk 0 rfl).cell 0).trans (AddrM.six_cell a)
  rw [hsx] at f6
  cases sx with
  | true =>
    go_wp2
    go_ret
    exact ⟨by rw [HW.out]; rfl, HM.out.bel⟩
  | false =>
    go_wp2
    go_ret
    exact ⟨by rw [HW.out]; rfl, HM.out.bel⟩
theorem firstM_cells (a : AddrM) (h : a.ok) (q m : Nat) (hq : q < 16) (k : Nat) (hk : k / 8 = q) (hm : k % 8 = m) (y : UInt8) (hy : cutByte (a.ip.getD q 0) m = y) :
    (AddrM.mk a.six (a.ip.set q y)).cells.take (1 + (q + 1)) ++ List.replicate (16 - (q + 1)) (.int .u8 0) ++ (AddrM.mk a.six (a.ip.set q y)).cells.drop (1 + (q + 1) + (16 - (q + 1))) = (firstM a k).cells := by
  have hl : a.ip.length = 16 := h
  rw [firstM, hk, hm, if_pos hq, hy]
  simp only [AddrM.cells]
  rw [List.drop_of_length_le (by rw [List.length_cons, List.length_map, List.length_set]; omega), List.append_nil, Nat.add_comm, List.take_succ_cons, List.map_append, List.map_take, List.map_replicate, show 16 - (q + 1) = 15 - q by omega]
  rfl
set_option maxRecDepth 100000 in
theorem u8_zero (w : World) : (zeroValue 5).run Try.prog w = .ok (.int .u8 0) w := by
  obtain ⟨i0, hi, hz0, hz1, hz2⟩ := info_parts Try.info5
  simp [zeroValue, typeInfo, hi, hz0]
set_option maxRecDepth 100000 in
theorem array_from (g q : Nat) (hq : q < 16) (off : Nat) (hoff : (if 16 - (q + 1) = 0 then 1 else 1 + (q + 1)) = off) (w : World) :
    (Instr.sliceAt 24 (.pointer (some ⟨g, 1, none⟩)) (some (.int .i64 ((q : Int) + 1))) none none).run Try.prog w = .ok (.slice (some ⟨g, off, none⟩) (16 - (q + 1)) (16 - (q + 1))) w := by
  have hs : (sizeOf 5).run Try.prog w = .ok 1 w := by
    obtain ⟨i0, hi, hz0, hz1, hz2⟩ := info_parts Try.info5
    simp [sizeOf, typeInfo, hi, hz1]
  have hl : Try.prog.arrayLen 24 = 16 := by kernel_rfl
  have he : Try.prog.elem 24 = 5 := by kernel_rfl
  rw [run_sliceAt_array_l (P := Try.prog) w 24 ⟨g, 1, none⟩ (by rw [hl, he]; exact Try.underlying24) .i64 ((q : Int) + 1) (by omega) (by rw [hl]; omega), hl, he, hs]
  have e : ((q : Int) + 1).toNat = q + 1 := by omega
  simp only [Result.andThen, slicedAt, e, Go.WideShapes.add_plain, Nat.mul_one]
  by_cases h : 16 = q + 1
  · rw [if_pos h, ← hoff, if_pos (by omega)]
  · rw [if_neg h, ← hoff, if_neg (by omega)]
theorem cut_off (q off : Nat) (cs : List Value) (hoff : (if 16 - (q + 1) = 0 then 1 else 1 + (q + 1)) = off) :
    cs.take off ++ List.replicate (16 - (q + 1)) (Value.int .u8 0) ++ cs.drop (off + (16 - (q + 1))) = cs.take (1 + (q + 1)) ++ List.replicate (16 - (q + 1)) (Value.int .u8 0) ++ cs.drop (1 + (q + 1) + (16 - (q + 1))) := by
  by_cases h : 16 - (q + 1) = 0
  · rw [h]; simp
  · rw [if_neg h] at hoff; subst hoff; rfl
set_option maxRecDepth 100000 in
set_option maxHeartbeats 4000000 in
theorem first_any (a : AddrM) (h : a.ok) (k : Nat) (hk : k ≤ 128) (w : World) :
    Calls Try.prog 51 #[.agg a.cells.toArray, .int .i64 (k : Int)] w fun e w' => e = .returned (.agg (firstM a k).cells.toArray) ∧ Below w.heap.size w w' := by
  obtain ⟨ca, hca⟩ : ∃ x, a.cells.toArray = x := ⟨_, rfl⟩
  rw [hca]
  have HM := Lib.hid (show Mem w [blkE (w.heap.size + 1) 26 (.bool false :: (List.replicate 16 (0 : UInt8)).map u8v), blkE w.heap.size 26 a.cells] ((w.alloc (.cells ca 26)).alloc (.cells #[.bool false, .int .u8 0, .int .u8 0, .int .u8 0, .int .u8 0, .int .u8 0, .int .u8 0, .int .u8 0, .int .u8 0, .int .u8 0, .int .u8 0, .int .u8 0, .int .u8 0, .int .u8 0, .int .u8 0, .int .u8 0, .int .u8 0] 26)) from ((Mem.nil w).alloc rfl 26 ca a.cells hca.symm).alloc (by simp) 26 #[.bool false, .int .u8 0, .int .u8 0, .int .u8 0, .int .u8 0, .int .u8 0, .int .u8 0, .int .u8 0, .int .u8 0, .int .u8 0, .int .u8 0, .int .u8 0, .int .u8 0, .int .u8 0, .int .u8 0, .int .u8 0, .int .u8 0] _ rfl)
  have HO := Lib.hid h
  have HF := Lib.hid (firstM_ok a h k)
  obtain ⟨q, hq⟩ : ∃ q, k / 8 = q := ⟨_, rfl⟩
  obtain ⟨m, hm⟩ : ∃ q, k % 8 = q := ⟨_, rfl⟩
  have hqI : (k : Int) / 8 = (q : Int) := by omega
  have hmI : (k : Int) % 8 = (m : Int) := by omega
  go_enter Try.func51, Try.ntmps51
  go_upto_region 1 with fail
  generalize ((w.alloc (.cells ca 26)).alloc (.cells #[.bool false, .int .u8 0, .int .u8 0, .int .u8 0, .int .u8 0, .int .u8 0, .int .u8 0, .int .u8 0, .int .u8 0, .int .u8 0, .int .u8 0, .int .u8 0, .int .u8 0, .int .u8 0, .int .u8 0, .int .u8 0, .int .u8 0] 26)) = w1 at HM ⊢
  by_cases hlt : q < 16
  · have hm8 : m < 8 := by omega
    have fx := ((HM.out.blk 1 rfl).cell (1 + q)).trans (AddrM.ip_cell _ HO.out q hlt)
    have zx := (HM.out.blk 1 rfl).frozen (1 + q)
    have hset := AddrM.set_cell a q
    obtain ⟨x, hx⟩ : ∃ x, a.ip.getD q 0 = x := ⟨_, rfl⟩
    rw [hx] at fx
    have hcb := cut_bits x m hm8
    obtain ⟨y, hy⟩ : ∃ y, cutByte x m = y := ⟨_, rfl⟩
    rw [hy] at hcb
    have HC := Lib.hid (firstM_cells a h q m hlt k hq hm y (by rw [hx, hy]))
    have hmin : min m 8 = m := by omega
    have bq : (q : Int) < 16 := by omega
    have HN := Lib.hid (show Mem w [blkE (w.heap.size + 1) 26 (.bool false :: (List.replicate 16 (0 : UInt8)).map u8v), blkE w.heap.size 26 (AddrM.mk a.six (a.ip.set q y)).cells] ((w1.setCell ⟨w.heap.size, 1 + q, none⟩ (.int .u8 (y.toNat : Int))).drew) from by have h := HM.out.drew.setCell 1 rfl (1 + q) (u8v y); rw [hset] at h; exact h)
    have hset2 : (AddrM.mk a.six (a.ip.set q y)).ok := by show (a.ip.set q y).length = 16; rw [List.length_set]; exact HO.out
    clear hset hx hy HM hca h
    have hlI : decide ((q : Int) < 16) = true := by simp; omega
    go_upto_region 3 with fail
    go_region
    clear fx zx hcb hmin hlI
    generalize (w1.setCell ⟨w.heap.size, 1 + q, none⟩ (.int .u8 (y.toNat : Int))).drew = w2 at HN ⊢
    obtain ⟨off, hoff⟩ : ∃ off, (if 16 - (q + 1) = 0 then 1 else 1 + (q + 1)) = off := ⟨_, rfl⟩
    obtain ⟨z, hz⟩ : ∃ z, 16 - (q + 1) = z := ⟨_, rfl⟩
    have hcut := cut_off q off (AddrM.mk a.six (a.ip.set q y)).cells hoff
    have hfit : off + (16 - (q + 1)) ≤ (AddrM.mk a.six (a.ip.set q y)).cells.length := by rw [AddrM.cells_length (hset2 : (AddrM.mk a.six (a.ip.set q y)).ok), ← hoff]; split <;> omega
    rw [HC.out, hz] at hcut
    have HCUT := Lib.hid hcut
    rw [hz] at hfit
    have hsl : ∀ w', (Instr.sliceAt 24 (.pointer (some ⟨w.heap.size, 1, none⟩)) (some (.int .i64 ((q : Int) + 1))) none none).run Try.prog w' = .ok (.slice (some ⟨w.heap.size, off, none⟩) z z) w' := fun w' => by rw [← hz]; exact array_from w.heap.size q hlt off hoff w'
    clear hoff hz hcut
    go_upto_region 5 with (refine wpList_clear_blk w2 rfl (.tmp 23) 22 5 rfl Try.underlying22 u8_zero w.heap.size off z z rfl 26 (AddrM.mk a.six (a.ip.set q y)).cells (HN.out.blk 1 rfl) hfit ?_; intro w3 hb hg)
    rw [HCUT.out] at hb
    replace HM := Lib.hid (show Mem w [blkE (w.heap.size + 1) 26 (.bool false :: (List.replicate 16 (0 : UInt8)).map u8v), blkE w.heap.size 26 (firstM a k).cells] w3 from HN.out.put 1 rfl _ hg hb)
    clear HN hb hg hsl
    obtain ⟨cf, hcf⟩ : ∃ x, (firstM a k).cells.toArray = x := ⟨_, rfl⟩
    have HCF := Lib.hid hcf
    clear hcf
    go_wp2_with (first | (refine wpList_load_obj rfl 26 (.tmp 2) rfl w.heap.size 0 rfl (firstM a k).cells (HM.out.blk 1 rfl).all _ Try.underlying26 rfl (addr_cellsOf _ HF.out) ?_; rw [HCF.out]) | (refine wpList_store_blk rfl 26 (.tmp 4) (.tmp 24) rfl (w.heap.size + 1) (firstM a k).cells rfl (by show Value.agg cf = _; rw [HCF.out]) 26 (.bool false :: (List.replicate 16 (0 : UInt8)).map u8v) (HM.out.blk 0 rfl) (addr_cellsOf _ HF.out) (by rw [AddrM.cells_length HF.out]; rfl) (AddrM.one _) ?_; intro w9 hb9 hg9))
    exact bodyPost_ret (results_obj rfl _ _ (w.heap.size + 1) 26 (firstM a k).cells _ rfl hb9 Try.underlying26 rfl (addr_cellsOf _ HF.out)) rfl ⟨rfl, (HM.out.put 0 rfl _ hg9 hb9).bel⟩
  · have hlI : decide ((q : Int) < 16) = false := by simp; omega
    have hfa : firstM a k = a := by rw [firstM, if_neg (by omega)]
    rw [← hfa] at HM
    obtain ⟨cf, hcf⟩ : ∃ x, (firstM a k).cells.toArray = x := ⟨_, rfl⟩
    have HCF := Lib.hid hcf
    clear hcf
    go_upto_region 5 with fail
    go_wp2_with (first | (refine wpList_load_obj rfl 26 (.tmp 2) rfl w.heap.size 0 rfl (firstM a k).cells (HM.out.blk 1 rfl).all _ Try.underlying26 rfl (addr_cellsOf _ HF.out) ?_; rw [HCF.out]) | (refine wpList_store_blk rfl 26 (.tmp 4) (.tmp 24) rfl (w.heap.size + 1) (firstM a k).cells rfl (by show Value.agg cf = _; rw [HCF.out]) 26 (.bool false :: (List.replicate 16 (0 : UInt8)).map u8v) (HM.out.blk 0 rfl) (addr_cellsOf _ HF.out) (by rw [AddrM.cells_length HF.out]; rfl) (AddrM.one _) ?_; intro w9 hb9 hg9))
    exact bodyPost_ret (results_obj rfl _ _ (w.heap.size + 1) 26 (firstM a k).cells _ rfl hb9 Try.underlying26 rfl (addr_cellsOf _ HF.out)) rfl ⟨rfl, (HM.out.put 0 rfl _ hg9 hb9).bel⟩
end Go.Proofs.Ytnblofbbbkjhpaa
