/-
  The walk of RoutesChange over what is asked of the program. The contracts of inner's size and first: how many bits an address has, and an address without the bits behind the first ones. The contracts of inner's size, first and address. No statement is proved here.
-/
import Derived.RegionTactic
import Derived.Deep.DeepCutAuto
import Derived.Test.YtnblofbbbkjhpaaRoutesChangeB7
namespace Go.Proofs.Ytnblofbbbkjhpaa
open Go.RowKit

theorem flat_part (n : Nat) (rows : List (List Value)) (k : Nat) (hr : ∀ r ∈ rows, r.length = n) (o : List Value) (ho : rows[k]? = some o) {W : World} {g : Nat} {t : TypeId} (h : Blk W g t rows.flatten) : At W g (k * n) o := fun j v hv => by
  rw [h.cell]
  exact flat_at hr k o ho j v hv
theorem rows3_eq {r1 r2 r3 : List Value} {c1 c2 c3 : Array Value} (h1 : r1.toArray = c1) (h2 : r2.toArray = c2) (h3 : r3.toArray = c3) : (([r1, r2, r3].zipIdx 0).map fun x => (x.2, Value.agg x.1.toArray)) = [(0, .agg c1), (1, .agg c2), (2, .agg c3)] := by
  subst h1 h2 h3
  rfl
theorem insM_len16 {l : List RouteM} {a : AddrM} {b : Int} {k : List UInt8} (h : l.length ≤ 18) : (insM l a b k).1.length ≤ 19 := Nat.le_trans (insM_len l a b k) (by omega)
set_option maxRecDepth 100000 in
set_option maxHeartbeats 8000000 in
theorem rt_change_walk (HINS : RtInsC 12) (HRMC : RtRemC 15) (HRPC : RtRemPC 17) (HOFC : RtOfC 20) (HVLC : RtValidC 22) (HLK : RtLookC 26) (w : World) (A : Option Addr) (n c : Nat) (l : List UInt8) (hnc : n ≤ c) (hcm : c ≤ maxLen) (hr : Rd w w.heap.size A n l) (Am : Option Addr) (nm cm : Nat) (lm : List UInt8) (hncm : nm ≤ cm) (hcmm : cm ≤ maxLen) (hrm : Rd w w.heap.size Am nm lm) (Aw : Option Addr) (nw cw : Nat) (rw' : List RouteM) (hcw : CapOk nw cw) (hrw : RtRd w w.heap.size Aw nw rw') (aa : AddrM) (ab : Int) (haa : aa.ok) (hab : inI64 ab) (kp : List UInt8) (hkp : kp.length = 32) :
    Calls Try.prog 3 #[.slice A n c, .slice Am nm cm, .slice Aw nw cw, .agg (prefC aa ab).toArray, .agg (kp.map u8v).toArray] w fun e w' => e = .returned (.bool true) ∧ Below w.heap.size w w' := by
  have HBG := Lib.hid (fun W : World => rt_begun_any HINS HLK W)
  have HNM := Lib.hid (show nm ≤ maxLen from Nat.le_trans hncm hcmm)
  have HINH := Lib.hid HINS
  have HRMH := Lib.hid HRMC
  have HRPH := Lib.hid HRPC
  have HOFH := Lib.hid HOFC
  have HVLH := Lib.hid HVLC
  have HRW := Lib.hid hrw
  have HCW := Lib.hid hcw
  have HAA := Lib.hid (And.intro haa (And.intro hab hkp))
  obtain ⟨mr, hmr⟩ : ∃ z, min nw 18 = z := ⟨_, rfl⟩
  have hmin : min (nw : Int) 18 = (mr : Int) := by omega
  obtain ⟨Ar, hAr⟩ : ∃ z, addrK Aw 0 cw 50 = z := ⟨_, rfl⟩
  obtain ⟨rr, hrr⟩ : ∃ z, rw'.take mr = z := ⟨_, rfl⟩
  have hslr := rt_h Aw (n := nw) cw mr (by omega) hcw.1
  rw [hAr] at hslr
  have HAR := Lib.hid (And.intro hAr hrr)
  have HMR := Lib.hid (show mr ≤ nw ∧ mr ≤ 18 from by omega)
  have HMD := Lib.hid (made_any A n c l hnc hcm)
  obtain ⟨k0, hk⟩ : ∃ k, min nm 30 = k := ⟨_, rfl⟩
  have HR := Lib.hid (hrm.take (show k0 ≤ nm by omega))
  have HW1 := Lib.hid (caseNew_any Am nm cm 30 k0 (by omega) hncm hcmm hk)
  have hk30 : k0 ≤ 30 := by omega
  generalize lm.take k0 = lk at HR
  have HRA := Lib.hid hr
  have HL0 := Lib.hid (Lows.nil w)
  clear hr hrm hk hnc hcm hncm hcmm
  have hnm31 : nm < 9223372036854775808 := Nat.lt_of_le_of_lt HNM.out (by decide)
  obtain ⟨ip, hip, hiz, his, hib⟩ := prefInfo
  have HPI := Lib.hid (And.intro hip (And.intro hiz (And.intro his hib)))
  obtain ⟨ikk, hkq, hkz, hks, hkb⟩ := keyInfo
  have HKI := Lib.hid (And.intro hkq (And.intro hkz (And.intro hks hkb)))
  have b1 : Try.prog.built 30 [(0, .int .u8 1)] = some ((keyB 1).map u8v).toArray := by kernel_rfl
  have b2 : Try.prog.built 30 [(0, .int .u8 2)] = some ((keyB 2).map u8v).toArray := by kernel_rfl
  obtain ⟨k1, hk1⟩ : ∃ z, ((keyB 1).map u8v).toArray = z := ⟨_, rfl⟩
  obtain ⟨k2, hk2⟩ : ∃ z, ((keyB 2).map u8v).toArray = z := ⟨_, rfl⟩
  rw [hk1] at b1
  rw [hk2] at b2
  have HB1 := Lib.hid b1
  have HB2 := Lib.hid b2
  have HK1 := Lib.hid hk1
  have HK2 := Lib.hid hk2
  obtain ⟨ca, hca⟩ : ∃ z, (prefC aa ab).toArray = z := ⟨_, rfl⟩
  obtain ⟨ck, hck⟩ : ∃ z, (kp.map u8v).toArray = z := ⟨_, rfl⟩
  rw [hca, hck]
  have hm0 := (HL0.out.alloc 28 ca (prefC aa ab) hca.symm).alloc 30 ck (kp.map u8v) hck.symm
  replace HL0 := Lib.hid (show Lows w [blkL (w.heap.size + 1) 30 (kp.map u8v), blkL w.heap.size 28 (prefC aa ab)] ((w.alloc (.cells ca 28)).alloc (.cells ck 30)) from by simpa using hm0)
  have HCA := Lib.hid hca
  have HCK := Lib.hid hck
  have HAU := Lib.hid (pref_cellsOf' aa haa ab)
  have HKU := Lib.hid (key_cellsOf kp hkp)
  clear HINS HLK HRMC HRPC HOFC HVLC hrw hcw haa hab hkp hAr hrr hmr hca hck hm0 b1 b2 hk1 hk2 hip hiz his hib hkq hkz hks hkb
  go_enter Try.func3, Try.ntmps3
  go_upto_region 1 with fail
  generalize (w.alloc (.cells ca 28)).alloc (.cells ck 30) = w0 at HL0 ⊢
  go_wp2_with fail
  refine (HMD.out _ ((HRA.out.below HL0.out.bel).mono HL0.out.size)).mono ?_
  rintro e w1 ⟨xs, A9, c9, hmo, rfl, hrt, hcp, hb1⟩
  have hms := made_spec hmo
  generalize insAll xs = rs at hrt hcp hms ⊢
  obtain ⟨nn, hnn⟩ : ∃ z, rs.length = z := ⟨_, rfl⟩
  rw [hnn] at hrt hcp hms ⊢
  have HNN := Lib.hid hnn
  have HCP := Lib.hid (show CapOk nn c9 from hcp)
  have HSO := Lib.hid (And.intro hms.2.1 hms.2.2.1)
  have hn10 : nn ≤ 10 := hms.2.2.2
  have HL1 := Lib.hid (show Lows w [rtL A9 nn rs, blkL (w.heap.size + 1) 30 (kp.map u8v), blkL w.heap.size 28 (prefC aa ab)] w1 from (HL0.out.below hb1).cons (rtL A9 nn rs) hrt)
  clear hnn hcp hrt hb1 hmo HMD hms HL0
  go_wp2_with fail
  refine (HW1.out w1).mono ?_
  rintro e w2 ⟨rfl, hm⟩
  have hc : CodesAt w2 w1.heap.size Am k0 cm lk w.heap.size 0 := ⟨hm.blk 0 rfl, HR.out.below (HL1.out.bel.trans (hm.bel.mono HL1.out.size)), HL1.out.size, (hm.blk 0 rfl).lt, by omega, Nat.zero_le _⟩
  have HAC := Lib.hid (casePrefix_any w1.heap.size Am k0 cm lk w.heap.size 0 w2 hc)
  have HB2 := Lib.hid hm.bel
  clear hc hm HW1
  go_wp2_with fail
  refine HAC.out.mono ?_
  rintro e w3 ⟨rfl, _, hg⟩
  have HM := Lib.hid (HL1.out.below (show Below w1.heap.size w1 w3 from HB2.out.grown hg HB2.out.size (fun q hq => by injection hq with hq; omega)))
  clear hg HB2 HAC HR hk30 HL1
  have hpo := codeM_ok lk 0
  have hpv := codeM_valid lk 0
  have hpi : inI64 (codePb lk 0 : Int) := by have := codePb_le lk 0; unfold inI64; omega
  generalize codeM lk 0 = pa at hpo hpv ⊢
  generalize (codePb lk 0 : Int) = pb at hpv hpi ⊢
  have HP := Lib.hid (And.intro hpo (And.intro hpi hpv))
  obtain ⟨pp, hpp⟩ : ∃ z, (prefC pa pb).toArray = z := ⟨_, rfl⟩
  rw [hpp]
  have HPP := Lib.hid hpp
  have HPU := Lib.hid (pref_cellsOf' pa hpo pb)
  clear hpo hpv hpi hpp
  have HZ := Lib.hid (Blk.new w3 28 (prefC addr0 0))
  go_upto_region 2 with (refine wpList_store_obj rfl 28 (.tmp 12) (.tmp 28) rfl w3.heap.size 0 (prefC pa pb) rfl (by show Value.agg pp = _; rw [HPP.out]) 28 (prefC addr0 0) HZ.out HPU.out (by rw [prefC_length pa HP.out.1]; decide) (pref_oneR _ _) ?_; intro w4 hb4 hg4)
  rw [setL_all _ _ (by rw [prefC_length pa HP.out.1]; rfl)] at hb4
  replace HM := Lib.hid (show Lows w [blkL w3.heap.size 28 (prefC pa pb), rtL A9 nn rs, blkL (w.heap.size + 1) 30 (kp.map u8v), blkL w.heap.size 28 (prefC aa ab)] w4 from HM.out.stored hg4 hb4)
  clear hb4 hg4 HZ
  generalize w3.heap.size = gp at HM ⊢
  clear HRA
  go_upto_region 3 with (refine wpList_min_int rfl (.tmp 31) (.const (.int .i64 18)) #[3, 3] rfl (nw : Int) 18 (mr : Int) rfl rfl hmin ?_)
  clear hmin hslr
  replace HM := Lib.hid (HM.out.cons (rtL Ar mr rr) (by
    have h := HRW.out.below HM.out.bel
    exact ⟨(show RdRow _ w.heap.size Ar 50 mr (rtsV rr) from by rw [← HAR.out.1, ← HAR.out.2, ← rtsV_take]; exact h.1.ahead mr cw HMR.out.1).mono HM.out.size, fun r hr => h.2 r (by rw [← HAR.out.2] at hr; exact List.mem_of_mem_take hr)⟩))
  replace HM := Lib.hid (show Lows w [rtL Ar mr rr, blkL gp 28 (prefC pa pb), rtL A9 nn rs, blkL (w.heap.size + 1) 30 (kp.map u8v), blkL w.heap.size 28 (prefC aa ab)] w4 from HM.out)
  go_upto_region 4 with fail
  have HM5 := Lib.hid (HM.out.alloc 23 #[.slice A9 nn c9, .slice Ar mr cw] [.slice A9 nn c9, .slice Ar mr cw] rfl)
  clear HM
  generalize w4.alloc (.cells #[.slice A9 nn c9, .slice Ar mr cw] 23) = w5 at HM5 ⊢
  generalize w4.heap.size = gs at HM5 ⊢
  have HM := Lib.hid (show Lows w [blkL gs 23 [.slice A9 nn c9, .slice Ar mr cw], rtL Ar mr rr, blkL gp 28 (prefC pa pb), rtL A9 nn rs, blkL (w.heap.size + 1) 30 (kp.map u8v), blkL w.heap.size 28 (prefC aa ab)] w5 from HM5.out)
  have HI := Lib.hid (show ∀ k, k < 2 → ∃ (Al : Option Addr) (nl cl : Nat) (ls : List RouteM), nl ≤ 18 ∧ CapOk nl cl ∧ ∀ W, Lows w [blkL gs 23 [.slice A9 nn c9, .slice Ar mr cw], rtL Ar mr rr, blkL gp 28 (prefC pa pb), rtL A9 nn rs, blkL (w.heap.size + 1) 30 (kp.map u8v), blkL w.heap.size 28 (prefC aa ab)] W → W.cell? ⟨gs, k, none⟩ = some (.slice Al nl cl) ∧ RtRd W W.heap.size Al nl ls from fun k hk => by
    rcases (show k = 0 ∨ k = 1 by omega) with rfl | rfl
    · exact ⟨A9, nn, c9, rs, by omega, HCP.out, fun W h => ⟨(h.blk 0 rfl).cell 0, h.get (f := rtL A9 nn rs) 3 rfl⟩⟩
    · exact ⟨Ar, mr, cw, rr, HMR.out.2, ⟨Nat.le_trans HMR.out.1 HCW.out.1, HCW.out.2⟩, fun W h => ⟨(h.blk 0 rfl).cell 1, h.get (f := rtL Ar mr rr) 1 rfl⟩⟩)
  clear HM5 HRW
  go_loopw [38] (fun i wr => ∃ k : Nat, k ≤ 2 ∧ i = .int .i64 (k : Int) ∧ Lows w [blkL gs 23 [.slice A9 nn c9, .slice Ar mr cw], rtL Ar mr rr, blkL gp 28 (prefC pa pb), rtL A9 nn rs, blkL (w.heap.size + 1) 30 (kp.map u8v), blkL w.heap.size 28 (prefC aa ab)] wr) (fun i _ => 2 - (intOf i).toNat)
  case atStart => exact ⟨0, Nat.zero_le _, rfl, HM.out⟩
  case round =>
    clear HM
    obtain ⟨k, hk, rfl, hM⟩ := hrel
    have HM := Lib.hid hM
    clear hM
    by_cases hk2 : k < 2
    · have d1 : decide ((k : Int) < 2) = true := by simp; omega
      obtain ⟨Al, nl, cl, ls, hnl, hcl, hl⟩ := HI.out k hk2
      have HCL := Lib.hid hcl
      have hcell := (hl wr HM.out).1
      replace HM := Lib.hid (show Lows w [rtL Al nl ls, blkL gs 23 [.slice A9 nn c9, .slice Ar mr cw], rtL Ar mr rr, blkL gp 28 (prefC pa pb), rtL A9 nn rs, blkL (w.heap.size + 1) 30 (kp.map u8v), blkL w.heap.size 28 (prefC aa ab)] wr from HM.out.cons (rtL Al nl ls) (hl wr HM.out).2)
      clear hcl hl
      have HZ := Lib.hid (Blk.new wr 28 (prefC addr0 0))
      go_upto_region 7 with (first | (refine wpList_load_obj rfl 28 (.tmp 12) rfl gp 0 rfl (prefC pa pb) ((HM.out.blk 3 rfl).all) _ Try.underlying28 rfl HPU.out ?_; rw [HPP.out]) | (refine wpList_store_obj rfl 28 (.tmp 15) (.tmp 42) rfl wr.heap.size 0 (prefC pa pb) rfl (by show Value.agg pp = _; rw [HPP.out]) 28 (prefC addr0 0) HZ.out HPU.out (by rw [prefC_length pa HP.out.1]; decide) (pref_oneR _ _) ?_; intro w7 hb7 hg7))
      rw [setL_all _ _ (by rw [prefC_length pa HP.out.1]; rfl)] at hb7
      have HBF := Lib.hid (below_fresh hg7)
      have HP7 := Lib.hid hb7
      obtain ⟨P15, hP15⟩ : ∃ z, wr.heap.size = z := ⟨_, rfl⟩
      have HPB := Lib.hid hP15
      rw [hP15] at HP7 ⊢
      clear hb7 hg7 HZ hP15 d1 hcell
      (try simp only [Act.put])
      go_cut [51] (fun v wx => ∃ b : Bool, v = .bool b ∧ (b = true → 0 < nl) ∧ wx = w7)
      case first =>
        rcases Nat.eq_zero_or_pos nl with h0 | h0
        · have d1 : decide ((nl : Int) > 0) = false := by simp; omega
          go_wp2_with fail
          go_meet
          exact ⟨false, rfl, (fun h => by cases h), rfl⟩
        · have d1 : decide ((nl : Int) > 0) = true := by simp; omega
          go_wp2_with fail
          go_meet
          exact ⟨_, rfl, (fun _ => h0), rfl⟩
      case rest =>
        obtain ⟨bb, rfl, hbb, hwc⟩ := hcut
        subst hwc
        have HBB := Lib.hid hbb
        clear hbb
        go_upto_if 51 with fail
        go_cut [51] (fun _ wx => ∃ ka kb, AddrM.ok ka ∧ inI64 kb ∧ Lows w [blkL P15 28 (prefC ka kb), rtL Al nl ls, blkL gs 23 [.slice A9 nn c9, .slice Ar mr cw], rtL Ar mr rr, blkL gp 28 (prefC pa pb), rtL A9 nn rs, blkL (w.heap.size + 1) 30 (kp.map u8v), blkL w.heap.size 28 (prefC aa ab)] wx)
        case first =>
          cases bb with
          | false =>
            go_wp2_with fail
            go_meet
            exact ⟨pa, pb, HP.out.1, HP.out.2.1, (HM.out.below HBF.out).cons (blkL P15 28 (prefC pa pb)) HP7.out⟩
          | true =>
            have h0 := HBB.out rfl
            obtain ⟨i0, hi0⟩ : ∃ z, nm / 2 % nl = z := ⟨_, rfl⟩
            have hi1 : i0 < nl := by rw [← hi0]; exact Nat.mod_lt _ h0
            have q2 : (nm : Int) / 2 % (nl : Int) = (i0 : Int) := by rw [← hi0]; simp
            have q3 : (i0 : Int) < (nl : Int) := by omega
            obtain ⟨b, off, rfl⟩ := (HM.out.get (f := rtL Al nl ls) 0 rfl).1.addr (by omega)
            obtain ⟨r, hr⟩ : ∃ r, ls[i0]? = some r := ⟨ls[i0]'(by rw [(HM.out.get (f := rtL (some ⟨b, off, none⟩) nl ls) 0 rfl).len]; exact hi1), List.getElem?_eq_getElem _⟩
            have HOK := Lib.hid ((HM.out.get (f := rtL (some ⟨b, off, none⟩) nl ls) 0 rfl).ok hr)
            have HLA := Lib.hid (route_pref ((HM.out.below HBF.out).get (f := rtL (some ⟨b, off, none⟩) nl ls) 0 rfl |>.at i0 r hr).2)
            obtain ⟨rp, hrp⟩ : ∃ z, (prefC r.a r.bits).toArray = z := ⟨_, rfl⟩
            have HRP := Lib.hid hrp
            have HPU2 := Lib.hid (pref_cellsOf' r.a HOK.out.1 r.bits)
            clear hi0 hr hrp
            have hold := HP7.out
            go_wp2_with (first | (refine wpList_load_obj rfl 28 (.tmp 60) rfl b _ rfl (prefC r.a r.bits) HLA.out _ Try.underlying28 rfl HPU2.out ?_; rw [HRP.out]) | (refine wpList_store_obj rfl 28 (.tmp 15) (.tmp 61) rfl P15 0 (prefC r.a r.bits) rfl (by show Value.agg rp = _; rw [HRP.out]) 28 (prefC pa pb) hold HPU2.out (by rw [prefC_length r.a HOK.out.1, prefC_length pa HP.out.1]; decide) (pref_oneR _ _) ?_; intro w8 hb8 hg8))
            rw [setL_all _ _ (by rw [prefC_length r.a HOK.out.1, prefC_length pa HP.out.1])] at hb8
            have hlow := HM.out.below (HBF.out.grown hg8 (Nat.le_of_lt (by rw [HPB.out]; exact HP7.out.lt)) (fun k hk => by injection hk with hk; rw [HPB.out]; omega))
            go_meet
            exact ⟨r.a, r.bits, HOK.out.1, HOK.out.2.2, hlow.cons (blkL P15 28 (prefC r.a r.bits)) hb8⟩
        case rest =>
          clear HM HP7 HBF HPB HBB
          obtain ⟨ka, kb, hka, hkb, hM⟩ := hcut
          have HKO := Lib.hid (And.intro hka hkb)
          have HM := Lib.hid hM
          have HQU := Lib.hid (pref_cellsOf' ka hka kb)
          obtain ⟨cq, hcq⟩ : ∃ z, (prefC ka kb).toArray = z := ⟨_, rfl⟩
          have HCQ := Lib.hid hcq
          have HR3 := Lib.hid (show ∀ r ∈ [prefC aa ab, prefC pa pb, prefC ka kb], r.length = 18 from fun r hr => by
            simp only [List.mem_cons, List.not_mem_nil, or_false] at hr
            rcases hr with rfl | rfl | rfl
            · exact prefC_length aa HAA.out.1 ab
            · exact prefC_length pa HP.out.1 pb
            · exact prefC_length ka HKO.out.1 kb)
          clear hka hkb hM hcq
          go_wp2_with (first | (refine wpList_load_obj rfl 28 (.tmp 8) rfl w.heap.size 0 rfl (prefC aa ab) ((HM.out.blk 7 rfl).all) _ Try.underlying28 rfl HAU.out ?_; rw [HCA.out]) | (refine wpList_load_obj rfl 28 (.tmp 12) rfl gp 0 rfl (prefC pa pb) ((HM.out.blk 4 rfl).all) _ Try.underlying28 rfl HPU.out ?_; rw [HPP.out]) | (refine wpList_load_obj rfl 28 (.tmp 15) rfl P15 0 rfl (prefC ka kb) ((HM.out.blk 0 rfl).all) _ Try.underlying28 rfl HQU.out ?_; rw [HCQ.out]) | (refine wpList_buildRows rfl 38 28 3 [(0, .tmp 62), (1, .tmp 63), (2, .tmp 64)] rfl [prefC aa ab, prefC pa pb, prefC ka kb] rfl (rows3_eq HCA.out HPP.out HCQ.out).symm 18 Try.underlying38 ip HPI.out.1 HPI.out.2.2.1 _ HPI.out.2.1 (by omega) (by omega) (by omega) HR3.out ?_))
          obtain ⟨f54, hf54⟩ : ∃ z, List.flatten [prefC aa ab, prefC pa pb, prefC ka kb] = z := ⟨_, rfl⟩
          have hm8 := HM.out.alloc 28 (prefC aa ab ++ (prefC pa pb ++ prefC ka kb)).toArray f54 (by rw [← hf54]; simp)
          generalize wc.alloc (.cells (prefC aa ab ++ (prefC pa pb ++ prefC ka kb)).toArray 28) = w8 at hm8 ⊢
          generalize wc.heap.size = gy at hm8 ⊢
          have HJ := Lib.hid (show ∀ j, j < 3 → ∃ ya yb, AddrM.ok ya ∧ inI64 yb ∧ ∀ W, Blk W gy 28 f54 → At W gy (j * 18) (prefC ya yb) from fun j hj => by
            rcases (show j = 0 ∨ j = 1 ∨ j = 2 by omega) with rfl | rfl | rfl
            · exact ⟨aa, ab, HAA.out.1, HAA.out.2.1, fun W h => flat_part 18 _ 0 HR3.out _ rfl (hf54 ▸ h)⟩
            · exact ⟨pa, pb, HP.out.1, HP.out.2.1, fun W h => flat_part 18 _ 1 HR3.out _ rfl (hf54 ▸ h)⟩
            · exact ⟨ka, kb, HKO.out.1, HKO.out.2, fun W h => flat_part 18 _ 2 HR3.out _ rfl (hf54 ▸ h)⟩)
          replace HM := Lib.hid (show Lows w [blkL gy 28 f54, blkL P15 28 (prefC ka kb), rtL Al nl ls, blkL gs 23 [.slice A9 nn c9, .slice Ar mr cw], rtL Ar mr rr, blkL gp 28 (prefC pa pb), rtL A9 nn rs, blkL (w.heap.size + 1) 30 (kp.map u8v), blkL w.heap.size 28 (prefC aa ab)] w8 from hm8)
          clear hm8 hf54
          go_loopw [67] (fun i wr => ∃ j : Nat, j ≤ 3 ∧ i = .int .i64 (j : Int) ∧ Lows w [blkL gy 28 f54, blkL P15 28 (prefC ka kb), rtL Al nl ls, blkL gs 23 [.slice A9 nn c9, .slice Ar mr cw], rtL Ar mr rr, blkL gp 28 (prefC pa pb), rtL A9 nn rs, blkL (w.heap.size + 1) 30 (kp.map u8v), blkL w.heap.size 28 (prefC aa ab)] wr) (fun i _ => 3 - (intOf i).toNat)
          case atStart => exact ⟨0, Nat.zero_le _, rfl, HM.out⟩
          case round =>
            clear HM
            obtain ⟨j, hj, rfl, hM⟩ := hrel
            have HM := Lib.hid hM
            clear hM
            by_cases hj3 : j < 3
            · have d1 : decide ((j : Int) < 3) = true := by simp; omega
              obtain ⟨ya, yb, hya, hyb, hyat⟩ := HJ.out j hj3
              have HYO := Lib.hid (And.intro hya hyb)
              have HYU := Lib.hid (pref_cellsOf' ya hya yb)
              have HYA := Lib.hid (hyat _ (HM.out.blk 0 rfl))
              obtain ⟨yc, hyc⟩ : ∃ z, (prefC ya yb).toArray = z := ⟨_, rfl⟩
              have HYC := Lib.hid hyc
              obtain ⟨l1, hl1⟩ : ∃ z, (insM ls ya yb kp).1 = z := ⟨_, rfl⟩
              obtain ⟨er, her⟩ : ∃ z, (insM ls ya yb kp).2 = z := ⟨_, rfl⟩
              obtain ⟨m1, hm1⟩ : ∃ z, l1.length = z := ⟨_, rfl⟩
              obtain ⟨l2, hl2⟩ : ∃ z, remM ls ya yb = z := ⟨_, rfl⟩
              obtain ⟨m2, hm2⟩ : ∃ z, l2.length = z := ⟨_, rfl⟩
              have hlsn := (HM.out.get (f := rtL Al nl ls) 2 rfl).len
              have hm1b : m1 ≤ 19 := by rw [← hm1, ← hl1]; exact insM_len16 (by omega)
              have hm2b : m2 ≤ 18 := by rw [← hm2, ← hl2]; exact Nat.le_trans (remM_le _ _ _) (by omega)
              have HI1 := Lib.hid (insU HINH.out (n := nl) (Prod.ext hl1 her) hm1 (by omega) hya hyb HAA.out.2.2)
              have HI2 := Lib.hid (insU refInsC (n := nl) (Prod.ext hl1 her) hm1 (by omega) hya hyb HAA.out.2.2)
              have HRM1 := Lib.hid (rem_use HRMH.out (n := nl) hl2 hm2 (by omega) hya hyb)
              have HRM2 := Lib.hid (rem_use refRemC (n := nl) hl2 hm2 (by omega) hya hyb)
              rw [hyc] at HRM1 HRM2
              rw [hyc, HCK.out] at HI1 HI2
              have hee : ((er : Int) != (er : Int)) = false := by simp
              clear hya hyb hyat hyc hl1 her hm1 hl2 hm2 hlsn
              have HZ := Lib.hid (Blk.new wr 28 (prefC addr0 0))
              go_upto_region 12 with (first | (refine wpList_load_obj rfl 28 (.tmp 69) rfl gy _ rfl (prefC ya yb) HYA.out _ Try.underlying28 rfl HYU.out ?_; rw [HYC.out]) | (refine wpList_store_obj rfl 28 (.tmp 17) (.tmp 70) rfl wr.heap.size 0 (prefC ya yb) rfl (by show Value.agg yc = _; rw [HYC.out]) 28 (prefC addr0 0) HZ.out HYU.out (by rw [prefC_length ya HYO.out.1]; decide) (pref_oneR _ _) ?_; intro w9 hb9 hg9))
              rw [setL_all _ _ (by rw [prefC_length ya HYO.out.1]; rfl)] at hb9
              replace HM := Lib.hid (show Lows w [blkL wr.heap.size 28 (prefC ya yb), blkL gy 28 f54, blkL P15 28 (prefC ka kb), rtL Al nl ls, blkL gs 23 [.slice A9 nn c9, .slice Ar mr cw], rtL Ar mr rr, blkL gp 28 (prefC pa pb), rtL A9 nn rs, blkL (w.heap.size + 1) 30 (kp.map u8v), blkL w.heap.size 28 (prefC aa ab)] w9 from HM.out.stored hg9 hb9)
              clear hb9 hg9 HZ HYA d1
              generalize wr.heap.size = P17 at HM ⊢
              go_wp2_with (first | (refine wpList_load_obj rfl 28 (.tmp 17) rfl P17 0 rfl (prefC ya yb) ((HM.out.blk 0 rfl).all) _ Try.underlying28 rfl HYU.out ?_; rw [HYC.out]) | (refine wpList_load_obj rfl 30 (.tmp 9) rfl (w.heap.size + 1) 0 rfl (kp.map u8v) ((HM.out.blk 8 rfl).all) _ Try.underlying30 rfl HKU.out ?_; rw [HCK.out]))
              refine (HI1.out Al cl _ HCL.out (HM.out.get (f := rtL Al nl ls) 3 rfl)).mono ?_
              rintro e w11 ⟨A1, c1, rfl, -, hr7, hb⟩
              replace HM := Lib.hid (show Lows w [rtL A1 m1 l1, blkL P17 28 (prefC ya yb), blkL gy 28 f54, blkL P15 28 (prefC ka kb), rtL Al nl ls, blkL gs 23 [.slice A9 nn c9, .slice Ar mr cw], rtL Ar mr rr, blkL gp 28 (prefC pa pb), rtL A9 nn rs, blkL (w.heap.size + 1) 30 (kp.map u8v), blkL w.heap.size 28 (prefC aa ab)] w11 from (HM.out.below hb).cons (rtL A1 m1 l1) hr7)
              clear hb hr7 HI1
              go_wp2_with (first | (refine wpList_load_obj rfl 28 (.tmp 17) rfl P17 0 rfl (prefC ya yb) ((HM.out.blk 1 rfl).all) _ Try.underlying28 rfl HYU.out ?_; rw [HYC.out]) | (refine wpList_load_obj rfl 30 (.tmp 9) rfl (w.heap.size + 1) 0 rfl (kp.map u8v) ((HM.out.blk 9 rfl).all) _ Try.underlying30 rfl HKU.out ?_; rw [HCK.out]))
              refine (HI2.out Al cl _ HCL.out (HM.out.get (f := rtL Al nl ls) 4 rfl)).mono ?_
              rintro e w13 ⟨A2, c2, rfl, -, hr7, hb⟩
              replace HM := Lib.hid (show Lows w [rtL A2 m1 l1, rtL A1 m1 l1, blkL P17 28 (prefC ya yb), blkL gy 28 f54, blkL P15 28 (prefC ka kb), rtL Al nl ls, blkL gs 23 [.slice A9 nn c9, .slice Ar mr cw], rtL Ar mr rr, blkL gp 28 (prefC pa pb), rtL A9 nn rs, blkL (w.heap.size + 1) 30 (kp.map u8v), blkL w.heap.size 28 (prefC aa ab)] w13 from (HM.out.below hb).cons (rtL A2 m1 l1) hr7)
              clear hb hr7 HI2
              go_upto_region 14 with fail
              refine wp_region_held_drew (S := fun W' => Lows w [rtL A2 m1 l1, rtL A1 m1 l1, blkL P17 28 (prefC ya yb), blkL gy 28 f54, blkL P15 28 (prefC ka kb), rtL Al nl ls, blkL gs 23 [.slice A9 nn c9, .slice Ar mr cw], rtL Ar mr rr, blkL gp 28 (prefC pa pb), rtL A9 nn rs, blkL (w.heap.size + 1) 30 (kp.map u8v), blkL w.heap.size 28 (prefC aa ab)] W') (by kernel_rfl) (HM.out.drew) (fun hHeld => ?_)
              replace HM := Lib.hid HM.out.drew
              generalize w13.drew = wd1 at HM hHeld ⊢
              refine take_first (v := ?_) 0 rfl (by kernel_rfl) (by kernel_rfl) (by kernel_rfl) (fun _ _ _ h => h) (Or.inl ⟨by rfl, ?_⟩) (by assumption) ?_
              rotate_left
              · (intro w hSw; (try dsimp only at hSw); go_simp; try with_reducible rfl)
              (try simp only [Act.put, List.setIfInBounds_toArray, List.set_cons_zero, List.set_cons_succ])
              refine take_first (v := ?_) 1 rfl (by kernel_rfl) (by kernel_rfl) (by kernel_rfl) (fun _ _ _ h => h) (Or.inl ⟨by rfl, ?_⟩) (by assumption) ?_
              rotate_left
              · (intro w hSw; (try dsimp only at hSw); go_simp; try with_reducible rfl)
              (try simp only [Act.put, List.setIfInBounds_toArray, List.set_cons_zero, List.set_cons_succ])
              refine take_first (v := ?_) 2 rfl (by kernel_rfl) (by kernel_rfl) (by kernel_rfl) (fun _ _ _ h => h) (Or.inl ⟨by rfl, ?_⟩) (by assumption) ?_
              rotate_left
              · (intro w hSw; (try dsimp only at hSw); have s := hee; go_simp; try with_reducible rfl)
              (try simp only [Act.put, List.setIfInBounds_toArray, List.set_cons_zero, List.set_cons_succ])
              refine take_first (v := ?_) 3 rfl (by kernel_rfl) (by kernel_rfl) (by kernel_rfl) (fun _ _ _ h => h) (Or.inl ⟨by rfl, ?_⟩) (by assumption) ?_
              rotate_left
              · (intro w hSw; (try dsimp only at hSw); go_simp; try with_reducible rfl)
              (try simp only [Act.put, List.setIfInBounds_toArray, List.set_cons_zero, List.set_cons_succ])
              refine take_first (v := ?_) 4 rfl (by kernel_rfl) (by kernel_rfl) (by kernel_rfl) (fun _ _ _ h => h) (Or.inl ⟨by rfl, ?_⟩) (by assumption) ?_
              rotate_left
              · (intro w hSw; (try dsimp only at hSw); go_simp; try with_reducible rfl)
              (try simp only [Act.put, List.setIfInBounds_toArray, List.set_cons_zero, List.set_cons_succ])
              refine take_first (v := ?_) 5 rfl (by kernel_rfl) (by kernel_rfl) (by kernel_rfl) (fun _ _ _ h => h) (Or.inl ⟨by rfl, ?_⟩) (by assumption) ?_
              rotate_left
              · (intro w hSw; (try dsimp only at hSw); go_simp; try with_reducible rfl)
              (try simp only [Act.put, List.setIfInBounds_toArray, List.set_cons_zero, List.set_cons_succ])
              refine step_one 6 rfl (by kernel_rfl) (fun K hK => ?_)
              clear hHeld
              go_simp
              refine (same_any A1 A2 m1 c1 c2 l1 (by omega) _ (HM.out.get (f := rtL A1 m1 l1) 1 rfl) (HM.out.get (f := rtL A2 m1 l1) 0 rfl)).mono ?_
              rintro e wy2 ⟨rfl, hb⟩
              replace HM := Lib.hid (show Lows w [rtL A2 m1 l1, rtL A1 m1 l1, blkL P17 28 (prefC ya yb), blkL gy 28 f54, blkL P15 28 (prefC ka kb), rtL Al nl ls, blkL gs 23 [.slice A9 nn c9, .slice Ar mr cw], rtL Ar mr rr, blkL gp 28 (prefC pa pb), rtL A9 nn rs, blkL (w.heap.size + 1) 30 (kp.map u8v), blkL w.heap.size 28 (prefC aa ab)] wy2 from HM.out.below hb)
              clear hb
              go_wp2_with fail
              refine hK.out _ _ (HM.out) (fun hHeld => ?_)
              clear hK K
              (try simp only [Act.put, List.setIfInBounds_toArray, List.set_cons_zero, List.set_cons_succ])
              refine take_first (v := ?_) 7 rfl (by kernel_rfl) (by kernel_rfl) (by kernel_rfl) (fun _ _ _ h => h) (Or.inl ⟨by rfl, ?_⟩) (by assumption) ?_
              rotate_left
              · (intro w hSw; (try dsimp only at hSw); go_simp; try with_reducible rfl)
              (try simp only [Act.put, List.setIfInBounds_toArray, List.set_cons_zero, List.set_cons_succ])
              refine take_first (v := ?_) 8 rfl (by kernel_rfl) (by kernel_rfl) (by kernel_rfl) (fun _ _ _ h => h) (Or.inl ⟨by rfl, ?_⟩) (by assumption) ?_
              rotate_left
              · (intro w hSw; (try dsimp only at hSw); go_simp; try with_reducible rfl)
              (try simp only [Act.put, List.setIfInBounds_toArray, List.set_cons_zero, List.set_cons_succ])
              refine take_first (v := ?_) 9 rfl (by kernel_rfl) (by kernel_rfl) (by kernel_rfl) (fun _ _ _ h => h) (Or.inl ⟨by rfl, ?_⟩) (by assumption) ?_
              rotate_left
              · (intro w hSw; (try dsimp only at hSw); go_simp; try with_reducible rfl)
              (try simp only [Act.put, List.setIfInBounds_toArray, List.set_cons_zero, List.set_cons_succ])
              refine take_first (v := ?_) 10 rfl (by kernel_rfl) (by kernel_rfl) (by kernel_rfl) (fun _ _ _ h => h) (Or.inl ⟨by rfl, ?_⟩) (by assumption) ?_
              rotate_left
              · (intro w hSw; (try dsimp only at hSw); go_simp; try with_reducible rfl)
              (try simp only [Act.put, List.setIfInBounds_toArray, List.set_cons_zero, List.set_cons_succ])
              refine take_first (v := .agg yc) 11 rfl (by kernel_rfl) (by kernel_rfl) (by kernel_rfl) (fun _ _ _ h => h) (by rw [← HYC.out]; exact yields_load_obj (by rfl) 28 (.tmp 17) rfl P17 0 rfl (prefC ya yb) (fun w' hb => (Lows.blk hb 2 rfl).all) _ Try.underlying28 rfl HYU.out) (by assumption) ?_
              (try simp only [Act.put, List.setIfInBounds_toArray, List.set_cons_zero, List.set_cons_succ])
              refine take_first (v := ?_) 13 rfl (by kernel_rfl) (by kernel_rfl) (by kernel_rfl) (fun _ _ _ h => h) (Or.inl ⟨by rfl, ?_⟩) (by assumption) ?_
              rotate_left
              · (intro w hSw; (try dsimp only at hSw); go_simp; try with_reducible rfl)
              (try simp only [Act.put, List.setIfInBounds_toArray, List.set_cons_zero, List.set_cons_succ])
              refine take_first (v := .agg yc) 14 rfl (by kernel_rfl) (by kernel_rfl) (by kernel_rfl) (fun _ _ _ h => h) (by rw [← HYC.out]; exact yields_load_obj (by rfl) 28 (.tmp 17) rfl P17 0 rfl (prefC ya yb) (fun w' hb => (Lows.blk hb 2 rfl).all) _ Try.underlying28 rfl HYU.out) (by assumption) ?_
              (try simp only [Act.put, List.setIfInBounds_toArray, List.set_cons_zero, List.set_cons_succ])
              refine step_one 12 rfl (by kernel_rfl) (fun K hK => ?_)
              clear hHeld
              go_simp
              refine (HRM1.out Al cl _ HCL.out (HM.out.get (f := rtL Al nl ls) 5 rfl)).mono ?_
              rintro e wy3 ⟨A3, c3, rfl, -, hr7, hb⟩
              replace HM := Lib.hid (show Lows w [rtL A3 m2 l2, rtL A2 m1 l1, rtL A1 m1 l1, blkL P17 28 (prefC ya yb), blkL gy 28 f54, blkL P15 28 (prefC ka kb), rtL Al nl ls, blkL gs 23 [.slice A9 nn c9, .slice Ar mr cw], rtL Ar mr rr, blkL gp 28 (prefC pa pb), rtL A9 nn rs, blkL (w.heap.size + 1) 30 (kp.map u8v), blkL w.heap.size 28 (prefC aa ab)] wy3 from (HM.out.below hb).cons (rtL A3 m2 l2) (hr7))
              clear hb
              clear hr7
              go_wp2_with fail
              refine hK.out _ _ (HM.out.tail 0) (fun hHeld => ?_)
              clear hK K
              (try simp only [Act.put, List.setIfInBounds_toArray, List.set_cons_zero, List.set_cons_succ])
              refine wpAnyH_stronger (T := fun W' => Lows w [rtL A3 m2 l2, rtL A2 m1 l1, rtL A1 m1 l1, blkL P17 28 (prefC ya yb), blkL gy 28 f54, blkL P15 28 (prefC ka kb), rtL Al nl ls, blkL gs 23 [.slice A9 nn c9, .slice Ar mr cw], rtL Ar mr rr, blkL gp 28 (prefC pa pb), rtL A9 nn rs, blkL (w.heap.size + 1) 30 (kp.map u8v), blkL w.heap.size 28 (prefC aa ab)] W') (fun _ h' => (h'.tail 0)) _ _ _ _ ?_
              replace hHeld := HM.out
              refine step_one 15 rfl (by kernel_rfl) (fun K hK => ?_)
              clear hHeld
              go_simp
              refine (HRM2.out Al cl _ HCL.out (HM.out.get (f := rtL Al nl ls) 6 rfl)).mono ?_
              rintro e wy4 ⟨A4, c4, rfl, -, hr7, hb⟩
              replace HM := Lib.hid (show Lows w [rtL A4 m2 l2, rtL A3 m2 l2, rtL A2 m1 l1, rtL A1 m1 l1, blkL P17 28 (prefC ya yb), blkL gy 28 f54, blkL P15 28 (prefC ka kb), rtL Al nl ls, blkL gs 23 [.slice A9 nn c9, .slice Ar mr cw], rtL Ar mr rr, blkL gp 28 (prefC pa pb), rtL A9 nn rs, blkL (w.heap.size + 1) 30 (kp.map u8v), blkL w.heap.size 28 (prefC aa ab)] wy4 from (HM.out.below hb).cons (rtL A4 m2 l2) (hr7))
              clear hb
              clear hr7
              go_wp2_with fail
              refine hK.out _ _ (HM.out.tail 0) (fun hHeld => ?_)
              clear hK K
              (try simp only [Act.put, List.setIfInBounds_toArray, List.set_cons_zero, List.set_cons_succ])
              refine wpAnyH_stronger (T := fun W' => Lows w [rtL A4 m2 l2, rtL A3 m2 l2, rtL A2 m1 l1, rtL A1 m1 l1, blkL P17 28 (prefC ya yb), blkL gy 28 f54, blkL P15 28 (prefC ka kb), rtL Al nl ls, blkL gs 23 [.slice A9 nn c9, .slice Ar mr cw], rtL Ar mr rr, blkL gp 28 (prefC pa pb), rtL A9 nn rs, blkL (w.heap.size + 1) 30 (kp.map u8v), blkL w.heap.size 28 (prefC aa ab)] W') (fun _ h' => (h'.tail 0)) _ _ _ _ ?_
              replace hHeld := HM.out
              refine step_one 16 rfl (by kernel_rfl) (fun K hK => ?_)
              clear hHeld
              go_simp
              refine (same_any A3 A4 m2 c3 c4 l2 (by omega) _ (HM.out.get (f := rtL A3 m2 l2) 1 rfl) (HM.out.get (f := rtL A4 m2 l2) 0 rfl)).mono ?_
              rintro e wy5 ⟨rfl, hb⟩
              replace HM := Lib.hid (show Lows w [rtL A4 m2 l2, rtL A3 m2 l2, rtL A2 m1 l1, rtL A1 m1 l1, blkL P17 28 (prefC ya yb), blkL gy 28 f54, blkL P15 28 (prefC ka kb), rtL Al nl ls, blkL gs 23 [.slice A9 nn c9, .slice Ar mr cw], rtL Ar mr rr, blkL gp 28 (prefC pa pb), rtL A9 nn rs, blkL (w.heap.size + 1) 30 (kp.map u8v), blkL w.heap.size 28 (prefC aa ab)] wy5 from HM.out.below hb)
              clear hb
              go_wp2_with fail
              refine hK.out _ _ (HM.out) (fun hHeld => ?_)
              clear hK K
              (try simp only [Act.put, List.setIfInBounds_toArray, List.set_cons_zero, List.set_cons_succ])
              refine take_first (v := ?_) 17 rfl (by kernel_rfl) (by kernel_rfl) (by kernel_rfl) (fun _ _ _ h => h) (Or.inl ⟨by rfl, ?_⟩) (by assumption) ?_
              rotate_left
              · (intro w hSw; (try dsimp only at hSw); go_simp; try with_reducible rfl)
              (try simp only [Act.put, List.setIfInBounds_toArray, List.set_cons_zero, List.set_cons_succ])
              refine take_first (v := ?_) 18 rfl (by kernel_rfl) (by kernel_rfl) (by kernel_rfl) (fun _ _ _ h => h) (Or.inl ⟨by rfl, ?_⟩) (by assumption) ?_
              rotate_left
              · (intro w hSw; (try dsimp only at hSw); go_simp; try with_reducible rfl)
              (try simp only [Act.put, List.setIfInBounds_toArray, List.set_cons_zero, List.set_cons_succ])
              refine wpAnyH_done (by kernel_rfl) ?_ _
              clear hHeld
              have HF := Lib.hid (show Lows w [blkL gy 28 f54, blkL P15 28 (prefC ka kb), rtL Al nl ls, blkL gs 23 [.slice A9 nn c9, .slice Ar mr cw], rtL Ar mr rr, blkL gp 28 (prefC pa pb), rtL A9 nn rs, blkL (w.heap.size + 1) 30 (kp.map u8v), blkL w.heap.size 28 (prefC aa ab)] wy5 from ⟨fun f hf => HM.out.1 f (by simp only [List.mem_cons, List.not_mem_nil, or_false] at hf ⊢; rcases hf with h | h | h | h | h | h | h | h | h <;> simp [h]), HM.out.2⟩)
              clear HM
              go_wp2_with fail
              go_roundw
              case rel => exact ⟨j + 1, by omega, by go_num, HF.out⟩
              case measure => simp [intOf]; omega
            · obtain rfl : j = 3 := by omega
              replace HM := Lib.hid (show Lows w [rtL Al nl ls, blkL gs 23 [.slice A9 nn c9, .slice Ar mr cw], rtL Ar mr rr, blkL gp 28 (prefC pa pb), rtL A9 nn rs, blkL (w.heap.size + 1) 30 (kp.map u8v), blkL w.heap.size 28 (prefC aa ab)] wr from (HM.out.tail 0).tail 0)
              have HRK3 := Lib.hid (show ∀ r ∈ [kp.map u8v, (keyB 1).map u8v, (keyB 2).map u8v], r.length = 32 from fun r hr => by
                simp only [List.mem_cons, List.not_mem_nil, or_false] at hr
                rcases hr with rfl | rfl | rfl
                · rw [List.length_map]; exact HAA.out.2.2
                · rfl
                · rfl)
              go_wp2_with (first | (refine wpList_load_obj rfl 30 (.tmp 9) rfl (w.heap.size + 1) 0 rfl (kp.map u8v) ((HM.out.blk 5 rfl).all) _ Try.underlying30 rfl HKU.out ?_; rw [HCK.out]) | (refine wpList_build_as rfl 30 [(0, .const (.int .u8 1))] rfl k1 ?_ ?_; exact HB1.out) | (refine wpList_build_as rfl 30 [(0, .const (.int .u8 2))] rfl k2 ?_ ?_; exact HB2.out) | (refine wpList_buildRows rfl 44 30 3 [(0, .tmp 105), (1, .tmp 106), (2, .tmp 107)] rfl [kp.map u8v, (keyB 1).map u8v, (keyB 2).map u8v] rfl (rows3_eq HCK.out HK1.out HK2.out).symm 32 Try.underlying44 ikk HKI.out.1 HKI.out.2.2.1 _ HKI.out.2.1 (by omega) (by omega) (by omega) HRK3.out ?_))
              obtain ⟨f96, hf96⟩ : ∃ z, List.flatten [kp.map u8v, (keyB 1).map u8v, (keyB 2).map u8v] = z := ⟨_, rfl⟩
              have hm8 := HM.out.alloc 30 (List.map u8v kp ++ (List.map u8v (keyB 1) ++ List.map u8v (keyB 2))).toArray f96 (by rw [← hf96]; simp)
              generalize wr.alloc (.cells (List.map u8v kp ++ (List.map u8v (keyB 1) ++ List.map u8v (keyB 2))).toArray 30) = w8 at hm8 ⊢
              generalize wr.heap.size = gz at hm8 ⊢
              have HJK := Lib.hid (show ∀ j, j < 3 → ∃ zk : List UInt8, zk.length = 32 ∧ ∀ W, Blk W gz 30 f96 → At W gz (j * 32) (zk.map u8v) from fun j hj => by
                rcases (show j = 0 ∨ j = 1 ∨ j = 2 by omega) with rfl | rfl | rfl
                · exact ⟨kp, HAA.out.2.2, fun W h => flat_part 32 _ 0 HRK3.out _ rfl (hf96 ▸ h)⟩
                · exact ⟨keyB 1, rfl, fun W h => flat_part 32 _ 1 HRK3.out _ rfl (hf96 ▸ h)⟩
                · exact ⟨keyB 2, rfl, fun W h => flat_part 32 _ 2 HRK3.out _ rfl (hf96 ▸ h)⟩)
              replace HM := Lib.hid (show Lows w [blkL gz 30 f96, rtL Al nl ls, blkL gs 23 [.slice A9 nn c9, .slice Ar mr cw], rtL Ar mr rr, blkL gp 28 (prefC pa pb), rtL A9 nn rs, blkL (w.heap.size + 1) 30 (kp.map u8v), blkL w.heap.size 28 (prefC aa ab)] w8 from hm8)
              clear hm8 hf96
              go_loopw [110] (fun i wr => ∃ j : Nat, j ≤ 3 ∧ i = .int .i64 (j : Int) ∧ Lows w [blkL gz 30 f96, rtL Al nl ls, blkL gs 23 [.slice A9 nn c9, .slice Ar mr cw], rtL Ar mr rr, blkL gp 28 (prefC pa pb), rtL A9 nn rs, blkL (w.heap.size + 1) 30 (kp.map u8v), blkL w.heap.size 28 (prefC aa ab)] wr) (fun i _ => 3 - (intOf i).toNat)
              case atStart => exact ⟨0, Nat.zero_le _, rfl, HM.out⟩
              case round =>
                clear HM
                obtain ⟨j, hj, rfl, hM⟩ := hrel
                have HM := Lib.hid hM
                clear hM
                by_cases hj3 : j < 3
                · have d1 : decide ((j : Int) < 3) = true := by simp; omega
                  obtain ⟨zk, hzk, hzat⟩ := HJK.out j hj3
                  have HZO := Lib.hid hzk
                  have HZU := Lib.hid (key_cellsOf zk hzk)
                  have HZA := Lib.hid (hzat _ (HM.out.blk 0 rfl))
                  obtain ⟨zc, hzc⟩ : ∃ z, (zk.map u8v).toArray = z := ⟨_, rfl⟩
                  have HZC := Lib.hid hzc
                  obtain ⟨l3, hl3⟩ : ∃ z, remPeerM ls zk = z := ⟨_, rfl⟩
                  obtain ⟨m3, hm3⟩ : ∃ z, l3.length = z := ⟨_, rfl⟩
                  obtain ⟨l4, hl4⟩ : ∃ z, ofM ls zk = z := ⟨_, rfl⟩
                  obtain ⟨m4, hm4⟩ : ∃ z, l4.length = z := ⟨_, rfl⟩
                  have hlsn := (HM.out.get (f := rtL Al nl ls) 1 rfl).len
                  have hm3b : m3 ≤ 18 := by rw [← hm3, ← hl3]; exact Nat.le_trans (remPeerM_le _ _) (by omega)
                  have hm4b : m4 ≤ 18 := by rw [← hm4, ← hl4]; exact Nat.le_trans (ofM_le _ _) (by omega)
                  have HRP1 := Lib.hid (remP_use HRPH.out (n := nl) hl3 hm3 (by omega) hzk)
                  have HRP2 := Lib.hid (remP_use refRemPC (n := nl) hl3 hm3 (by omega) hzk)
                  have HOF1 := Lib.hid (of_use HOFH.out (n := nl) hl4 hm4 (by omega) hzk)
                  have HOF2 := Lib.hid (of_use refOfC (n := nl) hl4 hm4 (by omega) hzk)
                  rw [hzc] at HRP1 HRP2 HOF1 HOF2
                  clear hzk hzat hzc hl3 hm3 hl4 hm4 hlsn
                  have HZ := Lib.hid (Blk.new wr 30 (aeZ 32))
                  go_upto_region 20 with (first | (refine wpList_load_obj rfl 30 (.tmp 112) rfl gz _ rfl (zk.map u8v) HZA.out _ Try.underlying30 rfl HZU.out ?_; rw [HZC.out]) | (refine wpList_store_obj rfl 30 (.tmp 23) (.tmp 113) rfl wr.heap.size 0 (zk.map u8v) rfl (by show Value.agg zc = _; rw [HZC.out]) 30 (aeZ 32) HZ.out HZU.out (by rw [List.length_map, HZO.out]; decide) (u8v_one _) ?_; intro w12 hb9 hg9))
                  rw [setL_all _ _ (by rw [List.length_map, HZO.out]; rfl)] at hb9
                  replace HM := Lib.hid (show Lows w [blkL wr.heap.size 30 (zk.map u8v), blkL gz 30 f96, rtL Al nl ls, blkL gs 23 [.slice A9 nn c9, .slice Ar mr cw], rtL Ar mr rr, blkL gp 28 (prefC pa pb), rtL A9 nn rs, blkL (w.heap.size + 1) 30 (kp.map u8v), blkL w.heap.size 28 (prefC aa ab)] w12 from HM.out.stored hg9 hb9)
                  clear hb9 hg9 HZ HZA d1
                  generalize wr.heap.size = P23 at HM ⊢
                  (try simp only [Act.put])
                  refine wp_region_held_drew (S := fun W' => Lows w [blkL P23 30 (zk.map u8v), blkL gz 30 f96, rtL Al nl ls, blkL gs 23 [.slice A9 nn c9, .slice Ar mr cw], rtL Ar mr rr, blkL gp 28 (prefC pa pb), rtL A9 nn rs, blkL (w.heap.size + 1) 30 (kp.map u8v), blkL w.heap.size 28 (prefC aa ab)] W') (by kernel_rfl) (HM.out.drew) (fun hHeld => ?_)
                  replace HM := Lib.hid HM.out.drew
                  generalize w12.drew = wd1 at HM hHeld ⊢
                  refine take_first (v := ?_) 0 rfl (by kernel_rfl) (by kernel_rfl) (by kernel_rfl) (fun _ _ _ h => h) (Or.inl ⟨by rfl, ?_⟩) (by assumption) ?_
                  rotate_left
                  · (intro w hSw; (try dsimp only at hSw); go_simp; try with_reducible rfl)
                  (try simp only [Act.put, List.setIfInBounds_toArray, List.set_cons_zero, List.set_cons_succ])
                  refine take_first (v := .agg zc) 1 rfl (by kernel_rfl) (by kernel_rfl) (by kernel_rfl) (fun _ _ _ h => h) (by rw [← HZC.out]; exact yields_load_obj (by rfl) 30 (.tmp 23) rfl P23 0 rfl (zk.map u8v) (fun w' hb => (Lows.blk hb 0 rfl).all) _ Try.underlying30 rfl HZU.out) (by assumption) ?_
                  (try simp only [Act.put, List.setIfInBounds_toArray, List.set_cons_zero, List.set_cons_succ])
                  refine take_first (v := ?_) 3 rfl (by kernel_rfl) (by kernel_rfl) (by kernel_rfl) (fun _ _ _ h => h) (Or.inl ⟨by rfl, ?_⟩) (by assumption) ?_
                  rotate_left
                  · (intro w hSw; (try dsimp only at hSw); go_simp; try with_reducible rfl)
                  (try simp only [Act.put, List.setIfInBounds_toArray, List.set_cons_zero, List.set_cons_succ])
                  refine take_first (v := .agg zc) 4 rfl (by kernel_rfl) (by kernel_rfl) (by kernel_rfl) (fun _ _ _ h => h) (by rw [← HZC.out]; exact yields_load_obj (by rfl) 30 (.tmp 23) rfl P23 0 rfl (zk.map u8v) (fun w' hb => (Lows.blk hb 0 rfl).all) _ Try.underlying30 rfl HZU.out) (by assumption) ?_
                  (try simp only [Act.put, List.setIfInBounds_toArray, List.set_cons_zero, List.set_cons_succ])
                  refine step_one 2 rfl (by kernel_rfl) (fun K hK => ?_)
                  clear hHeld
                  go_simp
                  refine (HRP1.out Al cl _ HCL.out (HM.out.get (f := rtL Al nl ls) 2 rfl)).mono ?_
                  rintro e wy2 ⟨A5, c5, rfl, -, hr7, hb⟩
                  replace HM := Lib.hid (show Lows w [rtL A5 m3 l3, blkL P23 30 (zk.map u8v), blkL gz 30 f96, rtL Al nl ls, blkL gs 23 [.slice A9 nn c9, .slice Ar mr cw], rtL Ar mr rr, blkL gp 28 (prefC pa pb), rtL A9 nn rs, blkL (w.heap.size + 1) 30 (kp.map u8v), blkL w.heap.size 28 (prefC aa ab)] wy2 from (HM.out.below hb).cons (rtL A5 m3 l3) (hr7))
                  clear hb
                  clear hr7
                  go_wp2_with fail
                  refine hK.out _ _ (HM.out.tail 0) (fun hHeld => ?_)
                  clear hK K
                  (try simp only [Act.put, List.setIfInBounds_toArray, List.set_cons_zero, List.set_cons_succ])
                  refine wpAnyH_stronger (T := fun W' => Lows w [rtL A5 m3 l3, blkL P23 30 (zk.map u8v), blkL gz 30 f96, rtL Al nl ls, blkL gs 23 [.slice A9 nn c9, .slice Ar mr cw], rtL Ar mr rr, blkL gp 28 (prefC pa pb), rtL A9 nn rs, blkL (w.heap.size + 1) 30 (kp.map u8v), blkL w.heap.size 28 (prefC aa ab)] W') (fun _ h' => (h'.tail 0)) _ _ _ _ ?_
                  replace hHeld := HM.out
                  refine step_one 5 rfl (by kernel_rfl) (fun K hK => ?_)
                  clear hHeld
                  go_simp
                  refine (HRP2.out Al cl _ HCL.out (HM.out.get (f := rtL Al nl ls) 3 rfl)).mono ?_
                  rintro e wy3 ⟨A6, c6, rfl, -, hr7, hb⟩
                  replace HM := Lib.hid (show Lows w [rtL A6 m3 l3, rtL A5 m3 l3, blkL P23 30 (zk.map u8v), blkL gz 30 f96, rtL Al nl ls, blkL gs 23 [.slice A9 nn c9, .slice Ar mr cw], rtL Ar mr rr, blkL gp 28 (prefC pa pb), rtL A9 nn rs, blkL (w.heap.size + 1) 30 (kp.map u8v), blkL w.heap.size 28 (prefC aa ab)] wy3 from (HM.out.below hb).cons (rtL A6 m3 l3) (hr7))
                  clear hb
                  clear hr7
                  go_wp2_with fail
                  refine hK.out _ _ (HM.out.tail 0) (fun hHeld => ?_)
                  clear hK K
                  (try simp only [Act.put, List.setIfInBounds_toArray, List.set_cons_zero, List.set_cons_succ])
                  refine wpAnyH_stronger (T := fun W' => Lows w [rtL A6 m3 l3, rtL A5 m3 l3, blkL P23 30 (zk.map u8v), blkL gz 30 f96, rtL Al nl ls, blkL gs 23 [.slice A9 nn c9, .slice Ar mr cw], rtL Ar mr rr, blkL gp 28 (prefC pa pb), rtL A9 nn rs, blkL (w.heap.size + 1) 30 (kp.map u8v), blkL w.heap.size 28 (prefC aa ab)] W') (fun _ h' => (h'.tail 0)) _ _ _ _ ?_
                  replace hHeld := HM.out
                  refine step_one 6 rfl (by kernel_rfl) (fun K hK => ?_)
                  clear hHeld
                  go_simp
                  refine (same_any A5 A6 m3 c5 c6 l3 (by omega) _ (HM.out.get (f := rtL A5 m3 l3) 1 rfl) (HM.out.get (f := rtL A6 m3 l3) 0 rfl)).mono ?_
                  rintro e wy4 ⟨rfl, hb⟩
                  replace HM := Lib.hid (show Lows w [rtL A6 m3 l3, rtL A5 m3 l3, blkL P23 30 (zk.map u8v), blkL gz 30 f96, rtL Al nl ls, blkL gs 23 [.slice A9 nn c9, .slice Ar mr cw], rtL Ar mr rr, blkL gp 28 (prefC pa pb), rtL A9 nn rs, blkL (w.heap.size + 1) 30 (kp.map u8v), blkL w.heap.size 28 (prefC aa ab)] wy4 from HM.out.below hb)
                  clear hb
                  go_wp2_with fail
                  refine hK.out _ _ (HM.out) (fun hHeld => ?_)
                  clear hK K
                  (try simp only [Act.put, List.setIfInBounds_toArray, List.set_cons_zero, List.set_cons_succ])
                  refine take_first (v := ?_) 7 rfl (by kernel_rfl) (by kernel_rfl) (by kernel_rfl) (fun _ _ _ h => h) (Or.inl ⟨by rfl, ?_⟩) (by assumption) ?_
                  rotate_left
                  · (intro w hSw; (try dsimp only at hSw); go_simp; try with_reducible rfl)
                  (try simp only [Act.put, List.setIfInBounds_toArray, List.set_cons_zero, List.set_cons_succ])
                  refine take_first (v := ?_) 8 rfl (by kernel_rfl) (by kernel_rfl) (by kernel_rfl) (fun _ _ _ h => h) (Or.inl ⟨by rfl, ?_⟩) (by assumption) ?_
                  rotate_left
                  · (intro w hSw; (try dsimp only at hSw); go_simp; try with_reducible rfl)
                  (try simp only [Act.put, List.setIfInBounds_toArray, List.set_cons_zero, List.set_cons_succ])
                  refine take_first (v := ?_) 9 rfl (by kernel_rfl) (by kernel_rfl) (by kernel_rfl) (fun _ _ _ h => h) (Or.inl ⟨by rfl, ?_⟩) (by assumption) ?_
                  rotate_left
                  · (intro w hSw; (try dsimp only at hSw); go_simp; try with_reducible rfl)
                  (try simp only [Act.put, List.setIfInBounds_toArray, List.set_cons_zero, List.set_cons_succ])
                  refine take_first (v := .agg zc) 10 rfl (by kernel_rfl) (by kernel_rfl) (by kernel_rfl) (fun _ _ _ h => h) (by rw [← HZC.out]; exact yields_load_obj (by rfl) 30 (.tmp 23) rfl P23 0 rfl (zk.map u8v) (fun w' hb => (Lows.blk hb 2 rfl).all) _ Try.underlying30 rfl HZU.out) (by assumption) ?_
                  (try simp only [Act.put, List.setIfInBounds_toArray, List.set_cons_zero, List.set_cons_succ])
                  refine take_first (v := ?_) 12 rfl (by kernel_rfl) (by kernel_rfl) (by kernel_rfl) (fun _ _ _ h => h) (Or.inl ⟨by rfl, ?_⟩) (by assumption) ?_
                  rotate_left
                  · (intro w hSw; (try dsimp only at hSw); go_simp; try with_reducible rfl)
                  (try simp only [Act.put, List.setIfInBounds_toArray, List.set_cons_zero, List.set_cons_succ])
                  refine take_first (v := .agg zc) 13 rfl (by kernel_rfl) (by kernel_rfl) (by kernel_rfl) (fun _ _ _ h => h) (by rw [← HZC.out]; exact yields_load_obj (by rfl) 30 (.tmp 23) rfl P23 0 rfl (zk.map u8v) (fun w' hb => (Lows.blk hb 2 rfl).all) _ Try.underlying30 rfl HZU.out) (by assumption) ?_
                  (try simp only [Act.put, List.setIfInBounds_toArray, List.set_cons_zero, List.set_cons_succ])
                  refine step_one 11 rfl (by kernel_rfl) (fun K hK => ?_)
                  clear hHeld
                  go_simp
                  refine (HOF1.out Al cl _ HCL.out (HM.out.get (f := rtL Al nl ls) 4 rfl)).mono ?_
                  rintro e wy5 ⟨A7, c7, rfl, hr7, hb⟩
                  replace HM := Lib.hid (show Lows w [pfL A7 m4 l4, rtL A6 m3 l3, rtL A5 m3 l3, blkL P23 30 (zk.map u8v), blkL gz 30 f96, rtL Al nl ls, blkL gs 23 [.slice A9 nn c9, .slice Ar mr cw], rtL Ar mr rr, blkL gp 28 (prefC pa pb), rtL A9 nn rs, blkL (w.heap.size + 1) 30 (kp.map u8v), blkL w.heap.size 28 (prefC aa ab)] wy5 from (HM.out.below hb).cons (pfL A7 m4 l4) (hr7))
                  clear hb
                  clear hr7
                  go_wp2_with fail
                  refine hK.out _ _ (HM.out.tail 0) (fun hHeld => ?_)
                  clear hK K
                  (try simp only [Act.put, List.setIfInBounds_toArray, List.set_cons_zero, List.set_cons_succ])
                  refine wpAnyH_stronger (T := fun W' => Lows w [pfL A7 m4 l4, rtL A6 m3 l3, rtL A5 m3 l3, blkL P23 30 (zk.map u8v), blkL gz 30 f96, rtL Al nl ls, blkL gs 23 [.slice A9 nn c9, .slice Ar mr cw], rtL Ar mr rr, blkL gp 28 (prefC pa pb), rtL A9 nn rs, blkL (w.heap.size + 1) 30 (kp.map u8v), blkL w.heap.size 28 (prefC aa ab)] W') (fun _ h' => (h'.tail 0)) _ _ _ _ ?_
                  replace hHeld := HM.out
                  refine step_one 14 rfl (by kernel_rfl) (fun K hK => ?_)
                  clear hHeld
                  go_simp
                  refine (HOF2.out Al cl _ HCL.out (HM.out.get (f := rtL Al nl ls) 5 rfl)).mono ?_
                  rintro e wy6 ⟨A8, c8, rfl, hr7, hb⟩
                  replace HM := Lib.hid (show Lows w [pfL A8 m4 l4, pfL A7 m4 l4, rtL A6 m3 l3, rtL A5 m3 l3, blkL P23 30 (zk.map u8v), blkL gz 30 f96, rtL Al nl ls, blkL gs 23 [.slice A9 nn c9, .slice Ar mr cw], rtL Ar mr rr, blkL gp 28 (prefC pa pb), rtL A9 nn rs, blkL (w.heap.size + 1) 30 (kp.map u8v), blkL w.heap.size 28 (prefC aa ab)] wy6 from (HM.out.below hb).cons (pfL A8 m4 l4) (hr7))
                  clear hb
                  clear hr7
                  go_wp2_with fail
                  refine hK.out _ _ (HM.out.tail 0) (fun hHeld => ?_)
                  clear hK K
                  (try simp only [Act.put, List.setIfInBounds_toArray, List.set_cons_zero, List.set_cons_succ])
                  refine wpAnyH_stronger (T := fun W' => Lows w [pfL A8 m4 l4, pfL A7 m4 l4, rtL A6 m3 l3, rtL A5 m3 l3, blkL P23 30 (zk.map u8v), blkL gz 30 f96, rtL Al nl ls, blkL gs 23 [.slice A9 nn c9, .slice Ar mr cw], rtL Ar mr rr, blkL gp 28 (prefC pa pb), rtL A9 nn rs, blkL (w.heap.size + 1) 30 (kp.map u8v), blkL w.heap.size 28 (prefC aa ab)] W') (fun _ h' => (h'.tail 0)) _ _ _ _ ?_
                  replace hHeld := HM.out
                  refine step_one 15 rfl (by kernel_rfl) (fun K hK => ?_)
                  clear hHeld
                  go_simp
                  refine (prefixes_any A7 A8 m4 c7 c8 l4 (by omega) _ (HM.out.get (f := pfL A7 m4 l4) 1 rfl) (HM.out.get (f := pfL A8 m4 l4) 0 rfl)).mono ?_
                  rintro e wy7 ⟨rfl, hb⟩
                  replace HM := Lib.hid (show Lows w [pfL A8 m4 l4, pfL A7 m4 l4, rtL A6 m3 l3, rtL A5 m3 l3, blkL P23 30 (zk.map u8v), blkL gz 30 f96, rtL Al nl ls, blkL gs 23 [.slice A9 nn c9, .slice Ar mr cw], rtL Ar mr rr, blkL gp 28 (prefC pa pb), rtL A9 nn rs, blkL (w.heap.size + 1) 30 (kp.map u8v), blkL w.heap.size 28 (prefC aa ab)] wy7 from HM.out.below hb)
                  clear hb
                  go_wp2_with fail
                  refine hK.out _ _ (HM.out) (fun hHeld => ?_)
                  clear hK K
                  (try simp only [Act.put, List.setIfInBounds_toArray, List.set_cons_zero, List.set_cons_succ])
                  refine take_first (v := ?_) 16 rfl (by kernel_rfl) (by kernel_rfl) (by kernel_rfl) (fun _ _ _ h => h) (Or.inl ⟨by rfl, ?_⟩) (by assumption) ?_
                  rotate_left
                  · (intro w hSw; (try dsimp only at hSw); go_simp; try with_reducible rfl)
                  (try simp only [Act.put, List.setIfInBounds_toArray, List.set_cons_zero, List.set_cons_succ])
                  refine take_first (v := ?_) 17 rfl (by kernel_rfl) (by kernel_rfl) (by kernel_rfl) (fun _ _ _ h => h) (Or.inl ⟨by rfl, ?_⟩) (by assumption) ?_
                  rotate_left
                  · (intro w hSw; (try dsimp only at hSw); go_simp; try with_reducible rfl)
                  (try simp only [Act.put, List.setIfInBounds_toArray, List.set_cons_zero, List.set_cons_succ])
                  refine wpAnyH_done (by kernel_rfl) ?_ _
                  clear hHeld
                  have HF := Lib.hid (show Lows w [blkL gz 30 f96, rtL Al nl ls, blkL gs 23 [.slice A9 nn c9, .slice Ar mr cw], rtL Ar mr rr, blkL gp 28 (prefC pa pb), rtL A9 nn rs, blkL (w.heap.size + 1) 30 (kp.map u8v), blkL w.heap.size 28 (prefC aa ab)] wy7 from ⟨fun f hf => HM.out.1 f (by simp only [List.mem_cons, List.not_mem_nil, or_false] at hf ⊢; rcases hf with h | h | h | h | h | h | h | h <;> simp [h]), HM.out.2⟩)
                  clear HM
                  go_wp2_with fail
                  go_roundw
                  case rel => exact ⟨j + 1, by omega, by go_num, HF.out⟩
                  case measure => simp [intOf]; omega
                · obtain rfl : j = 3 := by omega
                  replace HM := Lib.hid (show Lows w [rtL Al nl ls, blkL gs 23 [.slice A9 nn c9, .slice Ar mr cw], rtL Ar mr rr, blkL gp 28 (prefC pa pb), rtL A9 nn rs, blkL (w.heap.size + 1) 30 (kp.map u8v), blkL w.heap.size 28 (prefC aa ab)] wr from HM.out.tail 0)
                  obtain ⟨yv, hyv⟩ : ∃ z, validRoutesM ls = z := ⟨_, rfl⟩
                  have HV1 := Lib.hid (valid_use HVLH.out (n := nl) hyv (by omega))
                  have HV2 := Lib.hid (valid_use refValidC (n := nl) hyv (by omega))
                  have hvv : (yv != yv) = false := by cases yv <;> rfl
                  clear hyv
                  go_wp2_with fail
                  refine (HV1.out Al cl _ HCL.out (HM.out.get (f := rtL Al nl ls) 0 rfl)).mono ?_
                  rintro e w14 ⟨rfl, hb⟩
                  replace HM := Lib.hid (HM.out.below hb)
                  clear hb HV1
                  go_wp2_with fail
                  refine (HV2.out Al cl _ HCL.out (HM.out.get (f := rtL Al nl ls) 0 rfl)).mono ?_
                  rintro e w15 ⟨rfl, hb⟩
                  replace HM := Lib.hid (show Lows w [blkL gs 23 [.slice A9 nn c9, .slice Ar mr cw], rtL Ar mr rr, blkL gp 28 (prefC pa pb), rtL A9 nn rs, blkL (w.heap.size + 1) 30 (kp.map u8v), blkL w.heap.size 28 (prefC aa ab)] w15 from (HM.out.below hb).tail 0)
                  clear hb HV2
                  go_wp2_with fail
                  go_roundw
                  case rel => exact ⟨k + 1, by omega, by go_num, HM.out⟩
                  case measure => simp [intOf]; omega
    · obtain rfl : k = 2 := by omega
      have HV1 := Lib.hid (valid_use HVLH.out (n := nn) (valid_sorted.2 ⟨HSO.out.1, by rw [HNN.out]; omega⟩) (by omega))
      go_wp2_with fail
      refine (HV1.out A9 c9 _ HCP.out (HM.out.get (f := rtL A9 nn rs) 3 rfl)).mono ?_
      rintro e w14 ⟨rfl, hb⟩
      replace HM := Lib.hid (HM.out.below hb)
      clear hb HV1
      go_wp2_with fail
      refine (HBG.out _).mono ?_
      rintro e w15 ⟨rfl, hb⟩
      have HF := Lib.hid (HM.out.below hb).bel
      clear hb HM
      go_wp2_with fail
      go_ret
      exact ⟨rfl, HF.out⟩
end Go.Proofs.Ytnblofbbbkjhpaa
namespace Go.Proofs.Ytnblofbbbkjhpaa
open Go.RowKit

/-- a byte without the bits behind the first m -/
def cutByte (x : UInt8) (m : Nat) : UInt8 := x &&& ~~~(UInt8.ofNat (255 / 2 ^ m))
theorem cut_all : ∀ m : Fin 8, ∀ n : Fin 256, bits BinOp.andNot IntKind.u8 (n.val : Int) ((255 / 2 ^ m.val : Nat) : Int) = ((cutByte (UInt8.ofNat n.val) m.val).toNat : Int) := by decide +kernel
theorem cut_bits (x : UInt8) (m : Nat) (h : m < 8) : bits BinOp.andNot IntKind.u8 (x.toNat : Int) (255 / 2 ^ m) = ((cutByte x m).toNat : Int) := by
  have h1 := cut_all ⟨m, h⟩ ⟨x.toNat, x.toNat_lt⟩
  simp only [UInt8.ofNat_toNat] at h1
  rw [← h1, Int.natCast_ediv, Int.natCast_pow]
  rfl
theorem bit_cut_all : ∀ m : Fin 8, ∀ k : Fin 8, ∀ x : Fin 256, (cutByte (UInt8.ofNat x.val) m.val).toNat / 2 ^ (7 - k.val) % 2 = if k.val < m.val then x.val / 2 ^ (7 - k.val) % 2 else 0 := by decide +kernel
theorem bit_cut (x : UInt8) (m k : Nat) (hm : m < 8) (hk : k < 8) : (cutByte x m).toNat / 2 ^ (7 - k) % 2 = if k < m then x.toNat / 2 ^ (7 - k) % 2 else 0 := by
  have h := bit_cut_all ⟨m, hm⟩ ⟨k, hk⟩ ⟨x.toNat, x.toNat_lt⟩
  simp only [UInt8.ofNat_toNat] at h
  exact h
/-- an address without the bits behind the first k -/
def firstM (a : AddrM) (k : Nat) : AddrM := if k / 8 < 16 then ⟨a.six, (a.ip.set (k / 8) (cutByte (a.ip.getD (k / 8) 0) (k % 8))).take (k / 8 + 1) ++ List.replicate (15 - k / 8) 0⟩ else a
theorem firstM_ok (a : AddrM) (h : a.ok) (k : Nat) : (firstM a k).ok := by
  unfold firstM
  split
  · simp only [AddrM.ok, List.length_append, List.length_take, List.length_set, List.length_replicate]
    have : a.ip.length = 16 := h
    omega
  · exact h
theorem firstM_six (a : AddrM) (k : Nat) : (firstM a k).six = a.six := by unfold firstM; split <;> rfl
theorem firstM_bit (a : AddrM) (h : a.ok) (k i : Nat) (hi : i < 128) : bitM (firstM a k).ip i = if i < k then bitM a.ip i else 0 := by
  have hl : a.ip.length = 16 := h
  unfold firstM
  by_cases hk : k / 8 < 16
  · rw [if_pos hk]
    unfold bitM
    dsimp only
    rw [List.getD_eq_getElem?_getD, List.getElem?_append, List.length_take, List.length_set, List.getElem?_take]
    by_cases h1 : i / 8 < k / 8
    · rw [if_pos (by omega), if_pos (by omega), List.getElem?_set_ne (by omega), if_pos (by omega), ← List.getD_eq_getElem?_getD]
    · by_cases h2 : i / 8 = k / 8
      · rw [if_pos (by omega), if_pos (by omega), h2, List.getElem?_set_self (by omega), Option.getD_some, bit_cut _ _ _ (by omega) (by omega)]
        by_cases h3 : i % 8 < k % 8
        · rw [if_pos h3, if_pos (by omega)]
        · rw [if_neg h3, if_neg (by omega)]
      · rw [if_neg (by omega), if_neg (by omega), List.getElem?_replicate]
        split <;> simp
  · rw [if_neg hk, if_pos (by omega)]
/-- bytes whose bits are the same are the same -/
theorem byte_sum : ∀ x : Fin 256, x.val = 128 * (x.val / 2 ^ (7 - 0) % 2) + 64 * (x.val / 2 ^ (7 - 1) % 2) + 32 * (x.val / 2 ^ (7 - 2) % 2) + 16 * (x.val / 2 ^ (7 - 3) % 2) + 8 * (x.val / 2 ^ (7 - 4) % 2) + 4 * (x.val / 2 ^ (7 - 5) % 2) + 2 * (x.val / 2 ^ (7 - 6) % 2) + x.val / 2 ^ (7 - 7) % 2 := by decide +kernel
theorem byte_bits (x y : UInt8) (h : ∀ k, k < 8 → x.toNat / 2 ^ (7 - k) % 2 = y.toNat / 2 ^ (7 - k) % 2) : x = y := by
  have hx := byte_sum ⟨x.toNat, x.toNat_lt⟩
  have hy := byte_sum ⟨y.toNat, y.toNat_lt⟩
  simp only [] at hx hy
  rw [h 0 (by omega), h 1 (by omega), h 2 (by omega), h 3 (by omega), h 4 (by omega), h 5 (by omega), h 6 (by omega), h 7 (by omega), ← hy] at hx
  exact UInt8.toNat.inj hx
theorem ip_bits (l m : List UInt8) (hl : l.length = 16) (hm : m.length = 16) (h : ∀ i, i < 128 → bitM l i = bitM m i) : l = m := by
  apply List.ext_getElem (by omega)
  intro j h1 h2
  refine byte_bits _ _ (fun k hk => ?_)
  have := h (8 * j + k) (by omega)
  unfold bitM at this
  rw [show (8 * j + k) / 8 = j by omega, show (8 * j + k) % 8 = k by omega, List.getD_eq_getElem?_getD, List.getElem?_eq_getElem h1, List.getD_eq_getElem?_getD, List.getElem?_eq_getElem h2] at this
  exact this
theorem AddrM.ext_bits (a b : AddrM) (ha : a.ok) (hb : b.ok) (h6 : a.six = b.six) (h : ∀ i, i < 128 → bitM a.ip i = bitM b.ip i) : a = b := by
  have hi := ip_bits _ _ ha hb h
  cases a; cases b
  simp_all
theorem firstM_eq (a b : AddrM) (ha : a.ok) (hb : b.ok) (k : Nat) : firstM a k = b ↔ a.six = b.six ∧ ∀ i, i < 128 → (if i < k then bitM a.ip i else 0) = bitM b.ip i := by
  constructor
  · rintro rfl
    exact ⟨(firstM_six a k).symm, fun i hi => (firstM_bit a ha k i hi).symm⟩
  · rintro ⟨h6, h⟩
    exact AddrM.ext_bits _ _ (firstM_ok a ha k) hb ((firstM_six a k).trans h6) (fun i hi => (firstM_bit a ha k i hi).trans (h i hi))
theorem cells_inj (a b : AddrM) (h : a.cells = b.cells) : a = b := by
  cases a; cases b
  simp only [AddrM.cells, List.cons.injEq] at h
  obtain ⟨h1, h2⟩ := h
  injection h1 with h1
  subst h1
  congr 1
  refine List.map_inj_right ?_ |>.1 h2
  intro x y hxy
  have : ((x.toNat : Nat) : Int) = (y.toNat : Int) := by simpa [u8v] using hxy
  exact UInt8.toNat.inj (by omega)
/-- the bytes of IPv4 behind the fourth are zero exactly if the bits behind the 32nd are -/
theorem sound_first (a : AddrM) (h : a.ok) : soundM a = decide (firstM a (widthM a) = a) := by
  rw [Bool.eq_iff_iff, decide_eq_true_iff, firstM_eq a a h h]
  cases h6 : a.six with
  | true =>
    rw [soundM, h6, widthM, h6]
    simp only [Bool.true_or, true_and, true_iff, if_true]
    intro i hi
    rw [if_pos hi]
  | false =>
    rw [soundM_four a h h6, widthM, h6]
    simp only [true_and]
    constructor
    · intro hz i hi
      by_cases hlt : i < 32
      · rw [if_pos (by simpa using hlt)]
      · rw [if_neg (by simpa using hlt)]
        have := hz (i / 8 - 4) (by omega)
        rw [show 4 + (i / 8 - 4) = i / 8 by omega] at this
        rw [bitM, this]
        simp
    · intro hz j hj
      refine byte_bits _ _ (fun k hk => ?_)
      have := hz (8 * (4 + j) + k) (by omega)
      rw [if_neg (by simp; omega)] at this
      unfold bitM at this
      rw [show (8 * (4 + j) + k) / 8 = 4 + j by omega, show (8 * (4 + j) + k) % 8 = k by omega] at this
      rw [← this]
      simp
theorem valid_first (a : AddrM) (h : a.ok) (bits : Int) : validM a bits = (decide (0 ≤ bits) && (decide (bits ≤ (widthM a : Int)) && decide (firstM a bits.toNat = a))) := by
  by_cases h0 : 0 ≤ bits
  · by_cases h1 : bits ≤ (widthM a : Int)
    · rw [decide_eq_true h0, decide_eq_true h1, Bool.true_and, Bool.true_and, Bool.eq_iff_iff, decide_eq_true_iff, firstM_eq a a h h]
      constructor
      · intro hv
        have hs : soundM a = true := by rw [validM] at hv; exact (Bool.and_eq_true _ _ ▸ hv).1
        rw [validM_iff a bits hs h0 h1] at hv
        refine ⟨rfl, fun i hi => ?_⟩
        by_cases hlt : i < bits.toNat
        · rw [if_pos hlt]
        · rw [if_neg hlt, hv i (by omega) hi]
      · rintro ⟨_, hv⟩
        have hs : soundM a = true := by
          rw [sound_first a h, decide_eq_true_iff, firstM_eq a a h h]
          refine ⟨rfl, fun i hi => ?_⟩
          by_cases hlt : i < widthM a
          · rw [if_pos hlt]
          · have := hv i hi
            rw [if_neg (by omega)] at this
            rw [if_neg hlt, this]
        rw [validM_iff a bits hs h0 h1]
        intro i hb hi
        have := hv i hi
        rw [if_neg (by omega)] at this
        exact this.symm
    · rw [decide_eq_true h0, decide_eq_false h1, validM, decide_eq_true h0, decide_eq_false h1]
      simp
  · rw [decide_eq_false h0, validM, decide_eq_false h0]
    simp
theorem contains_first (a x : AddrM) (h : a.ok) (hx : x.ok) (bits : Int) : containsM a bits x = (validM a bits && (soundM x && decide (firstM x bits.toNat = a))) := by
  by_cases hv : validM a bits = true
  · by_cases hs : soundM x = true
    · rw [hv, hs, Bool.true_and, Bool.true_and]
      have hv2 := hv
      rw [valid_first a h, Bool.and_eq_true, Bool.and_eq_true, decide_eq_true_iff, decide_eq_true_iff, decide_eq_true_iff, firstM_eq a a h h] at hv2
      obtain ⟨h0, h1, _, h2⟩ := hv2
      by_cases h6 : x.six = a.six
      · rw [Bool.eq_iff_iff, containsM_iff a x bits hv hs (by rw [h6]; simp), decide_eq_true_iff, firstM_eq x a hx h]
        constructor
        · intro hc
          refine ⟨h6, fun i hi => ?_⟩
          by_cases hlt : i < bits.toNat
          · rw [if_pos hlt, hc i (by omega) hi]
          · have := h2 i hi
            rw [if_neg hlt] at this
            rw [if_neg hlt, this]
        · rintro ⟨_, hc⟩ i hb hi
          have := hc i hi
          rw [if_pos (by omega)] at this
          exact this
      · rw [containsM, hv, hs, show (x.six == a.six) = false by simpa using h6]
        simp only [Bool.true_and, Bool.false_and]
        refine (decide_eq_false fun e => h6 ?_).symm
        rw [← e, firstM_six]
    · rw [Bool.not_eq_true] at hs
      rw [hs, containsM, hs]
      simp
  · rw [Bool.not_eq_true] at hv
    rw [hv, containsM, hv]
    simp
end Go.Proofs.Ytnblofbbbkjhpaa
namespace Go.Proofs.Ytnblofbbbkjhpaa
open Go.RowKit

theorem run_clear_blk {P : Program} (w : World) (t e ty : TypeId) (ht : P.underlying t = some (.slice e)) (hv : ∀ w, (zeroValue e).run P w = .ok (.int .u8 0) w) (g off n c : Nat) (bt : TypeId) (old : List Value) (hg : Blk w g bt old) (hfit : off + n ≤ old.length) :
    ∃ w', (Builtin.clear_ #[t] ty #[.slice (some ⟨g, off, none⟩) n c]).run P w = .ok (.tuple #[]) w' ∧ Blk w' g bt (old.take off ++ List.replicate n (.int .u8 0) ++ old.drop (off + n)) ∧ w.grownBy w' (some g) := by
  cases n with
  | zero =>
    refine ⟨w, ?_, ?_, ⟨rfl, rfl, rfl, Nat.le_refl _, fun _ _ _ => rfl⟩⟩
    · simp [Builtin.clear_, run_underlying ht]
    · simp only [List.replicate_zero, List.append_nil, Nat.add_zero, List.take_append_drop]; exact hg
  | succ m =>
    have hst := run_storeCells_at P g off bt (List.replicate (m + 1) (Value.int .u8 0)) 0 old.toArray w hg (by simpa using hfit) (by intro v hv; rw [List.eq_of_mem_replicate hv]; rfl)
    rw [Nat.add_zero] at hst
    refine ⟨w.setRow g (old.toArray.toList.take off ++ List.replicate (m + 1) (Value.int .u8 0) ++ old.toArray.toList.drop (off + (List.replicate (m + 1) (Value.int .u8 0)).length)).toArray, ?_, ?_, ⟨rfl, rfl, rfl, by simp, fun k _ hk => setRow_other w g k _ (fun e => hk (by simp [e]))⟩⟩
    · have hz : (Builtin.zeroCells (Value.int .u8 0).cells (m + 1)).toList = List.replicate (m + 1) (.int .u8 0) := by
        apply List.ext_getElem
        · simp [Builtin.zeroCells, Value.cells]
        · intro i h1 h2; simp [Builtin.zeroCells, Value.cells, Nat.mod_one]
      simp only [Builtin.clear_, List.getElem?_toArray, List.getElem?_cons_zero, Sem.run_bind, run_underlying ht, Result.andThen_ok, hv, hz]
      rw [hst]
      rfl
    · have := setRow_heap w g old.toArray (old.toArray.toList.take off ++ List.replicate (m + 1) (Value.int .u8 0) ++ old.toArray.toList.drop (off + (List.replicate (m + 1) (Value.int .u8 0)).length)).toArray bt _ hg
      unfold Blk
      simpa using this
theorem wpList_clear_blk {P : Program} (w : World) {ops : Array Oper} {rest : List Oper} {o : Oper} {a : Act} {Q : Exit → Act → World → Prop} (hgd : o.guard = none) (d : Operand) (t e : TypeId)
    (ho : o.op = .call { callee := .builtin .clear, args := #[d], argTypes := #[t] }) (ht : P.underlying t = some (.slice e)) (hv : ∀ w, (zeroValue e).run P w = .ok (.int .u8 0) w)
    (g off n c : Nat) (hd : a.eval d = .slice (some ⟨g, off, none⟩) n c) (bt : TypeId) (old : List Value) (hg : Blk w g bt old) (hfit : off + n ≤ old.length)
    (h : ∀ w', Blk w' g bt (old.take off ++ List.replicate n (.int .u8 0) ++ old.drop (off + n)) → w.grownBy w' (some g) → wpList P ops Q rest (a.put o.dst (.tuple #[])) w') : wpList P ops Q (o :: rest) a w := by
  refine wpList_plain hgd fun K hK => ?_
  obtain ⟨w', hrun, h2, h3⟩ := run_clear_blk (P := P) w t e o.type ht hv g off n c bt old hg hfit
  unfold Oper.wp execOp
  simp only [ho, resolve, invoke, builtin, Sem.run_bind, Sem.run_pure, Result.andThen_ok, List.map_toArray, List.map_cons, List.map_nil, hd, hrun]
  exact hK _ _ (h w' h2 h3)

set_option maxRecDepth 100000 in
theorem size_any (a : AddrM) (w : World) :
    Calls Try.prog 50 #[.agg a.cells.toArray] w fun e w' => e = .returned (.int .i64 (widthM a : Int)) ∧ Below w.heap.size w w' := by
  obtain ⟨ca, hca⟩ : ∃ c, a.cells.toArray = c := ⟨_, rfl⟩
  rw [hca]
  have HM := Lib.hid (show Mem w [blkE w.heap.size 26 a.cells] (w.alloc (.cells ca 26)) from (Mem.nil w).alloc rfl 26 ca a.cells hca.symm)
  obtain ⟨sx, hsx⟩ : ∃ q, a.six = q := ⟨_, rfl⟩
  have HW := Lib.hid (show widthM a = if sx then 128 else 32 by rw [widthM, hsx])
  clear hca
  go_enter Try.func50, Try.ntmps50
  go_upto_region 1 with fail
  generalize w.alloc (.cells ca 26) = w1 at HM ⊢
  have f6 := ((HM.out.blk 0 rfl).cell 0).trans (AddrM.six_cell a)
  rw [hsx] at f6
  cases sx with
  | true =>
    go_wp2
    go_ret
    exact ⟨by rw [HW.out]; rfl, HM.out.bel⟩
  | false =>
    go_wp2
    go_ret
    exact ⟨by rw [HW.out]; rfl, HM.out.bel⟩
theorem firstM_cells (a : AddrM) (h : a.ok) (q m : Nat) (hq : q < 16) (k : Nat) (hk : k / 8 = q) (hm : k % 8 = m) (y : UInt8) (hy : cutByte (a.ip.getD q 0) m = y) :
    (AddrM.mk a.six (a.ip.set q y)).cells.take (1 + (q + 1)) ++ List.replicate (16 - (q + 1)) (.int .u8 0) ++ (AddrM.mk a.six (a.ip.set q y)).cells.drop (1 + (q + 1) + (16 - (q + 1))) = (firstM a k).cells := by
  have hl : a.ip.length = 16 := h
  rw [firstM, hk, hm, if_pos hq, hy]
  simp only [AddrM.cells]
  rw [List.drop_of_length_le (by rw [List.length_cons, List.length_map, List.length_set]; omega), List.append_nil, Nat.add_comm, List.take_succ_cons, List.map_append, List.map_take, List.map_replicate, show 16 - (q + 1) = 15 - q by omega]
  rfl
set_option maxRecDepth 100000 in
theorem u8_zero (w : World) : (zeroValue 5).run Try.prog w = .ok (.int .u8 0) w := by
  obtain ⟨i0, hi, hz0, hz1, hz2⟩ := info_parts Try.info5
  simp [zeroValue, typeInfo, hi, hz0]
set_option maxRecDepth 100000 in
theorem array_from (g q : Nat) (hq : q < 16) (off : Nat) (hoff : (if 16 - (q + 1) = 0 then 1 else 1 + (q + 1)) = off) (w : World) :
    (Instr.sliceAt 24 (.pointer (some ⟨g, 1, none⟩)) (some (.int .i64 ((q : Int) + 1))) none none).run Try.prog w = .ok (.slice (some ⟨g, off, none⟩) (16 - (q + 1)) (16 - (q + 1))) w := by
  have hs : (sizeOf 5).run Try.prog w = .ok 1 w := by
    obtain ⟨i0, hi, hz0, hz1, hz2⟩ := info_parts Try.info5
    simp [sizeOf, typeInfo, hi, hz1]
  have hl : Try.prog.arrayLen 24 = 16 := by kernel_rfl
  have he : Try.prog.elem 24 = 5 := by kernel_rfl
  rw [run_sliceAt_array_l (P := Try.prog) w 24 ⟨g, 1, none⟩ (by rw [hl, he]; exact Try.underlying24) .i64 ((q : Int) + 1) (by omega) (by rw [hl]; omega), hl, he, hs]
  have e : ((q : Int) + 1).toNat = q + 1 := by omega
  simp only [Result.andThen, slicedAt, e, Go.WideShapes.add_plain, Nat.mul_one]
  by_cases h : 16 = q + 1
  · rw [if_pos h, ← hoff, if_pos (by omega)]
  · rw [if_neg h, ← hoff, if_neg (by omega)]
theorem cut_off (q off : Nat) (cs : List Value) (hoff : (if 16 - (q + 1) = 0 then 1 else 1 + (q + 1)) = off) :
    cs.take off ++ List.replicate (16 - (q + 1)) (Value.int .u8 0) ++ cs.drop (off + (16 - (q + 1))) = cs.take (1 + (q + 1)) ++ List.replicate (16 - (q + 1)) (Value.int .u8 0) ++ cs.drop (1 + (q + 1) + (16 - (q + 1))) := by
  by_cases h : 16 - (q + 1) = 0
  · rw [h]; simp
  · rw [if_neg h] at hoff; subst hoff; rfl
set_option maxRecDepth 100000 in
set_option maxHeartbeats 4000000 in
theorem first_any (a : AddrM) (h : a.ok) (k : Nat) (hk : k ≤ 128) (w : World) :
    Calls Try.prog 51 #[.agg a.cells.toArray, .int .i64 (k : Int)] w fun e w' => e = .returned (.agg (firstM a k).cells.toArray) ∧ Below w.heap.size w w' := by
  obtain ⟨ca, hca⟩ : ∃ x, a.cells.toArray = x := ⟨_, rfl⟩
  rw [hca]
  have HM := Lib.hid (show Mem w [blkE (w.heap.size + 1) 26 (.bool false :: (List.replicate 16 (0 : UInt8)).map u8v), blkE w.heap.size 26 a.cells] ((w.alloc (.cells ca 26)).alloc (.cells #[.bool false, .int .u8 0, .int .u8 0, .int .u8 0, .int .u8 0, .int .u8 0, .int .u8 0, .int .u8 0, .int .u8 0, .int .u8 0, .int .u8 0, .int .u8 0, .int .u8 0, .int .u8 0, .int .u8 0, .int .u8 0, .int .u8 0] 26)) from ((Mem.nil w).alloc rfl 26 ca a.cells hca.symm).alloc (by simp) 26 #[.bool false, .int .u8 0, .int .u8 0, .int .u8 0, .int .u8 0, .int .u8 0, .int .u8 0, .int .u8 0, .int .u8 0, .int .u8 0, .int .u8 0, .int .u8 0, .int .u8 0, .int .u8 0, .int .u8 0, .int .u8 0, .int .u8 0] _ rfl)
  have HO := Lib.hid h
  have HF := Lib.hid (firstM_ok a h k)
  obtain ⟨q, hq⟩ : ∃ q, k / 8 = q := ⟨_, rfl⟩
  obtain ⟨m, hm⟩ : ∃ q, k % 8 = q := ⟨_, rfl⟩
  have hqI : (k : Int) / 8 = (q : Int) := by omega
  have hmI : (k : Int) % 8 = (m : Int) := by omega
  go_enter Try.func51, Try.ntmps51
  go_upto_region 1 with fail
  generalize ((w.alloc (.cells ca 26)).alloc (.cells #[.bool false, .int .u8 0, .int .u8 0, .int .u8 0, .int .u8 0, .int .u8 0, .int .u8 0, .int .u8 0, .int .u8 0, .int .u8 0, .int .u8 0, .int .u8 0, .int .u8 0, .int .u8 0, .int .u8 0, .int .u8 0, .int .u8 0] 26)) = w1 at HM ⊢
  by_cases hlt : q < 16
  · have hm8 : m < 8 := by omega
    have fx := ((HM.out.blk 1 rfl).cell (1 + q)).trans (AddrM.ip_cell _ HO.out q hlt)
    have zx := (HM.out.blk 1 rfl).frozen (1 + q)
    have hset := AddrM.set_cell a q
    obtain ⟨x, hx⟩ : ∃ x, a.ip.getD q 0 = x := ⟨_, rfl⟩
    rw [hx] at fx
    have hcb := cut_bits x m hm8
    obtain ⟨y, hy⟩ : ∃ y, cutByte x m = y := ⟨_, rfl⟩
    rw [hy] at hcb
    have HC := Lib.hid (firstM_cells a h q m hlt k hq hm y (by rw [hx, hy]))
    have hmin : min m 8 = m := by omega
    have bq : (q : Int) < 16 := by omega
    have HN := Lib.hid (show Mem w [blkE (w.heap.size + 1) 26 (.bool false :: (List.replicate 16 (0 : UInt8)).map u8v), blkE w.heap.size 26 (AddrM.mk a.six (a.ip.set q y)).cells] ((w1.setCell ⟨w.heap.size, 1 + q, none⟩ (.int .u8 (y.toNat : Int))).drew) from by have h := HM.out.drew.setCell 1 rfl (1 + q) (u8v y); rw [hset] at h; exact h)
    have hset2 : (AddrM.mk a.six (a.ip.set q y)).ok := by show (a.ip.set q y).length = 16; rw [List.length_set]; exact HO.out
    clear hset hx hy HM hca h
    have hlI : decide ((q : Int) < 16) = true := by simp; omega
    go_upto_region 3 with fail
    go_region
    clear fx zx hcb hmin hlI
    generalize (w1.setCell ⟨w.heap.size, 1 + q, none⟩ (.int .u8 (y.toNat : Int))).drew = w2 at HN ⊢
    obtain ⟨off, hoff⟩ : ∃ off, (if 16 - (q + 1) = 0 then 1 else 1 + (q + 1)) = off := ⟨_, rfl⟩
    obtain ⟨z, hz⟩ : ∃ z, 16 - (q + 1) = z := ⟨_, rfl⟩
    have hcut := cut_off q off (AddrM.mk a.six (a.ip.set q y)).cells hoff
    have hfit : off + (16 - (q + 1)) ≤ (AddrM.mk a.six (a.ip.set q y)).cells.length := by rw [AddrM.cells_length (hset2 : (AddrM.mk a.six (a.ip.set q y)).ok), ← hoff]; split <;> omega
    rw [HC.out, hz] at hcut
    have HCUT := Lib.hid hcut
    rw [hz] at hfit
    have hsl : ∀ w', (Instr.sliceAt 24 (.pointer (some ⟨w.heap.size, 1, none⟩)) (some (.int .i64 ((q : Int) + 1))) none none).run Try.prog w' = .ok (.slice (some ⟨w.heap.size, off, none⟩) z z) w' := fun w' => by rw [← hz]; exact array_from w.heap.size q hlt off hoff w'
    clear hoff hz hcut
    go_upto_region 5 with (refine wpList_clear_blk w2 rfl (.tmp 23) 22 5 rfl Try.underlying22 u8_zero w.heap.size off z z rfl 26 (AddrM.mk a.six (a.ip.set q y)).cells (HN.out.blk 1 rfl) hfit ?_; intro w3 hb hg)
    rw [HCUT.out] at hb
    replace HM := Lib.hid (show Mem w [blkE (w.heap.size + 1) 26 (.bool false :: (List.replicate 16 (0 : UInt8)).map u8v), blkE w.heap.size 26 (firstM a k).cells] w3 from HN.out.put 1 rfl _ hg hb)
    clear HN hb hg hsl
    obtain ⟨cf, hcf⟩ : ∃ x, (firstM a k).cells.toArray = x := ⟨_, rfl⟩
    have HCF := Lib.hid hcf
    clear hcf
    go_wp2_with (first | (refine wpList_load_obj rfl 26 (.tmp 2) rfl w.heap.size 0 rfl (firstM a k).cells (HM.out.blk 1 rfl).all _ Try.underlying26 rfl (addr_cellsOf _ HF.out) ?_; rw [HCF.out]) | (refine wpList_store_blk rfl 26 (.tmp 4) (.tmp 24) rfl (w.heap.size + 1) (firstM a k).cells rfl (by show Value.agg cf = _; rw [HCF.out]) 26 (.bool false :: (List.replicate 16 (0 : UInt8)).map u8v) (HM.out.blk 0 rfl) (addr_cellsOf _ HF.out) (by rw [AddrM.cells_length HF.out]; rfl) (AddrM.one _) ?_; intro w9 hb9 hg9))
    exact bodyPost_ret (results_obj rfl _ _ (w.heap.size + 1) 26 (firstM a k).cells _ rfl hb9 Try.underlying26 rfl (addr_cellsOf _ HF.out)) rfl ⟨rfl, (HM.out.put 0 rfl _ hg9 hb9).bel⟩
  · have hlI : decide ((q : Int) < 16) = false := by simp; omega
    have hfa : firstM a k = a := by rw [firstM, if_neg (by omega)]
    rw [← hfa] at HM
    obtain ⟨cf, hcf⟩ : ∃ x, (firstM a k).cells.toArray = x := ⟨_, rfl⟩
    have HCF := Lib.hid hcf
    clear hcf
    go_upto_region 5 with fail
    go_wp2_with (first | (refine wpList_load_obj rfl 26 (.tmp 2) rfl w.heap.size 0 rfl (firstM a k).cells (HM.out.blk 1 rfl).all _ Try.underlying26 rfl (addr_cellsOf _ HF.out) ?_; rw [HCF.out]) | (refine wpList_store_blk rfl 26 (.tmp 4) (.tmp 24) rfl (w.heap.size + 1) (firstM a k).cells rfl (by show Value.agg cf = _; rw [HCF.out]) 26 (.bool false :: (List.replicate 16 (0 : UInt8)).map u8v) (HM.out.blk 0 rfl) (addr_cellsOf _ HF.out) (by rw [AddrM.cells_length HF.out]; rfl) (AddrM.one _) ?_; intro w9 hb9 hg9))
    exact bodyPost_ret (results_obj rfl _ _ (w.heap.size + 1) 26 (firstM a k).cells _ rfl hb9 Try.underlying26 rfl (addr_cellsOf _ HF.out)) rfl ⟨rfl, (HM.out.put 0 rfl _ hg9 hb9).bel⟩
end Go.Proofs.Ytnblofbbbkjhpaa
