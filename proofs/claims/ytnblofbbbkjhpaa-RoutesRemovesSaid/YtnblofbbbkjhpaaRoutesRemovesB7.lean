/-
  The contract of routes' before. The contract of routes' place. The contract of slices.IndexFunc at a slice of structs. What is asked of Insert holds of the landed one. The contract of slices.Clone at a slice of structs. The contract of slices.DeleteFunc at a slice of structs of the call's own. What is asked of Remove and RemovePeer holds of the landed ones. The contract of the program's Of. No statement is proved here.
-/
import Derived.Deep.DeepCutAuto
import Derived.RegionTactic
import Derived.Shelf.Abstract
import Derived.Laws.Cover3
import Derived.Test.YtnblofbbbkjhpaaRoutesRemovesB6
namespace Go.Proofs.Ytnblofbbbkjhpaa
open Go.RowKit

set_option maxRecDepth 100000 in
set_option maxHeartbeats 4000000 in
theorem before_any (a b : AddrM) (i j : Int) (ha : a.ok) (hb : b.ok) (w : World) :
    Calls Try.prog 44 #[.agg (prefC a i).toArray, .agg (prefC b j).toArray] w fun e w' => e = .returned (.bool (befM a i b j)) ∧ Below w.heap.size w w' := by
  have HL := Lib.hid (less_any a b ha hb)
  have HE := Lib.hid (addr_eqd a b ha hb)
  have HV := Lib.hid (show befM a i b j = if a = b then decide (i < j) else lessM a b from rfl)
  obtain ⟨ca, hca⟩ : ∃ z, a.cells.toArray = z := ⟨_, rfl⟩
  obtain ⟨cb, hcb⟩ : ∃ z, b.cells.toArray = z := ⟨_, rfl⟩
  obtain ⟨pa, hpa⟩ : ∃ z, (prefC a i).toArray = z := ⟨_, rfl⟩
  obtain ⟨pb, hpb⟩ : ∃ z, (prefC b j).toArray = z := ⟨_, rfl⟩
  rw [hca, hcb] at HL HE
  rw [hpa, hpb]
  have HUA := Lib.hid (addr_cellsOf a ha)
  have HUB := Lib.hid (addr_cellsOf b hb)
  have hm := ((Mem.nil w).alloc rfl 28 pa (prefC a i) hpa.symm).alloc (g := w.heap.size + 1) (by simp) 28 pb (prefC b j) hpb.symm
  have HM := Lib.hid hm
  have HCA := Lib.hid hca
  have HCB := Lib.hid hcb
  have HOA := Lib.hid ha
  have HOB := Lib.hid hb
  clear hca hcb hpa hpb hm ha hb
  go_enter Try.func44, Try.ntmps44
  go_upto_region 1 with fail
  generalize (w.alloc (.cells pa 28)).alloc (.cells pb 28) = w1 at HM ⊢
  by_cases hab : a = b
  · replace HV := Lib.hid (HV.out.trans (if_pos hab))
    rw [decide_eq_true hab] at HE
    have fi := pref_bits_at (HM.out.blk 1 rfl).all HOA.out
    have fj := pref_bits_at (HM.out.blk 0 rfl).all HOB.out
    clear hab
    go_wp2_with (first | (refine wpList_load_obj rfl 26 (.tmp 5) rfl w.heap.size 0 rfl a.cells (prefA_at (HM.out.blk 1 rfl).all) _ Try.underlying26 rfl HUA.out ?_; rw [HCA.out]) | (refine wpList_load_obj rfl 26 (.tmp 7) rfl (w.heap.size + 1) 0 rfl b.cells (prefA_at (HM.out.blk 0 rfl).all) _ Try.underlying26 rfl HUB.out ?_; rw [HCB.out]) | (refine wpList_eql_agg (by rfl) 26 26 6 8 rfl ca cb true rfl rfl addr_noguard (HE.out _) ?_))
    go_ret
    exact ⟨by rw [HV.out]; rfl, HM.out.bel⟩
  · replace HV := Lib.hid (HV.out.trans (if_neg hab))
    rw [decide_eq_false hab] at HE
    clear hab
    go_wp2_with (first | (refine wpList_load_obj rfl 26 (.tmp 5) rfl w.heap.size 0 rfl a.cells (prefA_at (HM.out.blk 1 rfl).all) _ Try.underlying26 rfl HUA.out ?_; rw [HCA.out]) | (refine wpList_load_obj rfl 26 (.tmp 7) rfl (w.heap.size + 1) 0 rfl b.cells (prefA_at (HM.out.blk 0 rfl).all) _ Try.underlying26 rfl HUB.out ?_; rw [HCB.out]) | (refine wpList_eql_agg (by rfl) 26 26 6 8 rfl ca cb false rfl rfl addr_noguard (HE.out _) ?_) | (refine wpList_load_obj rfl 26 (.tmp 15) rfl w.heap.size 0 rfl a.cells (prefA_at (HM.out.blk 1 rfl).all) _ Try.underlying26 rfl HUA.out ?_; rw [HCA.out]) | (refine wpList_load_obj rfl 26 (.tmp 17) rfl (w.heap.size + 1) 0 rfl b.cells (prefA_at (HM.out.blk 0 rfl).all) _ Try.underlying26 rfl HUB.out ?_; rw [HCB.out]))
    refine (HL.out _).mono ?_
    rintro e w2 ⟨rfl, hb⟩
    replace HM := Lib.hid (HM.out.below hb)
    clear hb
    go_wp2
    go_ret
    exact ⟨by rw [HV.out]; rfl, HM.out.bel⟩
end Go.Proofs.Ytnblofbbbkjhpaa
namespace Go.Proofs.Ytnblofbbbkjhpaa
open Go.RowKit

set_option maxRecDepth 100000 in
set_option maxHeartbeats 8000000 in
theorem place_any (A : Option Addr) (n c : Nat) (l : List RouteM) (hn : n ≤ 1000) (a : AddrM) (bits : Int) (hoa : a.ok) (w : World) (ha : RtRd w w.heap.size A n l) :
    Calls Try.prog 37 #[.slice A n c, .agg (prefC a bits).toArray] w fun e w' => e = .returned (.int .i64 (aheadM a bits l : Int)) ∧ Below w.heap.size w w' := by
  have HA := Lib.hid ha
  have HU := Lib.hid (pref_cellsOf' a hoa bits)
  have HOA := Lib.hid hoa
  obtain ⟨pa, hpa⟩ : ∃ z, (prefC a bits).toArray = z := ⟨_, rfl⟩
  rw [hpa]
  have HM := Lib.hid ((Lows.nil w).alloc 28 pa (prefC a bits) hpa.symm)
  have HPA := Lib.hid hpa
  clear ha hpa hoa
  go_enter Try.func37, Try.ntmps37
  go_upto_region 1 with fail
  generalize w.alloc (.cells pa 28) = w1 at HM ⊢
  go_wp2_with fail
  go_loopw [9] (fun i wr => ∃ j : Nat, j ≤ n ∧ i = .int .i64 (j : Int) ∧ j ≤ aheadM a bits l ∧ Lows w [blkL w.heap.size 28 (prefC a bits)] wr) (fun i _ => n - (intOf i).toNat)
  case atStart => exact ⟨0, Nat.zero_le _, rfl, Nat.zero_le _, HM.out⟩
  case round =>
    clear HM
    obtain ⟨j, hj, rfl, hja, hM⟩ := hrel
    have HM := Lib.hid hM
    have HJA := Lib.hid hja
    clear hM hja
    by_cases hjn : j < n
    · have d1 : decide ((j : Int) < (n : Int)) = true := by simp; omega
      obtain ⟨b, off, rfl⟩ := HA.out.1.addr (by omega)
      obtain ⟨r, hr⟩ : ∃ r, l[j]? = some r := ⟨l[j]'(by rw [HA.out.len]; exact hjn), List.getElem?_eq_getElem _⟩
      have HOK := Lib.hid (HA.out.ok hr)
      have hat := HA.out.at j r hr
      have HLA := Lib.hid (hat.2.mono HM.out.bel hat.1)
      have hst := aheadM_step a bits l j HJA.out r hr
      have hbf := before_any a r.a bits r.bits HOA.out HOK.out.1
      obtain ⟨y, hy⟩ : ∃ y, befM a bits r.a r.bits = y := ⟨_, rfl⟩
      obtain ⟨rc, hrc⟩ : ∃ z, r.cells.toArray = z := ⟨_, rfl⟩
      obtain ⟨rp, hrp⟩ : ∃ z, (prefC r.a r.bits).toArray = z := ⟨_, rfl⟩
      rw [hrp, HPA.out, hy] at hbf
      rw [hy] at hst
      have HST := Lib.hid hst
      have HBF := Lib.hid hbf
      have HRC := Lib.hid hrc
      have HRP := Lib.hid hrp
      clear hat hr hst hbf hrc hrp hy
      have HZ := Lib.hid (Blk.new wr 37 routeZ)
      go_upto_region 4 with (first | (refine wpList_load_obj rfl 37 (.tmp 12) rfl b _ rfl r.cells HLA.out _ Try.underlying37 rfl (route_cellsOf r HOK.out) ?_; rw [HRC.out]) | (refine wpList_store_obj rfl 37 (.tmp 6) (.tmp 13) rfl wr.heap.size 0 r.cells rfl (by show Value.agg rc = _; rw [HRC.out]) 37 routeZ HZ.out (route_cellsOf r HOK.out) (by rw [RouteM.cells_length HOK.out, routeZ_length]; omega) (route_one r) ?_; intro w4 hb4 hg4))
      rw [setL_all routeZ r.cells (by rw [RouteM.cells_length HOK.out, routeZ_length])] at hb4
      have HM4 := Lib.hid (HM.out.below (below_fresh hg4))
      have HP := Lib.hid hb4
      clear hb4 hg4 HM HZ d1 HLA
      generalize wr.heap.size = P1 at HP ⊢
      go_wp2_with (first | (refine wpList_load_obj rfl 28 (.tmp 3) rfl w.heap.size 0 rfl (prefC a bits) ((HM4.out.blk 0 rfl).all) _ Try.underlying28 rfl HU.out ?_; rw [HPA.out]) | (refine wpList_load_obj rfl 28 (.tmp 15) rfl P1 0 rfl (prefC r.a r.bits) (route_pref HP.out.all) _ Try.underlying28 rfl (pref_cellsOf' r.a HOK.out.1 r.bits) ?_; rw [HRP.out]))
      refine (HBF.out _).mono ?_
      rintro e w5 ⟨rfl, hb⟩
      have HM5 := Lib.hid (HM4.out.below hb)
      clear hb HM4 HP
      cases y with
      | true =>
        have HE := Lib.hid (HST.out.2 (by simp))
        go_wp2
        go_ret
        exact ⟨by rw [HE.out]; rfl, HM5.out.bel⟩
      | false =>
        go_wp2_with fail
        go_roundw
        case rel => exact ⟨j + 1, by omega, by go_num, HST.out.1 (by simp), HM5.out⟩
        case measure => simp [intOf]; omega
    · obtain rfl : n = j := by omega
      have d1 : decide ((n : Int) < (n : Int)) = false := by simp
      have HE := Lib.hid (show aheadM a bits l = n from Nat.le_antisymm (by rw [← HA.out.len]; exact aheadM_le a bits l) HJA.out)
      have HF := Lib.hid HM.out.bel
      clear HM HJA
      go_wp2
      go_ret
      exact ⟨by rw [HE.out]; rfl, HF.out⟩
end Go.Proofs.Ytnblofbbbkjhpaa
namespace Go.Proofs.Ytnblofbbbkjhpaa
open Go.RowKit

set_option maxRecDepth 100000 in
set_option maxHeartbeats 16000000 in
theorem rtIdx_any (A : Option Addr) (n c : Nat) (os : List (List Value)) (hn : n ≤ 1000000) (F : Nat) (lb : Array Value) (hE : ∀ (args : Array Value) (W : World), (callFunc F args).run Try.prog W = .ok (.enter F args) W) (p : List Value → Bool) (B : Nat) (w : World) (hB : B ≤ w.heap.size) (hr : RdRow w w.heap.size A 50 n os) (hf : PredB Try.prog F lb p B w os) :
    Calls Try.prog 34 #[.slice A n c, .func (.func F) #[] lb] w fun e w' => e = .returned (.int .i64 (idxM p os)) ∧ Below w.heap.size w w' := by
  have HR := Lib.hid hr
  have HF := Lib.hid hf
  have HB := Lib.hid hB
  clear hr hf hB
  go_enter Try.func34, Try.ntmps34
  go_wp2_with fail
  go_loopw [8] (fun i wr => ∃ j : Nat, j ≤ n ∧ i = .int .i64 (j : Int) ∧ Below w.heap.size w wr ∧ ∀ (q : Nat) x, q < j → os[q]? = some x → p x = false) (fun i _ => n - (intOf i).toNat)
  case atStart => exact ⟨0, Nat.zero_le _, rfl, Below.refl _ _, fun q _ h => absurd h (Nat.not_lt_zero _)⟩
  case round =>
    obtain ⟨j, hj, rfl, hW, hno⟩ := hrel
    have HW := Lib.hid hW
    have HNO := Lib.hid hno
    clear hW hno
    by_cases hjn : j < n
    · have d1 : decide ((j : Int) < (n : Int)) = true := by simp; omega
      obtain ⟨b, off, rfl⟩ := HR.out.addr (by omega)
      obtain ⟨o, ho⟩ : ∃ o, os[j]? = some o := ⟨os[j]'(by rw [HR.out.1]; exact hjn), List.getElem?_eq_getElem _⟩
      have hat := HR.out.at j o ho
      have HLA := Lib.hid (show At wr b (off + j * 50) o from fun q v hv => (World.cell?_of_block (HW.out.block b hat.1)).trans (hat.2 q v hv))
      have HU := Lib.hid (rt_size o (HR.out.2.1 o (List.mem_of_getElem? ho)))
      have hcall := HF.out o (List.mem_of_getElem? ho) wr (HW.out.mono HB.out)
      obtain ⟨oc, hoc⟩ : ∃ z, o.toArray = z := ⟨_, rfl⟩
      rw [hoc] at hcall
      obtain ⟨y, hy⟩ : ∃ y, p o = y := ⟨_, rfl⟩
      rw [hy] at hcall
      have HOC := Lib.hid hoc
      have HC := Lib.hid hcall
      have HJO := Lib.hid (And.intro ho hy)
      clear hat ho hcall hoc hy
      go_wp2_with (first | (refine wpList_load_obj rfl 37 (.tmp 14) rfl b _ rfl o HLA.out _ Try.underlying37 rfl HU.out ?_; rw [HOC.out]))
      refine HC.out.mono ?_
      rintro e w2 ⟨rfl, hb⟩
      have HW2 := Lib.hid (HW.out.trans (hb.mono HW.out.size))
      clear hb HW HC HLA
      cases y with
      | true =>
        go_wp2
        go_ret
        exact ⟨by rw [idxM_some HJO.out.1 HJO.out.2 HNO.out]; rfl, HW2.out⟩
      | false =>
        go_wp2_with fail
        go_roundw
        case rel => exact ⟨j + 1, by omega, by go_num, HW2.out, fun q x hq hx => by
          rcases Nat.lt_or_ge q j with h | h
          · exact HNO.out q x h hx
          · obtain rfl : q = j := by omega
            have e := HJO.out.1.symm.trans hx
            injection e with e
            rw [← e]
            exact HJO.out.2⟩
        case measure => simp [intOf]; omega
    · obtain rfl : j = n := by omega
      have d1 : decide ((j : Int) < (j : Int)) = false := by simp
      have HF2 := Lib.hid HW.out
      have HX := Lib.hid (idxM_none (all_false HR.out.1 HNO.out))
      clear HW HNO
      go_wp2
      go_ret
      exact ⟨by rw [HX.out]; rfl, HF2.out⟩
end Go.Proofs.Ytnblofbbbkjhpaa
namespace Go.Proofs.Ytnblofbbbkjhpaa
open Go.RowKit

set_option maxRecDepth 100000 in
set_option maxHeartbeats 8000000 in
theorem rtInsC : RtInsC 12 := by
  intro A n c l a bits k w hoa hob hk harg
  obtain ⟨hn, hnc, hcm, hr⟩ := harg
  have HO := Lib.hid hr.2
  have HL := Lib.hid hr.len
  have HNC := Lib.hid (And.intro hnc hcm)
  have HARG := Lib.hid (And.intro hoa (And.intro hob hk))
  have HNO := Lib.hid (show (RouteM.mk a bits k).ok from ⟨hoa, hk, hob⟩)
  have hbt := route_built ⟨a, bits, k⟩ ⟨hoa, hk, hob⟩
  have hva := valid_any a bits hoa
  have hpl := fun W (h : RtRd W W.heap.size A n l) => place_any A n c l (by omega) a bits hoa W h
  obtain ⟨ik, hik, hiz, his, hib⟩ := routeInfo
  have HKI := Lib.hid (And.intro hik (And.intro hiz (And.intro his hib)))
  clear hik hiz his hib
  obtain ⟨pa, hpa⟩ : ∃ z, (prefC a bits).toArray = z := ⟨_, rfl⟩
  obtain ⟨ka, hka⟩ : ∃ z, (k.map u8v).toArray = z := ⟨_, rfl⟩
  obtain ⟨nr, hnr⟩ : ∃ z, (RouteM.mk a bits k).cells.toArray = z := ⟨_, rfl⟩
  obtain ⟨y, hy⟩ : ∃ y, validM a bits = y := ⟨_, rfl⟩
  simp only [hpa, hka, hnr] at hbt
  rw [hpa, hy] at hva
  rw [hpa] at hpl
  rw [hpa, hka]
  have hm0 := (((Lows.nil w).cons (rtL A n l) hr).alloc 28 pa (prefC a bits) hpa.symm).alloc 30 ka (k.map u8v) hka.symm
  have HM := Lib.hid (show Lows w [blkL (w.heap.size + 1) 30 (k.map u8v), blkL w.heap.size 28 (prefC a bits), rtL A n l] ((w.alloc (.cells pa 28)).alloc (.cells ka 30)) from by simpa using hm0)
  have HPA := Lib.hid hpa
  have HKA := Lib.hid hka
  have HNR := Lib.hid hnr
  have HBT := Lib.hid hbt
  have HVA := Lib.hid hva
  have HPL := Lib.hid hpl
  have HY := Lib.hid hy
  have hlt1 : w.heap.size < ((w.alloc (.cells pa 28)).alloc (.cells ka 30)).heap.size := by simp; omega
  have HLT := Lib.hid hlt1
  clear hoa hob hk hr hnc hcm hbt hva hpl hpa hka hnr hy hm0 hlt1
  go_enter Try.func12, Try.ntmps12
  go_upto_region 1 with fail
  generalize (w.alloc (.cells pa 28)).alloc (.cells ka 30) = w1 at HM HLT ⊢
  go_wp2_with (refine wpList_load_obj rfl 28 (.tmp 4) rfl w.heap.size 0 rfl (prefC a bits) ((HM.out.blk 1 rfl).all) _ Try.underlying28 rfl (pref_cellsOf' a HARG.out.1 bits) ?_; rw [HPA.out])
  refine (HVA.out _).mono ?_
  rintro e w2 ⟨rfl, hb⟩
  have HB2 := Lib.hid hb
  have HM2 := Lib.hid (HM.out.below hb)
  clear hb HM HVA
  cases y with
  | false =>
    have HRES := Lib.hid (show insM l a bits k = ([], 1) from by rw [insM, if_pos HY.out])
    go_wp2
    go_ret2
    rw [HRES.out]
    exact ⟨_, rfl, none, 0, rfl, Nat.le_refl _, by unfold maxLen; omega, RtRd.nil, HM2.out.bel⟩
  | true =>
    have HINS := Lib.hid (show insM l a bits k = match findM a bits l with
      | some i => (l.set i ⟨a, bits, k⟩, 0)
      | none => if 16 ≤ l.length then ([], 12) else (l.take (aheadM a bits l) ++ ⟨a, bits, k⟩ :: l.drop (aheadM a bits l), 0) from by
      rw [insM, if_neg (by rw [HY.out]; simp)]
      all_goals (cases findM a bits l <;> rfl))
    have HZ := Lib.hid (Blk.new w2 37 routeZ)
    go_upto_region 4 with (first | (refine wpList_load_obj rfl 28 (.tmp 4) rfl w.heap.size 0 rfl (prefC a bits) ((HM2.out.blk 1 rfl).all) _ Try.underlying28 rfl (pref_cellsOf' a HARG.out.1 bits) ?_; rw [HPA.out]) | (refine wpList_load_obj rfl 30 (.tmp 5) rfl (w.heap.size + 1) 0 rfl (k.map u8v) ((HM2.out.blk 0 rfl).all) _ Try.underlying30 rfl (key_cellsOf k HARG.out.2.2) ?_; rw [HKA.out]) | (refine wpList_build_as rfl 37 [(0, .tmp 14), (1, .tmp 15)] rfl nr ?_ ?_; exact HBT.out) | (refine wpList_store_obj rfl 37 (.tmp 8) (.tmp 16) rfl w2.heap.size 0 (RouteM.mk a bits k).cells rfl (by show Value.agg nr = _; rw [HNR.out]) 37 routeZ HZ.out (route_cellsOf _ HNO.out) (by rw [RouteM.cells_length HNO.out, routeZ_length]; omega) (route_one _) ?_; intro w4 hb4 hg4))
    rw [setL_all routeZ _ (by rw [RouteM.cells_length HNO.out, routeZ_length])] at hb4
    have hm4 := (HM2.out.below (below_fresh hg4)).cons (blkL w2.heap.size 37 (RouteM.mk a bits k).cells) hb4
    have HB4 := Lib.hid (HB2.out.trans ((below_fresh hg4).mono HB2.out.size))
    clear hb4 hg4 HZ HM2 HB2
    generalize w2.heap.size = P8 at hm4 ⊢
    have HM := Lib.hid (show Lows w [blkL P8 37 (RouteM.mk a bits k).cells, blkL (w.heap.size + 1) 30 (k.map u8v), blkL w.heap.size 28 (prefC a bits), rtL A n l] w4 from hm4)
    clear hm4
    have hpr : PredB Try.prog 35 #[.pointer (some ⟨w.heap.size, 0, none⟩)] (prefP a bits) w1.heap.size w4 (rtsV l) := by
      intro o ho W hW
      obtain ⟨r, hr, rfl⟩ := rts_mem HO.out ho
      rw [prefP_is HARG.out.1 hr]
      have hw1 := HLT.out
      exact insPred_any a bits HARG.out.1 HARG.out.2.1 r hr w.heap.size W (Nat.lt_of_lt_of_le hw1 (Nat.le_trans HB4.out.size hW.size)) (((HM.out.blk 2 rfl).all).mono hW hw1)
    have hix := rtIdx_any A n c (rtsV l) (by omega) 35 #[.pointer (some ⟨w.heap.size, 0, none⟩)] (enters_of Try.func35 (by kernel_rfl) rfl) (prefP a bits) w1.heap.size w4 HB4.out.size (HM.out.get (f := rtL A n l) 3 rfl).1 hpr
    rw [idxM_pref HO.out HARG.out.1] at hix
    obtain ⟨f, hf⟩ : ∃ f, findM a bits l = f := ⟨_, rfl⟩
    rw [hf] at hix
    have HFD := Lib.hid hf
    have HIX := Lib.hid hix
    clear hpr hix hf
    go_wp2_with fail
    refine HIX.out.mono ?_
    rintro e wz ⟨rfl, hb⟩
    replace HM := Lib.hid (HM.out.below hb)
    clear hb HIX HB4 HLT
    cases f with
    | some i =>
      have hi : i < n := by
        have h := HFD.out
        rw [findM, List.findIdx?_eq_some_iff_getElem] at h
        obtain ⟨h, _⟩ := h
        rw [← HL.out]
        exact h
      have HIJ := Lib.hid (show i ≤ n ∧ i + 1 ≤ n from ⟨by omega, by omega⟩)
      have HRES := Lib.hid (show insM l a bits k = (l.take i ++ RouteM.mk a bits k :: l.drop (i + 1), 0) from by
        rw [HINS.out, HFD.out]
        show (l.set i _, 0) = _
        rw [List.set_eq_take_append_cons_drop, if_pos (by rw [HL.out]; exact hi)])
      have HLEN := Lib.hid (show (l.take i ++ RouteM.mk a bits k :: l.drop (i + 1)).length = i + (1 + (n - (i + 1))) from by
        rw [List.length_append, List.length_cons, List.length_take, List.length_drop, HL.out]; omega)
      have hadd : IntKind.i64.wrap ((i : Int) + 1) = ((i + 1 : Nat) : Int) := by rw [IntWalk.i64_in _ (by omega)]; omega
      have d1 : decide ((i : Int) ≥ 0) = true := by simp
      clear HINS HFD HO HL hi
      go_upto_region 6 with fail
      refine wp_region_held_drew (S := fun W' => Lows w [blkL P8 37 (RouteM.mk a bits k).cells, blkL (w.heap.size + 1) 30 (k.map u8v), blkL w.heap.size 28 (prefC a bits), rtL A n l] W') (by kernel_rfl) (HM.out.drew) (fun hHeld => ?_)
      replace HM := Lib.hid HM.out.drew
      generalize wz.drew = wd1 at HM hHeld ⊢
      refine take_first (v := ?_) 0 rfl (by kernel_rfl) (by kernel_rfl) (by kernel_rfl) (fun _ _ _ h => h) (Or.inl ⟨by rfl, ?_⟩) (by assumption) ?_
      rotate_left
      · (intro w hSw; (try dsimp only at hSw); go_simp; try with_reducible rfl)
      (try simp only [Act.put, List.setIfInBounds_toArray, List.set_cons_zero, List.set_cons_succ])
      refine take_first (v := ?_) 1 rfl (by kernel_rfl) (by kernel_rfl) (by kernel_rfl) (fun _ _ _ h => h) (Or.inl ⟨by rfl, ?_⟩) (by assumption) ?_
      rotate_left
      · (intro w hSw; (try dsimp only at hSw); go_simp; try with_reducible rfl)
      (try simp only [Act.put, List.setIfInBounds_toArray, List.set_cons_zero, List.set_cons_succ])
      refine take_first (v := ?_) 2 rfl (by kernel_rfl) (by kernel_rfl) (by kernel_rfl) (fun _ _ _ h => h) (Or.inl ⟨by rfl, ?_⟩) (by assumption) ?_
      rotate_left
      · (intro w hSw; (try dsimp only at hSw); have s := rt_h A (n := n) c i HIJ.out.1 HNC.out.1 w; go_simp; try with_reducible rfl)
      (try simp only [Act.put, List.setIfInBounds_toArray, List.set_cons_zero, List.set_cons_succ])
      refine take_first (v := .agg nr) 3 rfl (by kernel_rfl) (by kernel_rfl) (by kernel_rfl) (fun _ _ _ h => h) (by rw [← HNR.out]; exact yields_load_obj (by rfl) 37 (.tmp 8) rfl P8 0 rfl (RouteM.mk a bits k).cells (fun w' hb => (Lows.blk hb 0 rfl).all) _ Try.underlying37 rfl (route_cellsOf _ HNO.out)) (by assumption) ?_
      (try simp only [Act.put, List.setIfInBounds_toArray, List.set_cons_zero, List.set_cons_succ])
      refine take_first (v := ?_) 5 rfl (by kernel_rfl) (by kernel_rfl) (by kernel_rfl) (fun _ _ _ h => h) (Or.inl ⟨by rfl, ?_⟩) (by assumption) ?_
      rotate_left
      · (intro w hSw; (try dsimp only at hSw); go_simp; try with_reducible rfl)
      (try simp only [Act.put, List.setIfInBounds_toArray, List.set_cons_zero, List.set_cons_succ])
      refine take_first (v := ?_) 6 rfl (by kernel_rfl) (by kernel_rfl) (by kernel_rfl) (fun _ _ _ h => h) (Or.inl ⟨by rfl, ?_⟩) (by assumption) ?_
      rotate_left
      · (intro w hSw; (try dsimp only at hSw); go_simp; try with_reducible rfl)
      (try simp only [Act.put, List.setIfInBounds_toArray, List.set_cons_zero, List.set_cons_succ])
      refine take_first (v := ?_) 7 rfl (by kernel_rfl) (by kernel_rfl) (by kernel_rfl) (fun _ _ _ h => h) (Or.inl ⟨by rfl, ?_⟩) (by assumption) ?_
      rotate_left
      · (intro w hSw; (try dsimp only at hSw); have s := hadd; go_simp; try with_reducible rfl)
      (try simp only [Act.put, List.setIfInBounds_toArray, List.set_cons_zero, List.set_cons_succ])
      refine take_first (v := ?_) 8 rfl (by kernel_rfl) (by kernel_rfl) (by kernel_rfl) (fun _ _ _ h => h) (Or.inl ⟨by rfl, ?_⟩) (by assumption) ?_
      rotate_left
      · (intro w hSw; (try dsimp only at hSw); have s := rt_l A n c (i + 1) HIJ.out.2 w; rw [show ((i + 1 : Nat) : Int) = (i : Int) + 1 from by omega] at s; go_simp; try with_reducible rfl)
      (try simp only [Act.put, List.setIfInBounds_toArray, List.set_cons_zero, List.set_cons_succ])
      refine step_one 4 rfl (by kernel_rfl) (fun K hK => ?_)
      clear hHeld
      refine step_buildOne rfl 23 37 (.tmp 26) rfl nr rfl 50 Try.underlying23 ik HKI.out.1 HKI.out.2.2.1 _ HKI.out.2.1 (by omega) (by omega) (by rw [← HNR.out, List.size_toArray, RouteM.cells_length HNO.out]) ?_
      have hm9 := HM.out.alloc 37 nr (RouteM.mk a bits k).cells HNR.out.symm
      generalize wd1.alloc (.cells nr 37) = wy2 at hm9 ⊢
      generalize wd1.heap.size = g1 at hm9 ⊢
      replace HM := Lib.hid (show Lows w [blkL g1 37 (RouteM.mk a bits k).cells, blkL P8 37 (RouteM.mk a bits k).cells, blkL (w.heap.size + 1) 30 (k.map u8v), blkL w.heap.size 28 (prefC a bits), rtL A n l] wy2 from hm9)
      clear hm9
      refine hK.out _ _ (HM.out.tail 0) (fun hHeld => ?_)
      clear hK K
      (try simp only [Act.put, List.setIfInBounds_toArray, List.set_cons_zero, List.set_cons_succ])
      refine wpAnyH_stronger (T := fun W' => Lows w [blkL g1 37 (RouteM.mk a bits k).cells, blkL P8 37 (RouteM.mk a bits k).cells, blkL (w.heap.size + 1) 30 (k.map u8v), blkL w.heap.size 28 (prefC a bits), rtL A n l] W') (fun _ h' => (h'.tail 0)) _ _ _ _ ?_
      replace hHeld := HM.out
      refine step_one 9 rfl (by kernel_rfl) (fun K hK => ?_)
      clear hHeld
      go_simp
      have hm9 := HM.out.alloc 23 #[.slice (addrK A 0 c 50) i c, .slice (some ⟨g1, 0, none⟩) 1 1, .slice (addrK A (i + 1) c 50) (n - (i + 1)) (c - (i + 1))] (catV A n c i (i + 1) g1) rfl
      generalize wy2.alloc (.cells #[.slice (addrK A 0 c 50) i c, .slice (some ⟨g1, 0, none⟩) 1 1, .slice (addrK A (i + 1) c 50) (n - (i + 1)) (c - (i + 1))] 23) = wy3 at hm9 ⊢
      generalize wy2.heap.size = g2 at hm9 ⊢
      replace HM := Lib.hid (show Lows w [blkL g2 23 (catV A n c i (i + 1) g1), blkL g1 37 (RouteM.mk a bits k).cells, blkL P8 37 (RouteM.mk a bits k).cells, blkL (w.heap.size + 1) 30 (k.map u8v), blkL w.heap.size 28 (prefC a bits), rtL A n l] wy3 from hm9)
      clear hm9
      refine hK.out _ _ (HM.out.tail 0) (fun hHeld => ?_)
      clear hK K
      (try simp only [Act.put, List.setIfInBounds_toArray, List.set_cons_zero, List.set_cons_succ])
      refine wpAnyH_stronger (T := fun W' => Lows w [blkL g2 23 (catV A n c i (i + 1) g1), blkL g1 37 (RouteM.mk a bits k).cells, blkL P8 37 (RouteM.mk a bits k).cells, blkL (w.heap.size + 1) 30 (k.map u8v), blkL w.heap.size 28 (prefC a bits), rtL A n l] W') (fun _ h' => (h'.tail 0)) _ _ _ _ ?_
      replace hHeld := HM.out
      refine step_one 10 rfl (by kernel_rfl) (fun K hK => ?_)
      clear hHeld
      go_simp
      refine (cat_any A n c i (i + 1) l (RouteM.mk a bits k) hn HNC.out.1 HIJ.out.1 HIJ.out.2 HNO.out g1 g2 23 _ (HM.out.get (f := rtL A n l) 5 rfl) (HM.out.blk 1 rfl) (HM.out.blk 0 rfl)).mono ?_
      rintro e wy4 ⟨A7, c7, rfl, hr7, hc7, hb⟩
      replace HM := Lib.hid (show Lows w [rtL A7 (i + (1 + (n - (i + 1)))) (l.take i ++ RouteM.mk a bits k :: l.drop (i + 1)), blkL g2 23 (catV A n c i (i + 1) g1), blkL g1 37 (RouteM.mk a bits k).cells, blkL P8 37 (RouteM.mk a bits k).cells, blkL (w.heap.size + 1) 30 (k.map u8v), blkL w.heap.size 28 (prefC a bits), rtL A n l] wy4 from (HM.out.below hb).cons (rtL A7 (i + (1 + (n - (i + 1)))) (l.take i ++ RouteM.mk a bits k :: l.drop (i + 1))) (hr7))
      clear hb
      have HC7 := Lib.hid hc7
      clear hc7 hr7
      go_wp2_with fail
      refine hK.out _ _ (HM.out.tail 0) (fun hHeld => ?_)
      clear hK K
      (try simp only [Act.put, List.setIfInBounds_toArray, List.set_cons_zero, List.set_cons_succ])
      refine wpAnyH_stronger (T := fun W' => Lows w [rtL A7 (i + (1 + (n - (i + 1)))) (l.take i ++ RouteM.mk a bits k :: l.drop (i + 1)), blkL g2 23 (catV A n c i (i + 1) g1), blkL g1 37 (RouteM.mk a bits k).cells, blkL P8 37 (RouteM.mk a bits k).cells, blkL (w.heap.size + 1) 30 (k.map u8v), blkL w.heap.size 28 (prefC a bits), rtL A n l] W') (fun _ h' => (h'.tail 0)) _ _ _ _ ?_
      replace hHeld := HM.out
      refine take_first (v := ?_) 11 rfl (by kernel_rfl) (by kernel_rfl) (by kernel_rfl) (fun _ _ _ h => h) (Or.inl ⟨by rfl, ?_⟩) (by assumption) ?_
      rotate_left
      · (intro w hSw; (try dsimp only at hSw); go_simp; try with_reducible rfl)
      (try simp only [Act.put, List.setIfInBounds_toArray, List.set_cons_zero, List.set_cons_succ])
      refine take_first (v := ?_) 12 rfl (by kernel_rfl) (by kernel_rfl) (by kernel_rfl) (fun _ _ _ h => h) (Or.inl ⟨by rfl, ?_⟩) (by assumption) ?_
      rotate_left
      · (intro w hSw; (try dsimp only at hSw); go_simp; try with_reducible rfl)
      (try simp only [Act.put, List.setIfInBounds_toArray, List.set_cons_zero, List.set_cons_succ])
      refine wpAnyH_done (by kernel_rfl) ?_ _
      clear hHeld
      have HF := Lib.hid (And.intro (HM.out.get (f := rtL A7 (i + (1 + (n - (i + 1)))) (l.take i ++ RouteM.mk a bits k :: l.drop (i + 1))) 0 rfl) HM.out.bel)
      clear HM
      go_wp2_with fail
      go_ret2
      rw [HRES.out]
      exact ⟨_, rfl, A7, c7, by rw [HLEN.out]; rfl, by rw [HLEN.out]; exact HC7.out.1, HC7.out.2, by rw [HLEN.out]; exact HF.out.1, HF.out.2⟩
    | none =>
      by_cases h16 : 16 ≤ n
      · have HRES := Lib.hid (show insM l a bits k = ([], 12) from by
          rw [HINS.out, HFD.out]
          show (if 16 ≤ l.length then _ else _) = _
          rw [if_pos (by rw [HL.out]; exact h16)])
        have d1 : decide ((n : Int) ≥ 16) = true := by simp; omega
        clear HINS HFD
        go_wp2
        go_ret2
        rw [HRES.out]
        exact ⟨_, rfl, none, 0, rfl, Nat.le_refl _, by unfold maxLen; omega, RtRd.nil, HM.out.bel⟩
      · have hal : aheadM a bits l ≤ n := by rw [← HL.out]; exact aheadM_le a bits l
        have hres : insM l a bits k = (l.take (aheadM a bits l) ++ RouteM.mk a bits k :: l.drop (aheadM a bits l), 0) := by
          rw [HINS.out, HFD.out]
          show (if 16 ≤ l.length then _ else _) = _
          rw [if_neg (by rw [HL.out]; exact h16)]
        have hpl := HPL.out
        generalize aheadM a bits l = i at hal hres hpl
        have HIJ := Lib.hid (show i ≤ n ∧ i ≤ n from ⟨hal, hal⟩)
        have HRES := Lib.hid hres
        have HP2 := Lib.hid hpl
        have HLEN := Lib.hid (show (l.take i ++ RouteM.mk a bits k :: l.drop i).length = i + (1 + (n - i)) from by
          rw [List.length_append, List.length_cons, List.length_take, List.length_drop, HL.out]; omega)
        have d1 : decide ((n : Int) ≥ 16) = false := by simp; omega
        clear HINS HFD HO HL hal hres hpl HPL
        go_wp2_with (refine wpList_load_obj rfl 28 (.tmp 4) rfl w.heap.size 0 rfl (prefC a bits) ((HM.out.blk 2 rfl).all) _ Try.underlying28 rfl (pref_cellsOf' a HARG.out.1 bits) ?_; rw [HPA.out])
        refine (HP2.out _ (HM.out.get (f := rtL A n l) 3 rfl)).mono ?_
        rintro e wq ⟨rfl, hb⟩
        replace HM := Lib.hid (show Lows w [blkL P8 37 (RouteM.mk a bits k).cells, blkL (w.heap.size + 1) 30 (k.map u8v), blkL w.heap.size 28 (prefC a bits), rtL A n l] wq from HM.out.below hb)
        clear hb HP2
        go_upto_region 10 with fail
        refine wp_region_held_drew (S := fun W' => Lows w [blkL P8 37 (RouteM.mk a bits k).cells, blkL (w.heap.size + 1) 30 (k.map u8v), blkL w.heap.size 28 (prefC a bits), rtL A n l] W') (by kernel_rfl) (HM.out.drew) (fun hHeld => ?_)
        replace HM := Lib.hid HM.out.drew
        generalize wq.drew = wd1 at HM hHeld ⊢
        refine take_first (v := ?_) 0 rfl (by kernel_rfl) (by kernel_rfl) (by kernel_rfl) (fun _ _ _ h => h) (Or.inl ⟨by rfl, ?_⟩) (by assumption) ?_
        rotate_left
        · (intro w hSw; (try dsimp only at hSw); go_simp; try with_reducible rfl)
        (try simp only [Act.put, List.setIfInBounds_toArray, List.set_cons_zero, List.set_cons_succ])
        refine take_first (v := ?_) 1 rfl (by kernel_rfl) (by kernel_rfl) (by kernel_rfl) (fun _ _ _ h => h) (Or.inl ⟨by rfl, ?_⟩) (by assumption) ?_
        rotate_left
        · (intro w hSw; (try dsimp only at hSw); go_simp; try with_reducible rfl)
        (try simp only [Act.put, List.setIfInBounds_toArray, List.set_cons_zero, List.set_cons_succ])
        refine take_first (v := ?_) 2 rfl (by kernel_rfl) (by kernel_rfl) (by kernel_rfl) (fun _ _ _ h => h) (Or.inl ⟨by rfl, ?_⟩) (by assumption) ?_
        rotate_left
        · (intro w hSw; (try dsimp only at hSw); have s := rt_h A (n := n) c i HIJ.out.1 HNC.out.1 w; go_simp; try with_reducible rfl)
        (try simp only [Act.put, List.setIfInBounds_toArray, List.set_cons_zero, List.set_cons_succ])
        refine take_first (v := .agg nr) 3 rfl (by kernel_rfl) (by kernel_rfl) (by kernel_rfl) (fun _ _ _ h => h) (by rw [← HNR.out]; exact yields_load_obj (by rfl) 37 (.tmp 8) rfl P8 0 rfl (RouteM.mk a bits k).cells (fun w' hb => (Lows.blk hb 0 rfl).all) _ Try.underlying37 rfl (route_cellsOf _ HNO.out)) (by assumption) ?_
        (try simp only [Act.put, List.setIfInBounds_toArray, List.set_cons_zero, List.set_cons_succ])
        refine take_first (v := ?_) 5 rfl (by kernel_rfl) (by kernel_rfl) (by kernel_rfl) (fun _ _ _ h => h) (Or.inl ⟨by rfl, ?_⟩) (by assumption) ?_
        rotate_left
        · (intro w hSw; (try dsimp only at hSw); go_simp; try with_reducible rfl)
        (try simp only [Act.put, List.setIfInBounds_toArray, List.set_cons_zero, List.set_cons_succ])
        refine take_first (v := ?_) 6 rfl (by kernel_rfl) (by kernel_rfl) (by kernel_rfl) (fun _ _ _ h => h) (Or.inl ⟨by rfl, ?_⟩) (by assumption) ?_
        rotate_left
        · (intro w hSw; (try dsimp only at hSw); go_simp; try with_reducible rfl)
        (try simp only [Act.put, List.setIfInBounds_toArray, List.set_cons_zero, List.set_cons_succ])
        refine take_first (v := ?_) 7 rfl (by kernel_rfl) (by kernel_rfl) (by kernel_rfl) (fun _ _ _ h => h) (Or.inl ⟨by rfl, ?_⟩) (by assumption) ?_
        rotate_left
        · (intro w hSw; (try dsimp only at hSw); have s := rt_l A n c (i) HIJ.out.2 w; go_simp; try with_reducible rfl)
        (try simp only [Act.put, List.setIfInBounds_toArray, List.set_cons_zero, List.set_cons_succ])
        refine step_one 4 rfl (by kernel_rfl) (fun K hK => ?_)
        clear hHeld
        refine step_buildOne rfl 23 37 (.tmp 44) rfl nr rfl 50 Try.underlying23 ik HKI.out.1 HKI.out.2.2.1 _ HKI.out.2.1 (by omega) (by omega) (by rw [← HNR.out, List.size_toArray, RouteM.cells_length HNO.out]) ?_
        have hm9 := HM.out.alloc 37 nr (RouteM.mk a bits k).cells HNR.out.symm
        generalize wd1.alloc (.cells nr 37) = wy2 at hm9 ⊢
        generalize wd1.heap.size = g1 at hm9 ⊢
        replace HM := Lib.hid (show Lows w [blkL g1 37 (RouteM.mk a bits k).cells, blkL P8 37 (RouteM.mk a bits k).cells, blkL (w.heap.size + 1) 30 (k.map u8v), blkL w.heap.size 28 (prefC a bits), rtL A n l] wy2 from hm9)
        clear hm9
        refine hK.out _ _ (HM.out.tail 0) (fun hHeld => ?_)
        clear hK K
        (try simp only [Act.put, List.setIfInBounds_toArray, List.set_cons_zero, List.set_cons_succ])
        refine wpAnyH_stronger (T := fun W' => Lows w [blkL g1 37 (RouteM.mk a bits k).cells, blkL P8 37 (RouteM.mk a bits k).cells, blkL (w.heap.size + 1) 30 (k.map u8v), blkL w.heap.size 28 (prefC a bits), rtL A n l] W') (fun _ h' => (h'.tail 0)) _ _ _ _ ?_
        replace hHeld := HM.out
        refine step_one 8 rfl (by kernel_rfl) (fun K hK => ?_)
        clear hHeld
        go_simp
        have hm9 := HM.out.alloc 23 #[.slice (addrK A 0 c 50) i c, .slice (some ⟨g1, 0, none⟩) 1 1, .slice (addrK A (i) c 50) (n - (i)) (c - (i))] (catV A n c i (i) g1) rfl
        generalize wy2.alloc (.cells #[.slice (addrK A 0 c 50) i c, .slice (some ⟨g1, 0, none⟩) 1 1, .slice (addrK A (i) c 50) (n - (i)) (c - (i))] 23) = wy3 at hm9 ⊢
        generalize wy2.heap.size = g2 at hm9 ⊢
        replace HM := Lib.hid (show Lows w [blkL g2 23 (catV A n c i (i) g1), blkL g1 37 (RouteM.mk a bits k).cells, blkL P8 37 (RouteM.mk a bits k).cells, blkL (w.heap.size + 1) 30 (k.map u8v), blkL w.heap.size 28 (prefC a bits), rtL A n l] wy3 from hm9)
        clear hm9
        refine hK.out _ _ (HM.out.tail 0) (fun hHeld => ?_)
        clear hK K
        (try simp only [Act.put, List.setIfInBounds_toArray, List.set_cons_zero, List.set_cons_succ])
        refine wpAnyH_stronger (T := fun W' => Lows w [blkL g2 23 (catV A n c i (i) g1), blkL g1 37 (RouteM.mk a bits k).cells, blkL P8 37 (RouteM.mk a bits k).cells, blkL (w.heap.size + 1) 30 (k.map u8v), blkL w.heap.size 28 (prefC a bits), rtL A n l] W') (fun _ h' => (h'.tail 0)) _ _ _ _ ?_
        replace hHeld := HM.out
        refine step_one 9 rfl (by kernel_rfl) (fun K hK => ?_)
        clear hHeld
        go_simp
        refine (cat_any A n c i (i) l (RouteM.mk a bits k) hn HNC.out.1 HIJ.out.1 HIJ.out.2 HNO.out g1 g2 23 _ (HM.out.get (f := rtL A n l) 5 rfl) (HM.out.blk 1 rfl) (HM.out.blk 0 rfl)).mono ?_
        rintro e wy4 ⟨A7, c7, rfl, hr7, hc7, hb⟩
        replace HM := Lib.hid (show Lows w [rtL A7 (i + (1 + (n - (i)))) (l.take i ++ RouteM.mk a bits k :: l.drop (i)), blkL g2 23 (catV A n c i (i) g1), blkL g1 37 (RouteM.mk a bits k).cells, blkL P8 37 (RouteM.mk a bits k).cells, blkL (w.heap.size + 1) 30 (k.map u8v), blkL w.heap.size 28 (prefC a bits), rtL A n l] wy4 from (HM.out.below hb).cons (rtL A7 (i + (1 + (n - (i)))) (l.take i ++ RouteM.mk a bits k :: l.drop (i))) (hr7))
        clear hb
        have HC7 := Lib.hid hc7
        clear hc7 hr7
        go_wp2_with fail
        refine hK.out _ _ (HM.out.tail 0) (fun hHeld => ?_)
        clear hK K
        (try simp only [Act.put, List.setIfInBounds_toArray, List.set_cons_zero, List.set_cons_succ])
        refine wpAnyH_stronger (T := fun W' => Lows w [rtL A7 (i + (1 + (n - (i)))) (l.take i ++ RouteM.mk a bits k :: l.drop (i)), blkL g2 23 (catV A n c i (i) g1), blkL g1 37 (RouteM.mk a bits k).cells, blkL P8 37 (RouteM.mk a bits k).cells, blkL (w.heap.size + 1) 30 (k.map u8v), blkL w.heap.size 28 (prefC a bits), rtL A n l] W') (fun _ h' => (h'.tail 0)) _ _ _ _ ?_
        replace hHeld := HM.out
        refine take_first (v := ?_) 10 rfl (by kernel_rfl) (by kernel_rfl) (by kernel_rfl) (fun _ _ _ h => h) (Or.inl ⟨by rfl, ?_⟩) (by assumption) ?_
        rotate_left
        · (intro w hSw; (try dsimp only at hSw); go_simp; try with_reducible rfl)
        (try simp only [Act.put, List.setIfInBounds_toArray, List.set_cons_zero, List.set_cons_succ])
        refine take_first (v := ?_) 11 rfl (by kernel_rfl) (by kernel_rfl) (by kernel_rfl) (fun _ _ _ h => h) (Or.inl ⟨by rfl, ?_⟩) (by assumption) ?_
        rotate_left
        · (intro w hSw; (try dsimp only at hSw); go_simp; try with_reducible rfl)
        (try simp only [Act.put, List.setIfInBounds_toArray, List.set_cons_zero, List.set_cons_succ])
        refine wpAnyH_done (by kernel_rfl) ?_ _
        clear hHeld
        have HF := Lib.hid (And.intro (HM.out.get (f := rtL A7 (i + (1 + (n - (i)))) (l.take i ++ RouteM.mk a bits k :: l.drop (i))) 0 rfl) HM.out.bel)
        clear HM
        go_wp2_with fail
        go_ret2
        rw [HRES.out]
        exact ⟨_, rfl, A7, c7, by rw [HLEN.out]; rfl, by rw [HLEN.out]; exact HC7.out.1, HC7.out.2, by rw [HLEN.out]; exact HF.out.1, HF.out.2⟩
end Go.Proofs.Ytnblofbbbkjhpaa
namespace Go.Proofs.Ytnblofbbbkjhpaa
open Go.RowKit

theorem rt_eql_nil (A : Option Addr) (n c : Nat) (w : World) : (binOp .eql 23 (.slice A n c) (.slice none 0 0)).run Try.prog w = .ok (.bool A.isNone) w := by
  have h := run_equal_slice_nil (P := Try.prog) w 23 37 A n c Try.underlying23
  simp [binOp, h, Result.andThen]
set_option maxRecDepth 100000 in
set_option maxHeartbeats 16000000 in
theorem rtClone_any (A : Option Addr) (n c : Nat) (os : List (List Value)) (hn : n ≤ 1000) (h1 : ∀ o ∈ os, ∀ v ∈ o, v.oneCell' = true) (w : World) (hr : RdRow w w.heap.size A 50 n os) :
    Calls Try.prog 41 #[.slice A n c] w fun e w' => ∃ A' c', e = .returned (.slice A' n c') ∧ w'.ownsRow w.heap.size 37 50 (.slice A' n c') n os.flatten ∧ Below w.heap.size w w' := by
  have HR := Lib.hid hr
  have H1 := Lib.hid (one_flat h1)
  obtain ⟨ik, hik, hiz, his, hib⟩ := routeInfo
  have HKI := Lib.hid (And.intro hik (And.intro hiz (And.intro his hib)))
  clear hik hiz his hib
  clear h1
  cases A with
  | none =>
    have hn0 : n = 0 := by
      rcases Nat.eq_zero_or_pos n with h | h
      · exact h
      · obtain ⟨b, off, e⟩ := hr.addr h
        cases e
    subst hn0
    clear hr
    have hen := rt_eql_nil none 0 c
    simp only [Option.isNone_none] at hen
    go_enter Try.func41, Try.ntmps41
    go_wp2
    go_ret
    have hl0 : os = [] := List.eq_nil_of_length_eq_zero HR.out.1
    subst hl0
    exact ⟨none, 0, rfl, World.ownsRow_nil _ _ _ _, Below.refl _ _⟩
  | some ad =>
    have HB := Lib.hid (show Mem w [blkE w.heap.size 37 []] (w.alloc (.cells #[] 37)) from (Mem.nil w).alloc rfl 37 #[] [] rfl)
    have hown0 := World.ownsRow_lit (base := w.heap.size) (e := 37) (size := 50) w #[] 0 (Nat.le_refl _) (by simp) rfl
    have HO := Lib.hid hown0
    clear hr hown0
    have hen := rt_eql_nil (some ad) n c
    simp only [Option.isNone_some] at hen
    go_enter Try.func41, Try.ntmps41
    go_wp2_with (refine wpList_append_rows _ rfl (.tmp 5) (.tmp 6) 23 rfl w.heap.size 37 ik _ 50 64 Try.underlying23 HKI.out.1 HKI.out.2.1 HKI.out.2.2.1 HKI.out.2.2.2 (by rfl) (by omega) (.slice (some ⟨w.heap.size, 0, none⟩) 0 0) 0 [] rfl HO.out _ (some ad) n c os rfl ((HR.out.below HB.out.bel).mono HB.out.size) H1.out (by unfold maxLen; omega) (by omega) HB.out.size ?_; intro v1 w3 hown1 hg1 _)
    rw [Nat.zero_add, List.nil_append] at hown1
    obtain ⟨A5, c5, rfl, _⟩ := own_sliceK hown1
    have HF := Lib.hid (HB.out.bel.grown hg1 HB.out.bel.size (fun k hk => own_from HO.out k hk))
    go_ret
    exact ⟨A5, c5, rfl, hown1, HF.out⟩
end Go.Proofs.Ytnblofbbbkjhpaa
namespace Go.Proofs.Ytnblofbbbkjhpaa
open Go.RowKit

theorem rt_kept_snoc (p : List Value → Bool) (l : List (List Value)) (o : List Value) : (l ++ [o]).filter (fun x => !p x) = l.filter (fun x => !p x) ++ (if p o = true then [] else [o]) := by
  rw [List.filter_append]
  cases h : p o <;> simp [h]
theorem rt_kept_all {p : List Value → Bool} {l : List (List Value)} (h : ∀ o ∈ l, p o = false) : l.filter (fun x => !p x) = l := by
  rw [List.filter_eq_self]
  intro o ho
  rw [h o ho]
  rfl
set_option maxRecDepth 100000 in
set_option maxHeartbeats 16000000 in
theorem rtDel_any (A : Option Addr) (n c : Nat) (os : List (List Value)) (hn : n ≤ 1000) (hl : os.length = n) (hk : ∀ o ∈ os, o.length = 50) (h1 : ∀ o ∈ os, ∀ v ∈ o, v.oneCell' = true) (F : Nat) (lb : Array Value) (hE : ∀ (args : Array Value) (W : World), (callFunc F args).run Try.prog W = .ok (.enter F args) W) (p : List Value → Bool) (B base : Nat) (w : World) (hB : B ≤ base) (hbs : base ≤ w.heap.size) (hown : w.ownsRow base 37 50 (.slice A n c) n os.flatten) (hf : PredB Try.prog F lb p B w os) :
    Calls Try.prog 40 #[.slice A n c, .func (.func F) #[] lb] w fun e w' => ∃ A' c' m, m = (os.filter fun o => !p o).length ∧ e = .returned (.slice A' m c') ∧ RdRow w' w'.heap.size A' 50 m (os.filter fun o => !p o) ∧ (m ≤ c' ∧ c' ≤ maxLen) ∧ (∀ ad, A' = some ad → base ≤ ad.block) ∧ Below base w w' := by
  have hr := RdRow.of_own hl hk hown
  have hidx := rtIdx_any A n c os (by omega) F lb hE p B w (by omega) hr hf
  obtain ⟨A5, c5, hv5, hc1, hc2, hlo⟩ := own_sliceK hown
  injection hv5 with hA5 _ hc5
  subst hA5 hc5
  rcases idxM_cases p os with hno | ⟨i0, o0, ho0, hp0, hn0⟩
  · rw [idxM_none hno] at hidx
    have HI := Lib.hid hidx
    have HF := Lib.hid (And.intro hr (And.intro (And.intro hc1 hc2) hlo))
    have HX := Lib.hid (rt_kept_all hno)
    have HL := Lib.hid hl
    have HBS := Lib.hid hbs
    clear hidx hr hc1 hc2 hlo hown hf hno hbs
    go_enter Try.func40, Try.ntmps40
    go_wp2_with fail
    refine HI.out.mono ?_
    rintro e w2 ⟨rfl, hb⟩
    have HW := Lib.hid hb
    clear hb
    go_wp2
    go_ret
    exact ⟨A, c, n, by rw [HX.out]; exact HL.out.symm, rfl, by rw [HX.out]; exact (HF.out.1.below HW.out).mono HW.out.size, HF.out.2.1, HF.out.2.2, HW.out.mono HBS.out⟩
  · rw [idxM_some ho0 hp0 hn0] at hidx
    have hi0 : i0 < n := by rw [← hl]; exact (List.getElem?_eq_some_iff.1 ho0).1
    rcases hown.2 with ⟨_, h0⟩ | ⟨g, cap, cur, hv, hbg, hg, hnc, hcm, hs, hcr⟩
    · omega
    injection hv with hA _ hcc
    subst hA hcc
    have hblk : Blk w g 37 (os.flatten ++ cur.toList.drop (n * 50)) := by
      unfold Blk
      rw [← hcr, List.take_append_drop, Array.toArray_toList]
      exact hg
    obtain ⟨rest, hrest⟩ : ∃ z, cur.toList.drop (n * 50) = z := ⟨_, rfl⟩
    rw [hrest] at hblk
    have hkeep : (os.take (i0 + 1)).filter (fun x => !p x) = os.take i0 := by
      rw [List.take_add_one, ho0, Option.toList_some, rt_kept_snoc, if_pos hp0, List.append_nil]
      exact rt_kept_all (fun o ho => by
        obtain ⟨q, hq, rfl⟩ := List.getElem_of_mem ho
        rw [List.length_take] at hq
        exact hn0 q _ (by omega) (by rw [List.getElem_take]; exact List.getElem?_eq_getElem (by omega)))
    have HI := Lib.hid hidx
    have HKEEP := Lib.hid hkeep
    have HBLK := Lib.hid hblk
    have HBG := Lib.hid (show B ≤ g ∧ base ≤ g from ⟨by omega, hbg⟩)
    have HC := Lib.hid (And.intro hnc hcm)
    have HK := Lib.hid hk
    have H1 := Lib.hid h1
    have HL := Lib.hid hl
    have HF := Lib.hid hf
    have d0 : ((i0 : Int) == -1) = false := by rw [beq_eq_false_iff_ne]; omega
    clear hidx hr hc1 hc2 hlo hown hf hkeep hblk hbg hg hs hcr hrest hk h1 hl hnc hcm hn0 hp0 ho0 hB hbs
    go_enter Try.func40, Try.ntmps40
    go_wp2_with fail
    refine HI.out.mono ?_
    rintro e w2 ⟨rfl, hb⟩
    have HW := Lib.hid (And.intro (hb.mono (Nat.le_of_lt HBLK.out.lt)) (show Blk w2 g 37 (os.flatten ++ rest) from HBLK.out.below hb HBLK.out.lt))
    clear hb HI
    go_wp2_with fail
    go_loopw [6, 5] (fun vj vi wr => ∃ (j m : Nat) (cs : List (List Value)), i0 < j ∧ j ≤ n ∧ vj = .int .i64 (j : Int) ∧ vi = .int .i64 (m : Int) ∧ m < j ∧ cs.length = n ∧ (∀ o ∈ cs, o.length = 50) ∧ cs.take m = (os.take j).filter (fun x => !p x) ∧ cs.drop j = os.drop j ∧ Blk wr g 37 (cs.flatten ++ rest) ∧ Below g w wr) (fun vj _ _ => n - (intOf vj).toNat)
    case atStart => exact ⟨i0 + 1, i0, os, by omega, by omega, by go_num, rfl, by omega, HL.out, HK.out, HKEEP.out.symm, rfl, HW.out.2, HW.out.1⟩
    case round =>
      clear HW d0 HBLK
      obtain ⟨j, m, cs, hij, hj, rfl, rfl, hmj, hcl, hck, htk, hdr, hbk, hbl⟩ := hrel
      have HO := Lib.hid (And.intro hcl (And.intro hck (And.intro htk (And.intro hdr (And.intro hbk hbl)))))
      clear hcl hck htk hdr hbk hbl
      by_cases hjn : j < n
      · have d1 : decide ((j : Int) < (n : Int)) = true := by simp; omega
        obtain ⟨o, ho⟩ : ∃ o, os[j]? = some o := ⟨os[j]'(by rw [HL.out]; exact hjn), List.getElem?_eq_getElem _⟩
        have hoc : cs[j]? = some o := by
          have h := congrArg (fun l => l[0]?) HO.out.2.2.2.1
          simp only [List.getElem?_drop, Nat.add_zero] at h
          rw [h]
          exact ho
        have HKO := Lib.hid (HK.out o (List.mem_of_getElem? ho))
        have H1O := Lib.hid (H1.out o (List.mem_of_getElem? ho))
        have HLA := Lib.hid (blk_at HO.out.2.2.2.2.1 HO.out.2.1 hoc)
        have HU := Lib.hid (rt_size o HKO.out)
        have HSN := Lib.hid (show (os.take (j + 1)).filter (fun x => !p x) = (os.take j).filter (fun x => !p x) ++ (if p o = true then [] else [o]) from by rw [List.take_add_one, ho, Option.toList_some, rt_kept_snoc])
        have HML := Lib.hid (show m ≤ cs.length from by rw [HO.out.1]; omega)
        have hcall := fun W (hb : Below B w W) => HF.out o (List.mem_of_getElem? ho) W hb
        obtain ⟨oc, hocc⟩ : ∃ z, o.toArray = z := ⟨_, rfl⟩
        rw [hocc] at hcall
        obtain ⟨y, hy⟩ : ∃ y, p o = y := ⟨_, rfl⟩
        rw [hy] at hcall HSN
        have HOC := Lib.hid hocc
        have HCL := Lib.hid hcall
        clear hocc hcall hy ho hoc
        have HZ := Lib.hid (Blk.new wr 37 routeZ)
        go_upto_region 8 with (first | (refine wpList_load_obj rfl 37 (.tmp 24) rfl g _ rfl o HLA.out _ Try.underlying37 rfl HU.out ?_; rw [HOC.out]) | (refine wpList_store_obj rfl 37 (.tmp 7) (.tmp 25) rfl wr.heap.size 0 o rfl (by show Value.agg oc = _; rw [HOC.out]) 37 routeZ HZ.out HU.out (by rw [HKO.out]; decide) H1O.out ?_; intro w4 hb4 hg4))
        rw [setL_all _ o (by rw [HKO.out]; decide)] at hb4
        have HBF := Lib.hid (below_fresh hg4)
        have HP := Lib.hid hb4
        have HO4 := Lib.hid (show Blk w4 g 37 (cs.flatten ++ rest) ∧ Below g w w4 from ⟨HO.out.2.2.2.2.1.below HBF.out HO.out.2.2.2.2.1.lt, HO.out.2.2.2.2.2.trans (HBF.out.mono (Nat.le_of_lt HO.out.2.2.2.2.1.lt))⟩)
        have HCC := Lib.hid (And.intro HO.out.1 (And.intro HO.out.2.1 (And.intro HO.out.2.2.1 HO.out.2.2.2.1)))
        clear hb4 hg4 HO HBF HZ d1 HLA
        generalize wr.heap.size = P1 at HP ⊢
        go_wp2_with (refine wpList_load_obj rfl 37 (.tmp 7) rfl P1 0 rfl o HP.out.all _ Try.underlying37 rfl HU.out ?_; rw [HOC.out])
        refine (HCL.out _ (HO4.out.2.mono HBG.out.1)).mono ?_
        rintro e w5 ⟨rfl, hb⟩
        have HP5 := Lib.hid (show Blk w5 P1 37 o from HP.out.below hb HP.out.lt)
        have HO5 := Lib.hid (show Blk w5 g 37 (cs.flatten ++ rest) ∧ Below g w w5 from ⟨HO4.out.1.below hb HO4.out.1.lt, HO4.out.2.trans (hb.mono (Nat.le_of_lt HO4.out.1.lt))⟩)
        clear hb HP HO4
        cases y with
        | true =>
          go_wp2_with fail
          go_roundw
          case rel => exact ⟨j + 1, m, cs, by omega, by omega, by go_num, rfl, by omega, HCC.out.1, HCC.out.2.1, by rw [HSN.out]; simpa using HCC.out.2.2.1, by rw [← List.drop_drop, HCC.out.2.2.2, List.drop_drop], HO5.out.1, HO5.out.2⟩
          case measure => simp [intOf]; omega
        | false =>
          have hmn : m < n := by omega
          have e1 : decide ((m : Int) < (n : Int)) = true := by simp; omega
          go_wp2_with (first | (refine wpList_load_obj rfl 37 (.tmp 7) rfl P1 0 rfl o HP5.out.all _ Try.underlying37 rfl HU.out ?_; rw [HOC.out]) | (refine wpList_store_obj rfl 37 (.tmp 33) (.tmp 32) rfl g (m * 50) o rfl (by show Value.agg oc = _; rw [HOC.out]) 37 (cs.flatten ++ rest) HO5.out.1 HU.out (by rw [HKO.out, List.length_append, flat_length HCC.out.2.1, HCC.out.1]; have := Nat.mul_le_mul_right 50 (show m + 1 ≤ n from hmn); rw [Nat.succ_mul] at this; omega) H1O.out ?_; intro w6 hb6 hg6))
          rw [flat_set HCC.out.2.1 HKO.out (by rw [HCC.out.1]; exact hmn)] at hb6
          go_roundw
          case rel => exact ⟨j + 1, m + 1, cs.set m o, by omega, by omega, by go_num, by go_num, by omega, by rw [List.length_set]; exact HCC.out.1, set_mem HCC.out.2.1 HKO.out, by rw [HSN.out, ← HCC.out.2.2.1, List.take_add_one, List.take_set_of_le (Nat.le_refl _), List.getElem?_set_self (by rw [HCC.out.1]; exact hmn)]; rfl, by rw [List.drop_set_of_lt (by omega), ← List.drop_drop, HCC.out.2.2.2, List.drop_drop], hb6, HO5.out.2.grown hg6 (Nat.le_of_lt HO5.out.1.lt) (fun k hk => by injection hk with hk; omega)⟩
          case measure => simp [intOf]; omega
      · obtain rfl : n = j := by omega
        have d1 : decide ((n : Int) < (n : Int)) = false := by simp
        have htk : cs.take m = os.filter (fun x => !p x) := by rw [HO.out.2.2.1, List.take_of_length_le (by rw [HL.out]; exact Nat.le_refl _)]
        have hml : (os.filter fun x => !p x).length = m := by rw [← htk, List.length_take, HO.out.1]; omega
        have hmk := Nat.mul_le_mul_right 50 (Nat.le_of_lt hmj)
        have hlen : (cs.flatten ++ rest).length = n * 50 + rest.length := by rw [List.length_append, flat_length HO.out.2.1, HO.out.1]
        have hzl : (Value.agg routeZ.toArray).cells.size = 50 := rfl
        obtain ⟨z, hz⟩ : ∃ z, n - m = z := ⟨_, rfl⟩
        have hzk : z * 50 = n * 50 - m * 50 := by rw [← hz, Nat.sub_mul]
        have HFIT := Lib.hid (show m * 50 + z * (Value.agg routeZ.toArray).cells.size ≤ (cs.flatten ++ rest).length from by rw [hzl, hlen, hzk]; omega)
        have HZP := Lib.hid (show 0 < z from by omega)
        have HTK := Lib.hid (And.intro htk hml)
        have HSL := Lib.hid (show ∀ Z, setL (cs.flatten ++ rest) (m * 50) Z = (cs.take m).flatten ++ (Z ++ (cs.flatten ++ rest).drop (m * 50 + Z.length)) from fun Z => by
          rw [setL, List.take_append_of_le_length (by rw [flat_length HO.out.2.1, HO.out.1]; omega), ← flat_take m HO.out.2.1, List.append_assoc])
        have hsl := rt_l (some ⟨g, 0, none⟩) n c m (by omega)
        rw [addrK_some (show m < c by have := HC.out; omega), Nat.zero_add, hz] at hsl
        have hsh := rt_h (some ⟨g, 0, none⟩) (n := n) c m (by omega) HC.out.1
        rw [addrK_zero_some] at hsh
        have HGB := Lib.hid HO.out.2.2.2.2
        have HCK := Lib.hid (fun o (h : o ∈ cs.take m) => HO.out.2.1 o (List.mem_of_mem_take h))
        obtain ⟨blkc, hbc⟩ : ∃ z, cs.flatten ++ rest = z := ⟨_, rfl⟩
        rw [hbc] at HGB HFIT HSL
        have hmc := HC.out
        clear HO htk hml hmk hlen hzk hzl hbc hz
        obtain ⟨cm, hcm⟩ : ∃ x, c - m = x := ⟨_, rfl⟩
        rw [hcm] at hsl
        clear hcm
        go_wp2_with (refine wpList_clear_objs _ rfl (.tmp 38) 23 37 rfl Try.underlying23 (.agg routeZ.toArray) rt_zero (by decide) g (m * 50) z cm rfl 37 blkc HGB.out.1 HFIT.out HZP.out ?_; intro w7 hb7 hg7)
        go_ret
        rw [HSL.out] at hb7
        refine ⟨some ⟨g, 0, none⟩, c, m, HTK.out.2.symm, rfl, ?_, ⟨by omega, hmc.2⟩, fun ad h => by injection h with h; subst h; exact HBG.out.2, (HGB.out.2.grown hg7 (Nat.le_of_lt HGB.out.1.lt) (fun k hk => by injection hk with hk; omega)).mono HBG.out.2⟩
        have h := blk_row hb7 HCK.out rfl
        rw [HTK.out.1, HTK.out.2] at h
        exact h
end Go.Proofs.Ytnblofbbbkjhpaa
namespace Go.Proofs.Ytnblofbbbkjhpaa
open Go.RowKit

set_option maxRecDepth 100000 in
set_option maxHeartbeats 8000000 in
theorem rtRemC : RtRemC 15 := by
  intro A n c l a bits w hoa hob harg
  obtain ⟨hn, hnc, hcm, hr⟩ := harg
  have HO := Lib.hid hr.2
  have HLN := Lib.hid (show (rtsV l).length = n from hr.1.1)
  have HRW := Lib.hid hr.1
  obtain ⟨pa, hpa⟩ : ∃ z, (prefC a bits).toArray = z := ⟨_, rfl⟩
  rw [hpa]
  have HM := Lib.hid ((Lows.nil w).alloc 28 pa (prefC a bits) hpa.symm)
  clear hpa hr
  have hwlt : w.heap.size < (w.alloc (.cells pa 28)).heap.size := by simp
  have HW := Lib.hid hwlt
  clear hwlt
  go_enter Try.func15, Try.ntmps15
  go_upto_region 1 with fail
  generalize w.alloc (.cells pa 28) = w1 at HM HW ⊢
  have HCL := Lib.hid (rtClone_any A n c (rtsV l) (by omega) (rts_one l) w1 ((HRW.out.below HM.out.bel).mono HM.out.size))
  go_wp2_with fail
  refine HCL.out.mono ?_
  rintro e w2 ⟨A2, c2, rfl, hown, hb⟩
  have HM2 := Lib.hid (HM.out.below hb)
  have hpr : PredB Try.prog 42 #[.pointer (some ⟨w.heap.size, 0, none⟩)] (prefP a bits) w1.heap.size w2 (rtsV l) := by
    intro o ho W hW
    obtain ⟨r, hr, rfl⟩ := rts_mem HO.out ho
    rw [prefP_is hoa hr]
    have hw1 := HW.out
    exact remPred_any a bits hoa hob r hr w.heap.size W (Nat.lt_of_lt_of_le hw1 (Nat.le_trans hb.size hW.size)) (((HM2.out.blk 0 rfl).all).mono hW hw1)
  have HD := Lib.hid (rtDel_any A2 n c2 (rtsV l) (by omega) HLN.out (fun o ho => by obtain ⟨r, hr, rfl⟩ := rts_mem HO.out ho; exact RouteM.cells_length hr) (rts_one l) 42 #[.pointer (some ⟨w.heap.size, 0, none⟩)] (enters_of Try.func42 (by kernel_rfl) rfl) (prefP a bits) w1.heap.size w1.heap.size w2 (Nat.le_refl _) hb.size hown hpr)
  clear hown hb hpr
  go_wp2_with fail
  refine HD.out.mono ?_
  rintro e w3 ⟨A3, c3, m, hm, rfl, hrd, hc3, -, hb⟩
  rw [rts_remM HO.out hoa bits] at hm hrd
  rw [rts_len] at hm
  have HF := Lib.hid (And.intro hrd (And.intro hc3 (HM2.out.bel.trans (hb.mono HM.out.size))))
  clear hrd hc3 hb HD
  go_wp2
  go_ret
  subst hm
  exact ⟨_, rfl, A3, c3, rfl, HF.out.2.1.1, HF.out.2.1.2, ⟨HF.out.1, remM_ok HO.out a bits⟩, HF.out.2.2⟩
set_option maxRecDepth 100000 in
set_option maxHeartbeats 8000000 in
theorem rtRemPC : RtRemPC 17 := by
  intro A n c l k w hk harg
  obtain ⟨hn, hnc, hcm, hr⟩ := harg
  have HO := Lib.hid hr.2
  have HLN := Lib.hid (show (rtsV l).length = n from hr.1.1)
  have HRW := Lib.hid hr.1
  obtain ⟨pa, hpa⟩ : ∃ z, (k.map u8v).toArray = z := ⟨_, rfl⟩
  rw [hpa]
  have HM := Lib.hid ((Lows.nil w).alloc 30 pa (k.map u8v) hpa.symm)
  clear hpa hr
  have hwlt : w.heap.size < (w.alloc (.cells pa 30)).heap.size := by simp
  have HW := Lib.hid hwlt
  clear hwlt
  go_enter Try.func17, Try.ntmps17
  go_upto_region 1 with fail
  generalize w.alloc (.cells pa 30) = w1 at HM HW ⊢
  have HCL := Lib.hid (rtClone_any A n c (rtsV l) (by omega) (rts_one l) w1 ((HRW.out.below HM.out.bel).mono HM.out.size))
  go_wp2_with fail
  refine HCL.out.mono ?_
  rintro e w2 ⟨A2, c2, rfl, hown, hb⟩
  have HM2 := Lib.hid (HM.out.below hb)
  have hpr : PredB Try.prog 43 #[.pointer (some ⟨w.heap.size, 0, none⟩)] (peerP k) w1.heap.size w2 (rtsV l) := by
    intro o ho W hW
    obtain ⟨r, hr, rfl⟩ := rts_mem HO.out ho
    rw [peerP_is hr]
    have hw1 := HW.out
    exact peerPred_any k hk r hr w.heap.size W (Nat.lt_of_lt_of_le hw1 (Nat.le_trans hb.size hW.size)) (((HM2.out.blk 0 rfl).all).mono hW hw1)
  have HD := Lib.hid (rtDel_any A2 n c2 (rtsV l) (by omega) HLN.out (fun o ho => by obtain ⟨r, hr, rfl⟩ := rts_mem HO.out ho; exact RouteM.cells_length hr) (rts_one l) 43 #[.pointer (some ⟨w.heap.size, 0, none⟩)] (enters_of Try.func43 (by kernel_rfl) rfl) (peerP k) w1.heap.size w1.heap.size w2 (Nat.le_refl _) hb.size hown hpr)
  clear hown hb hpr
  go_wp2_with fail
  refine HD.out.mono ?_
  rintro e w3 ⟨A3, c3, m, hm, rfl, hrd, hc3, -, hb⟩
  rw [rts_remPeerM HO.out k] at hm hrd
  rw [rts_len] at hm
  have HF := Lib.hid (And.intro hrd (And.intro hc3 (HM2.out.bel.trans (hb.mono HM.out.size))))
  clear hrd hc3 hb HD
  go_wp2
  go_ret
  subst hm
  exact ⟨_, rfl, A3, c3, rfl, HF.out.2.1.1, HF.out.2.1.2, ⟨HF.out.1, remPeerM_ok HO.out k⟩, HF.out.2.2⟩
end Go.Proofs.Ytnblofbbbkjhpaa
namespace Go.Proofs.Ytnblofbbbkjhpaa
open Go.RowKit

set_option maxRecDepth 100000 in
set_option maxHeartbeats 16000000 in
theorem of_any (A : Option Addr) (n c : Nat) (l : List RouteM) (hn : n ≤ 1000) (k : List UInt8) (hk : k.length = 32) (w : World) (ha : RtRd w w.heap.size A n l) :
    Calls Try.prog 20 #[.slice A n c, .agg (k.map u8v).toArray] w fun e w' => ∃ A' c', e = .returned (.slice A' (ofM l k).length c') ∧ w'.ownsRow w.heap.size 28 18 (.slice A' (ofM l k).length c') (ofM l k).length (pfsV (ofM l k)).flatten ∧ Below w.heap.size w w' := by
  have HA := Lib.hid ha
  have HARG := Lib.hid (hk)
  have HU := Lib.hid (key_cellsOf k hk)
  clear ha
  obtain ⟨ik, hik, hiz, his, hib⟩ := prefInfo
  have HKI := Lib.hid (And.intro hik (And.intro hiz (And.intro his hib)))
  clear hik hiz his hib
  obtain ⟨pa, hpa⟩ : ∃ z, (k.map u8v).toArray = z := ⟨_, rfl⟩
  rw [hpa]
  have hm := (Mem.nil w).alloc rfl 30 pa (k.map u8v) hpa.symm
  have HM := Lib.hid hm
  have HPA := Lib.hid hpa
  clear hpa hm
  go_enter Try.func20, Try.ntmps20
  go_upto_region 2 with fail
  have HB := Lib.hid HM.out.fix
  generalize (w.alloc (.cells pa 30)) = w1 at HM HB ⊢
  obtain ⟨B, hB⟩ : ∃ B, w1.heap.size = B := ⟨_, rfl⟩
  rw [hB] at HB
  clear hB HM
  go_wp2_with fail
  go_loopw [10, 5] (fun i vo wr => ∃ j m : Nat, j ≤ n ∧ i = .int .i64 (j : Int) ∧ m = (ofM (l.take j) k).length ∧ wr.ownsRow B 28 18 vo m (pfsV (ofM (l.take j) k)).flatten ∧ MemB w B [blkE w.heap.size 30 (k.map u8v)] wr) (fun i _ _ => n - (intOf i).toNat)
  case atStart => exact ⟨0, 0, by omega, rfl, rfl, World.ownsRow_nil _ _ _ _, HB.out⟩
  case round =>
    clear HB
    obtain ⟨j, m, hj, rfl, hm, hown, hmb⟩ := hrel
    have HO := Lib.hid (And.intro hown hmb)
    have HMM := Lib.hid hm
    clear hown hmb hm
    by_cases hjn : j < n
    · have d1 : decide ((j : Int) < (n : Int)) = true := by simp; omega
      obtain ⟨b, off, rfl⟩ := HA.out.1.addr (by omega)
      obtain ⟨r, hr⟩ : ∃ r, l[j]? = some r := ⟨l[j]'(by rw [HA.out.len]; exact hjn), List.getElem?_eq_getElem _⟩
      have HOK := Lib.hid (HA.out.ok hr)
      have hat := HA.out.at j r hr
      have HLA := Lib.hid (hat.2.mono HO.out.2.2.1 hat.1)
      have HLE := Lib.hid (show m ≤ n from by rw [HMM.out]; exact Nat.le_trans (ofM_le _ _) (by rw [List.length_take]; omega))
      have HSN := Lib.hid (take_snoc hr)
      clear hat hr
      obtain ⟨rc, hrc⟩ : ∃ z, r.cells.toArray = z := ⟨_, rfl⟩
      obtain ⟨rp, hrp⟩ : ∃ z, (prefC r.a r.bits).toArray = z := ⟨_, rfl⟩
      have HPC := Lib.hid hrp
      clear hrp
      obtain ⟨fc, hfc⟩ : ∃ z, (r.peer.map u8v).toArray = z := ⟨_, rfl⟩
      have heq := fun w' : World => key_eq r.peer k HOK.out.2.1 hk w'
      rw [hfc, HPA.out] at heq
      have HEQ := Lib.hid heq
      have HRC := Lib.hid hrc
      have HFC := Lib.hid hfc
      clear hrc hfc heq
      have HZ := Lib.hid (Blk.new wr 37 routeZ)
      go_upto_region 5 with (first | (refine wpList_load_obj rfl 37 (.tmp 12) rfl b _ rfl r.cells HLA.out _ Try.underlying37 rfl (route_cellsOf r HOK.out) ?_; rw [HRC.out]) | (refine wpList_store_obj rfl 37 (.tmp 7) (.tmp 13) rfl wr.heap.size 0 r.cells rfl (by show Value.agg rc = _; rw [HRC.out]) 37 routeZ HZ.out (route_cellsOf r HOK.out) (by rw [RouteM.cells_length HOK.out, routeZ_length]; omega) (route_one r) ?_; intro w4 hb4 hg4))
      rw [setL_all routeZ r.cells (by rw [RouteM.cells_length HOK.out, routeZ_length])] at hb4
      have HBF := Lib.hid (below_fresh hg4)
      have HP := Lib.hid hb4
      have HO4 := Lib.hid (show w4.ownsRow B 28 18 u5 m (pfsV (ofM (l.take j) k)).flatten ∧ MemB w B [blkE w.heap.size 30 (k.map u8v)] w4 from ⟨own_below HO.out.1 HBF.out, HO.out.2.below (HBF.out.mono HO.out.2.2.2)⟩)
      clear hb4 hg4 HO HBF HZ d1
      generalize wr.heap.size = P1 at HP ⊢
      by_cases hq : r.peer = k
      · have HRE := Lib.hid (show ofM (l.take (j + 1)) k = ofM (l.take j) k ++ [(r.a, r.bits)] by rw [HSN.out, ofM_snoc, if_pos hq])
        rw [decide_eq_true hq] at HEQ
        clear hq
        go_wp2_with (first | (refine wpList_load_obj rfl 30 (.tmp 14) rfl P1 18 rfl (r.peer.map u8v) (by simpa using route_peer HP.out.all HOK.out) _ Try.underlying30 rfl (key_cellsOf _ HOK.out.2.1) ?_; rw [HFC.out]) | (refine wpList_load_obj rfl 30 (.tmp 3) rfl w.heap.size 0 rfl (k.map u8v) ((HO4.out.2.mem.blk 0 rfl).all) _ Try.underlying30 rfl HU.out ?_; rw [HPA.out]) | (refine wpList_eql_agg (by rfl) 30 30 15 16 rfl fc pa true rfl rfl key_noguard (HEQ.out _) ?_) | (refine wpList_load_obj rfl 28 (.tmp 19) rfl P1 0 rfl (prefC r.a r.bits) (route_pref HP.out.all) _ Try.underlying28 rfl (pref_cellsOf' r.a HOK.out.1 r.bits) ?_; rw [HPC.out]) | (refine wpList_buildOne rfl 38 28 (.tmp 20) rfl rp rfl 18 Try.underlying38 ik HKI.out.1 HKI.out.2.2.1 _ HKI.out.2.1 (by omega) (by omega) (by rw [← HPC.out, List.size_toArray, prefC_length r.a HOK.out.1]) ?_) | (refine wpList_append_own_at _ rfl (.tmp 18) (.tmp 21) 38 rfl B 28 ik _ 18 32 Try.underlying38 HKI.out.1 HKI.out.2.1 HKI.out.2.2.1 HKI.out.2.2.2 (by rfl) (by omega) u5 m _ rfl (HO4.out.1.alloc (.cells rp 28)) ⟨w4.heap.size, 0, none⟩ 1 1 (prefC r.a r.bits) rfl (by rw [prefC_length r.a HOK.out.1]) (fun q v hv => by rw [Go.WideShapes.add_plain, Nat.zero_add, ← HPC.out, (Blk.new w4 28 (prefC r.a r.bits)).cell]; exact hv) (pref_oneR _ _) (by unfold maxLen; have := HLE.out; omega) (by have := HLE.out; omega) (HO4.out.2.below ((Below.refl B w4).alloc HO4.out.2.2.2 (.cells rp 28))).2.2 ?_; intro v6 w6 ho6 hg6 hk6a hk6))
        go_roundw
        case rel => exact ⟨j + 1, m + 1, by omega, by go_num, by rw [HRE.out, List.length_append, ← HMM.out]; rfl, by rw [HRE.out, pfsV_snoc]; exact ho6, (HO4.out.2.below ((Below.refl B w4).alloc HO4.out.2.2.2 (.cells rp 28))).below ((Below.refl B _).grown hg6 (HO4.out.2.below ((Below.refl B w4).alloc HO4.out.2.2.2 (.cells rp 28))).2.2 (own_from HO4.out.1))⟩
        case measure => simp [intOf]; omega
      · have HRE := Lib.hid (show ofM (l.take (j + 1)) k = ofM (l.take j) k by rw [HSN.out, ofM_snoc, if_neg hq, List.append_nil])
        rw [decide_eq_false hq] at HEQ
        clear hq
        go_wp2_with (first | (refine wpList_load_obj rfl 30 (.tmp 14) rfl P1 18 rfl (r.peer.map u8v) (by simpa using route_peer HP.out.all HOK.out) _ Try.underlying30 rfl (key_cellsOf _ HOK.out.2.1) ?_; rw [HFC.out]) | (refine wpList_load_obj rfl 30 (.tmp 3) rfl w.heap.size 0 rfl (k.map u8v) ((HO4.out.2.mem.blk 0 rfl).all) _ Try.underlying30 rfl HU.out ?_; rw [HPA.out]) | (refine wpList_eql_agg (by rfl) 30 30 15 16 rfl fc pa false rfl rfl key_noguard (HEQ.out _) ?_))
        go_roundw
        case rel => exact ⟨j + 1, m, by omega, by go_num, by rw [HRE.out]; exact HMM.out, by rw [HRE.out]; exact HO4.out.1, HO4.out.2⟩
        case measure => simp [intOf]; omega
    · obtain rfl : j = n := by omega
      obtain ⟨A9, c9, rfl⟩ : ∃ A c, u5 = .slice A m c := by
        rcases HO.out.1.2 with ⟨h, h0⟩ | ⟨g, cap, cur, h, _⟩
        · exact ⟨none, 0, by rw [h, h0]⟩
        · exact ⟨_, _, h⟩
      have d1 : decide ((j : Int) < (j : Int)) = false := by simp
      have htk : l.take j = l := List.take_of_length_le (by rw [HA.out.len]; exact Nat.le_refl _)
      rw [htk] at HO HMM
      have HF := Lib.hid (And.intro (own_base HO.out.1 HO.out.2.1.base) HO.out.2.2.1)
      have HX := Lib.hid HMM.out
      clear HO HMM htk
      go_wp2
      go_ret
      rw [← HX.out]
      exact ⟨_, _, rfl, HF.out.1, HF.out.2⟩
theorem rtOfC : RtOfC 20 := by
  intro A n c l k w hk harg
  refine (of_any A n c l (by have := harg.1; omega) k hk w harg.2.2.2).mono ?_
  rintro e w' ⟨A', c', rfl, ho, hb⟩
  exact ⟨A', c', rfl, PfRd.of_own rfl (ofM_ok harg.2.2.2.2 k) ho, hb⟩
end Go.Proofs.Ytnblofbbbkjhpaa
