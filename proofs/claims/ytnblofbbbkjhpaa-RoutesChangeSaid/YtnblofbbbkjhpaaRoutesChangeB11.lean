/-
  What is asked of Lookup holds of the landed one. RoutesChange returns true for every input, by what the landed functions give. No statement is proved here.
-/
import Derived.RegionTactic
import Derived.Deep.DeepCutAuto
import Derived.Test.YtnblofbbbkjhpaaRoutesChangeB10
namespace Go.Proofs.Ytnblofbbbkjhpaa
open Go.RowKit

/-- the cells of the best route so far -/
def bestC (l : List RouteM) : Option Nat → List Value
  | none => routeZ
  | some k => match l[k]? with
    | none => routeZ
    | some q => q.cells
theorem bestC_length {l : List RouteM} (h : ∀ r ∈ l, r.ok) (b : Option Nat) : (bestC l b).length = 50 := by
  unfold bestC
  cases b with
  | none => rfl
  | some k =>
    cases hq : l[k]? with
    | none => simp only [hq]; rfl
    | some q => simp only [hq]; exact RouteM.cells_length (h q (List.mem_of_getElem? hq))
set_option maxRecDepth 100000 in
set_option maxHeartbeats 16000000 in
theorem lookups_any (A : Option Addr) (n c : Nat) (l : List RouteM) (hn : n ≤ 1000) (x : AddrM) (hx : x.ok) (w : World) (ha : RtRd w w.heap.size A n l) :
    Calls Try.prog 26 #[.slice A n c, .agg x.cells.toArray] w fun e w' => e = .returned (.tuple #[.agg ((lookM l x).1.map u8v).toArray, .bool (lookM l x).2]) ∧ Below w.heap.size w w' := by
  have HA := Lib.hid ha
  have HOX := Lib.hid hx
  obtain ⟨cx, hcx⟩ : ∃ z, x.cells.toArray = z := ⟨_, rfl⟩
  rw [hcx]
  have HCX := Lib.hid hcx
  have hm := (((Mem.nil w).alloc (g := w.heap.size) rfl 26 cx x.cells hcx.symm).alloc (g := w.heap.size + 1) (by simp) 30 #[.int .u8 0, .int .u8 0, .int .u8 0, .int .u8 0, .int .u8 0, .int .u8 0, .int .u8 0, .int .u8 0, .int .u8 0, .int .u8 0, .int .u8 0, .int .u8 0, .int .u8 0, .int .u8 0, .int .u8 0, .int .u8 0, .int .u8 0, .int .u8 0, .int .u8 0, .int .u8 0, .int .u8 0, .int .u8 0, .int .u8 0, .int .u8 0, .int .u8 0, .int .u8 0, .int .u8 0, .int .u8 0, .int .u8 0, .int .u8 0, .int .u8 0, .int .u8 0] (aeZ 32) rfl).alloc (g := w.heap.size + 1 + 1) (by simp) 37 #[.bool false, .int .u8 0, .int .u8 0, .int .u8 0, .int .u8 0, .int .u8 0, .int .u8 0, .int .u8 0, .int .u8 0, .int .u8 0, .int .u8 0, .int .u8 0, .int .u8 0, .int .u8 0, .int .u8 0, .int .u8 0, .int .u8 0, .int .i64 0, .int .u8 0, .int .u8 0, .int .u8 0, .int .u8 0, .int .u8 0, .int .u8 0, .int .u8 0, .int .u8 0, .int .u8 0, .int .u8 0, .int .u8 0, .int .u8 0, .int .u8 0, .int .u8 0, .int .u8 0, .int .u8 0, .int .u8 0, .int .u8 0, .int .u8 0, .int .u8 0, .int .u8 0, .int .u8 0, .int .u8 0, .int .u8 0, .int .u8 0, .int .u8 0, .int .u8 0, .int .u8 0, .int .u8 0, .int .u8 0, .int .u8 0, .int .u8 0] routeZ rfl
  have HM := Lib.hid (show Mem w [blkE (w.heap.size + 1 + 1) 37 (bestC l none), blkE (w.heap.size + 1) 30 (aeZ 32), blkE w.heap.size 26 x.cells] (((w.alloc (.cells cx 26)).alloc (.cells #[.int .u8 0, .int .u8 0, .int .u8 0, .int .u8 0, .int .u8 0, .int .u8 0, .int .u8 0, .int .u8 0, .int .u8 0, .int .u8 0, .int .u8 0, .int .u8 0, .int .u8 0, .int .u8 0, .int .u8 0, .int .u8 0, .int .u8 0, .int .u8 0, .int .u8 0, .int .u8 0, .int .u8 0, .int .u8 0, .int .u8 0, .int .u8 0, .int .u8 0, .int .u8 0, .int .u8 0, .int .u8 0, .int .u8 0, .int .u8 0, .int .u8 0, .int .u8 0] 30)).alloc (.cells #[.bool false, .int .u8 0, .int .u8 0, .int .u8 0, .int .u8 0, .int .u8 0, .int .u8 0, .int .u8 0, .int .u8 0, .int .u8 0, .int .u8 0, .int .u8 0, .int .u8 0, .int .u8 0, .int .u8 0, .int .u8 0, .int .u8 0, .int .i64 0, .int .u8 0, .int .u8 0, .int .u8 0, .int .u8 0, .int .u8 0, .int .u8 0, .int .u8 0, .int .u8 0, .int .u8 0, .int .u8 0, .int .u8 0, .int .u8 0, .int .u8 0, .int .u8 0, .int .u8 0, .int .u8 0, .int .u8 0, .int .u8 0, .int .u8 0, .int .u8 0, .int .u8 0, .int .u8 0, .int .u8 0, .int .u8 0, .int .u8 0, .int .u8 0, .int .u8 0, .int .u8 0, .int .u8 0, .int .u8 0, .int .u8 0, .int .u8 0] 37)) from hm)
  clear ha hx hcx hm
  have HZK := Lib.hid (show (Try.prog.info? 30).map (·.size) = some (aeZ 32).length by kernel_rfl)
  go_enter Try.func26, Try.ntmps26
  go_upto_region 2 with fail
  generalize ((w.alloc (.cells cx 26)).alloc (.cells #[.int .u8 0, .int .u8 0, .int .u8 0, .int .u8 0, .int .u8 0, .int .u8 0, .int .u8 0, .int .u8 0, .int .u8 0, .int .u8 0, .int .u8 0, .int .u8 0, .int .u8 0, .int .u8 0, .int .u8 0, .int .u8 0, .int .u8 0, .int .u8 0, .int .u8 0, .int .u8 0, .int .u8 0, .int .u8 0, .int .u8 0, .int .u8 0, .int .u8 0, .int .u8 0, .int .u8 0, .int .u8 0, .int .u8 0, .int .u8 0, .int .u8 0, .int .u8 0] 30)).alloc (.cells #[.bool false, .int .u8 0, .int .u8 0, .int .u8 0, .int .u8 0, .int .u8 0, .int .u8 0, .int .u8 0, .int .u8 0, .int .u8 0, .int .u8 0, .int .u8 0, .int .u8 0, .int .u8 0, .int .u8 0, .int .u8 0, .int .u8 0, .int .i64 0, .int .u8 0, .int .u8 0, .int .u8 0, .int .u8 0, .int .u8 0, .int .u8 0, .int .u8 0, .int .u8 0, .int .u8 0, .int .u8 0, .int .u8 0, .int .u8 0, .int .u8 0, .int .u8 0, .int .u8 0, .int .u8 0, .int .u8 0, .int .u8 0, .int .u8 0, .int .u8 0, .int .u8 0, .int .u8 0, .int .u8 0, .int .u8 0, .int .u8 0, .int .u8 0, .int .u8 0, .int .u8 0, .int .u8 0, .int .u8 0, .int .u8 0, .int .u8 0] 37) = w1 at HM ⊢
  go_wp2_with fail
  go_loopw [12, 7] (fun i vb wr => ∃ j : Nat, j ≤ n ∧ i = .int .i64 (j : Int) ∧ vb = .bool (bestTo l x j).isSome ∧ Mem w [blkE (w.heap.size + 1 + 1) 37 (bestC l (bestTo l x j)), blkE (w.heap.size + 1) 30 (aeZ 32), blkE w.heap.size 26 x.cells] wr) (fun i _ _ => n - (intOf i).toNat)
  case atStart => exact ⟨0, by omega, rfl, rfl, HM.out⟩
  case round =>
    clear HM
    obtain ⟨j, hj, rfl, rfl, hM⟩ := hrel
    have HM := Lib.hid hM
    clear hM
    by_cases hjn : j < n
    · have d1 : decide ((j : Int) < (n : Int)) = true := by simp; omega
      obtain ⟨b, off, rfl⟩ := HA.out.1.addr (by omega)
      obtain ⟨r, hr⟩ : ∃ r, l[j]? = some r := ⟨l[j]'(by rw [HA.out.len]; exact hjn), List.getElem?_eq_getElem _⟩
      have HOK := Lib.hid (HA.out.ok hr)
      have hat := HA.out.at j r hr
      have HLA := Lib.hid (hat.2.mono HM.out.bel hat.1)
      have HJR := Lib.hid hr
      clear hat hr
      obtain ⟨rc, hrc⟩ : ∃ z, r.cells.toArray = z := ⟨_, rfl⟩
      have HRC := Lib.hid hrc
      have hvc := contains_any r.a r.bits HOK.out.1 x HOX.out
      obtain ⟨rp, hrp⟩ : ∃ z, (prefC r.a r.bits).toArray = z := ⟨_, rfl⟩
      rw [hrp, HCX.out] at hvc
      have HRP := Lib.hid hrp
      have HCC := Lib.hid hvc
      clear hrc hrp hvc
      have HZ := Lib.hid (Blk.new wr 37 routeZ)
      obtain ⟨bt, hbt⟩ : ∃ z, bestTo l x j = z := ⟨_, rfl⟩
      rw [hbt] at HM ⊢
      have HBL := Lib.hid (bestC_length HA.out.2 bt)
      go_upto_region 6 with (first | (refine wpList_load_obj rfl 37 (.tmp 14) rfl b _ rfl r.cells HLA.out _ Try.underlying37 rfl (route_cellsOf r HOK.out) ?_; rw [HRC.out]) | (refine wpList_store_obj rfl 37 (.tmp 9) (.tmp 15) rfl wr.heap.size 0 r.cells rfl (by show Value.agg rc = _; rw [HRC.out]) 37 routeZ HZ.out (route_cellsOf r HOK.out) (by rw [RouteM.cells_length HOK.out, routeZ_length]; omega) (route_one r) ?_; intro w4 hb4 hg4))
      rw [setL_all routeZ r.cells (by rw [RouteM.cells_length HOK.out, routeZ_length])] at hb4
      replace HM := Lib.hid (HM.out.below (below_fresh hg4))
      have HP := Lib.hid hb4
      clear hb4 hg4 HZ d1 HLA
      generalize wr.heap.size = P1 at HP ⊢
      obtain ⟨v, hv⟩ : ∃ v, containsM r.a r.bits x = v := ⟨_, rfl⟩
      rw [hv] at HCC
      have HV := Lib.hid hv
      have HBT := Lib.hid hbt
      clear hv hbt
      cases v with
      | false =>
        have HBE := Lib.hid (show bestTo l x (j + 1) = bt from by rw [bestTo_no HJR.out HV.out, HBT.out])
        go_wp2_with (first | (refine wpList_load_obj rfl 28 (.tmp 16) rfl P1 0 rfl (prefC r.a r.bits) (route_pref HP.out.all) _ Try.underlying28 rfl (pref_cellsOf' r.a HOK.out.1 r.bits) ?_; rw [HRP.out]) | (refine wpList_load_obj rfl 26 (.tmp 3) rfl w.heap.size 0 rfl x.cells ((HM.out.blk 2 rfl).all) _ Try.underlying26 rfl (addr_cellsOf x HOX.out) ?_; rw [HCX.out]))
        refine (HCC.out _).mono ?_
        rintro e w5 ⟨rfl, hb⟩
        have HM5 := Lib.hid (HM.out.below hb)
        clear hb HM HP
        go_wp2_with fail
        go_roundw
        case rel => exact ⟨j + 1, by omega, by go_num, by rw [HBE.out], by rw [HBE.out]; exact HM5.out⟩
        case measure => simp [intOf]; omega
      | true =>
        cases bt with
        | none =>
          obtain ⟨bt, hbt0⟩ : ∃ bt : Option Nat, none = bt := ⟨_, rfl⟩
          have HBQ := Lib.hid hbt0
          clear hbt0
          have HBE := Lib.hid (show bestTo l x (j + 1) = some j from bestTo_first HJR.out HV.out HBT.out)
          simp only [Option.isSome_none]
          go_wp2_with (first | (refine wpList_load_obj rfl 28 (.tmp 16) rfl P1 0 rfl (prefC r.a r.bits) (route_pref HP.out.all) _ Try.underlying28 rfl (pref_cellsOf' r.a HOK.out.1 r.bits) ?_; rw [HRP.out]) | (refine wpList_load_obj rfl 26 (.tmp 3) rfl w.heap.size 0 rfl x.cells ((HM.out.blk 2 rfl).all) _ Try.underlying26 rfl (addr_cellsOf x HOX.out) ?_; rw [HCX.out]))
          refine (HCC.out _).mono ?_
          rintro e w5 ⟨rfl, hb⟩
          have HM5 := Lib.hid (show Mem w [blkE (w.heap.size + 1 + 1) 37 (bestC l bt), blkE (w.heap.size + 1) 30 (aeZ 32), blkE w.heap.size 26 x.cells] w5 from by rw [← HBQ.out]; exact HM.out.below hb)
          have HP5 := Lib.hid (HP.out.below hb HP.out.lt)
          rw [HBQ.out] at HBL
          clear hb HM HP
          go_upto_region 7 with fail
          go_wp2_with (first | (refine wpList_load_obj rfl 37 (.tmp 9) rfl P1 0 rfl r.cells HP5.out.all _ Try.underlying37 rfl (route_cellsOf r HOK.out) ?_; rw [HRC.out]) | (refine wpList_store_obj rfl 37 (.tmp 6) (.tmp 33) rfl (w.heap.size + 1 + 1) 0 r.cells rfl (by show Value.agg rc = _; rw [HRC.out]) 37 (bestC l bt) (HM5.out.blk 0 rfl) (route_cellsOf r HOK.out) (by rw [RouteM.cells_length HOK.out, HBL.out]; omega) (route_one r) ?_; intro w7 hb7 hg7))
          rw [setL_all _ r.cells (by rw [RouteM.cells_length HOK.out, HBL.out])] at hb7
          have HM7 := Lib.hid (HM5.out.put 0 rfl _ hg7 hb7)
          clear hb7 hg7
          go_roundw
          case rel => exact ⟨j + 1, by omega, by go_num, by rw [HBE.out]; rfl, by rw [HBE.out]; show Mem w [blkE (w.heap.size + 1 + 1) 37 (bestC l (some j)), blkE (w.heap.size + 1) 30 (aeZ 32), blkE w.heap.size 26 x.cells] _; rw [show bestC l (some j) = r.cells from by show (match l[j]? with | none => routeZ | some q => q.cells) = _; rw [HJR.out]]; exact HM7.out⟩
          case measure => simp [intOf]; omega
        | some k =>
          have hkj := bestTo_lt HBT.out
          obtain ⟨q, hq⟩ : ∃ q, l[k]? = some q := ⟨l[k]'(by rw [HA.out.len]; omega), List.getElem?_eq_getElem _⟩
          have HOQ := Lib.hid (HA.out.ok hq)
          have HBC := Lib.hid (show bestC l (some k) = q.cells from by show (match l[k]? with | none => routeZ | some q => q.cells) = _; rw [hq])
          have HBM := Lib.hid (bestTo_more HJR.out HV.out HBT.out hq)
          obtain ⟨bt, hbt0⟩ : ∃ bt : Option Nat, some k = bt := ⟨_, rfl⟩
          have HBQ := Lib.hid hbt0
          clear hbt0
          simp only [Option.isSome_some]
          go_wp2_with (first | (refine wpList_load_obj rfl 28 (.tmp 16) rfl P1 0 rfl (prefC r.a r.bits) (route_pref HP.out.all) _ Try.underlying28 rfl (pref_cellsOf' r.a HOK.out.1 r.bits) ?_; rw [HRP.out]) | (refine wpList_load_obj rfl 26 (.tmp 3) rfl w.heap.size 0 rfl x.cells ((HM.out.blk 2 rfl).all) _ Try.underlying26 rfl (addr_cellsOf x HOX.out) ?_; rw [HCX.out]))
          refine (HCC.out _).mono ?_
          rintro e w5 ⟨rfl, hb⟩
          have HM5 := Lib.hid (show Mem w [blkE (w.heap.size + 1 + 1) 37 (bestC l bt), blkE (w.heap.size + 1) 30 (aeZ 32), blkE w.heap.size 26 x.cells] w5 from by rw [← HBQ.out]; exact HM.out.below hb)
          have HP5 := Lib.hid (HP.out.below hb HP.out.lt)
          rw [HBQ.out] at HBL
          have f1 : w5.cell? ⟨P1, 17, none⟩ = some (.int .i64 r.bits) := (HP5.out.cell 17).trans (route_bits r HOK.out)
          have f2 : w5.cell? ⟨w.heap.size + 1 + 1, 17, none⟩ = some (.int .i64 q.bits) := by rw [(HM5.out.blk 0 rfl).cell, ← HBQ.out, HBC.out]; exact route_bits q HOQ.out
          clear hb HM HP hq hkj
          by_cases hlt : q.bits < r.bits
          · have HBE := Lib.hid (HBM.out.trans (if_pos hlt))
            have d2 : decide (r.bits > q.bits) = true := by simp; omega
            clear hlt
            go_upto_region 7 with fail
            go_wp2_with (first | (refine wpList_load_obj rfl 37 (.tmp 9) rfl P1 0 rfl r.cells HP5.out.all _ Try.underlying37 rfl (route_cellsOf r HOK.out) ?_; rw [HRC.out]) | (refine wpList_store_obj rfl 37 (.tmp 6) (.tmp 33) rfl (w.heap.size + 1 + 1) 0 r.cells rfl (by show Value.agg rc = _; rw [HRC.out]) 37 (bestC l bt) (HM5.out.blk 0 rfl) (route_cellsOf r HOK.out) (by rw [RouteM.cells_length HOK.out, HBL.out]; omega) (route_one r) ?_; intro w7 hb7 hg7))
            rw [setL_all _ r.cells (by rw [RouteM.cells_length HOK.out, HBL.out])] at hb7
            have HM7 := Lib.hid (HM5.out.put 0 rfl _ hg7 hb7)
            clear hb7 hg7
            go_roundw
            case rel => exact ⟨j + 1, by omega, by go_num, by rw [HBE.out]; rfl, by rw [HBE.out]; show Mem w [blkE (w.heap.size + 1 + 1) 37 (bestC l (some j)), blkE (w.heap.size + 1) 30 (aeZ 32), blkE w.heap.size 26 x.cells] _; rw [show bestC l (some j) = r.cells from by show (match l[j]? with | none => routeZ | some q => q.cells) = _; rw [HJR.out]]; exact HM7.out⟩
            case measure => simp [intOf]; omega
          · have HBE := Lib.hid ((HBM.out.trans (if_neg hlt)).trans HBQ.out)
            have d2 : decide (r.bits > q.bits) = false := by simp; omega
            have hi : bt.isSome = true := by rw [← HBQ.out]; rfl
            clear hlt
            go_wp2_with fail
            go_roundw
            case rel => exact ⟨j + 1, by omega, by go_num, by rw [HBE.out, hi], by rw [HBE.out]; exact HM5.out⟩
            case measure => simp [intOf]; omega
    · obtain rfl : j = n := by omega
      have d1 : decide ((j : Int) < (j : Int)) = false := by simp
      have hl := HA.out.len
      have hbl : bestTo l x l.length = bestTo l x j := by rw [hl]
      have hbcl := bestC_length HA.out.2 (bestTo l x j)
      have hkey : ∃ kb : List UInt8, kb.length = 32 ∧ (bestC l (bestTo l x j)).drop 18 = kb.map u8v ∧ lookM l x = (kb, (bestTo l x j).isSome) := by
        cases hbt : bestTo l x j with
        | none => exact ⟨List.replicate 32 0, rfl, by rfl, by rw [lookM, hbl, hbt]; rfl⟩
        | some k =>
          have hkj := bestTo_lt hbt
          obtain ⟨q, hq⟩ : ∃ q, l[k]? = some q := ⟨l[k]'(by omega), List.getElem?_eq_getElem _⟩
          refine ⟨q.peer, (HA.out.ok hq).2.1, ?_, ?_⟩
          · show (match l[k]? with | none => routeZ | some q => q.cells).drop 18 = _
            rw [hq]
            show q.cells.drop 18 = _
            rw [RouteM.cells, List.drop_left' (prefC_length q.a (HA.out.ok hq).1 _)]
          · rw [lookM, hbl, hbt]
            show (match l[k]? with | none => _ | some r => (r.peer, true)) = _
            rw [hq]
            rfl
      obtain ⟨kb, hkl, hkd, hlk⟩ := hkey
      have HK := Lib.hid hkl
      have HKD := Lib.hid hkd
      have HLK := Lib.hid hlk
      obtain ⟨kc, hkc⟩ : ∃ z, (kb.map u8v).toArray = z := ⟨_, rfl⟩
      have HKC := Lib.hid hkc
      have HKS := Lib.hid (key_cellsOf kb hkl)
      have HAT := Lib.hid (show At wr (w.heap.size + 1 + 1) 18 (kb.map u8v) from fun q v hq => by
        rw [(HM.out.blk 0 rfl).cell, ← List.getElem?_drop, HKD.out]
        exact hq)
      obtain ⟨fl, hfl⟩ : ∃ z, (bestTo l x j).isSome = z := ⟨_, rfl⟩
      rw [hfl] at HLK ⊢
      clear hl hbl hkl hkd hlk hkc hbcl hfl
      go_wp2_with (first | (refine wpList_load_obj rfl 30 (.tmp 35) rfl (w.heap.size + 1 + 1) 18 rfl (kb.map u8v) HAT.out _ Try.underlying30 rfl HKS.out ?_; rw [HKC.out]) | (refine wpList_store_obj rfl 30 (.tmp 4) (.tmp 36) rfl (w.heap.size + 1) 0 (kb.map u8v) rfl (by show Value.agg kc = _; rw [HKC.out]) 30 (aeZ 32) (HM.out.blk 1 rfl) HKS.out (by rw [List.length_map, HK.out]; decide) (u8v_one _) ?_; intro w9 hb9 hg9))
      rw [setL_all _ _ (by rw [List.length_map, HK.out]; rfl)] at hb9
      exact bodyPost_ret (results_obj_tmp rfl _ _ (w.heap.size + 1) 30 (kb.map u8v) _ rfl hb9 Try.underlying30 rfl HKS.out) rfl ⟨by rw [HLK.out]; rfl, HM.out.bel.grown hg9 HM.out.bel.size (fun k hk => by injection hk with hk; omega)⟩
theorem rtLookC : RtLookC 26 := fun A n c l x w hx h => lookups_any A n c l (by have := h.1; omega) x hx w h.2.2.2
end Go.Proofs.Ytnblofbbbkjhpaa
namespace Go.Proofs.Ytnblofbbbkjhpaa
open Go.RowKit

theorem rt_change_walk_all (w : World) (A : Option Addr) (n c : Nat) (l : List UInt8) (Am : Option Addr) (nm cm : Nat) (lm : List UInt8) (Aw : Option Addr) (nw cw : Nat) (rw' : List RouteM) (aa : AddrM) (ab : Int) (kp : List UInt8) (hnc : n ≤ c) (hcm : c ≤ maxLen) (hr : Rd w w.heap.size A n l) (hncm : nm ≤ cm) (hcmm : cm ≤ maxLen) (hrm : Rd w w.heap.size Am nm lm) (hcw : CapOk nw cw) (hrw : RtRd w w.heap.size Aw nw rw') (haa : aa.ok) (hab : inI64 ab) (hkp : kp.length = 32) :
    Calls Try.prog 3 #[.slice A n c, .slice Am nm cm, .slice Aw nw cw, .agg (prefC aa ab).toArray, .agg (kp.map u8v).toArray] w fun e w' => e = .returned (.bool true) ∧ Below w.heap.size w w' :=
  rt_change_walk rtInsC rtRemC rtRemPC rtOfC rtValidC rtLookC w A n c l hnc hcm hr Am nm cm lm hncm hcmm hrm Aw nw cw rw' hcw hrw aa ab haa hab kp hkp
end Go.Proofs.Ytnblofbbbkjhpaa
