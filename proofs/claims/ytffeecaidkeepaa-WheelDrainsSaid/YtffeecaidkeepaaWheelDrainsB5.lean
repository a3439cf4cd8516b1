/-
  What is asked of Due holds of the landed one. WheelDrains returns true for every input, by what the landed functions give. No statement is proved here.
-/
import Derived.RegionTactic
import Derived.Deep.DeepCutAuto
import Derived.Test.YtffeecaidkeepaaWheelDrainsB4
namespace Go.Proofs.Ytffeecaidkeepaa
open Go.RowKit

theorem dueT_is (l : List TimerM) (tz : Int) : dueT l tz = ((dueO l tz).getD timer0, (dueO l tz).isSome) := by
  unfold dueT
  cases dueO l tz <;> rfl
set_option maxRecDepth 100000 in
set_option maxHeartbeats 8000000 in
theorem whDueC : WhDueC 17 := by
  intro A n c l tz w htz harg
  have hn := harg.1
  have HA := Lib.hid harg.2.2.2
  have hm := ((Mem.nil w).alloc rfl 27 #[.int .i64 0, .int .u8 0, .int .u8 0, .int .u8 0, .int .u8 0, .int .u8 0, .int .u8 0, .int .u8 0, .int .u8 0, .int .u8 0, .int .u8 0, .int .u8 0, .int .u8 0, .int .u8 0, .int .u8 0, .int .u8 0, .int .u8 0, .int .u8 0, .int .u8 0, .int .u8 0, .int .u8 0, .int .u8 0, .int .u8 0, .int .u8 0, .int .u8 0, .int .u8 0, .int .u8 0, .int .u8 0, .int .u8 0, .int .u8 0, .int .u8 0, .int .u8 0, .int .u8 0, .int .i64 0] timerZ rfl)
  have HM0 := Lib.hid (show Mem w [blkE w.heap.size 27 timerZ] (w.alloc (.cells #[.int .i64 0, .int .u8 0, .int .u8 0, .int .u8 0, .int .u8 0, .int .u8 0, .int .u8 0, .int .u8 0, .int .u8 0, .int .u8 0, .int .u8 0, .int .u8 0, .int .u8 0, .int .u8 0, .int .u8 0, .int .u8 0, .int .u8 0, .int .u8 0, .int .u8 0, .int .u8 0, .int .u8 0, .int .u8 0, .int .u8 0, .int .u8 0, .int .u8 0, .int .u8 0, .int .u8 0, .int .u8 0, .int .u8 0, .int .u8 0, .int .u8 0, .int .u8 0, .int .u8 0, .int .i64 0] 27)) from hm)
  clear harg hm
  go_enter Try.func17, Try.ntmps17
  go_upto_region 1 with fail
  generalize hw1 : w.alloc (.cells #[.int .i64 0, .int .u8 0, .int .u8 0, .int .u8 0, .int .u8 0, .int .u8 0, .int .u8 0, .int .u8 0, .int .u8 0, .int .u8 0, .int .u8 0, .int .u8 0, .int .u8 0, .int .u8 0, .int .u8 0, .int .u8 0, .int .u8 0, .int .u8 0, .int .u8 0, .int .u8 0, .int .u8 0, .int .u8 0, .int .u8 0, .int .u8 0, .int .u8 0, .int .u8 0, .int .u8 0, .int .u8 0, .int .u8 0, .int .u8 0, .int .u8 0, .int .u8 0, .int .u8 0, .int .i64 0] 27) = w1 at HM0 ⊢
  have hs1 : w1.heap.size = w.heap.size + 1 := by rw [← hw1]; simp
  have HM := Lib.hid (show Mem w [blkE (w.heap.size + 1) 27 timerZ, blkE w.heap.size 27 timerZ] (w1.alloc (.cells #[.int .i64 0, .int .u8 0, .int .u8 0, .int .u8 0, .int .u8 0, .int .u8 0, .int .u8 0, .int .u8 0, .int .u8 0, .int .u8 0, .int .u8 0, .int .u8 0, .int .u8 0, .int .u8 0, .int .u8 0, .int .u8 0, .int .u8 0, .int .u8 0, .int .u8 0, .int .u8 0, .int .u8 0, .int .u8 0, .int .u8 0, .int .u8 0, .int .u8 0, .int .u8 0, .int .u8 0, .int .u8 0, .int .u8 0, .int .u8 0, .int .u8 0, .int .u8 0, .int .u8 0, .int .i64 0] 27)) from HM0.out.alloc hs1.symm 27 #[.int .i64 0, .int .u8 0, .int .u8 0, .int .u8 0, .int .u8 0, .int .u8 0, .int .u8 0, .int .u8 0, .int .u8 0, .int .u8 0, .int .u8 0, .int .u8 0, .int .u8 0, .int .u8 0, .int .u8 0, .int .u8 0, .int .u8 0, .int .u8 0, .int .u8 0, .int .u8 0, .int .u8 0, .int .u8 0, .int .u8 0, .int .u8 0, .int .u8 0, .int .u8 0, .int .u8 0, .int .u8 0, .int .u8 0, .int .u8 0, .int .u8 0, .int .u8 0, .int .u8 0, .int .i64 0] timerZ rfl)
  clear hw1
  go_upto_region 2 with fail
  generalize w1.alloc (.cells #[.int .i64 0, .int .u8 0, .int .u8 0, .int .u8 0, .int .u8 0, .int .u8 0, .int .u8 0, .int .u8 0, .int .u8 0, .int .u8 0, .int .u8 0, .int .u8 0, .int .u8 0, .int .u8 0, .int .u8 0, .int .u8 0, .int .u8 0, .int .u8 0, .int .u8 0, .int .u8 0, .int .u8 0, .int .u8 0, .int .u8 0, .int .u8 0, .int .u8 0, .int .u8 0, .int .u8 0, .int .u8 0, .int .u8 0, .int .u8 0, .int .u8 0, .int .u8 0, .int .u8 0, .int .i64 0] 27) = w2 at HM ⊢
  clear HM0 hs1
  go_wp2_with fail
  go_loopw [12, 7] (fun v vf wr => ∃ (j : Nat) (o : Option TimerM), j ≤ n ∧ v = .int .i64 (j : Int) ∧ dueO (l.take j) tz = o ∧ vf = .bool o.isSome ∧ (o.getD timer0).ok ∧ Mem w [blkE (w.heap.size + 1) 27 (o.getD timer0).cells, blkE w.heap.size 27 timerZ] wr) (fun v _ _ => n - (intOf v).toNat)
  case atStart => exact ⟨0, none, Nat.zero_le _, rfl, rfl, rfl, timer0_ok, HM.out⟩
  case round =>
    clear HM
    obtain ⟨j, o, hj, rfl, hdu, rfl, hoo, hM⟩ := hrel
    have HM := Lib.hid hM
    have HDU := Lib.hid hdu
    have HOO := Lib.hid hoo
    clear hM hdu hoo
    by_cases hjn : j < n
    · have d1 : decide ((j : Int) < (n : Int)) = true := by simp; omega
      obtain ⟨b, off, rfl⟩ := HA.out.1.addr (by omega)
      obtain ⟨s, hs⟩ : ∃ s, l[j]? = some s := ⟨l[j]'(by rw [HA.out.len]; exact hjn), List.getElem?_eq_getElem _⟩
      have HOK := Lib.hid (HA.out.ok hs)
      have hat := HA.out.at j s hs
      have HLA := Lib.hid (hat.2.mono HM.out.bel hat.1)
      have HJS := Lib.hid hs
      obtain ⟨sc, hsc⟩ : ∃ z, s.cells.toArray = z := ⟨_, rfl⟩
      have HSC := Lib.hid hsc
      obtain ⟨sk, hsk⟩ : ∃ z, (s.peer.map u8v).toArray = z := ⟨_, rfl⟩
      have HSK := Lib.hid hsk
      clear hat hs hsc hsk
      have HZ := Lib.hid (Blk.new wr 27 timerZ)
      have HST := Lib.hid (show dueO (l.take (j + 1)) tz = dueS tz o s from by rw [take_snoc HJS.out, dueO_snoc, HDU.out])
      go_upto_region 6 with (first | (refine wpList_load_obj rfl 27 (.tmp 14) rfl b _ rfl s.cells HLA.out _ Try.underlying27 rfl (timer_cellsOf s HOK.out) ?_; rw [HSC.out]) | (refine wpList_store_obj rfl 27 (.tmp 9) (.tmp 15) rfl wr.heap.size 0 s.cells rfl (by show Value.agg sc = _; rw [HSC.out]) 27 timerZ HZ.out (timer_cellsOf s HOK.out) (by rw [TimerM.cells_length HOK.out, timerZ_length]; omega) (timer_one s) ?_; intro w4 hb4 hg4))
      rw [setL_all timerZ s.cells (by rw [TimerM.cells_length HOK.out, timerZ_length])] at hb4
      replace HM := Lib.hid (HM.out.below (below_fresh hg4))
      have HP := Lib.hid hb4
      clear hb4 hg4 HZ d1 HLA
      generalize wr.heap.size = P1 at HP ⊢
      have ft := tm_at HP.out.all
      by_cases hle : s.tm ≤ tz
      · replace HST := Lib.hid (HST.out.trans (if_pos hle))
        have d2 : decide (s.tm ≤ tz) = true := by simpa using hle
        obtain ⟨tq, htq⟩ : ∃ z, s.tm = z := ⟨_, rfl⟩
        rw [htq] at ft d2
        clear hle htq
        cases o with
        | none =>
          simp only [Option.isSome_none]
          go_wp2_with (first | (refine wpList_load_obj rfl 27 (.tmp 9) rfl P1 0 rfl s.cells (HP.out.all) _ Try.underlying27 rfl (timer_cellsOf s HOK.out) ?_; rw [HSC.out]) | (refine wpList_store_obj rfl 27 (.tmp 6) (.tmp 29) rfl (w.heap.size + 1) 0 s.cells rfl (by show Value.agg sc = _; rw [HSC.out]) 27 ((none : Option TimerM).getD timer0).cells (HM.out.blk 0 rfl) (timer_cellsOf s HOK.out) (by rw [TimerM.cells_length HOK.out, TimerM.cells_length HOO.out]; omega) (timer_one s) ?_; intro w9 hb9 hg9))
          rw [setL_all _ _ (by rw [TimerM.cells_length HOK.out, TimerM.cells_length HOO.out])] at hb9
          have HM9 := Lib.hid (show Mem w [blkE (w.heap.size + 1) 27 ((some s).getD timer0).cells, blkE w.heap.size 27 timerZ] w9 from HM.out.put 0 rfl _ hg9 hb9)
          clear hb9 hg9 HM
          go_roundw
          case rel => exact ⟨j + 1, some s, by omega, by go_num, by rw [HST.out]; rfl, rfl, HOK.out, HM9.out⟩
          case measure => simp [intOf]; omega
        | some q =>
          simp only [Option.isSome_some]
          have hlc := whLessC s q
          obtain ⟨qc, hqc⟩ : ∃ z, q.cells.toArray = z := ⟨_, rfl⟩
          rw [HSC.out, hqc] at hlc
          have HQC := Lib.hid hqc
          obtain ⟨y, hy⟩ : ∃ y, lessT s q = y := ⟨_, rfl⟩
          rw [hy] at hlc
          replace HST := Lib.hid (show dueO (l.take (j + 1)) tz = if y = true then some s else some q from by rw [HST.out, leastS_some, hy])
          have HLC := Lib.hid hlc
          have HOQ := Lib.hid (show q.ok from HOO.out)
          clear hlc hqc hy
          go_wp2_with (first | (refine wpList_load_obj_g (by rfl) 27 (.tmp 9) rfl P1 0 rfl s.cells (HP.out.all) _ Try.underlying27 rfl (timer_cellsOf s HOK.out) ?_; rw [HSC.out]) | (refine wpList_load_obj_g (by rfl) 27 (.tmp 6) rfl (w.heap.size + 1) 0 rfl q.cells ((HM.out.blk 0 rfl).all) _ Try.underlying27 rfl (timer_cellsOf q HOQ.out) ?_; rw [HQC.out]))
          refine (HLC.out w4 HOK.out HOQ.out).mono ?_
          rintro e w5 ⟨rfl, hb⟩
          replace HM := Lib.hid (HM.out.below hb)
          replace HP := Lib.hid (show Blk w5 P1 27 s.cells from HP.out.below hb HP.out.lt)
          clear hb HLC ft d2
          cases y with
          | true =>
            go_wp2_with (first | (refine wpList_load_obj rfl 27 (.tmp 9) rfl P1 0 rfl s.cells (HP.out.all) _ Try.underlying27 rfl (timer_cellsOf s HOK.out) ?_; rw [HSC.out]) | (refine wpList_store_obj rfl 27 (.tmp 6) (.tmp 29) rfl (w.heap.size + 1) 0 s.cells rfl (by show Value.agg sc = _; rw [HSC.out]) 27 ((some q).getD timer0).cells (HM.out.blk 0 rfl) (timer_cellsOf s HOK.out) (by rw [TimerM.cells_length HOK.out, TimerM.cells_length HOO.out]; omega) (timer_one s) ?_; intro w9 hb9 hg9))
            rw [setL_all _ _ (by rw [TimerM.cells_length HOK.out, TimerM.cells_length HOO.out])] at hb9
            have HM9 := Lib.hid (show Mem w [blkE (w.heap.size + 1) 27 ((some s).getD timer0).cells, blkE w.heap.size 27 timerZ] w9 from HM.out.put 0 rfl _ hg9 hb9)
            clear hb9 hg9 HM
            go_roundw
            case rel => exact ⟨j + 1, some s, by omega, by go_num, by rw [HST.out]; rfl, rfl, HOK.out, HM9.out⟩
            case measure => simp [intOf]; omega
          | false =>
            go_wp2_with fail
            go_roundw
            case rel => exact ⟨j + 1, some q, by omega, by go_num, by first | exact HST.out | (rw [HST.out]; rfl), rfl, HOO.out, HM.out⟩
            case measure => simp [intOf]; omega
      · replace HST := Lib.hid (HST.out.trans (if_neg hle))
        have d2 : decide (s.tm ≤ tz) = false := by simpa using hle
        obtain ⟨tq, htq⟩ : ∃ z, s.tm = z := ⟨_, rfl⟩
        rw [htq] at ft d2
        clear hle htq
        go_wp2_with fail
        go_roundw
        case rel => exact ⟨j + 1, o, by omega, by go_num, by first | exact HST.out | (rw [HST.out]; rfl), rfl, HOO.out, HM.out⟩
        case measure => simp [intOf]; omega
    · obtain rfl : n = j := by omega
      have d1 : decide ((n : Int) < (n : Int)) = false := by simp
      have htk : l.take n = l := List.take_of_length_le (by rw [HA.out.len]; exact Nat.le_refl _)
      have HR := Lib.hid (show dueT l tz = (o.getD timer0, o.isSome) from by rw [dueT_is, ← htk, HDU.out])
      obtain ⟨q, hq⟩ : ∃ z, o.getD timer0 = z := ⟨_, rfl⟩
      obtain ⟨y, hy⟩ : ∃ z, o.isSome = z := ⟨_, rfl⟩
      rw [hq] at HM HOO HR
      rw [hy] at HR ⊢
      obtain ⟨qc, hqc⟩ : ∃ z, q.cells.toArray = z := ⟨_, rfl⟩
      have HQC := Lib.hid hqc
      clear htk HDU hq hy hqc
      go_wp2_with (first | (refine wpList_load_obj rfl 27 (.tmp 6) rfl (w.heap.size + 1) 0 rfl q.cells ((HM.out.blk 0 rfl).all) _ Try.underlying27 rfl (timer_cellsOf q HOO.out) ?_; rw [HQC.out]) | (refine wpList_store_obj rfl 27 (.tmp 4) (.tmp 31) rfl w.heap.size 0 q.cells rfl (by show Value.agg qc = _; rw [HQC.out]) 27 timerZ (HM.out.blk 1 rfl) (timer_cellsOf q HOO.out) (by rw [TimerM.cells_length HOO.out, timerZ_length]; omega) (timer_one q) ?_; intro w9 hb9 hg9))
      rw [setL_all timerZ q.cells (by rw [TimerM.cells_length HOO.out, timerZ_length])] at hb9
      exact bodyPost_ret (results_obj_tmp rfl _ _ w.heap.size 27 q.cells _ rfl hb9 Try.underlying27 rfl (timer_cellsOf q HOO.out)) rfl ⟨by rw [HR.out]; rfl, HM.out.bel.grown hg9 HM.out.bel.size (fun k hk => by injection hk with hk; omega)⟩
end Go.Proofs.Ytffeecaidkeepaa
namespace Go.Proofs.Ytffeecaidkeepaa
open Go.RowKit

theorem wh_drains_walk_all (w : World) (A : Option Addr) (n c : Nat) (l : List UInt8) (x : Nat) (hnc : n ≤ c) (hcm : c ≤ maxLen) (hr : Rd w w.heap.size A n l) (hx : x ≤ 255) :
    Calls Try.prog 4 #[.slice A n c, .int .u8 (x : Int)] w fun e w' => e = .returned (.bool true) ∧ Below w.heap.size w w' :=
  wh_drains_walk whSetC whCancelC whDueC w A n c l x hnc hcm hr hx
end Go.Proofs.Ytffeecaidkeepaa
