/-
  The contracts of the reference's Pad and Trim of packets. No statement is proved here.
-/
import Derived.Test.YtdpdalkeafkhkaaInRef
import Derived.Maps.AppendAt
import Derived.Outline
namespace Go.Proofs.Ytdpdalkeafkhkaa
open Go.RowKit

set_option maxRecDepth 100000 in
set_option maxHeartbeats 1000000 in
theorem refPad_any (B c : Nat) (A : Option Addr) (n : Nat) (l : List UInt8) (hn : n ≤ 1000000) (w : World) (hB : B ≤ w.heap.size) (hr : Rd w B A n l) :
    Calls Try.prog 14 #[.slice A n c] w fun e w' => ∃ A' c', e = .returned (.slice A' (padB l).length c') ∧ w'.ownsRow w.heap.size 5 1 (.slice A' (padB l).length c') (padB l).length ((padB l).map u8v) ∧ Below w.heap.size w w' := by
  obtain ⟨i0, hi, hz0, hz1, hz2⟩ := info_parts Try.info5
  have HLN := Lib.hid hr.1
  obtain ⟨fl, hfl⟩ : ∃ fl, padB l = fl := ⟨_, rfl⟩
  rw [hfl]
  have HFL := Lib.hid hfl
  clear hfl
  have hr1 := hr.alloc hB (.cells #[] 5)
  have HR := Lib.hid hr1
  have hown0 := World.ownsRow_lit (base := w.heap.size) (e := 5) (size := 1) w #[] 0 (Nat.le_refl _) (by simp) rfl
  have hb0 : Below w.heap.size w (w.alloc (.cells #[] 5)) := (Below.refl _ _).alloc (Nat.le_refl _) _
  have H0 := Lib.hid (And.intro hown0 hb0)
  clear hr hr1 hown0 hb0
  go_enter Try.func14, Try.ntmps14
  go_upto_region 1 with fail
  go_wp2_with (refine wpList_append_rd _ rfl (.tmp 4) (.tmp 5) 22 rfl w.heap.size 5 i0 (.int .u8 0) Try.underlying22 hi hz0 hz1 hz2 rfl (.slice (some ⟨w.heap.size, 0, none⟩) 0 0) 0 [] rfl H0.out.1 _ _ _ _ _ rfl HR.out (by omega) H0.out.2.size ?_; intro v1 w1 hown1 hg1)
  rw [Nat.zero_add, List.nil_append] at hown1
  have HW := Lib.hid (And.intro hown1 (H0.out.2.grown hg1 H0.out.2.size (own_from H0.out.1)))
  clear hown1 hg1 H0
  obtain ⟨pn, hpn⟩ : ∃ pn, (16 - l.length % 16) % 16 = pn := ⟨_, rfl⟩
  have HP := Lib.hid hpn
  have hpl : pn ≤ 15 := by omega
  clear hpn
  go_loopw [3] (fun v wr => ∃ j : Nat, j ≤ pn ∧ wr.ownsRow w.heap.size 5 1 v (n + j) ((l ++ List.replicate j 0).map u8v) ∧ Below w.heap.size w wr) (fun v _ => n + 16 - lenS v)
  case atStart => exact ⟨0, by omega, by rw [List.replicate_zero, List.append_nil]; exact HW.out.1, HW.out.2⟩
  case round =>
    clear HW
    obtain ⟨j, hj, hown, hb⟩ := hrel
    obtain ⟨A1, c1, rfl, _⟩ := own_slice hown
    have HO := Lib.hid (And.intro hown hb)
    clear hown hb
    have hmod : (n + j) % 16 = 0 ↔ j = pn := by have := HP.out; have := HLN.out; omega
    by_cases hlt : j < pn
    · have hd : ((((n : Int) + (j : Int)) % 16 != 0) = true) := by
        have : ¬ ((n : Int) + (j : Int)) % 16 = 0 := by omega
        simp [this]
      have hnew := rd_new wr 5 [0]
      have hown1 := HO.out.1.alloc (.cells ([0].map u8v).toArray 5)
      have hb1 := HO.out.2.alloc HO.out.2.size (.cells ([0].map u8v).toArray 5)
      rw [show ([0].map u8v).toArray = #[.int .u8 0] from rfl] at hnew hown1 hb1
      have HN := Lib.hid (And.intro hnew (And.intro hown1 hb1))
      clear hnew hown1 hb1
      go_upto_region 3 with fail
      clear hd
      go_wp2_with (refine wpList_append_rd _ rfl (.tmp 11) (.tmp 12) 22 rfl w.heap.size 5 i0 (.int .u8 0) Try.underlying22 hi hz0 hz1 hz2 rfl (.slice A1 (n + j) c1) (n + j) ((l ++ List.replicate j 0).map u8v) rfl HN.out.2.1 (wr.heap.size + 1) (some ⟨wr.heap.size, 0, none⟩) 1 1 [0] rfl HN.out.1 (by omega) HN.out.2.2.size ?_; intro v2 w2 hown2 hg2)
      have HW := Lib.hid (And.intro hown2 (HN.out.2.2.grown hg2 HN.out.2.2.size (own_from HN.out.2.1)))
      clear hown2 hg2
      go_roundw
      case rel =>
        refine ⟨j + 1, by omega, ?_, HW.out.2⟩
        have h := HW.out.1
        rw [← List.map_append, List.append_assoc, show List.replicate j (0 : UInt8) ++ [0] = List.replicate (j + 1) 0 from (List.replicate_succ').symm] at h
        exact h
      case measure =>
        obtain ⟨A3, c3, rfl, _⟩ := own_slice HW.out.1
        simp [lenS]
        omega
    · obtain rfl : j = pn := by omega
      have hd : ((((n : Int) + (j : Int)) % 16 != 0) = false) := by
        have : ((n : Int) + (j : Int)) % 16 = 0 := by omega
        simp [this]
      have e : l ++ List.replicate j 0 = fl := by rw [← HFL.out, padB, HP.out]
      have e2 : n + j = fl.length := by rw [← e, List.length_append, List.length_replicate, HLN.out]
      have h := HO.out.1
      rw [e, e2] at h
      have HF := Lib.hid (And.intro h HO.out.2)
      have HE := Lib.hid e2
      clear h e e2 HO
      go_wp2
      rw [HE.out]
      go_ret
      exact ⟨_, _, rfl, HF.out.1, HF.out.2⟩

set_option maxRecDepth 100000 in
set_option maxHeartbeats 4000000 in
theorem refTrim_any (A : Option Addr) (n c : Nat) (l : List UInt8) (hnc : n ≤ c) (_hcm : c ≤ maxLen) (hn : n ≤ 100000) (w : World) (hr : Rd w w.heap.size A n l) :
    Calls Try.prog 12 #[.slice A n c] w fun e w' => ∃ A' c', e = .returned (.tuple #[.slice A' (trimB l).1.length c', .int .i64 ((trimB l).2 : Int)]) ∧ Rd w' w'.heap.size A' (trimB l).1.length (trimB l).1 ∧ Below w.heap.size w w' := by
  obtain ⟨i0, hi, hz0, hz1, hz2⟩ := info_parts Try.info5
  have CC := refCheck_any A n c l hnc hn w hr
  have hok := (checkB_ok l).1
  have hle := (checkB_ok l).2.2
  have ht : trimB l = if (checkB l).2 = 0 then (l.take (checkB l).1.len, 0) else ([], (checkB l).2) := rfl
  generalize hci : (checkB l).1 = ii at CC hok hle ht
  generalize (checkB l).2 = ee at CC hle ht
  clear hci
  have HIO := Lib.hid hok
  have HIL := Lib.hid (info_cellsOf ii hok)
  obtain ⟨ci, hci⟩ : ∃ x, ii.cells.toArray = x := ⟨_, rfl⟩
  rw [hci] at CC
  have HCI := Lib.hid hci
  have HKC := Lib.hid CC
  have HR := Lib.hid hr
  have HLN := Lib.hid hr.1
  clear CC hok hci hr
  obtain ⟨tl, htl⟩ : ∃ t, trimB l = t := ⟨_, rfl⟩
  rw [htl] at ht ⊢
  have HT := Lib.hid ht
  clear ht htl
  go_enter Try.func12, Try.ntmps12
  go_upto_region 1 with fail
  go_wp2_with fail
  refine HKC.out.mono ?_
  rintro e w1 ⟨rfl, hb⟩
  have HM := Lib.hid (show Mem w [] w1 from (Mem.nil w).below hb)
  clear hb HKC
  have HA := Lib.hid (show Mem w [blkE w1.heap.size 31 info0.cells] (w1.alloc (.cells #[.bool false, .int .u8 0, .int .u8 0, .int .u8 0, .int .u8 0, .int .u8 0, .int .u8 0, .int .u8 0, .int .u8 0, .int .u8 0, .int .u8 0, .int .u8 0, .int .u8 0, .int .u8 0, .int .u8 0, .int .u8 0, .int .u8 0, .bool false, .int .u8 0, .int .u8 0, .int .u8 0, .int .u8 0, .int .u8 0, .int .u8 0, .int .u8 0, .int .u8 0, .int .u8 0, .int .u8 0, .int .u8 0, .int .u8 0, .int .u8 0, .int .u8 0, .int .u8 0, .int .u8 0, .int .i64 0] 31)) from HM.out.alloc rfl 31 #[.bool false, .int .u8 0, .int .u8 0, .int .u8 0, .int .u8 0, .int .u8 0, .int .u8 0, .int .u8 0, .int .u8 0, .int .u8 0, .int .u8 0, .int .u8 0, .int .u8 0, .int .u8 0, .int .u8 0, .int .u8 0, .int .u8 0, .bool false, .int .u8 0, .int .u8 0, .int .u8 0, .int .u8 0, .int .u8 0, .int .u8 0, .int .u8 0, .int .u8 0, .int .u8 0, .int .u8 0, .int .u8 0, .int .u8 0, .int .u8 0, .int .u8 0, .int .u8 0, .int .u8 0, .int .i64 0] info0.cells rfl)
  go_upto_region 2 with (refine wpList_store_blk rfl 31 (.tmp 4) (.tmp 9) rfl w1.heap.size ii.cells rfl (by show Value.agg ci = _; rw [HCI.out]) 31 info0.cells (HA.out.blk 0 rfl) HIL.out (by rw [InfoM.cells_length HIO.out]; rfl) (InfoM.one _) ?_; intro w2 hb9 hg9)
  (try simp only [Act.put])
  replace HM := Lib.hid (show Mem w [blkE w1.heap.size 31 ii.cells] w2 from HA.out.put 0 rfl _ hg9 hb9)
  clear HA hb9 hg9
  generalize w1.heap.size = P4 at HM ⊢
  by_cases he : ee = 0
  · subst he
    have hle2 := hle rfl
    have HL := Lib.hid (show tl = (l.take ii.len, 0) from HT.out)
    obtain ⟨q, hq⟩ : ∃ q, ii.len = q := ⟨_, rfl⟩
    rw [hq] at hle2 HL
    have hqn : q ≤ n := by have := HLN.out; omega
    have hqi : (q : Int) ≤ (c : Int) := by omega
    clear hle
    have HB := Lib.hid (show Mem w [blkE w2.heap.size 5 [], blkE P4 31 ii.cells] (w2.alloc (.cells #[] 5)) from HM.out.alloc rfl 5 #[] [] rfl)
    have fl := ((HB.out.blk 1 rfl).cell 34).trans (InfoM.len_cell ii HIO.out)
    rw [hq] at fl
    have hown0 := World.ownsRow_lit (base := w2.heap.size) (e := 5) (size := 1) w2 #[] 0 (Nat.le_refl _) (by simp) rfl
    have HO := Lib.hid hown0
    have HRQ := Lib.hid ((HR.out.take hqn).mono (Nat.le_refl _))
    clear hown0 hq
    go_wp2_with (refine wpList_append_rd _ rfl (.tmp 14) (.tmp 18) 22 rfl w2.heap.size 5 i0 (.int .u8 0) Try.underlying22 hi hz0 hz1 hz2 rfl (.slice (some ⟨w2.heap.size, 0, none⟩) 0 0) 0 [] rfl HO.out _ A q c (l.take q) rfl (HB.out.arg HRQ.out) (by omega) (by simp) ?_; intro v1 w3 hown1 hg1)
    rw [Nat.zero_add, List.nil_append] at hown1
    obtain ⟨A5, c5, rfl, _⟩ := own_slice hown1
    have htl : (l.take q).length = q := by rw [List.length_take]; have := HLN.out; omega
    have HF := Lib.hid (HB.out.bel.grown hg1 HB.out.bel.size (fun k hk => Nat.le_trans HM.out.bel.size (own_from HO.out k hk)))
    exact bodyPost_ret (results_tmp2 rfl _ _ _) rfl ⟨A5, ⟨c5, by rw [HL.out]; simp only [htl]; rfl⟩, by rw [HL.out]; simp only [htl]; exact Rd.of_own hown1, HF.out⟩
  · have hne : ((ee : Int) != 0) = true := by simp; omega
    have HL := Lib.hid (show tl = ([], ee) from by rw [HT.out, if_neg he])
    clear hle
    go_wp2
    exact bodyPost_ret (results_tmp2 rfl _ _ _) rfl ⟨none, 0, by rw [HL.out]; rfl, by rw [HL.out]; exact Rd.nil _ _ _, HM.out.bel⟩
end Go.Proofs.Ytdpdalkeafkhkaa
