/-
  The contracts of the reference's address, number, Check, Pad and Trim of packets. No statement is proved here.
-/
import Derived.Test.YtdpdalkeafkhkaaInMath
import Derived.Test.YtdpdalkeafkhkaaObj
import Derived.Test.YtdpdalkeafkhkaaEnt
import Derived.Test.YtdpdalkeafkhkaaBlkMore
import Derived.Test.YtdpdalkeafkhkaaBuildAs
import Derived.Test.YtdpdalkeafkhkaaRRdBig
import Derived.Test.YtdpdalkeafkhkaaSliceOf
import Derived.RegionTactic
import Derived.Laws.BitsAllLaws
import Derived.Deep.DeepCutAuto
namespace Go.Proofs.Ytdpdalkeafkhkaa
open Go.RowKit

theorem addr_one (b : Bool) (l : List UInt8) : ∀ v ∈ (.bool b :: l.map u8v : List Value), v.oneCell' = true := by
  intro v hv
  rcases List.mem_cons.1 hv with rfl | hv
  · rfl
  · exact u8v_one l v hv
theorem AddrM.one (a : AddrM) : ∀ v ∈ a.cells, v.oneCell' = true := addr_one a.six a.ip
theorem addr_put (b : Bool) (l : List UInt8) : setL (.bool b :: (List.replicate 16 (0 : UInt8)).map u8v) 1 (l.map u8v) = .bool b :: (putL (List.replicate 16 0) 0 l).map u8v := by
  rw [← putL_map, setL, List.length_map, Nat.add_comm]
  simp
theorem addr_cellsOf (a : AddrM) (h : a.ok) : (Try.prog.info? 29).map (·.size) = some a.cells.length := by
  rw [AddrM.cells_length h]; kernel_rfl
set_option maxRecDepth 100000 in
set_option maxHeartbeats 4000000 in
theorem refAddress_any (A : Option Addr) (n c : Nat) (l : List UInt8) (hn : n = 4 ∨ n = 16) (w : World) (hr : Rd w w.heap.size A n l) :
    Calls Try.prog 29 #[.slice A n c] w fun e w' => e = .returned (.agg (addrB l).cells.toArray) ∧ Below w.heap.size w w' := by
  obtain ⟨b, off, rfl, hb0, _⟩ := hr.at_ (by omega)
  have HK := Lib.hid hr
  have HL := Lib.hid hr.1
  have HOK := Lib.hid (addrB_ok l (by have := hr.1; omega))
  have HM := Lib.hid (show Mem w [blkE w.heap.size 29 (.bool false :: (List.replicate 16 (0 : UInt8)).map u8v)] (w.alloc (.cells #[.bool false, .int .u8 0, .int .u8 0, .int .u8 0, .int .u8 0, .int .u8 0, .int .u8 0, .int .u8 0, .int .u8 0, .int .u8 0, .int .u8 0, .int .u8 0, .int .u8 0, .int .u8 0, .int .u8 0, .int .u8 0, .int .u8 0] 29)) from (Mem.nil w).alloc rfl 29 #[.bool false, .int .u8 0, .int .u8 0, .int .u8 0, .int .u8 0, .int .u8 0, .int .u8 0, .int .u8 0, .int .u8 0, .int .u8 0, .int .u8 0, .int .u8 0, .int .u8 0, .int .u8 0, .int .u8 0, .int .u8 0, .int .u8 0] _ rfl)
  obtain ⟨bb, hbb⟩ : ∃ b, ((n : Int) == 16) = b := ⟨_, rfl⟩
  have HP := Lib.hid (addr_put bb l)
  have HC := Lib.hid (show .bool bb :: (putL (List.replicate 16 0) 0 l).map u8v = (addrB l).cells by
    rw [AddrM.cells, addrB, hr.1, ← hbb]
    rcases hn with rfl | rfl <;> rfl)
  have HCL := Lib.hid (addr_cellsOf (addrB l) HOK.out)
  have HAL := Lib.hid (AddrM.cells_length HOK.out)
  have H1 := Lib.hid (AddrM.one (addrB l))
  obtain ⟨ca, hca⟩ : ∃ c, (addrB l).cells.toArray = c := ⟨_, rfl⟩
  rw [hca]
  have HCA := Lib.hid hca
  generalize (addrB l).cells = cs at HC HCL HAL H1 HCA
  clear hr hca
  go_enter Try.func29, Try.ntmps29
  go_upto_region 1 with fail
  generalize w.alloc (.cells #[.bool false, .int .u8 0, .int .u8 0, .int .u8 0, .int .u8 0, .int .u8 0, .int .u8 0, .int .u8 0, .int .u8 0, .int .u8 0, .int .u8 0, .int .u8 0, .int .u8 0, .int .u8 0, .int .u8 0, .int .u8 0, .int .u8 0] 29) = w1 at HM ⊢
  have HA := Lib.hid (HM.out.alloc rfl 29 #[.bool false, .int .u8 0, .int .u8 0, .int .u8 0, .int .u8 0, .int .u8 0, .int .u8 0, .int .u8 0, .int .u8 0, .int .u8 0, .int .u8 0, .int .u8 0, .int .u8 0, .int .u8 0, .int .u8 0, .int .u8 0, .int .u8 0] (.bool false :: (List.replicate 16 (0 : UInt8)).map u8v) rfl)
  go_upto_region 2 with (refine wpList_store_blk rfl 29 (.tmp 3) (.tmp 7) rfl w1.heap.size (.bool bb :: (List.replicate 16 (0 : UInt8)).map u8v) rfl rfl 29 (.bool false :: (List.replicate 16 (0 : UInt8)).map u8v) (HA.out.blk 0 rfl) (by kernel_rfl) rfl (addr_one bb _) ?_; intro w2 hb hg)
  replace HM := Lib.hid (show Mem w [blkE w1.heap.size 29 (.bool bb :: (List.replicate 16 (0 : UInt8)).map u8v), blkE w.heap.size 29 (.bool false :: (List.replicate 16 (0 : UInt8)).map u8v)] w2 from HA.out.put 0 rfl _ hg hb)
  clear hb hg HA
  generalize w1.heap.size = G at HM ⊢
  have hsrc := (HM.out.arg HK.out).src
  go_upto_region 3 with (refine wpList_copy_bytes _ rfl (.tmp 9) (.tmp 10) 22 22 rfl 5 Try.underlying22 (by kernel_rfl) G 1 16 16 ⟨b, off, none⟩ n c rfl rfl (.bool bb :: (List.replicate 16 (0 : UInt8)).map u8v) 29 (HM.out.blk 0 rfl) (l.map u8v) (by rw [List.length_map, HL.out]; rcases hn with rfl | rfl <;> rfl) hsrc (by rw [List.length_map, HL.out, List.length_cons, List.length_map, List.length_replicate]; omega) (u8v_one _) ?_; intro w3 hb hg)
  replace hb : Blk w3 G 29 cs := by rw [← HC.out, ← HP.out]; exact hb
  replace HM := Lib.hid (show Mem w [blkE G 29 cs, blkE w.heap.size 29 (.bool false :: (List.replicate 16 (0 : UInt8)).map u8v)] w3 from HM.out.put 0 rfl _ hg hb)
  clear hb hg hsrc HP
  go_wp2_with (first | (refine wpList_load_obj rfl 29 (.tmp 3) rfl G 0 rfl cs (HM.out.blk 0 rfl).all _ Try.underlying29 rfl HCL.out ?_; rw [HCA.out]) | (refine wpList_store_blk rfl 29 (.tmp 2) (.tmp 12) rfl w.heap.size cs rfl (by show Value.agg ca = _; rw [HCA.out]) 29 (.bool false :: (List.replicate 16 (0 : UInt8)).map u8v) (HM.out.blk 1 rfl) HCL.out (by rw [HAL.out]; rfl) H1.out ?_; intro w9 hb9 hg9))
  exact bodyPost_ret (results_obj rfl _ _ w.heap.size 29 cs _ rfl hb9 Try.underlying29 rfl HCL.out) rfl ⟨by rw [HCA.out], (HM.out.put 1 rfl _ hg9 hb9).bel⟩

theorem info_cellsOf (a : InfoM) (h : a.ok) : (Try.prog.info? 31).map (·.size) = some a.cells.length := by
  rw [InfoM.cells_length h]; kernel_rfl
theorem InfoM.one (a : InfoM) : ∀ v ∈ a.cells, v.oneCell' = true := by
  intro v hv
  rw [InfoM.cells, List.mem_append, List.mem_append, List.mem_singleton] at hv
  rcases hv with hv | hv | rfl
  · exact a.source.one v hv
  · exact a.dest.one v hv
  · rfl
theorem info_built (a b : AddrM) (ha : a.ok) (hb : b.ok) (q : Nat) : Try.prog.built 31 [(0, .agg a.cells.toArray), (1, .agg b.cells.toArray), (2, .int .i64 (q : Int))] = some (InfoM.mk a b q).cells.toArray := by
  rw [built_of 31 [17, 17, 1] [addr0.cells, addr0.cells, [.int .i64 0]] rfl #[(0, 17), (17, 17), (34, 1)] (fun parts => by kernel_rfl) (fun i h => by
    match i, h with
    | 0, _ => rfl
    | 1, _ => rfl
    | 2, _ => rfl) _ (fun p hp => by
    simp only [List.mem_cons, List.not_mem_nil, or_false] at hp
    rcases hp with rfl | rfl | rfl
    · simp [Value.cells, AddrM.cells_length ha]
    · simp [Value.cells, AddrM.cells_length hb]
    · rfl)]
  simp [InfoM.cells, Value.cells]
set_option maxRecDepth 100000 in
set_option maxHeartbeats 4000000 in
theorem refNumber_any (A : Option Addr) (c : Nat) (l : List UInt8) (hc : 2 ≤ c) (w : World) (hr : Rd w w.heap.size A 2 l) :
    Calls Try.prog 30 #[.slice A 2 c] w fun e w' => e = .returned (.int .i64 (twoB l 0 : Int)) ∧ Below w.heap.size w w' := by
  obtain ⟨x, y, rfl⟩ : ∃ x y, l = [x, y] := by
    match l, hr.1 with
    | [x, y], _ => exact ⟨x, y, rfl⟩
  have ht : twoB [x, y] 0 = 256 * x.toNat + y.toNat := rfl
  have hnb : numB [x, y] % 18446744073709551616 = twoB [x, y] 0 := by
    have h1 := x.toNat_lt
    have h2 := y.toNat_lt
    rw [ht]
    simp [numB, numL]
    omega
  have hlt := twoB_lt [x, y] 0
  have RC := readRefBig_any w.heap.size A 2 c [x, y] (by omega) w hr
  rw [hnb] at RC
  clear ht hnb
  generalize twoB [x, y] 0 = q at RC hlt ⊢
  obtain ⟨b, off, rfl, _, _⟩ := hr.at_ (by omega)
  have hw1 : IntKind.i64.wrap (q : Int) = (q : Int) := by rw [IntKind.wrap_i64]; omega
  have hb := Lib.hid (Below.refl w.heap.size w)
  have RC := Lib.hid RC
  clear hr
  go_enter Try.func30, Try.ntmps30
  go_wp2_with fail
  refine RC.out.mono ?_
  rintro e w' ⟨rfl, rfl⟩
  go_wp2
  go_ret
  exact ⟨rfl, hb.out⟩

set_option maxRecDepth 100000 in
set_option maxHeartbeats 16000000 in
theorem refCheck_any (A : Option Addr) (n c : Nat) (l : List UInt8) (hnc : n ≤ c) (hn : n ≤ 100000) (w : World) (hr : Rd w w.heap.size A n l) :
    Calls Try.prog 10 #[.slice A n c] w fun e w' => e = .returned (.tuple #[.agg (checkB l).1.cells.toArray, .int .i64 ((checkB l).2 : Int)]) ∧ Below w.heap.size w w' := by
  have HM := Lib.hid (show Mem w [blkE w.heap.size 31 info0.cells] (w.alloc (.cells #[.bool false, .int .u8 0, .int .u8 0, .int .u8 0, .int .u8 0, .int .u8 0, .int .u8 0, .int .u8 0, .int .u8 0, .int .u8 0, .int .u8 0, .int .u8 0, .int .u8 0, .int .u8 0, .int .u8 0, .int .u8 0, .int .u8 0, .bool false, .int .u8 0, .int .u8 0, .int .u8 0, .int .u8 0, .int .u8 0, .int .u8 0, .int .u8 0, .int .u8 0, .int .u8 0, .int .u8 0, .int .u8 0, .int .u8 0, .int .u8 0, .int .u8 0, .int .u8 0, .int .u8 0, .int .i64 0] 31)) from (Mem.nil w).alloc rfl 31 #[.bool false, .int .u8 0, .int .u8 0, .int .u8 0, .int .u8 0, .int .u8 0, .int .u8 0, .int .u8 0, .int .u8 0, .int .u8 0, .int .u8 0, .int .u8 0, .int .u8 0, .int .u8 0, .int .u8 0, .int .u8 0, .int .u8 0, .bool false, .int .u8 0, .int .u8 0, .int .u8 0, .int .u8 0, .int .u8 0, .int .u8 0, .int .u8 0, .int .u8 0, .int .u8 0, .int .u8 0, .int .u8 0, .int .u8 0, .int .u8 0, .int .u8 0, .int .u8 0, .int .u8 0, .int .i64 0] info0.cells rfl)
  have HK := Lib.hid hr
  have hl := hr.1
  have HIL := Lib.hid (info_cellsOf info0 info0_ok)
  clear hr
  by_cases h0 : n = 0
  · subst h0
    have HE := Lib.hid (checkB_none l hl)
    go_enter Try.func10, Try.ntmps10
    go_upto_region 1 with fail
    generalize w.alloc (.cells #[.bool false, .int .u8 0, .int .u8 0, .int .u8 0, .int .u8 0, .int .u8 0, .int .u8 0, .int .u8 0, .int .u8 0, .int .u8 0, .int .u8 0, .int .u8 0, .int .u8 0, .int .u8 0, .int .u8 0, .int .u8 0, .int .u8 0, .bool false, .int .u8 0, .int .u8 0, .int .u8 0, .int .u8 0, .int .u8 0, .int .u8 0, .int .u8 0, .int .u8 0, .int .u8 0, .int .u8 0, .int .u8 0, .int .u8 0, .int .u8 0, .int .u8 0, .int .u8 0, .int .u8 0, .int .i64 0] 31) = w1 at HM ⊢
    go_wp2_with (refine wpList_store_blk rfl 31 (.tmp 2) (.tmp 10) rfl w.heap.size info0.cells rfl rfl 31 info0.cells (HM.out.blk 0 rfl) HIL.out rfl (InfoM.one _) ?_; intro w9 hb9 hg9)
    exact bodyPost_ret (results_obj_tmp rfl _ _ w.heap.size 31 info0.cells _ rfl hb9 Try.underlying31 rfl HIL.out) rfl ⟨by rw [HE.out]; rfl, (HM.out.put 0 rfl _ hg9 hb9).bel⟩
  obtain ⟨b, off, rfl, hb0, _⟩ := HK.out.at_ (by omega)
  have d0 : ((n : Int) == 0) = false := by rw [beq_eq_false_iff_ne]; omega
  have cz0 : l.length ≠ 0 := by omega
  go_enter Try.func10, Try.ntmps10
  go_upto_region 1 with fail
  generalize w.alloc (.cells #[.bool false, .int .u8 0, .int .u8 0, .int .u8 0, .int .u8 0, .int .u8 0, .int .u8 0, .int .u8 0, .int .u8 0, .int .u8 0, .int .u8 0, .int .u8 0, .int .u8 0, .int .u8 0, .int .u8 0, .int .u8 0, .int .u8 0, .bool false, .int .u8 0, .int .u8 0, .int .u8 0, .int .u8 0, .int .u8 0, .int .u8 0, .int .u8 0, .int .u8 0, .int .u8 0, .int .u8 0, .int .u8 0, .int .u8 0, .int .u8 0, .int .u8 0, .int .u8 0, .int .u8 0, .int .i64 0] 31) = w1 at HM ⊢
  go_upto_if 13 with fail
  by_cases h1 : 2016 < n
  · have s1 : decide ((n : Int) > 2016) = true := by simp; omega
    have HE := Lib.hid (show checkB l = (info0, 3) from by exact checkB_long l cz0 (by omega))
    go_wp2_with (refine wpList_store_blk rfl 31 (.tmp 2) (.tmp 14) rfl w.heap.size info0.cells rfl rfl 31 info0.cells (HM.out.blk 0 rfl) HIL.out rfl (InfoM.one _) ?_; intro w9 hb9 hg9)
    exact bodyPost_ret (results_obj_tmp rfl _ _ w.heap.size 31 info0.cells _ rfl hb9 Try.underlying31 rfl HIL.out) rfl ⟨by rw [HE.out]; rfl, (HM.out.put 0 rfl _ hg9 hb9).bel⟩
  have s1 : decide ((n : Int) > 2016) = false := by simp; omega
  have cz1 : ¬2016 < l.length := by omega
  have fx := (HM.out.arg HK.out).byt 0 (by omega)
  rw [Nat.add_zero] at fx
  obtain ⟨X, hX⟩ : ∃ x, l.getD 0 0 = x := ⟨_, rfl⟩
  rw [hX] at fx
  obtain ⟨hh, hhh⟩ : ∃ v, X.toNat % 16 = v := ⟨_, rfl⟩
  have HHI := Lib.hid (show bits BinOp.and IntKind.u8 (X.toNat : Int) 15 = (hh : Int) from by
    have e := u8_and_nat X.toNat 15 X.toNat_lt (by omega)
    rw [show ((15 : Nat) : Int) = 15 from rfl] at e
    rw [e, ← hhh, show (15 : Nat) = 2 ^ 4 - 1 from rfl, Nat.and_two_pow_sub_one_eq_mod])
  have hh16 : hh < 16 := by omega
  by_cases v4 : X.toNat / 16 = 4
  · have hv : (l.getD 0 0).toNat / 16 = 4 := by rw [hX]; exact v4
    have hVi : (X.toNat : Int) / 16 = 4 := by omega
    by_cases h20 : n < 20
    · have t20 : decide ((n : Int) < 20) = true := by simp; omega
      have HE := Lib.hid (show checkB l = (info0, 2) from by rw [checkB_four l cz0 cz1 hv, if_pos (by omega)])
      go_wp2_with (refine wpList_store_blk rfl 31 (.tmp 2) (.tmp 38) rfl w.heap.size info0.cells rfl rfl 31 info0.cells (HM.out.blk 0 rfl) HIL.out rfl (InfoM.one _) ?_; intro w9 hb9 hg9)
      exact bodyPost_ret (results_obj_tmp rfl _ _ w.heap.size 31 info0.cells _ rfl hb9 Try.underlying31 rfl HIL.out) rfl ⟨by rw [HE.out]; rfl, (HM.out.put 0 rfl _ hg9 hb9).bel⟩
    have t20 : decide ((n : Int) < 20) = false := by simp; omega
    go_upto_region 10 with fail
    clear t20 fx hVi
    have hs1 : ∀ w' : World, (Instr.sliceAt 22 (.slice (some ⟨b, off, none⟩) n c) (some (.int .i64 12)) (some (.int .i64 16)) none).run Try.prog w' = .ok (.slice (addrOf (some ⟨b, off, none⟩) 12 c) 4 (c - 12)) w' := fun w' => slice_lh (some ⟨b, off, none⟩) n c 12 16 (by omega) (by omega) hnc w'
    have hr1 : Rd w w.heap.size (addrOf (some ⟨b, off, none⟩) 12 c) 4 (cutB l 12 16) := (HK.out.behind 12 c (by omega) hnc).take (by omega)
    generalize addrOf (some ⟨b, off, none⟩) 12 c = A1 at hs1 hr1
    have HS1 := Lib.hid hs1
    have HR1 := Lib.hid hr1
    have hk1 := fun (w' : World) (h : Rd w' w'.heap.size A1 4 (cutB l 12 16)) => refAddress_any A1 4 (c - 12) (cutB l 12 16) (.inl rfl) w' h
    have ho1 := addrB_ok (cutB l 12 16) (by rw [cutB_length l 12 16 (by omega) (by omega)]; omega)
    obtain ⟨c1, hc1⟩ : ∃ x, (addrB (cutB l 12 16)).cells.toArray = x := ⟨_, rfl⟩
    simp only [hc1] at hk1
    have HKK1 := Lib.hid hk1
    clear hs1 hr1 hk1
    have hs2 : ∀ w' : World, (Instr.sliceAt 22 (.slice (some ⟨b, off, none⟩) n c) (some (.int .i64 16)) (some (.int .i64 20)) none).run Try.prog w' = .ok (.slice (addrOf (some ⟨b, off, none⟩) 16 c) 4 (c - 16)) w' := fun w' => slice_lh (some ⟨b, off, none⟩) n c 16 20 (by omega) (by omega) hnc w'
    have hr2 : Rd w w.heap.size (addrOf (some ⟨b, off, none⟩) 16 c) 4 (cutB l 16 20) := (HK.out.behind 16 c (by omega) hnc).take (by omega)
    generalize addrOf (some ⟨b, off, none⟩) 16 c = A2 at hs2 hr2
    have HS2 := Lib.hid hs2
    have HR2 := Lib.hid hr2
    have hk2 := fun (w' : World) (h : Rd w' w'.heap.size A2 4 (cutB l 16 20)) => refAddress_any A2 4 (c - 16) (cutB l 16 20) (.inl rfl) w' h
    have ho2 := addrB_ok (cutB l 16 20) (by rw [cutB_length l 16 20 (by omega) (by omega)]; omega)
    obtain ⟨c2, hc2⟩ : ∃ x, (addrB (cutB l 16 20)).cells.toArray = x := ⟨_, rfl⟩
    simp only [hc2] at hk2
    have HKK2 := Lib.hid hk2
    clear hs2 hr2 hk2
    have hs3 : ∀ w' : World, (Instr.sliceAt 22 (.slice (some ⟨b, off, none⟩) n c) (some (.int .i64 2)) (some (.int .i64 4)) none).run Try.prog w' = .ok (.slice (addrOf (some ⟨b, off, none⟩) 2 c) 2 (c - 2)) w' := fun w' => slice_lh (some ⟨b, off, none⟩) n c 2 4 (by omega) (by omega) hnc w'
    have hr3 : Rd w w.heap.size (addrOf (some ⟨b, off, none⟩) 2 c) 2 (cutB l 2 4) := (HK.out.behind 2 c (by omega) hnc).take (by omega)
    generalize addrOf (some ⟨b, off, none⟩) 2 c = A3 at hs3 hr3
    have HS3 := Lib.hid hs3
    have HR3 := Lib.hid hr3
    have hk3 := fun (w' : World) (h : Rd w' w'.heap.size A3 2 (cutB l 2 4)) => refNumber_any A3 (c - 2) (cutB l 2 4) (by omega) w' h
    simp only [twoB_cut l 2 (by omega : 2 + 2 ≤ l.length)] at hk3
    have HKK3 := Lib.hid hk3
    clear hs3 hr3 hk3
    have hb4 := info_built (addrB (cutB l 12 16)) (addrB (cutB l 16 20)) ho1 ho2 (twoB l 2)
    have HO4 := Lib.hid (infoB_ok l false (by omega) (by simp))
    obtain ⟨ci4, hci4⟩ : ∃ x, (infoB l false).cells.toArray = x := ⟨_, rfl⟩
    rw [hc1, hc2, show (InfoM.mk (addrB (cutB l 12 16)) (addrB (cutB l 16 20)) (twoB l 2)).cells.toArray = ci4 from hci4] at hb4
    have HB4 := Lib.hid (And.intro hb4 hci4)
    clear hb4 hci4 hc1 hc2 ho1 ho2
    go_cut [5] (fun p wx => ∃ P5, p = .pointer (some ⟨P5, 0, none⟩) ∧ Mem w [blkE P5 31 (infoB l false).cells, blkE w.heap.size 31 info0.cells] wx)
    case first =>
      refine wp_region_held_drew (S := fun W' => Mem w [blkE w.heap.size 31 info0.cells] W') (by kernel_rfl) ((HM.out).drew) (fun hHeld => ?_)
      replace HM := Lib.hid HM.out.drew
      generalize w1.drew = wd1 at HM hHeld ⊢
      refine take_first (v := ?_) 0 rfl (by kernel_rfl) (by kernel_rfl) (by kernel_rfl) (fun _ _ _ h => h) (Or.inl ⟨by rfl, ?_⟩) (by assumption) ?_
      rotate_left
      · (intro w hSw; (try dsimp only at hSw); go_simp; try with_reducible rfl)
      (try simp only [Act.put, List.setIfInBounds_toArray, List.set_cons_zero, List.set_cons_succ])
      refine take_first (v := ?_) 1 rfl (by kernel_rfl) (by kernel_rfl) (by kernel_rfl) (fun _ _ _ h => h) (Or.inl ⟨by rfl, ?_⟩) (by assumption) ?_
      rotate_left
      · (intro w hSw; (try dsimp only at hSw); have s := HS1.out w; go_simp; try with_reducible rfl)
      (try simp only [Act.put, List.setIfInBounds_toArray, List.set_cons_zero, List.set_cons_succ])
      refine take_first (v := ?_) 3 rfl (by kernel_rfl) (by kernel_rfl) (by kernel_rfl) (fun _ _ _ h => h) (Or.inl ⟨by rfl, ?_⟩) (by assumption) ?_
      rotate_left
      · (intro w hSw; (try dsimp only at hSw); go_simp; try with_reducible rfl)
      (try simp only [Act.put, List.setIfInBounds_toArray, List.set_cons_zero, List.set_cons_succ])
      refine take_first (v := ?_) 4 rfl (by kernel_rfl) (by kernel_rfl) (by kernel_rfl) (fun _ _ _ h => h) (Or.inl ⟨by rfl, ?_⟩) (by assumption) ?_
      rotate_left
      · (intro w hSw; (try dsimp only at hSw); have s := HS2.out w; go_simp; try with_reducible rfl)
      (try simp only [Act.put, List.setIfInBounds_toArray, List.set_cons_zero, List.set_cons_succ])
      refine take_first (v := ?_) 6 rfl (by kernel_rfl) (by kernel_rfl) (by kernel_rfl) (fun _ _ _ h => h) (Or.inl ⟨by rfl, ?_⟩) (by assumption) ?_
      rotate_left
      · (intro w hSw; (try dsimp only at hSw); go_simp; try with_reducible rfl)
      (try simp only [Act.put, List.setIfInBounds_toArray, List.set_cons_zero, List.set_cons_succ])
      refine take_first (v := ?_) 7 rfl (by kernel_rfl) (by kernel_rfl) (by kernel_rfl) (fun _ _ _ h => h) (Or.inl ⟨by rfl, ?_⟩) (by assumption) ?_
      rotate_left
      · (intro w hSw; (try dsimp only at hSw); have s := HS3.out w; go_simp; try with_reducible rfl)
      (try simp only [Act.put, List.setIfInBounds_toArray, List.set_cons_zero, List.set_cons_succ])
      refine step_two 2 10 rfl rfl (by kernel_rfl) (fun K hK => ?_) (fun K hK => ?_)
      · clear hHeld
        go_simp
        refine (HKK1.out _ (HM.out.arg HR1.out)).mono ?_
        rintro e wy2 ⟨rfl, hb⟩
        replace HM := Lib.hid (show Mem w [blkE w.heap.size 31 info0.cells] wy2 from HM.out.below hb)
        clear hb
        go_wp2_with fail
        refine hK.out _ _ (HM.out) (fun hHeld => ?_)
        clear hK K
        (try simp only [Act.put, List.setIfInBounds_toArray, List.set_cons_zero, List.set_cons_succ])
        refine step_two 5 10 rfl rfl (by kernel_rfl) (fun K hK => ?_) (fun K hK => ?_)
        · clear hHeld
          go_simp
          refine (HKK2.out _ (HM.out.arg HR2.out)).mono ?_
          rintro e wy3 ⟨rfl, hb⟩
          replace HM := Lib.hid (show Mem w [blkE w.heap.size 31 info0.cells] wy3 from HM.out.below hb)
          clear hb
          go_wp2_with fail
          refine hK.out _ _ (HM.out) (fun hHeld => ?_)
          clear hK K
          (try simp only [Act.put, List.setIfInBounds_toArray, List.set_cons_zero, List.set_cons_succ])
          refine step_two 8 10 rfl rfl (by kernel_rfl) (fun K hK => ?_) (fun K hK => ?_)
          · clear hHeld
            go_simp
            refine (HKK3.out _ (HM.out.arg HR3.out)).mono ?_
            rintro e wy4 ⟨rfl, hb⟩
            replace HM := Lib.hid (show Mem w [blkE w.heap.size 31 info0.cells] wy4 from HM.out.below hb)
            clear hb
            go_wp2_with fail
            refine hK.out _ _ (HM.out) (fun hHeld => ?_)
            clear hK K
            (try simp only [Act.put, List.setIfInBounds_toArray, List.set_cons_zero, List.set_cons_succ])
            refine take_first (v := .agg ci4) 9 rfl (by kernel_rfl) (by kernel_rfl) (by kernel_rfl) (fun _ _ _ h => h) (yields_build_obj (by rfl) 31 [(0, .tmp 41), (1, .tmp 44), (2, .tmp 47)] rfl ci4 HB4.out.1) (by assumption) ?_
            (try simp only [Act.put, List.setIfInBounds_toArray, List.set_cons_zero, List.set_cons_succ])
            refine step_one 10 rfl (by kernel_rfl) (fun K hK => ?_)
            clear hHeld
            go_simp
            replace HM := Lib.hid (show Mem w [blkE wy4.heap.size 31 (info0.cells), blkE w.heap.size 31 info0.cells] (wy4.alloc (.cells #[.bool false, .int .u8 0, .int .u8 0, .int .u8 0, .int .u8 0, .int .u8 0, .int .u8 0, .int .u8 0, .int .u8 0, .int .u8 0, .int .u8 0, .int .u8 0, .int .u8 0, .int .u8 0, .int .u8 0, .int .u8 0, .int .u8 0, .bool false, .int .u8 0, .int .u8 0, .int .u8 0, .int .u8 0, .int .u8 0, .int .u8 0, .int .u8 0, .int .u8 0, .int .u8 0, .int .u8 0, .int .u8 0, .int .u8 0, .int .u8 0, .int .u8 0, .int .u8 0, .int .u8 0, .int .i64 0] 31)) from HM.out.alloc rfl 31 #[.bool false, .int .u8 0, .int .u8 0, .int .u8 0, .int .u8 0, .int .u8 0, .int .u8 0, .int .u8 0, .int .u8 0, .int .u8 0, .int .u8 0, .int .u8 0, .int .u8 0, .int .u8 0, .int .u8 0, .int .u8 0, .int .u8 0, .bool false, .int .u8 0, .int .u8 0, .int .u8 0, .int .u8 0, .int .u8 0, .int .u8 0, .int .u8 0, .int .u8 0, .int .u8 0, .int .u8 0, .int .u8 0, .int .u8 0, .int .u8 0, .int .u8 0, .int .u8 0, .int .u8 0, .int .i64 0] (info0.cells) rfl)
            generalize wy4.alloc (.cells #[.bool false, .int .u8 0, .int .u8 0, .int .u8 0, .int .u8 0, .int .u8 0, .int .u8 0, .int .u8 0, .int .u8 0, .int .u8 0, .int .u8 0, .int .u8 0, .int .u8 0, .int .u8 0, .int .u8 0, .int .u8 0, .int .u8 0, .bool false, .int .u8 0, .int .u8 0, .int .u8 0, .int .u8 0, .int .u8 0, .int .u8 0, .int .u8 0, .int .u8 0, .int .u8 0, .int .u8 0, .int .u8 0, .int .u8 0, .int .u8 0, .int .u8 0, .int .u8 0, .int .u8 0, .int .i64 0] 31) = wy5 at HM ⊢
            generalize wy4.heap.size = P5 at HM ⊢
            refine hK.out _ _ ((HM.out.erase 0)) (fun hHeld => ?_)
            clear hK K
            (try simp only [Act.put, List.setIfInBounds_toArray, List.set_cons_zero, List.set_cons_succ])
            refine step_one 11 rfl (by kernel_rfl) (fun K hK => ?_)
            clear hHeld
            refine step_store_blk _ rfl 31 (.tmp 5) (.tmp 48) rfl P5 (infoB l false).cells rfl (by show Value.agg ci4 = _; rw [HB4.out.2]) 31 info0.cells (HM.out.blk 0 rfl) (info_cellsOf _ HO4.out) (by rw [InfoM.cells_length HO4.out]; rfl) (InfoM.one _) ?_
            intro wy6 hb hg
            replace HM := Lib.hid (show Mem w [blkE P5 31 (infoB l false).cells, blkE w.heap.size 31 info0.cells] wy6 from HM.out.put 0 rfl _ hg hb)
            clear hb hg
            refine hK.out _ _ ((HM.out.erase 0)) (fun hHeld => ?_)
            clear hK K
            (try simp only [Act.put])
            refine wpAnyH_done (by kernel_rfl) ?_ _
            go_wp2_with fail
            go_meet
            exact ⟨P5, rfl, HM.out⟩
          · clear hHeld
            go_simp
            replace HM := Lib.hid (show Mem w [blkE wy3.heap.size 31 (info0.cells), blkE w.heap.size 31 info0.cells] (wy3.alloc (.cells #[.bool false, .int .u8 0, .int .u8 0, .int .u8 0, .int .u8 0, .int .u8 0, .int .u8 0, .int .u8 0, .int .u8 0, .int .u8 0, .int .u8 0, .int .u8 0, .int .u8 0, .int .u8 0, .int .u8 0, .int .u8 0, .int .u8 0, .bool false, .int .u8 0, .int .u8 0, .int .u8 0, .int .u8 0, .int .u8 0, .int .u8 0, .int .u8 0, .int .u8 0, .int .u8 0, .int .u8 0, .int .u8 0, .int .u8 0, .int .u8 0, .int .u8 0, .int .u8 0, .int .u8 0, .int .i64 0] 31)) from HM.out.alloc rfl 31 #[.bool false, .int .u8 0, .int .u8 0, .int .u8 0, .int .u8 0, .int .u8 0, .int .u8 0, .int .u8 0, .int .u8 0, .int .u8 0, .int .u8 0, .int .u8 0, .int .u8 0, .int .u8 0, .int .u8 0, .int .u8 0, .int .u8 0, .bool false, .int .u8 0, .int .u8 0, .int .u8 0, .int .u8 0, .int .u8 0, .int .u8 0, .int .u8 0, .int .u8 0, .int .u8 0, .int .u8 0, .int .u8 0, .int .u8 0, .int .u8 0, .int .u8 0, .int .u8 0, .int .u8 0, .int .i64 0] (info0.cells) rfl)
            generalize wy3.alloc (.cells #[.bool false, .int .u8 0, .int .u8 0, .int .u8 0, .int .u8 0, .int .u8 0, .int .u8 0, .int .u8 0, .int .u8 0, .int .u8 0, .int .u8 0, .int .u8 0, .int .u8 0, .int .u8 0, .int .u8 0, .int .u8 0, .int .u8 0, .bool false, .int .u8 0, .int .u8 0, .int .u8 0, .int .u8 0, .int .u8 0, .int .u8 0, .int .u8 0, .int .u8 0, .int .u8 0, .int .u8 0, .int .u8 0, .int .u8 0, .int .u8 0, .int .u8 0, .int .u8 0, .int .u8 0, .int .i64 0] 31) = wy4 at HM ⊢
            generalize wy3.heap.size = P5 at HM ⊢
            refine hK.out _ _ ((HM.out.erase 0)) (fun hHeld => ?_)
            clear hK K
            (try simp only [Act.put, List.setIfInBounds_toArray, List.set_cons_zero, List.set_cons_succ])
            refine step_one 8 rfl (by kernel_rfl) (fun K hK => ?_)
            clear hHeld
            go_simp
            refine (HKK3.out _ (HM.out.arg HR3.out)).mono ?_
            rintro e wy5 ⟨rfl, hb⟩
            replace HM := Lib.hid (show Mem w [blkE P5 31 (info0.cells), blkE w.heap.size 31 info0.cells] wy5 from HM.out.below hb)
            clear hb
            go_wp2_with fail
            refine hK.out _ _ ((HM.out.erase 0)) (fun hHeld => ?_)
            clear hK K
            (try simp only [Act.put, List.setIfInBounds_toArray, List.set_cons_zero, List.set_cons_succ])
            refine take_first (v := .agg ci4) 9 rfl (by kernel_rfl) (by kernel_rfl) (by kernel_rfl) (fun _ _ _ h => h) (yields_build_obj (by rfl) 31 [(0, .tmp 41), (1, .tmp 44), (2, .tmp 47)] rfl ci4 HB4.out.1) (by assumption) ?_
            (try simp only [Act.put, List.setIfInBounds_toArray, List.set_cons_zero, List.set_cons_succ])
            refine step_one 11 rfl (by kernel_rfl) (fun K hK => ?_)
            clear hHeld
            refine step_store_blk _ rfl 31 (.tmp 5) (.tmp 48) rfl P5 (infoB l false).cells rfl (by show Value.agg ci4 = _; rw [HB4.out.2]) 31 info0.cells (HM.out.blk 0 rfl) (info_cellsOf _ HO4.out) (by rw [InfoM.cells_length HO4.out]; rfl) (InfoM.one _) ?_
            intro wy6 hb hg
            replace HM := Lib.hid (show Mem w [blkE P5 31 (infoB l false).cells, blkE w.heap.size 31 info0.cells] wy6 from HM.out.put 0 rfl _ hg hb)
            clear hb hg
            refine hK.out _ _ ((HM.out.erase 0)) (fun hHeld => ?_)
            clear hK K
            (try simp only [Act.put])
            refine wpAnyH_done (by kernel_rfl) ?_ _
            go_wp2_with fail
            go_meet
            exact ⟨P5, rfl, HM.out⟩
        · clear hHeld
          go_simp
          replace HM := Lib.hid (show Mem w [blkE wy2.heap.size 31 (info0.cells), blkE w.heap.size 31 info0.cells] (wy2.alloc (.cells #[.bool false, .int .u8 0, .int .u8 0, .int .u8 0, .int .u8 0, .int .u8 0, .int .u8 0, .int .u8 0, .int .u8 0, .int .u8 0, .int .u8 0, .int .u8 0, .int .u8 0, .int .u8 0, .int .u8 0, .int .u8 0, .int .u8 0, .bool false, .int .u8 0, .int .u8 0, .int .u8 0, .int .u8 0, .int .u8 0, .int .u8 0, .int .u8 0, .int .u8 0, .int .u8 0, .int .u8 0, .int .u8 0, .int .u8 0, .int .u8 0, .int .u8 0, .int .u8 0, .int .u8 0, .int .i64 0] 31)) from HM.out.alloc rfl 31 #[.bool false, .int .u8 0, .int .u8 0, .int .u8 0, .int .u8 0, .int .u8 0, .int .u8 0, .int .u8 0, .int .u8 0, .int .u8 0, .int .u8 0, .int .u8 0, .int .u8 0, .int .u8 0, .int .u8 0, .int .u8 0, .int .u8 0, .bool false, .int .u8 0, .int .u8 0, .int .u8 0, .int .u8 0, .int .u8 0, .int .u8 0, .int .u8 0, .int .u8 0, .int .u8 0, .int .u8 0, .int .u8 0, .int .u8 0, .int .u8 0, .int .u8 0, .int .u8 0, .int .u8 0, .int .i64 0] (info0.cells) rfl)
          generalize wy2.alloc (.cells #[.bool false, .int .u8 0, .int .u8 0, .int .u8 0, .int .u8 0, .int .u8 0, .int .u8 0, .int .u8 0, .int .u8 0, .int .u8 0, .int .u8 0, .int .u8 0, .int .u8 0, .int .u8 0, .int .u8 0, .int .u8 0, .int .u8 0, .bool false, .int .u8 0, .int .u8 0, .int .u8 0, .int .u8 0, .int .u8 0, .int .u8 0, .int .u8 0, .int .u8 0, .int .u8 0, .int .u8 0, .int .u8 0, .int .u8 0, .int .u8 0, .int .u8 0, .int .u8 0, .int .u8 0, .int .i64 0] 31) = wy3 at HM ⊢
          generalize wy2.heap.size = P5 at HM ⊢
          refine hK.out _ _ ((HM.out.erase 0)) (fun hHeld => ?_)
          clear hK K
          (try simp only [Act.put, List.setIfInBounds_toArray, List.set_cons_zero, List.set_cons_succ])
          refine step_one 5 rfl (by kernel_rfl) (fun K hK => ?_)
          clear hHeld
          go_simp
          refine (HKK2.out _ (HM.out.arg HR2.out)).mono ?_
          rintro e wy4 ⟨rfl, hb⟩
          replace HM := Lib.hid (show Mem w [blkE P5 31 (info0.cells), blkE w.heap.size 31 info0.cells] wy4 from HM.out.below hb)
          clear hb
          go_wp2_with fail
          refine hK.out _ _ ((HM.out.erase 0)) (fun hHeld => ?_)
          clear hK K
          (try simp only [Act.put, List.setIfInBounds_toArray, List.set_cons_zero, List.set_cons_succ])
          refine step_one 8 rfl (by kernel_rfl) (fun K hK => ?_)
          clear hHeld
          go_simp
          refine (HKK3.out _ (HM.out.arg HR3.out)).mono ?_
          rintro e wy5 ⟨rfl, hb⟩
          replace HM := Lib.hid (show Mem w [blkE P5 31 (info0.cells), blkE w.heap.size 31 info0.cells] wy5 from HM.out.below hb)
          clear hb
          go_wp2_with fail
          refine hK.out _ _ ((HM.out.erase 0)) (fun hHeld => ?_)
          clear hK K
          (try simp only [Act.put, List.setIfInBounds_toArray, List.set_cons_zero, List.set_cons_succ])
          refine take_first (v := .agg ci4) 9 rfl (by kernel_rfl) (by kernel_rfl) (by kernel_rfl) (fun _ _ _ h => h) (yields_build_obj (by rfl) 31 [(0, .tmp 41), (1, .tmp 44), (2, .tmp 47)] rfl ci4 HB4.out.1) (by assumption) ?_
          (try simp only [Act.put, List.setIfInBounds_toArray, List.set_cons_zero, List.set_cons_succ])
          refine step_one 11 rfl (by kernel_rfl) (fun K hK => ?_)
          clear hHeld
          refine step_store_blk _ rfl 31 (.tmp 5) (.tmp 48) rfl P5 (infoB l false).cells rfl (by show Value.agg ci4 = _; rw [HB4.out.2]) 31 info0.cells (HM.out.blk 0 rfl) (info_cellsOf _ HO4.out) (by rw [InfoM.cells_length HO4.out]; rfl) (InfoM.one _) ?_
          intro wy6 hb hg
          replace HM := Lib.hid (show Mem w [blkE P5 31 (infoB l false).cells, blkE w.heap.size 31 info0.cells] wy6 from HM.out.put 0 rfl _ hg hb)
          clear hb hg
          refine hK.out _ _ ((HM.out.erase 0)) (fun hHeld => ?_)
          clear hK K
          (try simp only [Act.put])
          refine wpAnyH_done (by kernel_rfl) ?_ _
          go_wp2_with fail
          go_meet
          exact ⟨P5, rfl, HM.out⟩
      · clear hHeld
        go_simp
        replace HM := Lib.hid (show Mem w [blkE wd1.heap.size 31 (info0.cells), blkE w.heap.size 31 info0.cells] (wd1.alloc (.cells #[.bool false, .int .u8 0, .int .u8 0, .int .u8 0, .int .u8 0, .int .u8 0, .int .u8 0, .int .u8 0, .int .u8 0, .int .u8 0, .int .u8 0, .int .u8 0, .int .u8 0, .int .u8 0, .int .u8 0, .int .u8 0, .int .u8 0, .bool false, .int .u8 0, .int .u8 0, .int .u8 0, .int .u8 0, .int .u8 0, .int .u8 0, .int .u8 0, .int .u8 0, .int .u8 0, .int .u8 0, .int .u8 0, .int .u8 0, .int .u8 0, .int .u8 0, .int .u8 0, .int .u8 0, .int .i64 0] 31)) from HM.out.alloc rfl 31 #[.bool false, .int .u8 0, .int .u8 0, .int .u8 0, .int .u8 0, .int .u8 0, .int .u8 0, .int .u8 0, .int .u8 0, .int .u8 0, .int .u8 0, .int .u8 0, .int .u8 0, .int .u8 0, .int .u8 0, .int .u8 0, .int .u8 0, .bool false, .int .u8 0, .int .u8 0, .int .u8 0, .int .u8 0, .int .u8 0, .int .u8 0, .int .u8 0, .int .u8 0, .int .u8 0, .int .u8 0, .int .u8 0, .int .u8 0, .int .u8 0, .int .u8 0, .int .u8 0, .int .u8 0, .int .i64 0] (info0.cells) rfl)
        generalize wd1.alloc (.cells #[.bool false, .int .u8 0, .int .u8 0, .int .u8 0, .int .u8 0, .int .u8 0, .int .u8 0, .int .u8 0, .int .u8 0, .int .u8 0, .int .u8 0, .int .u8 0, .int .u8 0, .int .u8 0, .int .u8 0, .int .u8 0, .int .u8 0, .bool false, .int .u8 0, .int .u8 0, .int .u8 0, .int .u8 0, .int .u8 0, .int .u8 0, .int .u8 0, .int .u8 0, .int .u8 0, .int .u8 0, .int .u8 0, .int .u8 0, .int .u8 0, .int .u8 0, .int .u8 0, .int .u8 0, .int .i64 0] 31) = wy2 at HM ⊢
        generalize wd1.heap.size = P5 at HM ⊢
        refine hK.out _ _ ((HM.out.erase 0)) (fun hHeld => ?_)
        clear hK K
        (try simp only [Act.put, List.setIfInBounds_toArray, List.set_cons_zero, List.set_cons_succ])
        refine step_one 2 rfl (by kernel_rfl) (fun K hK => ?_)
        clear hHeld
        go_simp
        refine (HKK1.out _ (HM.out.arg HR1.out)).mono ?_
        rintro e wy3 ⟨rfl, hb⟩
        replace HM := Lib.hid (show Mem w [blkE P5 31 (info0.cells), blkE w.heap.size 31 info0.cells] wy3 from HM.out.below hb)
        clear hb
        go_wp2_with fail
        refine hK.out _ _ ((HM.out.erase 0)) (fun hHeld => ?_)
        clear hK K
        (try simp only [Act.put, List.setIfInBounds_toArray, List.set_cons_zero, List.set_cons_succ])
        refine step_one 5 rfl (by kernel_rfl) (fun K hK => ?_)
        clear hHeld
        go_simp
        refine (HKK2.out _ (HM.out.arg HR2.out)).mono ?_
        rintro e wy4 ⟨rfl, hb⟩
        replace HM := Lib.hid (show Mem w [blkE P5 31 (info0.cells), blkE w.heap.size 31 info0.cells] wy4 from HM.out.below hb)
        clear hb
        go_wp2_with fail
        refine hK.out _ _ ((HM.out.erase 0)) (fun hHeld => ?_)
        clear hK K
        (try simp only [Act.put, List.setIfInBounds_toArray, List.set_cons_zero, List.set_cons_succ])
        refine step_one 8 rfl (by kernel_rfl) (fun K hK => ?_)
        clear hHeld
        go_simp
        refine (HKK3.out _ (HM.out.arg HR3.out)).mono ?_
        rintro e wy5 ⟨rfl, hb⟩
        replace HM := Lib.hid (show Mem w [blkE P5 31 (info0.cells), blkE w.heap.size 31 info0.cells] wy5 from HM.out.below hb)
        clear hb
        go_wp2_with fail
        refine hK.out _ _ ((HM.out.erase 0)) (fun hHeld => ?_)
        clear hK K
        (try simp only [Act.put, List.setIfInBounds_toArray, List.set_cons_zero, List.set_cons_succ])
        refine take_first (v := .agg ci4) 9 rfl (by kernel_rfl) (by kernel_rfl) (by kernel_rfl) (fun _ _ _ h => h) (yields_build_obj (by rfl) 31 [(0, .tmp 41), (1, .tmp 44), (2, .tmp 47)] rfl ci4 HB4.out.1) (by assumption) ?_
        (try simp only [Act.put, List.setIfInBounds_toArray, List.set_cons_zero, List.set_cons_succ])
        refine step_one 11 rfl (by kernel_rfl) (fun K hK => ?_)
        clear hHeld
        refine step_store_blk _ rfl 31 (.tmp 5) (.tmp 48) rfl P5 (infoB l false).cells rfl (by show Value.agg ci4 = _; rw [HB4.out.2]) 31 info0.cells (HM.out.blk 0 rfl) (info_cellsOf _ HO4.out) (by rw [InfoM.cells_length HO4.out]; rfl) (InfoM.one _) ?_
        intro wy6 hb hg
        replace HM := Lib.hid (show Mem w [blkE P5 31 (infoB l false).cells, blkE w.heap.size 31 info0.cells] wy6 from HM.out.put 0 rfl _ hg hb)
        clear hb hg
        refine hK.out _ _ ((HM.out.erase 0)) (fun hHeld => ?_)
        clear hK K
        (try simp only [Act.put])
        refine wpAnyH_done (by kernel_rfl) ?_ _
        go_wp2_with fail
        go_meet
        exact ⟨P5, rfl, HM.out⟩
    case rest =>
      clear HM
      revert wc
      intro w7 hcut
      obtain ⟨P5, rfl, hcut⟩ := hcut
      have HM := Lib.hid hcut
      clear hcut
      go_upto_region 13 with fail
      have fl := ((HM.out.blk 0 rfl).cell 34).trans (InfoM.len_cell (infoB l false) HO4.out)
      obtain ⟨q, hq⟩ : ∃ q, twoB l 2 = q := ⟨_, rfl⟩
      rw [show (infoB l false).len = q from hq] at fl
      have hql : q ≤ 66000 := by rw [← hq]; have := twoB_lt l 2; omega
      have HQ := Lib.hid hq
      clear hq
      have fx := (HM.out.arg HK.out).byt 0 (by omega)
      rw [Nat.add_zero] at fx
      rw [hX] at fx
      have hand := HHI.out
      have hwh : IntKind.i64.wrap (hh : Int) = (hh : Int) := by rw [IntKind.wrap_i64]; omega
      go_upto_region 14 with fail
      clear fx hand hwh
      have hm1 : IntKind.i64.wrap (4 * (hh : Int)) = 4 * (hh : Int) := by rw [IntKind.wrap_i64]; omega
      by_cases h5 : hh < 5 ∨ q < 4 * hh
      · have HE := Lib.hid (show checkB l = (info0, 5) from by rw [checkB_four l cz0 cz1 hv, if_neg (by omega), if_pos (by rw [hX, hhh, HQ.out]; exact h5)])
        have HEQ := Lib.hid (Eq.refl l)
        by_cases g5 : hh < 5
        · have t5 : decide ((hh : Int) < 5) = true := by simp; omega
          go_wp2_with (refine wpList_store_blk rfl 31 (.tmp 2) (.tmp 80) rfl w.heap.size info0.cells rfl rfl 31 info0.cells (HM.out.blk 1 rfl) HIL.out rfl (InfoM.one _) ?_; intro w9 hb9 hg9)
          exact bodyPost_ret (results_obj_tmp rfl _ _ w.heap.size 31 info0.cells _ rfl hb9 Try.underlying31 rfl HIL.out) rfl ⟨by rw [HE.out]; rfl, (HM.out.put 1 rfl _ hg9 hb9).bel⟩
        · have t5 : decide ((hh : Int) < 5) = false := by simp; omega
          have t6 : decide (4 * (hh : Int) > (q : Int)) = true := by simp; omega
          go_wp2_with (refine wpList_store_blk rfl 31 (.tmp 2) (.tmp 80) rfl w.heap.size info0.cells rfl rfl 31 info0.cells (HM.out.blk 1 rfl) HIL.out rfl (InfoM.one _) ?_; intro w9 hb9 hg9)
          exact bodyPost_ret (results_obj_tmp rfl _ _ w.heap.size 31 info0.cells _ rfl hb9 Try.underlying31 rfl HIL.out) rfl ⟨by rw [HE.out]; rfl, (HM.out.put 1 rfl _ hg9 hb9).bel⟩
      have t5 : decide ((hh : Int) < 5) = false := by simp; omega
      have t6 : decide (4 * (hh : Int) > (q : Int)) = false := by simp; omega
      go_upto_region 16 with fail
      clear t5 t6 hm1
      by_cases h6 : n < q
      · have t7 : decide ((q : Int) > (n : Int)) = true := by simp; omega
        have HE := Lib.hid (show checkB l = (info0, 2) from by rw [checkB_four l cz0 cz1 hv, if_neg (by omega), if_neg (by rw [hX, hhh, HQ.out]; exact h5), if_pos (by rw [HQ.out, hl]; exact h6)])
        go_wp2_with (refine wpList_store_blk rfl 31 (.tmp 2) (.tmp 86) rfl w.heap.size info0.cells rfl rfl 31 info0.cells (HM.out.blk 1 rfl) HIL.out rfl (InfoM.one _) ?_; intro w9 hb9 hg9)
        exact bodyPost_ret (results_obj_tmp rfl _ _ w.heap.size 31 info0.cells _ rfl hb9 Try.underlying31 rfl HIL.out) rfl ⟨by rw [HE.out]; rfl, (HM.out.put 1 rfl _ hg9 hb9).bel⟩
      have t7 : decide ((q : Int) > (n : Int)) = false := by simp; omega
      go_upto_region 18 with fail
      clear t7
      by_cases h7 : 2000 < q
      · have t8 : decide ((q : Int) > 2000) = true := by simp; omega
        have HE := Lib.hid (show checkB l = (info0, 3) from by rw [checkB_four l cz0 cz1 hv, if_neg (by omega), if_neg (by rw [hX, hhh, HQ.out]; exact h5), if_neg (by rw [HQ.out, hl]; exact h6), if_pos (by rw [HQ.out]; exact h7)])
        go_wp2_with (refine wpList_store_blk rfl 31 (.tmp 2) (.tmp 90) rfl w.heap.size info0.cells rfl rfl 31 info0.cells (HM.out.blk 1 rfl) HIL.out rfl (InfoM.one _) ?_; intro w9 hb9 hg9)
        exact bodyPost_ret (results_obj_tmp rfl _ _ w.heap.size 31 info0.cells _ rfl hb9 Try.underlying31 rfl HIL.out) rfl ⟨by rw [HE.out]; rfl, (HM.out.put 1 rfl _ hg9 hb9).bel⟩
      have t8 : decide ((q : Int) > 2000) = false := by simp; omega
      have HE := Lib.hid (show checkB l = (infoB l false, 0) from by rw [checkB_four l cz0 cz1 hv, if_neg (by omega), if_neg (by rw [hX, hhh, HQ.out]; exact h5), if_neg (by rw [HQ.out, hl]; exact h6), if_neg (by rw [HQ.out]; exact h7)])
      go_wp2_with (first | (refine wpList_load_obj rfl 31 (.tmp 5) rfl P5 0 rfl (infoB l false).cells (HM.out.blk 0 rfl).all _ Try.underlying31 rfl (info_cellsOf _ HO4.out) ?_; rw [HB4.out.2]) | (refine wpList_store_blk rfl 31 (.tmp 2) (.tmp 91) rfl w.heap.size (infoB l false).cells rfl (by show Value.agg ci4 = _; rw [HB4.out.2]) 31 info0.cells (HM.out.blk 1 rfl) (info_cellsOf _ HO4.out) (by rw [InfoM.cells_length HO4.out]; rfl) (InfoM.one _) ?_; intro w9 hb9 hg9))
      exact bodyPost_ret (results_obj_tmp rfl _ _ w.heap.size 31 (infoB l false).cells _ rfl hb9 Try.underlying31 rfl (info_cellsOf _ HO4.out)) rfl ⟨by rw [HE.out]; rfl, (HM.out.put 1 rfl _ hg9 hb9).bel⟩
  by_cases v6 : X.toNat / 16 = 6
  · have hv : (l.getD 0 0).toNat / 16 = 6 := by rw [hX]; exact v6
    have hVi : (X.toNat : Int) / 16 = 6 := by omega
    by_cases h20 : n < 20
    · have t20 : decide ((n : Int) < 20) = true := by simp; omega
      have HE := Lib.hid (show checkB l = (info0, 2) from by rw [checkB_six l cz0 cz1 hv, if_pos (by omega)])
      go_wp2_with (refine wpList_store_blk rfl 31 (.tmp 2) (.tmp 38) rfl w.heap.size info0.cells rfl rfl 31 info0.cells (HM.out.blk 0 rfl) HIL.out rfl (InfoM.one _) ?_; intro w9 hb9 hg9)
      exact bodyPost_ret (results_obj_tmp rfl _ _ w.heap.size 31 info0.cells _ rfl hb9 Try.underlying31 rfl HIL.out) rfl ⟨by rw [HE.out]; rfl, (HM.out.put 0 rfl _ hg9 hb9).bel⟩
    have t20 : decide ((n : Int) < 20) = false := by simp; omega
    by_cases h40 : n < 40
    · have t40 : decide ((n : Int) < 40) = true := by simp; omega
      have HE := Lib.hid (show checkB l = (info0, 2) from by rw [checkB_six l cz0 cz1 hv, if_pos (by omega)])
      go_wp2_with (refine wpList_store_blk rfl 31 (.tmp 2) (.tmp 38) rfl w.heap.size info0.cells rfl rfl 31 info0.cells (HM.out.blk 0 rfl) HIL.out rfl (InfoM.one _) ?_; intro w9 hb9 hg9)
      exact bodyPost_ret (results_obj_tmp rfl _ _ w.heap.size 31 info0.cells _ rfl hb9 Try.underlying31 rfl HIL.out) rfl ⟨by rw [HE.out]; rfl, (HM.out.put 0 rfl _ hg9 hb9).bel⟩
    have t40 : decide ((n : Int) < 40) = false := by simp; omega
    go_upto_region 10 with fail
    clear t20 fx hVi
    have hs1 : ∀ w' : World, (Instr.sliceAt 22 (.slice (some ⟨b, off, none⟩) n c) (some (.int .i64 12)) (some (.int .i64 16)) none).run Try.prog w' = .ok (.slice (addrOf (some ⟨b, off, none⟩) 12 c) 4 (c - 12)) w' := fun w' => slice_lh (some ⟨b, off, none⟩) n c 12 16 (by omega) (by omega) hnc w'
    have hr1 : Rd w w.heap.size (addrOf (some ⟨b, off, none⟩) 12 c) 4 (cutB l 12 16) := (HK.out.behind 12 c (by omega) hnc).take (by omega)
    generalize addrOf (some ⟨b, off, none⟩) 12 c = A1 at hs1 hr1
    have HS1 := Lib.hid hs1
    have HR1 := Lib.hid hr1
    have hk1 := fun (w' : World) (h : Rd w' w'.heap.size A1 4 (cutB l 12 16)) => refAddress_any A1 4 (c - 12) (cutB l 12 16) (.inl rfl) w' h
    have ho1 := addrB_ok (cutB l 12 16) (by rw [cutB_length l 12 16 (by omega) (by omega)]; omega)
    obtain ⟨c1, hc1⟩ : ∃ x, (addrB (cutB l 12 16)).cells.toArray = x := ⟨_, rfl⟩
    simp only [hc1] at hk1
    have HKK1 := Lib.hid hk1
    clear hs1 hr1 hk1
    have hs2 : ∀ w' : World, (Instr.sliceAt 22 (.slice (some ⟨b, off, none⟩) n c) (some (.int .i64 16)) (some (.int .i64 20)) none).run Try.prog w' = .ok (.slice (addrOf (some ⟨b, off, none⟩) 16 c) 4 (c - 16)) w' := fun w' => slice_lh (some ⟨b, off, none⟩) n c 16 20 (by omega) (by omega) hnc w'
    have hr2 : Rd w w.heap.size (addrOf (some ⟨b, off, none⟩) 16 c) 4 (cutB l 16 20) := (HK.out.behind 16 c (by omega) hnc).take (by omega)
    generalize addrOf (some ⟨b, off, none⟩) 16 c = A2 at hs2 hr2
    have HS2 := Lib.hid hs2
    have HR2 := Lib.hid hr2
    have hk2 := fun (w' : World) (h : Rd w' w'.heap.size A2 4 (cutB l 16 20)) => refAddress_any A2 4 (c - 16) (cutB l 16 20) (.inl rfl) w' h
    have ho2 := addrB_ok (cutB l 16 20) (by rw [cutB_length l 16 20 (by omega) (by omega)]; omega)
    obtain ⟨c2, hc2⟩ : ∃ x, (addrB (cutB l 16 20)).cells.toArray = x := ⟨_, rfl⟩
    simp only [hc2] at hk2
    have HKK2 := Lib.hid hk2
    clear hs2 hr2 hk2
    have hs3 : ∀ w' : World, (Instr.sliceAt 22 (.slice (some ⟨b, off, none⟩) n c) (some (.int .i64 2)) (some (.int .i64 4)) none).run Try.prog w' = .ok (.slice (addrOf (some ⟨b, off, none⟩) 2 c) 2 (c - 2)) w' := fun w' => slice_lh (some ⟨b, off, none⟩) n c 2 4 (by omega) (by omega) hnc w'
    have hr3 : Rd w w.heap.size (addrOf (some ⟨b, off, none⟩) 2 c) 2 (cutB l 2 4) := (HK.out.behind 2 c (by omega) hnc).take (by omega)
    generalize addrOf (some ⟨b, off, none⟩) 2 c = A3 at hs3 hr3
    have HS3 := Lib.hid hs3
    have HR3 := Lib.hid hr3
    have hk3 := fun (w' : World) (h : Rd w' w'.heap.size A3 2 (cutB l 2 4)) => refNumber_any A3 (c - 2) (cutB l 2 4) (by omega) w' h
    simp only [twoB_cut l 2 (by omega : 2 + 2 ≤ l.length)] at hk3
    have HKK3 := Lib.hid hk3
    clear hs3 hr3 hk3
    have hb4 := info_built (addrB (cutB l 12 16)) (addrB (cutB l 16 20)) ho1 ho2 (twoB l 2)
    have HO4 := Lib.hid (infoB_ok l false (by omega) (by simp))
    obtain ⟨ci4, hci4⟩ : ∃ x, (infoB l false).cells.toArray = x := ⟨_, rfl⟩
    rw [hc1, hc2, show (InfoM.mk (addrB (cutB l 12 16)) (addrB (cutB l 16 20)) (twoB l 2)).cells.toArray = ci4 from hci4] at hb4
    have HB4 := Lib.hid (And.intro hb4 hci4)
    clear hb4 hci4 hc1 hc2 ho1 ho2
    have hs4 : ∀ w' : World, (Instr.sliceAt 22 (.slice (some ⟨b, off, none⟩) n c) (some (.int .i64 8)) (some (.int .i64 24)) none).run Try.prog w' = .ok (.slice (addrOf (some ⟨b, off, none⟩) 8 c) 16 (c - 8)) w' := fun w' => slice_lh (some ⟨b, off, none⟩) n c 8 24 (by omega) (by omega) hnc w'
    have hr4 : Rd w w.heap.size (addrOf (some ⟨b, off, none⟩) 8 c) 16 (cutB l 8 24) := (HK.out.behind 8 c (by omega) hnc).take (by omega)
    generalize addrOf (some ⟨b, off, none⟩) 8 c = A4 at hs4 hr4
    have HS4 := Lib.hid hs4
    have HR4 := Lib.hid hr4
    have hk4 := fun (w' : World) (h : Rd w' w'.heap.size A4 16 (cutB l 8 24)) => refAddress_any A4 16 (c - 8) (cutB l 8 24) (.inr rfl) w' h
    have ho4 := addrB_ok (cutB l 8 24) (by rw [cutB_length l 8 24 (by omega) (by omega)]; omega)
    obtain ⟨c4, hc4⟩ : ∃ x, (addrB (cutB l 8 24)).cells.toArray = x := ⟨_, rfl⟩
    simp only [hc4] at hk4
    have HKK4 := Lib.hid hk4
    clear hs4 hr4 hk4
    have hs5 : ∀ w' : World, (Instr.sliceAt 22 (.slice (some ⟨b, off, none⟩) n c) (some (.int .i64 24)) (some (.int .i64 40)) none).run Try.prog w' = .ok (.slice (addrOf (some ⟨b, off, none⟩) 24 c) 16 (c - 24)) w' := fun w' => slice_lh (some ⟨b, off, none⟩) n c 24 40 (by omega) (by omega) hnc w'
    have hr5 : Rd w w.heap.size (addrOf (some ⟨b, off, none⟩) 24 c) 16 (cutB l 24 40) := (HK.out.behind 24 c (by omega) hnc).take (by omega)
    generalize addrOf (some ⟨b, off, none⟩) 24 c = A5 at hs5 hr5
    have HS5 := Lib.hid hs5
    have HR5 := Lib.hid hr5
    have hk5 := fun (w' : World) (h : Rd w' w'.heap.size A5 16 (cutB l 24 40)) => refAddress_any A5 16 (c - 24) (cutB l 24 40) (.inr rfl) w' h
    have ho5 := addrB_ok (cutB l 24 40) (by rw [cutB_length l 24 40 (by omega) (by omega)]; omega)
    obtain ⟨c5, hc5⟩ : ∃ x, (addrB (cutB l 24 40)).cells.toArray = x := ⟨_, rfl⟩
    simp only [hc5] at hk5
    have HKK5 := Lib.hid hk5
    clear hs5 hr5 hk5
    have hs6 : ∀ w' : World, (Instr.sliceAt 22 (.slice (some ⟨b, off, none⟩) n c) (some (.int .i64 4)) (some (.int .i64 6)) none).run Try.prog w' = .ok (.slice (addrOf (some ⟨b, off, none⟩) 4 c) 2 (c - 4)) w' := fun w' => slice_lh (some ⟨b, off, none⟩) n c 4 6 (by omega) (by omega) hnc w'
    have hr6 : Rd w w.heap.size (addrOf (some ⟨b, off, none⟩) 4 c) 2 (cutB l 4 6) := (HK.out.behind 4 c (by omega) hnc).take (by omega)
    generalize addrOf (some ⟨b, off, none⟩) 4 c = A6 at hs6 hr6
    have HS6 := Lib.hid hs6
    have HR6 := Lib.hid hr6
    have hk6 := fun (w' : World) (h : Rd w' w'.heap.size A6 2 (cutB l 4 6)) => refNumber_any A6 (c - 4) (cutB l 4 6) (by omega) w' h
    simp only [twoB_cut l 4 (by omega : 4 + 2 ≤ l.length)] at hk6
    have HKK6 := Lib.hid hk6
    clear hs6 hr6 hk6
    have hb6 := info_built (addrB (cutB l 8 24)) (addrB (cutB l 24 40)) ho4 ho5 (40 + twoB l 4)
    have HO6 := Lib.hid (infoB_ok l true (by omega) (by omega))
    obtain ⟨ci6, hci6⟩ : ∃ x, (infoB l true).cells.toArray = x := ⟨_, rfl⟩
    rw [hc4, hc5, show (InfoM.mk (addrB (cutB l 8 24)) (addrB (cutB l 24 40)) (40 + twoB l 4)).cells.toArray = ci6 from hci6] at hb6
    have HB6 := Lib.hid (And.intro hb6 hci6)
    clear hb6 hci6 hc4 hc5 ho4 ho5
    obtain ⟨t6, ht6⟩ : ∃ t, twoB l 4 = t := ⟨_, rfl⟩
    obtain ⟨q6, hq6⟩ : ∃ t, 40 + t6 = t := ⟨_, rfl⟩
    have hk6' := HKK6.out
    have hb6' := HB6.out.1
    rw [ht6, hq6] at hb6'
    simp only [ht6] at hk6'
    have HKT := Lib.hid hk6'
    have HBT6 := Lib.hid hb6'
    have HW6 := Lib.hid (show IntKind.i64.wrap (q6 : Int) = (q6 : Int) ∧ 40 + (t6 : Int) = (q6 : Int) from by have := twoB_lt l 4; exact ⟨by rw [IntKind.wrap_i64]; omega, by omega⟩)
    clear hk6' hb6' ht6 hq6
    go_cut [5] (fun p wx => ∃ P5, p = .pointer (some ⟨P5, 0, none⟩) ∧ Mem w [blkE P5 31 (infoB l false).cells, blkE w.heap.size 31 info0.cells] wx)
    case first =>
      refine wp_region_held_drew (S := fun W' => Mem w [blkE w.heap.size 31 info0.cells] W') (by kernel_rfl) ((HM.out).drew) (fun hHeld => ?_)
      replace HM := Lib.hid HM.out.drew
      generalize w1.drew = wd1 at HM hHeld ⊢
      refine take_first (v := ?_) 0 rfl (by kernel_rfl) (by kernel_rfl) (by kernel_rfl) (fun _ _ _ h => h) (Or.inl ⟨by rfl, ?_⟩) (by assumption) ?_
      rotate_left
      · (intro w hSw; (try dsimp only at hSw); go_simp; try with_reducible rfl)
      (try simp only [Act.put, List.setIfInBounds_toArray, List.set_cons_zero, List.set_cons_succ])
      refine take_first (v := ?_) 1 rfl (by kernel_rfl) (by kernel_rfl) (by kernel_rfl) (fun _ _ _ h => h) (Or.inl ⟨by rfl, ?_⟩) (by assumption) ?_
      rotate_left
      · (intro w hSw; (try dsimp only at hSw); have s := HS1.out w; go_simp; try with_reducible rfl)
      (try simp only [Act.put, List.setIfInBounds_toArray, List.set_cons_zero, List.set_cons_succ])
      refine take_first (v := ?_) 3 rfl (by kernel_rfl) (by kernel_rfl) (by kernel_rfl) (fun _ _ _ h => h) (Or.inl ⟨by rfl, ?_⟩) (by assumption) ?_
      rotate_left
      · (intro w hSw; (try dsimp only at hSw); go_simp; try with_reducible rfl)
      (try simp only [Act.put, List.setIfInBounds_toArray, List.set_cons_zero, List.set_cons_succ])
      refine take_first (v := ?_) 4 rfl (by kernel_rfl) (by kernel_rfl) (by kernel_rfl) (fun _ _ _ h => h) (Or.inl ⟨by rfl, ?_⟩) (by assumption) ?_
      rotate_left
      · (intro w hSw; (try dsimp only at hSw); have s := HS2.out w; go_simp; try with_reducible rfl)
      (try simp only [Act.put, List.setIfInBounds_toArray, List.set_cons_zero, List.set_cons_succ])
      refine take_first (v := ?_) 6 rfl (by kernel_rfl) (by kernel_rfl) (by kernel_rfl) (fun _ _ _ h => h) (Or.inl ⟨by rfl, ?_⟩) (by assumption) ?_
      rotate_left
      · (intro w hSw; (try dsimp only at hSw); go_simp; try with_reducible rfl)
      (try simp only [Act.put, List.setIfInBounds_toArray, List.set_cons_zero, List.set_cons_succ])
      refine take_first (v := ?_) 7 rfl (by kernel_rfl) (by kernel_rfl) (by kernel_rfl) (fun _ _ _ h => h) (Or.inl ⟨by rfl, ?_⟩) (by assumption) ?_
      rotate_left
      · (intro w hSw; (try dsimp only at hSw); have s := HS3.out w; go_simp; try with_reducible rfl)
      (try simp only [Act.put, List.setIfInBounds_toArray, List.set_cons_zero, List.set_cons_succ])
      refine step_two 2 10 rfl rfl (by kernel_rfl) (fun K hK => ?_) (fun K hK => ?_)
      · clear hHeld
        go_simp
        refine (HKK1.out _ (HM.out.arg HR1.out)).mono ?_
        rintro e wy2 ⟨rfl, hb⟩
        replace HM := Lib.hid (show Mem w [blkE w.heap.size 31 info0.cells] wy2 from HM.out.below hb)
        clear hb
        go_wp2_with fail
        refine hK.out _ _ (HM.out) (fun hHeld => ?_)
        clear hK K
        (try simp only [Act.put, List.setIfInBounds_toArray, List.set_cons_zero, List.set_cons_succ])
        refine step_two 5 10 rfl rfl (by kernel_rfl) (fun K hK => ?_) (fun K hK => ?_)
        · clear hHeld
          go_simp
          refine (HKK2.out _ (HM.out.arg HR2.out)).mono ?_
          rintro e wy3 ⟨rfl, hb⟩
          replace HM := Lib.hid (show Mem w [blkE w.heap.size 31 info0.cells] wy3 from HM.out.below hb)
          clear hb
          go_wp2_with fail
          refine hK.out _ _ (HM.out) (fun hHeld => ?_)
          clear hK K
          (try simp only [Act.put, List.setIfInBounds_toArray, List.set_cons_zero, List.set_cons_succ])
          refine step_two 8 10 rfl rfl (by kernel_rfl) (fun K hK => ?_) (fun K hK => ?_)
          · clear hHeld
            go_simp
            refine (HKK3.out _ (HM.out.arg HR3.out)).mono ?_
            rintro e wy4 ⟨rfl, hb⟩
            replace HM := Lib.hid (show Mem w [blkE w.heap.size 31 info0.cells] wy4 from HM.out.below hb)
            clear hb
            go_wp2_with fail
            refine hK.out _ _ (HM.out) (fun hHeld => ?_)
            clear hK K
            (try simp only [Act.put, List.setIfInBounds_toArray, List.set_cons_zero, List.set_cons_succ])
            refine take_first (v := .agg ci4) 9 rfl (by kernel_rfl) (by kernel_rfl) (by kernel_rfl) (fun _ _ _ h => h) (yields_build_obj (by rfl) 31 [(0, .tmp 41), (1, .tmp 44), (2, .tmp 47)] rfl ci4 HB4.out.1) (by assumption) ?_
            (try simp only [Act.put, List.setIfInBounds_toArray, List.set_cons_zero, List.set_cons_succ])
            refine step_one 10 rfl (by kernel_rfl) (fun K hK => ?_)
            clear hHeld
            go_simp
            replace HM := Lib.hid (show Mem w [blkE wy4.heap.size 31 (info0.cells), blkE w.heap.size 31 info0.cells] (wy4.alloc (.cells #[.bool false, .int .u8 0, .int .u8 0, .int .u8 0, .int .u8 0, .int .u8 0, .int .u8 0, .int .u8 0, .int .u8 0, .int .u8 0, .int .u8 0, .int .u8 0, .int .u8 0, .int .u8 0, .int .u8 0, .int .u8 0, .int .u8 0, .bool false, .int .u8 0, .int .u8 0, .int .u8 0, .int .u8 0, .int .u8 0, .int .u8 0, .int .u8 0, .int .u8 0, .int .u8 0, .int .u8 0, .int .u8 0, .int .u8 0, .int .u8 0, .int .u8 0, .int .u8 0, .int .u8 0, .int .i64 0] 31)) from HM.out.alloc rfl 31 #[.bool false, .int .u8 0, .int .u8 0, .int .u8 0, .int .u8 0, .int .u8 0, .int .u8 0, .int .u8 0, .int .u8 0, .int .u8 0, .int .u8 0, .int .u8 0, .int .u8 0, .int .u8 0, .int .u8 0, .int .u8 0, .int .u8 0, .bool false, .int .u8 0, .int .u8 0, .int .u8 0, .int .u8 0, .int .u8 0, .int .u8 0, .int .u8 0, .int .u8 0, .int .u8 0, .int .u8 0, .int .u8 0, .int .u8 0, .int .u8 0, .int .u8 0, .int .u8 0, .int .u8 0, .int .i64 0] (info0.cells) rfl)
            generalize wy4.alloc (.cells #[.bool false, .int .u8 0, .int .u8 0, .int .u8 0, .int .u8 0, .int .u8 0, .int .u8 0, .int .u8 0, .int .u8 0, .int .u8 0, .int .u8 0, .int .u8 0, .int .u8 0, .int .u8 0, .int .u8 0, .int .u8 0, .int .u8 0, .bool false, .int .u8 0, .int .u8 0, .int .u8 0, .int .u8 0, .int .u8 0, .int .u8 0, .int .u8 0, .int .u8 0, .int .u8 0, .int .u8 0, .int .u8 0, .int .u8 0, .int .u8 0, .int .u8 0, .int .u8 0, .int .u8 0, .int .i64 0] 31) = wy5 at HM ⊢
            generalize wy4.heap.size = P5 at HM ⊢
            refine hK.out _ _ ((HM.out.erase 0)) (fun hHeld => ?_)
            clear hK K
            (try simp only [Act.put, List.setIfInBounds_toArray, List.set_cons_zero, List.set_cons_succ])
            refine step_one 11 rfl (by kernel_rfl) (fun K hK => ?_)
            clear hHeld
            refine step_store_blk _ rfl 31 (.tmp 5) (.tmp 48) rfl P5 (infoB l false).cells rfl (by show Value.agg ci4 = _; rw [HB4.out.2]) 31 info0.cells (HM.out.blk 0 rfl) (info_cellsOf _ HO4.out) (by rw [InfoM.cells_length HO4.out]; rfl) (InfoM.one _) ?_
            intro wy6 hb hg
            replace HM := Lib.hid (show Mem w [blkE P5 31 (infoB l false).cells, blkE w.heap.size 31 info0.cells] wy6 from HM.out.put 0 rfl _ hg hb)
            clear hb hg
            refine hK.out _ _ ((HM.out.erase 0)) (fun hHeld => ?_)
            clear hK K
            (try simp only [Act.put])
            refine wpAnyH_done (by kernel_rfl) ?_ _
            go_wp2_with fail
            go_meet
            exact ⟨P5, rfl, HM.out⟩
          · clear hHeld
            go_simp
            replace HM := Lib.hid (show Mem w [blkE wy3.heap.size 31 (info0.cells), blkE w.heap.size 31 info0.cells] (wy3.alloc (.cells #[.bool false, .int .u8 0, .int .u8 0, .int .u8 0, .int .u8 0, .int .u8 0, .int .u8 0, .int .u8 0, .int .u8 0, .int .u8 0, .int .u8 0, .int .u8 0, .int .u8 0, .int .u8 0, .int .u8 0, .int .u8 0, .int .u8 0, .bool false, .int .u8 0, .int .u8 0, .int .u8 0, .int .u8 0, .int .u8 0, .int .u8 0, .int .u8 0, .int .u8 0, .int .u8 0, .int .u8 0, .int .u8 0, .int .u8 0, .int .u8 0, .int .u8 0, .int .u8 0, .int .u8 0, .int .i64 0] 31)) from HM.out.alloc rfl 31 #[.bool false, .int .u8 0, .int .u8 0, .int .u8 0, .int .u8 0, .int .u8 0, .int .u8 0, .int .u8 0, .int .u8 0, .int .u8 0, .int .u8 0, .int .u8 0, .int .u8 0, .int .u8 0, .int .u8 0, .int .u8 0, .int .u8 0, .bool false, .int .u8 0, .int .u8 0, .int .u8 0, .int .u8 0, .int .u8 0, .int .u8 0, .int .u8 0, .int .u8 0, .int .u8 0, .int .u8 0, .int .u8 0, .int .u8 0, .int .u8 0, .int .u8 0, .int .u8 0, .int .u8 0, .int .i64 0] (info0.cells) rfl)
            generalize wy3.alloc (.cells #[.bool false, .int .u8 0, .int .u8 0, .int .u8 0, .int .u8 0, .int .u8 0, .int .u8 0, .int .u8 0, .int .u8 0, .int .u8 0, .int .u8 0, .int .u8 0, .int .u8 0, .int .u8 0, .int .u8 0, .int .u8 0, .int .u8 0, .bool false, .int .u8 0, .int .u8 0, .int .u8 0, .int .u8 0, .int .u8 0, .int .u8 0, .int .u8 0, .int .u8 0, .int .u8 0, .int .u8 0, .int .u8 0, .int .u8 0, .int .u8 0, .int .u8 0, .int .u8 0, .int .u8 0, .int .i64 0] 31) = wy4 at HM ⊢
            generalize wy3.heap.size = P5 at HM ⊢
            refine hK.out _ _ ((HM.out.erase 0)) (fun hHeld => ?_)
            clear hK K
            (try simp only [Act.put, List.setIfInBounds_toArray, List.set_cons_zero, List.set_cons_succ])
            refine step_one 8 rfl (by kernel_rfl) (fun K hK => ?_)
            clear hHeld
            go_simp
            refine (HKK3.out _ (HM.out.arg HR3.out)).mono ?_
            rintro e wy5 ⟨rfl, hb⟩
            replace HM := Lib.hid (show Mem w [blkE P5 31 (info0.cells), blkE w.heap.size 31 info0.cells] wy5 from HM.out.below hb)
            clear hb
            go_wp2_with fail
            refine hK.out _ _ ((HM.out.erase 0)) (fun hHeld => ?_)
            clear hK K
            (try simp only [Act.put, List.setIfInBounds_toArray, List.set_cons_zero, List.set_cons_succ])
            refine take_first (v := .agg ci4) 9 rfl (by kernel_rfl) (by kernel_rfl) (by kernel_rfl) (fun _ _ _ h => h) (yields_build_obj (by rfl) 31 [(0, .tmp 41), (1, .tmp 44), (2, .tmp 47)] rfl ci4 HB4.out.1) (by assumption) ?_
            (try simp only [Act.put, List.setIfInBounds_toArray, List.set_cons_zero, List.set_cons_succ])
            refine step_one 11 rfl (by kernel_rfl) (fun K hK => ?_)
            clear hHeld
            refine step_store_blk _ rfl 31 (.tmp 5) (.tmp 48) rfl P5 (infoB l false).cells rfl (by show Value.agg ci4 = _; rw [HB4.out.2]) 31 info0.cells (HM.out.blk 0 rfl) (info_cellsOf _ HO4.out) (by rw [InfoM.cells_length HO4.out]; rfl) (InfoM.one _) ?_
            intro wy6 hb hg
            replace HM := Lib.hid (show Mem w [blkE P5 31 (infoB l false).cells, blkE w.heap.size 31 info0.cells] wy6 from HM.out.put 0 rfl _ hg hb)
            clear hb hg
            refine hK.out _ _ ((HM.out.erase 0)) (fun hHeld => ?_)
            clear hK K
            (try simp only [Act.put])
            refine wpAnyH_done (by kernel_rfl) ?_ _
            go_wp2_with fail
            go_meet
            exact ⟨P5, rfl, HM.out⟩
        · clear hHeld
          go_simp
          replace HM := Lib.hid (show Mem w [blkE wy2.heap.size 31 (info0.cells), blkE w.heap.size 31 info0.cells] (wy2.alloc (.cells #[.bool false, .int .u8 0, .int .u8 0, .int .u8 0, .int .u8 0, .int .u8 0, .int .u8 0, .int .u8 0, .int .u8 0, .int .u8 0, .int .u8 0, .int .u8 0, .int .u8 0, .int .u8 0, .int .u8 0, .int .u8 0, .int .u8 0, .bool false, .int .u8 0, .int .u8 0, .int .u8 0, .int .u8 0, .int .u8 0, .int .u8 0, .int .u8 0, .int .u8 0, .int .u8 0, .int .u8 0, .int .u8 0, .int .u8 0, .int .u8 0, .int .u8 0, .int .u8 0, .int .u8 0, .int .i64 0] 31)) from HM.out.alloc rfl 31 #[.bool false, .int .u8 0, .int .u8 0, .int .u8 0, .int .u8 0, .int .u8 0, .int .u8 0, .int .u8 0, .int .u8 0, .int .u8 0, .int .u8 0, .int .u8 0, .int .u8 0, .int .u8 0, .int .u8 0, .int .u8 0, .int .u8 0, .bool false, .int .u8 0, .int .u8 0, .int .u8 0, .int .u8 0, .int .u8 0, .int .u8 0, .int .u8 0, .int .u8 0, .int .u8 0, .int .u8 0, .int .u8 0, .int .u8 0, .int .u8 0, .int .u8 0, .int .u8 0, .int .u8 0, .int .i64 0] (info0.cells) rfl)
          generalize wy2.alloc (.cells #[.bool false, .int .u8 0, .int .u8 0, .int .u8 0, .int .u8 0, .int .u8 0, .int .u8 0, .int .u8 0, .int .u8 0, .int .u8 0, .int .u8 0, .int .u8 0, .int .u8 0, .int .u8 0, .int .u8 0, .int .u8 0, .int .u8 0, .bool false, .int .u8 0, .int .u8 0, .int .u8 0, .int .u8 0, .int .u8 0, .int .u8 0, .int .u8 0, .int .u8 0, .int .u8 0, .int .u8 0, .int .u8 0, .int .u8 0, .int .u8 0, .int .u8 0, .int .u8 0, .int .u8 0, .int .i64 0] 31) = wy3 at HM ⊢
          generalize wy2.heap.size = P5 at HM ⊢
          refine hK.out _ _ ((HM.out.erase 0)) (fun hHeld => ?_)
          clear hK K
          (try simp only [Act.put, List.setIfInBounds_toArray, List.set_cons_zero, List.set_cons_succ])
          refine step_one 5 rfl (by kernel_rfl) (fun K hK => ?_)
          clear hHeld
          go_simp
          refine (HKK2.out _ (HM.out.arg HR2.out)).mono ?_
          rintro e wy4 ⟨rfl, hb⟩
          replace HM := Lib.hid (show Mem w [blkE P5 31 (info0.cells), blkE w.heap.size 31 info0.cells] wy4 from HM.out.below hb)
          clear hb
          go_wp2_with fail
          refine hK.out _ _ ((HM.out.erase 0)) (fun hHeld => ?_)
          clear hK K
          (try simp only [Act.put, List.setIfInBounds_toArray, List.set_cons_zero, List.set_cons_succ])
          refine step_one 8 rfl (by kernel_rfl) (fun K hK => ?_)
          clear hHeld
          go_simp
          refine (HKK3.out _ (HM.out.arg HR3.out)).mono ?_
          rintro e wy5 ⟨rfl, hb⟩
          replace HM := Lib.hid (show Mem w [blkE P5 31 (info0.cells), blkE w.heap.size 31 info0.cells] wy5 from HM.out.below hb)
          clear hb
          go_wp2_with fail
          refine hK.out _ _ ((HM.out.erase 0)) (fun hHeld => ?_)
          clear hK K
          (try simp only [Act.put, List.setIfInBounds_toArray, List.set_cons_zero, List.set_cons_succ])
          refine take_first (v := .agg ci4) 9 rfl (by kernel_rfl) (by kernel_rfl) (by kernel_rfl) (fun _ _ _ h => h) (yields_build_obj (by rfl) 31 [(0, .tmp 41), (1, .tmp 44), (2, .tmp 47)] rfl ci4 HB4.out.1) (by assumption) ?_
          (try simp only [Act.put, List.setIfInBounds_toArray, List.set_cons_zero, List.set_cons_succ])
          refine step_one 11 rfl (by kernel_rfl) (fun K hK => ?_)
          clear hHeld
          refine step_store_blk _ rfl 31 (.tmp 5) (.tmp 48) rfl P5 (infoB l false).cells rfl (by show Value.agg ci4 = _; rw [HB4.out.2]) 31 info0.cells (HM.out.blk 0 rfl) (info_cellsOf _ HO4.out) (by rw [InfoM.cells_length HO4.out]; rfl) (InfoM.one _) ?_
          intro wy6 hb hg
          replace HM := Lib.hid (show Mem w [blkE P5 31 (infoB l false).cells, blkE w.heap.size 31 info0.cells] wy6 from HM.out.put 0 rfl _ hg hb)
          clear hb hg
          refine hK.out _ _ ((HM.out.erase 0)) (fun hHeld => ?_)
          clear hK K
          (try simp only [Act.put])
          refine wpAnyH_done (by kernel_rfl) ?_ _
          go_wp2_with fail
          go_meet
          exact ⟨P5, rfl, HM.out⟩
      · clear hHeld
        go_simp
        replace HM := Lib.hid (show Mem w [blkE wd1.heap.size 31 (info0.cells), blkE w.heap.size 31 info0.cells] (wd1.alloc (.cells #[.bool false, .int .u8 0, .int .u8 0, .int .u8 0, .int .u8 0, .int .u8 0, .int .u8 0, .int .u8 0, .int .u8 0, .int .u8 0, .int .u8 0, .int .u8 0, .int .u8 0, .int .u8 0, .int .u8 0, .int .u8 0, .int .u8 0, .bool false, .int .u8 0, .int .u8 0, .int .u8 0, .int .u8 0, .int .u8 0, .int .u8 0, .int .u8 0, .int .u8 0, .int .u8 0, .int .u8 0, .int .u8 0, .int .u8 0, .int .u8 0, .int .u8 0, .int .u8 0, .int .u8 0, .int .i64 0] 31)) from HM.out.alloc rfl 31 #[.bool false, .int .u8 0, .int .u8 0, .int .u8 0, .int .u8 0, .int .u8 0, .int .u8 0, .int .u8 0, .int .u8 0, .int .u8 0, .int .u8 0, .int .u8 0, .int .u8 0, .int .u8 0, .int .u8 0, .int .u8 0, .int .u8 0, .bool false, .int .u8 0, .int .u8 0, .int .u8 0, .int .u8 0, .int .u8 0, .int .u8 0, .int .u8 0, .int .u8 0, .int .u8 0, .int .u8 0, .int .u8 0, .int .u8 0, .int .u8 0, .int .u8 0, .int .u8 0, .int .u8 0, .int .i64 0] (info0.cells) rfl)
        generalize wd1.alloc (.cells #[.bool false, .int .u8 0, .int .u8 0, .int .u8 0, .int .u8 0, .int .u8 0, .int .u8 0, .int .u8 0, .int .u8 0, .int .u8 0, .int .u8 0, .int .u8 0, .int .u8 0, .int .u8 0, .int .u8 0, .int .u8 0, .int .u8 0, .bool false, .int .u8 0, .int .u8 0, .int .u8 0, .int .u8 0, .int .u8 0, .int .u8 0, .int .u8 0, .int .u8 0, .int .u8 0, .int .u8 0, .int .u8 0, .int .u8 0, .int .u8 0, .int .u8 0, .int .u8 0, .int .u8 0, .int .i64 0] 31) = wy2 at HM ⊢
        generalize wd1.heap.size = P5 at HM ⊢
        refine hK.out _ _ ((HM.out.erase 0)) (fun hHeld => ?_)
        clear hK K
        (try simp only [Act.put, List.setIfInBounds_toArray, List.set_cons_zero, List.set_cons_succ])
        refine step_one 2 rfl (by kernel_rfl) (fun K hK => ?_)
        clear hHeld
        go_simp
        refine (HKK1.out _ (HM.out.arg HR1.out)).mono ?_
        rintro e wy3 ⟨rfl, hb⟩
        replace HM := Lib.hid (show Mem w [blkE P5 31 (info0.cells), blkE w.heap.size 31 info0.cells] wy3 from HM.out.below hb)
        clear hb
        go_wp2_with fail
        refine hK.out _ _ ((HM.out.erase 0)) (fun hHeld => ?_)
        clear hK K
        (try simp only [Act.put, List.setIfInBounds_toArray, List.set_cons_zero, List.set_cons_succ])
        refine step_one 5 rfl (by kernel_rfl) (fun K hK => ?_)
        clear hHeld
        go_simp
        refine (HKK2.out _ (HM.out.arg HR2.out)).mono ?_
        rintro e wy4 ⟨rfl, hb⟩
        replace HM := Lib.hid (show Mem w [blkE P5 31 (info0.cells), blkE w.heap.size 31 info0.cells] wy4 from HM.out.below hb)
        clear hb
        go_wp2_with fail
        refine hK.out _ _ ((HM.out.erase 0)) (fun hHeld => ?_)
        clear hK K
        (try simp only [Act.put, List.setIfInBounds_toArray, List.set_cons_zero, List.set_cons_succ])
        refine step_one 8 rfl (by kernel_rfl) (fun K hK => ?_)
        clear hHeld
        go_simp
        refine (HKK3.out _ (HM.out.arg HR3.out)).mono ?_
        rintro e wy5 ⟨rfl, hb⟩
        replace HM := Lib.hid (show Mem w [blkE P5 31 (info0.cells), blkE w.heap.size 31 info0.cells] wy5 from HM.out.below hb)
        clear hb
        go_wp2_with fail
        refine hK.out _ _ ((HM.out.erase 0)) (fun hHeld => ?_)
        clear hK K
        (try simp only [Act.put, List.setIfInBounds_toArray, List.set_cons_zero, List.set_cons_succ])
        refine take_first (v := .agg ci4) 9 rfl (by kernel_rfl) (by kernel_rfl) (by kernel_rfl) (fun _ _ _ h => h) (yields_build_obj (by rfl) 31 [(0, .tmp 41), (1, .tmp 44), (2, .tmp 47)] rfl ci4 HB4.out.1) (by assumption) ?_
        (try simp only [Act.put, List.setIfInBounds_toArray, List.set_cons_zero, List.set_cons_succ])
        refine step_one 11 rfl (by kernel_rfl) (fun K hK => ?_)
        clear hHeld
        refine step_store_blk _ rfl 31 (.tmp 5) (.tmp 48) rfl P5 (infoB l false).cells rfl (by show Value.agg ci4 = _; rw [HB4.out.2]) 31 info0.cells (HM.out.blk 0 rfl) (info_cellsOf _ HO4.out) (by rw [InfoM.cells_length HO4.out]; rfl) (InfoM.one _) ?_
        intro wy6 hb hg
        replace HM := Lib.hid (show Mem w [blkE P5 31 (infoB l false).cells, blkE w.heap.size 31 info0.cells] wy6 from HM.out.put 0 rfl _ hg hb)
        clear hb hg
        refine hK.out _ _ ((HM.out.erase 0)) (fun hHeld => ?_)
        clear hK K
        (try simp only [Act.put])
        refine wpAnyH_done (by kernel_rfl) ?_ _
        go_wp2_with fail
        go_meet
        exact ⟨P5, rfl, HM.out⟩
    case rest =>
      clear HM
      revert wc
      intro w7 hcut
      obtain ⟨P5, rfl, hcut⟩ := hcut
      have HM := Lib.hid hcut
      clear hcut
      go_upto_region 12 with fail
      refine wp_region_held_drew (S := fun W' => Mem w [blkE w.heap.size 31 info0.cells] W') (by kernel_rfl) (((HM.out.erase 0)).drew) (fun hHeld => ?_)
      replace HM := Lib.hid HM.out.drew
      generalize w7.drew = wd1 at HM hHeld ⊢
      refine take_first (v := ?_) 0 rfl (by kernel_rfl) (by kernel_rfl) (by kernel_rfl) (fun _ _ _ h => h) (Or.inl ⟨by rfl, ?_⟩) (by assumption) ?_
      rotate_left
      · (intro w hSw; (try dsimp only at hSw); go_simp; try with_reducible rfl)
      (try simp only [Act.put, List.setIfInBounds_toArray, List.set_cons_zero, List.set_cons_succ])
      refine take_first (v := ?_) 1 rfl (by kernel_rfl) (by kernel_rfl) (by kernel_rfl) (fun _ _ _ h => h) (Or.inl ⟨by rfl, ?_⟩) (by assumption) ?_
      rotate_left
      · (intro w hSw; (try dsimp only at hSw); have s := HS4.out w; go_simp; try with_reducible rfl)
      (try simp only [Act.put, List.setIfInBounds_toArray, List.set_cons_zero, List.set_cons_succ])
      refine take_first (v := ?_) 3 rfl (by kernel_rfl) (by kernel_rfl) (by kernel_rfl) (fun _ _ _ h => h) (Or.inl ⟨by rfl, ?_⟩) (by assumption) ?_
      rotate_left
      · (intro w hSw; (try dsimp only at hSw); go_simp; try with_reducible rfl)
      (try simp only [Act.put, List.setIfInBounds_toArray, List.set_cons_zero, List.set_cons_succ])
      refine take_first (v := ?_) 4 rfl (by kernel_rfl) (by kernel_rfl) (by kernel_rfl) (fun _ _ _ h => h) (Or.inl ⟨by rfl, ?_⟩) (by assumption) ?_
      rotate_left
      · (intro w hSw; (try dsimp only at hSw); have s := HS5.out w; go_simp; try with_reducible rfl)
      (try simp only [Act.put, List.setIfInBounds_toArray, List.set_cons_zero, List.set_cons_succ])
      refine take_first (v := ?_) 6 rfl (by kernel_rfl) (by kernel_rfl) (by kernel_rfl) (fun _ _ _ h => h) (Or.inl ⟨by rfl, ?_⟩) (by assumption) ?_
      rotate_left
      · (intro w hSw; (try dsimp only at hSw); go_simp; try with_reducible rfl)
      (try simp only [Act.put, List.setIfInBounds_toArray, List.set_cons_zero, List.set_cons_succ])
      refine take_first (v := ?_) 7 rfl (by kernel_rfl) (by kernel_rfl) (by kernel_rfl) (fun _ _ _ h => h) (Or.inl ⟨by rfl, ?_⟩) (by assumption) ?_
      rotate_left
      · (intro w hSw; (try dsimp only at hSw); have s := HS6.out w; go_simp; try with_reducible rfl)
      (try simp only [Act.put, List.setIfInBounds_toArray, List.set_cons_zero, List.set_cons_succ])
      refine step_one 2 rfl (by kernel_rfl) (fun K hK => ?_)
      clear hHeld
      go_simp
      refine (HKK4.out _ (HM.out.arg HR4.out)).mono ?_
      rintro e wy2 ⟨rfl, hb⟩
      replace HM := Lib.hid (show Mem w [blkE P5 31 (infoB l false).cells, blkE w.heap.size 31 info0.cells] wy2 from HM.out.below hb)
      clear hb
      go_wp2_with fail
      refine hK.out _ _ ((HM.out.erase 0)) (fun hHeld => ?_)
      clear hK K
      (try simp only [Act.put, List.setIfInBounds_toArray, List.set_cons_zero, List.set_cons_succ])
      refine step_one 5 rfl (by kernel_rfl) (fun K hK => ?_)
      clear hHeld
      go_simp
      refine (HKK5.out _ (HM.out.arg HR5.out)).mono ?_
      rintro e wy3 ⟨rfl, hb⟩
      replace HM := Lib.hid (show Mem w [blkE P5 31 (infoB l false).cells, blkE w.heap.size 31 info0.cells] wy3 from HM.out.below hb)
      clear hb
      go_wp2_with fail
      refine hK.out _ _ ((HM.out.erase 0)) (fun hHeld => ?_)
      clear hK K
      (try simp only [Act.put, List.setIfInBounds_toArray, List.set_cons_zero, List.set_cons_succ])
      refine step_one 8 rfl (by kernel_rfl) (fun K hK => ?_)
      clear hHeld
      go_simp
      refine (HKT.out _ (HM.out.arg HR6.out)).mono ?_
      rintro e wy4 ⟨rfl, hb⟩
      replace HM := Lib.hid (show Mem w [blkE P5 31 (infoB l false).cells, blkE w.heap.size 31 info0.cells] wy4 from HM.out.below hb)
      clear hb
      go_wp2_with fail
      refine hK.out _ _ ((HM.out.erase 0)) (fun hHeld => ?_)
      clear hK K
      (try simp only [Act.put, List.setIfInBounds_toArray, List.set_cons_zero, List.set_cons_succ])
      refine take_first (v := ?_) 9 rfl (by kernel_rfl) (by kernel_rfl) (by kernel_rfl) (fun _ _ _ h => h) (Or.inl ⟨by rfl, ?_⟩) (by assumption) ?_
      rotate_left
      · (intro w hSw; (try dsimp only at hSw); have e1 := HW6.out.1; have e2 := HW6.out.2; go_simp; try with_reducible rfl)
      (try simp only [Act.put, List.setIfInBounds_toArray, List.set_cons_zero, List.set_cons_succ])
      refine take_first (v := .agg ci6) 10 rfl (by kernel_rfl) (by kernel_rfl) (by kernel_rfl) (fun _ _ _ h => h) (yields_build_obj (by rfl) 31 [(0, .tmp 53), (1, .tmp 56), (2, .tmp 60)] rfl ci6 HBT6.out) (by assumption) ?_
      (try simp only [Act.put, List.setIfInBounds_toArray, List.set_cons_zero, List.set_cons_succ])
      refine step_one 11 rfl (by kernel_rfl) (fun K hK => ?_)
      clear hHeld
      refine step_store_blk _ rfl 31 (.tmp 5) (.tmp 61) rfl P5 (infoB l true).cells rfl (by show Value.agg ci6 = _; rw [HB6.out.2]) 31 (infoB l false).cells (HM.out.blk 0 rfl) (info_cellsOf _ HO6.out) (by rw [InfoM.cells_length HO6.out, InfoM.cells_length HO4.out]) (InfoM.one _) ?_
      intro wy5 hb hg
      replace HM := Lib.hid (show Mem w [blkE P5 31 (infoB l true).cells, blkE w.heap.size 31 info0.cells] wy5 from HM.out.put 0 rfl _ hg hb)
      clear hb hg
      refine hK.out _ _ ((HM.out.erase 0)) (fun hHeld => ?_)
      clear hK K
      (try simp only [Act.put])
      refine wpAnyH_done (by kernel_rfl) ?_ _
      clear hHeld
      have HM2 := HM
      clear HM
      revert wy5
      intro w7 HM
      have fl := ((HM.out.blk 0 rfl).cell 34).trans (InfoM.len_cell (infoB l true) HO6.out)
      obtain ⟨q, hq⟩ : ∃ q, 40 + twoB l 4 = q := ⟨_, rfl⟩
      rw [show (infoB l true).len = q from hq] at fl
      have hql : q ≤ 66000 := by rw [← hq]; have := twoB_lt l 4; omega
      have HQ := Lib.hid hq
      clear hq
      have fx := (HM.out.arg HK.out).byt 0 (by omega)
      rw [Nat.add_zero] at fx
      rw [hX] at fx
      have hand := HHI.out
      have hwh : IntKind.i64.wrap (hh : Int) = (hh : Int) := by rw [IntKind.wrap_i64]; omega
      go_upto_region 14 with fail
      clear fx hand hwh
      go_upto_region 16 with fail
      by_cases h6 : n < q
      · have t7 : decide ((q : Int) > (n : Int)) = true := by simp; omega
        have HE := Lib.hid (show checkB l = (info0, 2) from by rw [checkB_six l cz0 cz1 hv, if_neg (by omega), if_pos (by rw [HQ.out, hl]; exact h6)])
        go_wp2_with (refine wpList_store_blk rfl 31 (.tmp 2) (.tmp 86) rfl w.heap.size info0.cells rfl rfl 31 info0.cells (HM.out.blk 1 rfl) HIL.out rfl (InfoM.one _) ?_; intro w9 hb9 hg9)
        exact bodyPost_ret (results_obj_tmp rfl _ _ w.heap.size 31 info0.cells _ rfl hb9 Try.underlying31 rfl HIL.out) rfl ⟨by rw [HE.out]; rfl, (HM.out.put 1 rfl _ hg9 hb9).bel⟩
      have t7 : decide ((q : Int) > (n : Int)) = false := by simp; omega
      go_upto_region 18 with fail
      clear t7
      by_cases h7 : 2000 < q
      · have t8 : decide ((q : Int) > 2000) = true := by simp; omega
        have HE := Lib.hid (show checkB l = (info0, 3) from by rw [checkB_six l cz0 cz1 hv, if_neg (by omega), if_neg (by rw [HQ.out, hl]; exact h6), if_pos (by rw [HQ.out]; exact h7)])
        go_wp2_with (refine wpList_store_blk rfl 31 (.tmp 2) (.tmp 90) rfl w.heap.size info0.cells rfl rfl 31 info0.cells (HM.out.blk 1 rfl) HIL.out rfl (InfoM.one _) ?_; intro w9 hb9 hg9)
        exact bodyPost_ret (results_obj_tmp rfl _ _ w.heap.size 31 info0.cells _ rfl hb9 Try.underlying31 rfl HIL.out) rfl ⟨by rw [HE.out]; rfl, (HM.out.put 1 rfl _ hg9 hb9).bel⟩
      have t8 : decide ((q : Int) > 2000) = false := by simp; omega
      have HE := Lib.hid (show checkB l = (infoB l true, 0) from by rw [checkB_six l cz0 cz1 hv, if_neg (by omega), if_neg (by rw [HQ.out, hl]; exact h6), if_neg (by rw [HQ.out]; exact h7)])
      go_wp2_with (first | (refine wpList_load_obj rfl 31 (.tmp 5) rfl P5 0 rfl (infoB l true).cells (HM.out.blk 0 rfl).all _ Try.underlying31 rfl (info_cellsOf _ HO6.out) ?_; rw [HB6.out.2]) | (refine wpList_store_blk rfl 31 (.tmp 2) (.tmp 91) rfl w.heap.size (infoB l true).cells rfl (by show Value.agg ci6 = _; rw [HB6.out.2]) 31 info0.cells (HM.out.blk 1 rfl) (info_cellsOf _ HO6.out) (by rw [InfoM.cells_length HO6.out]; rfl) (InfoM.one _) ?_; intro w9 hb9 hg9))
      exact bodyPost_ret (results_obj_tmp rfl _ _ w.heap.size 31 (infoB l true).cells _ rfl hb9 Try.underlying31 rfl (info_cellsOf _ HO6.out)) rfl ⟨by rw [HE.out]; rfl, (HM.out.put 1 rfl _ hg9 hb9).bel⟩
  obtain ⟨V, hV⟩ : ∃ v, X.toNat / 16 = v := ⟨_, rfl⟩
  have hVi : (X.toNat : Int) / 16 = (V : Int) := by omega
  have n4 : ((V : Int) != 4) = true := by simp; omega
  have n6 : ((V : Int) != 6) = true := by simp; omega
  have HE := Lib.hid (show checkB l = (info0, 4) from by exact checkB_type l cz0 cz1 (by rw [hX]; exact v4) (by rw [hX]; exact v6))
  go_wp2_with (refine wpList_store_blk rfl 31 (.tmp 2) (.tmp 25) rfl w.heap.size info0.cells rfl rfl 31 info0.cells (HM.out.blk 0 rfl) HIL.out rfl (InfoM.one _) ?_; intro w9 hb9 hg9)
  exact bodyPost_ret (results_obj_tmp rfl _ _ w.heap.size 31 info0.cells _ rfl hb9 Try.underlying31 rfl HIL.out) rfl ⟨by rw [HE.out]; rfl, (HM.out.put 0 rfl _ hg9 hb9).bel⟩

end Go.Proofs.Ytdpdalkeafkhkaa
