/-
  All decoders of the program return what those of the reference return. No statement is proved here.
-/
import Derived.Test.YtaolhndbpgjlcaaMsUse
import Derived.Test.YtaolhndbpgjlcaaMsSame
import Derived.Test.YtaolhndbpgjlcaaMsDec
import Derived.Test.YtaolhndbpgjlcaaMsDecT
namespace Go.Proofs.Ytaolhndbpgjlcaa
open Go.RowKit

set_option maxRecDepth 100000 in
set_option maxHeartbeats 16000000 in
theorem decodes_any (HKP0 : MsKindC 22) (HD10 : MsDecC 17 1) (HD20 : MsDecC 18 2) (HD30 : MsDecC 19 3) (HDT0 : MsDecTC 20) (A : Option Addr) (n c : Nat) (l : List UInt8) (hnc : n ≤ c) (hcm : c ≤ maxLen) (hn : n ≤ 100000) (w : World) (hr : Rd w w.heap.size A n l) :
    Calls Try.prog 16 #[.slice A n c] w fun e w' => e = .returned (.bool true) ∧ Below w.heap.size w w' := by
  have HM := Lib.hid (show Lows w [rdL A n l] w from (Lows.nil w).cons (rdL A n l) hr)
  have HKP := Lib.hid (HKP0 A n c l hnc hcm hn)
  have HKR := Lib.hid (refKind_any A n c l hnc hcm hn)
  have HDT := Lib.hid (HDT0 A n c l hnc hcm hn)
  have HRT := Lib.hid (refDecT A n c l hnc hcm hn)
  have hk4 := kindB_le l
  generalize kindB l = kd at HKP HKR hk4
  generalize decT l = dt at HDT HRT
  obtain ⟨tt, te⟩ := dt
  dsimp only at HDT HRT
  have HD1 := Lib.hid (HD10 A n c l hnc hcm hn)
  have HR1 := Lib.hid (refDec1 A n c l hnc hcm hn)
  have hok1 := decB_ok (k := 1) (by omega) l
  generalize decB 1 l = d1 at HD1 HR1 hok1
  obtain ⟨m1, e1⟩ := d1
  dsimp only at HD1 HR1 hok1
  have HS1 := Lib.hid (msg_same1 m1 hok1.1)
  obtain ⟨cm1, hc1⟩ : ∃ z, m1.cells.toArray = z := ⟨_, rfl⟩
  rw [hc1] at HD1 HR1 HS1
  have HC1 := Lib.hid hc1
  have HL1 := Lib.hid (MsgM.cells_length hok1.1)
  have HU1 := Lib.hid (show (Try.prog.info? 30).map (·.size) = some m1.cells.length from by rw [HL1.out]; kernel_rfl)
  clear hc1 hok1 HD10
  have HD2 := Lib.hid (HD20 A n c l hnc hcm hn)
  have HR2 := Lib.hid (refDec2 A n c l hnc hcm hn)
  have hok2 := decB_ok (k := 2) (by omega) l
  generalize decB 2 l = d2 at HD2 HR2 hok2
  obtain ⟨m2, e2⟩ := d2
  dsimp only at HD2 HR2 hok2
  have HS2 := Lib.hid (msg_same2 m2 hok2.1)
  obtain ⟨cm2, hc2⟩ : ∃ z, m2.cells.toArray = z := ⟨_, rfl⟩
  rw [hc2] at HD2 HR2 HS2
  have HC2 := Lib.hid hc2
  have HL2 := Lib.hid (MsgM.cells_length hok2.1)
  have HU2 := Lib.hid (show (Try.prog.info? 32).map (·.size) = some m2.cells.length from by rw [HL2.out]; kernel_rfl)
  clear hc2 hok2 HD20
  have HD3 := Lib.hid (HD30 A n c l hnc hcm hn)
  have HR3 := Lib.hid (refDec3 A n c l hnc hcm hn)
  have hok3 := decB_ok (k := 3) (by omega) l
  generalize decB 3 l = d3 at HD3 HR3 hok3
  obtain ⟨m3, e3⟩ := d3
  dsimp only at HD3 HR3 hok3
  have HS3 := Lib.hid (msg_same3 m3 hok3.1)
  obtain ⟨cm3, hc3⟩ : ∃ z, m3.cells.toArray = z := ⟨_, rfl⟩
  rw [hc3] at HD3 HR3 HS3
  have HC3 := Lib.hid hc3
  have HL3 := Lib.hid (MsgM.cells_length hok3.1)
  have HU3 := Lib.hid (show (Try.prog.info? 36).map (·.size) = some m3.cells.length from by rw [HL3.out]; kernel_rfl)
  clear hc3 hok3 HD30
  clear hr HKP0 HDT0 hnc hcm hn hk4
  go_enter Try.func16, Try.ntmps16
  go_upto_region 1 with fail
  go_wp2_with fail
  refine (HD1.out _ (HM.out.rd 0 rfl)).mono ?_
  rintro e wi1 ⟨rfl, hb⟩
  replace HM := Lib.hid (HM.out.below hb)
  clear hb
  have hA : Blk (wi1.alloc (.cells zc1 30)) wi1.heap.size 30 (msg0 1).cells := by
    have h := Blk.new wi1 30 (msg0 1).cells
    rw [show (msg0 1).cells.toArray = zc1 by kernel_rfl] at h
    exact h
  go_upto_region 2 with (refine wpList_store_blk rfl 30 (.tmp 3) (.tmp 22) rfl wi1.heap.size m1.cells rfl (by show Value.agg cm1 = _; rw [HC1.out]) 30 (msg0 1).cells hA HU1.out (by rw [HL1.out]; rfl) (MsgM.one _) ?_; intro wj1 hb hg)
  have hm9 := HM.out.stored (arr := zc1) hg hb
  generalize wi1.heap.size = P1 at hm9 ⊢
  replace HM := Lib.hid (show Lows w [blkL P1 30 m1.cells, rdL A n l] wj1 from hm9)
  clear hA hb hg hm9
  go_wp2_with fail
  refine (HR1.out _ (HM.out.rd 1 rfl)).mono ?_
  rintro e wi2 ⟨rfl, hb⟩
  replace HM := Lib.hid (HM.out.below hb)
  clear hb
  have hA : Blk (wi2.alloc (.cells zc1 30)) wi2.heap.size 30 (msg0 1).cells := by
    have h := Blk.new wi2 30 (msg0 1).cells
    rw [show (msg0 1).cells.toArray = zc1 by kernel_rfl] at h
    exact h
  go_upto_region 3 with (refine wpList_store_blk rfl 30 (.tmp 5) (.tmp 27) rfl wi2.heap.size m1.cells rfl (by show Value.agg cm1 = _; rw [HC1.out]) 30 (msg0 1).cells hA HU1.out (by rw [HL1.out]; rfl) (MsgM.one _) ?_; intro wj2 hb hg)
  have hm9 := HM.out.stored (arr := zc1) hg hb
  generalize wi2.heap.size = Q1 at hm9 ⊢
  replace HM := Lib.hid (show Lows w [blkL Q1 30 m1.cells, blkL P1 30 m1.cells, rdL A n l] wj2 from hm9)
  clear hA hb hg hm9
  go_wp2_with fail
  refine (HD2.out _ (HM.out.rd 2 rfl)).mono ?_
  rintro e wi3 ⟨rfl, hb⟩
  replace HM := Lib.hid (HM.out.below hb)
  clear hb
  have hA : Blk (wi3.alloc (.cells zc2 32)) wi3.heap.size 32 (msg0 2).cells := by
    have h := Blk.new wi3 32 (msg0 2).cells
    rw [show (msg0 2).cells.toArray = zc2 by kernel_rfl] at h
    exact h
  go_upto_region 4 with (refine wpList_store_blk rfl 32 (.tmp 7) (.tmp 32) rfl wi3.heap.size m2.cells rfl (by show Value.agg cm2 = _; rw [HC2.out]) 32 (msg0 2).cells hA HU2.out (by rw [HL2.out]; rfl) (MsgM.one _) ?_; intro wj3 hb hg)
  have hm9 := HM.out.stored (arr := zc2) hg hb
  generalize wi3.heap.size = P2 at hm9 ⊢
  replace HM := Lib.hid (show Lows w [blkL P2 32 m2.cells, blkL Q1 30 m1.cells, blkL P1 30 m1.cells, rdL A n l] wj3 from hm9)
  clear hA hb hg hm9
  go_wp2_with fail
  refine (HR2.out _ (HM.out.rd 3 rfl)).mono ?_
  rintro e wi4 ⟨rfl, hb⟩
  replace HM := Lib.hid (HM.out.below hb)
  clear hb
  have hA : Blk (wi4.alloc (.cells zc2 32)) wi4.heap.size 32 (msg0 2).cells := by
    have h := Blk.new wi4 32 (msg0 2).cells
    rw [show (msg0 2).cells.toArray = zc2 by kernel_rfl] at h
    exact h
  go_upto_region 5 with (refine wpList_store_blk rfl 32 (.tmp 9) (.tmp 37) rfl wi4.heap.size m2.cells rfl (by show Value.agg cm2 = _; rw [HC2.out]) 32 (msg0 2).cells hA HU2.out (by rw [HL2.out]; rfl) (MsgM.one _) ?_; intro wj4 hb hg)
  have hm9 := HM.out.stored (arr := zc2) hg hb
  generalize wi4.heap.size = Q2 at hm9 ⊢
  replace HM := Lib.hid (show Lows w [blkL Q2 32 m2.cells, blkL P2 32 m2.cells, blkL Q1 30 m1.cells, blkL P1 30 m1.cells, rdL A n l] wj4 from hm9)
  clear hA hb hg hm9
  go_wp2_with fail
  refine (HD3.out _ (HM.out.rd 4 rfl)).mono ?_
  rintro e wi5 ⟨rfl, hb⟩
  replace HM := Lib.hid (HM.out.below hb)
  clear hb
  have hA : Blk (wi5.alloc (.cells #[.int .u32 0, .int .u8 0, .int .u8 0, .int .u8 0, .int .u8 0, .int .u8 0, .int .u8 0, .int .u8 0, .int .u8 0, .int .u8 0, .int .u8 0, .int .u8 0, .int .u8 0, .int .u8 0, .int .u8 0, .int .u8 0, .int .u8 0, .int .u8 0, .int .u8 0, .int .u8 0, .int .u8 0, .int .u8 0, .int .u8 0, .int .u8 0, .int .u8 0, .int .u8 0, .int .u8 0, .int .u8 0, .int .u8 0, .int .u8 0, .int .u8 0, .int .u8 0, .int .u8 0, .int .u8 0, .int .u8 0, .int .u8 0, .int .u8 0, .int .u8 0, .int .u8 0, .int .u8 0, .int .u8 0, .int .u8 0, .int .u8 0, .int .u8 0, .int .u8 0, .int .u8 0, .int .u8 0, .int .u8 0, .int .u8 0, .int .u8 0, .int .u8 0, .int .u8 0, .int .u8 0, .int .u8 0, .int .u8 0, .int .u8 0, .int .u8 0] 36)) wi5.heap.size 36 (msg0 3).cells := by
    have h := Blk.new wi5 36 (msg0 3).cells
    rw [show (msg0 3).cells.toArray = #[.int .u32 0, .int .u8 0, .int .u8 0, .int .u8 0, .int .u8 0, .int .u8 0, .int .u8 0, .int .u8 0, .int .u8 0, .int .u8 0, .int .u8 0, .int .u8 0, .int .u8 0, .int .u8 0, .int .u8 0, .int .u8 0, .int .u8 0, .int .u8 0, .int .u8 0, .int .u8 0, .int .u8 0, .int .u8 0, .int .u8 0, .int .u8 0, .int .u8 0, .int .u8 0, .int .u8 0, .int .u8 0, .int .u8 0, .int .u8 0, .int .u8 0, .int .u8 0, .int .u8 0, .int .u8 0, .int .u8 0, .int .u8 0, .int .u8 0, .int .u8 0, .int .u8 0, .int .u8 0, .int .u8 0, .int .u8 0, .int .u8 0, .int .u8 0, .int .u8 0, .int .u8 0, .int .u8 0, .int .u8 0, .int .u8 0, .int .u8 0, .int .u8 0, .int .u8 0, .int .u8 0, .int .u8 0, .int .u8 0, .int .u8 0, .int .u8 0] by kernel_rfl] at h
    exact h
  go_upto_region 6 with (refine wpList_store_blk rfl 36 (.tmp 11) (.tmp 42) rfl wi5.heap.size m3.cells rfl (by show Value.agg cm3 = _; rw [HC3.out]) 36 (msg0 3).cells hA HU3.out (by rw [HL3.out]; rfl) (MsgM.one _) ?_; intro wj5 hb hg)
  have hm9 := HM.out.stored (arr := #[.int .u32 0, .int .u8 0, .int .u8 0, .int .u8 0, .int .u8 0, .int .u8 0, .int .u8 0, .int .u8 0, .int .u8 0, .int .u8 0, .int .u8 0, .int .u8 0, .int .u8 0, .int .u8 0, .int .u8 0, .int .u8 0, .int .u8 0, .int .u8 0, .int .u8 0, .int .u8 0, .int .u8 0, .int .u8 0, .int .u8 0, .int .u8 0, .int .u8 0, .int .u8 0, .int .u8 0, .int .u8 0, .int .u8 0, .int .u8 0, .int .u8 0, .int .u8 0, .int .u8 0, .int .u8 0, .int .u8 0, .int .u8 0, .int .u8 0, .int .u8 0, .int .u8 0, .int .u8 0, .int .u8 0, .int .u8 0, .int .u8 0, .int .u8 0, .int .u8 0, .int .u8 0, .int .u8 0, .int .u8 0, .int .u8 0, .int .u8 0, .int .u8 0, .int .u8 0, .int .u8 0, .int .u8 0, .int .u8 0, .int .u8 0, .int .u8 0]) hg hb
  generalize wi5.heap.size = P3 at hm9 ⊢
  replace HM := Lib.hid (show Lows w [blkL P3 36 m3.cells, blkL Q2 32 m2.cells, blkL P2 32 m2.cells, blkL Q1 30 m1.cells, blkL P1 30 m1.cells, rdL A n l] wj5 from hm9)
  clear hA hb hg hm9
  go_wp2_with fail
  refine (HR3.out _ (HM.out.rd 5 rfl)).mono ?_
  rintro e wi6 ⟨rfl, hb⟩
  replace HM := Lib.hid (HM.out.below hb)
  clear hb
  have hA : Blk (wi6.alloc (.cells #[.int .u32 0, .int .u8 0, .int .u8 0, .int .u8 0, .int .u8 0, .int .u8 0, .int .u8 0, .int .u8 0, .int .u8 0, .int .u8 0, .int .u8 0, .int .u8 0, .int .u8 0, .int .u8 0, .int .u8 0, .int .u8 0, .int .u8 0, .int .u8 0, .int .u8 0, .int .u8 0, .int .u8 0, .int .u8 0, .int .u8 0, .int .u8 0, .int .u8 0, .int .u8 0, .int .u8 0, .int .u8 0, .int .u8 0, .int .u8 0, .int .u8 0, .int .u8 0, .int .u8 0, .int .u8 0, .int .u8 0, .int .u8 0, .int .u8 0, .int .u8 0, .int .u8 0, .int .u8 0, .int .u8 0, .int .u8 0, .int .u8 0, .int .u8 0, .int .u8 0, .int .u8 0, .int .u8 0, .int .u8 0, .int .u8 0, .int .u8 0, .int .u8 0, .int .u8 0, .int .u8 0, .int .u8 0, .int .u8 0, .int .u8 0, .int .u8 0] 36)) wi6.heap.size 36 (msg0 3).cells := by
    have h := Blk.new wi6 36 (msg0 3).cells
    rw [show (msg0 3).cells.toArray = #[.int .u32 0, .int .u8 0, .int .u8 0, .int .u8 0, .int .u8 0, .int .u8 0, .int .u8 0, .int .u8 0, .int .u8 0, .int .u8 0, .int .u8 0, .int .u8 0, .int .u8 0, .int .u8 0, .int .u8 0, .int .u8 0, .int .u8 0, .int .u8 0, .int .u8 0, .int .u8 0, .int .u8 0, .int .u8 0, .int .u8 0, .int .u8 0, .int .u8 0, .int .u8 0, .int .u8 0, .int .u8 0, .int .u8 0, .int .u8 0, .int .u8 0, .int .u8 0, .int .u8 0, .int .u8 0, .int .u8 0, .int .u8 0, .int .u8 0, .int .u8 0, .int .u8 0, .int .u8 0, .int .u8 0, .int .u8 0, .int .u8 0, .int .u8 0, .int .u8 0, .int .u8 0, .int .u8 0, .int .u8 0, .int .u8 0, .int .u8 0, .int .u8 0, .int .u8 0, .int .u8 0, .int .u8 0, .int .u8 0, .int .u8 0, .int .u8 0] by kernel_rfl] at h
    exact h
  go_upto_region 7 with (refine wpList_store_blk rfl 36 (.tmp 13) (.tmp 47) rfl wi6.heap.size m3.cells rfl (by show Value.agg cm3 = _; rw [HC3.out]) 36 (msg0 3).cells hA HU3.out (by rw [HL3.out]; rfl) (MsgM.one _) ?_; intro wj6 hb hg)
  have hm9 := HM.out.stored (arr := #[.int .u32 0, .int .u8 0, .int .u8 0, .int .u8 0, .int .u8 0, .int .u8 0, .int .u8 0, .int .u8 0, .int .u8 0, .int .u8 0, .int .u8 0, .int .u8 0, .int .u8 0, .int .u8 0, .int .u8 0, .int .u8 0, .int .u8 0, .int .u8 0, .int .u8 0, .int .u8 0, .int .u8 0, .int .u8 0, .int .u8 0, .int .u8 0, .int .u8 0, .int .u8 0, .int .u8 0, .int .u8 0, .int .u8 0, .int .u8 0, .int .u8 0, .int .u8 0, .int .u8 0, .int .u8 0, .int .u8 0, .int .u8 0, .int .u8 0, .int .u8 0, .int .u8 0, .int .u8 0, .int .u8 0, .int .u8 0, .int .u8 0, .int .u8 0, .int .u8 0, .int .u8 0, .int .u8 0, .int .u8 0, .int .u8 0, .int .u8 0, .int .u8 0, .int .u8 0, .int .u8 0, .int .u8 0, .int .u8 0, .int .u8 0, .int .u8 0]) hg hb
  generalize wi6.heap.size = Q3 at hm9 ⊢
  replace HM := Lib.hid (show Lows w [blkL Q3 36 m3.cells, blkL P3 36 m3.cells, blkL Q2 32 m2.cells, blkL P2 32 m2.cells, blkL Q1 30 m1.cells, blkL P1 30 m1.cells, rdL A n l] wj6 from hm9)
  clear hA hb hg hm9
  go_wp2_with fail
  refine (HDT.out _ (HM.out.rd 6 rfl)).mono ?_
  rintro e wi7 ⟨A9, c9, rfl, hr9, hb⟩
  replace HM := Lib.hid (show Lows w [rdL A9 tt.body.length tt.body, blkL Q3 36 m3.cells, blkL P3 36 m3.cells, blkL Q2 32 m2.cells, blkL P2 32 m2.cells, blkL Q1 30 m1.cells, blkL P1 30 m1.cells, rdL A n l] wi7 from (HM.out.below hb).cons (rdL A9 tt.body.length tt.body) hr9)
  clear hb hr9
  have hA : Blk (wi7.alloc (.cells #[.int .u32 0, .int .u64 0, .slice none 0 0] 40)) wi7.heap.size 40 [Value.int .u32 0, .int .u64 0, .slice none 0 0] := Blk.new wi7 40 [Value.int .u32 0, .int .u64 0, .slice none 0 0]
  go_upto_region 8 with (refine wpList_store_blk rfl 40 (.tmp 15) (.tmp 52) rfl wi7.heap.size (tranC tt.r tt.c A9 tt.body.length c9) rfl (by rfl) 40 [Value.int .u32 0, .int .u64 0, .slice none 0 0] hA (by kernel_rfl) (by rfl) tran_one ?_; intro wj7 hb hg)
  have hm9 := HM.out.stored (arr := #[.int .u32 0, .int .u64 0, .slice none 0 0]) hg hb
  generalize wi7.heap.size = P4 at hm9 ⊢
  replace HM := Lib.hid (show Lows w [blkL P4 40 (tranC tt.r tt.c A9 tt.body.length c9), rdL A9 tt.body.length tt.body, blkL Q3 36 m3.cells, blkL P3 36 m3.cells, blkL Q2 32 m2.cells, blkL P2 32 m2.cells, blkL Q1 30 m1.cells, blkL P1 30 m1.cells, rdL A n l] wj7 from hm9)
  clear hA hb hg hm9
  go_wp2_with fail
  refine (HRT.out _ (HM.out.rd 8 rfl)).mono ?_
  rintro e wi8 ⟨A8, c8, rfl, hr9, hb⟩
  replace HM := Lib.hid (show Lows w [rdL A8 tt.body.length tt.body, blkL P4 40 (tranC tt.r tt.c A9 tt.body.length c9), rdL A9 tt.body.length tt.body, blkL Q3 36 m3.cells, blkL P3 36 m3.cells, blkL Q2 32 m2.cells, blkL P2 32 m2.cells, blkL Q1 30 m1.cells, blkL P1 30 m1.cells, rdL A n l] wi8 from (HM.out.below hb).cons (rdL A8 tt.body.length tt.body) hr9)
  clear hb hr9
  have hA : Blk (wi8.alloc (.cells #[.int .u32 0, .int .u64 0, .slice none 0 0] 40)) wi8.heap.size 40 [Value.int .u32 0, .int .u64 0, .slice none 0 0] := Blk.new wi8 40 [Value.int .u32 0, .int .u64 0, .slice none 0 0]
  go_upto_region 9 with (refine wpList_store_blk rfl 40 (.tmp 17) (.tmp 57) rfl wi8.heap.size (tranC tt.r tt.c A8 tt.body.length c8) rfl (by rfl) 40 [Value.int .u32 0, .int .u64 0, .slice none 0 0] hA (by kernel_rfl) (by rfl) tran_one ?_; intro wj8 hb hg)
  have hm9 := HM.out.stored (arr := #[.int .u32 0, .int .u64 0, .slice none 0 0]) hg hb
  generalize wi8.heap.size = Q4 at hm9 ⊢
  replace HM := Lib.hid (show Lows w [blkL Q4 40 (tranC tt.r tt.c A8 tt.body.length c8), rdL A8 tt.body.length tt.body, blkL P4 40 (tranC tt.r tt.c A9 tt.body.length c9), rdL A9 tt.body.length tt.body, blkL Q3 36 m3.cells, blkL P3 36 m3.cells, blkL Q2 32 m2.cells, blkL P2 32 m2.cells, blkL Q1 30 m1.cells, blkL P1 30 m1.cells, rdL A n l] wj8 from hm9)
  clear hA hb hg hm9
  go_wp2_with (first | (refine wpList_load_obj_g (by rfl) 30 (.tmp 3) rfl P1 0 rfl m1.cells (HM.out.blk 9 rfl).all _ Try.underlying30 rfl HU1.out ?_; rw [HC1.out]) | (refine wpList_load_obj_g (by rfl) 30 (.tmp 5) rfl Q1 0 rfl m1.cells (HM.out.blk 8 rfl).all _ Try.underlying30 rfl HU1.out ?_; rw [HC1.out]) | (refine wpList_load_obj_g (by rfl) 32 (.tmp 7) rfl P2 0 rfl m2.cells (HM.out.blk 7 rfl).all _ Try.underlying32 rfl HU2.out ?_; rw [HC2.out]) | (refine wpList_load_obj_g (by rfl) 32 (.tmp 9) rfl Q2 0 rfl m2.cells (HM.out.blk 6 rfl).all _ Try.underlying32 rfl HU2.out ?_; rw [HC2.out]) | (refine wpList_load_obj_g (by rfl) 36 (.tmp 11) rfl P3 0 rfl m3.cells (HM.out.blk 5 rfl).all _ Try.underlying36 rfl HU3.out ?_; rw [HC3.out]) | (refine wpList_load_obj_g (by rfl) 36 (.tmp 13) rfl Q3 0 rfl m3.cells (HM.out.blk 4 rfl).all _ Try.underlying36 rfl HU3.out ?_; rw [HC3.out]) | (refine wpList_load_obj_g (by rfl) 40 (.tmp 15) rfl P4 0 rfl (tranC tt.r tt.c A9 tt.body.length c9) (HM.out.blk 2 rfl).all _ Try.underlying40 rfl (by kernel_rfl) ?_) | (refine wpList_load_obj_g (by rfl) 40 (.tmp 17) rfl Q4 0 rfl (tranC tt.r tt.c A8 tt.body.length c8) (HM.out.blk 0 rfl).all _ Try.underlying40 rfl (by kernel_rfl) ?_) | (refine wpList_eql_agg (by rfl) 30 30 59 60 rfl cm1 cm1 true rfl rfl msg_noguard1 (HS1.out _) ?_) | (refine wpList_eql_agg (by rfl) 32 32 68 69 rfl cm2 cm2 true rfl rfl msg_noguard2 (HS2.out _) ?_) | (refine wpList_eql_agg (by rfl) 36 36 78 79 rfl cm3 cm3 true rfl rfl msg_noguard3 (HS3.out _) ?_))
  refine (sameTran_any tt.r tt.c A9 A8 tt.body.length c9 c8 tt.body _ (HM.out.rd 3 rfl) (HM.out.rd 1 rfl)).mono ?_
  rintro e wk ⟨rfl, hb⟩
  replace HM := Lib.hid (HM.out.below hb)
  clear hb
  go_wp2_with fail
  refine (HKP.out _ (HM.out.rd 10 rfl)).mono ?_
  rintro e wk2 ⟨rfl, hb⟩
  replace HM := Lib.hid (HM.out.below hb)
  clear hb
  go_wp2_with fail
  refine (HKR.out _ (HM.out.rd 10 rfl)).mono ?_
  rintro e wk3 ⟨rfl, hb⟩
  have HB := Lib.hid (HM.out.below hb).bel
  clear hb HM
  go_wp2_with fail
  go_ret
  exact ⟨rfl, HB.out⟩
end Go.Proofs.Ytaolhndbpgjlcaa
