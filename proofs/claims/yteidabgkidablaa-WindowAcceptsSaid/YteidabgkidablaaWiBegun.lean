/-
  The sanity check of the laws of the window. No statement is proved here.
-/
import Derived.Test.YteidabgkidablaaWiC
import Derived.Test.YteidabgkidablaaBuildAs
import Derived.RegionTactic
import Derived.Deep.DeepCutAuto
namespace Go.Proofs.Yteidabgkidablaa
open Go.RowKit

theorem wa_use {F : Nat} (H : WiAcceptC F) {x y : WinM} {c : Nat} {b : Bool} (h : acceptM x c = (y, b)) (hx : x.ok) (hc : c < 18446744073709551616) (W : World) :
    Calls Try.prog F #[.agg x.cells.toArray, .int .u64 (c : Int)] W fun e w' => e = .returned (.tuple #[.agg y.cells.toArray, .bool b]) ∧ Below W.heap.size W w' := by
  have h2 := H x c W hx hc
  rw [h] at h2
  exact h2
theorem wc_use {F : Nat} (H : WiCheckC F) {x : WinM} {c : Nat} {b : Bool} (h : checkM x c = b) (hx : x.ok) (hc : c < 18446744073709551616) (W : World) :
    Calls Try.prog F #[.agg x.cells.toArray, .int .u64 (c : Int)] W fun e w' => e = .returned (.bool b) ∧ Below W.heap.size W w' := by
  have h2 := H x c W hx hc
  rw [h] at h2
  exact h2
theorem acc_ok {x y : WinM} {c : Nat} {b : Bool} (h : acceptM x c = (y, b)) (hx : x.ok) (hc : c < 18446744073709551616) : y.ok := by
  have := acceptM_ok hx hc
  rw [h] at this
  exact this
def winA : WinM := ⟨true, 300, [17592186044416, 0, 0, 0]⟩
def winB : WinM := ⟨true, 300, [17592186044416, 68719476736, 0, 0]⟩
set_option maxRecDepth 100000 in
set_option maxHeartbeats 8000000 in
theorem wi_begun_any (HA : WiAcceptC 6) (HC : WiCheckC 8) (w : World) :
    Calls Try.prog 11 #[] w fun e w' => e = .returned (.bool true) ∧ Below w.heap.size w w' := by
  have ha : acceptM win0 300 = (winA, true) := by kernel_rfl
  have hb : acceptM winA 100 = (winB, true) := by kernel_rfl
  have oa : winA.ok := acc_ok ha win0_ok (by decide)
  have ob : winB.ok := acc_ok hb oa (by decide)
  have h1 := wa_use HA ha win0_ok (by decide)
  have h2 := wa_use HA hb oa (by decide)
  have h3 := wc_use HC (show checkM winB 63 = false by decide) ob (by decide)
  have h4 := wc_use HC (show checkM winB 64 = true by decide) ob (by decide)
  have h5 := wc_use HC (show checkM winB 300 = false by decide) ob (by decide)
  obtain ⟨ca, hca⟩ : ∃ z, winA.cells.toArray = z := ⟨_, rfl⟩
  obtain ⟨cb, hcb⟩ : ∃ z, winB.cells.toArray = z := ⟨_, rfl⟩
  rw [show win0.cells.toArray = #[.bool false, .int .u64 0, .int .u64 0, .int .u64 0, .int .u64 0, .int .u64 0] from rfl, hca, show ((300 : Nat) : Int) = 300 from rfl] at h1
  rw [hca, hcb, show ((100 : Nat) : Int) = 100 from rfl] at h2
  rw [hcb, show ((63 : Nat) : Int) = 63 from rfl] at h3
  rw [hcb, show ((64 : Nat) : Int) = 64 from rfl] at h4
  rw [hcb, show ((300 : Nat) : Int) = 300 from rfl] at h5
  have H1 := Lib.hid h1
  have H2 := Lib.hid h2
  have H3 := Lib.hid h3
  have H4 := Lib.hid h4
  have H5 := Lib.hid h5
  have HCA := Lib.hid hca
  have HCB := Lib.hid hcb
  have OA := Lib.hid oa
  have OB := Lib.hid ob
  have UA := Lib.hid (win_cellsOf _ oa)
  have UB := Lib.hid (win_cellsOf _ ob)
  have LA := Lib.hid (WinM.cells_length oa)
  have LB := Lib.hid (WinM.cells_length ob)
  clear ha hb oa ob h1 h2 h3 h4 h5 hca hcb HA HC
  go_enter Try.func11, Try.ntmps11
  go_wp2_with (refine wpList_build_as rfl 25 [] rfl #[.bool false, .int .u64 0, .int .u64 0, .int .u64 0, .int .u64 0, .int .u64 0] ?_ ?_; kernel_rfl)
  refine (H1.out w).mono ?_
  rintro e w1 ⟨rfl, hb⟩
  have HM := Lib.hid (show Lows w [] w1 from ⟨by simp, hb⟩)
  clear hb H1
  have HZ := Lib.hid (Blk.new w1 25 winZ)
  go_upto_region 2 with (refine wpList_store_obj rfl 25 (.tmp 1) (.tmp 7) rfl w1.heap.size 0 winA.cells rfl (by show Value.agg ca = _; rw [HCA.out]) 25 winZ HZ.out UA.out (by rw [LA.out, winZ_length]; omega) (win_one _) ?_; intro w2 hb2 hg2)
  rw [setL_all winZ _ (by rw [LA.out, winZ_length])] at hb2
  have hlt : w.heap.size ≤ w1.heap.size := HM.out.size
  have HM2 := Lib.hid (show Mem w [] w1 from ⟨hlt, HM.out.2⟩)
  replace HM := Lib.hid (show Mem w [blkE w1.heap.size 25 winA.cells] w2 from (HM2.out.alloc rfl 25 #[.bool false, .int .u64 0, .int .u64 0, .int .u64 0, .int .u64 0, .int .u64 0] winZ rfl).put 0 rfl _ hg2 hb2)
  clear hb2 hg2 HZ HM2 hlt
  generalize w1.heap.size = g1 at HM ⊢
  go_wp2_with (refine wpList_load_obj rfl 25 (.tmp 1) rfl g1 0 rfl winA.cells (HM.out.blk 0 rfl).all _ Try.underlying25 rfl UA.out ?_; rw [HCA.out])
  refine (H2.out w2).mono ?_
  rintro e w3 ⟨rfl, hb⟩
  replace HM := Lib.hid (HM.out.below hb)
  clear hb H2
  go_upto_region 3 with (refine wpList_store_obj rfl 25 (.tmp 1) (.tmp 12) rfl g1 0 winB.cells rfl (by show Value.agg cb = _; rw [HCB.out]) 25 winA.cells (HM.out.blk 0 rfl) UB.out (by rw [LB.out, LA.out]; omega) (win_one _) ?_; intro w4 hb4 hg4)
  rw [setL_all _ _ (by rw [LB.out, LA.out])] at hb4
  replace HM := Lib.hid (show Mem w [blkE g1 25 winB.cells] w4 from HM.out.put 0 rfl _ hg4 hb4)
  clear hb4 hg4
  go_wp2_with (refine wpList_load_obj_g (by rfl) 25 (.tmp 1) rfl g1 0 rfl winB.cells (HM.out.blk 0 rfl).all _ Try.underlying25 rfl UB.out ?_; rw [HCB.out])
  refine (H3.out w4).mono ?_
  rintro e w5 ⟨rfl, hb⟩
  replace HM := Lib.hid (HM.out.below hb)
  clear hb H3
  go_wp2_with (refine wpList_load_obj_g (by rfl) 25 (.tmp 1) rfl g1 0 rfl winB.cells (HM.out.blk 0 rfl).all _ Try.underlying25 rfl UB.out ?_; rw [HCB.out])
  refine (H4.out w5).mono ?_
  rintro e w6 ⟨rfl, hb⟩
  replace HM := Lib.hid (HM.out.below hb)
  clear hb H4
  go_wp2_with (refine wpList_load_obj_g (by rfl) 25 (.tmp 1) rfl g1 0 rfl winB.cells (HM.out.blk 0 rfl).all _ Try.underlying25 rfl UB.out ?_; rw [HCB.out])
  refine (H5.out w6).mono ?_
  rintro e w7 ⟨rfl, hb⟩
  replace HM := Lib.hid (HM.out.below hb)
  clear hb H5
  have ft : w7.cell? ⟨g1, 1, none⟩ = some (.int .u64 300) := win_top (HM.out.blk 0 rfl).all
  go_wp2
  go_ret
  exact ⟨rfl, HM.out.bel⟩
end Go.Proofs.Yteidabgkidablaa
