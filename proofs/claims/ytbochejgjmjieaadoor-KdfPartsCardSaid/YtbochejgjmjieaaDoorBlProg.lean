/-
  What is asked of blake.Sum, Hash and Code holds of the landed functions. No statement is proved here.
-/
import Derived.Test.YtbochejgjmjieaaDoorCells32
import Derived.Test.YtbochejgjmjieaaDoorBpSum
namespace Go.Proofs.YtbochejgjmjieaaDoor
open Go.RowKit

theorem putHash (dl : List UInt8) : ∃ r x, sumB 32 [] dl = (r, x) ∧ r.length ≤ 32 ∧ putL (List.replicate 32 (0 : UInt8)) 0 r = hashB 32 [] dl := by
  refine ⟨hashB 32 [] dl, 0, by rw [sumB, if_neg (by simp)]; rfl, by rw [hashB_length _ _ _ (by omega)]; omega, ?_⟩
  rw [putL, List.take_zero, List.nil_append, hashB_length _ _ _ (by omega), show (List.replicate 32 (0 : UInt8)).drop (0 + 32) = [] from rfl, List.append_nil]
set_option maxRecDepth 100000 in
set_option maxHeartbeats 4000000 in
theorem blHashC : BlHashC := by
  intro c A ps ok hpc hcm w hlv hp
  have HM := Lib.hid (show Mem w [blkE (w.heap.size + 1) 30 ((List.replicate 32 (0 : UInt8)).map u8v), blkE w.heap.size 30 (aeZ 32)] ((w.alloc (.cells #[.int .u8 0, .int .u8 0, .int .u8 0, .int .u8 0, .int .u8 0, .int .u8 0, .int .u8 0, .int .u8 0, .int .u8 0, .int .u8 0, .int .u8 0, .int .u8 0, .int .u8 0, .int .u8 0, .int .u8 0, .int .u8 0, .int .u8 0, .int .u8 0, .int .u8 0, .int .u8 0, .int .u8 0, .int .u8 0, .int .u8 0, .int .u8 0, .int .u8 0, .int .u8 0, .int .u8 0, .int .u8 0, .int .u8 0, .int .u8 0, .int .u8 0, .int .u8 0] 30)).alloc (.cells #[.int .u8 0, .int .u8 0, .int .u8 0, .int .u8 0, .int .u8 0, .int .u8 0, .int .u8 0, .int .u8 0, .int .u8 0, .int .u8 0, .int .u8 0, .int .u8 0, .int .u8 0, .int .u8 0, .int .u8 0, .int .u8 0, .int .u8 0, .int .u8 0, .int .u8 0, .int .u8 0, .int .u8 0, .int .u8 0, .int .u8 0, .int .u8 0, .int .u8 0, .int .u8 0, .int .u8 0, .int .u8 0, .int .u8 0, .int .u8 0, .int .u8 0, .int .u8 0] 30)) from ((Mem.nil w).alloc rfl 30 #[.int .u8 0, .int .u8 0, .int .u8 0, .int .u8 0, .int .u8 0, .int .u8 0, .int .u8 0, .int .u8 0, .int .u8 0, .int .u8 0, .int .u8 0, .int .u8 0, .int .u8 0, .int .u8 0, .int .u8 0, .int .u8 0, .int .u8 0, .int .u8 0, .int .u8 0, .int .u8 0, .int .u8 0, .int .u8 0, .int .u8 0, .int .u8 0, .int .u8 0, .int .u8 0, .int .u8 0, .int .u8 0, .int .u8 0, .int .u8 0, .int .u8 0, .int .u8 0] (aeZ 32) rfl).alloc (by simp) 30 #[.int .u8 0, .int .u8 0, .int .u8 0, .int .u8 0, .int .u8 0, .int .u8 0, .int .u8 0, .int .u8 0, .int .u8 0, .int .u8 0, .int .u8 0, .int .u8 0, .int .u8 0, .int .u8 0, .int .u8 0, .int .u8 0, .int .u8 0, .int .u8 0, .int .u8 0, .int .u8 0, .int .u8 0, .int .u8 0, .int .u8 0, .int .u8 0, .int .u8 0, .int .u8 0, .int .u8 0, .int .u8 0, .int .u8 0, .int .u8 0, .int .u8 0, .int .u8 0] ((List.replicate 32 (0 : UInt8)).map u8v) rfl)
  have HLV := Lib.hid hlv
  have hp1 : PartsRd ((w.alloc (.cells #[.int .u8 0, .int .u8 0, .int .u8 0, .int .u8 0, .int .u8 0, .int .u8 0, .int .u8 0, .int .u8 0, .int .u8 0, .int .u8 0, .int .u8 0, .int .u8 0, .int .u8 0, .int .u8 0, .int .u8 0, .int .u8 0, .int .u8 0, .int .u8 0, .int .u8 0, .int .u8 0, .int .u8 0, .int .u8 0, .int .u8 0, .int .u8 0, .int .u8 0, .int .u8 0, .int .u8 0, .int .u8 0, .int .u8 0, .int .u8 0, .int .u8 0, .int .u8 0] 30)).alloc (.cells #[.int .u8 0, .int .u8 0, .int .u8 0, .int .u8 0, .int .u8 0, .int .u8 0, .int .u8 0, .int .u8 0, .int .u8 0, .int .u8 0, .int .u8 0, .int .u8 0, .int .u8 0, .int .u8 0, .int .u8 0, .int .u8 0, .int .u8 0, .int .u8 0, .int .u8 0, .int .u8 0, .int .u8 0, .int .u8 0, .int .u8 0, .int .u8 0, .int .u8 0, .int .u8 0, .int .u8 0, .int .u8 0, .int .u8 0, .int .u8 0, .int .u8 0, .int .u8 0] 30)) w.heap.size A ps := fun h0 => by
    obtain ⟨g, e, hg, hc⟩ := hp h0
    exact ⟨g, e, hg, fun j hj => ⟨(World.cell?_alloc_lt _ _ _ (by simp; omega)).trans ((World.cell?_alloc_lt w _ _ hg).trans (hc j hj).1), ((hc j hj).2.alloc (Nat.le_refl _) _).alloc (by simp) _⟩⟩
  have ht := ok.2.1
  have JC := Lib.hid (coJoin_any w.heap.size c A ps (by have := ok.1; omega) (by omega) _ (by simp; omega) hp1)
  obtain ⟨dl, hdl⟩ : ∃ l, flat ps ps.length = l := ⟨_, rfl⟩
  rw [hdl] at JC ht ⊢
  clear hdl hp hp1 ok
  obtain ⟨nd, hnd⟩ : ∃ n, dl.length = n := ⟨_, rfl⟩
  rw [hnd] at JC ht
  obtain ⟨np, hnp⟩ : ∃ n, ps.length = n := ⟨_, rfl⟩
  rw [hnp] at JC hpc ⊢
  clear hnp hnd hlv
  obtain ⟨r, x, hsum, hrl, hput⟩ := putHash dl
  have HHL := Lib.hid (hashB_length 32 [] dl (by omega))
  obtain ⟨hl, hhl⟩ : ∃ l, hashB 32 [] dl = l := ⟨_, rfl⟩
  rw [hhl] at HHL hput ⊢
  have HSE := Lib.hid hsum
  have HRL := Lib.hid hrl
  have HP := Lib.hid hput
  obtain ⟨co, hco⟩ : ∃ c, (hl.map u8v).toArray = c := ⟨_, rfl⟩
  have HCO := Lib.hid hco
  rw [hco]
  clear hhl hsum hrl hput hco
  go_enter Tryd.func14, Tryd.ntmps14
  go_upto_region 2 with fail
  generalize ((w.alloc (.cells #[.int .u8 0, .int .u8 0, .int .u8 0, .int .u8 0, .int .u8 0, .int .u8 0, .int .u8 0, .int .u8 0, .int .u8 0, .int .u8 0, .int .u8 0, .int .u8 0, .int .u8 0, .int .u8 0, .int .u8 0, .int .u8 0, .int .u8 0, .int .u8 0, .int .u8 0, .int .u8 0, .int .u8 0, .int .u8 0, .int .u8 0, .int .u8 0, .int .u8 0, .int .u8 0, .int .u8 0, .int .u8 0, .int .u8 0, .int .u8 0, .int .u8 0, .int .u8 0] 30)).alloc (.cells #[.int .u8 0, .int .u8 0, .int .u8 0, .int .u8 0, .int .u8 0, .int .u8 0, .int .u8 0, .int .u8 0, .int .u8 0, .int .u8 0, .int .u8 0, .int .u8 0, .int .u8 0, .int .u8 0, .int .u8 0, .int .u8 0, .int .u8 0, .int .u8 0, .int .u8 0, .int .u8 0, .int .u8 0, .int .u8 0, .int .u8 0, .int .u8 0, .int .u8 0, .int .u8 0, .int .u8 0, .int .u8 0, .int .u8 0, .int .u8 0, .int .u8 0, .int .u8 0] 30)) = w1 at HM JC ⊢
  go_wp2_with fail
  refine JC.out.mono ?_
  rintro e w2 ⟨A2, c2, rfl, ho, hb⟩
  have h2 := (own_addr ho).1
  have h2m := (own_addr ho).2.1
  replace HM := Lib.hid (HM.out.callRd hb ho)
  clear ho hb JC
  go_wp2_with fail
  refine (blSumC 32 (by omega) (by omega) none A2 0 0 nd c2 [] dl (Nat.le_refl _) (Nat.zero_le _) h2 h2m (by omega) (by omega) _ (HLV.out.below HM.out.bel) (Rd.nil _ _ _) (HM.out.rd 0 rfl)).mono ?_
  rintro e w3 ⟨A3, c3, rfl, hr, _, _, hb⟩
  rw [HSE.out] at hr ⊢
  dsimp only at hr ⊢
  replace HM := Lib.hid (HM.out.below hb)
  have HR := Lib.hid (RdIn.rd hr)
  clear hr hb h2 h2m
  go_upto_region 4 with (refine wpList_copy_rd _ rfl (.tmp 12) (.tmp 13) 22 22 rfl 5 Tryd.underlying22 (by kernel_rfl) (w.heap.size + 1) 32 32 A3 r.length c3 rfl rfl (List.replicate 32 (0 : UInt8)) 30 (HM.out.blk 1 rfl) _ r HR.out HRL.out (by simp) ?_; intro w4 hb hg; rw [HP.out] at hb)
  replace HM := Lib.hid (show Mem w [rdE w1.heap.size w2.heap.size A2 nd dl, blkE (w.heap.size + 1) 30 (hl.map u8v), blkE w.heap.size 30 (aeZ 32)] w4 from HM.out.put 1 rfl _ hg hb)
  clear hb hg HP HR HRL HSE
  go_wp2_with (first | (refine wpList_load_blk rfl 30 (.tmp 3) rfl (w.heap.size + 1) rfl 30 (hl.map u8v) (HM.out.blk 1 rfl) 32 5 Tryd.underlying30 (cells32 hl HHL.out) ?_; rw [HCO.out]) | (refine wpList_store_blk rfl 30 (.tmp 2) (.tmp 15) rfl w.heap.size (hl.map u8v) rfl (by show Value.agg co = _; rw [HCO.out]) 30 (aeZ 32) (HM.out.blk 2 rfl) (cells32 hl HHL.out) (by rw [List.length_map, HHL.out]; rfl) (u8v_one _) ?_; intro w9 hb9 hg9))
  exact bodyPost_ret (results_blk rfl _ _ w.heap.size 30 (hl.map u8v) 32 5 rfl hb9 Tryd.underlying30 (cells32 hl HHL.out)) rfl ⟨by rw [HCO.out], (HM.out.put 2 rfl _ hg9 hb9).bel⟩
end Go.Proofs.YtbochejgjmjieaaDoor
