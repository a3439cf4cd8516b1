/-
  What is asked of blake.Code holds of the landed function. No statement is proved here.
-/
import Derived.Test.YtellicmnopfkgaaDoorBlProg
import Derived.Test.YtellicmnopfkgaaDoorBlCc
namespace Go.Proofs.YtellicmnopfkgaaDoor
open Go.RowKit

theorem putCode (key dl : List UInt8) : ∃ r x, sumB 16 key dl = (r, x) ∧ r.length ≤ 16 ∧ putL (List.replicate 16 (0 : UInt8)) 0 r = codeB key dl := by
  by_cases h : 32 < key.length
  · refine ⟨[], 1, by rw [sumB, if_pos (.inr (.inr h))], by simp, ?_⟩
    rw [putL_nil, codeB, if_pos h]
  · refine ⟨hashB 16 key dl, 0, by rw [sumB, if_neg (by omega)]; rfl, by rw [hashB_length _ _ _ (by omega)]; omega, ?_⟩
    rw [codeB, if_neg h, putL, List.take_zero, List.nil_append, hashB_length _ _ _ (by omega), show (List.replicate 16 (0 : UInt8)).drop (0 + 16) = [] from rfl, List.append_nil]
set_option maxRecDepth 100000 in
set_option maxHeartbeats 4000000 in
theorem blCodeC : BlCodeC := by
  intro Ak nk ck key hkc hkm hnk c A ps ok hpc hcm w hlv hrk hp
  have HM := Lib.hid (show Mem w [blkE (w.heap.size + 1) 36 ((List.replicate 16 (0 : UInt8)).map u8v), blkE w.heap.size 36 (aeZ 16)] ((w.alloc (.cells #[.int .u8 0, .int .u8 0, .int .u8 0, .int .u8 0, .int .u8 0, .int .u8 0, .int .u8 0, .int .u8 0, .int .u8 0, .int .u8 0, .int .u8 0, .int .u8 0, .int .u8 0, .int .u8 0, .int .u8 0, .int .u8 0] 36)).alloc (.cells #[.int .u8 0, .int .u8 0, .int .u8 0, .int .u8 0, .int .u8 0, .int .u8 0, .int .u8 0, .int .u8 0, .int .u8 0, .int .u8 0, .int .u8 0, .int .u8 0, .int .u8 0, .int .u8 0, .int .u8 0, .int .u8 0] 36)) from ((Mem.nil w).alloc rfl 36 #[.int .u8 0, .int .u8 0, .int .u8 0, .int .u8 0, .int .u8 0, .int .u8 0, .int .u8 0, .int .u8 0, .int .u8 0, .int .u8 0, .int .u8 0, .int .u8 0, .int .u8 0, .int .u8 0, .int .u8 0, .int .u8 0] (aeZ 16) rfl).alloc (by simp) 36 #[.int .u8 0, .int .u8 0, .int .u8 0, .int .u8 0, .int .u8 0, .int .u8 0, .int .u8 0, .int .u8 0, .int .u8 0, .int .u8 0, .int .u8 0, .int .u8 0, .int .u8 0, .int .u8 0, .int .u8 0, .int .u8 0] ((List.replicate 16 (0 : UInt8)).map u8v) rfl)
  have HLV := Lib.hid hlv
  have HK := Lib.hid hrk
  have hp1 : PartsRd ((w.alloc (.cells #[.int .u8 0, .int .u8 0, .int .u8 0, .int .u8 0, .int .u8 0, .int .u8 0, .int .u8 0, .int .u8 0, .int .u8 0, .int .u8 0, .int .u8 0, .int .u8 0, .int .u8 0, .int .u8 0, .int .u8 0, .int .u8 0] 36)).alloc (.cells #[.int .u8 0, .int .u8 0, .int .u8 0, .int .u8 0, .int .u8 0, .int .u8 0, .int .u8 0, .int .u8 0, .int .u8 0, .int .u8 0, .int .u8 0, .int .u8 0, .int .u8 0, .int .u8 0, .int .u8 0, .int .u8 0] 36)) w.heap.size A ps := fun h0 => by
    obtain ⟨g, e, hg, hc⟩ := hp h0
    exact ⟨g, e, hg, fun j hj => ⟨(World.cell?_alloc_lt _ _ _ (by simp; omega)).trans ((World.cell?_alloc_lt w _ _ hg).trans (hc j hj).1), ((hc j hj).2.alloc (Nat.le_refl _) _).alloc (by simp) _⟩⟩
  have ht := ok.2.1
  have JC := Lib.hid (coJoin_any w.heap.size c A ps (by have := ok.1; omega) (by omega) _ (by simp; omega) hp1)
  obtain ⟨dl, hdl⟩ : ∃ l, flat ps ps.length = l := ⟨_, rfl⟩
  rw [hdl] at JC ht ⊢
  clear hdl hp hp1 ok
  obtain ⟨nd, hnd⟩ : ∃ n, dl.length = n := ⟨_, rfl⟩
  rw [hnd] at JC ht
  obtain ⟨np, hnp⟩ : ∃ n, ps.length = n := ⟨_, rfl⟩
  rw [hnp] at JC hpc ⊢
  clear hnp hnd hlv hrk
  obtain ⟨r, x, hsum, hrl, hput⟩ := putCode key dl
  have HHL := Lib.hid (codeB_length key dl)
  obtain ⟨hl, hhl⟩ : ∃ l, codeB key dl = l := ⟨_, rfl⟩
  rw [hhl] at HHL hput ⊢
  have HSE := Lib.hid hsum
  have HRL := Lib.hid hrl
  have HP := Lib.hid hput
  obtain ⟨co, hco⟩ : ∃ c, (hl.map u8v).toArray = c := ⟨_, rfl⟩
  have HCO := Lib.hid hco
  rw [hco]
  clear hhl hsum hrl hput hco
  go_enter Tryd.func14, Tryd.ntmps14
  go_upto_region 2 with fail
  generalize ((w.alloc (.cells #[.int .u8 0, .int .u8 0, .int .u8 0, .int .u8 0, .int .u8 0, .int .u8 0, .int .u8 0, .int .u8 0, .int .u8 0, .int .u8 0, .int .u8 0, .int .u8 0, .int .u8 0, .int .u8 0, .int .u8 0, .int .u8 0] 36)).alloc (.cells #[.int .u8 0, .int .u8 0, .int .u8 0, .int .u8 0, .int .u8 0, .int .u8 0, .int .u8 0, .int .u8 0, .int .u8 0, .int .u8 0, .int .u8 0, .int .u8 0, .int .u8 0, .int .u8 0, .int .u8 0, .int .u8 0] 36)) = w1 at HM JC ⊢
  go_wp2_with fail
  refine JC.out.mono ?_
  rintro e w2 ⟨A2, c2, rfl, ho, hb⟩
  have h2 := (own_addr ho).1
  have h2m := (own_addr ho).2.1
  replace HM := Lib.hid (HM.out.callRd hb ho)
  clear ho hb JC
  go_wp2_with fail
  refine (blSumC 16 (by omega) (by omega) Ak A2 nk ck nd c2 key dl hkc hkm h2 h2m (by omega) (by omega) _ (HLV.out.below HM.out.bel) (HM.out.arg HK.out) (HM.out.rd 0 rfl)).mono ?_
  rintro e w3 ⟨A3, c3, rfl, hr, _, _, hb⟩
  rw [HSE.out] at hr ⊢
  dsimp only at hr ⊢
  replace HM := Lib.hid (HM.out.below hb)
  have HR := Lib.hid (RdIn.rd hr)
  clear hr hb h2 h2m
  go_upto_region 4 with (refine wpList_copy_rd _ rfl (.tmp 15) (.tmp 16) 22 22 rfl 5 Tryd.underlying22 (by kernel_rfl) (w.heap.size + 1) 16 16 A3 r.length c3 rfl rfl (List.replicate 16 (0 : UInt8)) 36 (HM.out.blk 1 rfl) _ r HR.out HRL.out (by simp) ?_; intro w4 hb hg; rw [HP.out] at hb)
  replace HM := Lib.hid (show Mem w [rdE w1.heap.size w2.heap.size A2 nd dl, blkE (w.heap.size + 1) 36 (hl.map u8v), blkE w.heap.size 36 (aeZ 16)] w4 from HM.out.put 1 rfl _ hg hb)
  clear hb hg HP HR HRL HSE
  go_wp2_with (first | (refine wpList_load_blk rfl 36 (.tmp 5) rfl (w.heap.size + 1) rfl 36 (hl.map u8v) (HM.out.blk 1 rfl) 16 5 Tryd.underlying36 (tagCells hl HHL.out) ?_; rw [HCO.out]) | (refine wpList_store_blk rfl 36 (.tmp 4) (.tmp 18) rfl w.heap.size (hl.map u8v) rfl (by show Value.agg co = _; rw [HCO.out]) 36 (aeZ 16) (HM.out.blk 2 rfl) (tagCells hl HHL.out) (by rw [List.length_map, HHL.out]; rfl) (u8v_one _) ?_; intro w9 hb9 hg9))
  exact bodyPost_ret (results_blk rfl _ _ w.heap.size 36 (hl.map u8v) 16 5 rfl hb9 Tryd.underlying36 (tagCells hl HHL.out)) rfl ⟨by rw [HCO.out], (HM.out.put 2 rfl _ hg9 hb9).bel⟩
end Go.Proofs.YtellicmnopfkgaaDoor
