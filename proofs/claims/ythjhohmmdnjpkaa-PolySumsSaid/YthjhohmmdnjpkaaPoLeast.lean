/-
  The contract of the reference's least.
-/
import Derived.Test.YthjhohmmdnjpkaaPoTimes
namespace Go.Proofs.Ythjhohmmdnjpkaa
open Go.RowKit

theorem minus_map : (minusN.map nv).toArray = #[.int .u32 5, .int .u32 0, .int .u32 0, .int .u32 0, .int .u32 0, .int .u32 0, .int .u32 0, .int .u32 0, .int .u32 0, .int .u32 0, .int .u32 0, .int .u32 0, .int .u32 0, .int .u32 0, .int .u32 0, .int .u32 0, .int .u32 252] := rfl
theorem minus_le : minusN.length = 17 ∧ ∀ i, dg minusN i ≤ 255 := ⟨rfl, fun i => by
  by_cases h : i < 17
  · have : ∀ j : Fin 17, dg minusN j.val ≤ 255 := by decide
    exact this ⟨i, h⟩
  · rw [dg_high minusN i (by simp [minusN]; omega)]; omega⟩

set_option maxRecDepth 100000 in
set_option maxHeartbeats 2000000 in
theorem least_any (l : List Nat) (hf : fits l) (w : World) :
    Calls Try.prog 18 #[.agg (l.map nv).toArray] w fun e w' => e = .returned (.agg ((leastN l).map nv).toArray) ∧ Below w.heap.size w w' := by
  have RC := reduced_any l hf
  have ht := redN_tidy hf
  obtain ⟨r, hr⟩ : ∃ r, redN l = r := ⟨_, rfl⟩
  have hL : leastN l = if dg (lessN r) 16 &&& 128 = 0 then (lessN r).set 16 (dg (lessN r) 16 &&& 3) else r := by rw [← hr]; rfl
  rw [hr] at RC ht
  have PC := plus_any r minusN ⟨ht.1, tidy_le ht (by omega)⟩ minus_le
  have hgl : (lessN r).length = 17 := by rw [lessN, plusN_length]; exact ht.1
  have h255 := plusN_digits r minusN ht.1 16
  rw [show plusN r minusN = lessN r from rfl] at PC h255
  obtain ⟨g, hg⟩ : ∃ g, lessN r = g := ⟨_, rfl⟩
  rw [hg] at PC hgl h255 hL
  obtain ⟨cl, hcl⟩ : ∃ cl, (l.map nv).toArray = cl := ⟨_, rfl⟩
  obtain ⟨cr, hcr⟩ : ∃ cr, (r.map nv).toArray = cr := ⟨_, rfl⟩
  obtain ⟨cm, hcm⟩ : ∃ cm, (minusN.map nv).toArray = cm := ⟨_, rfl⟩
  obtain ⟨cg, hcg⟩ : ∃ cg, (g.map nv).toArray = cg := ⟨_, rfl⟩
  rw [hcl, hcr] at RC
  rw [hcr, hcm, hcg] at PC
  rw [hcl]
  have HB0 := Lib.hid (show Blk (w.alloc (.cells cl 47)) w.heap.size 47 (l.map nv) by rw [← hcl]; exact Blk.new w _ _)
  have HRL := Lib.hid ht.1
  have HGL := Lib.hid hgl
  have HLL := Lib.hid hf.1
  have HL := Lib.hid hL
  have HRC := Lib.hid RC
  have HPC := Lib.hid PC
  have HCR := Lib.hid hcr
  have HCL := Lib.hid hcl
  have HCM := Lib.hid hcm
  have HCG := Lib.hid hcg
  have HMM := Lib.hid minus_map
  clear hf RC ht hr hL PC hgl hg hcl hcr hcm hcg
  go_enter Try.func18, Try.ntmps18
  go_upto_region 1 with fail
  have h1 := HB0.out.alloc (.cells z17.toArray 47)
  have h2 : Blk ((w.alloc (.cells cl 47)).alloc (.cells z17.toArray 47)) (w.heap.size + 1) 47 z17 := Blk.new' _ (by simp) _ _
  have h3 : Below w.heap.size w ((w.alloc (.cells cl 47)).alloc (.cells z17.toArray 47)) := ((Below.refl _ _).alloc (Nat.le_refl _) _).alloc (by simp) _
  have h4 : ((w.alloc (.cells cl 47)).alloc (.cells z17.toArray 47)).heap.size = w.heap.size + 2 := by simp
  rw [z17_arr] at h1 h2 h3 h4
  clear HB0
  generalize ((w.alloc (.cells cl 47)).alloc (.cells #[.int .u32 0, .int .u32 0, .int .u32 0, .int .u32 0, .int .u32 0, .int .u32 0, .int .u32 0, .int .u32 0, .int .u32 0, .int .u32 0, .int .u32 0, .int .u32 0, .int .u32 0, .int .u32 0, .int .u32 0, .int .u32 0, .int .u32 0] 47)) = w1 at h1 h2 h3 h4 ⊢
  have H1 := Lib.hid (And.intro h1 (And.intro h2 (And.intro h3 (Nat.le_of_eq h4.symm))))
  clear h1 h2 h3 h4
  go_wp2_with (refine wpList_load_blk rfl 47 (.tmp 1) rfl w.heap.size rfl 47 (l.map nv) H1.out.1 17 45 Try.underlying47 (cells17 l HLL.out) ?_; rw [HCL.out])
  refine (HRC.out _).mono ?_
  rintro e w2 ⟨rfl, hb2⟩
  have H2 := Lib.hid (And.intro (H1.out.1.below hb2 H1.out.1.lt) (And.intro (H1.out.2.1.below hb2 H1.out.2.1.lt) (And.intro (H1.out.2.2.1.trans (hb2.mono H1.out.2.2.1.size)) (Nat.le_trans H1.out.2.2.2 hb2.size))))
  clear H1 hb2
  go_upto_region 2 with (refine wpList_store_blk rfl 47 (.tmp 1) (.tmp 6) rfl w.heap.size (r.map nv) rfl (by rw [HCR.out]; rfl) 47 (l.map nv) H2.out.1 (cells17 r HRL.out) (by rw [List.length_map, List.length_map, HLL.out, HRL.out]) (nv_one _) ?_; intro w3 hb3 hg3)
  simp only [Act.put]
  have H3 := Lib.hid (And.intro hb3 (And.intro (H2.out.2.1.grown hg3 (by simp)) (And.intro (below_blk H2.out.2.2.1 hg3 (Nat.le_refl _)) (Nat.le_trans H2.out.2.2.2 hg3.size))))
  clear H2 hb3 hg3
  go_upto_region 3 with (refine wpList_store_blk rfl 47 (.tmp 3) (.tmp 7) rfl w3.heap.size (minusN.map nv) rfl (by rw [HMM.out]; rfl) 47 z17 (Blk.new w3 47 z17) (cells17 minusN rfl) rfl (nv_one _) ?_; intro w4 hb4 hg4)
  simp only [Act.put]
  have H4 := Lib.hid (show Blk w4 w3.heap.size 47 (minusN.map nv) ∧ Blk w4 w.heap.size 47 (r.map nv) ∧ Blk w4 (w.heap.size + 1) 47 z17 ∧ Below w.heap.size w w4 ∧ w3.heap.size + 1 ≤ w4.heap.size by
    have h0 := H3.out.2.2.2
    exact ⟨hb4, (H3.out.1.alloc _).grown hg4 (by simp; omega), (H3.out.2.1.alloc _).grown hg4 (by simp; omega), Below.grown (H3.out.2.2.1.alloc (by omega) (.cells z17.toArray 47)) hg4 (by simp; omega) (by intro k hk; injection hk with hk; omega), by have := hg4.size; simpa using this⟩)
  have HP := Lib.hid H3.out.2.2.2
  clear H3 hb4 hg4
  generalize w3.heap.size = P at H4 HP ⊢
  go_wp2_with (first | (refine wpList_load_blk rfl 47 (.tmp 1) rfl w.heap.size rfl 47 (r.map nv) H4.out.2.1 17 45 Try.underlying47 (cells17 r HRL.out) ?_; rw [HCR.out]) | (refine wpList_load_blk rfl 47 (.tmp 3) rfl P rfl 47 (minusN.map nv) H4.out.1 17 45 Try.underlying47 (cells17 minusN rfl) ?_; rw [HCM.out]))
  refine (HPC.out _).mono ?_
  rintro e w5 ⟨rfl, hb5⟩
  have H5 := Lib.hid (show Blk w5 w.heap.size 47 (r.map nv) ∧ Blk w5 (w.heap.size + 1) 47 z17 ∧ Below w.heap.size w w5 ∧ w.heap.size + 2 ≤ w5.heap.size from ⟨H4.out.2.1.below hb5 H4.out.2.1.lt, H4.out.2.2.1.below hb5 H4.out.2.2.1.lt, H4.out.2.2.2.1.trans (hb5.mono H4.out.2.2.2.1.size), by have := hb5.size; have := H4.out.2.2.2.2; have := HP.out; omega⟩)
  clear H4 HP hb5
  go_upto_region 4 with (refine wpList_store_blk rfl 47 (.tmp 4) (.tmp 10) rfl w5.heap.size (g.map nv) rfl (by rw [HCG.out]; rfl) 47 z17 (Blk.new w5 47 z17) (cells17 g HGL.out) (by rw [List.length_map, HGL.out]; rfl) (nv_one _) ?_; intro w6 hb6 hg6)
  simp only [Act.put]
  have H6 := Lib.hid (show Blk w6 w5.heap.size 47 (g.map nv) ∧ Blk w6 w.heap.size 47 (r.map nv) ∧ Blk w6 (w.heap.size + 1) 47 z17 ∧ Below w.heap.size w w6 by
    have h0 := H5.out.2.2.2
    exact ⟨hb6, (H5.out.1.alloc _).grown hg6 (by simp; omega), (H5.out.2.1.alloc _).grown hg6 (by simp; omega), Below.grown (H5.out.2.2.1.alloc (by omega) (.cells z17.toArray 47)) hg6 (by simp; omega) (by intro k hk; injection hk with hk; omega)⟩)
  have HP := Lib.hid H5.out.2.2.2
  clear H5 hb6 hg6
  generalize w5.heap.size = P at H6 HP ⊢
  have fx := H6.out.1.dig 16 (by rw [HGL.out]; omega)
  have zx := H6.out.1.frozen 16
  obtain ⟨d, hd⟩ : ∃ d, dg g 16 = d := ⟨_, rfl⟩
  rw [hd] at fx h255
  replace HL := Lib.hid (show leastN l = if d &&& 128 = 0 then g.set 16 (d &&& 3) else r by rw [HL.out, hd])
  clear hd
  have h128 : bits BinOp.and IntKind.u32 (d : Int) 128 = ((d &&& 128 : Nat) : Int) := u32_and_nat d 128 (by omega) (by omega)
  have h3 : bits BinOp.and IntKind.u32 (d : Int) 3 = ((d &&& 3 : Nat) : Int) := u32_and_nat d 3 (by omega) (by omega)
  obtain ⟨b, hb⟩ : ∃ b, d &&& 128 = b := ⟨_, rfl⟩
  obtain ⟨m, hm⟩ : ∃ m, d &&& 3 = m := ⟨_, rfl⟩
  rw [hb] at h128
  rw [hm] at h3
  rw [hb, hm] at HL
  clear hb hm
  by_cases h0 : b = 0
  · subst h0
    have hb0 : (((0 : Nat) : Int) == 0) = true := rfl
    replace h128 : bits BinOp.and IntKind.u32 (d : Int) 128 = 0 := h128
    have HLe := Lib.hid (show leastN l = g.set 16 m by rw [HL.out, if_pos rfl])
    have HSL := Lib.hid (show (g.set 16 m).length = 17 by rw [List.length_set]; exact HGL.out)
    have H7 := Lib.hid (show Blk (w6.setCell ⟨P, 16, none⟩ (.int .u32 (m : Int))) P 47 ((g.set 16 m).map nv) ∧ Blk (w6.setCell ⟨P, 16, none⟩ (.int .u32 (m : Int))) (w.heap.size + 1) 47 z17 ∧ Below w.heap.size w (w6.setCell ⟨P, 16, none⟩ (.int .u32 (m : Int))) from ⟨H6.out.1.setDig 16 m, H6.out.2.2.1.far (by have := HP.out; simp; omega) _, H6.out.2.2.2.setCell (by have := HP.out; dsimp only; omega) _⟩)
    clear H6
    generalize g.set 16 m = lz at H7 HLe HSL
    obtain ⟨cz, hcz⟩ : ∃ cz, (lz.map nv).toArray = cz := ⟨_, rfl⟩
    have HCZ := Lib.hid hcz
    clear hcz
    go_upto_region 6 with fail
    clear fx zx h128 h3
    generalize w6.setCell ⟨P, 16, none⟩ (.int .u32 (m : Int)) = w7 at H7 ⊢
    go_wp2_with (first | (refine wpList_load_blk rfl 47 (.tmp 4) rfl P rfl 47 (lz.map nv) H7.out.1 17 45 Try.underlying47 (cells17 lz HSL.out) ?_; rw [HCZ.out]) | (refine wpList_store_blk rfl 47 (.tmp 2) (.tmp 19) rfl (w.heap.size + 1) (lz.map nv) rfl (by show Value.agg cz = _; rw [HCZ.out]) 47 z17 H7.out.2.1 (cells17 lz HSL.out) (by rw [List.length_map, HSL.out]; rfl) (nv_one _) ?_; intro w9 hb9 hg9))
    exact bodyPost_ret (results_blk rfl _ _ (w.heap.size + 1) 47 (lz.map nv) 17 45 rfl hb9 Try.underlying47 (cells17 lz HSL.out)) rfl ⟨by rw [HLe.out], below_blk H7.out.2.2 hg9 (by omega)⟩
  · have hb0 : ((b : Int) == 0) = false := by rw [beq_eq_false_iff_ne]; omega
    have HLe := Lib.hid (show leastN l = r by rw [HL.out, if_neg h0])
    clear zx h3
    go_wp2_with (first | (refine wpList_load_blk rfl 47 (.tmp 1) rfl w.heap.size rfl 47 (r.map nv) H6.out.2.1 17 45 Try.underlying47 (cells17 r HRL.out) ?_; rw [HCR.out]) | (refine wpList_store_blk rfl 47 (.tmp 2) (.tmp 20) rfl (w.heap.size + 1) (r.map nv) rfl (by show Value.agg cr = _; rw [HCR.out]) 47 z17 H6.out.2.2.1 (cells17 r HRL.out) (by rw [List.length_map, HRL.out]; rfl) (nv_one _) ?_; intro w9 hb9 hg9))
    exact bodyPost_ret (results_blk rfl _ _ (w.heap.size + 1) 47 (r.map nv) 17 45 rfl hb9 Try.underlying47 (cells17 r HRL.out)) rfl ⟨by rw [HLe.out], below_blk H6.out.2.2.2 hg9 (by omega)⟩
end Go.Proofs.Ythjhohmmdnjpkaa
