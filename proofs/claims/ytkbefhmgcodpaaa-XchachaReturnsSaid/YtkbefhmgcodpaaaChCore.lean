/-
  The contract of chacha.Core: ten double rounds of the words.
-/
import Derived.Test.YtkbefhmgcodpaaaBlkMore
import Derived.Test.YtkbefhmgcodpaaaChRot
import Derived.Test.YtkbefhmgcodpaaaChRef
import Derived.Test.YtkbefhmgcodpaaaKeyMem
namespace Go.Proofs.Ytkbefhmgcodpaaa
open Go.RowKit

theorem wd_set (l : List UInt32) (i j : Nat) (x : UInt32) (hi : i < l.length) : wd (l.set i x) j = if i = j then x else wd l j := by
  unfold wd
  simp only [List.getD, List.getElem?_set]
  split
  · rename_i h
    subst h
    simp
  · rfl

theorem quarterW_qr (l : List UInt32) (hl : l.length = 16) (a b c d : Nat) (ha : a < 16) (hb : b < 16) (hc : c < 16) (hd : d < 16) (hab : a ≠ b) (hac : a ≠ c) (had : a ≠ d) (hbc : b ≠ c) (hbd : b ≠ d) (hcd : c ≠ d) :
    quarterW l a b c d = (((l.set a (qr (wd l a, wd l b, wd l c, wd l d)).1).set b (qr (wd l a, wd l b, wd l c, wd l d)).2.1).set c (qr (wd l a, wd l b, wd l c, wd l d)).2.2.1).set d (qr (wd l a, wd l b, wd l c, wd l d)).2.2.2 := by
  simp only [quarterW, addW, mixW, qr]
  simp only [wd_set, List.length_set, hl, ha, hb, hc, hd, hab, hac, had, hbc, hbd, hcd, hab.symm, hac.symm, had.symm, hbc.symm, hbd.symm, hcd.symm, if_true, if_false]
  apply List.ext_getElem?
  intro i
  simp only [List.getElem?_set, List.length_set, hl, ha, hb, hc, hd]
  by_cases h1 : a = i
  · subst h1
    simp [hab.symm, hac.symm, had.symm]
  · by_cases h2 : b = i
    · subst h2
      simp [hbc.symm, hbd.symm]
    · by_cases h3 : c = i
      · subst h3
        simp [hbc, hcd.symm]
      · by_cases h4 : d = i
        · subst h4
          simp [hbd, hcd]
        · simp [h1, h2, h3, h4]

/-- sixteen words, all 0 -/
def z16 : List Value := [.int .u32 0, .int .u32 0, .int .u32 0, .int .u32 0, .int .u32 0, .int .u32 0, .int .u32 0, .int .u32 0, .int .u32 0, .int .u32 0, .int .u32 0, .int .u32 0, .int .u32 0, .int .u32 0, .int .u32 0, .int .u32 0]

set_option maxRecDepth 100000 in
set_option maxHeartbeats 8000000 in
theorem core_any (l : List UInt32) (hl : l.length = 16) (w : World) :
    Calls Try.prog 15 #[.agg (l.map u32v).toArray] w fun e w' => e = .returned (.agg ((coreW 10 l).map u32v).toArray) ∧ Below w.heap.size w w' := by
  obtain ⟨cl, hcl⟩ : ∃ cl, (l.map u32v).toArray = cl := ⟨_, rfl⟩
  rw [hcl]
  have HB0 := Lib.hid (show Blk (w.alloc (.cells cl 44)) w.heap.size 44 (l.map u32v) by rw [← hcl]; exact Blk.new w _ _)
  obtain ⟨lz, hlz⟩ : ∃ lz, coreW 10 l = lz := ⟨_, rfl⟩
  rw [hlz]
  have HLZ := Lib.hid hlz
  have HL := Lib.hid hl
  clear hl hlz
  go_enter Try.func15, Try.ntmps15
  go_wp2_with (first | (refine wpList_load_blk rfl 44 (.tmp 1) rfl w.heap.size rfl 44 (l.map u32v) (HB0.out.alloc _) 16 43 Try.underlying44 (by rw [List.length_map, HL.out]; kernel_rfl) ?_) | (refine wpList_store_blk rfl 44 (.tmp 3) (.tmp 4) rfl (w.heap.size + 1 + 1) (l.map u32v) rfl (by first | rfl | (show Value.agg cl = _; rw [hcl])) 44 z16 (Blk.new' ((w.alloc (.cells cl 44)).alloc (.cells z16.toArray 44)) (by simp) 44 z16) (by rw [List.length_map, HL.out]; kernel_rfl) (by rw [List.length_map, HL.out]; rfl) (u32v_one _) ?_; intro w1 hb1 hg1))
  have hz1 : Blk w1 (w.heap.size + 1) 44 z16 := ((Blk.new' (w.alloc (.cells cl 44)) (by simp) 44 z16).alloc _).grown hg1 (by simp)
  have hbel1 : Below w.heap.size w w1 := Below.grown ((((Below.refl _ _).alloc (Nat.le_refl _) _).alloc (by simp) _).alloc (by simp; omega) _) hg1 (by simp; omega) (by intro k hk; injection hk with hk; omega)
  clear hg1 HB0 hcl
  generalize hG : w.heap.size + 1 + 1 = G at hb1 ⊢
  generalize hZ : w.heap.size + 1 = Z at hz1 ⊢
  have HG := Lib.hid (And.intro hG hZ)
  clear hG hZ
  go_loopw [5] (fun i wr => ∃ j : Nat, j ≤ 10 ∧ i = .int .i64 j ∧ Blk wr G 44 ((coreW j l).map u32v) ∧ Blk wr Z 44 z16 ∧ Below w.heap.size w wr) (fun i _ => 10 - (intOf i).toNat)
  case atStart => exact ⟨0, by omega, rfl, hb1, hz1, hbel1⟩
  case round =>
    obtain ⟨j, hj, rfl, hblk, hz, hbel⟩ := hrel
    clear hb1 hz1 hbel1
    by_cases hlt : j < 10
    · obtain ⟨l0, hl0⟩ : ∃ l0, coreW j l = l0 := ⟨_, rfl⟩
      rw [hl0] at hblk
      have HL0 := Lib.hid (show l0.length = 16 by rw [← hl0, coreW_length]; exact HL.out)
      have E0 := Lib.hid hl0
      clear hl0
      have h6 : decide ((j : Int) < 10) = true := by simp; omega
      go_upto_region 4 with fail
      clear h6
      have fa := hblk.word 0 (by have := HL0.out; omega)
      have fb := hblk.word 4 (by have := HL0.out; omega)
      have fc := hblk.word 8 (by have := HL0.out; omega)
      have fd := hblk.word 12 (by have := HL0.out; omega)
      have za := hblk.frozen 0
      have zb := hblk.frozen 4
      have zc := hblk.frozen 8
      have zd := hblk.frozen 12
      obtain ⟨⟨a0, b0, c0, d0⟩, hx⟩ : ∃ x, qr (wd l0 0, wd l0 4, wd l0 8, wd l0 12) = x := ⟨_, rfl⟩
      have CQ := Lib.hid (quarter_of hx)
      obtain ⟨l1, hl1⟩ : ∃ l1, quarterW l0 0 4 8 12 = l1 := ⟨_, rfl⟩
      have E1 := Lib.hid hl1
      rw [quarterW_qr l0 HL0.out 0 4 8 12 (by omega) (by omega) (by omega) (by omega) (by omega) (by omega) (by omega) (by omega) (by omega) (by omega), hx] at hl1
      have HL1 := Lib.hid (show l1.length = 16 by rw [← hl1]; simp only [List.length_set]; exact HL0.out)
      have HN := Lib.hid (show Blk ((((wr.setCell ⟨G, 0, none⟩ (.int .u32 (a0.toNat : Int))).setCell ⟨G, 4, none⟩ (.int .u32 (b0.toNat : Int))).setCell ⟨G, 8, none⟩ (.int .u32 (c0.toNat : Int))).setCell ⟨G, 12, none⟩ (.int .u32 (d0.toNat : Int))) G 44 (l1.map u32v) ∧ Blk ((((wr.setCell ⟨G, 0, none⟩ (.int .u32 (a0.toNat : Int))).setCell ⟨G, 4, none⟩ (.int .u32 (b0.toNat : Int))).setCell ⟨G, 8, none⟩ (.int .u32 (c0.toNat : Int))).setCell ⟨G, 12, none⟩ (.int .u32 (d0.toNat : Int))) Z 44 z16 ∧ Below w.heap.size w ((((wr.setCell ⟨G, 0, none⟩ (.int .u32 (a0.toNat : Int))).setCell ⟨G, 4, none⟩ (.int .u32 (b0.toNat : Int))).setCell ⟨G, 8, none⟩ (.int .u32 (c0.toNat : Int))).setCell ⟨G, 12, none⟩ (.int .u32 (d0.toNat : Int))) by
        rw [← hl1]
        refine ⟨((((hblk.setWord 0 a0).setWord 4 b0).setWord 8 c0).setWord 12 d0), ((((hz.far (by have := HG.out; simp; omega) _).far (by have := HG.out; simp; omega) _).far (by have := HG.out; simp; omega) _).far (by have := HG.out; simp; omega) _), ?_⟩
        have := HG.out
        exact (((hbel.setCell (by dsimp only; omega) _).setCell (by dsimp only; omega) _).setCell (by dsimp only; omega) _).setCell (by dsimp only; omega) _)
      clear hl1 hx hblk hz hbel
      go_wp2_with fail
      refine (CQ.out _).mono ?_
      rintro e wq ⟨rfl, rfl⟩
      go_upto_region 5 with fail
      clear fa fb fc fd za zb zc zd CQ
      generalize ((((wr.setCell ⟨G, 0, none⟩ (.int .u32 (a0.toNat : Int))).setCell ⟨G, 4, none⟩ (.int .u32 (b0.toNat : Int))).setCell ⟨G, 8, none⟩ (.int .u32 (c0.toNat : Int))).setCell ⟨G, 12, none⟩ (.int .u32 (d0.toNat : Int))) = W1 at HN ⊢
      obtain ⟨hblk, hz, hbel⟩ := HN.out
      clear HN
      have fa := hblk.word 1 (by have := HL1.out; omega)
      have fb := hblk.word 5 (by have := HL1.out; omega)
      have fc := hblk.word 9 (by have := HL1.out; omega)
      have fd := hblk.word 13 (by have := HL1.out; omega)
      have za := hblk.frozen 1
      have zb := hblk.frozen 5
      have zc := hblk.frozen 9
      have zd := hblk.frozen 13
      obtain ⟨⟨a1, b1, c1, d1⟩, hx⟩ : ∃ x, qr (wd l1 1, wd l1 5, wd l1 9, wd l1 13) = x := ⟨_, rfl⟩
      have CQ := Lib.hid (quarter_of hx)
      obtain ⟨l2, hl2⟩ : ∃ l2, quarterW l1 1 5 9 13 = l2 := ⟨_, rfl⟩
      have E2 := Lib.hid hl2
      rw [quarterW_qr l1 HL1.out 1 5 9 13 (by omega) (by omega) (by omega) (by omega) (by omega) (by omega) (by omega) (by omega) (by omega) (by omega), hx] at hl2
      have HL2 := Lib.hid (show l2.length = 16 by rw [← hl2]; simp only [List.length_set]; exact HL1.out)
      have HN := Lib.hid (show Blk ((((W1.setCell ⟨G, 1, none⟩ (.int .u32 (a1.toNat : Int))).setCell ⟨G, 5, none⟩ (.int .u32 (b1.toNat : Int))).setCell ⟨G, 9, none⟩ (.int .u32 (c1.toNat : Int))).setCell ⟨G, 13, none⟩ (.int .u32 (d1.toNat : Int))) G 44 (l2.map u32v) ∧ Blk ((((W1.setCell ⟨G, 1, none⟩ (.int .u32 (a1.toNat : Int))).setCell ⟨G, 5, none⟩ (.int .u32 (b1.toNat : Int))).setCell ⟨G, 9, none⟩ (.int .u32 (c1.toNat : Int))).setCell ⟨G, 13, none⟩ (.int .u32 (d1.toNat : Int))) Z 44 z16 ∧ Below w.heap.size w ((((W1.setCell ⟨G, 1, none⟩ (.int .u32 (a1.toNat : Int))).setCell ⟨G, 5, none⟩ (.int .u32 (b1.toNat : Int))).setCell ⟨G, 9, none⟩ (.int .u32 (c1.toNat : Int))).setCell ⟨G, 13, none⟩ (.int .u32 (d1.toNat : Int))) by
        rw [← hl2]
        refine ⟨((((hblk.setWord 1 a1).setWord 5 b1).setWord 9 c1).setWord 13 d1), ((((hz.far (by have := HG.out; simp; omega) _).far (by have := HG.out; simp; omega) _).far (by have := HG.out; simp; omega) _).far (by have := HG.out; simp; omega) _), ?_⟩
        have := HG.out
        exact (((hbel.setCell (by dsimp only; omega) _).setCell (by dsimp only; omega) _).setCell (by dsimp only; omega) _).setCell (by dsimp only; omega) _)
      clear hl2 hx hblk hz hbel
      go_wp2_with fail
      refine (CQ.out _).mono ?_
      rintro e wq ⟨rfl, rfl⟩
      go_upto_region 6 with fail
      clear fa fb fc fd za zb zc zd CQ
      generalize ((((W1.setCell ⟨G, 1, none⟩ (.int .u32 (a1.toNat : Int))).setCell ⟨G, 5, none⟩ (.int .u32 (b1.toNat : Int))).setCell ⟨G, 9, none⟩ (.int .u32 (c1.toNat : Int))).setCell ⟨G, 13, none⟩ (.int .u32 (d1.toNat : Int))) = W2 at HN ⊢
      obtain ⟨hblk, hz, hbel⟩ := HN.out
      clear HN
      have fa := hblk.word 2 (by have := HL2.out; omega)
      have fb := hblk.word 6 (by have := HL2.out; omega)
      have fc := hblk.word 10 (by have := HL2.out; omega)
      have fd := hblk.word 14 (by have := HL2.out; omega)
      have za := hblk.frozen 2
      have zb := hblk.frozen 6
      have zc := hblk.frozen 10
      have zd := hblk.frozen 14
      obtain ⟨⟨a2, b2, c2, d2⟩, hx⟩ : ∃ x, qr (wd l2 2, wd l2 6, wd l2 10, wd l2 14) = x := ⟨_, rfl⟩
      have CQ := Lib.hid (quarter_of hx)
      obtain ⟨l3, hl3⟩ : ∃ l3, quarterW l2 2 6 10 14 = l3 := ⟨_, rfl⟩
      have E3 := Lib.hid hl3
      rw [quarterW_qr l2 HL2.out 2 6 10 14 (by omega) (by omega) (by omega) (by omega) (by omega) (by omega) (by omega) (by omega) (by omega) (by omega), hx] at hl3
      have HL3 := Lib.hid (show l3.length = 16 by rw [← hl3]; simp only [List.length_set]; exact HL2.out)
      have HN := Lib.hid (show Blk ((((W2.setCell ⟨G, 2, none⟩ (.int .u32 (a2.toNat : Int))).setCell ⟨G, 6, none⟩ (.int .u32 (b2.toNat : Int))).setCell ⟨G, 10, none⟩ (.int .u32 (c2.toNat : Int))).setCell ⟨G, 14, none⟩ (.int .u32 (d2.toNat : Int))) G 44 (l3.map u32v) ∧ Blk ((((W2.setCell ⟨G, 2, none⟩ (.int .u32 (a2.toNat : Int))).setCell ⟨G, 6, none⟩ (.int .u32 (b2.toNat : Int))).setCell ⟨G, 10, none⟩ (.int .u32 (c2.toNat : Int))).setCell ⟨G, 14, none⟩ (.int .u32 (d2.toNat : Int))) Z 44 z16 ∧ Below w.heap.size w ((((W2.setCell ⟨G, 2, none⟩ (.int .u32 (a2.toNat : Int))).setCell ⟨G, 6, none⟩ (.int .u32 (b2.toNat : Int))).setCell ⟨G, 10, none⟩ (.int .u32 (c2.toNat : Int))).setCell ⟨G, 14, none⟩ (.int .u32 (d2.toNat : Int))) by
        rw [← hl3]
        refine ⟨((((hblk.setWord 2 a2).setWord 6 b2).setWord 10 c2).setWord 14 d2), ((((hz.far (by have := HG.out; simp; omega) _).far (by have := HG.out; simp; omega) _).far (by have := HG.out; simp; omega) _).far (by have := HG.out; simp; omega) _), ?_⟩
        have := HG.out
        exact (((hbel.setCell (by dsimp only; omega) _).setCell (by dsimp only; omega) _).setCell (by dsimp only; omega) _).setCell (by dsimp only; omega) _)
      clear hl3 hx hblk hz hbel
      go_wp2_with fail
      refine (CQ.out _).mono ?_
      rintro e wq ⟨rfl, rfl⟩
      go_upto_region 7 with fail
      clear fa fb fc fd za zb zc zd CQ
      generalize ((((W2.setCell ⟨G, 2, none⟩ (.int .u32 (a2.toNat : Int))).setCell ⟨G, 6, none⟩ (.int .u32 (b2.toNat : Int))).setCell ⟨G, 10, none⟩ (.int .u32 (c2.toNat : Int))).setCell ⟨G, 14, none⟩ (.int .u32 (d2.toNat : Int))) = W3 at HN ⊢
      obtain ⟨hblk, hz, hbel⟩ := HN.out
      clear HN
      have fa := hblk.word 3 (by have := HL3.out; omega)
      have fb := hblk.word 7 (by have := HL3.out; omega)
      have fc := hblk.word 11 (by have := HL3.out; omega)
      have fd := hblk.word 15 (by have := HL3.out; omega)
      have za := hblk.frozen 3
      have zb := hblk.frozen 7
      have zc := hblk.frozen 11
      have zd := hblk.frozen 15
      obtain ⟨⟨a3, b3, c3, d3⟩, hx⟩ : ∃ x, qr (wd l3 3, wd l3 7, wd l3 11, wd l3 15) = x := ⟨_, rfl⟩
      have CQ := Lib.hid (quarter_of hx)
      obtain ⟨l4, hl4⟩ : ∃ l4, quarterW l3 3 7 11 15 = l4 := ⟨_, rfl⟩
      have E4 := Lib.hid hl4
      rw [quarterW_qr l3 HL3.out 3 7 11 15 (by omega) (by omega) (by omega) (by omega) (by omega) (by omega) (by omega) (by omega) (by omega) (by omega), hx] at hl4
      have HL4 := Lib.hid (show l4.length = 16 by rw [← hl4]; simp only [List.length_set]; exact HL3.out)
      have HN := Lib.hid (show Blk ((((W3.setCell ⟨G, 3, none⟩ (.int .u32 (a3.toNat : Int))).setCell ⟨G, 7, none⟩ (.int .u32 (b3.toNat : Int))).setCell ⟨G, 11, none⟩ (.int .u32 (c3.toNat : Int))).setCell ⟨G, 15, none⟩ (.int .u32 (d3.toNat : Int))) G 44 (l4.map u32v) ∧ Blk ((((W3.setCell ⟨G, 3, none⟩ (.int .u32 (a3.toNat : Int))).setCell ⟨G, 7, none⟩ (.int .u32 (b3.toNat : Int))).setCell ⟨G, 11, none⟩ (.int .u32 (c3.toNat : Int))).setCell ⟨G, 15, none⟩ (.int .u32 (d3.toNat : Int))) Z 44 z16 ∧ Below w.heap.size w ((((W3.setCell ⟨G, 3, none⟩ (.int .u32 (a3.toNat : Int))).setCell ⟨G, 7, none⟩ (.int .u32 (b3.toNat : Int))).setCell ⟨G, 11, none⟩ (.int .u32 (c3.toNat : Int))).setCell ⟨G, 15, none⟩ (.int .u32 (d3.toNat : Int))) by
        rw [← hl4]
        refine ⟨((((hblk.setWord 3 a3).setWord 7 b3).setWord 11 c3).setWord 15 d3), ((((hz.far (by have := HG.out; simp; omega) _).far (by have := HG.out; simp; omega) _).far (by have := HG.out; simp; omega) _).far (by have := HG.out; simp; omega) _), ?_⟩
        have := HG.out
        exact (((hbel.setCell (by dsimp only; omega) _).setCell (by dsimp only; omega) _).setCell (by dsimp only; omega) _).setCell (by dsimp only; omega) _)
      clear hl4 hx hblk hz hbel
      go_wp2_with fail
      refine (CQ.out _).mono ?_
      rintro e wq ⟨rfl, rfl⟩
      go_upto_region 8 with fail
      clear fa fb fc fd za zb zc zd CQ
      generalize ((((W3.setCell ⟨G, 3, none⟩ (.int .u32 (a3.toNat : Int))).setCell ⟨G, 7, none⟩ (.int .u32 (b3.toNat : Int))).setCell ⟨G, 11, none⟩ (.int .u32 (c3.toNat : Int))).setCell ⟨G, 15, none⟩ (.int .u32 (d3.toNat : Int))) = W4 at HN ⊢
      obtain ⟨hblk, hz, hbel⟩ := HN.out
      clear HN
      have fa := hblk.word 0 (by have := HL4.out; omega)
      have fb := hblk.word 5 (by have := HL4.out; omega)
      have fc := hblk.word 10 (by have := HL4.out; omega)
      have fd := hblk.word 15 (by have := HL4.out; omega)
      have za := hblk.frozen 0
      have zb := hblk.frozen 5
      have zc := hblk.frozen 10
      have zd := hblk.frozen 15
      obtain ⟨⟨a4, b4, c4, d4⟩, hx⟩ : ∃ x, qr (wd l4 0, wd l4 5, wd l4 10, wd l4 15) = x := ⟨_, rfl⟩
      have CQ := Lib.hid (quarter_of hx)
      obtain ⟨l5, hl5⟩ : ∃ l5, quarterW l4 0 5 10 15 = l5 := ⟨_, rfl⟩
      have E5 := Lib.hid hl5
      rw [quarterW_qr l4 HL4.out 0 5 10 15 (by omega) (by omega) (by omega) (by omega) (by omega) (by omega) (by omega) (by omega) (by omega) (by omega), hx] at hl5
      have HL5 := Lib.hid (show l5.length = 16 by rw [← hl5]; simp only [List.length_set]; exact HL4.out)
      have HN := Lib.hid (show Blk ((((W4.setCell ⟨G, 0, none⟩ (.int .u32 (a4.toNat : Int))).setCell ⟨G, 5, none⟩ (.int .u32 (b4.toNat : Int))).setCell ⟨G, 10, none⟩ (.int .u32 (c4.toNat : Int))).setCell ⟨G, 15, none⟩ (.int .u32 (d4.toNat : Int))) G 44 (l5.map u32v) ∧ Blk ((((W4.setCell ⟨G, 0, none⟩ (.int .u32 (a4.toNat : Int))).setCell ⟨G, 5, none⟩ (.int .u32 (b4.toNat : Int))).setCell ⟨G, 10, none⟩ (.int .u32 (c4.toNat : Int))).setCell ⟨G, 15, none⟩ (.int .u32 (d4.toNat : Int))) Z 44 z16 ∧ Below w.heap.size w ((((W4.setCell ⟨G, 0, none⟩ (.int .u32 (a4.toNat : Int))).setCell ⟨G, 5, none⟩ (.int .u32 (b4.toNat : Int))).setCell ⟨G, 10, none⟩ (.int .u32 (c4.toNat : Int))).setCell ⟨G, 15, none⟩ (.int .u32 (d4.toNat : Int))) by
        rw [← hl5]
        refine ⟨((((hblk.setWord 0 a4).setWord 5 b4).setWord 10 c4).setWord 15 d4), ((((hz.far (by have := HG.out; simp; omega) _).far (by have := HG.out; simp; omega) _).far (by have := HG.out; simp; omega) _).far (by have := HG.out; simp; omega) _), ?_⟩
        have := HG.out
        exact (((hbel.setCell (by dsimp only; omega) _).setCell (by dsimp only; omega) _).setCell (by dsimp only; omega) _).setCell (by dsimp only; omega) _)
      clear hl5 hx hblk hz hbel
      go_wp2_with fail
      refine (CQ.out _).mono ?_
      rintro e wq ⟨rfl, rfl⟩
      go_upto_region 9 with fail
      clear fa fb fc fd za zb zc zd CQ
      generalize ((((W4.setCell ⟨G, 0, none⟩ (.int .u32 (a4.toNat : Int))).setCell ⟨G, 5, none⟩ (.int .u32 (b4.toNat : Int))).setCell ⟨G, 10, none⟩ (.int .u32 (c4.toNat : Int))).setCell ⟨G, 15, none⟩ (.int .u32 (d4.toNat : Int))) = W5 at HN ⊢
      obtain ⟨hblk, hz, hbel⟩ := HN.out
      clear HN
      have fa := hblk.word 1 (by have := HL5.out; omega)
      have fb := hblk.word 6 (by have := HL5.out; omega)
      have fc := hblk.word 11 (by have := HL5.out; omega)
      have fd := hblk.word 12 (by have := HL5.out; omega)
      have za := hblk.frozen 1
      have zb := hblk.frozen 6
      have zc := hblk.frozen 11
      have zd := hblk.frozen 12
      obtain ⟨⟨a5, b5, c5, d5⟩, hx⟩ : ∃ x, qr (wd l5 1, wd l5 6, wd l5 11, wd l5 12) = x := ⟨_, rfl⟩
      have CQ := Lib.hid (quarter_of hx)
      obtain ⟨l6, hl6⟩ : ∃ l6, quarterW l5 1 6 11 12 = l6 := ⟨_, rfl⟩
      have E6 := Lib.hid hl6
      rw [quarterW_qr l5 HL5.out 1 6 11 12 (by omega) (by omega) (by omega) (by omega) (by omega) (by omega) (by omega) (by omega) (by omega) (by omega), hx] at hl6
      have HL6 := Lib.hid (show l6.length = 16 by rw [← hl6]; simp only [List.length_set]; exact HL5.out)
      have HN := Lib.hid (show Blk ((((W5.setCell ⟨G, 1, none⟩ (.int .u32 (a5.toNat : Int))).setCell ⟨G, 6, none⟩ (.int .u32 (b5.toNat : Int))).setCell ⟨G, 11, none⟩ (.int .u32 (c5.toNat : Int))).setCell ⟨G, 12, none⟩ (.int .u32 (d5.toNat : Int))) G 44 (l6.map u32v) ∧ Blk ((((W5.setCell ⟨G, 1, none⟩ (.int .u32 (a5.toNat : Int))).setCell ⟨G, 6, none⟩ (.int .u32 (b5.toNat : Int))).setCell ⟨G, 11, none⟩ (.int .u32 (c5.toNat : Int))).setCell ⟨G, 12, none⟩ (.int .u32 (d5.toNat : Int))) Z 44 z16 ∧ Below w.heap.size w ((((W5.setCell ⟨G, 1, none⟩ (.int .u32 (a5.toNat : Int))).setCell ⟨G, 6, none⟩ (.int .u32 (b5.toNat : Int))).setCell ⟨G, 11, none⟩ (.int .u32 (c5.toNat : Int))).setCell ⟨G, 12, none⟩ (.int .u32 (d5.toNat : Int))) by
        rw [← hl6]
        refine ⟨((((hblk.setWord 1 a5).setWord 6 b5).setWord 11 c5).setWord 12 d5), ((((hz.far (by have := HG.out; simp; omega) _).far (by have := HG.out; simp; omega) _).far (by have := HG.out; simp; omega) _).far (by have := HG.out; simp; omega) _), ?_⟩
        have := HG.out
        exact (((hbel.setCell (by dsimp only; omega) _).setCell (by dsimp only; omega) _).setCell (by dsimp only; omega) _).setCell (by dsimp only; omega) _)
      clear hl6 hx hblk hz hbel
      go_wp2_with fail
      refine (CQ.out _).mono ?_
      rintro e wq ⟨rfl, rfl⟩
      go_upto_region 10 with fail
      clear fa fb fc fd za zb zc zd CQ
      generalize ((((W5.setCell ⟨G, 1, none⟩ (.int .u32 (a5.toNat : Int))).setCell ⟨G, 6, none⟩ (.int .u32 (b5.toNat : Int))).setCell ⟨G, 11, none⟩ (.int .u32 (c5.toNat : Int))).setCell ⟨G, 12, none⟩ (.int .u32 (d5.toNat : Int))) = W6 at HN ⊢
      obtain ⟨hblk, hz, hbel⟩ := HN.out
      clear HN
      have fa := hblk.word 2 (by have := HL6.out; omega)
      have fb := hblk.word 7 (by have := HL6.out; omega)
      have fc := hblk.word 8 (by have := HL6.out; omega)
      have fd := hblk.word 13 (by have := HL6.out; omega)
      have za := hblk.frozen 2
      have zb := hblk.frozen 7
      have zc := hblk.frozen 8
      have zd := hblk.frozen 13
      obtain ⟨⟨a6, b6, c6, d6⟩, hx⟩ : ∃ x, qr (wd l6 2, wd l6 7, wd l6 8, wd l6 13) = x := ⟨_, rfl⟩
      have CQ := Lib.hid (quarter_of hx)
      obtain ⟨l7, hl7⟩ : ∃ l7, quarterW l6 2 7 8 13 = l7 := ⟨_, rfl⟩
      have E7 := Lib.hid hl7
      rw [quarterW_qr l6 HL6.out 2 7 8 13 (by omega) (by omega) (by omega) (by omega) (by omega) (by omega) (by omega) (by omega) (by omega) (by omega), hx] at hl7
      have HL7 := Lib.hid (show l7.length = 16 by rw [← hl7]; simp only [List.length_set]; exact HL6.out)
      have HN := Lib.hid (show Blk ((((W6.setCell ⟨G, 2, none⟩ (.int .u32 (a6.toNat : Int))).setCell ⟨G, 7, none⟩ (.int .u32 (b6.toNat : Int))).setCell ⟨G, 8, none⟩ (.int .u32 (c6.toNat : Int))).setCell ⟨G, 13, none⟩ (.int .u32 (d6.toNat : Int))) G 44 (l7.map u32v) ∧ Blk ((((W6.setCell ⟨G, 2, none⟩ (.int .u32 (a6.toNat : Int))).setCell ⟨G, 7, none⟩ (.int .u32 (b6.toNat : Int))).setCell ⟨G, 8, none⟩ (.int .u32 (c6.toNat : Int))).setCell ⟨G, 13, none⟩ (.int .u32 (d6.toNat : Int))) Z 44 z16 ∧ Below w.heap.size w ((((W6.setCell ⟨G, 2, none⟩ (.int .u32 (a6.toNat : Int))).setCell ⟨G, 7, none⟩ (.int .u32 (b6.toNat : Int))).setCell ⟨G, 8, none⟩ (.int .u32 (c6.toNat : Int))).setCell ⟨G, 13, none⟩ (.int .u32 (d6.toNat : Int))) by
        rw [← hl7]
        refine ⟨((((hblk.setWord 2 a6).setWord 7 b6).setWord 8 c6).setWord 13 d6), ((((hz.far (by have := HG.out; simp; omega) _).far (by have := HG.out; simp; omega) _).far (by have := HG.out; simp; omega) _).far (by have := HG.out; simp; omega) _), ?_⟩
        have := HG.out
        exact (((hbel.setCell (by dsimp only; omega) _).setCell (by dsimp only; omega) _).setCell (by dsimp only; omega) _).setCell (by dsimp only; omega) _)
      clear hl7 hx hblk hz hbel
      go_wp2_with fail
      refine (CQ.out _).mono ?_
      rintro e wq ⟨rfl, rfl⟩
      go_upto_region 11 with fail
      clear fa fb fc fd za zb zc zd CQ
      generalize ((((W6.setCell ⟨G, 2, none⟩ (.int .u32 (a6.toNat : Int))).setCell ⟨G, 7, none⟩ (.int .u32 (b6.toNat : Int))).setCell ⟨G, 8, none⟩ (.int .u32 (c6.toNat : Int))).setCell ⟨G, 13, none⟩ (.int .u32 (d6.toNat : Int))) = W7 at HN ⊢
      obtain ⟨hblk, hz, hbel⟩ := HN.out
      clear HN
      have fa := hblk.word 3 (by have := HL7.out; omega)
      have fb := hblk.word 4 (by have := HL7.out; omega)
      have fc := hblk.word 9 (by have := HL7.out; omega)
      have fd := hblk.word 14 (by have := HL7.out; omega)
      have za := hblk.frozen 3
      have zb := hblk.frozen 4
      have zc := hblk.frozen 9
      have zd := hblk.frozen 14
      obtain ⟨⟨a7, b7, c7, d7⟩, hx⟩ : ∃ x, qr (wd l7 3, wd l7 4, wd l7 9, wd l7 14) = x := ⟨_, rfl⟩
      have CQ := Lib.hid (quarter_of hx)
      obtain ⟨l8, hl8⟩ : ∃ l8, quarterW l7 3 4 9 14 = l8 := ⟨_, rfl⟩
      have E8 := Lib.hid hl8
      rw [quarterW_qr l7 HL7.out 3 4 9 14 (by omega) (by omega) (by omega) (by omega) (by omega) (by omega) (by omega) (by omega) (by omega) (by omega), hx] at hl8
      have HL8 := Lib.hid (show l8.length = 16 by rw [← hl8]; simp only [List.length_set]; exact HL7.out)
      have HN := Lib.hid (show Blk ((((W7.setCell ⟨G, 3, none⟩ (.int .u32 (a7.toNat : Int))).setCell ⟨G, 4, none⟩ (.int .u32 (b7.toNat : Int))).setCell ⟨G, 9, none⟩ (.int .u32 (c7.toNat : Int))).setCell ⟨G, 14, none⟩ (.int .u32 (d7.toNat : Int))) G 44 (l8.map u32v) ∧ Blk ((((W7.setCell ⟨G, 3, none⟩ (.int .u32 (a7.toNat : Int))).setCell ⟨G, 4, none⟩ (.int .u32 (b7.toNat : Int))).setCell ⟨G, 9, none⟩ (.int .u32 (c7.toNat : Int))).setCell ⟨G, 14, none⟩ (.int .u32 (d7.toNat : Int))) Z 44 z16 ∧ Below w.heap.size w ((((W7.setCell ⟨G, 3, none⟩ (.int .u32 (a7.toNat : Int))).setCell ⟨G, 4, none⟩ (.int .u32 (b7.toNat : Int))).setCell ⟨G, 9, none⟩ (.int .u32 (c7.toNat : Int))).setCell ⟨G, 14, none⟩ (.int .u32 (d7.toNat : Int))) by
        rw [← hl8]
        refine ⟨((((hblk.setWord 3 a7).setWord 4 b7).setWord 9 c7).setWord 14 d7), ((((hz.far (by have := HG.out; simp; omega) _).far (by have := HG.out; simp; omega) _).far (by have := HG.out; simp; omega) _).far (by have := HG.out; simp; omega) _), ?_⟩
        have := HG.out
        exact (((hbel.setCell (by dsimp only; omega) _).setCell (by dsimp only; omega) _).setCell (by dsimp only; omega) _).setCell (by dsimp only; omega) _)
      clear hl8 hx hblk hz hbel
      go_wp2_with fail
      refine (CQ.out _).mono ?_
      rintro e wq ⟨rfl, rfl⟩
      go_upto_region 12 with fail
      clear fa fb fc fd za zb zc zd CQ
      generalize ((((W7.setCell ⟨G, 3, none⟩ (.int .u32 (a7.toNat : Int))).setCell ⟨G, 4, none⟩ (.int .u32 (b7.toNat : Int))).setCell ⟨G, 9, none⟩ (.int .u32 (c7.toNat : Int))).setCell ⟨G, 14, none⟩ (.int .u32 (d7.toNat : Int))) = W8 at HN ⊢
      obtain ⟨hblk, hz, hbel⟩ := HN.out
      clear HN
      go_wp2_with fail
      go_roundw
      case rel =>
        refine ⟨j + 1, by omega, by go_num, ?_, hz, hbel⟩
        have : coreW (j + 1) l = l8 := by rw [← E8.out, ← E7.out, ← E6.out, ← E5.out, ← E4.out, ← E3.out, ← E2.out, ← E1.out, ← E0.out]; rfl
        rw [this]
        exact hblk
      case measure => simp [intOf]; omega
    · obtain rfl : j = 10 := by omega
      rw [HLZ.out] at hblk
      have HLz := Lib.hid (show lz.length = 16 by rw [← HLZ.out, coreW_length]; exact HL.out)
      have HB := Lib.hid (And.intro hblk (And.intro hz hbel))
      obtain ⟨cz, hcz⟩ : ∃ cz, (lz.map u32v).toArray = cz := ⟨_, rfl⟩
      have HCZ := Lib.hid hcz
      clear hblk hz hbel hcz
      go_wp2_with (first | (refine wpList_load_blk rfl 44 (.tmp 3) rfl G rfl 44 (lz.map u32v) HB.out.1 16 43 Try.underlying44 (by rw [List.length_map, HLz.out]; kernel_rfl) ?_; rw [HCZ.out]) | (refine wpList_store_blk rfl 44 (.tmp 2) (.tmp 152) rfl Z (lz.map u32v) rfl (by show Value.agg cz = _; rw [HCZ.out]) 44 z16 HB.out.2.1 (by rw [List.length_map, HLz.out]; kernel_rfl) (by rw [List.length_map, HLz.out]; rfl) (u32v_one _) ?_; intro w9 hb9 hg9))
      refine bodyPost_ret (results_blk rfl _ _ Z 44 (lz.map u32v) 16 43 rfl hb9 Try.underlying44 (by rw [List.length_map, HLz.out]; kernel_rfl)) rfl ⟨rfl, ?_⟩
      have := HG.out
      exact below_blk HB.out.2.2 hg9 (by omega)
end Go.Proofs.Ytkbefhmgcodpaaa
