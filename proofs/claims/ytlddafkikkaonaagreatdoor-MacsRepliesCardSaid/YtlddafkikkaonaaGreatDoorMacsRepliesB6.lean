/-
  The contract of chacha.Core: ten double rounds of the words. The contract of chacha.readWords: words out of bytes, four for each, the least significant one first. The contract of chacha.initialState: the constants, the words of the key, the counter, the words of the nonce. The mathematics of Poly1305: numbers of seventeen digits, their sums, products and remainders, and the authenticator itself; no function of the program is named here. The mathematics of Poly1305, second half: the remainder, the sum, the product, the authenticator. The mathematics of Poly1305, third part: the least remainder, digits and bytes, the authenticator. The mathematics of ChaCha20-Poly1305: what is sealed and what opening gives. Words of layer 4: arrays of bytes of several lengths, four parts joined by the reference, and what is asked of the layers below. The mathematics of XChaCha20-Poly1305: the derived key, and sealing with a long nonce. What is asked of Reply and OpenReply of layer 12, by a function's number (the program's or the reference's). A cookie is recovered from its reply; the codes of a message are written into its fields. No function of the program is named here. The contracts of the reference's ChaCha20: rotation and quarter round. No statement is proved here.
-/
import Derived.Deep.QuietTactic
import Derived.BigQuiet
import Derived.RegionTactic
import Derived.BigRegion
import Derived.Deep.RegionWith
import Derived.Deep.DeepCutAuto
import Derived.Laws.ShiftsVarLaws
import Derived.Test.YtlddafkikkaonaaGreatDoorMacsRepliesB5
namespace Go.Proofs.YtlddafkikkaonaaGreatDoor
open Go.RowKit
theorem wd_set (l : List UInt32) (i j : Nat) (x : UInt32) (hi : i < l.length) : wd (l.set i x) j = if i = j then x else wd l j := by
 unfold wd
 simp only [List.getD, List.getElem?_set]
 split
 ·
  rename_i h
  subst h
  simp
 · rfl
theorem quarterW_qr (l : List UInt32) (hl : l.length = 16) (a b c d : Nat) (ha : a < 16) (hb : b < 16) (hc : c < 16) (hd : d < 16) (hab : a ≠ b) (hac : a ≠ c) (had : a ≠ d) (hbc : b ≠ c) (hbd : b ≠ d) (hcd : c ≠ d) :
 quarterW l a b c d = (((l.set a (qr (wd l a, wd l b, wd l c, wd l d)).1).set b (qr (wd l a, wd l b, wd l c, wd l d)).2.1).set c (qr (wd l a, wd l b, wd l c, wd l d)).2.2.1).set d (qr (wd l a, wd l b, wd l c, wd l d)).2.2.2 := by
 simp only [quarterW, addW, mixW, qr]
 simp only [wd_set, List.length_set, hl, ha, hb, hc, hd, hab, hac, had, hbc, hbd, hcd, hab.symm, hac.symm, had.symm, hbc.symm, hbd.symm, hcd.symm, if_true, if_false]
 apply List.ext_getElem?
 intro i
 simp only [List.getElem?_set, List.length_set, hl, ha, hb, hc, hd]
 by_cases h1 : a = i
 ·
  subst h1
  simp [hab.symm, hac.symm, had.symm]
 ·
  by_cases h2 : b = i
  ·
   subst h2
   simp [hbc.symm, hbd.symm]
  ·
   by_cases h3 : c = i
   ·
    subst h3
    simp [hbc, hcd.symm]
   ·
    by_cases h4 : d = i
    ·
     subst h4
     simp [hbd, hcd]
    · simp [h1, h2, h3, h4]
/-- sixteen words, all 0 -/
def z16 : List Value := [.int .u32 0, .int .u32 0, .int .u32 0, .int .u32 0, .int .u32 0, .int .u32 0, .int .u32 0, .int .u32 0, .int .u32 0, .int .u32 0, .int .u32 0, .int .u32 0, .int .u32 0, .int .u32 0, .int .u32 0, .int .u32 0]
set_option maxRecDepth 100000 in
set_option maxHeartbeats 8000000 in
theorem core_any (l : List UInt32) (hl : l.length = 16) (w : World) :
 Calls Tryz.prog 68 #[.agg (l.map u32v).toArray] w fun e w' => e = .returned (.agg ((coreW 10 l).map u32v).toArray) ∧ Below w.heap.size w w' := by
 obtain ⟨cl, hcl⟩ : ∃ cl, (l.map u32v).toArray = cl := ⟨_, rfl⟩
 rw [hcl]
 have HB0 := Lib.hid (show Blk (w.alloc (.cells cl 86)) w.heap.size 86 (l.map u32v) by rw [← hcl]; exact Blk.new w _ _)
 obtain ⟨lz, hlz⟩ : ∃ lz, coreW 10 l = lz := ⟨_, rfl⟩
 rw [hlz]
 have HLZ := Lib.hid hlz
 have HL := Lib.hid hl
 clear hl hlz
 go_enter Tryz.func68, Tryz.ntmps68
 go_wp2_with (first | (refine wpList_load_blk rfl 86 (.tmp 1) rfl w.heap.size rfl 86 (l.map u32v) (HB0.out.alloc _) 16 28 Tryz.underlying86 (by rw [List.length_map, HL.out]; kernel_rfl) ?_) | (refine wpList_store_blk rfl 86 (.tmp 3) (.tmp 4) rfl (w.heap.size + 1 + 1) (l.map u32v) rfl (by first | rfl | (show Value.agg cl = _; rw [hcl])) 86 z16 (Blk.new' ((w.alloc (.cells cl 86)).alloc (.cells z16.toArray 86)) (by simp) 86 z16) (by rw [List.length_map, HL.out]; kernel_rfl) (by rw [List.length_map, HL.out]; rfl) (u32v_one _) ?_; intro w1 hb1 hg1))
 have hz1 : Blk w1 (w.heap.size + 1) 86 z16 := ((Blk.new' (w.alloc (.cells cl 86)) (by simp) 86 z16).alloc _).grown hg1 (by simp)
 have hbel1 : Below w.heap.size w w1 := Below.grown ((((Below.refl _ _).alloc (Nat.le_refl _) _).alloc (by simp) _).alloc (by simp; omega) _) hg1 (by simp; omega) (by intro k hk; injection hk with hk; omega)
 clear hg1 HB0 hcl
 generalize hG : w.heap.size + 1 + 1 = G at hb1 ⊢
 generalize hZ : w.heap.size + 1 = Z at hz1 ⊢
 have HG := Lib.hid (And.intro hG hZ)
 clear hG hZ
 go_loopw [5] (fun i wr => ∃ j : Nat, j ≤ 10 ∧ i = .int .i64 j ∧ Blk wr G 86 ((coreW j l).map u32v) ∧ Blk wr Z 86 z16 ∧ Below w.heap.size w wr) (fun i _ => 10 - (intOf i).toNat)
 case atStart => exact ⟨0, by omega, rfl, hb1, hz1, hbel1⟩
 case round =>
  obtain ⟨j, hj, rfl, hblk, hz, hbel⟩ := hrel
  clear hb1 hz1 hbel1
  by_cases hlt : j < 10
  ·
   obtain ⟨l0, hl0⟩ : ∃ l0, coreW j l = l0 := ⟨_, rfl⟩
   rw [hl0] at hblk
   have HL0 := Lib.hid (show l0.length = 16 by rw [← hl0, coreW_length]; exact HL.out)
   have E0 := Lib.hid hl0
   clear hl0
   have h6 : decide ((j : Int) < 10) = true := by simp; omega
   go_upto_region 4 with fail
   clear h6
   have fa := hblk.word 0 (by have := HL0.out; omega)
   have fb := hblk.word 4 (by have := HL0.out; omega)
   have fc := hblk.word 8 (by have := HL0.out; omega)
   have fd := hblk.word 12 (by have := HL0.out; omega)
   have za := hblk.frozen 0
   have zb := hblk.frozen 4
   have zc := hblk.frozen 8
   have zd := hblk.frozen 12
   obtain ⟨⟨a0, b0, c0, d0⟩, hx⟩ : ∃ x, qr (wd l0 0, wd l0 4, wd l0 8, wd l0 12) = x := ⟨_, rfl⟩
   have CQ := Lib.hid (quarter_of hx)
   obtain ⟨l1, hl1⟩ : ∃ l1, quarterW l0 0 4 8 12 = l1 := ⟨_, rfl⟩
   have E1 := Lib.hid hl1
   rw [quarterW_qr l0 HL0.out 0 4 8 12 (by omega) (by omega) (by omega) (by omega) (by omega) (by omega) (by omega) (by omega) (by omega) (by omega), hx] at hl1
   have HL1 := Lib.hid (show l1.length = 16 by rw [← hl1]; simp only [List.length_set]; exact HL0.out)
   have HN := Lib.hid (show Blk ((((wr.setCell ⟨G, 0, none⟩ (.int .u32 (a0.toNat : Int))).setCell ⟨G, 4, none⟩ (.int .u32 (b0.toNat : Int))).setCell ⟨G, 8, none⟩ (.int .u32 (c0.toNat : Int))).setCell ⟨G, 12, none⟩ (.int .u32 (d0.toNat : Int))) G 86 (l1.map u32v) ∧ Blk ((((wr.setCell ⟨G, 0, none⟩ (.int .u32 (a0.toNat : Int))).setCell ⟨G, 4, none⟩ (.int .u32 (b0.toNat : Int))).setCell ⟨G, 8, none⟩ (.int .u32 (c0.toNat : Int))).setCell ⟨G, 12, none⟩ (.int .u32 (d0.toNat : Int))) Z 86 z16 ∧ Below w.heap.size w ((((wr.setCell ⟨G, 0, none⟩ (.int .u32 (a0.toNat : Int))).setCell ⟨G, 4, none⟩ (.int .u32 (b0.toNat : Int))).setCell ⟨G, 8, none⟩ (.int .u32 (c0.toNat : Int))).setCell ⟨G, 12, none⟩ (.int .u32 (d0.toNat : Int))) by
    rw [← hl1]
    refine ⟨((((hblk.setWord 0 a0).setWord 4 b0).setWord 8 c0).setWord 12 d0), ((((hz.far (by have := HG.out; simp; omega) _).far (by have := HG.out; simp; omega) _).far (by have := HG.out; simp; omega) _).far (by have := HG.out; simp; omega) _), ?_⟩
    have := HG.out
    exact (((hbel.setCell (by dsimp only; omega) _).setCell (by dsimp only; omega) _).setCell (by dsimp only; omega) _).setCell (by dsimp only; omega) _)
   clear hl1 hx hblk hz hbel
   go_wp2_with fail
   refine (CQ.out _).mono ?_
   rintro e wq ⟨rfl, rfl⟩
   go_upto_region 5 with fail
   clear fa fb fc fd za zb zc zd CQ
   generalize ((((wr.setCell ⟨G, 0, none⟩ (.int .u32 (a0.toNat : Int))).setCell ⟨G, 4, none⟩ (.int .u32 (b0.toNat : Int))).setCell ⟨G, 8, none⟩ (.int .u32 (c0.toNat : Int))).setCell ⟨G, 12, none⟩ (.int .u32 (d0.toNat : Int))) = W1 at HN ⊢
   obtain ⟨hblk, hz, hbel⟩ := HN.out
   clear HN
   have fa := hblk.word 1 (by have := HL1.out; omega)
   have fb := hblk.word 5 (by have := HL1.out; omega)
   have fc := hblk.word 9 (by have := HL1.out; omega)
   have fd := hblk.word 13 (by have := HL1.out; omega)
   have za := hblk.frozen 1
   have zb := hblk.frozen 5
   have zc := hblk.frozen 9
   have zd := hblk.frozen 13
   obtain ⟨⟨a1, b1, c1, d1⟩, hx⟩ : ∃ x, qr (wd l1 1, wd l1 5, wd l1 9, wd l1 13) = x := ⟨_, rfl⟩
   have CQ := Lib.hid (quarter_of hx)
   obtain ⟨l2, hl2⟩ : ∃ l2, quarterW l1 1 5 9 13 = l2 := ⟨_, rfl⟩
   have E2 := Lib.hid hl2
   rw [quarterW_qr l1 HL1.out 1 5 9 13 (by omega) (by omega) (by omega) (by omega) (by omega) (by omega) (by omega) (by omega) (by omega) (by omega), hx] at hl2
   have HL2 := Lib.hid (show l2.length = 16 by rw [← hl2]; simp only [List.length_set]; exact HL1.out)
   have HN := Lib.hid (show Blk ((((W1.setCell ⟨G, 1, none⟩ (.int .u32 (a1.toNat : Int))).setCell ⟨G, 5, none⟩ (.int .u32 (b1.toNat : Int))).setCell ⟨G, 9, none⟩ (.int .u32 (c1.toNat : Int))).setCell ⟨G, 13, none⟩ (.int .u32 (d1.toNat : Int))) G 86 (l2.map u32v) ∧ Blk ((((W1.setCell ⟨G, 1, none⟩ (.int .u32 (a1.toNat : Int))).setCell ⟨G, 5, none⟩ (.int .u32 (b1.toNat : Int))).setCell ⟨G, 9, none⟩ (.int .u32 (c1.toNat : Int))).setCell ⟨G, 13, none⟩ (.int .u32 (d1.toNat : Int))) Z 86 z16 ∧ Below w.heap.size w ((((W1.setCell ⟨G, 1, none⟩ (.int .u32 (a1.toNat : Int))).setCell ⟨G, 5, none⟩ (.int .u32 (b1.toNat : Int))).setCell ⟨G, 9, none⟩ (.int .u32 (c1.toNat : Int))).setCell ⟨G, 13, none⟩ (.int .u32 (d1.toNat : Int))) by
    rw [← hl2]
    refine ⟨((((hblk.setWord 1 a1).setWord 5 b1).setWord 9 c1).setWord 13 d1), ((((hz.far (by have := HG.out; simp; omega) _).far (by have := HG.out; simp; omega) _).far (by have := HG.out; simp; omega) _).far (by have := HG.out; simp; omega) _), ?_⟩
    have := HG.out
    exact (((hbel.setCell (by dsimp only; omega) _).setCell (by dsimp only; omega) _).setCell (by dsimp only; omega) _).setCell (by dsimp only; omega) _)
   clear hl2 hx hblk hz hbel
   go_wp2_with fail
   refine (CQ.out _).mono ?_
   rintro e wq ⟨rfl, rfl⟩
   go_upto_region 6 with fail
   clear fa fb fc fd za zb zc zd CQ
   generalize ((((W1.setCell ⟨G, 1, none⟩ (.int .u32 (a1.toNat : Int))).setCell ⟨G, 5, none⟩ (.int .u32 (b1.toNat : Int))).setCell ⟨G, 9, none⟩ (.int .u32 (c1.toNat : Int))).setCell ⟨G, 13, none⟩ (.int .u32 (d1.toNat : Int))) = W2 at HN ⊢
   obtain ⟨hblk, hz, hbel⟩ := HN.out
   clear HN
   have fa := hblk.word 2 (by have := HL2.out; omega)
   have fb := hblk.word 6 (by have := HL2.out; omega)
   have fc := hblk.word 10 (by have := HL2.out; omega)
   have fd := hblk.word 14 (by have := HL2.out; omega)
   have za := hblk.frozen 2
   have zb := hblk.frozen 6
   have zc := hblk.frozen 10
   have zd := hblk.frozen 14
   obtain ⟨⟨a2, b2, c2, d2⟩, hx⟩ : ∃ x, qr (wd l2 2, wd l2 6, wd l2 10, wd l2 14) = x := ⟨_, rfl⟩
   have CQ := Lib.hid (quarter_of hx)
   obtain ⟨l3, hl3⟩ : ∃ l3, quarterW l2 2 6 10 14 = l3 := ⟨_, rfl⟩
   have E3 := Lib.hid hl3
   rw [quarterW_qr l2 HL2.out 2 6 10 14 (by omega) (by omega) (by omega) (by omega) (by omega) (by omega) (by omega) (by omega) (by omega) (by omega), hx] at hl3
   have HL3 := Lib.hid (show l3.length = 16 by rw [← hl3]; simp only [List.length_set]; exact HL2.out)
   have HN := Lib.hid (show Blk ((((W2.setCell ⟨G, 2, none⟩ (.int .u32 (a2.toNat : Int))).setCell ⟨G, 6, none⟩ (.int .u32 (b2.toNat : Int))).setCell ⟨G, 10, none⟩ (.int .u32 (c2.toNat : Int))).setCell ⟨G, 14, none⟩ (.int .u32 (d2.toNat : Int))) G 86 (l3.map u32v) ∧ Blk ((((W2.setCell ⟨G, 2, none⟩ (.int .u32 (a2.toNat : Int))).setCell ⟨G, 6, none⟩ (.int .u32 (b2.toNat : Int))).setCell ⟨G, 10, none⟩ (.int .u32 (c2.toNat : Int))).setCell ⟨G, 14, none⟩ (.int .u32 (d2.toNat : Int))) Z 86 z16 ∧ Below w.heap.size w ((((W2.setCell ⟨G, 2, none⟩ (.int .u32 (a2.toNat : Int))).setCell ⟨G, 6, none⟩ (.int .u32 (b2.toNat : Int))).setCell ⟨G, 10, none⟩ (.int .u32 (c2.toNat : Int))).setCell ⟨G, 14, none⟩ (.int .u32 (d2.toNat : Int))) by
    rw [← hl3]
    refine ⟨((((hblk.setWord 2 a2).setWord 6 b2).setWord 10 c2).setWord 14 d2), ((((hz.far (by have := HG.out; simp; omega) _).far (by have := HG.out; simp; omega) _).far (by have := HG.out; simp; omega) _).far (by have := HG.out; simp; omega) _), ?_⟩
    have := HG.out
    exact (((hbel.setCell (by dsimp only; omega) _).setCell (by dsimp only; omega) _).setCell (by dsimp only; omega) _).setCell (by dsimp only; omega) _)
   clear hl3 hx hblk hz hbel
   go_wp2_with fail
   refine (CQ.out _).mono ?_
   rintro e wq ⟨rfl, rfl⟩
   go_upto_region 7 with fail
   clear fa fb fc fd za zb zc zd CQ
   generalize ((((W2.setCell ⟨G, 2, none⟩ (.int .u32 (a2.toNat : Int))).setCell ⟨G, 6, none⟩ (.int .u32 (b2.toNat : Int))).setCell ⟨G, 10, none⟩ (.int .u32 (c2.toNat : Int))).setCell ⟨G, 14, none⟩ (.int .u32 (d2.toNat : Int))) = W3 at HN ⊢
   obtain ⟨hblk, hz, hbel⟩ := HN.out
   clear HN
   have fa := hblk.word 3 (by have := HL3.out; omega)
   have fb := hblk.word 7 (by have := HL3.out; omega)
   have fc := hblk.word 11 (by have := HL3.out; omega)
   have fd := hblk.word 15 (by have := HL3.out; omega)
   have za := hblk.frozen 3
   have zb := hblk.frozen 7
   have zc := hblk.frozen 11
   have zd := hblk.frozen 15
   obtain ⟨⟨a3, b3, c3, d3⟩, hx⟩ : ∃ x, qr (wd l3 3, wd l3 7, wd l3 11, wd l3 15) = x := ⟨_, rfl⟩
   have CQ := Lib.hid (quarter_of hx)
   obtain ⟨l4, hl4⟩ : ∃ l4, quarterW l3 3 7 11 15 = l4 := ⟨_, rfl⟩
   have E4 := Lib.hid hl4
   rw [quarterW_qr l3 HL3.out 3 7 11 15 (by omega) (by omega) (by omega) (by omega) (by omega) (by omega) (by omega) (by omega) (by omega) (by omega), hx] at hl4
   have HL4 := Lib.hid (show l4.length = 16 by rw [← hl4]; simp only [List.length_set]; exact HL3.out)
   have HN := Lib.hid (show Blk ((((W3.setCell ⟨G, 3, none⟩ (.int .u32 (a3.toNat : Int))).setCell ⟨G, 7, none⟩ (.int .u32 (b3.toNat : Int))).setCell ⟨G, 11, none⟩ (.int .u32 (c3.toNat : Int))).setCell ⟨G, 15, none⟩ (.int .u32 (d3.toNat : Int))) G 86 (l4.map u32v) ∧ Blk ((((W3.setCell ⟨G, 3, none⟩ (.int .u32 (a3.toNat : Int))).setCell ⟨G, 7, none⟩ (.int .u32 (b3.toNat : Int))).setCell ⟨G, 11, none⟩ (.int .u32 (c3.toNat : Int))).setCell ⟨G, 15, none⟩ (.int .u32 (d3.toNat : Int))) Z 86 z16 ∧ Below w.heap.size w ((((W3.setCell ⟨G, 3, none⟩ (.int .u32 (a3.toNat : Int))).setCell ⟨G, 7, none⟩ (.int .u32 (b3.toNat : Int))).setCell ⟨G, 11, none⟩ (.int .u32 (c3.toNat : Int))).setCell ⟨G, 15, none⟩ (.int .u32 (d3.toNat : Int))) by
    rw [← hl4]
    refine ⟨((((hblk.setWord 3 a3).setWord 7 b3).setWord 11 c3).setWord 15 d3), ((((hz.far (by have := HG.out; simp; omega) _).far (by have := HG.out; simp; omega) _).far (by have := HG.out; simp; omega) _).far (by have := HG.out; simp; omega) _), ?_⟩
    have := HG.out
    exact (((hbel.setCell (by dsimp only; omega) _).setCell (by dsimp only; omega) _).setCell (by dsimp only; omega) _).setCell (by dsimp only; omega) _)
   clear hl4 hx hblk hz hbel
   go_wp2_with fail
   refine (CQ.out _).mono ?_
   rintro e wq ⟨rfl, rfl⟩
   go_upto_region 8 with fail
   clear fa fb fc fd za zb zc zd CQ
   generalize ((((W3.setCell ⟨G, 3, none⟩ (.int .u32 (a3.toNat : Int))).setCell ⟨G, 7, none⟩ (.int .u32 (b3.toNat : Int))).setCell ⟨G, 11, none⟩ (.int .u32 (c3.toNat : Int))).setCell ⟨G, 15, none⟩ (.int .u32 (d3.toNat : Int))) = W4 at HN ⊢
   obtain ⟨hblk, hz, hbel⟩ := HN.out
   clear HN
   have fa := hblk.word 0 (by have := HL4.out; omega)
   have fb := hblk.word 5 (by have := HL4.out; omega)
   have fc := hblk.word 10 (by have := HL4.out; omega)
   have fd := hblk.word 15 (by have := HL4.out; omega)
   have za := hblk.frozen 0
   have zb := hblk.frozen 5
   have zc := hblk.frozen 10
   have zd := hblk.frozen 15
   obtain ⟨⟨a4, b4, c4, d4⟩, hx⟩ : ∃ x, qr (wd l4 0, wd l4 5, wd l4 10, wd l4 15) = x := ⟨_, rfl⟩
   have CQ := Lib.hid (quarter_of hx)
   obtain ⟨l5, hl5⟩ : ∃ l5, quarterW l4 0 5 10 15 = l5 := ⟨_, rfl⟩
   have E5 := Lib.hid hl5
   rw [quarterW_qr l4 HL4.out 0 5 10 15 (by omega) (by omega) (by omega) (by omega) (by omega) (by omega) (by omega) (by omega) (by omega) (by omega), hx] at hl5
   have HL5 := Lib.hid (show l5.length = 16 by rw [← hl5]; simp only [List.length_set]; exact HL4.out)
   have HN := Lib.hid (show Blk ((((W4.setCell ⟨G, 0, none⟩ (.int .u32 (a4.toNat : Int))).setCell ⟨G, 5, none⟩ (.int .u32 (b4.toNat : Int))).setCell ⟨G, 10, none⟩ (.int .u32 (c4.toNat : Int))).setCell ⟨G, 15, none⟩ (.int .u32 (d4.toNat : Int))) G 86 (l5.map u32v) ∧ Blk ((((W4.setCell ⟨G, 0, none⟩ (.int .u32 (a4.toNat : Int))).setCell ⟨G, 5, none⟩ (.int .u32 (b4.toNat : Int))).setCell ⟨G, 10, none⟩ (.int .u32 (c4.toNat : Int))).setCell ⟨G, 15, none⟩ (.int .u32 (d4.toNat : Int))) Z 86 z16 ∧ Below w.heap.size w ((((W4.setCell ⟨G, 0, none⟩ (.int .u32 (a4.toNat : Int))).setCell ⟨G, 5, none⟩ (.int .u32 (b4.toNat : Int))).setCell ⟨G, 10, none⟩ (.int .u32 (c4.toNat : Int))).setCell ⟨G, 15, none⟩ (.int .u32 (d4.toNat : Int))) by
    rw [← hl5]
    refine ⟨((((hblk.setWord 0 a4).setWord 5 b4).setWord 10 c4).setWord 15 d4), ((((hz.far (by have := HG.out; simp; omega) _).far (by have := HG.out; simp; omega) _).far (by have := HG.out; simp; omega) _).far (by have := HG.out; simp; omega) _), ?_⟩
    have := HG.out
    exact (((hbel.setCell (by dsimp only; omega) _).setCell (by dsimp only; omega) _).setCell (by dsimp only; omega) _).setCell (by dsimp only; omega) _)
   clear hl5 hx hblk hz hbel
   go_wp2_with fail
   refine (CQ.out _).mono ?_
   rintro e wq ⟨rfl, rfl⟩
   go_upto_region 9 with fail
   clear fa fb fc fd za zb zc zd CQ
   generalize ((((W4.setCell ⟨G, 0, none⟩ (.int .u32 (a4.toNat : Int))).setCell ⟨G, 5, none⟩ (.int .u32 (b4.toNat : Int))).setCell ⟨G, 10, none⟩ (.int .u32 (c4.toNat : Int))).setCell ⟨G, 15, none⟩ (.int .u32 (d4.toNat : Int))) = W5 at HN ⊢
   obtain ⟨hblk, hz, hbel⟩ := HN.out
   clear HN
   have fa := hblk.word 1 (by have := HL5.out; omega)
   have fb := hblk.word 6 (by have := HL5.out; omega)
   have fc := hblk.word 11 (by have := HL5.out; omega)
   have fd := hblk.word 12 (by have := HL5.out; omega)
   have za := hblk.frozen 1
   have zb := hblk.frozen 6
   have zc := hblk.frozen 11
   have zd := hblk.frozen 12
   obtain ⟨⟨a5, b5, c5, d5⟩, hx⟩ : ∃ x, qr (wd l5 1, wd l5 6, wd l5 11, wd l5 12) = x := ⟨_, rfl⟩
   have CQ := Lib.hid (quarter_of hx)
   obtain ⟨l6, hl6⟩ : ∃ l6, quarterW l5 1 6 11 12 = l6 := ⟨_, rfl⟩
   have E6 := Lib.hid hl6
   rw [quarterW_qr l5 HL5.out 1 6 11 12 (by omega) (by omega) (by omega) (by omega) (by omega) (by omega) (by omega) (by omega) (by omega) (by omega), hx] at hl6
   have HL6 := Lib.hid (show l6.length = 16 by rw [← hl6]; simp only [List.length_set]; exact HL5.out)
   have HN := Lib.hid (show Blk ((((W5.setCell ⟨G, 1, none⟩ (.int .u32 (a5.toNat : Int))).setCell ⟨G, 6, none⟩ (.int .u32 (b5.toNat : Int))).setCell ⟨G, 11, none⟩ (.int .u32 (c5.toNat : Int))).setCell ⟨G, 12, none⟩ (.int .u32 (d5.toNat : Int))) G 86 (l6.map u32v) ∧ Blk ((((W5.setCell ⟨G, 1, none⟩ (.int .u32 (a5.toNat : Int))).setCell ⟨G, 6, none⟩ (.int .u32 (b5.toNat : Int))).setCell ⟨G, 11, none⟩ (.int .u32 (c5.toNat : Int))).setCell ⟨G, 12, none⟩ (.int .u32 (d5.toNat : Int))) Z 86 z16 ∧ Below w.heap.size w ((((W5.setCell ⟨G, 1, none⟩ (.int .u32 (a5.toNat : Int))).setCell ⟨G, 6, none⟩ (.int .u32 (b5.toNat : Int))).setCell ⟨G, 11, none⟩ (.int .u32 (c5.toNat : Int))).setCell ⟨G, 12, none⟩ (.int .u32 (d5.toNat : Int))) by
    rw [← hl6]
    refine ⟨((((hblk.setWord 1 a5).setWord 6 b5).setWord 11 c5).setWord 12 d5), ((((hz.far (by have := HG.out; simp; omega) _).far (by have := HG.out; simp; omega) _).far (by have := HG.out; simp; omega) _).far (by have := HG.out; simp; omega) _), ?_⟩
    have := HG.out
    exact (((hbel.setCell (by dsimp only; omega) _).setCell (by dsimp only; omega) _).setCell (by dsimp only; omega) _).setCell (by dsimp only; omega) _)
   clear hl6 hx hblk hz hbel
   go_wp2_with fail
   refine (CQ.out _).mono ?_
   rintro e wq ⟨rfl, rfl⟩
   go_upto_region 10 with fail
   clear fa fb fc fd za zb zc zd CQ
   generalize ((((W5.setCell ⟨G, 1, none⟩ (.int .u32 (a5.toNat : Int))).setCell ⟨G, 6, none⟩ (.int .u32 (b5.toNat : Int))).setCell ⟨G, 11, none⟩ (.int .u32 (c5.toNat : Int))).setCell ⟨G, 12, none⟩ (.int .u32 (d5.toNat : Int))) = W6 at HN ⊢
   obtain ⟨hblk, hz, hbel⟩ := HN.out
   clear HN
   have fa := hblk.word 2 (by have := HL6.out; omega)
   have fb := hblk.word 7 (by have := HL6.out; omega)
   have fc := hblk.word 8 (by have := HL6.out; omega)
   have fd := hblk.word 13 (by have := HL6.out; omega)
   have za := hblk.frozen 2
   have zb := hblk.frozen 7
   have zc := hblk.frozen 8
   have zd := hblk.frozen 13
   obtain ⟨⟨a6, b6, c6, d6⟩, hx⟩ : ∃ x, qr (wd l6 2, wd l6 7, wd l6 8, wd l6 13) = x := ⟨_, rfl⟩
   have CQ := Lib.hid (quarter_of hx)
   obtain ⟨l7, hl7⟩ : ∃ l7, quarterW l6 2 7 8 13 = l7 := ⟨_, rfl⟩
   have E7 := Lib.hid hl7
   rw [quarterW_qr l6 HL6.out 2 7 8 13 (by omega) (by omega) (by omega) (by omega) (by omega) (by omega) (by omega) (by omega) (by omega) (by omega), hx] at hl7
   have HL7 := Lib.hid (show l7.length = 16 by rw [← hl7]; simp only [List.length_set]; exact HL6.out)
   have HN := Lib.hid (show Blk ((((W6.setCell ⟨G, 2, none⟩ (.int .u32 (a6.toNat : Int))).setCell ⟨G, 7, none⟩ (.int .u32 (b6.toNat : Int))).setCell ⟨G, 8, none⟩ (.int .u32 (c6.toNat : Int))).setCell ⟨G, 13, none⟩ (.int .u32 (d6.toNat : Int))) G 86 (l7.map u32v) ∧ Blk ((((W6.setCell ⟨G, 2, none⟩ (.int .u32 (a6.toNat : Int))).setCell ⟨G, 7, none⟩ (.int .u32 (b6.toNat : Int))).setCell ⟨G, 8, none⟩ (.int .u32 (c6.toNat : Int))).setCell ⟨G, 13, none⟩ (.int .u32 (d6.toNat : Int))) Z 86 z16 ∧ Below w.heap.size w ((((W6.setCell ⟨G, 2, none⟩ (.int .u32 (a6.toNat : Int))).setCell ⟨G, 7, none⟩ (.int .u32 (b6.toNat : Int))).setCell ⟨G, 8, none⟩ (.int .u32 (c6.toNat : Int))).setCell ⟨G, 13, none⟩ (.int .u32 (d6.toNat : Int))) by
    rw [← hl7]
    refine ⟨((((hblk.setWord 2 a6).setWord 7 b6).setWord 8 c6).setWord 13 d6), ((((hz.far (by have := HG.out; simp; omega) _).far (by have := HG.out; simp; omega) _).far (by have := HG.out; simp; omega) _).far (by have := HG.out; simp; omega) _), ?_⟩
    have := HG.out
    exact (((hbel.setCell (by dsimp only; omega) _).setCell (by dsimp only; omega) _).setCell (by dsimp only; omega) _).setCell (by dsimp only; omega) _)
   clear hl7 hx hblk hz hbel
   go_wp2_with fail
   refine (CQ.out _).mono ?_
   rintro e wq ⟨rfl, rfl⟩
   go_upto_region 11 with fail
   clear fa fb fc fd za zb zc zd CQ
   generalize ((((W6.setCell ⟨G, 2, none⟩ (.int .u32 (a6.toNat : Int))).setCell ⟨G, 7, none⟩ (.int .u32 (b6.toNat : Int))).setCell ⟨G, 8, none⟩ (.int .u32 (c6.toNat : Int))).setCell ⟨G, 13, none⟩ (.int .u32 (d6.toNat : Int))) = W7 at HN ⊢
   obtain ⟨hblk, hz, hbel⟩ := HN.out
   clear HN
   have fa := hblk.word 3 (by have := HL7.out; omega)
   have fb := hblk.word 4 (by have := HL7.out; omega)
   have fc := hblk.word 9 (by have := HL7.out; omega)
   have fd := hblk.word 14 (by have := HL7.out; omega)
   have za := hblk.frozen 3
   have zb := hblk.frozen 4
   have zc := hblk.frozen 9
   have zd := hblk.frozen 14
   obtain ⟨⟨a7, b7, c7, d7⟩, hx⟩ : ∃ x, qr (wd l7 3, wd l7 4, wd l7 9, wd l7 14) = x := ⟨_, rfl⟩
   have CQ := Lib.hid (quarter_of hx)
   obtain ⟨l8, hl8⟩ : ∃ l8, quarterW l7 3 4 9 14 = l8 := ⟨_, rfl⟩
   have E8 := Lib.hid hl8
   rw [quarterW_qr l7 HL7.out 3 4 9 14 (by omega) (by omega) (by omega) (by omega) (by omega) (by omega) (by omega) (by omega) (by omega) (by omega), hx] at hl8
   have HL8 := Lib.hid (show l8.length = 16 by rw [← hl8]; simp only [List.length_set]; exact HL7.out)
   have HN := Lib.hid (show Blk ((((W7.setCell ⟨G, 3, none⟩ (.int .u32 (a7.toNat : Int))).setCell ⟨G, 4, none⟩ (.int .u32 (b7.toNat : Int))).setCell ⟨G, 9, none⟩ (.int .u32 (c7.toNat : Int))).setCell ⟨G, 14, none⟩ (.int .u32 (d7.toNat : Int))) G 86 (l8.map u32v) ∧ Blk ((((W7.setCell ⟨G, 3, none⟩ (.int .u32 (a7.toNat : Int))).setCell ⟨G, 4, none⟩ (.int .u32 (b7.toNat : Int))).setCell ⟨G, 9, none⟩ (.int .u32 (c7.toNat : Int))).setCell ⟨G, 14, none⟩ (.int .u32 (d7.toNat : Int))) Z 86 z16 ∧ Below w.heap.size w ((((W7.setCell ⟨G, 3, none⟩ (.int .u32 (a7.toNat : Int))).setCell ⟨G, 4, none⟩ (.int .u32 (b7.toNat : Int))).setCell ⟨G, 9, none⟩ (.int .u32 (c7.toNat : Int))).setCell ⟨G, 14, none⟩ (.int .u32 (d7.toNat : Int))) by
    rw [← hl8]
    refine ⟨((((hblk.setWord 3 a7).setWord 4 b7).setWord 9 c7).setWord 14 d7), ((((hz.far (by have := HG.out; simp; omega) _).far (by have := HG.out; simp; omega) _).far (by have := HG.out; simp; omega) _).far (by have := HG.out; simp; omega) _), ?_⟩
    have := HG.out
    exact (((hbel.setCell (by dsimp only; omega) _).setCell (by dsimp only; omega) _).setCell (by dsimp only; omega) _).setCell (by dsimp only; omega) _)
   clear hl8 hx hblk hz hbel
   go_wp2_with fail
   refine (CQ.out _).mono ?_
   rintro e wq ⟨rfl, rfl⟩
   go_upto_region 12 with fail
   clear fa fb fc fd za zb zc zd CQ
   generalize ((((W7.setCell ⟨G, 3, none⟩ (.int .u32 (a7.toNat : Int))).setCell ⟨G, 4, none⟩ (.int .u32 (b7.toNat : Int))).setCell ⟨G, 9, none⟩ (.int .u32 (c7.toNat : Int))).setCell ⟨G, 14, none⟩ (.int .u32 (d7.toNat : Int))) = W8 at HN ⊢
   obtain ⟨hblk, hz, hbel⟩ := HN.out
   clear HN
   go_wp2_with fail
   go_roundw
   case rel =>
    refine ⟨j + 1, by omega, by go_num, ?_, hz, hbel⟩
    have : coreW (j + 1) l = l8 := by rw [← E8.out, ← E7.out, ← E6.out, ← E5.out, ← E4.out, ← E3.out, ← E2.out, ← E1.out, ← E0.out]; rfl
    rw [this]
    exact hblk
   case measure => simp [intOf]; omega
  ·
   obtain rfl : j = 10 := by omega
   rw [HLZ.out] at hblk
   have HLz := Lib.hid (show lz.length = 16 by rw [← HLZ.out, coreW_length]; exact HL.out)
   have HB := Lib.hid (And.intro hblk (And.intro hz hbel))
   obtain ⟨cz, hcz⟩ : ∃ cz, (lz.map u32v).toArray = cz := ⟨_, rfl⟩
   have HCZ := Lib.hid hcz
   clear hblk hz hbel hcz
   go_wp2_with (first | (refine wpList_load_blk rfl 86 (.tmp 3) rfl G rfl 86 (lz.map u32v) HB.out.1 16 28 Tryz.underlying86 (by rw [List.length_map, HLz.out]; kernel_rfl) ?_; rw [HCZ.out]) | (refine wpList_store_blk rfl 86 (.tmp 2) (.tmp 152) rfl Z (lz.map u32v) rfl (by show Value.agg cz = _; rw [HCZ.out]) 86 z16 HB.out.2.1 (by rw [List.length_map, HLz.out]; kernel_rfl) (by rw [List.length_map, HLz.out]; rfl) (u32v_one _) ?_; intro w9 hb9 hg9))
   refine bodyPost_ret (results_blk rfl _ _ Z 86 (lz.map u32v) 16 28 rfl hb9 Tryz.underlying86 (by rw [List.length_map, HLz.out]; kernel_rfl)) rfl ⟨rfl, ?_⟩
   have := HG.out
   exact below_blk HB.out.2.2 hg9 (by omega)
theorem readWords_any (G off n c kb m : Nat) (t tk : TypeId) (l : List UInt32) (bs : List UInt8) (hl : l.length = 16) (hoff : off + n ≤ 16) (hc : n ≤ c) (hb : bs.length = m) (hm : 4 * n ≤ m) (hm2 : m ≤ 1000) (hkG : G ≠ kb) (w : World) (hG : Blk w G t (l.map u32v)) (hK : Blk w kb tk (bs.map u8v)) :
 Calls Tryz.prog 99 #[.slice (some ⟨G, off, none⟩) n c, .slice (some ⟨kb, 0, none⟩) m m] w fun e w' => e = .returned (.tuple #[]) ∧ Blk w' G t ((fillW l off (wordL bs) n).map u32v) ∧ w.grownBy w' (some G) := by
 have HG := Lib.hid hG
 have HK := Lib.hid hK
 have HL := Lib.hid hl
 have HB := Lib.hid hb
 have HKG := Lib.hid hkG
 clear hG hK hl hb hkG
 go_enter Tryz.func99, Tryz.ntmps99
 go_wp2
 go_loopw [7, 4] (fun i _ wr => ∃ j : Nat, j ≤ n ∧ i = .int .i64 j ∧ Blk wr G t ((fillW l off (wordL bs) j).map u32v) ∧ Blk wr kb tk (bs.map u8v) ∧ w.grownBy wr (some G)) (fun i _ _ => n - (intOf i).toNat)
 case atStart => exact ⟨0, by omega, rfl, HG.out, HK.out, World.grownBy.refl _ _⟩
 case round =>
  obtain ⟨j, hj, rfl, hblk, hk, hg⟩ := hrel
  by_cases hlt : j < n
  ·
   have rd := hk.rd (4 * j) 4 (by have := HB.out; omega)
   have RL := Lib.hid (readLittle_any _ _ 4 (m - 4 * j) _ (by omega) wr rd)
   have hlen : (fillW l off (wordL bs) j).length = 16 := by rw [fillW_length]; exact HL.out
   have fx := hblk.word (off + j) (by omega)
   have zx := hblk.frozen (off + j)
   have WW := Lib.hid (word_wrap bs j)
   have HN := Lib.hid (And.intro (hblk.setWord (off + j) (wordL bs j)) (And.intro (hk.far (p := ⟨G, off + j, none⟩) HKG.out.symm (.int .u32 ((wordL bs j).toNat : Int))) (grown_set hg (off + j) (.int .u32 ((wordL bs j).toNat : Int)))))
   clear hblk hk hg rd hlen
   go_wp2_with fail
   rw [show (j + 1) * 4 - j * 4 = 4 by omega, Nat.mul_comm j 4]
   refine RL.out.mono ?_
   rintro e w1 ⟨rfl, rfl⟩
   clear RL
   obtain ⟨N, hN⟩ : ∃ N, numL (((bs.drop (4 * j)).take 4).take 8) = N := ⟨_, rfl⟩
   have WN := WW.out
   rw [hN] at WN ⊢
   clear hN WW
   go_wp2
   go_roundw
   case rel =>
    exact ⟨j + 1, by omega, by go_num, HN.out.1, HN.out.2.1, HN.out.2.2⟩
   case measure => simp [intOf]; omega
  ·
   obtain rfl : j = n := by omega
   have HN := Lib.hid (And.intro hblk hg)
   clear hblk hg hk
   go_wp2
   refine bodyPost_end (results_none rfl _ _ _) rfl ⟨rfl, HN.out.1, HN.out.2⟩
def baseW : List UInt32 := [0x61707865, 0x3320646e, 0x79622d32, 0x6b206574, 0, 0, 0, 0, 0, 0, 0, 0, 0, 0, 0, 0]
theorem base_map : (baseW.map u32v).toArray = #[.int .u32 1634760805, .int .u32 857760878, .int .u32 2036477234, .int .u32 1797285236, .int .u32 0, .int .u32 0, .int .u32 0, .int .u32 0, .int .u32 0, .int .u32 0, .int .u32 0, .int .u32 0, .int .u32 0, .int .u32 0, .int .u32 0, .int .u32 0] := by
 simp [baseW, u32v]
theorem state_fill (k : List UInt8) (c : UInt32) (n : List UInt8) : fillW ((fillW baseW 4 (wordL k) 8).set 12 c) 13 (wordL n) 3 = stateW k c n := by
 simp [fillW, baseW, stateW, List.range_succ]
theorem undrew {w w' : World} {row : Option Nat} (h : w.drew.grownBy w' row) : w.grownBy w' row := ⟨h.os, h.tape, h.output, h.size, h.block⟩
theorem z16_arr : z16.toArray = zw16_ := rfl
theorem cells16 (l : List UInt32) (h : l.length = 16) : (Tryz.prog.info? 86).map (·.size) = some (l.map u32v).length := by
 rw [List.length_map, h]; kernel_rfl
set_option maxRecDepth 100000 in
theorem state_any (k n : List UInt8) (hk : k.length = 32) (hn : n.length = 12) (c : UInt32) (w : World) :
 Calls Tryz.prog 85 #[.agg (k.map u8v).toArray, .int .u32 (c.toNat : Int), .agg (n.map u8v).toArray] w fun e w' => e = .returned (.agg ((stateW k c n).map u32v).toArray) ∧ Below w.heap.size w w' := by
 obtain ⟨ck, hck⟩ : ∃ ck, (k.map u8v).toArray = ck := ⟨_, rfl⟩
 obtain ⟨cn, hcn⟩ : ∃ cn, (n.map u8v).toArray = cn := ⟨_, rfl⟩
 rw [hck, hcn]
 have HK0 := Lib.hid (show Blk (w.alloc (.cells ck 23)) w.heap.size 23 (k.map u8v) by rw [← hck]; exact Blk.new w _ _)
 have HN0 := Lib.hid (show Blk ((w.alloc (.cells ck 23)).alloc (.cells cn 57)) (w.heap.size + 1) 57 (n.map u8v) by rw [← hcn]; exact Blk.new' _ (by simp) _ _)
 have HK := Lib.hid hk
 have HN := Lib.hid hn
 have HBM := Lib.hid base_map
 clear hk hn hck hcn
 go_enter Tryz.func85, Tryz.ntmps85
 go_upto_region 1 with fail
 have hk1 := (HK0.out.alloc (.cells cn 57)).alloc (.cells z16.toArray 86)
 have hn1 := HN0.out.alloc (.cells z16.toArray 86)
 have hz1 : Blk (((w.alloc (.cells ck 23)).alloc (.cells cn 57)).alloc (.cells z16.toArray 86)) (w.heap.size + 2) 86 z16 := Blk.new' _ (by simp) _ _
 have hbel1 : Below w.heap.size w (((w.alloc (.cells ck 23)).alloc (.cells cn 57)).alloc (.cells z16.toArray 86)) := (((Below.refl _ _).alloc (Nat.le_refl _) _).alloc (by simp) _).alloc (by simp; omega) _
 have hs1 : (((w.alloc (.cells ck 23)).alloc (.cells cn 57)).alloc (.cells z16.toArray 86)).heap.size = w.heap.size + 3 := by simp
 clear HK0 HN0
 rw [z16_arr] at hk1 hn1 hz1 hbel1 hs1
 generalize (((w.alloc (.cells ck 23)).alloc (.cells cn 57)).alloc (.cells zw16_ 86)) = W1 at hk1 hn1 hz1 hbel1 hs1 ⊢
 rw [show w.heap.size + 1 + 1 = w.heap.size + 2 from rfl]
 go_upto_region 2 with (refine wpList_store_blk rfl 86 (.tmp 7) (.tmp 8) rfl (w.heap.size + 3) (baseW.map u32v) rfl (by rw [HBM.out]; rfl) 86 z16 (Blk.new' W1 hs1.symm 86 z16) (cells16 baseW rfl) rfl (u32v_one _) ?_; intro w2 hb2 hg2)
 have B2 := Lib.hid (show Blk w2 (w.heap.size + 3) 86 (baseW.map u32v) ∧ Blk w2 w.heap.size 23 (k.map u8v) ∧ Blk w2 (w.heap.size + 1) 57 (n.map u8v) ∧ Blk w2 (w.heap.size + 2) 86 z16 ∧ Below w.heap.size w w2 by
  refine ⟨hb2, (hk1.alloc _).grown hg2 (by simp), (hn1.alloc _).grown hg2 (by simp), (hz1.alloc _).grown hg2 (by simp), Below.grown (hbel1.alloc (by omega) _) hg2 (by simp; omega) (by intro k hk; injection hk with hk; omega)⟩)
 clear hs1 hk1 hn1 hz1 hbel1 hg2 hb2
 simp only [Act.put]
 go_cut [] (fun wx => Blk wx (w.heap.size + 3) 86 ((fillW baseW 4 (wordL k) 8).map u32v) ∧ Blk wx w.heap.size 23 (k.map u8v) ∧ Blk wx (w.heap.size + 1) 57 (n.map u8v) ∧ Blk wx (w.heap.size + 2) 86 z16 ∧ Below w.heap.size w wx)
 case first =>
  have RW := Lib.hid (fun w' : World => fun h1 h2 => readWords_any (w.heap.size + 3) 4 8 12 w.heap.size 32 86 23 baseW k rfl (by omega) (by omega) HK.out (by omega) (by omega) (by omega) w' h1 h2)
  have RR := Lib.hid (fun (w4 : World) (hb : Blk w4 (w.heap.size + 3) 86 ((fillW baseW 4 (wordL k) 8).map u32v)) (hg : w2.grownBy w4 (some (w.heap.size + 3))) => show Blk w4 (w.heap.size + 3) 86 ((fillW baseW 4 (wordL k) 8).map u32v) ∧ Blk w4 w.heap.size 23 (k.map u8v) ∧ Blk w4 (w.heap.size + 1) 57 (n.map u8v) ∧ Blk w4 (w.heap.size + 2) 86 z16 ∧ Below w.heap.size w w4 from ⟨hb, B2.out.2.1.grown hg (by simp), B2.out.2.2.1.grown hg (by simp), B2.out.2.2.2.1.grown hg (by simp), Below.grown B2.out.2.2.2.2 hg B2.out.2.2.2.2.size (by intro k hk; injection hk with hk; omega)⟩)
  go_region_with ((go_at_call 99; refine (RW.out w2.drew B2.out.1.drew B2.out.2.1.drew).mono ?_; rintro e w4 ⟨rfl, hb4, hg4⟩))
  all_goals (go_wp2; go_meet; exact RR.out _ hb4 (undrew hg4))
 case rest =>
  clear B2 HBM
  have B3 := Lib.hid hcut
  clear hcut
  have h16 : (fillW baseW 4 (wordL k) 8).length = 16 := by rw [fillW_length]; rfl
  have fx := B3.out.1.word 12 (by omega)
  have zx := B3.out.1.frozen 12
  have B4 := Lib.hid (show Blk (wc.setCell ⟨w.heap.size + 3, 12, none⟩ (.int .u32 (c.toNat : Int))) (w.heap.size + 3) 86 (((fillW baseW 4 (wordL k) 8).set 12 c).map u32v) ∧ Blk (wc.setCell ⟨w.heap.size + 3, 12, none⟩ (.int .u32 (c.toNat : Int))) (w.heap.size + 1) 57 (n.map u8v) ∧ Blk (wc.setCell ⟨w.heap.size + 3, 12, none⟩ (.int .u32 (c.toNat : Int))) (w.heap.size + 2) 86 z16 ∧ Below w.heap.size w (wc.setCell ⟨w.heap.size + 3, 12, none⟩ (.int .u32 (c.toNat : Int))) from ⟨B3.out.1.setWord 12 c, B3.out.2.2.1.far (by simp) _, B3.out.2.2.2.1.far (by simp) _, B3.out.2.2.2.2.setCell (by dsimp only; omega) _⟩)
  have H16 := Lib.hid (show ((fillW baseW 4 (wordL k) 8).set 12 c).length = 16 by rw [List.length_set]; exact h16)
  clear h16
  go_upto_region 4 with fail
  clear fx zx B3
  generalize wc.setCell ⟨w.heap.size + 3, 12, none⟩ (.int .u32 (c.toNat : Int)) = w5 at B4 ⊢
  go_cut [] (fun wx => Blk wx (w.heap.size + 3) 86 ((fillW ((fillW baseW 4 (wordL k) 8).set 12 c) 13 (wordL n) 3).map u32v) ∧ Blk wx (w.heap.size + 2) 86 z16 ∧ Below w.heap.size w wx)
  case first =>
   have RW := Lib.hid (fun w' : World => fun h1 h2 => readWords_any (w.heap.size + 3) 13 3 3 (w.heap.size + 1) 12 86 57 ((fillW baseW 4 (wordL k) 8).set 12 c) n H16.out (by omega) (by omega) HN.out (by omega) (by omega) (by omega) w' h1 h2)
   have RR := Lib.hid (fun (w4 : World) (hb : Blk w4 (w.heap.size + 3) 86 ((fillW ((fillW baseW 4 (wordL k) 8).set 12 c) 13 (wordL n) 3).map u32v)) (hg : w5.grownBy w4 (some (w.heap.size + 3))) => show Blk w4 (w.heap.size + 3) 86 ((fillW ((fillW baseW 4 (wordL k) 8).set 12 c) 13 (wordL n) 3).map u32v) ∧ Blk w4 (w.heap.size + 2) 86 z16 ∧ Below w.heap.size w w4 from ⟨hb, B4.out.2.2.1.grown hg (by simp), Below.grown B4.out.2.2.2 hg B4.out.2.2.2.size (by intro k hk; injection hk with hk; omega)⟩)
   go_region_with ((go_at_call 99; refine (RW.out w5.drew B4.out.1.drew B4.out.2.1.drew).mono ?_; rintro e w4 ⟨rfl, hb4, hg4⟩))
   all_goals (go_wp2; go_meet; exact RR.out _ hb4 (undrew hg4))
  case rest =>
   rw [state_fill] at hcut
   have HB := Lib.hid hcut
   clear hcut B4
   have HLz := Lib.hid (stateW_length k c n)
   obtain ⟨lz, hlz⟩ : ∃ lz, stateW k c n = lz := ⟨_, rfl⟩
   rw [hlz] at HB HLz
   have HSZ := Lib.hid hlz
   obtain ⟨cz, hcz⟩ : ∃ cz, (lz.map u32v).toArray = cz := ⟨_, rfl⟩
   have HCZ := Lib.hid hcz
   clear hcz hlz
   go_wp2_with (first | (refine wpList_load_blk rfl 86 (.tmp 7) rfl (w.heap.size + 3) rfl 86 (lz.map u32v) HB.out.1 16 28 Tryz.underlying86 (cells16 lz HLz.out) ?_; rw [HCZ.out]) | (refine wpList_store_blk rfl 86 (.tmp 6) (.tmp 17) rfl (w.heap.size + 2) (lz.map u32v) rfl (by show Value.agg cz = _; rw [HCZ.out]) 86 z16 HB.out.2.1 (cells16 lz HLz.out) (by rw [List.length_map, HLz.out]; rfl) (u32v_one _) ?_; intro w9 hb9 hg9))
   exact bodyPost_ret (results_blk rfl _ _ (w.heap.size + 2) 86 (lz.map u32v) 16 28 rfl hb9 Tryz.underlying86 (cells16 lz HLz.out)) rfl ⟨by rw [HSZ.out], below_blk HB.out.2.2 hg9 (by omega)⟩
def primeP : Nat := 1361129467683753853853498429727072845819
def sumTo (f : Nat → Nat) : Nat → Nat
 | 0 => 0
 | n + 1 => sumTo f n + f n
theorem sumTo_congr {f g : Nat → Nat} : ∀ n, (∀ i, i < n → f i = g i) → sumTo f n = sumTo g n
 | 0, _ => rfl
 | n + 1, h => by rw [sumTo, sumTo, sumTo_congr n (fun i hi => h i (by omega)), h n (by omega)]
theorem sumTo_zero : ∀ n, sumTo (fun _ => 0) n = 0
 | 0 => rfl
 | n + 1 => by rw [sumTo, sumTo_zero n]
theorem sumTo_add (f g : Nat → Nat) : ∀ n, sumTo (fun i => f i + g i) n = sumTo f n + sumTo g n
 | 0 => rfl
 | n + 1 => by rw [sumTo, sumTo, sumTo, sumTo_add f g n]; omega
theorem sumTo_mul (f : Nat → Nat) (c : Nat) : ∀ n, sumTo (fun i => c * f i) n = c * sumTo f n
 | 0 => rfl
 | n + 1 => by rw [sumTo, sumTo, sumTo_mul f c n, Nat.mul_add]
theorem sumTo_set (f : Nat → Nat) (j x : Nat) : ∀ n, j < n → sumTo (fun i => if i = j then x else f i) n + f j = sumTo f n + x
 | 0, h => absurd h (by omega)
 | n + 1, h => by
  rw [sumTo, sumTo]
  by_cases e : j = n
  ·
   subst e
   rw [if_pos rfl, sumTo_congr (g := f) j (fun i hi => if_neg (by omega))]
   omega
  ·
   have := sumTo_set f j x n (by omega)
   rw [if_neg (by omega)]
   omega
/-- digit i -/
def dg (l : List Nat) (i : Nat) : Nat := l.getD i 0
theorem dg_set (l : List Nat) (j x i : Nat) (h : j < l.length) : dg (l.set j x) i = if i = j then x else dg l i := by
 unfold dg
 simp only [List.getD, List.getElem?_set]
 by_cases e : j = i
 ·
  subst e
  simp [h]
 · rw [if_neg e, if_neg (fun e' => e e'.symm)]
/-- the number of the first n digits -/
def valTo (l : List Nat) (n : Nat) : Nat := sumTo (fun i => dg l i * 256 ^ i) n
def valN (l : List Nat) : Nat := valTo l 17
theorem valTo_set (l : List Nat) (j x n : Nat) (hl : j < l.length) (hn : j < n) : valTo (l.set j x) n + dg l j * 256 ^ j = valTo l n + x * 256 ^ j := by
 unfold valTo
 rw [← sumTo_set (fun i => dg l i * 256 ^ i) j (x * 256 ^ j) n hn]
 congr 1
 refine sumTo_congr n fun i _ => ?_
 rw [dg_set l j x i hl]
 by_cases e : i = j
 · rw [if_pos e, if_pos e, e]
 · rw [if_neg e, if_neg e]
theorem valTo_lt (l : List Nat) : ∀ n, (∀ i, i < n → dg l i < 256) → valTo l n < 256 ^ n
 | 0, _ => by simp [valTo, sumTo]
 | n + 1, h => by
  have h1 := valTo_lt l n (fun i hi => h i (by omega))
  have h2 := h n (by omega)
  unfold valTo at h1 ⊢
  rw [sumTo, Nat.pow_succ]
  have h3 : dg l n * 256 ^ n ≤ 255 * 256 ^ n := Nat.mul_le_mul_right _ (by omega)
  omega
/-! carrying -/
def pass (l : List Nat) (u : Nat) : Nat → List Nat × Nat
 | 0 => (l, u)
 | j + 1 => ((pass l u j).1.set j (((pass l u j).2 + dg (pass l u j).1 j) % 256), ((pass l u j).2 + dg (pass l u j).1 j) / 256)
theorem pass_length (l : List Nat) (u : Nat) : ∀ j, (pass l u j).1.length = l.length
 | 0 => rfl
 | j + 1 => by rw [pass, List.length_set, pass_length l u j]
theorem pass_above (l : List Nat) (u : Nat) : ∀ j i, j ≤ i → j ≤ l.length → dg (pass l u j).1 i = dg l i
 | 0, _, _, _ => rfl
 | j + 1, i, h, hl => by
  rw [pass, dg_set _ _ _ _ (by rw [pass_length]; omega), if_neg (by omega), pass_above l u j i (by omega) (by omega)]
theorem pass_below (l : List Nat) (u : Nat) : ∀ j i, i < j → j ≤ l.length → dg (pass l u j).1 i < 256
 | 0, _, h, _ => absurd h (by omega)
 | j + 1, i, h, hl => by
  rw [pass, dg_set _ _ _ _ (by rw [pass_length]; omega)]
  by_cases e : i = j
  · rw [if_pos e]; exact Nat.mod_lt _ (by omega)
  · rw [if_neg e]; exact pass_below l u j i (by omega) (by omega)
theorem pass_val (l : List Nat) (u n : Nat) : ∀ j, j ≤ n → j ≤ l.length → valTo (pass l u j).1 n + (pass l u j).2 * 256 ^ j = valTo l n + u
 | 0, _, _ => by simp [pass]
 | j + 1, h, hl => by
  have ih := pass_val l u n j (by omega) (by omega)
  rw [pass]
  have h1 := valTo_set (pass l u j).1 j (((pass l u j).2 + dg (pass l u j).1 j) % 256) n (by rw [pass_length]; omega) (by omega)
  dsimp only
  generalize (pass l u j).2 = v at ih h1 ⊢
  generalize dg (pass l u j).1 j = d at ih h1 ⊢
  have e : (v + d) % 256 * 256 ^ j + (v + d) / 256 * 256 ^ (j + 1) = v * 256 ^ j + d * 256 ^ j := by
   rw [Nat.pow_succ, Nat.mul_comm (256 ^ j) 256, ← Nat.mul_assoc, ← Nat.add_mul, ← Nat.add_mul]
   congr 1
   omega
  omega
/-- the carry stays small -/
theorem pass_carry (l : List Nat) (u M B : Nat) (hM : ∀ i, dg l i ≤ M) (hu : u ≤ B) (hB : M ≤ 255 * B) : ∀ j, j ≤ l.length → (pass l u j).2 ≤ B
 | 0, _ => hu
 | j + 1, h => by
  have ih := pass_carry l u M B hM hu hB j (by omega)
  rw [pass]
  dsimp only
  rw [pass_above l u j j (Nat.le_refl _) (by omega)]
  have := hM j
  omega
theorem pass_end (l : List Nat) (u : Nat) (hl : 16 ≤ l.length) (hd : ∀ i, i < 16 → dg l i < 256) (hu : u ≤ 256 ^ 16) : (pass l u 16).2 ≤ 1 := by
 have h1 := pass_val l u 16 16 (Nat.le_refl _) hl
 have h2 := valTo_lt l 16 hd
 have h3 : (pass l u 16).2 * 256 ^ 16 < 2 * 256 ^ 16 := by omega
 have := Nat.lt_of_mul_lt_mul_right h3
 omega
theorem pass_none (l : List Nat) (hl : 16 ≤ l.length) (hd : ∀ i, i < 16 → dg l i < 256) : (pass l 0 16).2 = 0 := by
 have h1 := pass_val l 0 16 16 (Nat.le_refl _) hl
 have h2 := valTo_lt l 16 hd
 have h3 : (pass l 0 16).2 * 256 ^ 16 < 1 * 256 ^ 16 := by omega
 have := Nat.lt_of_mul_lt_mul_right h3
 omega
/-- one round of the remainder -/
def mid (l : List Nat) : List Nat := (pass l 0 16).1.set 16 (((pass l 0 16).2 + dg (pass l 0 16).1 16) % 4)
def midU (l : List Nat) : Nat := 5 * (((pass l 0 16).2 + dg (pass l 0 16).1 16) / 4)
def redR (l : List Nat) : List Nat := (pass (mid l) (midU l) 16).1.set 16 (dg (pass (mid l) (midU l) 16).1 16 + (pass (mid l) (midU l) 16).2)
def redN (l : List Nat) : List Nat := redR (redR l)
theorem mid_length (l : List Nat) : (mid l).length = l.length := by rw [mid, List.length_set, pass_length]
theorem redR_length (l : List Nat) : (redR l).length = l.length := by rw [redR, List.length_set, pass_length, mid_length]
theorem redN_length (l : List Nat) : (redN l).length = l.length := by rw [redN, redR_length, redR_length]
theorem valN_split (l : List Nat) : valN l = valTo l 16 + dg l 16 * 256 ^ 16 := rfl
theorem redR_val (l : List Nat) (hl : l.length = 17) : valN l = valN (redR l) + ((pass l 0 16).2 + dg (pass l 0 16).1 16) / 4 * primeP := by
 have h1 := pass_val l 0 17 16 (by omega) (by omega)
 have h2 := valTo_set (pass l 0 16).1 16 (((pass l 0 16).2 + dg (pass l 0 16).1 16) % 4) 17 (by rw [pass_length]; omega) (by omega)
 have h3 := pass_val (mid l) (midU l) 17 16 (by omega) (by rw [mid_length]; omega)
 have h4 := valTo_set (pass (mid l) (midU l) 16).1 16 (dg (pass (mid l) (midU l) 16).1 16 + (pass (mid l) (midU l) 16).2) 17 (by rw [pass_length, mid_length]; omega) (by omega)
 have e1 : valTo (mid l) 17 = valTo ((pass l 0 16).1.set 16 (((pass l 0 16).2 + dg (pass l 0 16).1 16) % 4)) 17 := rfl
 have e2 : valN (redR l) = valTo ((pass (mid l) (midU l) 16).1.set 16 (dg (pass (mid l) (midU l) 16).1 16 + (pass (mid l) (midU l) 16).2)) 17 := rfl
 have e3 : midU l = 5 * (((pass l 0 16).2 + dg (pass l 0 16).1 16) / 4) := rfl
 have e4 : valN l = valTo l 17 := rfl
 rw [← e1] at h2
 rw [← e2] at h4
 rw [e4]
 have hp : primeP + 5 = 1361129467683753853853498429727072845824 := by decide
 have hq : (256 : Nat) ^ 16 = 340282366920938463463374607431768211456 := by decide
 rw [hq] at h1 h2 h3 h4
 generalize valTo (mid l) 17 = A at h2 h3
 generalize valTo (pass (mid l) (midU l) 16).1 17 = C at h3 h4
 generalize dg (pass (mid l) (midU l) 16).1 16 = D at h4
 generalize (pass (mid l) (midU l) 16).2 = E at h3 h4
 generalize (pass l 0 16).2 = F at h1 h2 e3 ⊢
 generalize dg (pass l 0 16).1 16 = G at h2 e3 ⊢
 generalize valTo (pass l 0 16).1 17 = I at h1 h2
 generalize valN (redR l) = J at h4 ⊢
 generalize valTo l 17 = V at h1 ⊢
 generalize midU l = U at h3 e3
 have hpp : primeP = 1361129467683753853853498429727072845819 := rfl
 rw [hpp]
 omega
theorem redR_digits (l : List Nat) (hl : l.length = 17) : ∀ i, i < 16 → dg (redR l) i < 256 := fun i hi => by
 rw [redR, dg_set _ _ _ _ (by rw [pass_length, mid_length]; omega), if_neg (by omega)]
 exact pass_below _ _ 16 i hi (by rw [mid_length]; omega)
theorem mid_digits (l : List Nat) (hl : l.length = 17) : ∀ i, i < 16 → dg (mid l) i < 256 := fun i hi => by
 rw [mid, dg_set _ _ _ _ (by rw [pass_length]; omega), if_neg (by omega)]
 exact pass_below _ _ 16 i hi (by omega)
theorem mid_top (l : List Nat) (hl : l.length = 17) : dg (mid l) 16 = ((pass l 0 16).2 + dg l 16) % 4 := by
 rw [mid, dg_set _ _ _ _ (by rw [pass_length]; omega), if_pos rfl, pass_above l 0 16 16 (Nat.le_refl _) (by omega)]
theorem redR_top (l : List Nat) (hl : l.length = 17) : dg (redR l) 16 = ((pass l 0 16).2 + dg l 16) % 4 + (pass (mid l) (midU l) 16).2 := by
 rw [redR, dg_set _ _ _ _ (by rw [pass_length, mid_length]; omega), if_pos rfl, pass_above _ _ 16 16 (Nat.le_refl _) (by rw [mid_length]; omega), mid_top l hl]
theorem midU_eq (l : List Nat) (hl : l.length = 17) : midU l = 5 * (((pass l 0 16).2 + dg l 16) / 4) := by
 rw [midU, pass_above l 0 16 16 (Nat.le_refl _) (by omega)]
/-! the remainder -/
/-- digits that fit -/
def fits (l : List Nat) : Prop := l.length = 17 ∧ ∀ i, dg l i ≤ 400000000
/-- digits below 256, the last one small -/
def tidy (l : List Nat) (t : Nat) : Prop := l.length = 17 ∧ (∀ i, i < 16 → dg l i < 256) ∧ dg l 16 ≤ t
theorem dg_high (l : List Nat) (i : Nat) (h : l.length ≤ i) : dg l i = 0 := by simp [dg, List.getD, h]
theorem tidy.fits {l : List Nat} {t : Nat} (h : tidy l t) (ht : t ≤ 400000000) : fits l := ⟨h.1, fun i => by
 by_cases h1 : i < 16
 · have := h.2.1 i h1; omega
 ·
  by_cases h2 : i = 16
  · subst h2; have := h.2.2; omega
  · rw [dg_high l i (by have := h.1; omega)]; omega⟩
theorem tidy.mono {l : List Nat} {t t' : Nat} (h : tidy l t) (ht : t ≤ t') : tidy l t' := ⟨h.1, h.2.1, Nat.le_trans h.2.2 ht⟩
theorem fits_carry {l : List Nat} (h : fits l) (j : Nat) (hj : j ≤ 17) : (pass l 0 j).2 ≤ 2097152 := pass_carry l 0 400000000 2097152 h.2 (by omega) (by omega) j (by rw [h.1]; exact hj)
theorem fits_midU {l : List Nat} (h : fits l) : midU l ≤ 503000000 := by
 rw [midU_eq l h.1]
 have h1 := fits_carry h 16 (by omega)
 have h2 := h.2 16
 omega
theorem mid_le {l : List Nat} (h : fits l) : ∀ i, dg (mid l) i ≤ 255 := fun i => by
 by_cases h1 : i < 16
 · have := mid_digits l h.1 i h1; omega
 ·
  by_cases h2 : i = 16
  · subst h2; rw [mid_top l h.1]; omega
  · rw [dg_high _ i (by rw [mid_length, h.1]; omega)]; omega
theorem mid_carry {l : List Nat} (h : fits l) (j : Nat) (hj : j ≤ 17) : (pass (mid l) (midU l) j).2 ≤ 503000000 :=
 pass_carry _ _ 255 503000000 (mid_le h) (fits_midU h) (by omega) j (by rw [mid_length, h.1]; exact hj)
theorem redR_tidy {l : List Nat} (h : fits l) : tidy (redR l) 4 := ⟨by rw [redR_length, h.1], redR_digits l h.1, by
 rw [redR_top l h.1]
 have := pass_end (mid l) (midU l) (by rw [mid_length, h.1]; omega) (mid_digits l h.1) (by
  have := fits_midU h
  have hq : (256 : Nat) ^ 16 = 340282366920938463463374607431768211456 := by decide
  omega)
 omega⟩
theorem redR_tidier {l : List Nat} (h : tidy l 4) : tidy (redR l) 3 := by
 have hf := h.fits (by omega)
 refine ⟨by rw [redR_length, h.1], redR_digits l h.1, ?_⟩
 rw [redR_top l h.1, pass_none l (by rw [h.1]; omega) h.2.1, Nat.zero_add]
 have h16 := h.2.2
 by_cases e : dg l 16 = 4
 ·
  have := pass_end (mid l) (midU l) (by rw [mid_length, h.1]; omega) (mid_digits l h.1) (by
   have := fits_midU hf
   have hq : (256 : Nat) ^ 16 = 340282366920938463463374607431768211456 := by decide
   omega)
  rw [e]
  omega
 ·
  have hu : midU l = 0 := by
   rw [midU_eq l h.1, pass_none l (by rw [h.1]; omega) h.2.1]
   omega
  rw [hu, pass_none (mid l) (by rw [mid_length, h.1]; omega) (mid_digits l h.1)]
  omega
theorem redN_tidy {l : List Nat} (h : fits l) : tidy (redN l) 3 := redR_tidier (redR_tidy h)
theorem redN_val {l : List Nat} (h : l.length = 17) : valN (redN l) % primeP = valN l % primeP := by
 rw [redR_val l h, redR_val (redR l) (by rw [redR_length, h]), Nat.add_mul_mod_self_right, Nat.add_mul_mod_self_right]
 rfl
/-! the sum -/
def plusP (a b : List Nat) : Nat → List Nat × Nat
 | 0 => (a, 0)
 | j + 1 => ((plusP a b j).1.set j (((plusP a b j).2 + (dg (plusP a b j).1 j + dg b j)) % 256), ((plusP a b j).2 + (dg (plusP a b j).1 j + dg b j)) / 256)
def plusN (a b : List Nat) : List Nat := (plusP a b 17).1
theorem plusP_length (a b : List Nat) : ∀ j, (plusP a b j).1.length = a.length
 | 0 => rfl
 | j + 1 => by rw [plusP, List.length_set, plusP_length a b j]
theorem plusP_above (a b : List Nat) : ∀ j i, j ≤ i → j ≤ a.length → dg (plusP a b j).1 i = dg a i
 | 0, _, _, _ => rfl
 | j + 1, i, h, hl => by
  rw [plusP, dg_set _ _ _ _ (by rw [plusP_length]; omega), if_neg (by omega), plusP_above a b j i (by omega) (by omega)]
theorem plusP_below (a b : List Nat) : ∀ j i, i < j → j ≤ a.length → dg (plusP a b j).1 i < 256
 | 0, _, h, _ => absurd h (by omega)
 | j + 1, i, h, hl => by
  rw [plusP, dg_set _ _ _ _ (by rw [plusP_length]; omega)]
  by_cases e : i = j
  · rw [if_pos e]; exact Nat.mod_lt _ (by omega)
  · rw [if_neg e]; exact plusP_below a b j i (by omega) (by omega)
theorem plusP_val (a b : List Nat) (n : Nat) : ∀ j, j ≤ n → j ≤ a.length → valTo (plusP a b j).1 n + (plusP a b j).2 * 256 ^ j = valTo a n + valTo b j
 | 0, _, _ => by simp [plusP, valTo, sumTo]
 | j + 1, h, hl => by
  have ih := plusP_val a b n j (by omega) (by omega)
  rw [plusP]
  have h1 := valTo_set (plusP a b j).1 j (((plusP a b j).2 + (dg (plusP a b j).1 j + dg b j)) % 256) n (by rw [plusP_length]; omega) (by omega)
  have h2 : valTo b (j + 1) = valTo b j + dg b j * 256 ^ j := rfl
  dsimp only
  rw [h2]
  generalize (plusP a b j).2 = v at ih h1 ⊢
  generalize dg (plusP a b j).1 j = d at ih h1 ⊢
  generalize dg b j = g at h1 ⊢
  have e : (v + (d + g)) % 256 * 256 ^ j + (v + (d + g)) / 256 * 256 ^ (j + 1) = v * 256 ^ j + d * 256 ^ j + g * 256 ^ j := by
   rw [Nat.pow_succ, Nat.mul_comm (256 ^ j) 256, ← Nat.mul_assoc, ← Nat.add_mul, ← Nat.add_mul, ← Nat.add_mul]
   congr 1
   omega
  omega
theorem plusP_carry (a b : List Nat) (ha : ∀ i, dg a i ≤ 255) (hb : ∀ i, dg b i ≤ 255) : ∀ j, j ≤ a.length → (plusP a b j).2 ≤ 1
 | 0, _ => by simp [plusP]
 | j + 1, h => by
  have ih := plusP_carry a b ha hb j (by omega)
  rw [plusP]
  dsimp only
  rw [plusP_above a b j j (Nat.le_refl _) (by omega)]
  have := ha j
  have := hb j
  omega
theorem plusN_length (a b : List Nat) : (plusN a b).length = a.length := plusP_length a b 17
theorem plusN_digits (a b : List Nat) (ha : a.length = 17) (i : Nat) : dg (plusN a b) i ≤ 255 := by
 by_cases h : i < 17
 ·
  have := plusP_below a b 17 i h (by omega)
  exact Nat.le_of_lt_succ this
 · rw [dg_high _ i (by rw [plusN_length]; omega)]; omega
theorem plusN_val (a b : List Nat) (ha : a.length = 17) : valN (plusN a b) = (valN a + valN b) % 256 ^ 17 := by
 have h1 := plusP_val a b 17 17 (Nat.le_refl _) (by omega)
 have h2 : valN (plusN a b) < 256 ^ 17 := valTo_lt _ 17 (fun i hi => plusP_below a b 17 i hi (by omega))
 have h3 : valN (plusN a b) + (plusP a b 17).2 * 256 ^ 17 = valN a + valN b := h1
 rw [← h3, Nat.add_mul_mod_self_right, Nat.mod_eq_of_lt h2]
/-! the product -/
def rotB (b : List Nat) (j i : Nat) : Nat := if j ≤ i then dg b (i - j) else 320 * dg b (i + 17 - j)
def convI (a b : List Nat) (i : Nat) : Nat → Nat := sumTo (fun j => dg a j * rotB b j i)
def convN (a b : List Nat) : List Nat := (List.range 17).map fun i => convI a b i 17
def timesN (a b : List Nat) : List Nat := redN (convN a b)
theorem convN_length (a b : List Nat) : (convN a b).length = 17 := by simp [convN]
theorem convN_dg (a b : List Nat) (i : Nat) (h : i < 17) : dg (convN a b) i = convI a b i 17 := by simp [dg, convN, List.getD, h]
theorem convI_le (a b : List Nat) (ha : ∀ i, dg a i ≤ 255) (hb : ∀ i, dg b i ≤ 255) (i : Nat) : ∀ n, convI a b i n ≤ 20808000 * n
 | 0 => Nat.le_refl _
 | n + 1 => by
  have ih := convI_le a b ha hb i n
  have h1 : rotB b n i ≤ 81600 := by
   unfold rotB
   split
   · have := hb (i - n); omega
   · have := hb (i + 17 - n); omega
  have h2 := Nat.mul_le_mul (ha n) h1
  unfold convI at ih ⊢
  rw [sumTo]
  omega
theorem convN_fits (a b : List Nat) (ha : ∀ i, dg a i ≤ 255) (hb : ∀ i, dg b i ≤ 255) : fits (convN a b) := ⟨convN_length a b, fun i => by
 by_cases h : i < 17
 ·
  rw [convN_dg a b i h]
  have := convI_le a b ha hb i 17
  omega
 · rw [dg_high _ i (by rw [convN_length]; omega)]; omega⟩
theorem sumTo_first (f : Nat → Nat) : ∀ n, sumTo f (n + 1) = f 0 + sumTo (fun i => f (i + 1)) n
 | 0 => by simp [sumTo]
 | n + 1 => by rw [sumTo, sumTo_first f n, sumTo]; omega
theorem sumTo_swap (f : Nat → Nat → Nat) (m : Nat) : ∀ n, sumTo (fun i => sumTo (f i) m) n = sumTo (fun j => sumTo (fun i => f i j) n) m
 | 0 => by
  rw [sumTo]
  exact (sumTo_zero m).symm
 | n + 1 => by
  rw [sumTo, sumTo_swap f m n, ← sumTo_add]
  exact sumTo_congr m fun j _ => rfl
/-- the value of b, turned j times -/
def turn (b : List Nat) (j : Nat) : Nat := sumTo (fun i => rotB b j i * 256 ^ i) 17
theorem turn_zero (b : List Nat) : turn b 0 = valN b := sumTo_congr 17 fun i _ => by rw [rotB, if_pos (Nat.zero_le _), Nat.sub_zero]
theorem turn_succ (b : List Nat) (j : Nat) (hj : j ≤ 16) : 256 * turn b j = turn b (j + 1) + 64 * dg b (16 - j) * primeP := by
 unfold turn
 rw [sumTo_first (fun i => rotB b (j + 1) i * 256 ^ i) 16, sumTo, Nat.mul_add, ← sumTo_mul]
 have e1 : sumTo (fun i => 256 * (rotB b j i * 256 ^ i)) 16 = sumTo (fun i => rotB b (j + 1) (i + 1) * 256 ^ (i + 1)) 16 := sumTo_congr 16 fun i _ => by
  have : rotB b (j + 1) (i + 1) = rotB b j i := by
   unfold rotB
   by_cases h : j ≤ i
   · rw [if_pos h, if_pos (by omega), show i + 1 - (j + 1) = i - j by omega]
   · rw [if_neg h, if_neg (by omega), show i + 1 + 17 - (j + 1) = i + 17 - j by omega]
  rw [this, Nat.pow_succ, Nat.mul_comm (256 ^ i) 256, ← Nat.mul_assoc, ← Nat.mul_assoc, Nat.mul_comm 256]
 rw [e1]
 have e2 : rotB b j 16 = dg b (16 - j) := by rw [rotB, if_pos hj]
 have e3 : rotB b (j + 1) 0 = 320 * dg b (16 - j) := by rw [rotB, if_neg (by omega), show 0 + 17 - (j + 1) = 16 - j by omega]
 rw [e2, e3]
 generalize sumTo (fun i => rotB b (j + 1) (i + 1) * 256 ^ (i + 1)) 16 = s
 generalize dg b (16 - j) = d
 have hp : primeP = 1361129467683753853853498429727072845819 := rfl
 have hq : (256 : Nat) ^ 16 = 340282366920938463463374607431768211456 := by decide
 rw [hp, hq, Nat.pow_zero]
 omega
theorem turn_mod (b : List Nat) (j : Nat) (h : j ≤ 17) : ∃ q, 256 ^ j * valN b = turn b j + q * primeP := by
 induction j with
 | zero => exact ⟨0, by rw [turn_zero, Nat.pow_zero, Nat.one_mul, Nat.zero_mul, Nat.add_zero]⟩
 | succ j ih =>
  obtain ⟨q, hq⟩ := ih (by omega)
  have hs := turn_succ b j (by omega)
  refine ⟨64 * dg b (16 - j) + 256 * q, ?_⟩
  have e : 256 ^ (j + 1) * valN b = 256 * (256 ^ j * valN b) := by rw [Nat.pow_succ, Nat.mul_comm (256 ^ j) 256, Nat.mul_assoc]
  rw [e, hq, Nat.mul_add, hs, Nat.add_mul, Nat.mul_assoc 256 q]
  generalize 64 * dg b (16 - j) * primeP = x
  generalize 256 * (q * primeP) = y
  omega
theorem convN_val (a b : List Nat) : ∃ q, valN a * valN b = valN (convN a b) + q * primeP := by
 have h1 : valN (convN a b) = sumTo (fun j => dg a j * turn b j) 17 := by
  have : valN (convN a b) = sumTo (fun i => sumTo (fun j => dg a j * rotB b j i * 256 ^ i) 17) 17 := sumTo_congr 17 fun i hi => by
   rw [convN_dg a b i hi, convI, Nat.mul_comm, ← sumTo_mul]
   exact sumTo_congr 17 fun j _ => by rw [Nat.mul_comm]
  rw [this, sumTo_swap]
  refine sumTo_congr 17 fun j _ => ?_
  unfold turn
  rw [← sumTo_mul]
  exact sumTo_congr 17 fun i _ => by rw [Nat.mul_assoc]
 have h2 : ∀ n, n ≤ 17 → ∃ q, sumTo (fun j => dg a j * 256 ^ j) n * valN b = sumTo (fun j => dg a j * turn b j) n + q * primeP := by
  intro n
  induction n with
  | zero => exact fun _ => ⟨0, by simp [sumTo]⟩
  | succ n ih =>
   intro hn
   obtain ⟨q, hq⟩ := ih (by omega)
   obtain ⟨t, ht⟩ := turn_mod b n (by omega)
   refine ⟨q + dg a n * t, ?_⟩
   rw [sumTo, sumTo, Nat.add_mul, hq, Nat.mul_assoc, ht, Nat.mul_add, Nat.add_mul, Nat.mul_assoc]
   omega
 obtain ⟨q, hq⟩ := h2 17 (by omega)
 exact ⟨q, by rw [h1]; exact hq⟩
theorem timesN_val (a b : List Nat) : valN (timesN a b) % primeP = (valN a * valN b) % primeP := by
 obtain ⟨q, hq⟩ := convN_val a b
 rw [hq, Nat.add_mul_mod_self_right]
 exact redN_val (convN_length a b)
theorem timesN_tidy (a b : List Nat) (ha : ∀ i, dg a i ≤ 255) (hb : ∀ i, dg b i ≤ 255) : tidy (timesN a b) 3 := redN_tidy (convN_fits a b ha hb)
theorem valTo_more (l : List Nat) (m : Nat) : ∀ d, ∃ R, valTo l (m + d) = valTo l m + R * 256 ^ m
 | 0 => ⟨0, by simp⟩
 | d + 1 => by
  obtain ⟨R, h⟩ := valTo_more l m d
  refine ⟨R + dg l (m + d) * 256 ^ d, ?_⟩
  have e : valTo l (m + (d + 1)) = valTo l (m + d) + dg l (m + d) * 256 ^ (m + d) := rfl
  rw [e, h, Nat.add_mul, Nat.pow_add, Nat.mul_assoc, Nat.mul_comm (256 ^ d) (256 ^ m)]
  generalize R * 256 ^ m = x
  omega
theorem dg_of_val (l : List Nat) (hd : ∀ i, i < 17 → dg l i < 256) (j : Nat) (hj : j < 17) : dg l j = valN l / 256 ^ j % 256 := by
 obtain ⟨R, h⟩ := valTo_more l (j + 1) (16 - j)
 have e : valN l = valTo l (j + 1 + (16 - j)) := by rw [show j + 1 + (16 - j) = 17 by omega]; rfl
 have h1 : valTo l (j + 1) = valTo l j + dg l j * 256 ^ j := rfl
 have h2 := valTo_lt l j (fun i hi => hd i (by omega))
 have h3 := hd j hj
 have hpos : 0 < 256 ^ j := Nat.pow_pos (by omega)
 have e5 : valTo l j + dg l j * 256 ^ j + R * (256 ^ j * 256) = valTo l j + 256 ^ j * (dg l j + R * 256) := by
  rw [Nat.mul_add, Nat.mul_comm (256 ^ j) (dg l j), Nat.mul_left_comm R (256 ^ j) 256, Nat.add_assoc]
 rw [e, h, h1, Nat.pow_succ, e5, Nat.add_mul_div_left _ _ hpos, Nat.div_eq_of_lt h2, Nat.zero_add, Nat.add_mul_mod_self_right, Nat.mod_eq_of_lt h3]
theorem dg_top (l : List Nat) (hd : ∀ i, i < 16 → dg l i < 256) : dg l 16 = valN l / 256 ^ 16 := by
 have h2 := valTo_lt l 16 hd
 rw [valN_split, Nat.mul_comm, Nat.add_mul_div_left _ _ (by decide), Nat.div_eq_of_lt h2, Nat.zero_add]
theorem tidy_lt {l : List Nat} {t : Nat} (h : tidy l t) : valN l < (t + 1) * 256 ^ 16 := by
 have h1 := valTo_lt l 16 h.2.1
 have h2 : dg l 16 * 256 ^ 16 ≤ t * 256 ^ 16 := Nat.mul_le_mul_right _ h.2.2
 rw [valN_split, Nat.add_mul]
 omega
theorem tidy_le {l : List Nat} {t : Nat} (h : tidy l t) (ht : t ≤ 255) : ∀ i, dg l i ≤ 255 := fun i => by
 by_cases h1 : i < 16
 · have := h.2.1 i h1; omega
 ·
  by_cases h2 : i = 16
  · subst h2; have := h.2.2; omega
  · rw [dg_high l i (by have := h.1; omega)]; omega
/-! the least remainder -/
def minusN : List Nat := [5, 0, 0, 0, 0, 0, 0, 0, 0, 0, 0, 0, 0, 0, 0, 0, 252]
theorem minusN_val : valN minusN = 5 + 252 * 256 ^ 16 := by decide
def lessN (r : List Nat) : List Nat := plusN r minusN
def leastN (l : List Nat) : List Nat := if dg (lessN (redN l)) 16 &&& 128 = 0 then (lessN (redN l)).set 16 (dg (lessN (redN l)) 16 &&& 3) else redN l
theorem less_cases {r : List Nat} (h : tidy r 3) : (primeP ≤ valN r ∧ dg (lessN r) 16 = 0 ∧ valN (lessN r) = valN r - primeP) ∨ (valN r < primeP ∧ 252 ≤ dg (lessN r) 16 ∧ dg (lessN r) 16 ≤ 255) := by
 have hv := plusN_val r minusN h.1
 have hlt := tidy_lt h
 have hd : ∀ i, i < 16 → dg (lessN r) i < 256 := fun i _ => by have := plusN_digits r minusN h.1 i; unfold lessN; omega
 have ht := dg_top (lessN r) hd
 have h255 := plusN_digits r minusN h.1 16
 rw [minusN_val] at hv
 have hp : primeP = 1361129467683753853853498429727072845819 := rfl
 have hq : (256 : Nat) ^ 16 = 340282366920938463463374607431768211456 := by decide
 have hq2 : (256 : Nat) ^ 17 = 87112285931760246646623899502532662132736 := by decide
 have e : valN (lessN r) = valN (plusN r minusN) := rfl
 have e2 : dg (lessN r) 16 = dg (plusN r minusN) 16 := rfl
 rw [hq] at ht hv hlt
 rw [hq2] at hv
 rw [hp]
 generalize dg (lessN r) 16 = D at ht e2 ⊢
 generalize dg (plusN r minusN) 16 = D' at h255 e2
 generalize valN (lessN r) = A at ht e ⊢
 generalize valN (plusN r minusN) = A' at hv e
 generalize valN r = V at hv hlt ⊢
 omega
theorem leastN_val {l : List Nat} (h : fits l) : valN (leastN l) = valN l % primeP := by
 have ht := redN_tidy h
 have hr := redN_val h.1
 have hpos : 0 < primeP := by decide
 unfold leastN
 rcases less_cases ht with ⟨h1, h2, h3⟩ | ⟨h1, h2, h3⟩
 ·
  have hlt := tidy_lt ht
  rw [h2, if_pos (by decide), show (0 &&& 3 : Nat) = 0 from rfl]
  have hs : (lessN (redN l)).set 16 0 = lessN (redN l) := by
   apply List.ext_getElem?
   intro i
   rw [List.getElem?_set]
   by_cases e : 16 = i
   ·
    subst e
    have hl : (lessN (redN l)).length = 17 := by rw [lessN, plusN_length, ht.1]
    rw [if_pos rfl, if_pos (by omega), List.getElem?_eq_getElem (by omega)]
    simp only [dg, List.getD, List.getElem?_eq_getElem (show 16 < (lessN (redN l)).length by omega), Option.getD_some] at h2
    rw [h2]
   · rw [if_neg e]
  rw [hs, h3, ← hr, Nat.mod_eq_sub_mod h1, Nat.mod_eq_of_lt]
  have hp : primeP = 1361129467683753853853498429727072845819 := rfl
  have hq : (256 : Nat) ^ 16 = 340282366920938463463374607431768211456 := by decide
  rw [hq] at hlt
  rw [hp] at h1 ⊢
  omega
 ·
  have h4 : ¬ dg (lessN (redN l)) 16 &&& 128 = 0 := by
   have : dg (lessN (redN l)) 16 = 252 ∨ dg (lessN (redN l)) 16 = 253 ∨ dg (lessN (redN l)) 16 = 254 ∨ dg (lessN (redN l)) 16 = 255 := by omega
   rcases this with e | e | e | e <;> rw [e] <;> decide
  rw [if_neg h4, ← hr, Nat.mod_eq_of_lt h1]
theorem leastN_le {l : List Nat} (h : fits l) : (leastN l).length = 17 ∧ ∀ i, dg (leastN l) i ≤ 255 := by
 have ht := redN_tidy h
 have hl : (lessN (redN l)).length = 17 := by rw [lessN, plusN_length, ht.1]
 unfold leastN
 split
 ·
  refine ⟨by rw [List.length_set, hl], fun i => ?_⟩
  rw [dg_set _ _ _ _ (by omega)]
  split
  ·
   have := Nat.and_le_right (n := dg (lessN (redN l)) 16) (m := 3)
   omega
  · exact plusN_digits _ _ ht.1 i
 · exact ⟨ht.1, tidy_le ht (by omega)⟩
/-! digits and bytes -/
theorem numL_sum : ∀ (l : List UInt8) (n : Nat), l.length ≤ n → numL l = sumTo (fun i => (l.getD i 0).toNat * 256 ^ i) n
 | [], n, _ => by
  rw [numL, ← sumTo_zero n]
  exact sumTo_congr n fun i _ => by simp
 | b :: l, 0, h => absurd h (by simp)
 | b :: l, n + 1, h => by
  rw [numL, sumTo_first, numL_sum l n (by simpa using h), ← sumTo_mul]
  have e : ((b :: l).getD 0 0).toNat * 256 ^ 0 = b.toNat := by simp
  rw [e]
  congr 1
  refine sumTo_congr n fun i _ => ?_
  rw [List.getD_cons_succ, Nat.pow_succ, Nat.mul_comm (256 ^ i) 256, ← Nat.mul_assoc, ← Nat.mul_assoc, Nat.mul_comm 256]
theorem valN_bytes (ds : List Nat) (l : List UInt8) (hl : l.length ≤ 17) (h : ∀ i, i < 17 → dg ds i = (l.getD i 0).toNat) : valN ds = numL l := by
 rw [numL_sum l 17 hl]
 exact sumTo_congr 17 fun i hi => by rw [h i hi]
theorem bytes_of_val (l : List Nat) (hd : ∀ i, dg l i ≤ 255) : (List.range 16).map (fun j => UInt8.ofNat (dg l j)) = littleL (valN l) 16 := by
 unfold littleL
 refine List.map_congr_left fun j hj => ?_
 have hj : j < 16 := List.mem_range.1 hj
 unfold byteOf
 rw [dg_of_val l (fun i _ => by have := hd i; omega) j (by omega), pow_256]
/-! the authenticator -/
/-- the first half of the key, some bits of it struck -/
def clampD (k : List UInt8) (i : Nat) : Nat :=
 let b := (k.getD i 0).toNat
 if i = 3 ∨ i = 7 ∨ i = 11 ∨ i = 15 then b &&& 15 else if i = 4 ∨ i = 8 ∨ i = 12 then b &&& 252 else if i < 16 then b else 0
def rDig (k : List UInt8) : List Nat := (List.range 17).map (clampD k)
def rN (k : List UInt8) : Nat := valN (rDig k)
def sN (k : List UInt8) : Nat := numL ((k.drop 16).take 16)
def pieceN (data : List UInt8) (i : Nat) : Nat := numL ((data.drop (16 * i)).take 16) + 256 ^ ((data.drop (16 * i)).take 16).length
def accI (r : Nat) (data : List UInt8) : Nat → Nat
 | 0 => 0
 | i + 1 => (accI r data i + pieceN data i) * r % primeP
def tagN (k data : List UInt8) : Nat := accI (rN k) data ((data.length + 15) / 16) + sN k
def tagL (k data : List UInt8) : List UInt8 := littleL (tagN k data) 16
theorem accI_lt (r : Nat) (data : List UInt8) : ∀ i, accI r data i < primeP
 | 0 => by show 0 < primeP; decide
 | i + 1 => Nat.mod_lt _ (by decide)
theorem rDig_le (k : List UInt8) : (rDig k).length = 17 ∧ ∀ i, dg (rDig k) i ≤ 255 := by
 refine ⟨by simp [rDig], fun i => ?_⟩
 by_cases h : i < 17
 ·
  have e : dg (rDig k) i = clampD k i := by simp [dg, rDig, List.getD, h]
  rw [e]
  have hb := (k.getD i 0).toNat_lt
  have h1 := Nat.and_le_left (n := (k.getD i 0).toNat) (m := 15)
  have h2 := Nat.and_le_left (n := (k.getD i 0).toNat) (m := 252)
  unfold clampD
  dsimp only
  split
  · omega
  ·
   split
   · omega
   · split <;> omega
 · rw [dg_high _ i (by simp [rDig]; omega)]; omega
/-- a piece and its byte 1 as digits -/
def cDig (p : List UInt8) : List Nat := p.map UInt8.toNat ++ 1 :: List.replicate (16 - p.length) 0
theorem cDig_le (p : List UInt8) (h : p.length ≤ 16) : (cDig p).length = 17 ∧ ∀ i, dg (cDig p) i ≤ 255 := by
 refine ⟨by simp [cDig]; omega, fun i => ?_⟩
 unfold dg cDig
 simp only [List.getD, List.getElem?_append, List.length_map]
 split
 ·
  rename_i h1
  simp only [List.getElem?_map, List.getElem?_eq_getElem h1, Option.map_some, Option.getD_some]
  have := (p[i]).toNat_lt
  omega
 ·
  rename_i h1
  rcases Nat.eq_or_lt_of_le (Nat.le_of_not_lt h1) with e | e
  · rw [← e]; simp
  ·
   obtain ⟨t, ht⟩ : ∃ t, i - p.length = t + 1 := ⟨i - p.length - 1, by omega⟩
   rw [ht, List.getElem?_cons_succ, List.getElem?_replicate]
   split <;> simp
theorem cDig_val (p : List UInt8) (h : p.length ≤ 16) : valN (cDig p) = numL p + 256 ^ p.length := by
 rw [valN_bytes (cDig p) (p ++ [1]) (by simp; omega), numL_append]
 · simp [numL]
 ·
  intro i hi
  unfold dg cDig
  simp only [List.getD, List.getElem?_append, List.length_map]
  split
  ·
   rename_i h1
   simp only [List.getElem?_map, List.getElem?_eq_getElem h1, Option.map_some, Option.getD_some]
  ·
   rename_i h1
   rcases Nat.eq_or_lt_of_le (Nat.le_of_not_lt h1) with e | e
   · rw [← e]; simp
   ·
    obtain ⟨t, ht⟩ : ∃ t, i - p.length = t + 1 := ⟨i - p.length - 1, by omega⟩
    rw [ht, List.getElem?_cons_succ, List.getElem?_cons_succ, List.getElem?_replicate]
    split <;> simp
/-- one piece more -/
theorem step_val {h r : List Nat} (k data : List UInt8) (i : Nat) (hh : tidy h 3) (hv : valN h % primeP = accI (rN k) data i) (hr : r = rDig k) :
 tidy (timesN (plusN h (cDig ((data.drop (16 * i)).take 16))) r) 3 ∧ valN (timesN (plusN h (cDig ((data.drop (16 * i)).take 16))) r) % primeP = accI (rN k) data (i + 1) := by
 subst hr
 have hlen : ((data.drop (16 * i)).take 16).length ≤ 16 := List.length_take_le 16 _
 obtain ⟨p, hp⟩ : ∃ p, (data.drop (16 * i)).take 16 = p := ⟨_, rfl⟩
 have hpi : pieceN data i = numL p + 256 ^ p.length := by rw [pieceN, hp]
 rw [hp] at hlen ⊢
 refine ⟨timesN_tidy _ _ (plusN_digits _ _ hh.1) (rDig_le k).2, ?_⟩
 rw [timesN_val, plusN_val _ _ hh.1, cDig_val p hlen, accI, hpi]
 have h1 := tidy_lt hh
 have h2 := numL_lt p
 have h3 : 256 ^ p.length ≤ 256 ^ 16 := Nat.pow_le_pow_right (by omega) hlen
 have hq : (256 : Nat) ^ 17 = 256 * 256 ^ 16 := by decide
 have h4 : valN h + (numL p + 256 ^ p.length) < 256 ^ 17 := by omega
 rw [Nat.mod_eq_of_lt h4]
 have e1 : (valN h + (numL p + 256 ^ p.length)) % primeP = (accI (rN k) data i + (numL p + 256 ^ p.length)) % primeP := by
  rw [Nat.add_mod, hv, Nat.add_mod_mod]
 show _ * rN k % primeP = _ * rN k % primeP
 rw [Nat.mul_mod, e1, ← Nat.mul_mod]
/-- zero bytes up to a multiple of 16 -/
def padL (l : List UInt8) : List UInt8 := List.replicate ((16 - l.length % 16) % 16) 0
/-- the data of the tag -/
def macL (more c : List UInt8) : List UInt8 := more ++ padL more ++ (c ++ padL c) ++ (littleL more.length 8 ++ littleL c.length 8)
def oneK (k n : List UInt8) : List UInt8 := (blockL k 0 n).take 32
def sealT (k n c more : List UInt8) : List UInt8 := littleL (tagN (oneK k n) (macL more c)) 16
def sealL (k n p more : List UInt8) : List UInt8 := xorL k 1 n p ++ sealT k n (xorL k 1 n p) more
/-- what opening returns, and the error's number -/
def openL (k n s more : List UInt8) : List UInt8 × Nat :=
 if s.length < 16 then ([], 2)
 else if sealT k n (s.take (s.length - 16)) more = s.drop (s.length - 16) then (xorL k 1 n (s.take (s.length - 16)), 0)
 else ([], 6)
theorem sealT_length (k n c more : List UInt8) : (sealT k n c more).length = 16 := littleL_length _ _
theorem sealL_length (k n p more : List UInt8) : (sealL k n p more).length = p.length + 16 := by
 rw [sealL, List.length_append, sealT_length, xorL_length]
theorem seal_open (k n s more : List UInt8) (h : (openL k n s more).2 = 0) : sealL k n (openL k n s more).1 more = s := by
 unfold openL at h ⊢
 split at h
 · simp at h
 ·
  rename_i h16
  rw [if_neg h16]
  split at h
  ·
   rename_i ht
   rw [if_pos ht]
   show xorL k 1 n (xorL k 1 n (s.take (s.length - 16))) ++ sealT k n (xorL k 1 n (xorL k 1 n (s.take (s.length - 16)))) more = s
   rw [xorL_xorL, ht, List.take_append_drop]
  · simp at h
theorem flat_four : ∀ ws : List UInt32, (ws.flatMap fun x => littleL x.toNat 4).length = 4 * ws.length
 | [] => rfl
 | x :: ws => by rw [List.flatMap_cons, List.length_append, littleL_length, flat_four ws, List.length_cons]; omega
theorem blockL_len (k : List UInt8) (c : UInt32) (n : List UInt8) : (blockL k c n).length = 64 := by
 unfold blockL
 rw [flat_four, List.length_zipWith, coreW_length, stateW_length]
 rfl
theorem oneK_length (k n : List UInt8) : (oneK k n).length = 32 := by rw [oneK, List.length_take, blockL_len]; rfl
theorem padL_length (l : List UInt8) : (padL l).length ≤ 15 := by rw [padL, List.length_replicate]; omega
theorem ae_cellsN (l : List UInt8) (h : l.length = 12) : (Tryz.prog.info? 57).map (·.size) = some (l.map u8v).length := by
 rw [List.length_map, h]; kernel_rfl
theorem ae_cells64 (l : List UInt8) (h : l.length = 64) : (Tryz.prog.info? 89).map (·.size) = some (l.map u8v).length := by
 rw [List.length_map, h]; kernel_rfl
theorem refJoin_four (g : Nat) (t : TypeId) (A1 A2 A3 A4 : Option Addr) (n1 c1 n2 c2 n3 c3 n4 c4 : Nat) (l1 l2 l3 l4 : List UInt8) (M : Nat) (hM : n1 + n2 + (n3 + n4) = M) (hn : M ≤ 1000000) (w : World) (hb : Blk w g t [.slice A1 n1 c1, .slice A2 n2 c2, .slice A3 n3 c3, .slice A4 n4 c4])
 (h1 : Rd w w.heap.size A1 n1 l1) (h2 : Rd w w.heap.size A2 n2 l2) (h3 : Rd w w.heap.size A3 n3 l3) (h4 : Rd w w.heap.size A4 n4 l4) :
 Calls Tryz.prog 25 #[.slice (some ⟨g, 0, none⟩) 4 4] w fun e w' => ∃ A' c', e = .returned (.slice A' M c') ∧ Rd w' w'.heap.size A' M (l1 ++ l2 ++ (l3 ++ l4)) ∧ M ≤ c' ∧ c' ≤ maxLen ∧ Below w.heap.size w w' := by
 have hf : flat [⟨A1, n1, c1, l1⟩, ⟨A2, n2, c2, l2⟩, ⟨A3, n3, c3, l3⟩, ⟨A4, n4, c4, l4⟩] 4 = l1 ++ l2 ++ (l3 ++ l4) := by simp [flat]
 have hl : (l1 ++ l2 ++ (l3 ++ l4)).length = M := by simp only [List.length_append]; rw [h1.1, h2.1, h3.1, h4.1, hM]
 have hJ := refJoin_any w.heap.size 4 (some ⟨g, 0, none⟩) [⟨A1, n1, c1, l1⟩, ⟨A2, n2, c2, l2⟩, ⟨A3, n3, c3, l3⟩, ⟨A4, n4, c4, l4⟩] (by simp) (by show (flat _ 4).length ≤ _; rw [hf, hl]; exact hn) w (Nat.le_refl _) (fun _ => ⟨g, rfl, hb.lt, fun j hj => by
  rw [hb.cell]
  match j, hj with
  | 0, _ => exact ⟨rfl, h1⟩
  | 1, _ => exact ⟨rfl, h2⟩
  | 2, _ => exact ⟨rfl, h3⟩
  | 3, _ => exact ⟨rfl, h4⟩
  | j + 4, hj => exact absurd hj (by simp)⟩)
 refine hJ.mono ?_
 rintro e w' ⟨A', c', he, ho, hbl⟩
 have e2 : ([⟨A1, n1, c1, l1⟩, ⟨A2, n2, c2, l2⟩, ⟨A3, n3, c3, l3⟩, ⟨A4, n4, c4, l4⟩] : List Part).length = 4 := rfl
 rw [e2, hf, hl] at he ho
 obtain ⟨q1, q2, _⟩ := own_addr ho
 exact ⟨A', c', he, Rd.of_own ho, q1, q2, hbl⟩
/-- the words that are mixed -/
def xcW (k inn : List UInt8) : List UInt32 := fillW (fillW baseW 4 (wordL k) 8) 12 (wordL inn) 4
def xcoreW (k inn : List UInt8) : List UInt32 := coreW 10 (xcW k inn)
/-- HChaCha20 -/
def deriveL (k inn : List UInt8) : List UInt8 := ((xcoreW k inn).take 4 ++ (xcoreW k inn).drop 12).flatMap fun x => littleL x.toNat 4
theorem xcW_length (k inn : List UInt8) : (xcW k inn).length = 16 := by rw [xcW, fillW_length, fillW_length]; rfl
theorem xcoreW_length (k inn : List UInt8) : (xcoreW k inn).length = 16 := by rw [xcoreW, coreW_length, xcW_length]
theorem deriveL_length (k inn : List UInt8) : (deriveL k inn).length = 32 := by
 rw [deriveL, flat_four, List.length_append, List.length_take, List.length_drop, xcoreW_length]; rfl
def longN (n : List UInt8) : List UInt8 := List.replicate 4 0 ++ n.drop 16
theorem longN_length (n : List UInt8) (h : n.length = 24) : (longN n).length = 12 := by rw [longN, List.length_append, List.length_replicate, List.length_drop, h]
def longK (k n : List UInt8) : List UInt8 := deriveL k (n.take 16)
theorem longK_length (k n : List UInt8) : (longK k n).length = 32 := deriveL_length _ _
def xsealL (k n p more : List UInt8) : List UInt8 := sealL (longK k n) (longN n) p more
def xopenL (k n s more : List UInt8) : List UInt8 × Nat := openL (longK k n) (longN n) s more
theorem xsealL_length (k n p more : List UInt8) : (xsealL k n p more).length = p.length + 16 := sealL_length _ _ _ _
theorem xc_cellsL (l : List UInt8) (h : l.length = 24) : (Tryz.prog.info? 25).map (·.size) = some (l.map u8v).length := by
 rw [List.length_map, h]; kernel_rfl
theorem xc_cells16 (l : List UInt8) (h : l.length = 16) : (Tryz.prog.info? 26).map (·.size) = some (l.map u8v).length := by
 rw [List.length_map, h]; kernel_rfl
/-- the derived key, piece by piece, as a loop over four words lays it -/
def derRow (W : List UInt32) : Nat → List UInt8
 | 0 => List.replicate 32 0
 | j + 1 => putL (putL (derRow W j) (4 * j) (littleL (wd W j).toNat 4)) (16 + 4 * j) (littleL (wd W (12 + j)).toNat 4)
theorem derRow_length (W : List UInt32) : ∀ j, j ≤ 4 → (derRow W j).length = 32
 | 0, _ => rfl
 | j + 1, h => by
  have := derRow_length W j (by omega)
  rw [derRow, putL_length _ _ _ (by rw [putL_length _ _ _ (by rw [littleL_length]; omega), littleL_length]; omega), putL_length _ _ _ (by rw [littleL_length]; omega), this]
theorem der_four (b0 b1 b2 b3 c0 c1 c2 c3 : List UInt8) (hb0 : b0.length = 4) (hb1 : b1.length = 4) (hb2 : b2.length = 4) (hb3 : b3.length = 4) (hc0 : c0.length = 4) (hc1 : c1.length = 4) (hc2 : c2.length = 4) (hc3 : c3.length = 4) :
 putL (putL (putL (putL (putL (putL (putL (putL (List.replicate 32 0) 0 b0) 16 c0) 4 b1) 20 c1) 8 b2) 24 c2) 12 b3) 28 c3 = b0 ++ (b1 ++ (b2 ++ (b3 ++ (c0 ++ (c1 ++ (c2 ++ c3)))))) := by
 match b0, hb0, b1, hb1, b2, hb2, b3, hb3, c0, hc0, c1, hc1, c2, hc2, c3, hc3 with
 | [_, _, _, _], _, [_, _, _, _], _, [_, _, _, _], _, [_, _, _, _], _, [_, _, _, _], _, [_, _, _, _], _, [_, _, _, _], _, [_, _, _, _], _ => simp [putL]
theorem derRow_end (W : List UInt32) (h : W.length = 16) : derRow W 4 = (W.take 4 ++ W.drop 12).flatMap fun x => littleL x.toNat 4 := by
 match W, h with
 | [a0, a1, a2, a3, a4, a5, a6, a7, a8, a9, a10, a11, a12, a13, a14, a15], _ =>
  have h4 := der_four (littleL a0.toNat 4) (littleL a1.toNat 4) (littleL a2.toNat 4) (littleL a3.toNat 4) (littleL a12.toNat 4) (littleL a13.toNat 4) (littleL a14.toNat 4) (littleL a15.toNat 4) (littleL_length _ _) (littleL_length _ _) (littleL_length _ _) (littleL_length _ _) (littleL_length _ _) (littleL_length _ _) (littleL_length _ _) (littleL_length _ _)
  simpa [derRow, wd] using h4
/-- a cookie reply, and the cookie of one -/
def replyM (p n ck mac : List UInt8) (r : Nat) : MsgM := ⟨[r], n ++ xsealL (hideB p) n ck mac⟩
def openB (p mac l : List UInt8) : List UInt8 × Nat :=
 if kindB l = 3 then
  let r := xopenL (hideB p) ((l.drop 8).take 24) ((l.drop 32).take 32) mac
  if r.2 = 0 then (r.1, 0) else (List.replicate 16 0, r.2)
 else (List.replicate 16 0, 4)
def McReplyC (F : Nat) : Prop := ∀ (p n ck mac : List UInt8), p.length = 32 → n.length = 24 → ck.length = 16 → mac.length = 16 → ∀ r : Nat, r < 4294967296 → ∀ w : World, LvBlake w →
 Calls Tryz.prog F #[.agg (p.map u8v).toArray, .agg (n.map u8v).toArray, .agg (ck.map u8v).toArray, .agg (mac.map u8v).toArray, .int .u32 (r : Int)] w fun e w' => ∃ A c, e = .returned (.slice A (msLen 3) c) ∧ msLen 3 ≤ c ∧ c ≤ maxLen ∧ RdIn w.heap.size w'.heap.size A (msLen 3) (encB 3 (replyM p n ck mac r)) w' ∧ Below w.heap.size w w'
def McOpenC (F : Nat) : Prop := ∀ (p mac : List UInt8), p.length = 32 → mac.length = 16 → ∀ (A : Option Addr) (n c : Nat) (l : List UInt8), n ≤ c → c ≤ maxLen → n ≤ 100000 → ∀ w : World, LvBlake w → Rd w w.heap.size A n l →
 Calls Tryz.prog F #[.agg (p.map u8v).toArray, .agg (mac.map u8v).toArray, .slice A n c] w fun e w' => e = .returned (.tuple #[.agg ((openB p mac l).1.map u8v).toArray, .int .i64 ((openB p mac l).2 : Int)]) ∧ Below w.heap.size w w'
theorem replyM_ok {p n ck mac : List UInt8} {r : Nat} (hn : n.length = 24) (hck : ck.length = 16) (hr : r < 4294967296) : (replyM p n ck mac r).ok 3 := by
 refine ⟨rfl, ?_, ?_⟩
 ·
  show (n ++ xsealL (hideB p) n ck mac).length = 56
  rw [List.length_append, hn, xsealL_length, hck]
 ·
  intro v hv
  simp only [replyM, List.mem_singleton] at hv
  omega
set_option maxRecDepth 100000 in
theorem refLeft_any (x : UInt32) (n : Nat) (h0 : 0 < n) (h : n < 32) (w : World) :
 Calls Tryz.prog 95 #[.int .u32 (x.toNat : Int), .int .i64 (n : Int)] w fun e w' => e = .returned (.int .u32 ((rotl x n).toNat : Int)) ∧ ∃ q, w' = w.drewN q := by
 have hx : x.toNat < 4294967296 := x.toNat_lt
 have hn : (0 : Int) ≤ 32 - (n : Int) := by omega
 have HR := Lib.hid (u32_rotl x n h0 h)
 go_enter Tryz.func95, Tryz.ntmps95
 go_wp2
 go_quiet (fail)
 go_wp2
 rw [HR.out]
 go_ret
 exact ⟨rfl, _, rfl⟩
end Go.Proofs.YtlddafkikkaonaaGreatDoor
