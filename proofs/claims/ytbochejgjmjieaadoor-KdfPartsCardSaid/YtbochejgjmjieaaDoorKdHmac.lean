/-
  The contract of the reference's Hmac.
-/
import Derived.Test.YtbochejgjmjieaaDoorCells32
import Derived.Test.YtbochejgjmjieaaDoorKdMath
import Derived.Test.YtbochejgjmjieaaDoorTwoOwn
import Derived.Test.YtbochejgjmjieaaDoorBlUseR
import Derived.Laws.BitsAllLaws
namespace Go.Proofs.YtbochejgjmjieaaDoor
open Go.RowKit

theorem u8_xor_lit (a b : UInt8) : bits BinOp.xor IntKind.u8 (a.toNat : Int) (b.toNat : Int) = ((a ^^^ b).toNat : Int) := by
  rw [UInt8.toNat_xor, u8_xor_nat _ _ a.toNat_lt b.toNat_lt]
theorem PartsRd.below {w W : World} {B : Nat} {A : Option Addr} {ps : List Part} (h : PartsRd w B A ps) (hb : Below B w W) : PartsRd W B A ps := fun h0 => by
  obtain ⟨g, e, hg, hc⟩ := h h0
  exact ⟨g, e, hg, fun j hj => ⟨(hb.cell (p := ⟨g, j, none⟩) hg).trans (hc j hj).1, (hc j hj).2.below hb⟩⟩
/-- two byte strings in one interval of blocks -/
def rd2E (lo hi : Nat) (A : Option Addr) (n : Nat) (l : List UInt8) (A' : Option Addr) (n' : Nat) (l' : List UInt8) : Ent := ⟨lo, hi, fun W => RdIn lo hi A n l W ∧ RdIn lo hi A' n' l' W, fun W W' h hp => ⟨(rdE lo hi A n l).loc W W' h hp.1, (rdE lo hi A' n' l').loc W W' h hp.2⟩⟩
theorem RdIn.of_own {W : World} {B n c : Nat} {A : Option Addr} {l : List UInt8} (ho : W.ownsRow B 5 1 (.slice A n c) n (l.map u8v)) : RdIn B W.heap.size A n l W := by
  have hr := Rd.of_own ho
  refine ⟨hr.1, fun hn => ?_⟩
  obtain ⟨b, off, e, h1, hc⟩ := hr.2 hn
  subst e
  exact ⟨b, off, rfl, (ho.lt b rfl).1, h1, hc⟩
theorem MemB.rows {w0 W : World} {B : Nat} {E : List Ent} (h : MemB w0 B E W) {A A' : Option Addr} {n n' c c' : Nat} {l l' : List UInt8} (ho : W.ownsRow B 5 1 (.slice A n c) n (l.map u8v)) (ho' : W.ownsRow B 5 1 (.slice A' n' c') n' (l'.map u8v)) : Mem w0 (rd2E B W.heap.size A n l A' n' l' :: E) W :=
  ⟨⟨Nat.le_refl _, h.2.2, ⟨RdIn.of_own ho, RdIn.of_own ho'⟩, h.1⟩, h.2.1⟩
theorem Mem.rd2 {w0 W : World} {E : List Ent} (h : Mem w0 E W) (i : Nat) {lo hi : Nat} {A A' : Option Addr} {n n' : Nat} {l l' : List UInt8} (he : E[i]? = some (rd2E lo hi A n l A' n' l')) : Rd W W.heap.size A n l ∧ Rd W W.heap.size A' n' l' :=
  ⟨(RdIn.rd (h.1.get i _ he).1).mono (MemE.put.MemE.under h.1 i _ he), (RdIn.rd (h.1.get i _ he).2).mono (MemE.put.MemE.under h.1 i _ he)⟩

set_option maxRecDepth 100000 in
set_option maxHeartbeats 16000000 in
theorem refHmac_any (Ak : Option Addr) (nk ck : Nat) (key : List UInt8) (hkc : nk ≤ ck) (hkm : ck ≤ maxLen) (hk3 : nk ≤ 1000) (c : Nat) (A : Option Addr) (ps : List Part) (hm : ps.length ≤ 1000) (ht : (flat ps ps.length).length ≤ 5000) (w : World) (hrk : Rd w w.heap.size Ak nk key) (hp : PartsRd w w.heap.size A ps) :
    Calls Tryd.prog 12 #[.slice Ak nk ck, .slice A ps.length c] w fun e w' => e = .returned (.agg ((hmacB key (flat ps ps.length)).map u8v).toArray) ∧ Below w.heap.size w w' := by
  obtain ⟨i0, hi, hz0, hz1, hz2⟩ := info_parts Tryd.info5
  have HK := Lib.hid hrk
  have HKL := Lib.hid hrk.1
  have HM := Lib.hid (show Mem w [blkE w.heap.size 30 (aeZ 32)] (w.alloc (.cells #[.int .u8 0, .int .u8 0, .int .u8 0, .int .u8 0, .int .u8 0, .int .u8 0, .int .u8 0, .int .u8 0, .int .u8 0, .int .u8 0, .int .u8 0, .int .u8 0, .int .u8 0, .int .u8 0, .int .u8 0, .int .u8 0, .int .u8 0, .int .u8 0, .int .u8 0, .int .u8 0, .int .u8 0, .int .u8 0, .int .u8 0, .int .u8 0, .int .u8 0, .int .u8 0, .int .u8 0, .int .u8 0, .int .u8 0, .int .u8 0, .int .u8 0, .int .u8 0] 30)) from (Mem.nil w).alloc rfl 30 #[.int .u8 0, .int .u8 0, .int .u8 0, .int .u8 0, .int .u8 0, .int .u8 0, .int .u8 0, .int .u8 0, .int .u8 0, .int .u8 0, .int .u8 0, .int .u8 0, .int .u8 0, .int .u8 0, .int .u8 0, .int .u8 0, .int .u8 0, .int .u8 0, .int .u8 0, .int .u8 0, .int .u8 0, .int .u8 0, .int .u8 0, .int .u8 0, .int .u8 0, .int .u8 0, .int .u8 0, .int .u8 0, .int .u8 0, .int .u8 0, .int .u8 0, .int .u8 0] (aeZ 32) rfl)
  have JC := Lib.hid (fun (W : World) (hb : Below w.heap.size w W) => refJoin_any w.heap.size c A ps (by omega) (by omega) W hb.size (hp.below hb))
  obtain ⟨dl, hdl⟩ : ∃ l, flat ps ps.length = l := ⟨_, rfl⟩
  rw [hdl] at JC ht ⊢
  clear hdl hp
  obtain ⟨nd, hnd⟩ : ∃ n, dl.length = n := ⟨_, rfl⟩
  rw [hnd] at JC ht
  obtain ⟨np, hnp⟩ : ∃ n, ps.length = n := ⟨_, rfl⟩
  rw [hnp] at JC ⊢
  clear hnp hm hnd hrk
  go_enter Tryd.func12, Tryd.ntmps12
  go_upto_if 13 with fail
  generalize w.alloc (.cells #[.int .u8 0, .int .u8 0, .int .u8 0, .int .u8 0, .int .u8 0, .int .u8 0, .int .u8 0, .int .u8 0, .int .u8 0, .int .u8 0, .int .u8 0, .int .u8 0, .int .u8 0, .int .u8 0, .int .u8 0, .int .u8 0, .int .u8 0, .int .u8 0, .int .u8 0, .int .u8 0, .int .u8 0, .int .u8 0, .int .u8 0, .int .u8 0, .int .u8 0, .int .u8 0, .int .u8 0, .int .u8 0, .int .u8 0, .int .u8 0, .int .u8 0, .int .u8 0] 30) = w1 at HM ⊢
  go_cut [0] (fun v0 wx => ∃ A n c, v0 = .slice A n c ∧ n = (hkeyB key).length ∧ Mem w [blkE w.heap.size 30 (aeZ 32)] wx ∧ Rd wx wx.heap.size A n (hkeyB key))
  case first =>
    by_cases h64 : 64 < nk
    · have d64 : decide ((nk : Int) > 64) = true := by simp; omega
      have hkk : hkeyB key = hashB 32 [] key := by rw [hkeyB, if_pos (by rw [HKL.out]; exact h64)]
      have hkl : (hkeyB key).length = 32 := by rw [hkk]; exact hashB_length _ _ _ (by omega)
      obtain ⟨kk, hkke⟩ : ∃ l, hkeyB key = l := ⟨_, rfl⟩
      rw [hkke] at hkk hkl
      have HKK := Lib.hid hkk
      have HLK := Lib.hid hkl
      have HKE := Lib.hid hkke
      clear hkk hkl hkke
      obtain ⟨ckk, hckk⟩ : ∃ c, (kk.map u8v).toArray = c := ⟨_, rfl⟩
      have HCK := Lib.hid hckk
      clear hckk
      go_wp2_with fail
      clear d64
      replace HM := Lib.hid (show Mem w [blkE w1.heap.size 22 [.slice Ak nk ck], blkE w.heap.size 30 (aeZ 32)] (w1.alloc (.cells #[.slice Ak nk ck] 22)) from HM.out.alloc rfl 22 #[.slice Ak nk ck] [.slice Ak nk ck] rfl)
      generalize w1.alloc (.cells #[.slice Ak nk ck] 22) = w2 at HM ⊢
      generalize w1.heap.size = Q at HM ⊢
      refine (ref_hash_one Q 22 Ak nk ck key hkc hkm (by omega) _ (HM.out.blk 0 rfl) (HM.out.arg HK.out)).mono ?_
      rintro e w3 ⟨rfl, hb⟩
      rw [← HKK.out, HCK.out]
      replace HM := Lib.hid (show Mem w [blkE w.heap.size 30 (aeZ 32)] w3 from (HM.out.below hb).erase 0)
      clear hb
      have HA := Lib.hid (HM.out.alloc rfl 30 #[.int .u8 0, .int .u8 0, .int .u8 0, .int .u8 0, .int .u8 0, .int .u8 0, .int .u8 0, .int .u8 0, .int .u8 0, .int .u8 0, .int .u8 0, .int .u8 0, .int .u8 0, .int .u8 0, .int .u8 0, .int .u8 0, .int .u8 0, .int .u8 0, .int .u8 0, .int .u8 0, .int .u8 0, .int .u8 0, .int .u8 0, .int .u8 0, .int .u8 0, .int .u8 0, .int .u8 0, .int .u8 0, .int .u8 0, .int .u8 0, .int .u8 0, .int .u8 0] (aeZ 32) rfl)
      go_upto_region 3 with (refine wpList_store_blk rfl 30 (.tmp 5) (.tmp 16) rfl w3.heap.size (kk.map u8v) rfl (by show Value.agg ckk = _; rw [HCK.out]) 30 (aeZ 32) (HA.out.blk 0 rfl) (cells32 kk HLK.out) (by rw [List.length_map, HLK.out]; rfl) (u8v_one _) ?_; intro w4 hb4 hg4)
      replace HM := Lib.hid (show Mem w [blkE w3.heap.size 30 (kk.map u8v), blkE w.heap.size 30 (aeZ 32)] w4 from HA.out.put 0 rfl _ hg4 hb4)
      clear hb4 hg4 HA
      generalize w3.heap.size = P at HM ⊢
      have HF := Lib.hid (show Mem w [blkE w.heap.size 30 (aeZ 32)] w4 ∧ Rd w4 w4.heap.size (some ⟨P, 0, none⟩) 32 kk from ⟨HM.out.erase 0, blk_all (HM.out.blk 0 rfl) HLK.out⟩)
      clear HM
      go_wp2
      go_meet
      exact ⟨_, _, _, rfl, by rw [HKE.out, HLK.out], HF.out.1, by rw [HKE.out]; exact HF.out.2⟩
    · have d64 : decide ((nk : Int) > 64) = false := by simp; omega
      have hkk : hkeyB key = key := by rw [hkeyB, if_neg (by rw [HKL.out]; exact h64)]
      have HF := Lib.hid (show Mem w [blkE w.heap.size 30 (aeZ 32)] w1 ∧ Rd w1 w1.heap.size Ak nk (hkeyB key) ∧ nk = (hkeyB key).length from ⟨HM.out, by rw [hkk]; exact HM.out.arg HK.out, by rw [hkk, HKL.out]⟩)
      clear hkk HM
      go_wp2
      go_meet
      exact ⟨_, _, _, rfl, HF.out.2.2, HF.out.1, HF.out.2.1⟩
  case rest =>
    clear HM HK HKL
    obtain ⟨A0, n0, c0, rfl, hn0, hM, hR⟩ := hcut
    have hkl := hkeyB_length key
    obtain ⟨kk, hkke⟩ : ∃ l, hkeyB key = l := ⟨_, rfl⟩
    have HHM := Lib.hid (show hmacB key dl = hashB 32 [] (xpadB kk 0x5c 64 ++ hashB 32 [] (xpadB kk 0x36 64 ++ dl)) by rw [hmacB, hkke])
    rw [hkke] at hkl hn0 hR
    have HB := Lib.hid hM.fix
    have HR := Lib.hid hR
    have n64 : n0 ≤ 64 := by omega
    clear hM hR hkke hn0 hkl
    obtain ⟨B, hB⟩ : ∃ B, wc.heap.size = B := ⟨_, rfl⟩
    rw [hB] at HB HR
    clear hB
    have HKEEP := Lib.hid (show ∀ W : World, Below B wc W → Rd W B A0 n0 kk from fun W h => HR.out.below h)
    clear HR
    go_wp2_with fail
    go_loopw [8, 6, 7] (fun i vi vo wr => ∃ j : Nat, j ≤ 64 ∧ i = .int .i64 (j : Int) ∧ TwoOwn B vi vo j j (xpadB kk 0x36 j) (xpadB kk 0x5c j) wr ∧ MemB w B [blkE w.heap.size 30 (aeZ 32)] wr ∧ Below B wc wr) (fun i _ _ _ => 64 - (intOf i).toNat)
    case atStart => exact ⟨0, by omega, rfl, ⟨World.ownsRow_nil _ _ _ _, World.ownsRow_nil _ _ _ _, fun k h => by cases h⟩, HB.out, Below.refl _ _⟩
    case round =>
      clear HB
      obtain ⟨j, hj, rfl, htwo, hmb, hbel⟩ := hrel
      have HO := Lib.hid (And.intro htwo (And.intro hmb hbel))
      clear htwo hmb hbel
      by_cases hlt : j < 64
      · have d : decide ((j : Int) < 64) = true := by simp; omega
        by_cases hjn : j < n0
        · have dn : decide ((j : Int) < (n0 : Int)) = true := by simp; omega
          have hkr := HKEEP.out _ HO.out.2.2
          obtain ⟨b0, o0, rfl, _, hc⟩ := hkr.at_ (by omega)
          have hjl : j < kk.length := by rw [hkr.1]; exact hjn
          have fx := hc j hjl
          obtain ⟨X, hX⟩ : ∃ x, kk[j] = x := ⟨_, rfl⟩
          rw [hX] at fx
          have hgd : kk.getD j 0 = X := by rw [List.getD_eq_getElem?_getD, List.getElem?_eq_getElem hjl, hX]; rfl
          clear hc hkr hjl hX
          obtain ⟨y1, hy1⟩ : ∃ y, (X : UInt8) ^^^ 0x36 = y := ⟨_, rfl⟩
          obtain ⟨y2, hy2⟩ : ∃ y, (X : UInt8) ^^^ 0x5c = y := ⟨_, rfl⟩
          have x1 : bits BinOp.xor IntKind.u8 (X.toNat : Int) 54 = (y1.toNat : Int) := by rw [← hy1]; exact u8_xor_lit X 54
          have x2 : bits BinOp.xor IntKind.u8 (X.toNat : Int) 92 = (y2.toNat : Int) := by rw [← hy2]; exact u8_xor_lit X 92
          have HN1 := Lib.hid (show xpadB kk 0x36 (j + 1) = xpadB kk 0x36 j ++ [y1] by rw [xpadB_succ, hgd, hy1])
          have HN2 := Lib.hid (show xpadB kk 0x5c (j + 1) = xpadB kk 0x5c j ++ [y2] by rw [xpadB_succ, hgd, hy2])
          have hnew1 := rd_new wr 5 [y1]
          have hm1 := (HO.out.2.1).below ((Below.refl _ wr).alloc (HO.out.2.1).2.2 (.cells ([y1].map u8v).toArray 5))
          have ht1 := HO.out.1.alloc (.cells ([y1].map u8v).toArray 5)
          have hw1 := HO.out.2.2.alloc HO.out.2.1.2.2 (.cells ([y1].map u8v).toArray 5)
          rw [show ([y1].map u8v).toArray = #[.int .u8 (y1.toNat : Int)] from rfl] at hnew1 hm1 ht1 hw1
          have H1 := Lib.hid (And.intro hnew1 (And.intro ht1 hm1))
          have HW1 := Lib.hid hw1
          clear hnew1 hm1 ht1 hw1 hgd hy1 hy2 HO
          go_upto_region 11 with fail
          go_wp2_with (first | (refine wpList_append_at _ rfl (.tmp 30) (.tmp 33) 22 rfl B 5 i0 (.int .u8 0) Tryd.underlying22 hi hz0 hz1 hz2 rfl u6 j (xpadB kk 0x36 j) rfl H1.out.2.1.1 ⟨wr.heap.size, 0, none⟩ 1 1 [y1] rfl (H1.out.1.mono (by simp)) (by omega) H1.out.2.2.2.2 ?_; intro vi2 w2 ho2 hg2 hk2; have ht2 := H1.out.2.1.first ho2 hg2 hk2; have hm2 := H1.out.2.2.grown H1.out.2.1.1 hg2; have hw2 := (HW1.out.grown hg2 H1.out.2.2.2.2 (own_from H1.out.2.1.1)).alloc hm2.2.2 (.cells ([y2].map u8v).toArray 5); have hnew2 := rd_new w2 5 [y2]; have ht3 := ht2.alloc (.cells ([y2].map u8v).toArray 5); have hm3 := hm2.below ((Below.refl _ w2).alloc hm2.2.2 (.cells ([y2].map u8v).toArray 5)); rw [show ([y2].map u8v).toArray = #[.int .u8 (y2.toNat : Int)] from rfl] at hnew2 ht3 hm3 hw2; have H2 := Lib.hid (And.intro hnew2 (And.intro ht3 hm3)); have HW2 := Lib.hid hw2; clear ho2 hg2 hk2 ht2 hm2 hnew2 ht3 hm3 hw2) | (refine wpList_append_at _ rfl (.tmp 35) (.tmp 38) 22 rfl B 5 i0 (.int .u8 0) Tryd.underlying22 hi hz0 hz1 hz2 rfl u7 j (xpadB kk 0x5c j) rfl H2.out.2.1.2.1 ⟨w2.heap.size, 0, none⟩ 1 1 [y2] rfl (H2.out.1.mono (by simp)) (by omega) H2.out.2.2.2.2 ?_; intro vo2 w3 ho3 hg3 hk3))
          have HF := Lib.hid (show TwoOwn B vi2 vo2 (j + 1) (j + 1) (xpadB kk 0x36 (j + 1)) (xpadB kk 0x5c (j + 1)) w3 ∧ MemB w B [blkE w.heap.size 30 (aeZ 32)] w3 ∧ Below B wc w3 from ⟨by rw [HN1.out, HN2.out]; exact (H2.out.2.1.swap.first ho3 hg3 hk3).swap, H2.out.2.2.grown H2.out.2.1.2.1 hg3, HW2.out.grown hg3 H2.out.2.2.2.2 (own_from H2.out.2.1.2.1)⟩)
          clear ho3 hg3 hk3 H1 H2 HW1 HW2 x1 x2 HN1 HN2
          go_wp2
          refine ⟨⟨j + 1, by omega, by go_num, HF.out.1, HF.out.2.1, HF.out.2.2⟩, ?_⟩
          simp [intOf]
          omega
        · have dn : decide ((j : Int) < (n0 : Int)) = false := by simp; omega
          have hgd : kk.getD j 0 = (0 : UInt8) := by
            rw [List.getD_eq_getElem?_getD, List.getElem?_eq_none (by have := (HKEEP.out _ HO.out.2.2).1; omega)]; rfl
          obtain ⟨y1, hy1⟩ : ∃ y, (0 : UInt8) ^^^ 0x36 = y := ⟨_, rfl⟩
          obtain ⟨y2, hy2⟩ : ∃ y, (0 : UInt8) ^^^ 0x5c = y := ⟨_, rfl⟩
          have x1 : bits BinOp.xor IntKind.u8 (0 : Int) 54 = (y1.toNat : Int) := by rw [← hy1]; exact u8_xor_lit 0 54
          have x2 : bits BinOp.xor IntKind.u8 (0 : Int) 92 = (y2.toNat : Int) := by rw [← hy2]; exact u8_xor_lit 0 92
          have HN1 := Lib.hid (show xpadB kk 0x36 (j + 1) = xpadB kk 0x36 j ++ [y1] by rw [xpadB_succ, hgd, hy1])
          have HN2 := Lib.hid (show xpadB kk 0x5c (j + 1) = xpadB kk 0x5c j ++ [y2] by rw [xpadB_succ, hgd, hy2])
          have hnew1 := rd_new wr 5 [y1]
          have hm1 := (HO.out.2.1).below ((Below.refl _ wr).alloc (HO.out.2.1).2.2 (.cells ([y1].map u8v).toArray 5))
          have ht1 := HO.out.1.alloc (.cells ([y1].map u8v).toArray 5)
          have hw1 := HO.out.2.2.alloc HO.out.2.1.2.2 (.cells ([y1].map u8v).toArray 5)
          rw [show ([y1].map u8v).toArray = #[.int .u8 (y1.toNat : Int)] from rfl] at hnew1 hm1 ht1 hw1
          have H1 := Lib.hid (And.intro hnew1 (And.intro ht1 hm1))
          have HW1 := Lib.hid hw1
          clear hnew1 hm1 ht1 hw1 hgd hy1 hy2 HO
          go_upto_region 11 with fail
          go_wp2_with (first | (refine wpList_append_at _ rfl (.tmp 30) (.tmp 33) 22 rfl B 5 i0 (.int .u8 0) Tryd.underlying22 hi hz0 hz1 hz2 rfl u6 j (xpadB kk 0x36 j) rfl H1.out.2.1.1 ⟨wr.heap.size, 0, none⟩ 1 1 [y1] rfl (H1.out.1.mono (by simp)) (by omega) H1.out.2.2.2.2 ?_; intro vi2 w2 ho2 hg2 hk2; have ht2 := H1.out.2.1.first ho2 hg2 hk2; have hm2 := H1.out.2.2.grown H1.out.2.1.1 hg2; have hw2 := (HW1.out.grown hg2 H1.out.2.2.2.2 (own_from H1.out.2.1.1)).alloc hm2.2.2 (.cells ([y2].map u8v).toArray 5); have hnew2 := rd_new w2 5 [y2]; have ht3 := ht2.alloc (.cells ([y2].map u8v).toArray 5); have hm3 := hm2.below ((Below.refl _ w2).alloc hm2.2.2 (.cells ([y2].map u8v).toArray 5)); rw [show ([y2].map u8v).toArray = #[.int .u8 (y2.toNat : Int)] from rfl] at hnew2 ht3 hm3 hw2; have H2 := Lib.hid (And.intro hnew2 (And.intro ht3 hm3)); have HW2 := Lib.hid hw2; clear ho2 hg2 hk2 ht2 hm2 hnew2 ht3 hm3 hw2) | (refine wpList_append_at _ rfl (.tmp 35) (.tmp 38) 22 rfl B 5 i0 (.int .u8 0) Tryd.underlying22 hi hz0 hz1 hz2 rfl u7 j (xpadB kk 0x5c j) rfl H2.out.2.1.2.1 ⟨w2.heap.size, 0, none⟩ 1 1 [y2] rfl (H2.out.1.mono (by simp)) (by omega) H2.out.2.2.2.2 ?_; intro vo2 w3 ho3 hg3 hk3))
          have HF := Lib.hid (show TwoOwn B vi2 vo2 (j + 1) (j + 1) (xpadB kk 0x36 (j + 1)) (xpadB kk 0x5c (j + 1)) w3 ∧ MemB w B [blkE w.heap.size 30 (aeZ 32)] w3 ∧ Below B wc w3 from ⟨by rw [HN1.out, HN2.out]; exact (H2.out.2.1.swap.first ho3 hg3 hk3).swap, H2.out.2.2.grown H2.out.2.1.2.1 hg3, HW2.out.grown hg3 H2.out.2.2.2.2 (own_from H2.out.2.1.2.1)⟩)
          clear ho3 hg3 hk3 H1 H2 HW1 HW2 x1 x2 HN1 HN2
          go_wp2
          refine ⟨⟨j + 1, by omega, by go_num, HF.out.1, HF.out.2.1, HF.out.2.2⟩, ?_⟩
          simp [intOf]
          omega
      · obtain rfl : j = 64 := by omega
        obtain ⟨Ai, ci, rfl, _⟩ := own_slice HO.out.1.1
        obtain ⟨Ao, co, rfl, _⟩ := own_slice HO.out.1.2.1
        have i1 := (own_addr HO.out.1.1).1
        have i2 := (own_addr HO.out.1.1).2.1
        have o1 := (own_addr HO.out.1.2.1).1
        have o2 := (own_addr HO.out.1.2.1).2.1
        have HM := Lib.hid (HO.out.2.1.rows HO.out.1.1 HO.out.1.2.1)
        clear HO HKEEP
        generalize xpadB kk 0x36 64 = li at HM HHM
        generalize xpadB kk 0x5c 64 = lo at HM HHM
        generalize hQ0 : wr.heap.size = Q0 at HM
        clear hQ0
        obtain ⟨h1, hh1⟩ : ∃ l, hashB 32 [] (li ++ dl) = l := ⟨_, rfl⟩
        have HL1 := Lib.hid (show h1.length = 32 by rw [← hh1]; exact hashB_length _ _ _ (by omega))
        rw [hh1] at HHM
        have HH1 := Lib.hid hh1
        clear hh1
        obtain ⟨c1, hc1⟩ : ∃ c, (h1.map u8v).toArray = c := ⟨_, rfl⟩
        have HC1 := Lib.hid hc1
        clear hc1
        have HLZ := Lib.hid (hmacB_length key dl)
        obtain ⟨hz, hhz⟩ : ∃ l, hmacB key dl = l := ⟨_, rfl⟩
        rw [hhz] at HHM HLZ
        have HHZ := Lib.hid hhz
        clear hhz
        obtain ⟨cz, hcz⟩ : ∃ c, (hz.map u8v).toArray = c := ⟨_, rfl⟩
        have HCZ := Lib.hid hcz
        clear hcz
        rw [show ((64 : Nat) : Int) = 64 from rfl]
        go_wp2_with fail
        refine (JC.out _ HM.out.bel).mono ?_
        rintro e w3 ⟨A3, c3, rfl, ho, hb⟩
        have d1 := (own_addr ho).1
        have d2 := (own_addr ho).2.1
        replace HM := Lib.hid (show Mem w [rdE wr.heap.size w3.heap.size A3 nd dl, rd2E B Q0 Ai 64 li Ao 64 lo, blkE w.heap.size 30 (aeZ 32)] w3 from HM.out.callRd hb ho)
        clear ho hb JC
        go_wp2_with fail
        replace HM := Lib.hid (show Mem w [blkE w3.heap.size 22 [Value.slice Ai 64 ci, .slice A3 nd c3], rdE wr.heap.size w3.heap.size A3 nd dl, rd2E B Q0 Ai 64 li Ao 64 lo, blkE w.heap.size 30 (aeZ 32)] (w3.alloc (.cells #[Value.slice Ai 64 ci, .slice A3 nd c3] 22)) from HM.out.alloc rfl 22 #[Value.slice Ai 64 ci, .slice A3 nd c3] [Value.slice Ai 64 ci, .slice A3 nd c3] rfl)
        generalize w3.alloc (.cells #[Value.slice Ai 64 ci, .slice A3 nd c3] 22) = w4 at HM ⊢
        generalize w3.heap.size = Q at HM ⊢
        refine (ref_hash_two Q 22 Ai 64 ci li A3 nd c3 dl i1 i2 (by omega) d1 d2 (by omega) _ (HM.out.blk 0 rfl) (HM.out.rd2 2 rfl).1 (HM.out.rd 1 rfl)).mono ?_
        rintro e w5 ⟨rfl, hb⟩
        rw [HH1.out, HC1.out]
        replace HM := Lib.hid (show Mem w [rd2E B Q0 Ai 64 li Ao 64 lo, blkE w.heap.size 30 (aeZ 32)] w5 from ((HM.out.below hb).erase 0).erase 0)
        clear hb
        have HA := Lib.hid (HM.out.alloc rfl 30 #[.int .u8 0, .int .u8 0, .int .u8 0, .int .u8 0, .int .u8 0, .int .u8 0, .int .u8 0, .int .u8 0, .int .u8 0, .int .u8 0, .int .u8 0, .int .u8 0, .int .u8 0, .int .u8 0, .int .u8 0, .int .u8 0, .int .u8 0, .int .u8 0, .int .u8 0, .int .u8 0, .int .u8 0, .int .u8 0, .int .u8 0, .int .u8 0, .int .u8 0, .int .u8 0, .int .u8 0, .int .u8 0, .int .u8 0, .int .u8 0, .int .u8 0, .int .u8 0] (aeZ 32) rfl)
        go_upto_region 13 with (refine wpList_store_blk rfl 30 (.tmp 10) (.tmp 44) rfl w5.heap.size (h1.map u8v) rfl (by show Value.agg c1 = _; rw [HC1.out]) 30 (aeZ 32) (HA.out.blk 0 rfl) (cells32 h1 HL1.out) (by rw [List.length_map, HL1.out]; rfl) (u8v_one _) ?_; intro w6 hb6 hg6)
        replace HM := Lib.hid (show Mem w [blkE w5.heap.size 30 (h1.map u8v), rd2E B Q0 Ai 64 li Ao 64 lo, blkE w.heap.size 30 (aeZ 32)] w6 from HA.out.put 0 rfl _ hg6 hb6)
        clear hb6 hg6 HA
        generalize w5.heap.size = P at HM ⊢
        go_wp2_with fail
        replace HM := Lib.hid (show Mem w [blkE w6.heap.size 22 [Value.slice Ao 64 co, .slice (some ⟨P, 0, none⟩) 32 32], blkE P 30 (h1.map u8v), rd2E B Q0 Ai 64 li Ao 64 lo, blkE w.heap.size 30 (aeZ 32)] (w6.alloc (.cells #[Value.slice Ao 64 co, .slice (some ⟨P, 0, none⟩) 32 32] 22)) from HM.out.alloc rfl 22 #[Value.slice Ao 64 co, .slice (some ⟨P, 0, none⟩) 32 32] [Value.slice Ao 64 co, .slice (some ⟨P, 0, none⟩) 32 32] rfl)
        generalize w6.alloc (.cells #[Value.slice Ao 64 co, .slice (some ⟨P, 0, none⟩) 32 32] 22) = w7 at HM ⊢
        generalize w6.heap.size = Q2 at HM ⊢
        refine (ref_hash_two Q2 22 Ao 64 co lo (some ⟨P, 0, none⟩) 32 32 h1 o1 o2 (by omega) (Nat.le_refl _) (by unfold maxLen; omega) (by omega) _ (HM.out.blk 0 rfl) (HM.out.rd2 2 rfl).2 (blk_all (HM.out.blk 1 rfl) HL1.out)).mono ?_
        rintro e w8 ⟨rfl, hb⟩
        rw [← HHM.out, HCZ.out]
        replace HM := Lib.hid (show Mem w [blkE w.heap.size 30 (aeZ 32)] w8 from (((HM.out.below hb).erase 0).erase 0).erase 0)
        clear hb
        go_wp2_with (refine wpList_store_blk rfl 30 (.tmp 4) (.tmp 48) rfl w.heap.size (hz.map u8v) rfl (by show Value.agg cz = _; rw [HCZ.out]) 30 (aeZ 32) (HM.out.blk 0 rfl) (cells32 hz HLZ.out) (by rw [List.length_map, HLZ.out]; rfl) (u8v_one _) ?_; intro w9 hb9 hg9)
        exact bodyPost_ret (results_blk rfl _ _ w.heap.size 30 (hz.map u8v) 32 5 rfl hb9 Tryd.underlying30 (cells32 hz HLZ.out)) rfl ⟨by rw [HHZ.out], (HM.out.put 0 rfl _ hg9 hb9).bel⟩
end Go.Proofs.YtbochejgjmjieaaDoor
