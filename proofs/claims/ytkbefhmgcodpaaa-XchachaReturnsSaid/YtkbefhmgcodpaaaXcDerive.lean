/-
  The contract of xchacha.Derive.
-/
import Derived.Test.YtkbefhmgcodpaaaXcWords
import Derived.Test.YtkbefhmgcodpaaaXcC
namespace Go.Proofs.Ytkbefhmgcodpaaa
open Go.RowKit

theorem der_eight (b0 b1 b2 b3 c0 c1 c2 c3 : List UInt8) (hb0 : b0.length = 4) (hb1 : b1.length = 4) (hb2 : b2.length = 4) (hb3 : b3.length = 4) (hc0 : c0.length = 4) (hc1 : c1.length = 4) (hc2 : c2.length = 4) (hc3 : c3.length = 4) :
    putL (putL (putL (putL (putL (putL (putL (putL (List.replicate 32 0) 0 b0) 4 b1) 8 b2) 12 b3) 16 c0) 20 c1) 24 c2) 28 c3 = b0 ++ (b1 ++ (b2 ++ (b3 ++ (c0 ++ (c1 ++ (c2 ++ c3)))))) := by
  match b0, hb0, b1, hb1, b2, hb2, b3, hb3, c0, hc0, c1, hc1, c2, hc2, c3, hc3 with
  | [_, _, _, _], _, [_, _, _, _], _, [_, _, _, _], _, [_, _, _, _], _, [_, _, _, _], _, [_, _, _, _], _, [_, _, _, _], _, [_, _, _, _], _ => simp [putL]
theorem der_write (ms : List UInt32) (h : ms.length = 16) : writeW (writeW (List.replicate 32 (0 : UInt8)) 0 (fun i => wd ms (0 + i)) 4) 16 (fun i => wd ms (12 + i)) 4 = (ms.take 4 ++ ms.drop 12).flatMap fun x => littleL x.toNat 4 := by
  match ms, h with
  | [a0, a1, a2, a3, a4, a5, a6, a7, a8, a9, a10, a11, a12, a13, a14, a15], _ =>
    have h4 := der_eight (littleL a0.toNat 4) (littleL a1.toNat 4) (littleL a2.toNat 4) (littleL a3.toNat 4) (littleL a12.toNat 4) (littleL a13.toNat 4) (littleL a14.toNat 4) (littleL a15.toNat 4) (littleL_length _ _) (littleL_length _ _) (littleL_length _ _) (littleL_length _ _) (littleL_length _ _) (littleL_length _ _) (littleL_length _ _) (littleL_length _ _)
    simpa [writeW, wd] using h4

set_option maxRecDepth 100000 in
theorem deriveC : DeriveC := by
  intro k inn hk hin w
  have SC := fun w' : World => xcStateOf_any k inn hk hin w'
  have CC := fun w' : World => core_any (xcW k inn) (xcW_length k inn) w'
  rw [show coreW 10 (xcW k inn) = xcoreW k inn from rfl] at CC
  have hms := xcoreW_length k inn
  have hdr : deriveL k inn = ((xcoreW k inn).take 4 ++ (xcoreW k inn).drop 12).flatMap fun x => littleL x.toNat 4 := rfl
  rw [← der_write _ hms] at hdr
  generalize xcoreW k inn = ms at CC hms hdr
  obtain ⟨ck, hck⟩ : ∃ ck, (k.map u8v).toArray = ck := ⟨_, rfl⟩
  obtain ⟨ci, hci⟩ : ∃ ck, (inn.map u8v).toArray = ck := ⟨_, rfl⟩
  obtain ⟨cx, hcx⟩ : ∃ c, ((xcW k inn).map u32v).toArray = c := ⟨_, rfl⟩
  obtain ⟨cm, hcm⟩ : ∃ c, (ms.map u32v).toArray = c := ⟨_, rfl⟩
  rw [hck, hci, hcx] at SC
  rw [hcx, hcm] at CC
  rw [hck, hci]
  have HM := Lib.hid (show Mem w [blkE (w.heap.size + 1 + 1) 23 (aeZ 32), blkE (w.heap.size + 1) 24 (inn.map u8v), blkE w.heap.size 23 (k.map u8v)] (((w.alloc (.cells ck 23)).alloc (.cells ci 24)).alloc (.cells #[.int .u8 0, .int .u8 0, .int .u8 0, .int .u8 0, .int .u8 0, .int .u8 0, .int .u8 0, .int .u8 0, .int .u8 0, .int .u8 0, .int .u8 0, .int .u8 0, .int .u8 0, .int .u8 0, .int .u8 0, .int .u8 0, .int .u8 0, .int .u8 0, .int .u8 0, .int .u8 0, .int .u8 0, .int .u8 0, .int .u8 0, .int .u8 0, .int .u8 0, .int .u8 0, .int .u8 0, .int .u8 0, .int .u8 0, .int .u8 0, .int .u8 0, .int .u8 0] 23)) from (((Mem.nil w).alloc rfl 23 ck (k.map u8v) hck.symm).alloc (by simp) 24 ci (inn.map u8v) hci.symm).alloc (by simp) 23 #[.int .u8 0, .int .u8 0, .int .u8 0, .int .u8 0, .int .u8 0, .int .u8 0, .int .u8 0, .int .u8 0, .int .u8 0, .int .u8 0, .int .u8 0, .int .u8 0, .int .u8 0, .int .u8 0, .int .u8 0, .int .u8 0, .int .u8 0, .int .u8 0, .int .u8 0, .int .u8 0, .int .u8 0, .int .u8 0, .int .u8 0, .int .u8 0, .int .u8 0, .int .u8 0, .int .u8 0, .int .u8 0, .int .u8 0, .int .u8 0, .int .u8 0, .int .u8 0] (aeZ 32) rfl)
  have HC := Lib.hid (And.intro hck (And.intro hci hcm))
  have HL := Lib.hid (And.intro hk hin)
  have HMS := Lib.hid hms
  have HDR := Lib.hid hdr
  have HSC := Lib.hid SC
  have HCC := Lib.hid CC
  clear hck hci hcx hcm hk hin hms hdr SC CC
  go_enter Try.func7, Try.ntmps7
  go_upto_region 1 with fail
  generalize (((w.alloc (.cells ck 23)).alloc (.cells ci 24)).alloc (.cells #[.int .u8 0, .int .u8 0, .int .u8 0, .int .u8 0, .int .u8 0, .int .u8 0, .int .u8 0, .int .u8 0, .int .u8 0, .int .u8 0, .int .u8 0, .int .u8 0, .int .u8 0, .int .u8 0, .int .u8 0, .int .u8 0, .int .u8 0, .int .u8 0, .int .u8 0, .int .u8 0, .int .u8 0, .int .u8 0, .int .u8 0, .int .u8 0, .int .u8 0, .int .u8 0, .int .u8 0, .int .u8 0, .int .u8 0, .int .u8 0, .int .u8 0, .int .u8 0] 23)) = w1 at HM ⊢
  go_wp2_with (first | (refine wpList_load_blk rfl 23 (.tmp 2) rfl w.heap.size rfl 23 (k.map u8v) (HM.out.blk 2 rfl) 32 5 Try.underlying23 (cells32 k HL.out.1) ?_; rw [HC.out.1]) | (refine wpList_load_blk rfl 24 (.tmp 3) rfl (w.heap.size + 1) rfl 24 (inn.map u8v) (HM.out.blk 1 rfl) 16 5 Try.underlying24 (xc_cells16 _ HL.out.2) ?_; rw [HC.out.2.1]))
  refine (HSC.out _).mono ?_
  rintro e w2 ⟨rfl, hb⟩
  replace HM := Lib.hid (show Mem w [blkE (w.heap.size + 1 + 1) 23 (aeZ 32), blkE (w.heap.size + 1) 24 (inn.map u8v), blkE w.heap.size 23 (k.map u8v)] w2 from HM.out.below hb)
  clear hb
  go_wp2_with fail
  refine (HCC.out _).mono ?_
  rintro e w3 ⟨rfl, hb⟩
  replace HM := Lib.hid (show Mem w [blkE (w.heap.size + 1 + 1) 23 (aeZ 32), blkE (w.heap.size + 1) 24 (inn.map u8v), blkE w.heap.size 23 (k.map u8v)] w3 from HM.out.below hb)
  clear hb
  have HA := Lib.hid (show Mem w [blkE w3.heap.size 44 z16, blkE (w.heap.size + 1 + 1) 23 (aeZ 32), blkE (w.heap.size + 1) 24 (inn.map u8v), blkE w.heap.size 23 (k.map u8v)] (w3.alloc (.cells #[.int .u32 0, .int .u32 0, .int .u32 0, .int .u32 0, .int .u32 0, .int .u32 0, .int .u32 0, .int .u32 0, .int .u32 0, .int .u32 0, .int .u32 0, .int .u32 0, .int .u32 0, .int .u32 0, .int .u32 0, .int .u32 0] 44)) from HM.out.alloc rfl 44 #[.int .u32 0, .int .u32 0, .int .u32 0, .int .u32 0, .int .u32 0, .int .u32 0, .int .u32 0, .int .u32 0, .int .u32 0, .int .u32 0, .int .u32 0, .int .u32 0, .int .u32 0, .int .u32 0, .int .u32 0, .int .u32 0] z16 rfl)
  go_upto_region 2 with (refine wpList_store_blk rfl 44 (.tmp 5) (.tmp 10) rfl w3.heap.size (ms.map u32v) rfl (by show Value.agg cm = _; rw [HC.out.2.2]) 44 z16 (HA.out.blk 0 rfl) (cells16 ms HMS.out) (by rw [List.length_map, HMS.out]; rfl) (u32v_one _) ?_; intro w4 hb4 hg4)
  (try simp only [Act.put])
  replace HM := Lib.hid (show Mem w [blkE w3.heap.size 44 (ms.map u32v), blkE (w.heap.size + 1 + 1) 23 (aeZ 32), blkE (w.heap.size + 1) 24 (inn.map u8v), blkE w.heap.size 23 (k.map u8v)] w4 from HA.out.put 0 rfl _ hg4 hb4)
  have HP := Lib.hid (show w3.heap.size < w4.heap.size by have := hg4.size; simp at this; omega)
  clear hb4 hg4 HA
  generalize w3.heap.size = P at HM HP ⊢
  have HA := Lib.hid (show Mem w [blkE w4.heap.size 23 ((List.replicate 32 (0 : UInt8)).map u8v), blkE P 44 (ms.map u32v), blkE (w.heap.size + 1 + 1) 23 (aeZ 32), blkE (w.heap.size + 1) 24 (inn.map u8v), blkE w.heap.size 23 (k.map u8v)] (w4.alloc (.cells #[.int .u8 0, .int .u8 0, .int .u8 0, .int .u8 0, .int .u8 0, .int .u8 0, .int .u8 0, .int .u8 0, .int .u8 0, .int .u8 0, .int .u8 0, .int .u8 0, .int .u8 0, .int .u8 0, .int .u8 0, .int .u8 0, .int .u8 0, .int .u8 0, .int .u8 0, .int .u8 0, .int .u8 0, .int .u8 0, .int .u8 0, .int .u8 0, .int .u8 0, .int .u8 0, .int .u8 0, .int .u8 0, .int .u8 0, .int .u8 0, .int .u8 0, .int .u8 0] 23)) from HM.out.alloc rfl 23 #[.int .u8 0, .int .u8 0, .int .u8 0, .int .u8 0, .int .u8 0, .int .u8 0, .int .u8 0, .int .u8 0, .int .u8 0, .int .u8 0, .int .u8 0, .int .u8 0, .int .u8 0, .int .u8 0, .int .u8 0, .int .u8 0, .int .u8 0, .int .u8 0, .int .u8 0, .int .u8 0, .int .u8 0, .int .u8 0, .int .u8 0, .int .u8 0, .int .u8 0, .int .u8 0, .int .u8 0, .int .u8 0, .int .u8 0, .int .u8 0, .int .u8 0, .int .u8 0] ((List.replicate 32 (0 : UInt8)).map u8v) rfl)
  go_upto_region 3 with fail
  replace HM := HA
  clear HA
  generalize w4.alloc (.cells #[.int .u8 0, .int .u8 0, .int .u8 0, .int .u8 0, .int .u8 0, .int .u8 0, .int .u8 0, .int .u8 0, .int .u8 0, .int .u8 0, .int .u8 0, .int .u8 0, .int .u8 0, .int .u8 0, .int .u8 0, .int .u8 0, .int .u8 0, .int .u8 0, .int .u8 0, .int .u8 0, .int .u8 0, .int .u8 0, .int .u8 0, .int .u8 0, .int .u8 0, .int .u8 0, .int .u8 0, .int .u8 0, .int .u8 0, .int .u8 0, .int .u8 0, .int .u8 0] 23) = w5 at HM ⊢
  have HPQ := Lib.hid (show P ≠ w4.heap.size from Nat.ne_of_lt HP.out)
  clear HP
  generalize w4.heap.size = Q at HM HPQ ⊢
  go_cut [] (fun wx => Mem w [blkE Q 23 ((writeW (List.replicate 32 (0 : UInt8)) 0 (fun i => wd ms (0 + i)) 4).map u8v), blkE P 44 (ms.map u32v), blkE (w.heap.size + 1 + 1) 23 (aeZ 32), blkE (w.heap.size + 1) 24 (inn.map u8v), blkE w.heap.size 23 (k.map u8v)] wx)
  case first =>
    have RW := Lib.hid (fun w' : World => fun h1 h2 => xcWriteWords_any Q 0 32 P 0 4 16 32 23 44 (List.replicate 32 (0 : UInt8)) ms rfl (by omega) (by omega) (by omega) (by omega) (by rw [HMS.out]; omega) (by omega) HPQ.out w' h1 h2)
    go_region_with ((go_at_call 17; refine (RW.out w5.drew (HM.out.drew.blk 0 rfl) (HM.out.drew.blk 1 rfl)).mono ?_; rintro e w4 ⟨rfl, hb4, hg4⟩))
    all_goals (go_wp2; go_meet; exact HM.out.drew.put 0 rfl _ hg4 hb4)
  case rest =>
    replace HM := Lib.hid hcut
    clear hcut
    go_upto_region 4 with fail
    go_cut [] (fun wx => Mem w [blkE Q 23 ((writeW (writeW (List.replicate 32 (0 : UInt8)) 0 (fun i => wd ms (0 + i)) 4) 16 (fun i => wd ms (12 + i)) 4).map u8v), blkE P 44 (ms.map u32v), blkE (w.heap.size + 1 + 1) 23 (aeZ 32), blkE (w.heap.size + 1) 24 (inn.map u8v), blkE w.heap.size 23 (k.map u8v)] wx)
    case first =>
      have RW := Lib.hid (fun w' : World => fun h1 h2 => xcWriteWords_any Q 16 16 P 12 4 4 32 23 44 (writeW (List.replicate 32 (0 : UInt8)) 0 (fun i => wd ms (0 + i)) 4) ms (by rw [writeW_length _ _ _ _ (by simp)]; rfl) (by omega) (by omega) (by omega) (by omega) (by rw [HMS.out]; omega) (by omega) HPQ.out w' h1 h2)
      go_region_with ((go_at_call 17; refine (RW.out wc.drew (HM.out.drew.blk 0 rfl) (HM.out.drew.blk 1 rfl)).mono ?_; rintro e w4 ⟨rfl, hb4, hg4⟩))
      all_goals (go_wp2; go_meet; exact HM.out.drew.put 0 rfl _ hg4 hb4)
    case rest =>
      replace HM := Lib.hid hcut
      clear hcut
      rw [← HDR.out] at HM
      have HLz := Lib.hid (deriveL_length k inn)
      obtain ⟨lz, hlz⟩ : ∃ l, deriveL k inn = l := ⟨_, rfl⟩
      rw [hlz] at HM HLz
      have HSZ := Lib.hid hlz
      clear hlz
      obtain ⟨cz, hcz⟩ : ∃ cz, (lz.map u8v).toArray = cz := ⟨_, rfl⟩
      have HCZ := Lib.hid hcz
      clear hcz
      go_wp2_with (first | (refine wpList_load_blk rfl 23 (.tmp 6) rfl Q rfl 23 (lz.map u8v) (HM.out.blk 0 rfl) 32 5 Try.underlying23 (cells32 lz HLz.out) ?_; rw [HCZ.out]) | (refine wpList_store_blk rfl 23 (.tmp 4) (.tmp 17) rfl (w.heap.size + 1 + 1) (lz.map u8v) rfl (by show Value.agg cz = _; rw [HCZ.out]) 23 (aeZ 32) (HM.out.blk 2 rfl) (cells32 lz HLz.out) (by rw [List.length_map, HLz.out]; rfl) (u8v_one _) ?_; intro w9 hb9 hg9))
      exact bodyPost_ret (results_blk rfl _ _ (w.heap.size + 1 + 1) 23 (lz.map u8v) 32 5 rfl hb9 Try.underlying23 (cells32 lz HLz.out)) rfl ⟨by rw [HSZ.out], (HM.out.put 2 rfl _ hg9 hb9).bel⟩
end Go.Proofs.Ytkbefhmgcodpaaa
