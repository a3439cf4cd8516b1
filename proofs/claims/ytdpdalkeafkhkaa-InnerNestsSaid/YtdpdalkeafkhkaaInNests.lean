/-
  InnerNests returns true for every input, and changes nothing that was there: the walk, over what is asked of inner.Valid and Contains. No statement is proved here.
-/
import Derived.Test.YtdpdalkeafkhkaaInBegun
import Derived.Test.YtdpdalkeafkhkaaInMask
namespace Go.Proofs.Ytdpdalkeafkhkaa
open Go.RowKit

theorem sound_set (a : AddrM) (hs : soundM a = true) (q : Nat) (y : UInt8) (hq : q < 4) : soundM ⟨a.six, a.ip.set q y⟩ = true := by
  rw [sound_iff] at hs ⊢
  refine hs.imp (fun h => h) (fun h i hi => ?_)
  show (a.ip.set q y).getD i 0 = 0
  rw [List.getD_eq_getElem?_getD, List.getElem?_set_ne (by omega), ← List.getD_eq_getElem?_getD]
  exact h i hi
set_option maxRecDepth 100000 in
set_option maxHeartbeats 8000000 in
set_option linter.unusedSimpArgs false in
theorem in_nests_walk (HKC : InCheckC) (HPD : InPadC) (HVC : InValidC) (HNC : InContainsC) (w : World) (A : Option Addr) (n c : Nat) (l : List UInt8) (long short other : Nat) (hnc : n ≤ c) (hcm : c ≤ maxLen) (hr : Rd w w.heap.size A n l) (hlo : long ≤ 255) (hsh : short ≤ 255) (hot : other ≤ 65535) :
    Calls Try.prog 6 #[.slice A n c, .int .u8 (long : Int), .int .u8 (short : Int), .int .u16 (other : Int)] w fun e w' => e = .returned (.bool true) ∧ Below w.heap.size w w' := by
  have HBG := Lib.hid (in_begun_any HKC HPD)
  have HV := Lib.hid HVC
  have HN := Lib.hid HNC
  obtain ⟨k, hk⟩ : ∃ k, min n 60 = k := ⟨_, rfl⟩
  have HR := Lib.hid (hr.take (show k ≤ n by omega))
  have HW1 := Lib.hid (caseNew_any A n c 60 k (by omega) hnc hcm hk w)
  have HK60 := Lib.hid (show k ≤ 60 by omega)
  clear hr HKC HPD HVC HNC hk hnc hcm
  go_enter Try.func6, Try.ntmps6
  go_upto_region 1 with fail
  go_wp2_with fail
  refine HW1.out.mono ?_
  rintro e w1 ⟨rfl, hm⟩
  have hc : CodesAt w1 w.heap.size A k c (l.take k) w.heap.size 0 := ⟨hm.blk 0 rfl, HR.out.below hm.bel, Nat.le_refl _, (hm.blk 0 rfl).lt, by have := HK60.out; omega, Nat.zero_le _⟩
  have HAC := Lib.hid (caseAddr_any w.heap.size A k c (l.take k) w.heap.size 0 w1 hc)
  have HSO := Lib.hid (codeA_sound (l.take k) 0)
  have HAO := Lib.hid (codeA_ok (l.take k) 0)
  have HB1 := Lib.hid hm.bel
  clear hm hc HR HW1 HK60
  generalize codeA (l.take k) 0 = a at HAC HSO HAO
  obtain ⟨ca, hca⟩ : ∃ x, a.cells.toArray = x := ⟨_, rfl⟩
  rw [hca] at HAC
  have HCA := Lib.hid hca
  have HAL := Lib.hid (AddrM.cells_length HAO.out)
  have HCO := Lib.hid (addr_cellsOf _ HAO.out)
  clear hca
  go_wp2_with fail
  refine HAC.out.mono ?_
  rintro e w2 ⟨rfl, -, hg⟩
  have hb2 : Below w.heap.size w w2 := HB1.out.grown hg HB1.out.size (by intro q hq; injection hq with hq; omega)
  have HM := Lib.hid (show Mem w [] w2 from ⟨hb2.size, hb2⟩)
  clear hg hb2 HAC HB1
  have HA := Lib.hid (show Mem w [blkE w2.heap.size 29 addr0.cells] (w2.alloc (.cells #[.bool false, .int .u8 0, .int .u8 0, .int .u8 0, .int .u8 0, .int .u8 0, .int .u8 0, .int .u8 0, .int .u8 0, .int .u8 0, .int .u8 0, .int .u8 0, .int .u8 0, .int .u8 0, .int .u8 0, .int .u8 0, .int .u8 0] 29)) from HM.out.alloc rfl 29 #[.bool false, .int .u8 0, .int .u8 0, .int .u8 0, .int .u8 0, .int .u8 0, .int .u8 0, .int .u8 0, .int .u8 0, .int .u8 0, .int .u8 0, .int .u8 0, .int .u8 0, .int .u8 0, .int .u8 0, .int .u8 0, .int .u8 0] addr0.cells rfl)
  go_upto_region 3 with (refine wpList_store_blk rfl 29 (.tmp 10) (.tmp 20) rfl w2.heap.size a.cells rfl (by show Value.agg ca = _; rw [HCA.out]) 29 addr0.cells (HA.out.blk 0 rfl) HCO.out (by rw [HAL.out]; rfl) (AddrM.one _) ?_; intro w4 hb hg)
  (try simp only [Act.put])
  replace HM := Lib.hid (show Mem w [blkE w2.heap.size 29 a.cells] w4 from HA.out.put 0 rfl _ hg hb)
  clear HA hb hg
  generalize w2.heap.size = PA at HM ⊢
  have f6 := (HM.out.blk 0 rfl).cell 0
  rw [show a.cells[0]? = some (.bool a.six) from rfl] at f6
  obtain ⟨sx, hsx⟩ : ∃ q, a.six = q := ⟨_, rfl⟩
  rw [hsx] at f6
  have HSX := Lib.hid hsx
  clear hsx
  cases sx with
  | true =>
    have HWI := Lib.hid (show widthM a = 128 by rw [widthM, HSX.out]; rfl)
    obtain ⟨L, hL⟩ : ∃ L, long % 129 = L := ⟨_, rfl⟩
    have hLn : L ≤ 128 := by omega
    have hLI : (long : Int) % 129 = (L : Int) := by omega
    obtain ⟨L1, hL1⟩ : ∃ q, L + 1 = q := ⟨_, rfl⟩
    have hw1 : IntKind.i64.wrap ((L : Int) + 1) = (L1 : Int) := by rw [IntWalk.i64_in _ (by omega)]; omega
    obtain ⟨S, hS⟩ : ∃ L, short % L1 = L := ⟨_, rfl⟩
    have hSL : S ≤ L := by have := Nat.mod_lt short (show 0 < L1 by omega); omega
    have hSI : (short : Int) % (L1 : Int) = (S : Int) := by rw [← hS, Int.natCast_emod]
    go_upto_region 8 with fail
    rw [hLI, hSI]
    clear hLI hSI hw1
    have HA := Lib.hid (show Mem w [blkE w4.heap.size 29 addr0.cells, blkE PA 29 a.cells] (w4.alloc (.cells #[.bool false, .int .u8 0, .int .u8 0, .int .u8 0, .int .u8 0, .int .u8 0, .int .u8 0, .int .u8 0, .int .u8 0, .int .u8 0, .int .u8 0, .int .u8 0, .int .u8 0, .int .u8 0, .int .u8 0, .int .u8 0, .int .u8 0] 29)) from HM.out.alloc rfl 29 #[.bool false, .int .u8 0, .int .u8 0, .int .u8 0, .int .u8 0, .int .u8 0, .int .u8 0, .int .u8 0, .int .u8 0, .int .u8 0, .int .u8 0, .int .u8 0, .int .u8 0, .int .u8 0, .int .u8 0, .int .u8 0, .int .u8 0] addr0.cells rfl)
    go_upto_region 9 with (first | (refine wpList_load_obj rfl 29 (.tmp 10) rfl PA 0 rfl a.cells (HM.out.blk 0 rfl).all _ Try.underlying29 rfl HCO.out ?_; rw [HCA.out]) | (refine wpList_store_blk rfl 29 (.tmp 14) (.tmp 33) rfl w4.heap.size a.cells rfl (by show Value.agg ca = _; rw [HCA.out]) 29 addr0.cells (HA.out.blk 0 rfl) HCO.out (by rw [HAL.out]; rfl) (AddrM.one _) ?_; intro w5 hb hg))
    (try simp only [Act.put])
    replace HM := Lib.hid (show Mem w [blkE w4.heap.size 29 a.cells, blkE PA 29 a.cells] w5 from HA.out.put 0 rfl _ hg hb)
    clear HA hb hg
    generalize w4.heap.size = PX at HM ⊢
    obtain ⟨q, hq⟩ : ∃ q, other / 8 % 16 = q := ⟨_, rfl⟩
    have hqI : (other : Int) / 8 % 16 = (q : Int) := by omega
    have hqb : (q : Int) < 16 := by omega
    have hq16 : q < 16 := by omega
    have fx := ((HM.out.blk 0 rfl).cell (1 + q)).trans (AddrM.ip_cell a HAO.out q hq16)
    have zx := (HM.out.blk 0 rfl).frozen (1 + q)
    have hset := AddrM.set_cell a q
    generalize hx : a.ip.getD q 0 = x at fx
    have hoI : (other : Int) / 256 = ((other / 256 : Nat) : Int) := by omega
    have hov := codeByte_wrap (other / 256)
    generalize other / 256 = o9 at hoI hov
    generalize UInt8.ofNat o9 = v at hov
    have hxor := xor_bits x v
    generalize x ^^^ v = y at hxor
    have HN2 := Lib.hid (show Mem w [blkE PX 29 (AddrM.mk a.six (a.ip.set q y)).cells, blkE PA 29 a.cells] (w5.setCell ⟨PX, 1 + q, none⟩ (.int .u8 (y.toNat : Int))) from by have h := HM.out.setCell 0 rfl (1 + q) (u8v y); rw [hset] at h; exact h)
    clear hset
    go_upto_region 10 with fail
    generalize w5.setCell ⟨PX, 1 + q, none⟩ (.int .u8 (y.toNat : Int)) = w6 at HN2 ⊢
    replace HM := Lib.hid HN2.out
    clear HN2 fx zx f6 hx hxor hov hoI hq hqI hqb
    have f6 := (HM.out.blk 1 rfl).cell 0
    rw [show a.cells[0]? = some (.bool a.six) from rfl, HSX.out] at f6
    have hxo : (AddrM.mk a.six (a.ip.set q y)).ok := by show (a.ip.set q y).length = 16; rw [List.length_set]; exact HAO.out
    have hxs : soundM (AddrM.mk a.six (a.ip.set q y)) = true := by rw [sound_iff]; exact .inl HSX.out
    have hx6 : (AddrM.mk a.six (a.ip.set q y)).six = a.six := rfl
    go_upto_region 13 with fail
    have HXF := Lib.hid (And.intro hxo (And.intro hxs hx6))
    clear hxo hxs hx6
    obtain ⟨x, hx⟩ : ∃ z, AddrM.mk a.six (a.ip.set q y) = z := ⟨_, rfl⟩
    rw [hx] at HM HXF
    clear hx f6
    have HLS := Lib.hid (show L ≤ widthM a ∧ S ≤ L ∧ L ≤ 128 from by have := HWI.out; omega)
    clear hLn hL hL1 hS hSL
    generalize w6 = wb at HM ⊢
    obtain ⟨cp, hcp⟩ : ∃ z, (prefC (maskM a L) (L : Int)).toArray = z := ⟨_, rfl⟩
    obtain ⟨cq, hcq⟩ : ∃ z, (prefC (maskM a S) (S : Int)).toArray = z := ⟨_, rfl⟩
    obtain ⟨cx, hcx⟩ : ∃ z, x.cells.toArray = z := ⟨_, rfl⟩
    have hLw := HLS.out.1
    have hSL := HLS.out.2.1
    have hL8 := HLS.out.2.2
    have HK1 := Lib.hid (caseMasked_any a HAO.out L hL8)
    have HK2 := Lib.hid (caseMasked_any a HAO.out S (by omega))
    rw [HCA.out, hcp] at HK1
    rw [HCA.out, hcq] at HK2
    have HV1 := Lib.hid (HV.out (maskM a L) (L : Int) (maskM_ok a HAO.out L) (by omega) (by omega))
    have HV2 := Lib.hid (HV.out (maskM a S) (S : Int) (maskM_ok a HAO.out S) (by omega) (by omega))
    have HC1 := Lib.hid (HN.out (maskM a L) (L : Int) (maskM_ok a HAO.out L) (by omega) (by omega) a HAO.out)
    have HC2 := Lib.hid (HN.out (maskM a S) (S : Int) (maskM_ok a HAO.out S) (by omega) (by omega) a HAO.out)
    have HC3 := Lib.hid (HN.out (maskM a L) (L : Int) (maskM_ok a HAO.out L) (by omega) (by omega) x HXF.out.1)
    have HC4 := Lib.hid (HN.out (maskM a S) (S : Int) (maskM_ok a HAO.out S) (by omega) (by omega) x HXF.out.1)
    rw [hcp, mask_valid a HAO.out L hLw HSO.out] at HV1
    rw [hcq, mask_valid a HAO.out S (by omega) HSO.out] at HV2
    rw [hcp, HCA.out, (mask_contains a a HAO.out L hLw HSO.out HSO.out rfl).2 (fun _ _ => rfl)] at HC1
    rw [hcq, HCA.out, (mask_contains a a HAO.out S (by omega) HSO.out HSO.out rfl).2 (fun _ _ => rfl)] at HC2
    rw [hcp, hcx] at HC3
    rw [hcq, hcx] at HC4
    have hnest := mask_nests a x HAO.out S L hSL hLw HSO.out HXF.out.2.1 HXF.out.2.2
    generalize containsM (maskM a L) (L : Int) x = b3 at HC3 hnest
    generalize containsM (maskM a S) (S : Int) x = b4 at HC4 hnest
    have HNE := Lib.hid hnest
    have HPC := Lib.hid (And.intro hcp hcq)
    have HCX := Lib.hid hcx
    have HCOX := Lib.hid (addr_cellsOf _ HXF.out.1)
    clear hcp hcq hcx hLw hSL hL8 hnest
    go_cut [15, 16] (fun p' q' wx => ∃ P15 P16, p' = .pointer (some ⟨P15, 0, none⟩) ∧ q' = .pointer (some ⟨P16, 0, none⟩) ∧ (Blk wx PA 29 a.cells ∧ Blk wx PX 29 x.cells ∧ Blk wx P15 42 (prefC (maskM a L) (L : Int)) ∧ Blk wx P16 42 (prefC (maskM a S) (S : Int)) ∧ Below w.heap.size w wx))
    case first =>
      refine wp_region_held_drew (S := fun W' => Mem w [blkE PX 29 x.cells, blkE PA 29 a.cells] W') (by kernel_rfl) ((HM.out).drew) (fun hHeld => ?_)
      replace HM := Lib.hid HM.out.drew
      generalize wb.drew = wd1 at HM hHeld ⊢
      refine take_first (v := .agg ca) 0 rfl (by kernel_rfl) (by kernel_rfl) (by kernel_rfl) (fun _ _ _ h => h) (by rw [← HCA.out]; exact yields_load_obj (by rfl) 29 (.tmp 10) rfl PA 0 rfl a.cells (fun w' hb => (Mem.blk hb 1 rfl).all) _ Try.underlying29 rfl HCO.out) (by assumption) ?_
      (try simp only [Act.put, List.setIfInBounds_toArray, List.set_cons_zero, List.set_cons_succ])
      refine take_first (v := ?_) 1 rfl (by kernel_rfl) (by kernel_rfl) (by kernel_rfl) (fun _ _ _ h => h) (Or.inl ⟨by rfl, ?_⟩) (by assumption) ?_
      rotate_left
      · (intro w hSw; (try dsimp only at hSw); go_simp; try with_reducible rfl)
      (try simp only [Act.put, List.setIfInBounds_toArray, List.set_cons_zero, List.set_cons_succ])
      refine take_first (v := .agg ca) 3 rfl (by kernel_rfl) (by kernel_rfl) (by kernel_rfl) (fun _ _ _ h => h) (by rw [← HCA.out]; exact yields_load_obj (by rfl) 29 (.tmp 10) rfl PA 0 rfl a.cells (fun w' hb => (Mem.blk hb 1 rfl).all) _ Try.underlying29 rfl HCO.out) (by assumption) ?_
      (try simp only [Act.put, List.setIfInBounds_toArray, List.set_cons_zero, List.set_cons_succ])
      refine take_first (v := ?_) 4 rfl (by kernel_rfl) (by kernel_rfl) (by kernel_rfl) (fun _ _ _ h => h) (Or.inl ⟨by rfl, ?_⟩) (by assumption) ?_
      rotate_left
      · (intro w hSw; (try dsimp only at hSw); go_simp; try with_reducible rfl)
      (try simp only [Act.put, List.setIfInBounds_toArray, List.set_cons_zero, List.set_cons_succ])
      refine step_three 2 6 7 rfl rfl rfl (by kernel_rfl) (fun K hK => ?_) (fun K hK => ?_) (fun K hK => ?_)
      · clear hHeld
        go_simp
        refine (HK1.out _).mono ?_
        rintro e wy2 ⟨rfl, hb⟩
        replace HM := Lib.hid (show Mem w [blkE PX 29 x.cells, blkE PA 29 a.cells] wy2 from HM.out.below hb)
        clear hb
        go_wp2_with fail
        refine hK.out _ _ (HM.out) (fun hHeld => ?_)
        clear hK K
        (try simp only [Act.put, List.setIfInBounds_toArray, List.set_cons_zero, List.set_cons_succ])
        refine step_three 5 6 7 rfl rfl rfl (by kernel_rfl) (fun K hK => ?_) (fun K hK => ?_) (fun K hK => ?_)
        · clear hHeld
          go_simp
          refine (HK2.out _).mono ?_
          rintro e wy3 ⟨rfl, hb⟩
          replace HM := Lib.hid (show Mem w [blkE PX 29 x.cells, blkE PA 29 a.cells] wy3 from HM.out.below hb)
          clear hb
          go_wp2_with fail
          refine hK.out _ _ (HM.out) (fun hHeld => ?_)
          clear hK K
          (try simp only [Act.put, List.setIfInBounds_toArray, List.set_cons_zero, List.set_cons_succ])
          refine step_two 6 7 rfl rfl (by kernel_rfl) (fun K hK => ?_) (fun K hK => ?_)
          · clear hHeld
            go_simp
            replace HM := Lib.hid (show Mem w [blkE wy3.heap.size 42 (pref0), blkE PX 29 x.cells, blkE PA 29 a.cells] (wy3.alloc (.cells #[.bool false, .int .u8 0, .int .u8 0, .int .u8 0, .int .u8 0, .int .u8 0, .int .u8 0, .int .u8 0, .int .u8 0, .int .u8 0, .int .u8 0, .int .u8 0, .int .u8 0, .int .u8 0, .int .u8 0, .int .u8 0, .int .u8 0, .int .i64 0] 42)) from HM.out.alloc rfl 42 #[.bool false, .int .u8 0, .int .u8 0, .int .u8 0, .int .u8 0, .int .u8 0, .int .u8 0, .int .u8 0, .int .u8 0, .int .u8 0, .int .u8 0, .int .u8 0, .int .u8 0, .int .u8 0, .int .u8 0, .int .u8 0, .int .u8 0, .int .i64 0] (pref0) rfl)
            generalize wy3.alloc (.cells #[.bool false, .int .u8 0, .int .u8 0, .int .u8 0, .int .u8 0, .int .u8 0, .int .u8 0, .int .u8 0, .int .u8 0, .int .u8 0, .int .u8 0, .int .u8 0, .int .u8 0, .int .u8 0, .int .u8 0, .int .u8 0, .int .u8 0, .int .i64 0] 42) = wy4 at HM ⊢
            generalize wy3.heap.size = P15 at HM ⊢
            refine hK.out _ _ ((HM.out.erase 0)) (fun hHeld => ?_)
            clear hK K
            (try simp only [Act.put, List.setIfInBounds_toArray, List.set_cons_zero, List.set_cons_succ])
            refine step_one 7 rfl (by kernel_rfl) (fun K hK => ?_)
            clear hHeld
            go_simp
            replace HM := Lib.hid (show Mem w [blkE wy4.heap.size 42 (pref0), blkE P15 42 (pref0), blkE PX 29 x.cells, blkE PA 29 a.cells] (wy4.alloc (.cells #[.bool false, .int .u8 0, .int .u8 0, .int .u8 0, .int .u8 0, .int .u8 0, .int .u8 0, .int .u8 0, .int .u8 0, .int .u8 0, .int .u8 0, .int .u8 0, .int .u8 0, .int .u8 0, .int .u8 0, .int .u8 0, .int .u8 0, .int .i64 0] 42)) from HM.out.alloc rfl 42 #[.bool false, .int .u8 0, .int .u8 0, .int .u8 0, .int .u8 0, .int .u8 0, .int .u8 0, .int .u8 0, .int .u8 0, .int .u8 0, .int .u8 0, .int .u8 0, .int .u8 0, .int .u8 0, .int .u8 0, .int .u8 0, .int .u8 0, .int .i64 0] (pref0) rfl)
            generalize wy4.alloc (.cells #[.bool false, .int .u8 0, .int .u8 0, .int .u8 0, .int .u8 0, .int .u8 0, .int .u8 0, .int .u8 0, .int .u8 0, .int .u8 0, .int .u8 0, .int .u8 0, .int .u8 0, .int .u8 0, .int .u8 0, .int .u8 0, .int .u8 0, .int .i64 0] 42) = wy5 at HM ⊢
            generalize wy4.heap.size = P16 at HM ⊢
            refine hK.out _ _ (((HM.out.erase 0).erase 0)) (fun hHeld => ?_)
            clear hK K
            (try simp only [Act.put, List.setIfInBounds_toArray, List.set_cons_zero, List.set_cons_succ])
            refine step_one 8 rfl (by kernel_rfl) (fun K hK => ?_)
            clear hHeld
            refine step_store_blk _ rfl 42 (.tmp 15) (.tmp 63) rfl P15 (prefC (maskM a L) (L : Int)) rfl (by show Value.agg cp = _; rw [HPC.out.1]) 42 pref0 (HM.out.blk 1 rfl) (pref_cellsOf _ (maskM_ok a HAO.out L) _) (by rw [prefC_length _ (maskM_ok a HAO.out L)]; rfl) (prefC_one _ _) ?_
            intro wy6 hb hg
            replace HM := Lib.hid (show Mem w [blkE P16 42 (pref0), blkE P15 42 (prefC (maskM a L) (L : Int)), blkE PX 29 x.cells, blkE PA 29 a.cells] wy6 from HM.out.put 1 rfl _ hg hb)
            clear hb hg
            refine hK.out _ _ (((HM.out.erase 0).erase 0)) (fun hHeld => ?_)
            clear hK K
            (try simp only [Act.put])
            refine step_one 9 rfl (by kernel_rfl) (fun K hK => ?_)
            clear hHeld
            refine step_store_blk _ rfl 42 (.tmp 16) (.tmp 66) rfl P16 (prefC (maskM a S) (S : Int)) rfl (by show Value.agg cq = _; rw [HPC.out.2]) 42 pref0 (HM.out.blk 0 rfl) (pref_cellsOf _ (maskM_ok a HAO.out S) _) (by rw [prefC_length _ (maskM_ok a HAO.out S)]; rfl) (prefC_one _ _) ?_
            intro wy7 hb hg
            replace HM := Lib.hid (show Mem w [blkE P16 42 (prefC (maskM a S) (S : Int)), blkE P15 42 (prefC (maskM a L) (L : Int)), blkE PX 29 x.cells, blkE PA 29 a.cells] wy7 from HM.out.put 0 rfl _ hg hb)
            clear hb hg
            refine hK.out _ _ (((HM.out.erase 0).erase 0)) (fun hHeld => ?_)
            clear hK K
            (try simp only [Act.put])
            refine wpAnyH_done (by kernel_rfl) ?_ _
            go_wp2_with fail
            go_meet
            exact ⟨P15, P16, rfl, rfl, HM.out.blk 3 rfl, HM.out.blk 2 rfl, HM.out.blk 1 rfl, HM.out.blk 0 rfl, HM.out.bel⟩
          · clear hHeld
            go_simp
            replace HM := Lib.hid (show Mem w [blkE wy3.heap.size 42 (pref0), blkE PX 29 x.cells, blkE PA 29 a.cells] (wy3.alloc (.cells #[.bool false, .int .u8 0, .int .u8 0, .int .u8 0, .int .u8 0, .int .u8 0, .int .u8 0, .int .u8 0, .int .u8 0, .int .u8 0, .int .u8 0, .int .u8 0, .int .u8 0, .int .u8 0, .int .u8 0, .int .u8 0, .int .u8 0, .int .i64 0] 42)) from HM.out.alloc rfl 42 #[.bool false, .int .u8 0, .int .u8 0, .int .u8 0, .int .u8 0, .int .u8 0, .int .u8 0, .int .u8 0, .int .u8 0, .int .u8 0, .int .u8 0, .int .u8 0, .int .u8 0, .int .u8 0, .int .u8 0, .int .u8 0, .int .u8 0, .int .i64 0] (pref0) rfl)
            generalize wy3.alloc (.cells #[.bool false, .int .u8 0, .int .u8 0, .int .u8 0, .int .u8 0, .int .u8 0, .int .u8 0, .int .u8 0, .int .u8 0, .int .u8 0, .int .u8 0, .int .u8 0, .int .u8 0, .int .u8 0, .int .u8 0, .int .u8 0, .int .u8 0, .int .i64 0] 42) = wy4 at HM ⊢
            generalize wy3.heap.size = P16 at HM ⊢
            refine hK.out _ _ ((HM.out.erase 0)) (fun hHeld => ?_)
            clear hK K
            (try simp only [Act.put, List.setIfInBounds_toArray, List.set_cons_zero, List.set_cons_succ])
            refine step_one 6 rfl (by kernel_rfl) (fun K hK => ?_)
            clear hHeld
            go_simp
            replace HM := Lib.hid (show Mem w [blkE wy4.heap.size 42 (pref0), blkE P16 42 (pref0), blkE PX 29 x.cells, blkE PA 29 a.cells] (wy4.alloc (.cells #[.bool false, .int .u8 0, .int .u8 0, .int .u8 0, .int .u8 0, .int .u8 0, .int .u8 0, .int .u8 0, .int .u8 0, .int .u8 0, .int .u8 0, .int .u8 0, .int .u8 0, .int .u8 0, .int .u8 0, .int .u8 0, .int .u8 0, .int .i64 0] 42)) from HM.out.alloc rfl 42 #[.bool false, .int .u8 0, .int .u8 0, .int .u8 0, .int .u8 0, .int .u8 0, .int .u8 0, .int .u8 0, .int .u8 0, .int .u8 0, .int .u8 0, .int .u8 0, .int .u8 0, .int .u8 0, .int .u8 0, .int .u8 0, .int .u8 0, .int .i64 0] (pref0) rfl)
            generalize wy4.alloc (.cells #[.bool false, .int .u8 0, .int .u8 0, .int .u8 0, .int .u8 0, .int .u8 0, .int .u8 0, .int .u8 0, .int .u8 0, .int .u8 0, .int .u8 0, .int .u8 0, .int .u8 0, .int .u8 0, .int .u8 0, .int .u8 0, .int .u8 0, .int .i64 0] 42) = wy5 at HM ⊢
            generalize wy4.heap.size = P15 at HM ⊢
            refine hK.out _ _ (((HM.out.erase 0).erase 0)) (fun hHeld => ?_)
            clear hK K
            (try simp only [Act.put, List.setIfInBounds_toArray, List.set_cons_zero, List.set_cons_succ])
            refine step_one 8 rfl (by kernel_rfl) (fun K hK => ?_)
            clear hHeld
            refine step_store_blk _ rfl 42 (.tmp 15) (.tmp 63) rfl P15 (prefC (maskM a L) (L : Int)) rfl (by show Value.agg cp = _; rw [HPC.out.1]) 42 pref0 (HM.out.blk 0 rfl) (pref_cellsOf _ (maskM_ok a HAO.out L) _) (by rw [prefC_length _ (maskM_ok a HAO.out L)]; rfl) (prefC_one _ _) ?_
            intro wy6 hb hg
            replace HM := Lib.hid (show Mem w [blkE P15 42 (prefC (maskM a L) (L : Int)), blkE P16 42 (pref0), blkE PX 29 x.cells, blkE PA 29 a.cells] wy6 from HM.out.put 0 rfl _ hg hb)
            clear hb hg
            refine hK.out _ _ (((HM.out.erase 0).erase 0)) (fun hHeld => ?_)
            clear hK K
            (try simp only [Act.put])
            refine step_one 9 rfl (by kernel_rfl) (fun K hK => ?_)
            clear hHeld
            refine step_store_blk _ rfl 42 (.tmp 16) (.tmp 66) rfl P16 (prefC (maskM a S) (S : Int)) rfl (by show Value.agg cq = _; rw [HPC.out.2]) 42 pref0 (HM.out.blk 1 rfl) (pref_cellsOf _ (maskM_ok a HAO.out S) _) (by rw [prefC_length _ (maskM_ok a HAO.out S)]; rfl) (prefC_one _ _) ?_
            intro wy7 hb hg
            replace HM := Lib.hid (show Mem w [blkE P15 42 (prefC (maskM a L) (L : Int)), blkE P16 42 (prefC (maskM a S) (S : Int)), blkE PX 29 x.cells, blkE PA 29 a.cells] wy7 from HM.out.put 1 rfl _ hg hb)
            clear hb hg
            refine hK.out _ _ (((HM.out.erase 0).erase 0)) (fun hHeld => ?_)
            clear hK K
            (try simp only [Act.put])
            refine wpAnyH_done (by kernel_rfl) ?_ _
            go_wp2_with fail
            go_meet
            exact ⟨P15, P16, rfl, rfl, HM.out.blk 3 rfl, HM.out.blk 2 rfl, HM.out.blk 0 rfl, HM.out.blk 1 rfl, HM.out.bel⟩
        · clear hHeld
          go_simp
          replace HM := Lib.hid (show Mem w [blkE wy2.heap.size 42 (pref0), blkE PX 29 x.cells, blkE PA 29 a.cells] (wy2.alloc (.cells #[.bool false, .int .u8 0, .int .u8 0, .int .u8 0, .int .u8 0, .int .u8 0, .int .u8 0, .int .u8 0, .int .u8 0, .int .u8 0, .int .u8 0, .int .u8 0, .int .u8 0, .int .u8 0, .int .u8 0, .int .u8 0, .int .u8 0, .int .i64 0] 42)) from HM.out.alloc rfl 42 #[.bool false, .int .u8 0, .int .u8 0, .int .u8 0, .int .u8 0, .int .u8 0, .int .u8 0, .int .u8 0, .int .u8 0, .int .u8 0, .int .u8 0, .int .u8 0, .int .u8 0, .int .u8 0, .int .u8 0, .int .u8 0, .int .u8 0, .int .i64 0] (pref0) rfl)
          generalize wy2.alloc (.cells #[.bool false, .int .u8 0, .int .u8 0, .int .u8 0, .int .u8 0, .int .u8 0, .int .u8 0, .int .u8 0, .int .u8 0, .int .u8 0, .int .u8 0, .int .u8 0, .int .u8 0, .int .u8 0, .int .u8 0, .int .u8 0, .int .u8 0, .int .i64 0] 42) = wy3 at HM ⊢
          generalize wy2.heap.size = P15 at HM ⊢
          refine hK.out _ _ ((HM.out.erase 0)) (fun hHeld => ?_)
          clear hK K
          (try simp only [Act.put, List.setIfInBounds_toArray, List.set_cons_zero, List.set_cons_succ])
          refine step_two 5 7 rfl rfl (by kernel_rfl) (fun K hK => ?_) (fun K hK => ?_)
          · clear hHeld
            go_simp
            refine (HK2.out _).mono ?_
            rintro e wy4 ⟨rfl, hb⟩
            replace HM := Lib.hid (show Mem w [blkE P15 42 (pref0), blkE PX 29 x.cells, blkE PA 29 a.cells] wy4 from HM.out.below hb)
            clear hb
            go_wp2_with fail
            refine hK.out _ _ ((HM.out.erase 0)) (fun hHeld => ?_)
            clear hK K
            (try simp only [Act.put, List.setIfInBounds_toArray, List.set_cons_zero, List.set_cons_succ])
            refine step_one 7 rfl (by kernel_rfl) (fun K hK => ?_)
            clear hHeld
            go_simp
            replace HM := Lib.hid (show Mem w [blkE wy4.heap.size 42 (pref0), blkE P15 42 (pref0), blkE PX 29 x.cells, blkE PA 29 a.cells] (wy4.alloc (.cells #[.bool false, .int .u8 0, .int .u8 0, .int .u8 0, .int .u8 0, .int .u8 0, .int .u8 0, .int .u8 0, .int .u8 0, .int .u8 0, .int .u8 0, .int .u8 0, .int .u8 0, .int .u8 0, .int .u8 0, .int .u8 0, .int .u8 0, .int .i64 0] 42)) from HM.out.alloc rfl 42 #[.bool false, .int .u8 0, .int .u8 0, .int .u8 0, .int .u8 0, .int .u8 0, .int .u8 0, .int .u8 0, .int .u8 0, .int .u8 0, .int .u8 0, .int .u8 0, .int .u8 0, .int .u8 0, .int .u8 0, .int .u8 0, .int .u8 0, .int .i64 0] (pref0) rfl)
            generalize wy4.alloc (.cells #[.bool false, .int .u8 0, .int .u8 0, .int .u8 0, .int .u8 0, .int .u8 0, .int .u8 0, .int .u8 0, .int .u8 0, .int .u8 0, .int .u8 0, .int .u8 0, .int .u8 0, .int .u8 0, .int .u8 0, .int .u8 0, .int .u8 0, .int .i64 0] 42) = wy5 at HM ⊢
            generalize wy4.heap.size = P16 at HM ⊢
            refine hK.out _ _ (((HM.out.erase 0).erase 0)) (fun hHeld => ?_)
            clear hK K
            (try simp only [Act.put, List.setIfInBounds_toArray, List.set_cons_zero, List.set_cons_succ])
            refine step_one 8 rfl (by kernel_rfl) (fun K hK => ?_)
            clear hHeld
            refine step_store_blk _ rfl 42 (.tmp 15) (.tmp 63) rfl P15 (prefC (maskM a L) (L : Int)) rfl (by show Value.agg cp = _; rw [HPC.out.1]) 42 pref0 (HM.out.blk 1 rfl) (pref_cellsOf _ (maskM_ok a HAO.out L) _) (by rw [prefC_length _ (maskM_ok a HAO.out L)]; rfl) (prefC_one _ _) ?_
            intro wy6 hb hg
            replace HM := Lib.hid (show Mem w [blkE P16 42 (pref0), blkE P15 42 (prefC (maskM a L) (L : Int)), blkE PX 29 x.cells, blkE PA 29 a.cells] wy6 from HM.out.put 1 rfl _ hg hb)
            clear hb hg
            refine hK.out _ _ (((HM.out.erase 0).erase 0)) (fun hHeld => ?_)
            clear hK K
            (try simp only [Act.put])
            refine step_one 9 rfl (by kernel_rfl) (fun K hK => ?_)
            clear hHeld
            refine step_store_blk _ rfl 42 (.tmp 16) (.tmp 66) rfl P16 (prefC (maskM a S) (S : Int)) rfl (by show Value.agg cq = _; rw [HPC.out.2]) 42 pref0 (HM.out.blk 0 rfl) (pref_cellsOf _ (maskM_ok a HAO.out S) _) (by rw [prefC_length _ (maskM_ok a HAO.out S)]; rfl) (prefC_one _ _) ?_
            intro wy7 hb hg
            replace HM := Lib.hid (show Mem w [blkE P16 42 (prefC (maskM a S) (S : Int)), blkE P15 42 (prefC (maskM a L) (L : Int)), blkE PX 29 x.cells, blkE PA 29 a.cells] wy7 from HM.out.put 0 rfl _ hg hb)
            clear hb hg
            refine hK.out _ _ (((HM.out.erase 0).erase 0)) (fun hHeld => ?_)
            clear hK K
            (try simp only [Act.put])
            refine wpAnyH_done (by kernel_rfl) ?_ _
            go_wp2_with fail
            go_meet
            exact ⟨P15, P16, rfl, rfl, HM.out.blk 3 rfl, HM.out.blk 2 rfl, HM.out.blk 1 rfl, HM.out.blk 0 rfl, HM.out.bel⟩
          · clear hHeld
            go_simp
            replace HM := Lib.hid (show Mem w [blkE wy3.heap.size 42 (pref0), blkE P15 42 (pref0), blkE PX 29 x.cells, blkE PA 29 a.cells] (wy3.alloc (.cells #[.bool false, .int .u8 0, .int .u8 0, .int .u8 0, .int .u8 0, .int .u8 0, .int .u8 0, .int .u8 0, .int .u8 0, .int .u8 0, .int .u8 0, .int .u8 0, .int .u8 0, .int .u8 0, .int .u8 0, .int .u8 0, .int .u8 0, .int .i64 0] 42)) from HM.out.alloc rfl 42 #[.bool false, .int .u8 0, .int .u8 0, .int .u8 0, .int .u8 0, .int .u8 0, .int .u8 0, .int .u8 0, .int .u8 0, .int .u8 0, .int .u8 0, .int .u8 0, .int .u8 0, .int .u8 0, .int .u8 0, .int .u8 0, .int .u8 0, .int .i64 0] (pref0) rfl)
            generalize wy3.alloc (.cells #[.bool false, .int .u8 0, .int .u8 0, .int .u8 0, .int .u8 0, .int .u8 0, .int .u8 0, .int .u8 0, .int .u8 0, .int .u8 0, .int .u8 0, .int .u8 0, .int .u8 0, .int .u8 0, .int .u8 0, .int .u8 0, .int .u8 0, .int .i64 0] 42) = wy4 at HM ⊢
            generalize wy3.heap.size = P16 at HM ⊢
            refine hK.out _ _ (((HM.out.erase 0).erase 0)) (fun hHeld => ?_)
            clear hK K
            (try simp only [Act.put, List.setIfInBounds_toArray, List.set_cons_zero, List.set_cons_succ])
            refine step_one 5 rfl (by kernel_rfl) (fun K hK => ?_)
            clear hHeld
            go_simp
            refine (HK2.out _).mono ?_
            rintro e wy5 ⟨rfl, hb⟩
            replace HM := Lib.hid (show Mem w [blkE P16 42 (pref0), blkE P15 42 (pref0), blkE PX 29 x.cells, blkE PA 29 a.cells] wy5 from HM.out.below hb)
            clear hb
            go_wp2_with fail
            refine hK.out _ _ (((HM.out.erase 0).erase 0)) (fun hHeld => ?_)
            clear hK K
            (try simp only [Act.put, List.setIfInBounds_toArray, List.set_cons_zero, List.set_cons_succ])
            refine step_one 8 rfl (by kernel_rfl) (fun K hK => ?_)
            clear hHeld
            refine step_store_blk _ rfl 42 (.tmp 15) (.tmp 63) rfl P15 (prefC (maskM a L) (L : Int)) rfl (by show Value.agg cp = _; rw [HPC.out.1]) 42 pref0 (HM.out.blk 1 rfl) (pref_cellsOf _ (maskM_ok a HAO.out L) _) (by rw [prefC_length _ (maskM_ok a HAO.out L)]; rfl) (prefC_one _ _) ?_
            intro wy6 hb hg
            replace HM := Lib.hid (show Mem w [blkE P16 42 (pref0), blkE P15 42 (prefC (maskM a L) (L : Int)), blkE PX 29 x.cells, blkE PA 29 a.cells] wy6 from HM.out.put 1 rfl _ hg hb)
            clear hb hg
            refine hK.out _ _ (((HM.out.erase 0).erase 0)) (fun hHeld => ?_)
            clear hK K
            (try simp only [Act.put])
            refine step_one 9 rfl (by kernel_rfl) (fun K hK => ?_)
            clear hHeld
            refine step_store_blk _ rfl 42 (.tmp 16) (.tmp 66) rfl P16 (prefC (maskM a S) (S : Int)) rfl (by show Value.agg cq = _; rw [HPC.out.2]) 42 pref0 (HM.out.blk 0 rfl) (pref_cellsOf _ (maskM_ok a HAO.out S) _) (by rw [prefC_length _ (maskM_ok a HAO.out S)]; rfl) (prefC_one _ _) ?_
            intro wy7 hb hg
            replace HM := Lib.hid (show Mem w [blkE P16 42 (prefC (maskM a S) (S : Int)), blkE P15 42 (prefC (maskM a L) (L : Int)), blkE PX 29 x.cells, blkE PA 29 a.cells] wy7 from HM.out.put 0 rfl _ hg hb)
            clear hb hg
            refine hK.out _ _ (((HM.out.erase 0).erase 0)) (fun hHeld => ?_)
            clear hK K
            (try simp only [Act.put])
            refine wpAnyH_done (by kernel_rfl) ?_ _
            go_wp2_with fail
            go_meet
            exact ⟨P15, P16, rfl, rfl, HM.out.blk 3 rfl, HM.out.blk 2 rfl, HM.out.blk 1 rfl, HM.out.blk 0 rfl, HM.out.bel⟩
        · clear hHeld
          go_simp
          replace HM := Lib.hid (show Mem w [blkE wy2.heap.size 42 (pref0), blkE PX 29 x.cells, blkE PA 29 a.cells] (wy2.alloc (.cells #[.bool false, .int .u8 0, .int .u8 0, .int .u8 0, .int .u8 0, .int .u8 0, .int .u8 0, .int .u8 0, .int .u8 0, .int .u8 0, .int .u8 0, .int .u8 0, .int .u8 0, .int .u8 0, .int .u8 0, .int .u8 0, .int .u8 0, .int .i64 0] 42)) from HM.out.alloc rfl 42 #[.bool false, .int .u8 0, .int .u8 0, .int .u8 0, .int .u8 0, .int .u8 0, .int .u8 0, .int .u8 0, .int .u8 0, .int .u8 0, .int .u8 0, .int .u8 0, .int .u8 0, .int .u8 0, .int .u8 0, .int .u8 0, .int .u8 0, .int .i64 0] (pref0) rfl)
          generalize wy2.alloc (.cells #[.bool false, .int .u8 0, .int .u8 0, .int .u8 0, .int .u8 0, .int .u8 0, .int .u8 0, .int .u8 0, .int .u8 0, .int .u8 0, .int .u8 0, .int .u8 0, .int .u8 0, .int .u8 0, .int .u8 0, .int .u8 0, .int .u8 0, .int .i64 0] 42) = wy3 at HM ⊢
          generalize wy2.heap.size = P16 at HM ⊢
          refine hK.out _ _ ((HM.out.erase 0)) (fun hHeld => ?_)
          clear hK K
          (try simp only [Act.put, List.setIfInBounds_toArray, List.set_cons_zero, List.set_cons_succ])
          refine step_two 5 6 rfl rfl (by kernel_rfl) (fun K hK => ?_) (fun K hK => ?_)
          · clear hHeld
            go_simp
            refine (HK2.out _).mono ?_
            rintro e wy4 ⟨rfl, hb⟩
            replace HM := Lib.hid (show Mem w [blkE P16 42 (pref0), blkE PX 29 x.cells, blkE PA 29 a.cells] wy4 from HM.out.below hb)
            clear hb
            go_wp2_with fail
            refine hK.out _ _ ((HM.out.erase 0)) (fun hHeld => ?_)
            clear hK K
            (try simp only [Act.put, List.setIfInBounds_toArray, List.set_cons_zero, List.set_cons_succ])
            refine step_one 6 rfl (by kernel_rfl) (fun K hK => ?_)
            clear hHeld
            go_simp
            replace HM := Lib.hid (show Mem w [blkE wy4.heap.size 42 (pref0), blkE P16 42 (pref0), blkE PX 29 x.cells, blkE PA 29 a.cells] (wy4.alloc (.cells #[.bool false, .int .u8 0, .int .u8 0, .int .u8 0, .int .u8 0, .int .u8 0, .int .u8 0, .int .u8 0, .int .u8 0, .int .u8 0, .int .u8 0, .int .u8 0, .int .u8 0, .int .u8 0, .int .u8 0, .int .u8 0, .int .u8 0, .int .i64 0] 42)) from HM.out.alloc rfl 42 #[.bool false, .int .u8 0, .int .u8 0, .int .u8 0, .int .u8 0, .int .u8 0, .int .u8 0, .int .u8 0, .int .u8 0, .int .u8 0, .int .u8 0, .int .u8 0, .int .u8 0, .int .u8 0, .int .u8 0, .int .u8 0, .int .u8 0, .int .i64 0] (pref0) rfl)
            generalize wy4.alloc (.cells #[.bool false, .int .u8 0, .int .u8 0, .int .u8 0, .int .u8 0, .int .u8 0, .int .u8 0, .int .u8 0, .int .u8 0, .int .u8 0, .int .u8 0, .int .u8 0, .int .u8 0, .int .u8 0, .int .u8 0, .int .u8 0, .int .u8 0, .int .i64 0] 42) = wy5 at HM ⊢
            generalize wy4.heap.size = P15 at HM ⊢
            refine hK.out _ _ (((HM.out.erase 0).erase 0)) (fun hHeld => ?_)
            clear hK K
            (try simp only [Act.put, List.setIfInBounds_toArray, List.set_cons_zero, List.set_cons_succ])
            refine step_one 8 rfl (by kernel_rfl) (fun K hK => ?_)
            clear hHeld
            refine step_store_blk _ rfl 42 (.tmp 15) (.tmp 63) rfl P15 (prefC (maskM a L) (L : Int)) rfl (by show Value.agg cp = _; rw [HPC.out.1]) 42 pref0 (HM.out.blk 0 rfl) (pref_cellsOf _ (maskM_ok a HAO.out L) _) (by rw [prefC_length _ (maskM_ok a HAO.out L)]; rfl) (prefC_one _ _) ?_
            intro wy6 hb hg
            replace HM := Lib.hid (show Mem w [blkE P15 42 (prefC (maskM a L) (L : Int)), blkE P16 42 (pref0), blkE PX 29 x.cells, blkE PA 29 a.cells] wy6 from HM.out.put 0 rfl _ hg hb)
            clear hb hg
            refine hK.out _ _ (((HM.out.erase 0).erase 0)) (fun hHeld => ?_)
            clear hK K
            (try simp only [Act.put])
            refine step_one 9 rfl (by kernel_rfl) (fun K hK => ?_)
            clear hHeld
            refine step_store_blk _ rfl 42 (.tmp 16) (.tmp 66) rfl P16 (prefC (maskM a S) (S : Int)) rfl (by show Value.agg cq = _; rw [HPC.out.2]) 42 pref0 (HM.out.blk 1 rfl) (pref_cellsOf _ (maskM_ok a HAO.out S) _) (by rw [prefC_length _ (maskM_ok a HAO.out S)]; rfl) (prefC_one _ _) ?_
            intro wy7 hb hg
            replace HM := Lib.hid (show Mem w [blkE P15 42 (prefC (maskM a L) (L : Int)), blkE P16 42 (prefC (maskM a S) (S : Int)), blkE PX 29 x.cells, blkE PA 29 a.cells] wy7 from HM.out.put 1 rfl _ hg hb)
            clear hb hg
            refine hK.out _ _ (((HM.out.erase 0).erase 0)) (fun hHeld => ?_)
            clear hK K
            (try simp only [Act.put])
            refine wpAnyH_done (by kernel_rfl) ?_ _
            go_wp2_with fail
            go_meet
            exact ⟨P15, P16, rfl, rfl, HM.out.blk 3 rfl, HM.out.blk 2 rfl, HM.out.blk 0 rfl, HM.out.blk 1 rfl, HM.out.bel⟩
          · clear hHeld
            go_simp
            replace HM := Lib.hid (show Mem w [blkE wy3.heap.size 42 (pref0), blkE P16 42 (pref0), blkE PX 29 x.cells, blkE PA 29 a.cells] (wy3.alloc (.cells #[.bool false, .int .u8 0, .int .u8 0, .int .u8 0, .int .u8 0, .int .u8 0, .int .u8 0, .int .u8 0, .int .u8 0, .int .u8 0, .int .u8 0, .int .u8 0, .int .u8 0, .int .u8 0, .int .u8 0, .int .u8 0, .int .u8 0, .int .i64 0] 42)) from HM.out.alloc rfl 42 #[.bool false, .int .u8 0, .int .u8 0, .int .u8 0, .int .u8 0, .int .u8 0, .int .u8 0, .int .u8 0, .int .u8 0, .int .u8 0, .int .u8 0, .int .u8 0, .int .u8 0, .int .u8 0, .int .u8 0, .int .u8 0, .int .u8 0, .int .i64 0] (pref0) rfl)
            generalize wy3.alloc (.cells #[.bool false, .int .u8 0, .int .u8 0, .int .u8 0, .int .u8 0, .int .u8 0, .int .u8 0, .int .u8 0, .int .u8 0, .int .u8 0, .int .u8 0, .int .u8 0, .int .u8 0, .int .u8 0, .int .u8 0, .int .u8 0, .int .u8 0, .int .i64 0] 42) = wy4 at HM ⊢
            generalize wy3.heap.size = P15 at HM ⊢
            refine hK.out _ _ (((HM.out.erase 0).erase 0)) (fun hHeld => ?_)
            clear hK K
            (try simp only [Act.put, List.setIfInBounds_toArray, List.set_cons_zero, List.set_cons_succ])
            refine step_one 5 rfl (by kernel_rfl) (fun K hK => ?_)
            clear hHeld
            go_simp
            refine (HK2.out _).mono ?_
            rintro e wy5 ⟨rfl, hb⟩
            replace HM := Lib.hid (show Mem w [blkE P15 42 (pref0), blkE P16 42 (pref0), blkE PX 29 x.cells, blkE PA 29 a.cells] wy5 from HM.out.below hb)
            clear hb
            go_wp2_with fail
            refine hK.out _ _ (((HM.out.erase 0).erase 0)) (fun hHeld => ?_)
            clear hK K
            (try simp only [Act.put, List.setIfInBounds_toArray, List.set_cons_zero, List.set_cons_succ])
            refine step_one 8 rfl (by kernel_rfl) (fun K hK => ?_)
            clear hHeld
            refine step_store_blk _ rfl 42 (.tmp 15) (.tmp 63) rfl P15 (prefC (maskM a L) (L : Int)) rfl (by show Value.agg cp = _; rw [HPC.out.1]) 42 pref0 (HM.out.blk 0 rfl) (pref_cellsOf _ (maskM_ok a HAO.out L) _) (by rw [prefC_length _ (maskM_ok a HAO.out L)]; rfl) (prefC_one _ _) ?_
            intro wy6 hb hg
            replace HM := Lib.hid (show Mem w [blkE P15 42 (prefC (maskM a L) (L : Int)), blkE P16 42 (pref0), blkE PX 29 x.cells, blkE PA 29 a.cells] wy6 from HM.out.put 0 rfl _ hg hb)
            clear hb hg
            refine hK.out _ _ (((HM.out.erase 0).erase 0)) (fun hHeld => ?_)
            clear hK K
            (try simp only [Act.put])
            refine step_one 9 rfl (by kernel_rfl) (fun K hK => ?_)
            clear hHeld
            refine step_store_blk _ rfl 42 (.tmp 16) (.tmp 66) rfl P16 (prefC (maskM a S) (S : Int)) rfl (by show Value.agg cq = _; rw [HPC.out.2]) 42 pref0 (HM.out.blk 1 rfl) (pref_cellsOf _ (maskM_ok a HAO.out S) _) (by rw [prefC_length _ (maskM_ok a HAO.out S)]; rfl) (prefC_one _ _) ?_
            intro wy7 hb hg
            replace HM := Lib.hid (show Mem w [blkE P15 42 (prefC (maskM a L) (L : Int)), blkE P16 42 (prefC (maskM a S) (S : Int)), blkE PX 29 x.cells, blkE PA 29 a.cells] wy7 from HM.out.put 1 rfl _ hg hb)
            clear hb hg
            refine hK.out _ _ (((HM.out.erase 0).erase 0)) (fun hHeld => ?_)
            clear hK K
            (try simp only [Act.put])
            refine wpAnyH_done (by kernel_rfl) ?_ _
            go_wp2_with fail
            go_meet
            exact ⟨P15, P16, rfl, rfl, HM.out.blk 3 rfl, HM.out.blk 2 rfl, HM.out.blk 0 rfl, HM.out.blk 1 rfl, HM.out.bel⟩
      · clear hHeld
        go_simp
        replace HM := Lib.hid (show Mem w [blkE wd1.heap.size 42 (pref0), blkE PX 29 x.cells, blkE PA 29 a.cells] (wd1.alloc (.cells #[.bool false, .int .u8 0, .int .u8 0, .int .u8 0, .int .u8 0, .int .u8 0, .int .u8 0, .int .u8 0, .int .u8 0, .int .u8 0, .int .u8 0, .int .u8 0, .int .u8 0, .int .u8 0, .int .u8 0, .int .u8 0, .int .u8 0, .int .i64 0] 42)) from HM.out.alloc rfl 42 #[.bool false, .int .u8 0, .int .u8 0, .int .u8 0, .int .u8 0, .int .u8 0, .int .u8 0, .int .u8 0, .int .u8 0, .int .u8 0, .int .u8 0, .int .u8 0, .int .u8 0, .int .u8 0, .int .u8 0, .int .u8 0, .int .u8 0, .int .i64 0] (pref0) rfl)
        generalize wd1.alloc (.cells #[.bool false, .int .u8 0, .int .u8 0, .int .u8 0, .int .u8 0, .int .u8 0, .int .u8 0, .int .u8 0, .int .u8 0, .int .u8 0, .int .u8 0, .int .u8 0, .int .u8 0, .int .u8 0, .int .u8 0, .int .u8 0, .int .u8 0, .int .i64 0] 42) = wy2 at HM ⊢
        generalize wd1.heap.size = P15 at HM ⊢
        refine hK.out _ _ ((HM.out.erase 0)) (fun hHeld => ?_)
        clear hK K
        (try simp only [Act.put, List.setIfInBounds_toArray, List.set_cons_zero, List.set_cons_succ])
        refine step_two 2 7 rfl rfl (by kernel_rfl) (fun K hK => ?_) (fun K hK => ?_)
        · clear hHeld
          go_simp
          refine (HK1.out _).mono ?_
          rintro e wy3 ⟨rfl, hb⟩
          replace HM := Lib.hid (show Mem w [blkE P15 42 (pref0), blkE PX 29 x.cells, blkE PA 29 a.cells] wy3 from HM.out.below hb)
          clear hb
          go_wp2_with fail
          refine hK.out _ _ ((HM.out.erase 0)) (fun hHeld => ?_)
          clear hK K
          (try simp only [Act.put, List.setIfInBounds_toArray, List.set_cons_zero, List.set_cons_succ])
          refine step_two 5 7 rfl rfl (by kernel_rfl) (fun K hK => ?_) (fun K hK => ?_)
          · clear hHeld
            go_simp
            refine (HK2.out _).mono ?_
            rintro e wy4 ⟨rfl, hb⟩
            replace HM := Lib.hid (show Mem w [blkE P15 42 (pref0), blkE PX 29 x.cells, blkE PA 29 a.cells] wy4 from HM.out.below hb)
            clear hb
            go_wp2_with fail
            refine hK.out _ _ ((HM.out.erase 0)) (fun hHeld => ?_)
            clear hK K
            (try simp only [Act.put, List.setIfInBounds_toArray, List.set_cons_zero, List.set_cons_succ])
            refine step_one 7 rfl (by kernel_rfl) (fun K hK => ?_)
            clear hHeld
            go_simp
            replace HM := Lib.hid (show Mem w [blkE wy4.heap.size 42 (pref0), blkE P15 42 (pref0), blkE PX 29 x.cells, blkE PA 29 a.cells] (wy4.alloc (.cells #[.bool false, .int .u8 0, .int .u8 0, .int .u8 0, .int .u8 0, .int .u8 0, .int .u8 0, .int .u8 0, .int .u8 0, .int .u8 0, .int .u8 0, .int .u8 0, .int .u8 0, .int .u8 0, .int .u8 0, .int .u8 0, .int .u8 0, .int .i64 0] 42)) from HM.out.alloc rfl 42 #[.bool false, .int .u8 0, .int .u8 0, .int .u8 0, .int .u8 0, .int .u8 0, .int .u8 0, .int .u8 0, .int .u8 0, .int .u8 0, .int .u8 0, .int .u8 0, .int .u8 0, .int .u8 0, .int .u8 0, .int .u8 0, .int .u8 0, .int .i64 0] (pref0) rfl)
            generalize wy4.alloc (.cells #[.bool false, .int .u8 0, .int .u8 0, .int .u8 0, .int .u8 0, .int .u8 0, .int .u8 0, .int .u8 0, .int .u8 0, .int .u8 0, .int .u8 0, .int .u8 0, .int .u8 0, .int .u8 0, .int .u8 0, .int .u8 0, .int .u8 0, .int .i64 0] 42) = wy5 at HM ⊢
            generalize wy4.heap.size = P16 at HM ⊢
            refine hK.out _ _ (((HM.out.erase 0).erase 0)) (fun hHeld => ?_)
            clear hK K
            (try simp only [Act.put, List.setIfInBounds_toArray, List.set_cons_zero, List.set_cons_succ])
            refine step_one 8 rfl (by kernel_rfl) (fun K hK => ?_)
            clear hHeld
            refine step_store_blk _ rfl 42 (.tmp 15) (.tmp 63) rfl P15 (prefC (maskM a L) (L : Int)) rfl (by show Value.agg cp = _; rw [HPC.out.1]) 42 pref0 (HM.out.blk 1 rfl) (pref_cellsOf _ (maskM_ok a HAO.out L) _) (by rw [prefC_length _ (maskM_ok a HAO.out L)]; rfl) (prefC_one _ _) ?_
            intro wy6 hb hg
            replace HM := Lib.hid (show Mem w [blkE P16 42 (pref0), blkE P15 42 (prefC (maskM a L) (L : Int)), blkE PX 29 x.cells, blkE PA 29 a.cells] wy6 from HM.out.put 1 rfl _ hg hb)
            clear hb hg
            refine hK.out _ _ (((HM.out.erase 0).erase 0)) (fun hHeld => ?_)
            clear hK K
            (try simp only [Act.put])
            refine step_one 9 rfl (by kernel_rfl) (fun K hK => ?_)
            clear hHeld
            refine step_store_blk _ rfl 42 (.tmp 16) (.tmp 66) rfl P16 (prefC (maskM a S) (S : Int)) rfl (by show Value.agg cq = _; rw [HPC.out.2]) 42 pref0 (HM.out.blk 0 rfl) (pref_cellsOf _ (maskM_ok a HAO.out S) _) (by rw [prefC_length _ (maskM_ok a HAO.out S)]; rfl) (prefC_one _ _) ?_
            intro wy7 hb hg
            replace HM := Lib.hid (show Mem w [blkE P16 42 (prefC (maskM a S) (S : Int)), blkE P15 42 (prefC (maskM a L) (L : Int)), blkE PX 29 x.cells, blkE PA 29 a.cells] wy7 from HM.out.put 0 rfl _ hg hb)
            clear hb hg
            refine hK.out _ _ (((HM.out.erase 0).erase 0)) (fun hHeld => ?_)
            clear hK K
            (try simp only [Act.put])
            refine wpAnyH_done (by kernel_rfl) ?_ _
            go_wp2_with fail
            go_meet
            exact ⟨P15, P16, rfl, rfl, HM.out.blk 3 rfl, HM.out.blk 2 rfl, HM.out.blk 1 rfl, HM.out.blk 0 rfl, HM.out.bel⟩
          · clear hHeld
            go_simp
            replace HM := Lib.hid (show Mem w [blkE wy3.heap.size 42 (pref0), blkE P15 42 (pref0), blkE PX 29 x.cells, blkE PA 29 a.cells] (wy3.alloc (.cells #[.bool false, .int .u8 0, .int .u8 0, .int .u8 0, .int .u8 0, .int .u8 0, .int .u8 0, .int .u8 0, .int .u8 0, .int .u8 0, .int .u8 0, .int .u8 0, .int .u8 0, .int .u8 0, .int .u8 0, .int .u8 0, .int .u8 0, .int .i64 0] 42)) from HM.out.alloc rfl 42 #[.bool false, .int .u8 0, .int .u8 0, .int .u8 0, .int .u8 0, .int .u8 0, .int .u8 0, .int .u8 0, .int .u8 0, .int .u8 0, .int .u8 0, .int .u8 0, .int .u8 0, .int .u8 0, .int .u8 0, .int .u8 0, .int .u8 0, .int .i64 0] (pref0) rfl)
            generalize wy3.alloc (.cells #[.bool false, .int .u8 0, .int .u8 0, .int .u8 0, .int .u8 0, .int .u8 0, .int .u8 0, .int .u8 0, .int .u8 0, .int .u8 0, .int .u8 0, .int .u8 0, .int .u8 0, .int .u8 0, .int .u8 0, .int .u8 0, .int .u8 0, .int .i64 0] 42) = wy4 at HM ⊢
            generalize wy3.heap.size = P16 at HM ⊢
            refine hK.out _ _ (((HM.out.erase 0).erase 0)) (fun hHeld => ?_)
            clear hK K
            (try simp only [Act.put, List.setIfInBounds_toArray, List.set_cons_zero, List.set_cons_succ])
            refine step_one 5 rfl (by kernel_rfl) (fun K hK => ?_)
            clear hHeld
            go_simp
            refine (HK2.out _).mono ?_
            rintro e wy5 ⟨rfl, hb⟩
            replace HM := Lib.hid (show Mem w [blkE P16 42 (pref0), blkE P15 42 (pref0), blkE PX 29 x.cells, blkE PA 29 a.cells] wy5 from HM.out.below hb)
            clear hb
            go_wp2_with fail
            refine hK.out _ _ (((HM.out.erase 0).erase 0)) (fun hHeld => ?_)
            clear hK K
            (try simp only [Act.put, List.setIfInBounds_toArray, List.set_cons_zero, List.set_cons_succ])
            refine step_one 8 rfl (by kernel_rfl) (fun K hK => ?_)
            clear hHeld
            refine step_store_blk _ rfl 42 (.tmp 15) (.tmp 63) rfl P15 (prefC (maskM a L) (L : Int)) rfl (by show Value.agg cp = _; rw [HPC.out.1]) 42 pref0 (HM.out.blk 1 rfl) (pref_cellsOf _ (maskM_ok a HAO.out L) _) (by rw [prefC_length _ (maskM_ok a HAO.out L)]; rfl) (prefC_one _ _) ?_
            intro wy6 hb hg
            replace HM := Lib.hid (show Mem w [blkE P16 42 (pref0), blkE P15 42 (prefC (maskM a L) (L : Int)), blkE PX 29 x.cells, blkE PA 29 a.cells] wy6 from HM.out.put 1 rfl _ hg hb)
            clear hb hg
            refine hK.out _ _ (((HM.out.erase 0).erase 0)) (fun hHeld => ?_)
            clear hK K
            (try simp only [Act.put])
            refine step_one 9 rfl (by kernel_rfl) (fun K hK => ?_)
            clear hHeld
            refine step_store_blk _ rfl 42 (.tmp 16) (.tmp 66) rfl P16 (prefC (maskM a S) (S : Int)) rfl (by show Value.agg cq = _; rw [HPC.out.2]) 42 pref0 (HM.out.blk 0 rfl) (pref_cellsOf _ (maskM_ok a HAO.out S) _) (by rw [prefC_length _ (maskM_ok a HAO.out S)]; rfl) (prefC_one _ _) ?_
            intro wy7 hb hg
            replace HM := Lib.hid (show Mem w [blkE P16 42 (prefC (maskM a S) (S : Int)), blkE P15 42 (prefC (maskM a L) (L : Int)), blkE PX 29 x.cells, blkE PA 29 a.cells] wy7 from HM.out.put 0 rfl _ hg hb)
            clear hb hg
            refine hK.out _ _ (((HM.out.erase 0).erase 0)) (fun hHeld => ?_)
            clear hK K
            (try simp only [Act.put])
            refine wpAnyH_done (by kernel_rfl) ?_ _
            go_wp2_with fail
            go_meet
            exact ⟨P15, P16, rfl, rfl, HM.out.blk 3 rfl, HM.out.blk 2 rfl, HM.out.blk 1 rfl, HM.out.blk 0 rfl, HM.out.bel⟩
        · clear hHeld
          go_simp
          replace HM := Lib.hid (show Mem w [blkE wy2.heap.size 42 (pref0), blkE P15 42 (pref0), blkE PX 29 x.cells, blkE PA 29 a.cells] (wy2.alloc (.cells #[.bool false, .int .u8 0, .int .u8 0, .int .u8 0, .int .u8 0, .int .u8 0, .int .u8 0, .int .u8 0, .int .u8 0, .int .u8 0, .int .u8 0, .int .u8 0, .int .u8 0, .int .u8 0, .int .u8 0, .int .u8 0, .int .u8 0, .int .i64 0] 42)) from HM.out.alloc rfl 42 #[.bool false, .int .u8 0, .int .u8 0, .int .u8 0, .int .u8 0, .int .u8 0, .int .u8 0, .int .u8 0, .int .u8 0, .int .u8 0, .int .u8 0, .int .u8 0, .int .u8 0, .int .u8 0, .int .u8 0, .int .u8 0, .int .u8 0, .int .i64 0] (pref0) rfl)
          generalize wy2.alloc (.cells #[.bool false, .int .u8 0, .int .u8 0, .int .u8 0, .int .u8 0, .int .u8 0, .int .u8 0, .int .u8 0, .int .u8 0, .int .u8 0, .int .u8 0, .int .u8 0, .int .u8 0, .int .u8 0, .int .u8 0, .int .u8 0, .int .u8 0, .int .i64 0] 42) = wy3 at HM ⊢
          generalize wy2.heap.size = P16 at HM ⊢
          refine hK.out _ _ (((HM.out.erase 0).erase 0)) (fun hHeld => ?_)
          clear hK K
          (try simp only [Act.put, List.setIfInBounds_toArray, List.set_cons_zero, List.set_cons_succ])
          refine step_one 2 rfl (by kernel_rfl) (fun K hK => ?_)
          clear hHeld
          go_simp
          refine (HK1.out _).mono ?_
          rintro e wy4 ⟨rfl, hb⟩
          replace HM := Lib.hid (show Mem w [blkE P16 42 (pref0), blkE P15 42 (pref0), blkE PX 29 x.cells, blkE PA 29 a.cells] wy4 from HM.out.below hb)
          clear hb
          go_wp2_with fail
          refine hK.out _ _ (((HM.out.erase 0).erase 0)) (fun hHeld => ?_)
          clear hK K
          (try simp only [Act.put, List.setIfInBounds_toArray, List.set_cons_zero, List.set_cons_succ])
          refine step_one 5 rfl (by kernel_rfl) (fun K hK => ?_)
          clear hHeld
          go_simp
          refine (HK2.out _).mono ?_
          rintro e wy5 ⟨rfl, hb⟩
          replace HM := Lib.hid (show Mem w [blkE P16 42 (pref0), blkE P15 42 (pref0), blkE PX 29 x.cells, blkE PA 29 a.cells] wy5 from HM.out.below hb)
          clear hb
          go_wp2_with fail
          refine hK.out _ _ (((HM.out.erase 0).erase 0)) (fun hHeld => ?_)
          clear hK K
          (try simp only [Act.put, List.setIfInBounds_toArray, List.set_cons_zero, List.set_cons_succ])
          refine step_one 8 rfl (by kernel_rfl) (fun K hK => ?_)
          clear hHeld
          refine step_store_blk _ rfl 42 (.tmp 15) (.tmp 63) rfl P15 (prefC (maskM a L) (L : Int)) rfl (by show Value.agg cp = _; rw [HPC.out.1]) 42 pref0 (HM.out.blk 1 rfl) (pref_cellsOf _ (maskM_ok a HAO.out L) _) (by rw [prefC_length _ (maskM_ok a HAO.out L)]; rfl) (prefC_one _ _) ?_
          intro wy6 hb hg
          replace HM := Lib.hid (show Mem w [blkE P16 42 (pref0), blkE P15 42 (prefC (maskM a L) (L : Int)), blkE PX 29 x.cells, blkE PA 29 a.cells] wy6 from HM.out.put 1 rfl _ hg hb)
          clear hb hg
          refine hK.out _ _ (((HM.out.erase 0).erase 0)) (fun hHeld => ?_)
          clear hK K
          (try simp only [Act.put])
          refine step_one 9 rfl (by kernel_rfl) (fun K hK => ?_)
          clear hHeld
          refine step_store_blk _ rfl 42 (.tmp 16) (.tmp 66) rfl P16 (prefC (maskM a S) (S : Int)) rfl (by show Value.agg cq = _; rw [HPC.out.2]) 42 pref0 (HM.out.blk 0 rfl) (pref_cellsOf _ (maskM_ok a HAO.out S) _) (by rw [prefC_length _ (maskM_ok a HAO.out S)]; rfl) (prefC_one _ _) ?_
          intro wy7 hb hg
          replace HM := Lib.hid (show Mem w [blkE P16 42 (prefC (maskM a S) (S : Int)), blkE P15 42 (prefC (maskM a L) (L : Int)), blkE PX 29 x.cells, blkE PA 29 a.cells] wy7 from HM.out.put 0 rfl _ hg hb)
          clear hb hg
          refine hK.out _ _ (((HM.out.erase 0).erase 0)) (fun hHeld => ?_)
          clear hK K
          (try simp only [Act.put])
          refine wpAnyH_done (by kernel_rfl) ?_ _
          go_wp2_with fail
          go_meet
          exact ⟨P15, P16, rfl, rfl, HM.out.blk 3 rfl, HM.out.blk 2 rfl, HM.out.blk 1 rfl, HM.out.blk 0 rfl, HM.out.bel⟩
      · clear hHeld
        go_simp
        replace HM := Lib.hid (show Mem w [blkE wd1.heap.size 42 (pref0), blkE PX 29 x.cells, blkE PA 29 a.cells] (wd1.alloc (.cells #[.bool false, .int .u8 0, .int .u8 0, .int .u8 0, .int .u8 0, .int .u8 0, .int .u8 0, .int .u8 0, .int .u8 0, .int .u8 0, .int .u8 0, .int .u8 0, .int .u8 0, .int .u8 0, .int .u8 0, .int .u8 0, .int .u8 0, .int .i64 0] 42)) from HM.out.alloc rfl 42 #[.bool false, .int .u8 0, .int .u8 0, .int .u8 0, .int .u8 0, .int .u8 0, .int .u8 0, .int .u8 0, .int .u8 0, .int .u8 0, .int .u8 0, .int .u8 0, .int .u8 0, .int .u8 0, .int .u8 0, .int .u8 0, .int .u8 0, .int .i64 0] (pref0) rfl)
        generalize wd1.alloc (.cells #[.bool false, .int .u8 0, .int .u8 0, .int .u8 0, .int .u8 0, .int .u8 0, .int .u8 0, .int .u8 0, .int .u8 0, .int .u8 0, .int .u8 0, .int .u8 0, .int .u8 0, .int .u8 0, .int .u8 0, .int .u8 0, .int .u8 0, .int .i64 0] 42) = wy2 at HM ⊢
        generalize wd1.heap.size = P16 at HM ⊢
        refine hK.out _ _ ((HM.out.erase 0)) (fun hHeld => ?_)
        clear hK K
        (try simp only [Act.put, List.setIfInBounds_toArray, List.set_cons_zero, List.set_cons_succ])
        refine step_two 2 6 rfl rfl (by kernel_rfl) (fun K hK => ?_) (fun K hK => ?_)
        · clear hHeld
          go_simp
          refine (HK1.out _).mono ?_
          rintro e wy3 ⟨rfl, hb⟩
          replace HM := Lib.hid (show Mem w [blkE P16 42 (pref0), blkE PX 29 x.cells, blkE PA 29 a.cells] wy3 from HM.out.below hb)
          clear hb
          go_wp2_with fail
          refine hK.out _ _ ((HM.out.erase 0)) (fun hHeld => ?_)
          clear hK K
          (try simp only [Act.put, List.setIfInBounds_toArray, List.set_cons_zero, List.set_cons_succ])
          refine step_two 5 6 rfl rfl (by kernel_rfl) (fun K hK => ?_) (fun K hK => ?_)
          · clear hHeld
            go_simp
            refine (HK2.out _).mono ?_
            rintro e wy4 ⟨rfl, hb⟩
            replace HM := Lib.hid (show Mem w [blkE P16 42 (pref0), blkE PX 29 x.cells, blkE PA 29 a.cells] wy4 from HM.out.below hb)
            clear hb
            go_wp2_with fail
            refine hK.out _ _ ((HM.out.erase 0)) (fun hHeld => ?_)
            clear hK K
            (try simp only [Act.put, List.setIfInBounds_toArray, List.set_cons_zero, List.set_cons_succ])
            refine step_one 6 rfl (by kernel_rfl) (fun K hK => ?_)
            clear hHeld
            go_simp
            replace HM := Lib.hid (show Mem w [blkE wy4.heap.size 42 (pref0), blkE P16 42 (pref0), blkE PX 29 x.cells, blkE PA 29 a.cells] (wy4.alloc (.cells #[.bool false, .int .u8 0, .int .u8 0, .int .u8 0, .int .u8 0, .int .u8 0, .int .u8 0, .int .u8 0, .int .u8 0, .int .u8 0, .int .u8 0, .int .u8 0, .int .u8 0, .int .u8 0, .int .u8 0, .int .u8 0, .int .u8 0, .int .i64 0] 42)) from HM.out.alloc rfl 42 #[.bool false, .int .u8 0, .int .u8 0, .int .u8 0, .int .u8 0, .int .u8 0, .int .u8 0, .int .u8 0, .int .u8 0, .int .u8 0, .int .u8 0, .int .u8 0, .int .u8 0, .int .u8 0, .int .u8 0, .int .u8 0, .int .u8 0, .int .i64 0] (pref0) rfl)
            generalize wy4.alloc (.cells #[.bool false, .int .u8 0, .int .u8 0, .int .u8 0, .int .u8 0, .int .u8 0, .int .u8 0, .int .u8 0, .int .u8 0, .int .u8 0, .int .u8 0, .int .u8 0, .int .u8 0, .int .u8 0, .int .u8 0, .int .u8 0, .int .u8 0, .int .i64 0] 42) = wy5 at HM ⊢
            generalize wy4.heap.size = P15 at HM ⊢
            refine hK.out _ _ (((HM.out.erase 0).erase 0)) (fun hHeld => ?_)
            clear hK K
            (try simp only [Act.put, List.setIfInBounds_toArray, List.set_cons_zero, List.set_cons_succ])
            refine step_one 8 rfl (by kernel_rfl) (fun K hK => ?_)
            clear hHeld
            refine step_store_blk _ rfl 42 (.tmp 15) (.tmp 63) rfl P15 (prefC (maskM a L) (L : Int)) rfl (by show Value.agg cp = _; rw [HPC.out.1]) 42 pref0 (HM.out.blk 0 rfl) (pref_cellsOf _ (maskM_ok a HAO.out L) _) (by rw [prefC_length _ (maskM_ok a HAO.out L)]; rfl) (prefC_one _ _) ?_
            intro wy6 hb hg
            replace HM := Lib.hid (show Mem w [blkE P15 42 (prefC (maskM a L) (L : Int)), blkE P16 42 (pref0), blkE PX 29 x.cells, blkE PA 29 a.cells] wy6 from HM.out.put 0 rfl _ hg hb)
            clear hb hg
            refine hK.out _ _ (((HM.out.erase 0).erase 0)) (fun hHeld => ?_)
            clear hK K
            (try simp only [Act.put])
            refine step_one 9 rfl (by kernel_rfl) (fun K hK => ?_)
            clear hHeld
            refine step_store_blk _ rfl 42 (.tmp 16) (.tmp 66) rfl P16 (prefC (maskM a S) (S : Int)) rfl (by show Value.agg cq = _; rw [HPC.out.2]) 42 pref0 (HM.out.blk 1 rfl) (pref_cellsOf _ (maskM_ok a HAO.out S) _) (by rw [prefC_length _ (maskM_ok a HAO.out S)]; rfl) (prefC_one _ _) ?_
            intro wy7 hb hg
            replace HM := Lib.hid (show Mem w [blkE P15 42 (prefC (maskM a L) (L : Int)), blkE P16 42 (prefC (maskM a S) (S : Int)), blkE PX 29 x.cells, blkE PA 29 a.cells] wy7 from HM.out.put 1 rfl _ hg hb)
            clear hb hg
            refine hK.out _ _ (((HM.out.erase 0).erase 0)) (fun hHeld => ?_)
            clear hK K
            (try simp only [Act.put])
            refine wpAnyH_done (by kernel_rfl) ?_ _
            go_wp2_with fail
            go_meet
            exact ⟨P15, P16, rfl, rfl, HM.out.blk 3 rfl, HM.out.blk 2 rfl, HM.out.blk 0 rfl, HM.out.blk 1 rfl, HM.out.bel⟩
          · clear hHeld
            go_simp
            replace HM := Lib.hid (show Mem w [blkE wy3.heap.size 42 (pref0), blkE P16 42 (pref0), blkE PX 29 x.cells, blkE PA 29 a.cells] (wy3.alloc (.cells #[.bool false, .int .u8 0, .int .u8 0, .int .u8 0, .int .u8 0, .int .u8 0, .int .u8 0, .int .u8 0, .int .u8 0, .int .u8 0, .int .u8 0, .int .u8 0, .int .u8 0, .int .u8 0, .int .u8 0, .int .u8 0, .int .u8 0, .int .i64 0] 42)) from HM.out.alloc rfl 42 #[.bool false, .int .u8 0, .int .u8 0, .int .u8 0, .int .u8 0, .int .u8 0, .int .u8 0, .int .u8 0, .int .u8 0, .int .u8 0, .int .u8 0, .int .u8 0, .int .u8 0, .int .u8 0, .int .u8 0, .int .u8 0, .int .u8 0, .int .i64 0] (pref0) rfl)
            generalize wy3.alloc (.cells #[.bool false, .int .u8 0, .int .u8 0, .int .u8 0, .int .u8 0, .int .u8 0, .int .u8 0, .int .u8 0, .int .u8 0, .int .u8 0, .int .u8 0, .int .u8 0, .int .u8 0, .int .u8 0, .int .u8 0, .int .u8 0, .int .u8 0, .int .i64 0] 42) = wy4 at HM ⊢
            generalize wy3.heap.size = P15 at HM ⊢
            refine hK.out _ _ (((HM.out.erase 0).erase 0)) (fun hHeld => ?_)
            clear hK K
            (try simp only [Act.put, List.setIfInBounds_toArray, List.set_cons_zero, List.set_cons_succ])
            refine step_one 5 rfl (by kernel_rfl) (fun K hK => ?_)
            clear hHeld
            go_simp
            refine (HK2.out _).mono ?_
            rintro e wy5 ⟨rfl, hb⟩
            replace HM := Lib.hid (show Mem w [blkE P15 42 (pref0), blkE P16 42 (pref0), blkE PX 29 x.cells, blkE PA 29 a.cells] wy5 from HM.out.below hb)
            clear hb
            go_wp2_with fail
            refine hK.out _ _ (((HM.out.erase 0).erase 0)) (fun hHeld => ?_)
            clear hK K
            (try simp only [Act.put, List.setIfInBounds_toArray, List.set_cons_zero, List.set_cons_succ])
            refine step_one 8 rfl (by kernel_rfl) (fun K hK => ?_)
            clear hHeld
            refine step_store_blk _ rfl 42 (.tmp 15) (.tmp 63) rfl P15 (prefC (maskM a L) (L : Int)) rfl (by show Value.agg cp = _; rw [HPC.out.1]) 42 pref0 (HM.out.blk 0 rfl) (pref_cellsOf _ (maskM_ok a HAO.out L) _) (by rw [prefC_length _ (maskM_ok a HAO.out L)]; rfl) (prefC_one _ _) ?_
            intro wy6 hb hg
            replace HM := Lib.hid (show Mem w [blkE P15 42 (prefC (maskM a L) (L : Int)), blkE P16 42 (pref0), blkE PX 29 x.cells, blkE PA 29 a.cells] wy6 from HM.out.put 0 rfl _ hg hb)
            clear hb hg
            refine hK.out _ _ (((HM.out.erase 0).erase 0)) (fun hHeld => ?_)
            clear hK K
            (try simp only [Act.put])
            refine step_one 9 rfl (by kernel_rfl) (fun K hK => ?_)
            clear hHeld
            refine step_store_blk _ rfl 42 (.tmp 16) (.tmp 66) rfl P16 (prefC (maskM a S) (S : Int)) rfl (by show Value.agg cq = _; rw [HPC.out.2]) 42 pref0 (HM.out.blk 1 rfl) (pref_cellsOf _ (maskM_ok a HAO.out S) _) (by rw [prefC_length _ (maskM_ok a HAO.out S)]; rfl) (prefC_one _ _) ?_
            intro wy7 hb hg
            replace HM := Lib.hid (show Mem w [blkE P15 42 (prefC (maskM a L) (L : Int)), blkE P16 42 (prefC (maskM a S) (S : Int)), blkE PX 29 x.cells, blkE PA 29 a.cells] wy7 from HM.out.put 1 rfl _ hg hb)
            clear hb hg
            refine hK.out _ _ (((HM.out.erase 0).erase 0)) (fun hHeld => ?_)
            clear hK K
            (try simp only [Act.put])
            refine wpAnyH_done (by kernel_rfl) ?_ _
            go_wp2_with fail
            go_meet
            exact ⟨P15, P16, rfl, rfl, HM.out.blk 3 rfl, HM.out.blk 2 rfl, HM.out.blk 0 rfl, HM.out.blk 1 rfl, HM.out.bel⟩
        · clear hHeld
          go_simp
          replace HM := Lib.hid (show Mem w [blkE wy2.heap.size 42 (pref0), blkE P16 42 (pref0), blkE PX 29 x.cells, blkE PA 29 a.cells] (wy2.alloc (.cells #[.bool false, .int .u8 0, .int .u8 0, .int .u8 0, .int .u8 0, .int .u8 0, .int .u8 0, .int .u8 0, .int .u8 0, .int .u8 0, .int .u8 0, .int .u8 0, .int .u8 0, .int .u8 0, .int .u8 0, .int .u8 0, .int .u8 0, .int .i64 0] 42)) from HM.out.alloc rfl 42 #[.bool false, .int .u8 0, .int .u8 0, .int .u8 0, .int .u8 0, .int .u8 0, .int .u8 0, .int .u8 0, .int .u8 0, .int .u8 0, .int .u8 0, .int .u8 0, .int .u8 0, .int .u8 0, .int .u8 0, .int .u8 0, .int .u8 0, .int .i64 0] (pref0) rfl)
          generalize wy2.alloc (.cells #[.bool false, .int .u8 0, .int .u8 0, .int .u8 0, .int .u8 0, .int .u8 0, .int .u8 0, .int .u8 0, .int .u8 0, .int .u8 0, .int .u8 0, .int .u8 0, .int .u8 0, .int .u8 0, .int .u8 0, .int .u8 0, .int .u8 0, .int .i64 0] 42) = wy3 at HM ⊢
          generalize wy2.heap.size = P15 at HM ⊢
          refine hK.out _ _ (((HM.out.erase 0).erase 0)) (fun hHeld => ?_)
          clear hK K
          (try simp only [Act.put, List.setIfInBounds_toArray, List.set_cons_zero, List.set_cons_succ])
          refine step_one 2 rfl (by kernel_rfl) (fun K hK => ?_)
          clear hHeld
          go_simp
          refine (HK1.out _).mono ?_
          rintro e wy4 ⟨rfl, hb⟩
          replace HM := Lib.hid (show Mem w [blkE P15 42 (pref0), blkE P16 42 (pref0), blkE PX 29 x.cells, blkE PA 29 a.cells] wy4 from HM.out.below hb)
          clear hb
          go_wp2_with fail
          refine hK.out _ _ (((HM.out.erase 0).erase 0)) (fun hHeld => ?_)
          clear hK K
          (try simp only [Act.put, List.setIfInBounds_toArray, List.set_cons_zero, List.set_cons_succ])
          refine step_one 5 rfl (by kernel_rfl) (fun K hK => ?_)
          clear hHeld
          go_simp
          refine (HK2.out _).mono ?_
          rintro e wy5 ⟨rfl, hb⟩
          replace HM := Lib.hid (show Mem w [blkE P15 42 (pref0), blkE P16 42 (pref0), blkE PX 29 x.cells, blkE PA 29 a.cells] wy5 from HM.out.below hb)
          clear hb
          go_wp2_with fail
          refine hK.out _ _ (((HM.out.erase 0).erase 0)) (fun hHeld => ?_)
          clear hK K
          (try simp only [Act.put, List.setIfInBounds_toArray, List.set_cons_zero, List.set_cons_succ])
          refine step_one 8 rfl (by kernel_rfl) (fun K hK => ?_)
          clear hHeld
          refine step_store_blk _ rfl 42 (.tmp 15) (.tmp 63) rfl P15 (prefC (maskM a L) (L : Int)) rfl (by show Value.agg cp = _; rw [HPC.out.1]) 42 pref0 (HM.out.blk 0 rfl) (pref_cellsOf _ (maskM_ok a HAO.out L) _) (by rw [prefC_length _ (maskM_ok a HAO.out L)]; rfl) (prefC_one _ _) ?_
          intro wy6 hb hg
          replace HM := Lib.hid (show Mem w [blkE P15 42 (prefC (maskM a L) (L : Int)), blkE P16 42 (pref0), blkE PX 29 x.cells, blkE PA 29 a.cells] wy6 from HM.out.put 0 rfl _ hg hb)
          clear hb hg
          refine hK.out _ _ (((HM.out.erase 0).erase 0)) (fun hHeld => ?_)
          clear hK K
          (try simp only [Act.put])
          refine step_one 9 rfl (by kernel_rfl) (fun K hK => ?_)
          clear hHeld
          refine step_store_blk _ rfl 42 (.tmp 16) (.tmp 66) rfl P16 (prefC (maskM a S) (S : Int)) rfl (by show Value.agg cq = _; rw [HPC.out.2]) 42 pref0 (HM.out.blk 1 rfl) (pref_cellsOf _ (maskM_ok a HAO.out S) _) (by rw [prefC_length _ (maskM_ok a HAO.out S)]; rfl) (prefC_one _ _) ?_
          intro wy7 hb hg
          replace HM := Lib.hid (show Mem w [blkE P15 42 (prefC (maskM a L) (L : Int)), blkE P16 42 (prefC (maskM a S) (S : Int)), blkE PX 29 x.cells, blkE PA 29 a.cells] wy7 from HM.out.put 1 rfl _ hg hb)
          clear hb hg
          refine hK.out _ _ (((HM.out.erase 0).erase 0)) (fun hHeld => ?_)
          clear hK K
          (try simp only [Act.put])
          refine wpAnyH_done (by kernel_rfl) ?_ _
          go_wp2_with fail
          go_meet
          exact ⟨P15, P16, rfl, rfl, HM.out.blk 3 rfl, HM.out.blk 2 rfl, HM.out.blk 0 rfl, HM.out.blk 1 rfl, HM.out.bel⟩
    case rest =>
    clear HM
    revert wc
    intro wb2 hcut
    obtain ⟨P15, P16, rfl, rfl, hcut⟩ := hcut
    have HB := Lib.hid hcut
    clear hcut
    go_wp2_with (first | (refine wpList_load_obj_g (by rfl) 42 (.tmp 15) rfl P15 0 rfl (prefC (maskM a L) (L : Int)) (HB.out.2.2.1.all) _ Try.underlying42 rfl (pref_cellsOf _ (maskM_ok a HAO.out L) _) ?_; rw [HPC.out.1]) | (refine wpList_load_obj_g (by rfl) 42 (.tmp 16) rfl P16 0 rfl (prefC (maskM a S) (S : Int)) (HB.out.2.2.2.1.all) _ Try.underlying42 rfl (pref_cellsOf _ (maskM_ok a HAO.out S) _) ?_; rw [HPC.out.2]) | (refine wpList_load_obj_g (by rfl) 29 (.tmp 10) rfl PA 0 rfl a.cells (HB.out.1.all) _ Try.underlying29 rfl HCO.out ?_; rw [HCA.out]) | (refine wpList_load_obj_g (by rfl) 29 (.tmp 14) rfl PX 0 rfl x.cells (HB.out.2.1.all) _ Try.underlying29 rfl HCOX.out ?_; rw [HCX.out]))
    refine (HV1.out _).mono ?_
    rintro e wc0 ⟨rfl, hb⟩
    replace HB := Lib.hid (show (Blk wc0 PA 29 a.cells ∧ Blk wc0 PX 29 x.cells ∧ Blk wc0 P15 42 (prefC (maskM a L) (L : Int)) ∧ Blk wc0 P16 42 (prefC (maskM a S) (S : Int)) ∧ Below w.heap.size w wc0) from ⟨HB.out.1.below hb HB.out.1.lt, HB.out.2.1.below hb HB.out.2.1.lt, HB.out.2.2.1.below hb HB.out.2.2.1.lt, HB.out.2.2.2.1.below hb HB.out.2.2.2.1.lt, HB.out.2.2.2.2.trans (hb.mono HB.out.2.2.2.2.size)⟩)
    clear hb
    go_wp2_with (first | (refine wpList_load_obj_g (by rfl) 42 (.tmp 15) rfl P15 0 rfl (prefC (maskM a L) (L : Int)) (HB.out.2.2.1.all) _ Try.underlying42 rfl (pref_cellsOf _ (maskM_ok a HAO.out L) _) ?_; rw [HPC.out.1]) | (refine wpList_load_obj_g (by rfl) 42 (.tmp 16) rfl P16 0 rfl (prefC (maskM a S) (S : Int)) (HB.out.2.2.2.1.all) _ Try.underlying42 rfl (pref_cellsOf _ (maskM_ok a HAO.out S) _) ?_; rw [HPC.out.2]) | (refine wpList_load_obj_g (by rfl) 29 (.tmp 10) rfl PA 0 rfl a.cells (HB.out.1.all) _ Try.underlying29 rfl HCO.out ?_; rw [HCA.out]) | (refine wpList_load_obj_g (by rfl) 29 (.tmp 14) rfl PX 0 rfl x.cells (HB.out.2.1.all) _ Try.underlying29 rfl HCOX.out ?_; rw [HCX.out]))
    refine (HV2.out _).mono ?_
    rintro e wc1 ⟨rfl, hb⟩
    replace HB := Lib.hid (show (Blk wc1 PA 29 a.cells ∧ Blk wc1 PX 29 x.cells ∧ Blk wc1 P15 42 (prefC (maskM a L) (L : Int)) ∧ Blk wc1 P16 42 (prefC (maskM a S) (S : Int)) ∧ Below w.heap.size w wc1) from ⟨HB.out.1.below hb HB.out.1.lt, HB.out.2.1.below hb HB.out.2.1.lt, HB.out.2.2.1.below hb HB.out.2.2.1.lt, HB.out.2.2.2.1.below hb HB.out.2.2.2.1.lt, HB.out.2.2.2.2.trans (hb.mono HB.out.2.2.2.2.size)⟩)
    clear hb
    go_wp2_with (first | (refine wpList_load_obj_g (by rfl) 42 (.tmp 15) rfl P15 0 rfl (prefC (maskM a L) (L : Int)) (HB.out.2.2.1.all) _ Try.underlying42 rfl (pref_cellsOf _ (maskM_ok a HAO.out L) _) ?_; rw [HPC.out.1]) | (refine wpList_load_obj_g (by rfl) 42 (.tmp 16) rfl P16 0 rfl (prefC (maskM a S) (S : Int)) (HB.out.2.2.2.1.all) _ Try.underlying42 rfl (pref_cellsOf _ (maskM_ok a HAO.out S) _) ?_; rw [HPC.out.2]) | (refine wpList_load_obj_g (by rfl) 29 (.tmp 10) rfl PA 0 rfl a.cells (HB.out.1.all) _ Try.underlying29 rfl HCO.out ?_; rw [HCA.out]) | (refine wpList_load_obj_g (by rfl) 29 (.tmp 14) rfl PX 0 rfl x.cells (HB.out.2.1.all) _ Try.underlying29 rfl HCOX.out ?_; rw [HCX.out]))
    refine (HC1.out _).mono ?_
    rintro e wc2 ⟨rfl, hb⟩
    replace HB := Lib.hid (show (Blk wc2 PA 29 a.cells ∧ Blk wc2 PX 29 x.cells ∧ Blk wc2 P15 42 (prefC (maskM a L) (L : Int)) ∧ Blk wc2 P16 42 (prefC (maskM a S) (S : Int)) ∧ Below w.heap.size w wc2) from ⟨HB.out.1.below hb HB.out.1.lt, HB.out.2.1.below hb HB.out.2.1.lt, HB.out.2.2.1.below hb HB.out.2.2.1.lt, HB.out.2.2.2.1.below hb HB.out.2.2.2.1.lt, HB.out.2.2.2.2.trans (hb.mono HB.out.2.2.2.2.size)⟩)
    clear hb
    go_wp2_with (first | (refine wpList_load_obj_g (by rfl) 42 (.tmp 15) rfl P15 0 rfl (prefC (maskM a L) (L : Int)) (HB.out.2.2.1.all) _ Try.underlying42 rfl (pref_cellsOf _ (maskM_ok a HAO.out L) _) ?_; rw [HPC.out.1]) | (refine wpList_load_obj_g (by rfl) 42 (.tmp 16) rfl P16 0 rfl (prefC (maskM a S) (S : Int)) (HB.out.2.2.2.1.all) _ Try.underlying42 rfl (pref_cellsOf _ (maskM_ok a HAO.out S) _) ?_; rw [HPC.out.2]) | (refine wpList_load_obj_g (by rfl) 29 (.tmp 10) rfl PA 0 rfl a.cells (HB.out.1.all) _ Try.underlying29 rfl HCO.out ?_; rw [HCA.out]) | (refine wpList_load_obj_g (by rfl) 29 (.tmp 14) rfl PX 0 rfl x.cells (HB.out.2.1.all) _ Try.underlying29 rfl HCOX.out ?_; rw [HCX.out]))
    refine (HC2.out _).mono ?_
    rintro e wc3 ⟨rfl, hb⟩
    replace HB := Lib.hid (show (Blk wc3 PA 29 a.cells ∧ Blk wc3 PX 29 x.cells ∧ Blk wc3 P15 42 (prefC (maskM a L) (L : Int)) ∧ Blk wc3 P16 42 (prefC (maskM a S) (S : Int)) ∧ Below w.heap.size w wc3) from ⟨HB.out.1.below hb HB.out.1.lt, HB.out.2.1.below hb HB.out.2.1.lt, HB.out.2.2.1.below hb HB.out.2.2.1.lt, HB.out.2.2.2.1.below hb HB.out.2.2.2.1.lt, HB.out.2.2.2.2.trans (hb.mono HB.out.2.2.2.2.size)⟩)
    clear hb
    go_wp2_with (first | (refine wpList_load_obj_g (by rfl) 42 (.tmp 15) rfl P15 0 rfl (prefC (maskM a L) (L : Int)) (HB.out.2.2.1.all) _ Try.underlying42 rfl (pref_cellsOf _ (maskM_ok a HAO.out L) _) ?_; rw [HPC.out.1]) | (refine wpList_load_obj_g (by rfl) 42 (.tmp 16) rfl P16 0 rfl (prefC (maskM a S) (S : Int)) (HB.out.2.2.2.1.all) _ Try.underlying42 rfl (pref_cellsOf _ (maskM_ok a HAO.out S) _) ?_; rw [HPC.out.2]) | (refine wpList_load_obj_g (by rfl) 29 (.tmp 10) rfl PA 0 rfl a.cells (HB.out.1.all) _ Try.underlying29 rfl HCO.out ?_; rw [HCA.out]) | (refine wpList_load_obj_g (by rfl) 29 (.tmp 14) rfl PX 0 rfl x.cells (HB.out.2.1.all) _ Try.underlying29 rfl HCOX.out ?_; rw [HCX.out]))
    refine (HC3.out _).mono ?_
    rintro e wc4 ⟨rfl, hb⟩
    replace HB := Lib.hid (show (Blk wc4 PA 29 a.cells ∧ Blk wc4 PX 29 x.cells ∧ Blk wc4 P15 42 (prefC (maskM a L) (L : Int)) ∧ Blk wc4 P16 42 (prefC (maskM a S) (S : Int)) ∧ Below w.heap.size w wc4) from ⟨HB.out.1.below hb HB.out.1.lt, HB.out.2.1.below hb HB.out.2.1.lt, HB.out.2.2.1.below hb HB.out.2.2.1.lt, HB.out.2.2.2.1.below hb HB.out.2.2.2.1.lt, HB.out.2.2.2.2.trans (hb.mono HB.out.2.2.2.2.size)⟩)
    clear hb
    cases b3 with
    | true =>
      obtain rfl : b4 = true := HNE.out rfl
      go_wp2_with (first | (refine wpList_load_obj_g (by rfl) 42 (.tmp 15) rfl P15 0 rfl (prefC (maskM a L) (L : Int)) (HB.out.2.2.1.all) _ Try.underlying42 rfl (pref_cellsOf _ (maskM_ok a HAO.out L) _) ?_; rw [HPC.out.1]) | (refine wpList_load_obj_g (by rfl) 42 (.tmp 16) rfl P16 0 rfl (prefC (maskM a S) (S : Int)) (HB.out.2.2.2.1.all) _ Try.underlying42 rfl (pref_cellsOf _ (maskM_ok a HAO.out S) _) ?_; rw [HPC.out.2]) | (refine wpList_load_obj_g (by rfl) 29 (.tmp 10) rfl PA 0 rfl a.cells (HB.out.1.all) _ Try.underlying29 rfl HCO.out ?_; rw [HCA.out]) | (refine wpList_load_obj_g (by rfl) 29 (.tmp 14) rfl PX 0 rfl x.cells (HB.out.2.1.all) _ Try.underlying29 rfl HCOX.out ?_; rw [HCX.out]))
      refine (HC4.out _).mono ?_
      rintro e wc5 ⟨rfl, hb⟩
      replace HB := Lib.hid (show (Blk wc5 PA 29 a.cells ∧ Blk wc5 PX 29 x.cells ∧ Blk wc5 P15 42 (prefC (maskM a L) (L : Int)) ∧ Blk wc5 P16 42 (prefC (maskM a S) (S : Int)) ∧ Below w.heap.size w wc5) from ⟨HB.out.1.below hb HB.out.1.lt, HB.out.2.1.below hb HB.out.2.1.lt, HB.out.2.2.1.below hb HB.out.2.2.1.lt, HB.out.2.2.2.1.below hb HB.out.2.2.2.1.lt, HB.out.2.2.2.2.trans (hb.mono HB.out.2.2.2.2.size)⟩)
      clear hb
      go_wp2_with (first | (refine wpList_load_obj_g (by rfl) 42 (.tmp 15) rfl P15 0 rfl (prefC (maskM a L) (L : Int)) (HB.out.2.2.1.all) _ Try.underlying42 rfl (pref_cellsOf _ (maskM_ok a HAO.out L) _) ?_; rw [HPC.out.1]) | (refine wpList_load_obj_g (by rfl) 42 (.tmp 16) rfl P16 0 rfl (prefC (maskM a S) (S : Int)) (HB.out.2.2.2.1.all) _ Try.underlying42 rfl (pref_cellsOf _ (maskM_ok a HAO.out S) _) ?_; rw [HPC.out.2]) | (refine wpList_load_obj_g (by rfl) 29 (.tmp 10) rfl PA 0 rfl a.cells (HB.out.1.all) _ Try.underlying29 rfl HCO.out ?_; rw [HCA.out]) | (refine wpList_load_obj_g (by rfl) 29 (.tmp 14) rfl PX 0 rfl x.cells (HB.out.2.1.all) _ Try.underlying29 rfl HCOX.out ?_; rw [HCX.out]))
      refine (HBG.out _).mono ?_
      rintro e wc6 ⟨rfl, hb⟩
      replace HB := Lib.hid (show (Blk wc6 PA 29 a.cells ∧ Blk wc6 PX 29 x.cells ∧ Blk wc6 P15 42 (prefC (maskM a L) (L : Int)) ∧ Blk wc6 P16 42 (prefC (maskM a S) (S : Int)) ∧ Below w.heap.size w wc6) from ⟨HB.out.1.below hb HB.out.1.lt, HB.out.2.1.below hb HB.out.2.1.lt, HB.out.2.2.1.below hb HB.out.2.2.1.lt, HB.out.2.2.2.1.below hb HB.out.2.2.2.1.lt, HB.out.2.2.2.2.trans (hb.mono HB.out.2.2.2.2.size)⟩)
      clear hb
      go_wp2_with (first | (refine wpList_load_obj_g (by rfl) 42 (.tmp 15) rfl P15 0 rfl (prefC (maskM a L) (L : Int)) (HB.out.2.2.1.all) _ Try.underlying42 rfl (pref_cellsOf _ (maskM_ok a HAO.out L) _) ?_; rw [HPC.out.1]) | (refine wpList_load_obj_g (by rfl) 42 (.tmp 16) rfl P16 0 rfl (prefC (maskM a S) (S : Int)) (HB.out.2.2.2.1.all) _ Try.underlying42 rfl (pref_cellsOf _ (maskM_ok a HAO.out S) _) ?_; rw [HPC.out.2]) | (refine wpList_load_obj_g (by rfl) 29 (.tmp 10) rfl PA 0 rfl a.cells (HB.out.1.all) _ Try.underlying29 rfl HCO.out ?_; rw [HCA.out]) | (refine wpList_load_obj_g (by rfl) 29 (.tmp 14) rfl PX 0 rfl x.cells (HB.out.2.1.all) _ Try.underlying29 rfl HCOX.out ?_; rw [HCX.out]))
      go_ret
      exact ⟨rfl, HB.out.2.2.2.2⟩
    | false =>
      go_wp2_with (first | (refine wpList_load_obj_g (by rfl) 42 (.tmp 15) rfl P15 0 rfl (prefC (maskM a L) (L : Int)) (HB.out.2.2.1.all) _ Try.underlying42 rfl (pref_cellsOf _ (maskM_ok a HAO.out L) _) ?_; rw [HPC.out.1]) | (refine wpList_load_obj_g (by rfl) 42 (.tmp 16) rfl P16 0 rfl (prefC (maskM a S) (S : Int)) (HB.out.2.2.2.1.all) _ Try.underlying42 rfl (pref_cellsOf _ (maskM_ok a HAO.out S) _) ?_; rw [HPC.out.2]) | (refine wpList_load_obj_g (by rfl) 29 (.tmp 10) rfl PA 0 rfl a.cells (HB.out.1.all) _ Try.underlying29 rfl HCO.out ?_; rw [HCA.out]) | (refine wpList_load_obj_g (by rfl) 29 (.tmp 14) rfl PX 0 rfl x.cells (HB.out.2.1.all) _ Try.underlying29 rfl HCOX.out ?_; rw [HCX.out]))
      refine (HBG.out _).mono ?_
      rintro e wc6 ⟨rfl, hb⟩
      replace HB := Lib.hid (show (Blk wc6 PA 29 a.cells ∧ Blk wc6 PX 29 x.cells ∧ Blk wc6 P15 42 (prefC (maskM a L) (L : Int)) ∧ Blk wc6 P16 42 (prefC (maskM a S) (S : Int)) ∧ Below w.heap.size w wc6) from ⟨HB.out.1.below hb HB.out.1.lt, HB.out.2.1.below hb HB.out.2.1.lt, HB.out.2.2.1.below hb HB.out.2.2.1.lt, HB.out.2.2.2.1.below hb HB.out.2.2.2.1.lt, HB.out.2.2.2.2.trans (hb.mono HB.out.2.2.2.2.size)⟩)
      clear hb
      go_wp2_with (first | (refine wpList_load_obj_g (by rfl) 42 (.tmp 15) rfl P15 0 rfl (prefC (maskM a L) (L : Int)) (HB.out.2.2.1.all) _ Try.underlying42 rfl (pref_cellsOf _ (maskM_ok a HAO.out L) _) ?_; rw [HPC.out.1]) | (refine wpList_load_obj_g (by rfl) 42 (.tmp 16) rfl P16 0 rfl (prefC (maskM a S) (S : Int)) (HB.out.2.2.2.1.all) _ Try.underlying42 rfl (pref_cellsOf _ (maskM_ok a HAO.out S) _) ?_; rw [HPC.out.2]) | (refine wpList_load_obj_g (by rfl) 29 (.tmp 10) rfl PA 0 rfl a.cells (HB.out.1.all) _ Try.underlying29 rfl HCO.out ?_; rw [HCA.out]) | (refine wpList_load_obj_g (by rfl) 29 (.tmp 14) rfl PX 0 rfl x.cells (HB.out.2.1.all) _ Try.underlying29 rfl HCOX.out ?_; rw [HCX.out]))
      go_ret
      exact ⟨rfl, HB.out.2.2.2.2⟩
  | false =>
    have HWI := Lib.hid (show widthM a = 32 by rw [widthM, HSX.out]; rfl)
    obtain ⟨L, hL⟩ : ∃ L, long % 33 = L := ⟨_, rfl⟩
    have hLn : L ≤ 32 := by omega
    have hLI : (long : Int) % 33 = (L : Int) := by omega
    obtain ⟨L1, hL1⟩ : ∃ q, L + 1 = q := ⟨_, rfl⟩
    have hw1 : IntKind.i64.wrap ((L : Int) + 1) = (L1 : Int) := by rw [IntWalk.i64_in _ (by omega)]; omega
    obtain ⟨S, hS⟩ : ∃ L, short % L1 = L := ⟨_, rfl⟩
    have hSL : S ≤ L := by have := Nat.mod_lt short (show 0 < L1 by omega); omega
    have hSI : (short : Int) % (L1 : Int) = (S : Int) := by rw [← hS, Int.natCast_emod]
    go_upto_region 8 with fail
    rw [hLI, hSI]
    clear hLI hSI hw1
    have HA := Lib.hid (show Mem w [blkE w4.heap.size 29 addr0.cells, blkE PA 29 a.cells] (w4.alloc (.cells #[.bool false, .int .u8 0, .int .u8 0, .int .u8 0, .int .u8 0, .int .u8 0, .int .u8 0, .int .u8 0, .int .u8 0, .int .u8 0, .int .u8 0, .int .u8 0, .int .u8 0, .int .u8 0, .int .u8 0, .int .u8 0, .int .u8 0] 29)) from HM.out.alloc rfl 29 #[.bool false, .int .u8 0, .int .u8 0, .int .u8 0, .int .u8 0, .int .u8 0, .int .u8 0, .int .u8 0, .int .u8 0, .int .u8 0, .int .u8 0, .int .u8 0, .int .u8 0, .int .u8 0, .int .u8 0, .int .u8 0, .int .u8 0] addr0.cells rfl)
    go_upto_region 9 with (first | (refine wpList_load_obj rfl 29 (.tmp 10) rfl PA 0 rfl a.cells (HM.out.blk 0 rfl).all _ Try.underlying29 rfl HCO.out ?_; rw [HCA.out]) | (refine wpList_store_blk rfl 29 (.tmp 14) (.tmp 33) rfl w4.heap.size a.cells rfl (by show Value.agg ca = _; rw [HCA.out]) 29 addr0.cells (HA.out.blk 0 rfl) HCO.out (by rw [HAL.out]; rfl) (AddrM.one _) ?_; intro w5 hb hg))
    (try simp only [Act.put])
    replace HM := Lib.hid (show Mem w [blkE w4.heap.size 29 a.cells, blkE PA 29 a.cells] w5 from HA.out.put 0 rfl _ hg hb)
    clear HA hb hg
    generalize w4.heap.size = PX at HM ⊢
    obtain ⟨q, hq⟩ : ∃ q, other / 8 % 16 = q := ⟨_, rfl⟩
    have hqI : (other : Int) / 8 % 16 = (q : Int) := by omega
    have hqb : (q : Int) < 16 := by omega
    have hq16 : q < 16 := by omega
    have fx := ((HM.out.blk 0 rfl).cell (1 + q)).trans (AddrM.ip_cell a HAO.out q hq16)
    have zx := (HM.out.blk 0 rfl).frozen (1 + q)
    have hset := AddrM.set_cell a q
    generalize hx : a.ip.getD q 0 = x at fx
    have hoI : (other : Int) / 256 = ((other / 256 : Nat) : Int) := by omega
    have hov := codeByte_wrap (other / 256)
    generalize other / 256 = o9 at hoI hov
    generalize UInt8.ofNat o9 = v at hov
    have hxor := xor_bits x v
    generalize x ^^^ v = y at hxor
    have HN2 := Lib.hid (show Mem w [blkE PX 29 (AddrM.mk a.six (a.ip.set q y)).cells, blkE PA 29 a.cells] (w5.setCell ⟨PX, 1 + q, none⟩ (.int .u8 (y.toNat : Int))) from by have h := HM.out.setCell 0 rfl (1 + q) (u8v y); rw [hset] at h; exact h)
    clear hset
    go_upto_region 10 with fail
    generalize w5.setCell ⟨PX, 1 + q, none⟩ (.int .u8 (y.toNat : Int)) = w6 at HN2 ⊢
    replace HM := Lib.hid HN2.out
    clear HN2 fx zx f6 hx hxor hov hoI hq hqI hqb
    have f6 := (HM.out.blk 1 rfl).cell 0
    rw [show a.cells[0]? = some (.bool a.six) from rfl, HSX.out] at f6
    have hl1 : ∀ z : AddrM, z.ok → z.cells.length = a.cells.length := fun z hz => by rw [AddrM.cells_length hz, HAL.out]
    have HAL2 := Lib.hid (hl1 (AddrM.mk a.six (a.ip.set q y)) (by show (a.ip.set q y).length = 16; rw [List.length_set]; exact HAO.out))
    generalize (AddrM.mk a.six (a.ip.set q y)).cells = oc at HM HAL2
    clear hl1
    go_upto_region 11 with fail
    go_upto_region 12 with (first | (refine wpList_load_obj rfl 29 (.tmp 10) rfl PA 0 rfl a.cells (HM.out.blk 1 rfl).all _ Try.underlying29 rfl HCO.out ?_; rw [HCA.out]) | (refine wpList_store_blk rfl 29 (.tmp 14) (.tmp 49) rfl PX a.cells rfl (by show Value.agg ca = _; rw [HCA.out]) 29 oc (HM.out.blk 0 rfl) HCO.out (by rw [HAL2.out]) (AddrM.one _) ?_; intro w8 hb hg))
    (try simp only [Act.put])
    replace HM := Lib.hid (show Mem w [blkE PX 29 a.cells, blkE PA 29 a.cells] w8 from HM.out.put 0 rfl _ hg hb)
    clear hb hg HAL2 f6 hq16
    obtain ⟨q, hq⟩ : ∃ q, other % 4 = q := ⟨_, rfl⟩
    have hqI : (other : Int) % 4 = (q : Int) := by omega
    have hqb : (q : Int) < 4 := by omega
    have hq16 : q < 16 := by omega
    have fx := ((HM.out.blk 0 rfl).cell (1 + q)).trans (AddrM.ip_cell a HAO.out q hq16)
    have zx := (HM.out.blk 0 rfl).frozen (1 + q)
    have hset := AddrM.set_cell a q
    generalize hx : a.ip.getD q 0 = x at fx
    have hoI : (other : Int) / 256 = ((other / 256 : Nat) : Int) := by omega
    have hov := codeByte_wrap (other / 256)
    generalize other / 256 = o9 at hoI hov
    generalize UInt8.ofNat o9 = v at hov
    have hxor := xor_bits x v
    generalize x ^^^ v = y at hxor
    have HN2 := Lib.hid (show Mem w [blkE PX 29 (AddrM.mk a.six (a.ip.set q y)).cells, blkE PA 29 a.cells] (w8.setCell ⟨PX, 1 + q, none⟩ (.int .u8 (y.toNat : Int))) from by have h := HM.out.setCell 0 rfl (1 + q) (u8v y); rw [hset] at h; exact h)
    clear hset
    go_upto_region 13 with fail
    generalize w8.setCell ⟨PX, 1 + q, none⟩ (.int .u8 (y.toNat : Int)) = w9 at HN2 ⊢
    replace HM := Lib.hid HN2.out
    have hxo : (AddrM.mk a.six (a.ip.set q y)).ok := by show (a.ip.set q y).length = 16; rw [List.length_set]; exact HAO.out
    have hxs : soundM (AddrM.mk a.six (a.ip.set q y)) = true := sound_set a HSO.out q y (by omega)
    have hx6 : (AddrM.mk a.six (a.ip.set q y)).six = a.six := rfl
    clear HN2 fx zx hx hxor hov hoI hq hqI hqb
    have f6 := (HM.out.blk 1 rfl).cell 0
    have HXF := Lib.hid (And.intro hxo (And.intro hxs hx6))
    clear hxo hxs hx6
    obtain ⟨x, hx⟩ : ∃ z, AddrM.mk a.six (a.ip.set q y) = z := ⟨_, rfl⟩
    rw [hx] at HM HXF
    clear hx f6
    have HLS := Lib.hid (show L ≤ widthM a ∧ S ≤ L ∧ L ≤ 128 from by have := HWI.out; omega)
    clear hLn hL hL1 hS hSL
    generalize w9 = wb at HM ⊢
    obtain ⟨cp, hcp⟩ : ∃ z, (prefC (maskM a L) (L : Int)).toArray = z := ⟨_, rfl⟩
    obtain ⟨cq, hcq⟩ : ∃ z, (prefC (maskM a S) (S : Int)).toArray = z := ⟨_, rfl⟩
    obtain ⟨cx, hcx⟩ : ∃ z, x.cells.toArray = z := ⟨_, rfl⟩
    have hLw := HLS.out.1
    have hSL := HLS.out.2.1
    have hL8 := HLS.out.2.2
    have HK1 := Lib.hid (caseMasked_any a HAO.out L hL8)
    have HK2 := Lib.hid (caseMasked_any a HAO.out S (by omega))
    rw [HCA.out, hcp] at HK1
    rw [HCA.out, hcq] at HK2
    have HV1 := Lib.hid (HV.out (maskM a L) (L : Int) (maskM_ok a HAO.out L) (by omega) (by omega))
    have HV2 := Lib.hid (HV.out (maskM a S) (S : Int) (maskM_ok a HAO.out S) (by omega) (by omega))
    have HC1 := Lib.hid (HN.out (maskM a L) (L : Int) (maskM_ok a HAO.out L) (by omega) (by omega) a HAO.out)
    have HC2 := Lib.hid (HN.out (maskM a S) (S : Int) (maskM_ok a HAO.out S) (by omega) (by omega) a HAO.out)
    have HC3 := Lib.hid (HN.out (maskM a L) (L : Int) (maskM_ok a HAO.out L) (by omega) (by omega) x HXF.out.1)
    have HC4 := Lib.hid (HN.out (maskM a S) (S : Int) (maskM_ok a HAO.out S) (by omega) (by omega) x HXF.out.1)
    rw [hcp, mask_valid a HAO.out L hLw HSO.out] at HV1
    rw [hcq, mask_valid a HAO.out S (by omega) HSO.out] at HV2
    rw [hcp, HCA.out, (mask_contains a a HAO.out L hLw HSO.out HSO.out rfl).2 (fun _ _ => rfl)] at HC1
    rw [hcq, HCA.out, (mask_contains a a HAO.out S (by omega) HSO.out HSO.out rfl).2 (fun _ _ => rfl)] at HC2
    rw [hcp, hcx] at HC3
    rw [hcq, hcx] at HC4
    have hnest := mask_nests a x HAO.out S L hSL hLw HSO.out HXF.out.2.1 HXF.out.2.2
    generalize containsM (maskM a L) (L : Int) x = b3 at HC3 hnest
    generalize containsM (maskM a S) (S : Int) x = b4 at HC4 hnest
    have HNE := Lib.hid hnest
    have HPC := Lib.hid (And.intro hcp hcq)
    have HCX := Lib.hid hcx
    have HCOX := Lib.hid (addr_cellsOf _ HXF.out.1)
    clear hcp hcq hcx hLw hSL hL8 hnest
    go_cut [15, 16] (fun p' q' wx => ∃ P15 P16, p' = .pointer (some ⟨P15, 0, none⟩) ∧ q' = .pointer (some ⟨P16, 0, none⟩) ∧ (Blk wx PA 29 a.cells ∧ Blk wx PX 29 x.cells ∧ Blk wx P15 42 (prefC (maskM a L) (L : Int)) ∧ Blk wx P16 42 (prefC (maskM a S) (S : Int)) ∧ Below w.heap.size w wx))
    case first =>
      refine wp_region_held_drew (S := fun W' => Mem w [blkE PX 29 x.cells, blkE PA 29 a.cells] W') (by kernel_rfl) ((HM.out).drew) (fun hHeld => ?_)
      replace HM := Lib.hid HM.out.drew
      generalize wb.drew = wd1 at HM hHeld ⊢
      refine take_first (v := .agg ca) 0 rfl (by kernel_rfl) (by kernel_rfl) (by kernel_rfl) (fun _ _ _ h => h) (by rw [← HCA.out]; exact yields_load_obj (by rfl) 29 (.tmp 10) rfl PA 0 rfl a.cells (fun w' hb => (Mem.blk hb 1 rfl).all) _ Try.underlying29 rfl HCO.out) (by assumption) ?_
      (try simp only [Act.put, List.setIfInBounds_toArray, List.set_cons_zero, List.set_cons_succ])
      refine take_first (v := ?_) 1 rfl (by kernel_rfl) (by kernel_rfl) (by kernel_rfl) (fun _ _ _ h => h) (Or.inl ⟨by rfl, ?_⟩) (by assumption) ?_
      rotate_left
      · (intro w hSw; (try dsimp only at hSw); go_simp; try with_reducible rfl)
      (try simp only [Act.put, List.setIfInBounds_toArray, List.set_cons_zero, List.set_cons_succ])
      refine take_first (v := .agg ca) 3 rfl (by kernel_rfl) (by kernel_rfl) (by kernel_rfl) (fun _ _ _ h => h) (by rw [← HCA.out]; exact yields_load_obj (by rfl) 29 (.tmp 10) rfl PA 0 rfl a.cells (fun w' hb => (Mem.blk hb 1 rfl).all) _ Try.underlying29 rfl HCO.out) (by assumption) ?_
      (try simp only [Act.put, List.setIfInBounds_toArray, List.set_cons_zero, List.set_cons_succ])
      refine take_first (v := ?_) 4 rfl (by kernel_rfl) (by kernel_rfl) (by kernel_rfl) (fun _ _ _ h => h) (Or.inl ⟨by rfl, ?_⟩) (by assumption) ?_
      rotate_left
      · (intro w hSw; (try dsimp only at hSw); go_simp; try with_reducible rfl)
      (try simp only [Act.put, List.setIfInBounds_toArray, List.set_cons_zero, List.set_cons_succ])
      refine step_three 2 6 7 rfl rfl rfl (by kernel_rfl) (fun K hK => ?_) (fun K hK => ?_) (fun K hK => ?_)
      · clear hHeld
        go_simp
        refine (HK1.out _).mono ?_
        rintro e wy2 ⟨rfl, hb⟩
        replace HM := Lib.hid (show Mem w [blkE PX 29 x.cells, blkE PA 29 a.cells] wy2 from HM.out.below hb)
        clear hb
        go_wp2_with fail
        refine hK.out _ _ (HM.out) (fun hHeld => ?_)
        clear hK K
        (try simp only [Act.put, List.setIfInBounds_toArray, List.set_cons_zero, List.set_cons_succ])
        refine step_three 5 6 7 rfl rfl rfl (by kernel_rfl) (fun K hK => ?_) (fun K hK => ?_) (fun K hK => ?_)
        · clear hHeld
          go_simp
          refine (HK2.out _).mono ?_
          rintro e wy3 ⟨rfl, hb⟩
          replace HM := Lib.hid (show Mem w [blkE PX 29 x.cells, blkE PA 29 a.cells] wy3 from HM.out.below hb)
          clear hb
          go_wp2_with fail
          refine hK.out _ _ (HM.out) (fun hHeld => ?_)
          clear hK K
          (try simp only [Act.put, List.setIfInBounds_toArray, List.set_cons_zero, List.set_cons_succ])
          refine step_two 6 7 rfl rfl (by kernel_rfl) (fun K hK => ?_) (fun K hK => ?_)
          · clear hHeld
            go_simp
            replace HM := Lib.hid (show Mem w [blkE wy3.heap.size 42 (pref0), blkE PX 29 x.cells, blkE PA 29 a.cells] (wy3.alloc (.cells #[.bool false, .int .u8 0, .int .u8 0, .int .u8 0, .int .u8 0, .int .u8 0, .int .u8 0, .int .u8 0, .int .u8 0, .int .u8 0, .int .u8 0, .int .u8 0, .int .u8 0, .int .u8 0, .int .u8 0, .int .u8 0, .int .u8 0, .int .i64 0] 42)) from HM.out.alloc rfl 42 #[.bool false, .int .u8 0, .int .u8 0, .int .u8 0, .int .u8 0, .int .u8 0, .int .u8 0, .int .u8 0, .int .u8 0, .int .u8 0, .int .u8 0, .int .u8 0, .int .u8 0, .int .u8 0, .int .u8 0, .int .u8 0, .int .u8 0, .int .i64 0] (pref0) rfl)
            generalize wy3.alloc (.cells #[.bool false, .int .u8 0, .int .u8 0, .int .u8 0, .int .u8 0, .int .u8 0, .int .u8 0, .int .u8 0, .int .u8 0, .int .u8 0, .int .u8 0, .int .u8 0, .int .u8 0, .int .u8 0, .int .u8 0, .int .u8 0, .int .u8 0, .int .i64 0] 42) = wy4 at HM ⊢
            generalize wy3.heap.size = P15 at HM ⊢
            refine hK.out _ _ ((HM.out.erase 0)) (fun hHeld => ?_)
            clear hK K
            (try simp only [Act.put, List.setIfInBounds_toArray, List.set_cons_zero, List.set_cons_succ])
            refine step_one 7 rfl (by kernel_rfl) (fun K hK => ?_)
            clear hHeld
            go_simp
            replace HM := Lib.hid (show Mem w [blkE wy4.heap.size 42 (pref0), blkE P15 42 (pref0), blkE PX 29 x.cells, blkE PA 29 a.cells] (wy4.alloc (.cells #[.bool false, .int .u8 0, .int .u8 0, .int .u8 0, .int .u8 0, .int .u8 0, .int .u8 0, .int .u8 0, .int .u8 0, .int .u8 0, .int .u8 0, .int .u8 0, .int .u8 0, .int .u8 0, .int .u8 0, .int .u8 0, .int .u8 0, .int .i64 0] 42)) from HM.out.alloc rfl 42 #[.bool false, .int .u8 0, .int .u8 0, .int .u8 0, .int .u8 0, .int .u8 0, .int .u8 0, .int .u8 0, .int .u8 0, .int .u8 0, .int .u8 0, .int .u8 0, .int .u8 0, .int .u8 0, .int .u8 0, .int .u8 0, .int .u8 0, .int .i64 0] (pref0) rfl)
            generalize wy4.alloc (.cells #[.bool false, .int .u8 0, .int .u8 0, .int .u8 0, .int .u8 0, .int .u8 0, .int .u8 0, .int .u8 0, .int .u8 0, .int .u8 0, .int .u8 0, .int .u8 0, .int .u8 0, .int .u8 0, .int .u8 0, .int .u8 0, .int .u8 0, .int .i64 0] 42) = wy5 at HM ⊢
            generalize wy4.heap.size = P16 at HM ⊢
            refine hK.out _ _ (((HM.out.erase 0).erase 0)) (fun hHeld => ?_)
            clear hK K
            (try simp only [Act.put, List.setIfInBounds_toArray, List.set_cons_zero, List.set_cons_succ])
            refine step_one 8 rfl (by kernel_rfl) (fun K hK => ?_)
            clear hHeld
            refine step_store_blk _ rfl 42 (.tmp 15) (.tmp 63) rfl P15 (prefC (maskM a L) (L : Int)) rfl (by show Value.agg cp = _; rw [HPC.out.1]) 42 pref0 (HM.out.blk 1 rfl) (pref_cellsOf _ (maskM_ok a HAO.out L) _) (by rw [prefC_length _ (maskM_ok a HAO.out L)]; rfl) (prefC_one _ _) ?_
            intro wy6 hb hg
            replace HM := Lib.hid (show Mem w [blkE P16 42 (pref0), blkE P15 42 (prefC (maskM a L) (L : Int)), blkE PX 29 x.cells, blkE PA 29 a.cells] wy6 from HM.out.put 1 rfl _ hg hb)
            clear hb hg
            refine hK.out _ _ (((HM.out.erase 0).erase 0)) (fun hHeld => ?_)
            clear hK K
            (try simp only [Act.put])
            refine step_one 9 rfl (by kernel_rfl) (fun K hK => ?_)
            clear hHeld
            refine step_store_blk _ rfl 42 (.tmp 16) (.tmp 66) rfl P16 (prefC (maskM a S) (S : Int)) rfl (by show Value.agg cq = _; rw [HPC.out.2]) 42 pref0 (HM.out.blk 0 rfl) (pref_cellsOf _ (maskM_ok a HAO.out S) _) (by rw [prefC_length _ (maskM_ok a HAO.out S)]; rfl) (prefC_one _ _) ?_
            intro wy7 hb hg
            replace HM := Lib.hid (show Mem w [blkE P16 42 (prefC (maskM a S) (S : Int)), blkE P15 42 (prefC (maskM a L) (L : Int)), blkE PX 29 x.cells, blkE PA 29 a.cells] wy7 from HM.out.put 0 rfl _ hg hb)
            clear hb hg
            refine hK.out _ _ (((HM.out.erase 0).erase 0)) (fun hHeld => ?_)
            clear hK K
            (try simp only [Act.put])
            refine wpAnyH_done (by kernel_rfl) ?_ _
            go_wp2_with fail
            go_meet
            exact ⟨P15, P16, rfl, rfl, HM.out.blk 3 rfl, HM.out.blk 2 rfl, HM.out.blk 1 rfl, HM.out.blk 0 rfl, HM.out.bel⟩
          · clear hHeld
            go_simp
            replace HM := Lib.hid (show Mem w [blkE wy3.heap.size 42 (pref0), blkE PX 29 x.cells, blkE PA 29 a.cells] (wy3.alloc (.cells #[.bool false, .int .u8 0, .int .u8 0, .int .u8 0, .int .u8 0, .int .u8 0, .int .u8 0, .int .u8 0, .int .u8 0, .int .u8 0, .int .u8 0, .int .u8 0, .int .u8 0, .int .u8 0, .int .u8 0, .int .u8 0, .int .u8 0, .int .i64 0] 42)) from HM.out.alloc rfl 42 #[.bool false, .int .u8 0, .int .u8 0, .int .u8 0, .int .u8 0, .int .u8 0, .int .u8 0, .int .u8 0, .int .u8 0, .int .u8 0, .int .u8 0, .int .u8 0, .int .u8 0, .int .u8 0, .int .u8 0, .int .u8 0, .int .u8 0, .int .i64 0] (pref0) rfl)
            generalize wy3.alloc (.cells #[.bool false, .int .u8 0, .int .u8 0, .int .u8 0, .int .u8 0, .int .u8 0, .int .u8 0, .int .u8 0, .int .u8 0, .int .u8 0, .int .u8 0, .int .u8 0, .int .u8 0, .int .u8 0, .int .u8 0, .int .u8 0, .int .u8 0, .int .i64 0] 42) = wy4 at HM ⊢
            generalize wy3.heap.size = P16 at HM ⊢
            refine hK.out _ _ ((HM.out.erase 0)) (fun hHeld => ?_)
            clear hK K
            (try simp only [Act.put, List.setIfInBounds_toArray, List.set_cons_zero, List.set_cons_succ])
            refine step_one 6 rfl (by kernel_rfl) (fun K hK => ?_)
            clear hHeld
            go_simp
            replace HM := Lib.hid (show Mem w [blkE wy4.heap.size 42 (pref0), blkE P16 42 (pref0), blkE PX 29 x.cells, blkE PA 29 a.cells] (wy4.alloc (.cells #[.bool false, .int .u8 0, .int .u8 0, .int .u8 0, .int .u8 0, .int .u8 0, .int .u8 0, .int .u8 0, .int .u8 0, .int .u8 0, .int .u8 0, .int .u8 0, .int .u8 0, .int .u8 0, .int .u8 0, .int .u8 0, .int .u8 0, .int .i64 0] 42)) from HM.out.alloc rfl 42 #[.bool false, .int .u8 0, .int .u8 0, .int .u8 0, .int .u8 0, .int .u8 0, .int .u8 0, .int .u8 0, .int .u8 0, .int .u8 0, .int .u8 0, .int .u8 0, .int .u8 0, .int .u8 0, .int .u8 0, .int .u8 0, .int .u8 0, .int .i64 0] (pref0) rfl)
            generalize wy4.alloc (.cells #[.bool false, .int .u8 0, .int .u8 0, .int .u8 0, .int .u8 0, .int .u8 0, .int .u8 0, .int .u8 0, .int .u8 0, .int .u8 0, .int .u8 0, .int .u8 0, .int .u8 0, .int .u8 0, .int .u8 0, .int .u8 0, .int .u8 0, .int .i64 0] 42) = wy5 at HM ⊢
            generalize wy4.heap.size = P15 at HM ⊢
            refine hK.out _ _ (((HM.out.erase 0).erase 0)) (fun hHeld => ?_)
            clear hK K
            (try simp only [Act.put, List.setIfInBounds_toArray, List.set_cons_zero, List.set_cons_succ])
            refine step_one 8 rfl (by kernel_rfl) (fun K hK => ?_)
            clear hHeld
            refine step_store_blk _ rfl 42 (.tmp 15) (.tmp 63) rfl P15 (prefC (maskM a L) (L : Int)) rfl (by show Value.agg cp = _; rw [HPC.out.1]) 42 pref0 (HM.out.blk 0 rfl) (pref_cellsOf _ (maskM_ok a HAO.out L) _) (by rw [prefC_length _ (maskM_ok a HAO.out L)]; rfl) (prefC_one _ _) ?_
            intro wy6 hb hg
            replace HM := Lib.hid (show Mem w [blkE P15 42 (prefC (maskM a L) (L : Int)), blkE P16 42 (pref0), blkE PX 29 x.cells, blkE PA 29 a.cells] wy6 from HM.out.put 0 rfl _ hg hb)
            clear hb hg
            refine hK.out _ _ (((HM.out.erase 0).erase 0)) (fun hHeld => ?_)
            clear hK K
            (try simp only [Act.put])
            refine step_one 9 rfl (by kernel_rfl) (fun K hK => ?_)
            clear hHeld
            refine step_store_blk _ rfl 42 (.tmp 16) (.tmp 66) rfl P16 (prefC (maskM a S) (S : Int)) rfl (by show Value.agg cq = _; rw [HPC.out.2]) 42 pref0 (HM.out.blk 1 rfl) (pref_cellsOf _ (maskM_ok a HAO.out S) _) (by rw [prefC_length _ (maskM_ok a HAO.out S)]; rfl) (prefC_one _ _) ?_
            intro wy7 hb hg
            replace HM := Lib.hid (show Mem w [blkE P15 42 (prefC (maskM a L) (L : Int)), blkE P16 42 (prefC (maskM a S) (S : Int)), blkE PX 29 x.cells, blkE PA 29 a.cells] wy7 from HM.out.put 1 rfl _ hg hb)
            clear hb hg
            refine hK.out _ _ (((HM.out.erase 0).erase 0)) (fun hHeld => ?_)
            clear hK K
            (try simp only [Act.put])
            refine wpAnyH_done (by kernel_rfl) ?_ _
            go_wp2_with fail
            go_meet
            exact ⟨P15, P16, rfl, rfl, HM.out.blk 3 rfl, HM.out.blk 2 rfl, HM.out.blk 0 rfl, HM.out.blk 1 rfl, HM.out.bel⟩
        · clear hHeld
          go_simp
          replace HM := Lib.hid (show Mem w [blkE wy2.heap.size 42 (pref0), blkE PX 29 x.cells, blkE PA 29 a.cells] (wy2.alloc (.cells #[.bool false, .int .u8 0, .int .u8 0, .int .u8 0, .int .u8 0, .int .u8 0, .int .u8 0, .int .u8 0, .int .u8 0, .int .u8 0, .int .u8 0, .int .u8 0, .int .u8 0, .int .u8 0, .int .u8 0, .int .u8 0, .int .u8 0, .int .i64 0] 42)) from HM.out.alloc rfl 42 #[.bool false, .int .u8 0, .int .u8 0, .int .u8 0, .int .u8 0, .int .u8 0, .int .u8 0, .int .u8 0, .int .u8 0, .int .u8 0, .int .u8 0, .int .u8 0, .int .u8 0, .int .u8 0, .int .u8 0, .int .u8 0, .int .u8 0, .int .i64 0] (pref0) rfl)
          generalize wy2.alloc (.cells #[.bool false, .int .u8 0, .int .u8 0, .int .u8 0, .int .u8 0, .int .u8 0, .int .u8 0, .int .u8 0, .int .u8 0, .int .u8 0, .int .u8 0, .int .u8 0, .int .u8 0, .int .u8 0, .int .u8 0, .int .u8 0, .int .u8 0, .int .i64 0] 42) = wy3 at HM ⊢
          generalize wy2.heap.size = P15 at HM ⊢
          refine hK.out _ _ ((HM.out.erase 0)) (fun hHeld => ?_)
          clear hK K
          (try simp only [Act.put, List.setIfInBounds_toArray, List.set_cons_zero, List.set_cons_succ])
          refine step_two 5 7 rfl rfl (by kernel_rfl) (fun K hK => ?_) (fun K hK => ?_)
          · clear hHeld
            go_simp
            refine (HK2.out _).mono ?_
            rintro e wy4 ⟨rfl, hb⟩
            replace HM := Lib.hid (show Mem w [blkE P15 42 (pref0), blkE PX 29 x.cells, blkE PA 29 a.cells] wy4 from HM.out.below hb)
            clear hb
            go_wp2_with fail
            refine hK.out _ _ ((HM.out.erase 0)) (fun hHeld => ?_)
            clear hK K
            (try simp only [Act.put, List.setIfInBounds_toArray, List.set_cons_zero, List.set_cons_succ])
            refine step_one 7 rfl (by kernel_rfl) (fun K hK => ?_)
            clear hHeld
            go_simp
            replace HM := Lib.hid (show Mem w [blkE wy4.heap.size 42 (pref0), blkE P15 42 (pref0), blkE PX 29 x.cells, blkE PA 29 a.cells] (wy4.alloc (.cells #[.bool false, .int .u8 0, .int .u8 0, .int .u8 0, .int .u8 0, .int .u8 0, .int .u8 0, .int .u8 0, .int .u8 0, .int .u8 0, .int .u8 0, .int .u8 0, .int .u8 0, .int .u8 0, .int .u8 0, .int .u8 0, .int .u8 0, .int .i64 0] 42)) from HM.out.alloc rfl 42 #[.bool false, .int .u8 0, .int .u8 0, .int .u8 0, .int .u8 0, .int .u8 0, .int .u8 0, .int .u8 0, .int .u8 0, .int .u8 0, .int .u8 0, .int .u8 0, .int .u8 0, .int .u8 0, .int .u8 0, .int .u8 0, .int .u8 0, .int .i64 0] (pref0) rfl)
            generalize wy4.alloc (.cells #[.bool false, .int .u8 0, .int .u8 0, .int .u8 0, .int .u8 0, .int .u8 0, .int .u8 0, .int .u8 0, .int .u8 0, .int .u8 0, .int .u8 0, .int .u8 0, .int .u8 0, .int .u8 0, .int .u8 0, .int .u8 0, .int .u8 0, .int .i64 0] 42) = wy5 at HM ⊢
            generalize wy4.heap.size = P16 at HM ⊢
            refine hK.out _ _ (((HM.out.erase 0).erase 0)) (fun hHeld => ?_)
            clear hK K
            (try simp only [Act.put, List.setIfInBounds_toArray, List.set_cons_zero, List.set_cons_succ])
            refine step_one 8 rfl (by kernel_rfl) (fun K hK => ?_)
            clear hHeld
            refine step_store_blk _ rfl 42 (.tmp 15) (.tmp 63) rfl P15 (prefC (maskM a L) (L : Int)) rfl (by show Value.agg cp = _; rw [HPC.out.1]) 42 pref0 (HM.out.blk 1 rfl) (pref_cellsOf _ (maskM_ok a HAO.out L) _) (by rw [prefC_length _ (maskM_ok a HAO.out L)]; rfl) (prefC_one _ _) ?_
            intro wy6 hb hg
            replace HM := Lib.hid (show Mem w [blkE P16 42 (pref0), blkE P15 42 (prefC (maskM a L) (L : Int)), blkE PX 29 x.cells, blkE PA 29 a.cells] wy6 from HM.out.put 1 rfl _ hg hb)
            clear hb hg
            refine hK.out _ _ (((HM.out.erase 0).erase 0)) (fun hHeld => ?_)
            clear hK K
            (try simp only [Act.put])
            refine step_one 9 rfl (by kernel_rfl) (fun K hK => ?_)
            clear hHeld
            refine step_store_blk _ rfl 42 (.tmp 16) (.tmp 66) rfl P16 (prefC (maskM a S) (S : Int)) rfl (by show Value.agg cq = _; rw [HPC.out.2]) 42 pref0 (HM.out.blk 0 rfl) (pref_cellsOf _ (maskM_ok a HAO.out S) _) (by rw [prefC_length _ (maskM_ok a HAO.out S)]; rfl) (prefC_one _ _) ?_
            intro wy7 hb hg
            replace HM := Lib.hid (show Mem w [blkE P16 42 (prefC (maskM a S) (S : Int)), blkE P15 42 (prefC (maskM a L) (L : Int)), blkE PX 29 x.cells, blkE PA 29 a.cells] wy7 from HM.out.put 0 rfl _ hg hb)
            clear hb hg
            refine hK.out _ _ (((HM.out.erase 0).erase 0)) (fun hHeld => ?_)
            clear hK K
            (try simp only [Act.put])
            refine wpAnyH_done (by kernel_rfl) ?_ _
            go_wp2_with fail
            go_meet
            exact ⟨P15, P16, rfl, rfl, HM.out.blk 3 rfl, HM.out.blk 2 rfl, HM.out.blk 1 rfl, HM.out.blk 0 rfl, HM.out.bel⟩
          · clear hHeld
            go_simp
            replace HM := Lib.hid (show Mem w [blkE wy3.heap.size 42 (pref0), blkE P15 42 (pref0), blkE PX 29 x.cells, blkE PA 29 a.cells] (wy3.alloc (.cells #[.bool false, .int .u8 0, .int .u8 0, .int .u8 0, .int .u8 0, .int .u8 0, .int .u8 0, .int .u8 0, .int .u8 0, .int .u8 0, .int .u8 0, .int .u8 0, .int .u8 0, .int .u8 0, .int .u8 0, .int .u8 0, .int .u8 0, .int .i64 0] 42)) from HM.out.alloc rfl 42 #[.bool false, .int .u8 0, .int .u8 0, .int .u8 0, .int .u8 0, .int .u8 0, .int .u8 0, .int .u8 0, .int .u8 0, .int .u8 0, .int .u8 0, .int .u8 0, .int .u8 0, .int .u8 0, .int .u8 0, .int .u8 0, .int .u8 0, .int .i64 0] (pref0) rfl)
            generalize wy3.alloc (.cells #[.bool false, .int .u8 0, .int .u8 0, .int .u8 0, .int .u8 0, .int .u8 0, .int .u8 0, .int .u8 0, .int .u8 0, .int .u8 0, .int .u8 0, .int .u8 0, .int .u8 0, .int .u8 0, .int .u8 0, .int .u8 0, .int .u8 0, .int .i64 0] 42) = wy4 at HM ⊢
            generalize wy3.heap.size = P16 at HM ⊢
            refine hK.out _ _ (((HM.out.erase 0).erase 0)) (fun hHeld => ?_)
            clear hK K
            (try simp only [Act.put, List.setIfInBounds_toArray, List.set_cons_zero, List.set_cons_succ])
            refine step_one 5 rfl (by kernel_rfl) (fun K hK => ?_)
            clear hHeld
            go_simp
            refine (HK2.out _).mono ?_
            rintro e wy5 ⟨rfl, hb⟩
            replace HM := Lib.hid (show Mem w [blkE P16 42 (pref0), blkE P15 42 (pref0), blkE PX 29 x.cells, blkE PA 29 a.cells] wy5 from HM.out.below hb)
            clear hb
            go_wp2_with fail
            refine hK.out _ _ (((HM.out.erase 0).erase 0)) (fun hHeld => ?_)
            clear hK K
            (try simp only [Act.put, List.setIfInBounds_toArray, List.set_cons_zero, List.set_cons_succ])
            refine step_one 8 rfl (by kernel_rfl) (fun K hK => ?_)
            clear hHeld
            refine step_store_blk _ rfl 42 (.tmp 15) (.tmp 63) rfl P15 (prefC (maskM a L) (L : Int)) rfl (by show Value.agg cp = _; rw [HPC.out.1]) 42 pref0 (HM.out.blk 1 rfl) (pref_cellsOf _ (maskM_ok a HAO.out L) _) (by rw [prefC_length _ (maskM_ok a HAO.out L)]; rfl) (prefC_one _ _) ?_
            intro wy6 hb hg
            replace HM := Lib.hid (show Mem w [blkE P16 42 (pref0), blkE P15 42 (prefC (maskM a L) (L : Int)), blkE PX 29 x.cells, blkE PA 29 a.cells] wy6 from HM.out.put 1 rfl _ hg hb)
            clear hb hg
            refine hK.out _ _ (((HM.out.erase 0).erase 0)) (fun hHeld => ?_)
            clear hK K
            (try simp only [Act.put])
            refine step_one 9 rfl (by kernel_rfl) (fun K hK => ?_)
            clear hHeld
            refine step_store_blk _ rfl 42 (.tmp 16) (.tmp 66) rfl P16 (prefC (maskM a S) (S : Int)) rfl (by show Value.agg cq = _; rw [HPC.out.2]) 42 pref0 (HM.out.blk 0 rfl) (pref_cellsOf _ (maskM_ok a HAO.out S) _) (by rw [prefC_length _ (maskM_ok a HAO.out S)]; rfl) (prefC_one _ _) ?_
            intro wy7 hb hg
            replace HM := Lib.hid (show Mem w [blkE P16 42 (prefC (maskM a S) (S : Int)), blkE P15 42 (prefC (maskM a L) (L : Int)), blkE PX 29 x.cells, blkE PA 29 a.cells] wy7 from HM.out.put 0 rfl _ hg hb)
            clear hb hg
            refine hK.out _ _ (((HM.out.erase 0).erase 0)) (fun hHeld => ?_)
            clear hK K
            (try simp only [Act.put])
            refine wpAnyH_done (by kernel_rfl) ?_ _
            go_wp2_with fail
            go_meet
            exact ⟨P15, P16, rfl, rfl, HM.out.blk 3 rfl, HM.out.blk 2 rfl, HM.out.blk 1 rfl, HM.out.blk 0 rfl, HM.out.bel⟩
        · clear hHeld
          go_simp
          replace HM := Lib.hid (show Mem w [blkE wy2.heap.size 42 (pref0), blkE PX 29 x.cells, blkE PA 29 a.cells] (wy2.alloc (.cells #[.bool false, .int .u8 0, .int .u8 0, .int .u8 0, .int .u8 0, .int .u8 0, .int .u8 0, .int .u8 0, .int .u8 0, .int .u8 0, .int .u8 0, .int .u8 0, .int .u8 0, .int .u8 0, .int .u8 0, .int .u8 0, .int .u8 0, .int .i64 0] 42)) from HM.out.alloc rfl 42 #[.bool false, .int .u8 0, .int .u8 0, .int .u8 0, .int .u8 0, .int .u8 0, .int .u8 0, .int .u8 0, .int .u8 0, .int .u8 0, .int .u8 0, .int .u8 0, .int .u8 0, .int .u8 0, .int .u8 0, .int .u8 0, .int .u8 0, .int .i64 0] (pref0) rfl)
          generalize wy2.alloc (.cells #[.bool false, .int .u8 0, .int .u8 0, .int .u8 0, .int .u8 0, .int .u8 0, .int .u8 0, .int .u8 0, .int .u8 0, .int .u8 0, .int .u8 0, .int .u8 0, .int .u8 0, .int .u8 0, .int .u8 0, .int .u8 0, .int .u8 0, .int .i64 0] 42) = wy3 at HM ⊢
          generalize wy2.heap.size = P16 at HM ⊢
          refine hK.out _ _ ((HM.out.erase 0)) (fun hHeld => ?_)
          clear hK K
          (try simp only [Act.put, List.setIfInBounds_toArray, List.set_cons_zero, List.set_cons_succ])
          refine step_two 5 6 rfl rfl (by kernel_rfl) (fun K hK => ?_) (fun K hK => ?_)
          · clear hHeld
            go_simp
            refine (HK2.out _).mono ?_
            rintro e wy4 ⟨rfl, hb⟩
            replace HM := Lib.hid (show Mem w [blkE P16 42 (pref0), blkE PX 29 x.cells, blkE PA 29 a.cells] wy4 from HM.out.below hb)
            clear hb
            go_wp2_with fail
            refine hK.out _ _ ((HM.out.erase 0)) (fun hHeld => ?_)
            clear hK K
            (try simp only [Act.put, List.setIfInBounds_toArray, List.set_cons_zero, List.set_cons_succ])
            refine step_one 6 rfl (by kernel_rfl) (fun K hK => ?_)
            clear hHeld
            go_simp
            replace HM := Lib.hid (show Mem w [blkE wy4.heap.size 42 (pref0), blkE P16 42 (pref0), blkE PX 29 x.cells, blkE PA 29 a.cells] (wy4.alloc (.cells #[.bool false, .int .u8 0, .int .u8 0, .int .u8 0, .int .u8 0, .int .u8 0, .int .u8 0, .int .u8 0, .int .u8 0, .int .u8 0, .int .u8 0, .int .u8 0, .int .u8 0, .int .u8 0, .int .u8 0, .int .u8 0, .int .u8 0, .int .i64 0] 42)) from HM.out.alloc rfl 42 #[.bool false, .int .u8 0, .int .u8 0, .int .u8 0, .int .u8 0, .int .u8 0, .int .u8 0, .int .u8 0, .int .u8 0, .int .u8 0, .int .u8 0, .int .u8 0, .int .u8 0, .int .u8 0, .int .u8 0, .int .u8 0, .int .u8 0, .int .i64 0] (pref0) rfl)
            generalize wy4.alloc (.cells #[.bool false, .int .u8 0, .int .u8 0, .int .u8 0, .int .u8 0, .int .u8 0, .int .u8 0, .int .u8 0, .int .u8 0, .int .u8 0, .int .u8 0, .int .u8 0, .int .u8 0, .int .u8 0, .int .u8 0, .int .u8 0, .int .u8 0, .int .i64 0] 42) = wy5 at HM ⊢
            generalize wy4.heap.size = P15 at HM ⊢
            refine hK.out _ _ (((HM.out.erase 0).erase 0)) (fun hHeld => ?_)
            clear hK K
            (try simp only [Act.put, List.setIfInBounds_toArray, List.set_cons_zero, List.set_cons_succ])
            refine step_one 8 rfl (by kernel_rfl) (fun K hK => ?_)
            clear hHeld
            refine step_store_blk _ rfl 42 (.tmp 15) (.tmp 63) rfl P15 (prefC (maskM a L) (L : Int)) rfl (by show Value.agg cp = _; rw [HPC.out.1]) 42 pref0 (HM.out.blk 0 rfl) (pref_cellsOf _ (maskM_ok a HAO.out L) _) (by rw [prefC_length _ (maskM_ok a HAO.out L)]; rfl) (prefC_one _ _) ?_
            intro wy6 hb hg
            replace HM := Lib.hid (show Mem w [blkE P15 42 (prefC (maskM a L) (L : Int)), blkE P16 42 (pref0), blkE PX 29 x.cells, blkE PA 29 a.cells] wy6 from HM.out.put 0 rfl _ hg hb)
            clear hb hg
            refine hK.out _ _ (((HM.out.erase 0).erase 0)) (fun hHeld => ?_)
            clear hK K
            (try simp only [Act.put])
            refine step_one 9 rfl (by kernel_rfl) (fun K hK => ?_)
            clear hHeld
            refine step_store_blk _ rfl 42 (.tmp 16) (.tmp 66) rfl P16 (prefC (maskM a S) (S : Int)) rfl (by show Value.agg cq = _; rw [HPC.out.2]) 42 pref0 (HM.out.blk 1 rfl) (pref_cellsOf _ (maskM_ok a HAO.out S) _) (by rw [prefC_length _ (maskM_ok a HAO.out S)]; rfl) (prefC_one _ _) ?_
            intro wy7 hb hg
            replace HM := Lib.hid (show Mem w [blkE P15 42 (prefC (maskM a L) (L : Int)), blkE P16 42 (prefC (maskM a S) (S : Int)), blkE PX 29 x.cells, blkE PA 29 a.cells] wy7 from HM.out.put 1 rfl _ hg hb)
            clear hb hg
            refine hK.out _ _ (((HM.out.erase 0).erase 0)) (fun hHeld => ?_)
            clear hK K
            (try simp only [Act.put])
            refine wpAnyH_done (by kernel_rfl) ?_ _
            go_wp2_with fail
            go_meet
            exact ⟨P15, P16, rfl, rfl, HM.out.blk 3 rfl, HM.out.blk 2 rfl, HM.out.blk 0 rfl, HM.out.blk 1 rfl, HM.out.bel⟩
          · clear hHeld
            go_simp
            replace HM := Lib.hid (show Mem w [blkE wy3.heap.size 42 (pref0), blkE P16 42 (pref0), blkE PX 29 x.cells, blkE PA 29 a.cells] (wy3.alloc (.cells #[.bool false, .int .u8 0, .int .u8 0, .int .u8 0, .int .u8 0, .int .u8 0, .int .u8 0, .int .u8 0, .int .u8 0, .int .u8 0, .int .u8 0, .int .u8 0, .int .u8 0, .int .u8 0, .int .u8 0, .int .u8 0, .int .u8 0, .int .i64 0] 42)) from HM.out.alloc rfl 42 #[.bool false, .int .u8 0, .int .u8 0, .int .u8 0, .int .u8 0, .int .u8 0, .int .u8 0, .int .u8 0, .int .u8 0, .int .u8 0, .int .u8 0, .int .u8 0, .int .u8 0, .int .u8 0, .int .u8 0, .int .u8 0, .int .u8 0, .int .i64 0] (pref0) rfl)
            generalize wy3.alloc (.cells #[.bool false, .int .u8 0, .int .u8 0, .int .u8 0, .int .u8 0, .int .u8 0, .int .u8 0, .int .u8 0, .int .u8 0, .int .u8 0, .int .u8 0, .int .u8 0, .int .u8 0, .int .u8 0, .int .u8 0, .int .u8 0, .int .u8 0, .int .i64 0] 42) = wy4 at HM ⊢
            generalize wy3.heap.size = P15 at HM ⊢
            refine hK.out _ _ (((HM.out.erase 0).erase 0)) (fun hHeld => ?_)
            clear hK K
            (try simp only [Act.put, List.setIfInBounds_toArray, List.set_cons_zero, List.set_cons_succ])
            refine step_one 5 rfl (by kernel_rfl) (fun K hK => ?_)
            clear hHeld
            go_simp
            refine (HK2.out _).mono ?_
            rintro e wy5 ⟨rfl, hb⟩
            replace HM := Lib.hid (show Mem w [blkE P15 42 (pref0), blkE P16 42 (pref0), blkE PX 29 x.cells, blkE PA 29 a.cells] wy5 from HM.out.below hb)
            clear hb
            go_wp2_with fail
            refine hK.out _ _ (((HM.out.erase 0).erase 0)) (fun hHeld => ?_)
            clear hK K
            (try simp only [Act.put, List.setIfInBounds_toArray, List.set_cons_zero, List.set_cons_succ])
            refine step_one 8 rfl (by kernel_rfl) (fun K hK => ?_)
            clear hHeld
            refine step_store_blk _ rfl 42 (.tmp 15) (.tmp 63) rfl P15 (prefC (maskM a L) (L : Int)) rfl (by show Value.agg cp = _; rw [HPC.out.1]) 42 pref0 (HM.out.blk 0 rfl) (pref_cellsOf _ (maskM_ok a HAO.out L) _) (by rw [prefC_length _ (maskM_ok a HAO.out L)]; rfl) (prefC_one _ _) ?_
            intro wy6 hb hg
            replace HM := Lib.hid (show Mem w [blkE P15 42 (prefC (maskM a L) (L : Int)), blkE P16 42 (pref0), blkE PX 29 x.cells, blkE PA 29 a.cells] wy6 from HM.out.put 0 rfl _ hg hb)
            clear hb hg
            refine hK.out _ _ (((HM.out.erase 0).erase 0)) (fun hHeld => ?_)
            clear hK K
            (try simp only [Act.put])
            refine step_one 9 rfl (by kernel_rfl) (fun K hK => ?_)
            clear hHeld
            refine step_store_blk _ rfl 42 (.tmp 16) (.tmp 66) rfl P16 (prefC (maskM a S) (S : Int)) rfl (by show Value.agg cq = _; rw [HPC.out.2]) 42 pref0 (HM.out.blk 1 rfl) (pref_cellsOf _ (maskM_ok a HAO.out S) _) (by rw [prefC_length _ (maskM_ok a HAO.out S)]; rfl) (prefC_one _ _) ?_
            intro wy7 hb hg
            replace HM := Lib.hid (show Mem w [blkE P15 42 (prefC (maskM a L) (L : Int)), blkE P16 42 (prefC (maskM a S) (S : Int)), blkE PX 29 x.cells, blkE PA 29 a.cells] wy7 from HM.out.put 1 rfl _ hg hb)
            clear hb hg
            refine hK.out _ _ (((HM.out.erase 0).erase 0)) (fun hHeld => ?_)
            clear hK K
            (try simp only [Act.put])
            refine wpAnyH_done (by kernel_rfl) ?_ _
            go_wp2_with fail
            go_meet
            exact ⟨P15, P16, rfl, rfl, HM.out.blk 3 rfl, HM.out.blk 2 rfl, HM.out.blk 0 rfl, HM.out.blk 1 rfl, HM.out.bel⟩
      · clear hHeld
        go_simp
        replace HM := Lib.hid (show Mem w [blkE wd1.heap.size 42 (pref0), blkE PX 29 x.cells, blkE PA 29 a.cells] (wd1.alloc (.cells #[.bool false, .int .u8 0, .int .u8 0, .int .u8 0, .int .u8 0, .int .u8 0, .int .u8 0, .int .u8 0, .int .u8 0, .int .u8 0, .int .u8 0, .int .u8 0, .int .u8 0, .int .u8 0, .int .u8 0, .int .u8 0, .int .u8 0, .int .i64 0] 42)) from HM.out.alloc rfl 42 #[.bool false, .int .u8 0, .int .u8 0, .int .u8 0, .int .u8 0, .int .u8 0, .int .u8 0, .int .u8 0, .int .u8 0, .int .u8 0, .int .u8 0, .int .u8 0, .int .u8 0, .int .u8 0, .int .u8 0, .int .u8 0, .int .u8 0, .int .i64 0] (pref0) rfl)
        generalize wd1.alloc (.cells #[.bool false, .int .u8 0, .int .u8 0, .int .u8 0, .int .u8 0, .int .u8 0, .int .u8 0, .int .u8 0, .int .u8 0, .int .u8 0, .int .u8 0, .int .u8 0, .int .u8 0, .int .u8 0, .int .u8 0, .int .u8 0, .int .u8 0, .int .i64 0] 42) = wy2 at HM ⊢
        generalize wd1.heap.size = P15 at HM ⊢
        refine hK.out _ _ ((HM.out.erase 0)) (fun hHeld => ?_)
        clear hK K
        (try simp only [Act.put, List.setIfInBounds_toArray, List.set_cons_zero, List.set_cons_succ])
        refine step_two 2 7 rfl rfl (by kernel_rfl) (fun K hK => ?_) (fun K hK => ?_)
        · clear hHeld
          go_simp
          refine (HK1.out _).mono ?_
          rintro e wy3 ⟨rfl, hb⟩
          replace HM := Lib.hid (show Mem w [blkE P15 42 (pref0), blkE PX 29 x.cells, blkE PA 29 a.cells] wy3 from HM.out.below hb)
          clear hb
          go_wp2_with fail
          refine hK.out _ _ ((HM.out.erase 0)) (fun hHeld => ?_)
          clear hK K
          (try simp only [Act.put, List.setIfInBounds_toArray, List.set_cons_zero, List.set_cons_succ])
          refine step_two 5 7 rfl rfl (by kernel_rfl) (fun K hK => ?_) (fun K hK => ?_)
          · clear hHeld
            go_simp
            refine (HK2.out _).mono ?_
            rintro e wy4 ⟨rfl, hb⟩
            replace HM := Lib.hid (show Mem w [blkE P15 42 (pref0), blkE PX 29 x.cells, blkE PA 29 a.cells] wy4 from HM.out.below hb)
            clear hb
            go_wp2_with fail
            refine hK.out _ _ ((HM.out.erase 0)) (fun hHeld => ?_)
            clear hK K
            (try simp only [Act.put, List.setIfInBounds_toArray, List.set_cons_zero, List.set_cons_succ])
            refine step_one 7 rfl (by kernel_rfl) (fun K hK => ?_)
            clear hHeld
            go_simp
            replace HM := Lib.hid (show Mem w [blkE wy4.heap.size 42 (pref0), blkE P15 42 (pref0), blkE PX 29 x.cells, blkE PA 29 a.cells] (wy4.alloc (.cells #[.bool false, .int .u8 0, .int .u8 0, .int .u8 0, .int .u8 0, .int .u8 0, .int .u8 0, .int .u8 0, .int .u8 0, .int .u8 0, .int .u8 0, .int .u8 0, .int .u8 0, .int .u8 0, .int .u8 0, .int .u8 0, .int .u8 0, .int .i64 0] 42)) from HM.out.alloc rfl 42 #[.bool false, .int .u8 0, .int .u8 0, .int .u8 0, .int .u8 0, .int .u8 0, .int .u8 0, .int .u8 0, .int .u8 0, .int .u8 0, .int .u8 0, .int .u8 0, .int .u8 0, .int .u8 0, .int .u8 0, .int .u8 0, .int .u8 0, .int .i64 0] (pref0) rfl)
            generalize wy4.alloc (.cells #[.bool false, .int .u8 0, .int .u8 0, .int .u8 0, .int .u8 0, .int .u8 0, .int .u8 0, .int .u8 0, .int .u8 0, .int .u8 0, .int .u8 0, .int .u8 0, .int .u8 0, .int .u8 0, .int .u8 0, .int .u8 0, .int .u8 0, .int .i64 0] 42) = wy5 at HM ⊢
            generalize wy4.heap.size = P16 at HM ⊢
            refine hK.out _ _ (((HM.out.erase 0).erase 0)) (fun hHeld => ?_)
            clear hK K
            (try simp only [Act.put, List.setIfInBounds_toArray, List.set_cons_zero, List.set_cons_succ])
            refine step_one 8 rfl (by kernel_rfl) (fun K hK => ?_)
            clear hHeld
            refine step_store_blk _ rfl 42 (.tmp 15) (.tmp 63) rfl P15 (prefC (maskM a L) (L : Int)) rfl (by show Value.agg cp = _; rw [HPC.out.1]) 42 pref0 (HM.out.blk 1 rfl) (pref_cellsOf _ (maskM_ok a HAO.out L) _) (by rw [prefC_length _ (maskM_ok a HAO.out L)]; rfl) (prefC_one _ _) ?_
            intro wy6 hb hg
            replace HM := Lib.hid (show Mem w [blkE P16 42 (pref0), blkE P15 42 (prefC (maskM a L) (L : Int)), blkE PX 29 x.cells, blkE PA 29 a.cells] wy6 from HM.out.put 1 rfl _ hg hb)
            clear hb hg
            refine hK.out _ _ (((HM.out.erase 0).erase 0)) (fun hHeld => ?_)
            clear hK K
            (try simp only [Act.put])
            refine step_one 9 rfl (by kernel_rfl) (fun K hK => ?_)
            clear hHeld
            refine step_store_blk _ rfl 42 (.tmp 16) (.tmp 66) rfl P16 (prefC (maskM a S) (S : Int)) rfl (by show Value.agg cq = _; rw [HPC.out.2]) 42 pref0 (HM.out.blk 0 rfl) (pref_cellsOf _ (maskM_ok a HAO.out S) _) (by rw [prefC_length _ (maskM_ok a HAO.out S)]; rfl) (prefC_one _ _) ?_
            intro wy7 hb hg
            replace HM := Lib.hid (show Mem w [blkE P16 42 (prefC (maskM a S) (S : Int)), blkE P15 42 (prefC (maskM a L) (L : Int)), blkE PX 29 x.cells, blkE PA 29 a.cells] wy7 from HM.out.put 0 rfl _ hg hb)
            clear hb hg
            refine hK.out _ _ (((HM.out.erase 0).erase 0)) (fun hHeld => ?_)
            clear hK K
            (try simp only [Act.put])
            refine wpAnyH_done (by kernel_rfl) ?_ _
            go_wp2_with fail
            go_meet
            exact ⟨P15, P16, rfl, rfl, HM.out.blk 3 rfl, HM.out.blk 2 rfl, HM.out.blk 1 rfl, HM.out.blk 0 rfl, HM.out.bel⟩
          · clear hHeld
            go_simp
            replace HM := Lib.hid (show Mem w [blkE wy3.heap.size 42 (pref0), blkE P15 42 (pref0), blkE PX 29 x.cells, blkE PA 29 a.cells] (wy3.alloc (.cells #[.bool false, .int .u8 0, .int .u8 0, .int .u8 0, .int .u8 0, .int .u8 0, .int .u8 0, .int .u8 0, .int .u8 0, .int .u8 0, .int .u8 0, .int .u8 0, .int .u8 0, .int .u8 0, .int .u8 0, .int .u8 0, .int .u8 0, .int .i64 0] 42)) from HM.out.alloc rfl 42 #[.bool false, .int .u8 0, .int .u8 0, .int .u8 0, .int .u8 0, .int .u8 0, .int .u8 0, .int .u8 0, .int .u8 0, .int .u8 0, .int .u8 0, .int .u8 0, .int .u8 0, .int .u8 0, .int .u8 0, .int .u8 0, .int .u8 0, .int .i64 0] (pref0) rfl)
            generalize wy3.alloc (.cells #[.bool false, .int .u8 0, .int .u8 0, .int .u8 0, .int .u8 0, .int .u8 0, .int .u8 0, .int .u8 0, .int .u8 0, .int .u8 0, .int .u8 0, .int .u8 0, .int .u8 0, .int .u8 0, .int .u8 0, .int .u8 0, .int .u8 0, .int .i64 0] 42) = wy4 at HM ⊢
            generalize wy3.heap.size = P16 at HM ⊢
            refine hK.out _ _ (((HM.out.erase 0).erase 0)) (fun hHeld => ?_)
            clear hK K
            (try simp only [Act.put, List.setIfInBounds_toArray, List.set_cons_zero, List.set_cons_succ])
            refine step_one 5 rfl (by kernel_rfl) (fun K hK => ?_)
            clear hHeld
            go_simp
            refine (HK2.out _).mono ?_
            rintro e wy5 ⟨rfl, hb⟩
            replace HM := Lib.hid (show Mem w [blkE P16 42 (pref0), blkE P15 42 (pref0), blkE PX 29 x.cells, blkE PA 29 a.cells] wy5 from HM.out.below hb)
            clear hb
            go_wp2_with fail
            refine hK.out _ _ (((HM.out.erase 0).erase 0)) (fun hHeld => ?_)
            clear hK K
            (try simp only [Act.put, List.setIfInBounds_toArray, List.set_cons_zero, List.set_cons_succ])
            refine step_one 8 rfl (by kernel_rfl) (fun K hK => ?_)
            clear hHeld
            refine step_store_blk _ rfl 42 (.tmp 15) (.tmp 63) rfl P15 (prefC (maskM a L) (L : Int)) rfl (by show Value.agg cp = _; rw [HPC.out.1]) 42 pref0 (HM.out.blk 1 rfl) (pref_cellsOf _ (maskM_ok a HAO.out L) _) (by rw [prefC_length _ (maskM_ok a HAO.out L)]; rfl) (prefC_one _ _) ?_
            intro wy6 hb hg
            replace HM := Lib.hid (show Mem w [blkE P16 42 (pref0), blkE P15 42 (prefC (maskM a L) (L : Int)), blkE PX 29 x.cells, blkE PA 29 a.cells] wy6 from HM.out.put 1 rfl _ hg hb)
            clear hb hg
            refine hK.out _ _ (((HM.out.erase 0).erase 0)) (fun hHeld => ?_)
            clear hK K
            (try simp only [Act.put])
            refine step_one 9 rfl (by kernel_rfl) (fun K hK => ?_)
            clear hHeld
            refine step_store_blk _ rfl 42 (.tmp 16) (.tmp 66) rfl P16 (prefC (maskM a S) (S : Int)) rfl (by show Value.agg cq = _; rw [HPC.out.2]) 42 pref0 (HM.out.blk 0 rfl) (pref_cellsOf _ (maskM_ok a HAO.out S) _) (by rw [prefC_length _ (maskM_ok a HAO.out S)]; rfl) (prefC_one _ _) ?_
            intro wy7 hb hg
            replace HM := Lib.hid (show Mem w [blkE P16 42 (prefC (maskM a S) (S : Int)), blkE P15 42 (prefC (maskM a L) (L : Int)), blkE PX 29 x.cells, blkE PA 29 a.cells] wy7 from HM.out.put 0 rfl _ hg hb)
            clear hb hg
            refine hK.out _ _ (((HM.out.erase 0).erase 0)) (fun hHeld => ?_)
            clear hK K
            (try simp only [Act.put])
            refine wpAnyH_done (by kernel_rfl) ?_ _
            go_wp2_with fail
            go_meet
            exact ⟨P15, P16, rfl, rfl, HM.out.blk 3 rfl, HM.out.blk 2 rfl, HM.out.blk 1 rfl, HM.out.blk 0 rfl, HM.out.bel⟩
        · clear hHeld
          go_simp
          replace HM := Lib.hid (show Mem w [blkE wy2.heap.size 42 (pref0), blkE P15 42 (pref0), blkE PX 29 x.cells, blkE PA 29 a.cells] (wy2.alloc (.cells #[.bool false, .int .u8 0, .int .u8 0, .int .u8 0, .int .u8 0, .int .u8 0, .int .u8 0, .int .u8 0, .int .u8 0, .int .u8 0, .int .u8 0, .int .u8 0, .int .u8 0, .int .u8 0, .int .u8 0, .int .u8 0, .int .u8 0, .int .i64 0] 42)) from HM.out.alloc rfl 42 #[.bool false, .int .u8 0, .int .u8 0, .int .u8 0, .int .u8 0, .int .u8 0, .int .u8 0, .int .u8 0, .int .u8 0, .int .u8 0, .int .u8 0, .int .u8 0, .int .u8 0, .int .u8 0, .int .u8 0, .int .u8 0, .int .u8 0, .int .i64 0] (pref0) rfl)
          generalize wy2.alloc (.cells #[.bool false, .int .u8 0, .int .u8 0, .int .u8 0, .int .u8 0, .int .u8 0, .int .u8 0, .int .u8 0, .int .u8 0, .int .u8 0, .int .u8 0, .int .u8 0, .int .u8 0, .int .u8 0, .int .u8 0, .int .u8 0, .int .u8 0, .int .i64 0] 42) = wy3 at HM ⊢
          generalize wy2.heap.size = P16 at HM ⊢
          refine hK.out _ _ (((HM.out.erase 0).erase 0)) (fun hHeld => ?_)
          clear hK K
          (try simp only [Act.put, List.setIfInBounds_toArray, List.set_cons_zero, List.set_cons_succ])
          refine step_one 2 rfl (by kernel_rfl) (fun K hK => ?_)
          clear hHeld
          go_simp
          refine (HK1.out _).mono ?_
          rintro e wy4 ⟨rfl, hb⟩
          replace HM := Lib.hid (show Mem w [blkE P16 42 (pref0), blkE P15 42 (pref0), blkE PX 29 x.cells, blkE PA 29 a.cells] wy4 from HM.out.below hb)
          clear hb
          go_wp2_with fail
          refine hK.out _ _ (((HM.out.erase 0).erase 0)) (fun hHeld => ?_)
          clear hK K
          (try simp only [Act.put, List.setIfInBounds_toArray, List.set_cons_zero, List.set_cons_succ])
          refine step_one 5 rfl (by kernel_rfl) (fun K hK => ?_)
          clear hHeld
          go_simp
          refine (HK2.out _).mono ?_
          rintro e wy5 ⟨rfl, hb⟩
          replace HM := Lib.hid (show Mem w [blkE P16 42 (pref0), blkE P15 42 (pref0), blkE PX 29 x.cells, blkE PA 29 a.cells] wy5 from HM.out.below hb)
          clear hb
          go_wp2_with fail
          refine hK.out _ _ (((HM.out.erase 0).erase 0)) (fun hHeld => ?_)
          clear hK K
          (try simp only [Act.put, List.setIfInBounds_toArray, List.set_cons_zero, List.set_cons_succ])
          refine step_one 8 rfl (by kernel_rfl) (fun K hK => ?_)
          clear hHeld
          refine step_store_blk _ rfl 42 (.tmp 15) (.tmp 63) rfl P15 (prefC (maskM a L) (L : Int)) rfl (by show Value.agg cp = _; rw [HPC.out.1]) 42 pref0 (HM.out.blk 1 rfl) (pref_cellsOf _ (maskM_ok a HAO.out L) _) (by rw [prefC_length _ (maskM_ok a HAO.out L)]; rfl) (prefC_one _ _) ?_
          intro wy6 hb hg
          replace HM := Lib.hid (show Mem w [blkE P16 42 (pref0), blkE P15 42 (prefC (maskM a L) (L : Int)), blkE PX 29 x.cells, blkE PA 29 a.cells] wy6 from HM.out.put 1 rfl _ hg hb)
          clear hb hg
          refine hK.out _ _ (((HM.out.erase 0).erase 0)) (fun hHeld => ?_)
          clear hK K
          (try simp only [Act.put])
          refine step_one 9 rfl (by kernel_rfl) (fun K hK => ?_)
          clear hHeld
          refine step_store_blk _ rfl 42 (.tmp 16) (.tmp 66) rfl P16 (prefC (maskM a S) (S : Int)) rfl (by show Value.agg cq = _; rw [HPC.out.2]) 42 pref0 (HM.out.blk 0 rfl) (pref_cellsOf _ (maskM_ok a HAO.out S) _) (by rw [prefC_length _ (maskM_ok a HAO.out S)]; rfl) (prefC_one _ _) ?_
          intro wy7 hb hg
          replace HM := Lib.hid (show Mem w [blkE P16 42 (prefC (maskM a S) (S : Int)), blkE P15 42 (prefC (maskM a L) (L : Int)), blkE PX 29 x.cells, blkE PA 29 a.cells] wy7 from HM.out.put 0 rfl _ hg hb)
          clear hb hg
          refine hK.out _ _ (((HM.out.erase 0).erase 0)) (fun hHeld => ?_)
          clear hK K
          (try simp only [Act.put])
          refine wpAnyH_done (by kernel_rfl) ?_ _
          go_wp2_with fail
          go_meet
          exact ⟨P15, P16, rfl, rfl, HM.out.blk 3 rfl, HM.out.blk 2 rfl, HM.out.blk 1 rfl, HM.out.blk 0 rfl, HM.out.bel⟩
      · clear hHeld
        go_simp
        replace HM := Lib.hid (show Mem w [blkE wd1.heap.size 42 (pref0), blkE PX 29 x.cells, blkE PA 29 a.cells] (wd1.alloc (.cells #[.bool false, .int .u8 0, .int .u8 0, .int .u8 0, .int .u8 0, .int .u8 0, .int .u8 0, .int .u8 0, .int .u8 0, .int .u8 0, .int .u8 0, .int .u8 0, .int .u8 0, .int .u8 0, .int .u8 0, .int .u8 0, .int .u8 0, .int .i64 0] 42)) from HM.out.alloc rfl 42 #[.bool false, .int .u8 0, .int .u8 0, .int .u8 0, .int .u8 0, .int .u8 0, .int .u8 0, .int .u8 0, .int .u8 0, .int .u8 0, .int .u8 0, .int .u8 0, .int .u8 0, .int .u8 0, .int .u8 0, .int .u8 0, .int .u8 0, .int .i64 0] (pref0) rfl)
        generalize wd1.alloc (.cells #[.bool false, .int .u8 0, .int .u8 0, .int .u8 0, .int .u8 0, .int .u8 0, .int .u8 0, .int .u8 0, .int .u8 0, .int .u8 0, .int .u8 0, .int .u8 0, .int .u8 0, .int .u8 0, .int .u8 0, .int .u8 0, .int .u8 0, .int .i64 0] 42) = wy2 at HM ⊢
        generalize wd1.heap.size = P16 at HM ⊢
        refine hK.out _ _ ((HM.out.erase 0)) (fun hHeld => ?_)
        clear hK K
        (try simp only [Act.put, List.setIfInBounds_toArray, List.set_cons_zero, List.set_cons_succ])
        refine step_two 2 6 rfl rfl (by kernel_rfl) (fun K hK => ?_) (fun K hK => ?_)
        · clear hHeld
          go_simp
          refine (HK1.out _).mono ?_
          rintro e wy3 ⟨rfl, hb⟩
          replace HM := Lib.hid (show Mem w [blkE P16 42 (pref0), blkE PX 29 x.cells, blkE PA 29 a.cells] wy3 from HM.out.below hb)
          clear hb
          go_wp2_with fail
          refine hK.out _ _ ((HM.out.erase 0)) (fun hHeld => ?_)
          clear hK K
          (try simp only [Act.put, List.setIfInBounds_toArray, List.set_cons_zero, List.set_cons_succ])
          refine step_two 5 6 rfl rfl (by kernel_rfl) (fun K hK => ?_) (fun K hK => ?_)
          · clear hHeld
            go_simp
            refine (HK2.out _).mono ?_
            rintro e wy4 ⟨rfl, hb⟩
            replace HM := Lib.hid (show Mem w [blkE P16 42 (pref0), blkE PX 29 x.cells, blkE PA 29 a.cells] wy4 from HM.out.below hb)
            clear hb
            go_wp2_with fail
            refine hK.out _ _ ((HM.out.erase 0)) (fun hHeld => ?_)
            clear hK K
            (try simp only [Act.put, List.setIfInBounds_toArray, List.set_cons_zero, List.set_cons_succ])
            refine step_one 6 rfl (by kernel_rfl) (fun K hK => ?_)
            clear hHeld
            go_simp
            replace HM := Lib.hid (show Mem w [blkE wy4.heap.size 42 (pref0), blkE P16 42 (pref0), blkE PX 29 x.cells, blkE PA 29 a.cells] (wy4.alloc (.cells #[.bool false, .int .u8 0, .int .u8 0, .int .u8 0, .int .u8 0, .int .u8 0, .int .u8 0, .int .u8 0, .int .u8 0, .int .u8 0, .int .u8 0, .int .u8 0, .int .u8 0, .int .u8 0, .int .u8 0, .int .u8 0, .int .u8 0, .int .i64 0] 42)) from HM.out.alloc rfl 42 #[.bool false, .int .u8 0, .int .u8 0, .int .u8 0, .int .u8 0, .int .u8 0, .int .u8 0, .int .u8 0, .int .u8 0, .int .u8 0, .int .u8 0, .int .u8 0, .int .u8 0, .int .u8 0, .int .u8 0, .int .u8 0, .int .u8 0, .int .i64 0] (pref0) rfl)
            generalize wy4.alloc (.cells #[.bool false, .int .u8 0, .int .u8 0, .int .u8 0, .int .u8 0, .int .u8 0, .int .u8 0, .int .u8 0, .int .u8 0, .int .u8 0, .int .u8 0, .int .u8 0, .int .u8 0, .int .u8 0, .int .u8 0, .int .u8 0, .int .u8 0, .int .i64 0] 42) = wy5 at HM ⊢
            generalize wy4.heap.size = P15 at HM ⊢
            refine hK.out _ _ (((HM.out.erase 0).erase 0)) (fun hHeld => ?_)
            clear hK K
            (try simp only [Act.put, List.setIfInBounds_toArray, List.set_cons_zero, List.set_cons_succ])
            refine step_one 8 rfl (by kernel_rfl) (fun K hK => ?_)
            clear hHeld
            refine step_store_blk _ rfl 42 (.tmp 15) (.tmp 63) rfl P15 (prefC (maskM a L) (L : Int)) rfl (by show Value.agg cp = _; rw [HPC.out.1]) 42 pref0 (HM.out.blk 0 rfl) (pref_cellsOf _ (maskM_ok a HAO.out L) _) (by rw [prefC_length _ (maskM_ok a HAO.out L)]; rfl) (prefC_one _ _) ?_
            intro wy6 hb hg
            replace HM := Lib.hid (show Mem w [blkE P15 42 (prefC (maskM a L) (L : Int)), blkE P16 42 (pref0), blkE PX 29 x.cells, blkE PA 29 a.cells] wy6 from HM.out.put 0 rfl _ hg hb)
            clear hb hg
            refine hK.out _ _ (((HM.out.erase 0).erase 0)) (fun hHeld => ?_)
            clear hK K
            (try simp only [Act.put])
            refine step_one 9 rfl (by kernel_rfl) (fun K hK => ?_)
            clear hHeld
            refine step_store_blk _ rfl 42 (.tmp 16) (.tmp 66) rfl P16 (prefC (maskM a S) (S : Int)) rfl (by show Value.agg cq = _; rw [HPC.out.2]) 42 pref0 (HM.out.blk 1 rfl) (pref_cellsOf _ (maskM_ok a HAO.out S) _) (by rw [prefC_length _ (maskM_ok a HAO.out S)]; rfl) (prefC_one _ _) ?_
            intro wy7 hb hg
            replace HM := Lib.hid (show Mem w [blkE P15 42 (prefC (maskM a L) (L : Int)), blkE P16 42 (prefC (maskM a S) (S : Int)), blkE PX 29 x.cells, blkE PA 29 a.cells] wy7 from HM.out.put 1 rfl _ hg hb)
            clear hb hg
            refine hK.out _ _ (((HM.out.erase 0).erase 0)) (fun hHeld => ?_)
            clear hK K
            (try simp only [Act.put])
            refine wpAnyH_done (by kernel_rfl) ?_ _
            go_wp2_with fail
            go_meet
            exact ⟨P15, P16, rfl, rfl, HM.out.blk 3 rfl, HM.out.blk 2 rfl, HM.out.blk 0 rfl, HM.out.blk 1 rfl, HM.out.bel⟩
          · clear hHeld
            go_simp
            replace HM := Lib.hid (show Mem w [blkE wy3.heap.size 42 (pref0), blkE P16 42 (pref0), blkE PX 29 x.cells, blkE PA 29 a.cells] (wy3.alloc (.cells #[.bool false, .int .u8 0, .int .u8 0, .int .u8 0, .int .u8 0, .int .u8 0, .int .u8 0, .int .u8 0, .int .u8 0, .int .u8 0, .int .u8 0, .int .u8 0, .int .u8 0, .int .u8 0, .int .u8 0, .int .u8 0, .int .u8 0, .int .i64 0] 42)) from HM.out.alloc rfl 42 #[.bool false, .int .u8 0, .int .u8 0, .int .u8 0, .int .u8 0, .int .u8 0, .int .u8 0, .int .u8 0, .int .u8 0, .int .u8 0, .int .u8 0, .int .u8 0, .int .u8 0, .int .u8 0, .int .u8 0, .int .u8 0, .int .u8 0, .int .i64 0] (pref0) rfl)
            generalize wy3.alloc (.cells #[.bool false, .int .u8 0, .int .u8 0, .int .u8 0, .int .u8 0, .int .u8 0, .int .u8 0, .int .u8 0, .int .u8 0, .int .u8 0, .int .u8 0, .int .u8 0, .int .u8 0, .int .u8 0, .int .u8 0, .int .u8 0, .int .u8 0, .int .i64 0] 42) = wy4 at HM ⊢
            generalize wy3.heap.size = P15 at HM ⊢
            refine hK.out _ _ (((HM.out.erase 0).erase 0)) (fun hHeld => ?_)
            clear hK K
            (try simp only [Act.put, List.setIfInBounds_toArray, List.set_cons_zero, List.set_cons_succ])
            refine step_one 5 rfl (by kernel_rfl) (fun K hK => ?_)
            clear hHeld
            go_simp
            refine (HK2.out _).mono ?_
            rintro e wy5 ⟨rfl, hb⟩
            replace HM := Lib.hid (show Mem w [blkE P15 42 (pref0), blkE P16 42 (pref0), blkE PX 29 x.cells, blkE PA 29 a.cells] wy5 from HM.out.below hb)
            clear hb
            go_wp2_with fail
            refine hK.out _ _ (((HM.out.erase 0).erase 0)) (fun hHeld => ?_)
            clear hK K
            (try simp only [Act.put, List.setIfInBounds_toArray, List.set_cons_zero, List.set_cons_succ])
            refine step_one 8 rfl (by kernel_rfl) (fun K hK => ?_)
            clear hHeld
            refine step_store_blk _ rfl 42 (.tmp 15) (.tmp 63) rfl P15 (prefC (maskM a L) (L : Int)) rfl (by show Value.agg cp = _; rw [HPC.out.1]) 42 pref0 (HM.out.blk 0 rfl) (pref_cellsOf _ (maskM_ok a HAO.out L) _) (by rw [prefC_length _ (maskM_ok a HAO.out L)]; rfl) (prefC_one _ _) ?_
            intro wy6 hb hg
            replace HM := Lib.hid (show Mem w [blkE P15 42 (prefC (maskM a L) (L : Int)), blkE P16 42 (pref0), blkE PX 29 x.cells, blkE PA 29 a.cells] wy6 from HM.out.put 0 rfl _ hg hb)
            clear hb hg
            refine hK.out _ _ (((HM.out.erase 0).erase 0)) (fun hHeld => ?_)
            clear hK K
            (try simp only [Act.put])
            refine step_one 9 rfl (by kernel_rfl) (fun K hK => ?_)
            clear hHeld
            refine step_store_blk _ rfl 42 (.tmp 16) (.tmp 66) rfl P16 (prefC (maskM a S) (S : Int)) rfl (by show Value.agg cq = _; rw [HPC.out.2]) 42 pref0 (HM.out.blk 1 rfl) (pref_cellsOf _ (maskM_ok a HAO.out S) _) (by rw [prefC_length _ (maskM_ok a HAO.out S)]; rfl) (prefC_one _ _) ?_
            intro wy7 hb hg
            replace HM := Lib.hid (show Mem w [blkE P15 42 (prefC (maskM a L) (L : Int)), blkE P16 42 (prefC (maskM a S) (S : Int)), blkE PX 29 x.cells, blkE PA 29 a.cells] wy7 from HM.out.put 1 rfl _ hg hb)
            clear hb hg
            refine hK.out _ _ (((HM.out.erase 0).erase 0)) (fun hHeld => ?_)
            clear hK K
            (try simp only [Act.put])
            refine wpAnyH_done (by kernel_rfl) ?_ _
            go_wp2_with fail
            go_meet
            exact ⟨P15, P16, rfl, rfl, HM.out.blk 3 rfl, HM.out.blk 2 rfl, HM.out.blk 0 rfl, HM.out.blk 1 rfl, HM.out.bel⟩
        · clear hHeld
          go_simp
          replace HM := Lib.hid (show Mem w [blkE wy2.heap.size 42 (pref0), blkE P16 42 (pref0), blkE PX 29 x.cells, blkE PA 29 a.cells] (wy2.alloc (.cells #[.bool false, .int .u8 0, .int .u8 0, .int .u8 0, .int .u8 0, .int .u8 0, .int .u8 0, .int .u8 0, .int .u8 0, .int .u8 0, .int .u8 0, .int .u8 0, .int .u8 0, .int .u8 0, .int .u8 0, .int .u8 0, .int .u8 0, .int .i64 0] 42)) from HM.out.alloc rfl 42 #[.bool false, .int .u8 0, .int .u8 0, .int .u8 0, .int .u8 0, .int .u8 0, .int .u8 0, .int .u8 0, .int .u8 0, .int .u8 0, .int .u8 0, .int .u8 0, .int .u8 0, .int .u8 0, .int .u8 0, .int .u8 0, .int .u8 0, .int .i64 0] (pref0) rfl)
          generalize wy2.alloc (.cells #[.bool false, .int .u8 0, .int .u8 0, .int .u8 0, .int .u8 0, .int .u8 0, .int .u8 0, .int .u8 0, .int .u8 0, .int .u8 0, .int .u8 0, .int .u8 0, .int .u8 0, .int .u8 0, .int .u8 0, .int .u8 0, .int .u8 0, .int .i64 0] 42) = wy3 at HM ⊢
          generalize wy2.heap.size = P15 at HM ⊢
          refine hK.out _ _ (((HM.out.erase 0).erase 0)) (fun hHeld => ?_)
          clear hK K
          (try simp only [Act.put, List.setIfInBounds_toArray, List.set_cons_zero, List.set_cons_succ])
          refine step_one 2 rfl (by kernel_rfl) (fun K hK => ?_)
          clear hHeld
          go_simp
          refine (HK1.out _).mono ?_
          rintro e wy4 ⟨rfl, hb⟩
          replace HM := Lib.hid (show Mem w [blkE P15 42 (pref0), blkE P16 42 (pref0), blkE PX 29 x.cells, blkE PA 29 a.cells] wy4 from HM.out.below hb)
          clear hb
          go_wp2_with fail
          refine hK.out _ _ (((HM.out.erase 0).erase 0)) (fun hHeld => ?_)
          clear hK K
          (try simp only [Act.put, List.setIfInBounds_toArray, List.set_cons_zero, List.set_cons_succ])
          refine step_one 5 rfl (by kernel_rfl) (fun K hK => ?_)
          clear hHeld
          go_simp
          refine (HK2.out _).mono ?_
          rintro e wy5 ⟨rfl, hb⟩
          replace HM := Lib.hid (show Mem w [blkE P15 42 (pref0), blkE P16 42 (pref0), blkE PX 29 x.cells, blkE PA 29 a.cells] wy5 from HM.out.below hb)
          clear hb
          go_wp2_with fail
          refine hK.out _ _ (((HM.out.erase 0).erase 0)) (fun hHeld => ?_)
          clear hK K
          (try simp only [Act.put, List.setIfInBounds_toArray, List.set_cons_zero, List.set_cons_succ])
          refine step_one 8 rfl (by kernel_rfl) (fun K hK => ?_)
          clear hHeld
          refine step_store_blk _ rfl 42 (.tmp 15) (.tmp 63) rfl P15 (prefC (maskM a L) (L : Int)) rfl (by show Value.agg cp = _; rw [HPC.out.1]) 42 pref0 (HM.out.blk 0 rfl) (pref_cellsOf _ (maskM_ok a HAO.out L) _) (by rw [prefC_length _ (maskM_ok a HAO.out L)]; rfl) (prefC_one _ _) ?_
          intro wy6 hb hg
          replace HM := Lib.hid (show Mem w [blkE P15 42 (prefC (maskM a L) (L : Int)), blkE P16 42 (pref0), blkE PX 29 x.cells, blkE PA 29 a.cells] wy6 from HM.out.put 0 rfl _ hg hb)
          clear hb hg
          refine hK.out _ _ (((HM.out.erase 0).erase 0)) (fun hHeld => ?_)
          clear hK K
          (try simp only [Act.put])
          refine step_one 9 rfl (by kernel_rfl) (fun K hK => ?_)
          clear hHeld
          refine step_store_blk _ rfl 42 (.tmp 16) (.tmp 66) rfl P16 (prefC (maskM a S) (S : Int)) rfl (by show Value.agg cq = _; rw [HPC.out.2]) 42 pref0 (HM.out.blk 1 rfl) (pref_cellsOf _ (maskM_ok a HAO.out S) _) (by rw [prefC_length _ (maskM_ok a HAO.out S)]; rfl) (prefC_one _ _) ?_
          intro wy7 hb hg
          replace HM := Lib.hid (show Mem w [blkE P15 42 (prefC (maskM a L) (L : Int)), blkE P16 42 (prefC (maskM a S) (S : Int)), blkE PX 29 x.cells, blkE PA 29 a.cells] wy7 from HM.out.put 1 rfl _ hg hb)
          clear hb hg
          refine hK.out _ _ (((HM.out.erase 0).erase 0)) (fun hHeld => ?_)
          clear hK K
          (try simp only [Act.put])
          refine wpAnyH_done (by kernel_rfl) ?_ _
          go_wp2_with fail
          go_meet
          exact ⟨P15, P16, rfl, rfl, HM.out.blk 3 rfl, HM.out.blk 2 rfl, HM.out.blk 0 rfl, HM.out.blk 1 rfl, HM.out.bel⟩
    case rest =>
    clear HM
    revert wc
    intro wb2 hcut
    obtain ⟨P15, P16, rfl, rfl, hcut⟩ := hcut
    have HB := Lib.hid hcut
    clear hcut
    go_wp2_with (first | (refine wpList_load_obj_g (by rfl) 42 (.tmp 15) rfl P15 0 rfl (prefC (maskM a L) (L : Int)) (HB.out.2.2.1.all) _ Try.underlying42 rfl (pref_cellsOf _ (maskM_ok a HAO.out L) _) ?_; rw [HPC.out.1]) | (refine wpList_load_obj_g (by rfl) 42 (.tmp 16) rfl P16 0 rfl (prefC (maskM a S) (S : Int)) (HB.out.2.2.2.1.all) _ Try.underlying42 rfl (pref_cellsOf _ (maskM_ok a HAO.out S) _) ?_; rw [HPC.out.2]) | (refine wpList_load_obj_g (by rfl) 29 (.tmp 10) rfl PA 0 rfl a.cells (HB.out.1.all) _ Try.underlying29 rfl HCO.out ?_; rw [HCA.out]) | (refine wpList_load_obj_g (by rfl) 29 (.tmp 14) rfl PX 0 rfl x.cells (HB.out.2.1.all) _ Try.underlying29 rfl HCOX.out ?_; rw [HCX.out]))
    refine (HV1.out _).mono ?_
    rintro e wc0 ⟨rfl, hb⟩
    replace HB := Lib.hid (show (Blk wc0 PA 29 a.cells ∧ Blk wc0 PX 29 x.cells ∧ Blk wc0 P15 42 (prefC (maskM a L) (L : Int)) ∧ Blk wc0 P16 42 (prefC (maskM a S) (S : Int)) ∧ Below w.heap.size w wc0) from ⟨HB.out.1.below hb HB.out.1.lt, HB.out.2.1.below hb HB.out.2.1.lt, HB.out.2.2.1.below hb HB.out.2.2.1.lt, HB.out.2.2.2.1.below hb HB.out.2.2.2.1.lt, HB.out.2.2.2.2.trans (hb.mono HB.out.2.2.2.2.size)⟩)
    clear hb
    go_wp2_with (first | (refine wpList_load_obj_g (by rfl) 42 (.tmp 15) rfl P15 0 rfl (prefC (maskM a L) (L : Int)) (HB.out.2.2.1.all) _ Try.underlying42 rfl (pref_cellsOf _ (maskM_ok a HAO.out L) _) ?_; rw [HPC.out.1]) | (refine wpList_load_obj_g (by rfl) 42 (.tmp 16) rfl P16 0 rfl (prefC (maskM a S) (S : Int)) (HB.out.2.2.2.1.all) _ Try.underlying42 rfl (pref_cellsOf _ (maskM_ok a HAO.out S) _) ?_; rw [HPC.out.2]) | (refine wpList_load_obj_g (by rfl) 29 (.tmp 10) rfl PA 0 rfl a.cells (HB.out.1.all) _ Try.underlying29 rfl HCO.out ?_; rw [HCA.out]) | (refine wpList_load_obj_g (by rfl) 29 (.tmp 14) rfl PX 0 rfl x.cells (HB.out.2.1.all) _ Try.underlying29 rfl HCOX.out ?_; rw [HCX.out]))
    refine (HV2.out _).mono ?_
    rintro e wc1 ⟨rfl, hb⟩
    replace HB := Lib.hid (show (Blk wc1 PA 29 a.cells ∧ Blk wc1 PX 29 x.cells ∧ Blk wc1 P15 42 (prefC (maskM a L) (L : Int)) ∧ Blk wc1 P16 42 (prefC (maskM a S) (S : Int)) ∧ Below w.heap.size w wc1) from ⟨HB.out.1.below hb HB.out.1.lt, HB.out.2.1.below hb HB.out.2.1.lt, HB.out.2.2.1.below hb HB.out.2.2.1.lt, HB.out.2.2.2.1.below hb HB.out.2.2.2.1.lt, HB.out.2.2.2.2.trans (hb.mono HB.out.2.2.2.2.size)⟩)
    clear hb
    go_wp2_with (first | (refine wpList_load_obj_g (by rfl) 42 (.tmp 15) rfl P15 0 rfl (prefC (maskM a L) (L : Int)) (HB.out.2.2.1.all) _ Try.underlying42 rfl (pref_cellsOf _ (maskM_ok a HAO.out L) _) ?_; rw [HPC.out.1]) | (refine wpList_load_obj_g (by rfl) 42 (.tmp 16) rfl P16 0 rfl (prefC (maskM a S) (S : Int)) (HB.out.2.2.2.1.all) _ Try.underlying42 rfl (pref_cellsOf _ (maskM_ok a HAO.out S) _) ?_; rw [HPC.out.2]) | (refine wpList_load_obj_g (by rfl) 29 (.tmp 10) rfl PA 0 rfl a.cells (HB.out.1.all) _ Try.underlying29 rfl HCO.out ?_; rw [HCA.out]) | (refine wpList_load_obj_g (by rfl) 29 (.tmp 14) rfl PX 0 rfl x.cells (HB.out.2.1.all) _ Try.underlying29 rfl HCOX.out ?_; rw [HCX.out]))
    refine (HC1.out _).mono ?_
    rintro e wc2 ⟨rfl, hb⟩
    replace HB := Lib.hid (show (Blk wc2 PA 29 a.cells ∧ Blk wc2 PX 29 x.cells ∧ Blk wc2 P15 42 (prefC (maskM a L) (L : Int)) ∧ Blk wc2 P16 42 (prefC (maskM a S) (S : Int)) ∧ Below w.heap.size w wc2) from ⟨HB.out.1.below hb HB.out.1.lt, HB.out.2.1.below hb HB.out.2.1.lt, HB.out.2.2.1.below hb HB.out.2.2.1.lt, HB.out.2.2.2.1.below hb HB.out.2.2.2.1.lt, HB.out.2.2.2.2.trans (hb.mono HB.out.2.2.2.2.size)⟩)
    clear hb
    go_wp2_with (first | (refine wpList_load_obj_g (by rfl) 42 (.tmp 15) rfl P15 0 rfl (prefC (maskM a L) (L : Int)) (HB.out.2.2.1.all) _ Try.underlying42 rfl (pref_cellsOf _ (maskM_ok a HAO.out L) _) ?_; rw [HPC.out.1]) | (refine wpList_load_obj_g (by rfl) 42 (.tmp 16) rfl P16 0 rfl (prefC (maskM a S) (S : Int)) (HB.out.2.2.2.1.all) _ Try.underlying42 rfl (pref_cellsOf _ (maskM_ok a HAO.out S) _) ?_; rw [HPC.out.2]) | (refine wpList_load_obj_g (by rfl) 29 (.tmp 10) rfl PA 0 rfl a.cells (HB.out.1.all) _ Try.underlying29 rfl HCO.out ?_; rw [HCA.out]) | (refine wpList_load_obj_g (by rfl) 29 (.tmp 14) rfl PX 0 rfl x.cells (HB.out.2.1.all) _ Try.underlying29 rfl HCOX.out ?_; rw [HCX.out]))
    refine (HC2.out _).mono ?_
    rintro e wc3 ⟨rfl, hb⟩
    replace HB := Lib.hid (show (Blk wc3 PA 29 a.cells ∧ Blk wc3 PX 29 x.cells ∧ Blk wc3 P15 42 (prefC (maskM a L) (L : Int)) ∧ Blk wc3 P16 42 (prefC (maskM a S) (S : Int)) ∧ Below w.heap.size w wc3) from ⟨HB.out.1.below hb HB.out.1.lt, HB.out.2.1.below hb HB.out.2.1.lt, HB.out.2.2.1.below hb HB.out.2.2.1.lt, HB.out.2.2.2.1.below hb HB.out.2.2.2.1.lt, HB.out.2.2.2.2.trans (hb.mono HB.out.2.2.2.2.size)⟩)
    clear hb
    go_wp2_with (first | (refine wpList_load_obj_g (by rfl) 42 (.tmp 15) rfl P15 0 rfl (prefC (maskM a L) (L : Int)) (HB.out.2.2.1.all) _ Try.underlying42 rfl (pref_cellsOf _ (maskM_ok a HAO.out L) _) ?_; rw [HPC.out.1]) | (refine wpList_load_obj_g (by rfl) 42 (.tmp 16) rfl P16 0 rfl (prefC (maskM a S) (S : Int)) (HB.out.2.2.2.1.all) _ Try.underlying42 rfl (pref_cellsOf _ (maskM_ok a HAO.out S) _) ?_; rw [HPC.out.2]) | (refine wpList_load_obj_g (by rfl) 29 (.tmp 10) rfl PA 0 rfl a.cells (HB.out.1.all) _ Try.underlying29 rfl HCO.out ?_; rw [HCA.out]) | (refine wpList_load_obj_g (by rfl) 29 (.tmp 14) rfl PX 0 rfl x.cells (HB.out.2.1.all) _ Try.underlying29 rfl HCOX.out ?_; rw [HCX.out]))
    refine (HC3.out _).mono ?_
    rintro e wc4 ⟨rfl, hb⟩
    replace HB := Lib.hid (show (Blk wc4 PA 29 a.cells ∧ Blk wc4 PX 29 x.cells ∧ Blk wc4 P15 42 (prefC (maskM a L) (L : Int)) ∧ Blk wc4 P16 42 (prefC (maskM a S) (S : Int)) ∧ Below w.heap.size w wc4) from ⟨HB.out.1.below hb HB.out.1.lt, HB.out.2.1.below hb HB.out.2.1.lt, HB.out.2.2.1.below hb HB.out.2.2.1.lt, HB.out.2.2.2.1.below hb HB.out.2.2.2.1.lt, HB.out.2.2.2.2.trans (hb.mono HB.out.2.2.2.2.size)⟩)
    clear hb
    cases b3 with
    | true =>
      obtain rfl : b4 = true := HNE.out rfl
      go_wp2_with (first | (refine wpList_load_obj_g (by rfl) 42 (.tmp 15) rfl P15 0 rfl (prefC (maskM a L) (L : Int)) (HB.out.2.2.1.all) _ Try.underlying42 rfl (pref_cellsOf _ (maskM_ok a HAO.out L) _) ?_; rw [HPC.out.1]) | (refine wpList_load_obj_g (by rfl) 42 (.tmp 16) rfl P16 0 rfl (prefC (maskM a S) (S : Int)) (HB.out.2.2.2.1.all) _ Try.underlying42 rfl (pref_cellsOf _ (maskM_ok a HAO.out S) _) ?_; rw [HPC.out.2]) | (refine wpList_load_obj_g (by rfl) 29 (.tmp 10) rfl PA 0 rfl a.cells (HB.out.1.all) _ Try.underlying29 rfl HCO.out ?_; rw [HCA.out]) | (refine wpList_load_obj_g (by rfl) 29 (.tmp 14) rfl PX 0 rfl x.cells (HB.out.2.1.all) _ Try.underlying29 rfl HCOX.out ?_; rw [HCX.out]))
      refine (HC4.out _).mono ?_
      rintro e wc5 ⟨rfl, hb⟩
      replace HB := Lib.hid (show (Blk wc5 PA 29 a.cells ∧ Blk wc5 PX 29 x.cells ∧ Blk wc5 P15 42 (prefC (maskM a L) (L : Int)) ∧ Blk wc5 P16 42 (prefC (maskM a S) (S : Int)) ∧ Below w.heap.size w wc5) from ⟨HB.out.1.below hb HB.out.1.lt, HB.out.2.1.below hb HB.out.2.1.lt, HB.out.2.2.1.below hb HB.out.2.2.1.lt, HB.out.2.2.2.1.below hb HB.out.2.2.2.1.lt, HB.out.2.2.2.2.trans (hb.mono HB.out.2.2.2.2.size)⟩)
      clear hb
      go_wp2_with (first | (refine wpList_load_obj_g (by rfl) 42 (.tmp 15) rfl P15 0 rfl (prefC (maskM a L) (L : Int)) (HB.out.2.2.1.all) _ Try.underlying42 rfl (pref_cellsOf _ (maskM_ok a HAO.out L) _) ?_; rw [HPC.out.1]) | (refine wpList_load_obj_g (by rfl) 42 (.tmp 16) rfl P16 0 rfl (prefC (maskM a S) (S : Int)) (HB.out.2.2.2.1.all) _ Try.underlying42 rfl (pref_cellsOf _ (maskM_ok a HAO.out S) _) ?_; rw [HPC.out.2]) | (refine wpList_load_obj_g (by rfl) 29 (.tmp 10) rfl PA 0 rfl a.cells (HB.out.1.all) _ Try.underlying29 rfl HCO.out ?_; rw [HCA.out]) | (refine wpList_load_obj_g (by rfl) 29 (.tmp 14) rfl PX 0 rfl x.cells (HB.out.2.1.all) _ Try.underlying29 rfl HCOX.out ?_; rw [HCX.out]))
      refine (HBG.out _).mono ?_
      rintro e wc6 ⟨rfl, hb⟩
      replace HB := Lib.hid (show (Blk wc6 PA 29 a.cells ∧ Blk wc6 PX 29 x.cells ∧ Blk wc6 P15 42 (prefC (maskM a L) (L : Int)) ∧ Blk wc6 P16 42 (prefC (maskM a S) (S : Int)) ∧ Below w.heap.size w wc6) from ⟨HB.out.1.below hb HB.out.1.lt, HB.out.2.1.below hb HB.out.2.1.lt, HB.out.2.2.1.below hb HB.out.2.2.1.lt, HB.out.2.2.2.1.below hb HB.out.2.2.2.1.lt, HB.out.2.2.2.2.trans (hb.mono HB.out.2.2.2.2.size)⟩)
      clear hb
      go_wp2_with (first | (refine wpList_load_obj_g (by rfl) 42 (.tmp 15) rfl P15 0 rfl (prefC (maskM a L) (L : Int)) (HB.out.2.2.1.all) _ Try.underlying42 rfl (pref_cellsOf _ (maskM_ok a HAO.out L) _) ?_; rw [HPC.out.1]) | (refine wpList_load_obj_g (by rfl) 42 (.tmp 16) rfl P16 0 rfl (prefC (maskM a S) (S : Int)) (HB.out.2.2.2.1.all) _ Try.underlying42 rfl (pref_cellsOf _ (maskM_ok a HAO.out S) _) ?_; rw [HPC.out.2]) | (refine wpList_load_obj_g (by rfl) 29 (.tmp 10) rfl PA 0 rfl a.cells (HB.out.1.all) _ Try.underlying29 rfl HCO.out ?_; rw [HCA.out]) | (refine wpList_load_obj_g (by rfl) 29 (.tmp 14) rfl PX 0 rfl x.cells (HB.out.2.1.all) _ Try.underlying29 rfl HCOX.out ?_; rw [HCX.out]))
      go_ret
      exact ⟨rfl, HB.out.2.2.2.2⟩
    | false =>
      go_wp2_with (first | (refine wpList_load_obj_g (by rfl) 42 (.tmp 15) rfl P15 0 rfl (prefC (maskM a L) (L : Int)) (HB.out.2.2.1.all) _ Try.underlying42 rfl (pref_cellsOf _ (maskM_ok a HAO.out L) _) ?_; rw [HPC.out.1]) | (refine wpList_load_obj_g (by rfl) 42 (.tmp 16) rfl P16 0 rfl (prefC (maskM a S) (S : Int)) (HB.out.2.2.2.1.all) _ Try.underlying42 rfl (pref_cellsOf _ (maskM_ok a HAO.out S) _) ?_; rw [HPC.out.2]) | (refine wpList_load_obj_g (by rfl) 29 (.tmp 10) rfl PA 0 rfl a.cells (HB.out.1.all) _ Try.underlying29 rfl HCO.out ?_; rw [HCA.out]) | (refine wpList_load_obj_g (by rfl) 29 (.tmp 14) rfl PX 0 rfl x.cells (HB.out.2.1.all) _ Try.underlying29 rfl HCOX.out ?_; rw [HCX.out]))
      refine (HBG.out _).mono ?_
      rintro e wc6 ⟨rfl, hb⟩
      replace HB := Lib.hid (show (Blk wc6 PA 29 a.cells ∧ Blk wc6 PX 29 x.cells ∧ Blk wc6 P15 42 (prefC (maskM a L) (L : Int)) ∧ Blk wc6 P16 42 (prefC (maskM a S) (S : Int)) ∧ Below w.heap.size w wc6) from ⟨HB.out.1.below hb HB.out.1.lt, HB.out.2.1.below hb HB.out.2.1.lt, HB.out.2.2.1.below hb HB.out.2.2.1.lt, HB.out.2.2.2.1.below hb HB.out.2.2.2.1.lt, HB.out.2.2.2.2.trans (hb.mono HB.out.2.2.2.2.size)⟩)
      clear hb
      go_wp2_with (first | (refine wpList_load_obj_g (by rfl) 42 (.tmp 15) rfl P15 0 rfl (prefC (maskM a L) (L : Int)) (HB.out.2.2.1.all) _ Try.underlying42 rfl (pref_cellsOf _ (maskM_ok a HAO.out L) _) ?_; rw [HPC.out.1]) | (refine wpList_load_obj_g (by rfl) 42 (.tmp 16) rfl P16 0 rfl (prefC (maskM a S) (S : Int)) (HB.out.2.2.2.1.all) _ Try.underlying42 rfl (pref_cellsOf _ (maskM_ok a HAO.out S) _) ?_; rw [HPC.out.2]) | (refine wpList_load_obj_g (by rfl) 29 (.tmp 10) rfl PA 0 rfl a.cells (HB.out.1.all) _ Try.underlying29 rfl HCO.out ?_; rw [HCA.out]) | (refine wpList_load_obj_g (by rfl) 29 (.tmp 14) rfl PX 0 rfl x.cells (HB.out.2.1.all) _ Try.underlying29 rfl HCOX.out ?_; rw [HCX.out]))
      go_ret
      exact ⟨rfl, HB.out.2.2.2.2⟩
end Go.Proofs.Ytdpdalkeafkhkaa
