/-
  The contracts of the choices that the statements are made of: Prefix. No statement is proved here.
-/
import Derived.Test.YtdpdalkeafkhkaaCodes4
namespace Go.Proofs.Ytdpdalkeafkhkaa
open Go.RowKit

/-- the bits of a prefix of choices, and the choices taken behind it -/
def codePn (l : List UInt8) (p : Nat) : Nat := if sixV l p then 129 else 33
def codePb (l : List UInt8) (p : Nat) : Nat := nextV l (codeAP l p) (codePn l p)
def codePP (l : List UInt8) (p : Nat) : Nat := nextP l (codeAP l p) (codePn l p)
theorem codePb_le (l : List UInt8) (p : Nat) : codePb l p ≤ 128 := by
  have h := nextV_lt l (codeAP l p) (codePn l p) (by unfold codePn; split <;> omega)
  have h2 : codePn l p ≤ 129 := by unfold codePn; split <;> omega
  unfold codePb
  omega
def codeM (l : List UInt8) (p : Nat) : AddrM := maskM (codeA l p) (codePb l p)
theorem codeM_ok (l : List UInt8) (p : Nat) : (codeM l p).ok := maskM_ok _ (codeA_ok l p) _
set_option maxRecDepth 100000 in
set_option maxHeartbeats 4000000 in
theorem casePrefix_any (g : Nat) (A : Option Addr) (n c : Nat) (l : List UInt8) (B : Nat) (p : Nat) (w : World) (hc : CodesAt w g A n c l B p) :
    Calls Try.prog 17 #[.pointer (some ⟨g, 0, none⟩)] w fun e w' => e = .returned (.agg (prefC (codeM l p) (codePb l p : Int)).toArray) ∧ CodesAt w' g A n c l B (codePP l p) ∧ w.grownBy w' (some g) := by
  rw [codeM]
  obtain ⟨v, hv⟩ : ∃ v, codePb l p = v := ⟨_, rfl⟩
  have hv128 : v ≤ 128 := hv ▸ codePb_le l p
  rw [hv]
  obtain ⟨ca, hca⟩ : ∃ x, (codeA l p).cells.toArray = x := ⟨_, rfl⟩
  obtain ⟨cp, hcp⟩ : ∃ x, (prefC (maskM (codeA l p) v) (v : Int)).toArray = x := ⟨_, rfl⟩
  have HK := Lib.hid (caseMasked_any (codeA l p) (codeA_ok l p) v hv128)
  have HAC := Lib.hid (caseAddr_any g A n c l B p)
  rw [hca, hcp] at HK
  rw [hca] at HAC
  rw [hcp]
  have HB := Lib.hid (And.intro hca hcp)
  have HV := Lib.hid hv
  have HO := Lib.hid (codeA_ok l p)
  have HMO := Lib.hid (maskM_ok _ HO.out v)
  have HLP := Lib.hid (prefC_length (maskM (codeA l p) v) HMO.out (v : Int))
  have HAL := Lib.hid (AddrM.cells_length HO.out)
  have HCO := Lib.hid (addr_cellsOf _ HO.out)
  clear hca hcp hv
  have hgl := hc.lt
  have HM := Lib.hid (show MemG w g [blkE w.heap.size 42 pref0] (w.alloc (.cells #[.bool false, .int .u8 0, .int .u8 0, .int .u8 0, .int .u8 0, .int .u8 0, .int .u8 0, .int .u8 0, .int .u8 0, .int .u8 0, .int .u8 0, .int .u8 0, .int .u8 0, .int .u8 0, .int .u8 0, .int .u8 0, .int .u8 0, .int .i64 0] 42)) from (MemG.nil w g).alloc rfl 42 #[.bool false, .int .u8 0, .int .u8 0, .int .u8 0, .int .u8 0, .int .u8 0, .int .u8 0, .int .u8 0, .int .u8 0, .int .u8 0, .int .u8 0, .int .u8 0, .int .u8 0, .int .u8 0, .int .u8 0, .int .u8 0, .int .u8 0, .int .i64 0] pref0 rfl)
  have HC := Lib.hid (hc.below ((Below.refl _ _).alloc (Nat.le_refl _) (.cells #[.bool false, .int .u8 0, .int .u8 0, .int .u8 0, .int .u8 0, .int .u8 0, .int .u8 0, .int .u8 0, .int .u8 0, .int .u8 0, .int .u8 0, .int .u8 0, .int .u8 0, .int .u8 0, .int .u8 0, .int .u8 0, .int .u8 0, .int .i64 0] 42)))
  clear hc
  go_enter Try.func17, Try.ntmps17
  go_upto_region 1 with fail
  generalize w.alloc (.cells #[.bool false, .int .u8 0, .int .u8 0, .int .u8 0, .int .u8 0, .int .u8 0, .int .u8 0, .int .u8 0, .int .u8 0, .int .u8 0, .int .u8 0, .int .u8 0, .int .u8 0, .int .u8 0, .int .u8 0, .int .u8 0, .int .u8 0, .int .i64 0] 42) = w1 at HM HC ⊢
  go_wp2_with fail
  refine (HAC.out w1 HC.out).mono ?_
  rintro e w2 ⟨rfl, hc2, hg2⟩
  replace HM := Lib.hid (HM.out.next hgl hg2)
  replace HC := Lib.hid hc2
  clear hc2 hg2
  have HA := Lib.hid (show MemG w g [blkE w2.heap.size 29 addr0.cells, blkE w.heap.size 42 pref0] (w2.alloc (.cells #[.bool false, .int .u8 0, .int .u8 0, .int .u8 0, .int .u8 0, .int .u8 0, .int .u8 0, .int .u8 0, .int .u8 0, .int .u8 0, .int .u8 0, .int .u8 0, .int .u8 0, .int .u8 0, .int .u8 0, .int .u8 0, .int .u8 0] 29)) from HM.out.alloc rfl 29 #[.bool false, .int .u8 0, .int .u8 0, .int .u8 0, .int .u8 0, .int .u8 0, .int .u8 0, .int .u8 0, .int .u8 0, .int .u8 0, .int .u8 0, .int .u8 0, .int .u8 0, .int .u8 0, .int .u8 0, .int .u8 0, .int .u8 0] addr0.cells rfl)
  have HC3 := Lib.hid (HC.out.below ((Below.refl _ _).alloc (Nat.le_refl _) (.cells #[.bool false, .int .u8 0, .int .u8 0, .int .u8 0, .int .u8 0, .int .u8 0, .int .u8 0, .int .u8 0, .int .u8 0, .int .u8 0, .int .u8 0, .int .u8 0, .int .u8 0, .int .u8 0, .int .u8 0, .int .u8 0, .int .u8 0] 29)))
  have hP3 := HC.out.lt
  go_upto_region 2 with (refine wpList_store_blk rfl 29 (.tmp 3) (.tmp 6) rfl w2.heap.size (codeA l p).cells rfl (by show Value.agg ca = _; rw [HB.out.1]) 29 addr0.cells (HA.out.blk 0 rfl) HCO.out (by rw [HAL.out]; rfl) (AddrM.one _) ?_; intro w4 hb hg)
  (try simp only [Act.put])
  replace HM := Lib.hid (show MemG w g [blkE w2.heap.size 29 (codeA l p).cells, blkE w.heap.size 42 pref0] w4 from HA.out.put 0 rfl _ hg hb)
  replace HC := Lib.hid (HC3.out.put hg hP3)
  clear HA HC3 hb hg hP3 HAC
  generalize w2.heap.size = P3 at HM ⊢
  have f6 := (HM.out.blk 0 rfl).cell 0
  rw [show (codeA l p).cells[0]? = some (.bool (sixV l p)) from rfl] at f6
  obtain ⟨sx, hsx⟩ : ∃ q, sixV l p = q := ⟨_, rfl⟩
  rw [hsx] at f6
  have HSX := Lib.hid hsx
  clear hsx
  cases sx with
  | true =>
    have HQ := Lib.hid (show nextV l (codeAP l p) 129 = v ∧ nextP l (codeAP l p) 129 = codePP l p from by rw [← HV.out, codePb, codePP, codePn, HSX.out]; exact ⟨rfl, rfl⟩)
    go_upto_region 5 with fail
    refine wp_region_held_drew (S := fun W' => Blk W' P3 29 (codeA l p).cells) (by kernel_rfl) (((HM.out.drew).blk 0 rfl)) (fun hHeld => ?_)
    replace HM := Lib.hid HM.out.drew
    replace HC := Lib.hid (HC.out.below ((Below.refl _ _).drew))
    generalize w4.drew = wd1 at HM HC hHeld ⊢
    refine take_first (v := .agg ca) 0 rfl (by kernel_rfl) (by kernel_rfl) (by kernel_rfl) (fun _ _ _ h => h) (by rw [← HB.out.1]; exact yields_load_obj (by rfl) 29 (.tmp 3) rfl P3 0 rfl (codeA l p).cells (fun w' hb => hb.all) _ Try.underlying29 rfl HCO.out) (by assumption) ?_
    (try simp only [Act.put, List.setIfInBounds_toArray, List.set_cons_zero, List.set_cons_succ])
    refine take_first (v := ?_) 1 rfl (by kernel_rfl) (by kernel_rfl) (by kernel_rfl) (fun _ _ _ h => h) (Or.inl ⟨by rfl, ?_⟩) (by assumption) ?_
    rotate_left
    · (intro w hSw; (try dsimp only at hSw); go_simp; try with_reducible rfl)
    (try simp only [Act.put, List.setIfInBounds_toArray, List.set_cons_zero, List.set_cons_succ])
    refine take_first (v := ?_) 2 rfl (by kernel_rfl) (by kernel_rfl) (by kernel_rfl) (fun _ _ _ h => h) (Or.inl ⟨by rfl, ?_⟩) (by assumption) ?_
    rotate_left
    · (intro w hSw; (try dsimp only at hSw); go_simp; try with_reducible rfl)
    (try simp only [Act.put, List.setIfInBounds_toArray, List.set_cons_zero, List.set_cons_succ])
    refine step_one 3 rfl (by kernel_rfl) (fun K hK => ?_)
    clear hHeld
    go_simp
    refine (HC.out.callNext 129 (by omega)).mono ?_
    rintro e wy2 ⟨rfl, hc2, hg2⟩
    replace HM := Lib.hid (show MemG w g [blkE P3 29 (codeA l p).cells, blkE w.heap.size 42 pref0] wy2 from HM.out.next hgl hg2)
    replace HC := Lib.hid hc2
    clear hc2 hg2
    rw [HQ.out.2] at HC
    rw [HQ.out.1]
    go_wp2_with fail
    refine hK.out _ _ ((HM.out.blk 0 rfl)) (fun hHeld => ?_)
    clear hK K
    (try simp only [Act.put, List.setIfInBounds_toArray, List.set_cons_zero, List.set_cons_succ])
    refine step_one 4 rfl (by kernel_rfl) (fun K hK => ?_)
    clear hHeld
    go_simp
    refine (HK.out _).mono ?_
    rintro e wy3 ⟨rfl, hb⟩
    replace HM := Lib.hid (show MemG w g [blkE P3 29 (codeA l p).cells, blkE w.heap.size 42 pref0] wy3 from HM.out.below hb)
    replace HC := Lib.hid (HC.out.below hb)
    clear hb
    go_wp2_with fail
    refine hK.out _ _ ((HM.out.blk 0 rfl)) (fun hHeld => ?_)
    clear hK K
    (try simp only [Act.put, List.setIfInBounds_toArray, List.set_cons_zero, List.set_cons_succ])
    refine step_one 5 rfl (by kernel_rfl) (fun K hK => ?_)
    clear hHeld
    refine step_store_blk _ rfl 42 (.tmp 2) (.tmp 13) rfl w.heap.size (prefC (maskM (codeA l p) v) (v : Int)) rfl (by show Value.agg cp = _; rw [HB.out.2]) 42 pref0 (HM.out.blk 1 rfl) (pref_cellsOf _ HMO.out _) (by rw [HLP.out]; rfl) (prefC_one _ _) ?_
    intro wy4 hb hg
    replace HM := Lib.hid (show MemG w g [blkE P3 29 (codeA l p).cells, blkE w.heap.size 42 (prefC (maskM (codeA l p) v) (v : Int))] wy4 from HM.out.put 1 rfl _ hg hb)
    replace HC := Lib.hid (HC.out.put hg hgl)
    clear hb hg
    refine hK.out _ _ ((HM.out.blk 0 rfl)) (fun hHeld => ?_)
    clear hK K
    (try simp only [Act.put])
    refine wpAnyH_done (by kernel_rfl) ?_ _
    clear hHeld
    revert wy4
    intro w9 HM HC
    go_wp2_with fail
    have hb9 := HM.out.blk 1 rfl
    exact bodyPost_ret (results_obj rfl _ _ w.heap.size 42 (prefC (maskM (codeA l p) v) (v : Int)) _ rfl hb9 Try.underlying42 rfl (pref_cellsOf _ HMO.out _)) rfl ⟨by rw [HB.out.2], HC.out, HM.out.2⟩
  | false =>
    have HQ := Lib.hid (show nextV l (codeAP l p) 33 = v ∧ nextP l (codeAP l p) 33 = codePP l p from by rw [← HV.out, codePb, codePP, codePn, HSX.out]; exact ⟨rfl, rfl⟩)
    go_upto_region 5 with fail
    refine wp_region_held_drew (S := fun W' => Blk W' P3 29 (codeA l p).cells) (by kernel_rfl) (((HM.out.drew).blk 0 rfl)) (fun hHeld => ?_)
    replace HM := Lib.hid HM.out.drew
    replace HC := Lib.hid (HC.out.below ((Below.refl _ _).drew))
    generalize w4.drew = wd1 at HM HC hHeld ⊢
    refine take_first (v := .agg ca) 0 rfl (by kernel_rfl) (by kernel_rfl) (by kernel_rfl) (fun _ _ _ h => h) (by rw [← HB.out.1]; exact yields_load_obj (by rfl) 29 (.tmp 3) rfl P3 0 rfl (codeA l p).cells (fun w' hb => hb.all) _ Try.underlying29 rfl HCO.out) (by assumption) ?_
    (try simp only [Act.put, List.setIfInBounds_toArray, List.set_cons_zero, List.set_cons_succ])
    refine take_first (v := ?_) 1 rfl (by kernel_rfl) (by kernel_rfl) (by kernel_rfl) (fun _ _ _ h => h) (Or.inl ⟨by rfl, ?_⟩) (by assumption) ?_
    rotate_left
    · (intro w hSw; (try dsimp only at hSw); go_simp; try with_reducible rfl)
    (try simp only [Act.put, List.setIfInBounds_toArray, List.set_cons_zero, List.set_cons_succ])
    refine take_first (v := ?_) 2 rfl (by kernel_rfl) (by kernel_rfl) (by kernel_rfl) (fun _ _ _ h => h) (Or.inl ⟨by rfl, ?_⟩) (by assumption) ?_
    rotate_left
    · (intro w hSw; (try dsimp only at hSw); go_simp; try with_reducible rfl)
    (try simp only [Act.put, List.setIfInBounds_toArray, List.set_cons_zero, List.set_cons_succ])
    refine step_one 3 rfl (by kernel_rfl) (fun K hK => ?_)
    clear hHeld
    go_simp
    refine (HC.out.callNext 33 (by omega)).mono ?_
    rintro e wy2 ⟨rfl, hc2, hg2⟩
    replace HM := Lib.hid (show MemG w g [blkE P3 29 (codeA l p).cells, blkE w.heap.size 42 pref0] wy2 from HM.out.next hgl hg2)
    replace HC := Lib.hid hc2
    clear hc2 hg2
    rw [HQ.out.2] at HC
    rw [HQ.out.1]
    go_wp2_with fail
    refine hK.out _ _ ((HM.out.blk 0 rfl)) (fun hHeld => ?_)
    clear hK K
    (try simp only [Act.put, List.setIfInBounds_toArray, List.set_cons_zero, List.set_cons_succ])
    refine step_one 4 rfl (by kernel_rfl) (fun K hK => ?_)
    clear hHeld
    go_simp
    refine (HK.out _).mono ?_
    rintro e wy3 ⟨rfl, hb⟩
    replace HM := Lib.hid (show MemG w g [blkE P3 29 (codeA l p).cells, blkE w.heap.size 42 pref0] wy3 from HM.out.below hb)
    replace HC := Lib.hid (HC.out.below hb)
    clear hb
    go_wp2_with fail
    refine hK.out _ _ ((HM.out.blk 0 rfl)) (fun hHeld => ?_)
    clear hK K
    (try simp only [Act.put, List.setIfInBounds_toArray, List.set_cons_zero, List.set_cons_succ])
    refine step_one 5 rfl (by kernel_rfl) (fun K hK => ?_)
    clear hHeld
    refine step_store_blk _ rfl 42 (.tmp 2) (.tmp 13) rfl w.heap.size (prefC (maskM (codeA l p) v) (v : Int)) rfl (by show Value.agg cp = _; rw [HB.out.2]) 42 pref0 (HM.out.blk 1 rfl) (pref_cellsOf _ HMO.out _) (by rw [HLP.out]; rfl) (prefC_one _ _) ?_
    intro wy4 hb hg
    replace HM := Lib.hid (show MemG w g [blkE P3 29 (codeA l p).cells, blkE w.heap.size 42 (prefC (maskM (codeA l p) v) (v : Int))] wy4 from HM.out.put 1 rfl _ hg hb)
    replace HC := Lib.hid (HC.out.put hg hgl)
    clear hb hg
    refine hK.out _ _ ((HM.out.blk 0 rfl)) (fun hHeld => ?_)
    clear hK K
    (try simp only [Act.put])
    refine wpAnyH_done (by kernel_rfl) ?_ _
    clear hHeld
    revert wy4
    intro w9 HM HC
    go_wp2_with fail
    have hb9 := HM.out.blk 1 rfl
    exact bodyPost_ret (results_obj rfl _ _ w.heap.size 42 (prefC (maskM (codeA l p) v) (v : Int)) _ rfl hb9 Try.underlying42 rfl (pref_cellsOf _ HMO.out _)) rfl ⟨by rw [HB.out.2], HC.out, HM.out.2⟩
end Go.Proofs.Ytdpdalkeafkhkaa
