/-
  The contracts of the choices that the statements are made of: Prefix. The sanity check of layer 13 holds, over what is asked of FormatPrefix and ParsePrefix. The bits of an exclusive or of two bytes. When an address lies in a prefix. Prefixes that are addresses with bits cleared: valid, and what they contain. ConfigAddressesReturn returns true for every input, over what is asked of the functions: the walk. What a walk keeps of what lies under the world's size, whoever made it: a list of facts that whatever is made above leaves alone. The bytes of a text, laid in memory of the call. ConfigAddresses returns true for every input, over what is asked of the functions: the walk. No statement is proved here.
-/
import Derived.Deep.DeepCutAuto
import Derived.Lib.ConvBytes
import Derived.Test.YtkhghmmgegkiiaaGreatDoorConfigAddressesB5
namespace Go.Proofs.YtkhghmmgegkiiaaGreatDoor
open Go.RowKit

/-- the bits of a prefix of choices, and the choices taken behind it -/
def codePn (l : List UInt8) (p : Nat) : Nat := if sixV l p then 129 else 33
def codePb (l : List UInt8) (p : Nat) : Nat := nextV l (codeAP l p) (codePn l p)
def codePP (l : List UInt8) (p : Nat) : Nat := nextP l (codeAP l p) (codePn l p)
theorem codePb_le (l : List UInt8) (p : Nat) : codePb l p ≤ 128 := by
  have h := nextV_lt l (codeAP l p) (codePn l p) (by unfold codePn; split <;> omega)
  have h2 : codePn l p ≤ 129 := by unfold codePn; split <;> omega
  unfold codePb
  omega
def codeM (l : List UInt8) (p : Nat) : AddrM := maskM (codeA l p) (codePb l p)
theorem codeM_ok (l : List UInt8) (p : Nat) : (codeM l p).ok := maskM_ok _ (codeA_ok l p) _
set_option maxRecDepth 100000 in
set_option maxHeartbeats 4000000 in
theorem casePrefix_any (g : Nat) (A : Option Addr) (n c : Nat) (l : List UInt8) (B : Nat) (p : Nat) (w : World) (hc : CodesAt w g A n c l B p) :
    Calls Tryz.prog 11 #[.pointer (some ⟨g, 0, none⟩)] w fun e w' => e = .returned (.agg (prefC (codeM l p) (codePb l p : Int)).toArray) ∧ CodesAt w' g A n c l B (codePP l p) ∧ w.grownBy w' (some g) := by
  rw [codeM]
  obtain ⟨v, hv⟩ : ∃ v, codePb l p = v := ⟨_, rfl⟩
  have hv128 : v ≤ 128 := hv ▸ codePb_le l p
  rw [hv]
  obtain ⟨ca, hca⟩ : ∃ x, (codeA l p).cells.toArray = x := ⟨_, rfl⟩
  obtain ⟨cp, hcp⟩ : ∃ x, (prefC (maskM (codeA l p) v) (v : Int)).toArray = x := ⟨_, rfl⟩
  have HK := Lib.hid (caseMasked_any (codeA l p) (codeA_ok l p) v hv128)
  have HAC := Lib.hid (caseAddr_any g A n c l B p)
  rw [hca, hcp] at HK
  rw [hca] at HAC
  rw [hcp]
  have HB := Lib.hid (And.intro hca hcp)
  have HV := Lib.hid hv
  have HO := Lib.hid (codeA_ok l p)
  have HMO := Lib.hid (maskM_ok _ HO.out v)
  have HLP := Lib.hid (prefC_length (maskM (codeA l p) v) HMO.out (v : Int))
  have HAL := Lib.hid (AddrM.cells_length HO.out)
  have HCO := Lib.hid (addr_cellsOf _ HO.out)
  clear hca hcp hv
  have hgl := hc.lt
  have HM := Lib.hid (show MemG w g [blkE w.heap.size 29 pref0] (w.alloc (.cells #[.bool false, .int .u8 0, .int .u8 0, .int .u8 0, .int .u8 0, .int .u8 0, .int .u8 0, .int .u8 0, .int .u8 0, .int .u8 0, .int .u8 0, .int .u8 0, .int .u8 0, .int .u8 0, .int .u8 0, .int .u8 0, .int .u8 0, .int .i64 0] 29)) from (MemG.nil w g).alloc rfl 29 #[.bool false, .int .u8 0, .int .u8 0, .int .u8 0, .int .u8 0, .int .u8 0, .int .u8 0, .int .u8 0, .int .u8 0, .int .u8 0, .int .u8 0, .int .u8 0, .int .u8 0, .int .u8 0, .int .u8 0, .int .u8 0, .int .u8 0, .int .i64 0] pref0 rfl)
  have HC := Lib.hid (hc.below ((Below.refl _ _).alloc (Nat.le_refl _) (.cells #[.bool false, .int .u8 0, .int .u8 0, .int .u8 0, .int .u8 0, .int .u8 0, .int .u8 0, .int .u8 0, .int .u8 0, .int .u8 0, .int .u8 0, .int .u8 0, .int .u8 0, .int .u8 0, .int .u8 0, .int .u8 0, .int .u8 0, .int .i64 0] 29)))
  clear hc
  go_enter Tryz.func11, Tryz.ntmps11
  go_upto_region 1 with fail
  generalize w.alloc (.cells #[.bool false, .int .u8 0, .int .u8 0, .int .u8 0, .int .u8 0, .int .u8 0, .int .u8 0, .int .u8 0, .int .u8 0, .int .u8 0, .int .u8 0, .int .u8 0, .int .u8 0, .int .u8 0, .int .u8 0, .int .u8 0, .int .u8 0, .int .i64 0] 29) = w1 at HM HC ⊢
  go_wp2_with fail
  refine (HAC.out w1 HC.out).mono ?_
  rintro e w2 ⟨rfl, hc2, hg2⟩
  replace HM := Lib.hid (HM.out.next hgl hg2)
  replace HC := Lib.hid hc2
  clear hc2 hg2
  have HA := Lib.hid (show MemG w g [blkE w2.heap.size 25 addr0.cells, blkE w.heap.size 29 pref0] (w2.alloc (.cells #[.bool false, .int .u8 0, .int .u8 0, .int .u8 0, .int .u8 0, .int .u8 0, .int .u8 0, .int .u8 0, .int .u8 0, .int .u8 0, .int .u8 0, .int .u8 0, .int .u8 0, .int .u8 0, .int .u8 0, .int .u8 0, .int .u8 0] 25)) from HM.out.alloc rfl 25 #[.bool false, .int .u8 0, .int .u8 0, .int .u8 0, .int .u8 0, .int .u8 0, .int .u8 0, .int .u8 0, .int .u8 0, .int .u8 0, .int .u8 0, .int .u8 0, .int .u8 0, .int .u8 0, .int .u8 0, .int .u8 0, .int .u8 0] addr0.cells rfl)
  have HC3 := Lib.hid (HC.out.below ((Below.refl _ _).alloc (Nat.le_refl _) (.cells #[.bool false, .int .u8 0, .int .u8 0, .int .u8 0, .int .u8 0, .int .u8 0, .int .u8 0, .int .u8 0, .int .u8 0, .int .u8 0, .int .u8 0, .int .u8 0, .int .u8 0, .int .u8 0, .int .u8 0, .int .u8 0, .int .u8 0] 25)))
  have hP3 := HC.out.lt
  go_upto_region 2 with (refine wpList_store_blk rfl 25 (.tmp 3) (.tmp 6) rfl w2.heap.size (codeA l p).cells rfl (by show Value.agg ca = _; rw [HB.out.1]) 25 addr0.cells (HA.out.blk 0 rfl) HCO.out (by rw [HAL.out]; rfl) (AddrM.one _) ?_; intro w4 hb hg)
  (try simp only [Act.put])
  replace HM := Lib.hid (show MemG w g [blkE w2.heap.size 25 (codeA l p).cells, blkE w.heap.size 29 pref0] w4 from HA.out.put 0 rfl _ hg hb)
  replace HC := Lib.hid (HC3.out.put hg hP3)
  clear HA HC3 hb hg hP3 HAC
  generalize w2.heap.size = P3 at HM ⊢
  have f6 := (HM.out.blk 0 rfl).cell 0
  rw [show (codeA l p).cells[0]? = some (.bool (sixV l p)) from rfl] at f6
  obtain ⟨sx, hsx⟩ : ∃ q, sixV l p = q := ⟨_, rfl⟩
  rw [hsx] at f6
  have HSX := Lib.hid hsx
  clear hsx
  cases sx with
  | true =>
    have HQ := Lib.hid (show nextV l (codeAP l p) 129 = v ∧ nextP l (codeAP l p) 129 = codePP l p from by rw [← HV.out, codePb, codePP, codePn, HSX.out]; exact ⟨rfl, rfl⟩)
    go_upto_region 5 with fail
    refine wp_region_held_drew (S := fun W' => Blk W' P3 25 (codeA l p).cells) (by kernel_rfl) (((HM.out.drew).blk 0 rfl)) (fun hHeld => ?_)
    replace HM := Lib.hid HM.out.drew
    replace HC := Lib.hid (HC.out.below ((Below.refl _ _).drew))
    generalize w4.drew = wd1 at HM HC hHeld ⊢
    refine take_first (v := .agg ca) 0 rfl (by kernel_rfl) (by kernel_rfl) (by kernel_rfl) (fun _ _ _ h => h) (by rw [← HB.out.1]; exact yields_load_obj (by rfl) 25 (.tmp 3) rfl P3 0 rfl (codeA l p).cells (fun w' hb => hb.all) _ Tryz.underlying25 rfl HCO.out) (by assumption) ?_
    (try simp only [Act.put, List.setIfInBounds_toArray, List.set_cons_zero, List.set_cons_succ])
    refine take_first (v := ?_) 1 rfl (by kernel_rfl) (by kernel_rfl) (by kernel_rfl) (fun _ _ _ h => h) (Or.inl ⟨by rfl, ?_⟩) (by assumption) ?_
    rotate_left
    · (intro w hSw; (try dsimp only at hSw); go_simp; try with_reducible rfl)
    (try simp only [Act.put, List.setIfInBounds_toArray, List.set_cons_zero, List.set_cons_succ])
    refine take_first (v := ?_) 2 rfl (by kernel_rfl) (by kernel_rfl) (by kernel_rfl) (fun _ _ _ h => h) (Or.inl ⟨by rfl, ?_⟩) (by assumption) ?_
    rotate_left
    · (intro w hSw; (try dsimp only at hSw); go_simp; try with_reducible rfl)
    (try simp only [Act.put, List.setIfInBounds_toArray, List.set_cons_zero, List.set_cons_succ])
    refine step_one 3 rfl (by kernel_rfl) (fun K hK => ?_)
    clear hHeld
    go_simp
    refine (HC.out.callNext 129 (by omega)).mono ?_
    rintro e wy2 ⟨rfl, hc2, hg2⟩
    replace HM := Lib.hid (show MemG w g [blkE P3 25 (codeA l p).cells, blkE w.heap.size 29 pref0] wy2 from HM.out.next hgl hg2)
    replace HC := Lib.hid hc2
    clear hc2 hg2
    rw [HQ.out.2] at HC
    rw [HQ.out.1]
    go_wp2_with fail
    refine hK.out _ _ ((HM.out.blk 0 rfl)) (fun hHeld => ?_)
    clear hK K
    (try simp only [Act.put, List.setIfInBounds_toArray, List.set_cons_zero, List.set_cons_succ])
    refine step_one 4 rfl (by kernel_rfl) (fun K hK => ?_)
    clear hHeld
    go_simp
    refine (HK.out _).mono ?_
    rintro e wy3 ⟨rfl, hb⟩
    replace HM := Lib.hid (show MemG w g [blkE P3 25 (codeA l p).cells, blkE w.heap.size 29 pref0] wy3 from HM.out.below hb)
    replace HC := Lib.hid (HC.out.below hb)
    clear hb
    go_wp2_with fail
    refine hK.out _ _ ((HM.out.blk 0 rfl)) (fun hHeld => ?_)
    clear hK K
    (try simp only [Act.put, List.setIfInBounds_toArray, List.set_cons_zero, List.set_cons_succ])
    refine step_one 5 rfl (by kernel_rfl) (fun K hK => ?_)
    clear hHeld
    refine step_store_blk _ rfl 29 (.tmp 2) (.tmp 13) rfl w.heap.size (prefC (maskM (codeA l p) v) (v : Int)) rfl (by show Value.agg cp = _; rw [HB.out.2]) 29 pref0 (HM.out.blk 1 rfl) (pref_cellsOf _ HMO.out _) (by rw [HLP.out]; rfl) (prefC_one _ _) ?_
    intro wy4 hb hg
    replace HM := Lib.hid (show MemG w g [blkE P3 25 (codeA l p).cells, blkE w.heap.size 29 (prefC (maskM (codeA l p) v) (v : Int))] wy4 from HM.out.put 1 rfl _ hg hb)
    replace HC := Lib.hid (HC.out.put hg hgl)
    clear hb hg
    refine hK.out _ _ ((HM.out.blk 0 rfl)) (fun hHeld => ?_)
    clear hK K
    (try simp only [Act.put])
    refine wpAnyH_done (by kernel_rfl) ?_ _
    clear hHeld
    revert wy4
    intro w9 HM HC
    go_wp2_with fail
    have hb9 := HM.out.blk 1 rfl
    exact bodyPost_ret (results_obj rfl _ _ w.heap.size 29 (prefC (maskM (codeA l p) v) (v : Int)) _ rfl hb9 Tryz.underlying29 rfl (pref_cellsOf _ HMO.out _)) rfl ⟨by rw [HB.out.2], HC.out, HM.out.2⟩
  | false =>
    have HQ := Lib.hid (show nextV l (codeAP l p) 33 = v ∧ nextP l (codeAP l p) 33 = codePP l p from by rw [← HV.out, codePb, codePP, codePn, HSX.out]; exact ⟨rfl, rfl⟩)
    go_upto_region 5 with fail
    refine wp_region_held_drew (S := fun W' => Blk W' P3 25 (codeA l p).cells) (by kernel_rfl) (((HM.out.drew).blk 0 rfl)) (fun hHeld => ?_)
    replace HM := Lib.hid HM.out.drew
    replace HC := Lib.hid (HC.out.below ((Below.refl _ _).drew))
    generalize w4.drew = wd1 at HM HC hHeld ⊢
    refine take_first (v := .agg ca) 0 rfl (by kernel_rfl) (by kernel_rfl) (by kernel_rfl) (fun _ _ _ h => h) (by rw [← HB.out.1]; exact yields_load_obj (by rfl) 25 (.tmp 3) rfl P3 0 rfl (codeA l p).cells (fun w' hb => hb.all) _ Tryz.underlying25 rfl HCO.out) (by assumption) ?_
    (try simp only [Act.put, List.setIfInBounds_toArray, List.set_cons_zero, List.set_cons_succ])
    refine take_first (v := ?_) 1 rfl (by kernel_rfl) (by kernel_rfl) (by kernel_rfl) (fun _ _ _ h => h) (Or.inl ⟨by rfl, ?_⟩) (by assumption) ?_
    rotate_left
    · (intro w hSw; (try dsimp only at hSw); go_simp; try with_reducible rfl)
    (try simp only [Act.put, List.setIfInBounds_toArray, List.set_cons_zero, List.set_cons_succ])
    refine take_first (v := ?_) 2 rfl (by kernel_rfl) (by kernel_rfl) (by kernel_rfl) (fun _ _ _ h => h) (Or.inl ⟨by rfl, ?_⟩) (by assumption) ?_
    rotate_left
    · (intro w hSw; (try dsimp only at hSw); go_simp; try with_reducible rfl)
    (try simp only [Act.put, List.setIfInBounds_toArray, List.set_cons_zero, List.set_cons_succ])
    refine step_one 3 rfl (by kernel_rfl) (fun K hK => ?_)
    clear hHeld
    go_simp
    refine (HC.out.callNext 33 (by omega)).mono ?_
    rintro e wy2 ⟨rfl, hc2, hg2⟩
    replace HM := Lib.hid (show MemG w g [blkE P3 25 (codeA l p).cells, blkE w.heap.size 29 pref0] wy2 from HM.out.next hgl hg2)
    replace HC := Lib.hid hc2
    clear hc2 hg2
    rw [HQ.out.2] at HC
    rw [HQ.out.1]
    go_wp2_with fail
    refine hK.out _ _ ((HM.out.blk 0 rfl)) (fun hHeld => ?_)
    clear hK K
    (try simp only [Act.put, List.setIfInBounds_toArray, List.set_cons_zero, List.set_cons_succ])
    refine step_one 4 rfl (by kernel_rfl) (fun K hK => ?_)
    clear hHeld
    go_simp
    refine (HK.out _).mono ?_
    rintro e wy3 ⟨rfl, hb⟩
    replace HM := Lib.hid (show MemG w g [blkE P3 25 (codeA l p).cells, blkE w.heap.size 29 pref0] wy3 from HM.out.below hb)
    replace HC := Lib.hid (HC.out.below hb)
    clear hb
    go_wp2_with fail
    refine hK.out _ _ ((HM.out.blk 0 rfl)) (fun hHeld => ?_)
    clear hK K
    (try simp only [Act.put, List.setIfInBounds_toArray, List.set_cons_zero, List.set_cons_succ])
    refine step_one 5 rfl (by kernel_rfl) (fun K hK => ?_)
    clear hHeld
    refine step_store_blk _ rfl 29 (.tmp 2) (.tmp 13) rfl w.heap.size (prefC (maskM (codeA l p) v) (v : Int)) rfl (by show Value.agg cp = _; rw [HB.out.2]) 29 pref0 (HM.out.blk 1 rfl) (pref_cellsOf _ HMO.out _) (by rw [HLP.out]; rfl) (prefC_one _ _) ?_
    intro wy4 hb hg
    replace HM := Lib.hid (show MemG w g [blkE P3 25 (codeA l p).cells, blkE w.heap.size 29 (prefC (maskM (codeA l p) v) (v : Int))] wy4 from HM.out.put 1 rfl _ hg hb)
    replace HC := Lib.hid (HC.out.put hg hgl)
    clear hb hg
    refine hK.out _ _ ((HM.out.blk 0 rfl)) (fun hHeld => ?_)
    clear hK K
    (try simp only [Act.put])
    refine wpAnyH_done (by kernel_rfl) ?_ _
    clear hHeld
    revert wy4
    intro w9 HM HC
    go_wp2_with fail
    have hb9 := HM.out.blk 1 rfl
    exact bodyPost_ret (results_obj rfl _ _ w.heap.size 29 (prefC (maskM (codeA l p) v) (v : Int)) _ rfl hb9 Tryz.underlying29 rfl (pref_cellsOf _ HMO.out _)) rfl ⟨by rw [HB.out.2], HC.out, HM.out.2⟩
end Go.Proofs.YtkhghmmgegkiiaaGreatDoor
namespace Go.Proofs.YtkhghmmgegkiiaaGreatDoor
open Go.RowKit

theorem begun_parse : prefP [49, 48, 46, 48, 46, 48, 46, 49, 47, 56] = ((addr0, 0), 5) := by kernel_rfl
theorem begun_format : prefT (maskM (hostM 0 0) 8) (8 : Int) = [49, 48, 46, 48, 46, 48, 46, 48, 47, 56] := by
  have hv : validM (maskM (hostM 0 0) 8) (8 : Int) = true := by decide +kernel
  have hs : soundM (maskM (hostM 0 0) 8) = true := by decide +kernel
  have h6 : (maskM (hostM 0 0) 8).six = false := rfl
  have e : ((List.range 4).map fun i => decT ((maskM (hostM 0 0) 8).ip.getD i 0).toNat) = [decT 10, decT 0, decT 0, decT 0] := by
    have h0 : ((maskM (hostM 0 0) 8).ip.getD 0 0).toNat = 10 := by decide +kernel
    have h1 : ((maskM (hostM 0 0) 8).ip.getD 1 0).toNat = 0 := by decide +kernel
    have h2 : ((maskM (hostM 0 0) 8).ip.getD 2 0).toNat = 0 := by decide +kernel
    have h3 : ((maskM (hostM 0 0) 8).ip.getD 3 0).toNat = 0 := by decide +kernel
    rw [range4]
    simp only [List.map_cons, List.map_nil, h0, h1, h2, h3]
  rw [prefT, if_neg (by rw [hv]; decide), addrT, if_neg (by rw [hs]; decide), if_neg (by rw [h6]; decide), e, show (8 : Int).toNat = 8 from rfl, show decT 10 = [49, 48] from by rw [decT_big (by omega), decT_small (by omega)]; rfl, show decT 0 = [48] from by rw [decT_small (by omega)]; rfl, show decT 8 = [56] from by rw [decT_small (by omega)]; rfl]
  rfl
set_option maxRecDepth 100000 in
set_option maxHeartbeats 4000000 in
theorem cf_begun_any (HFP : CfFmtPrefC 19) (HPP : CfParsePrefC 23) (w : World) (hlv : LvCf w) : Calls Tryz.prog 20 #[] w fun e w' => e = .returned (.bool true) ∧ Below w.heap.size w w' := by
  have HLV := Lib.hid hlv
  have hok0 : (hostM 0 0).ok := rfl
  have hok : (maskM (hostM 0 0) 8).ok := maskM_ok _ hok0 8
  have HH := Lib.hid (fun W : World => (show Calls Tryz.prog 51 #[.int .i64 0, .int .i64 0] W (fun e w' => e = .returned (.agg (hostM 0 0).cells.toArray) ∧ Below W.heap.size W w') from caseHost_any 0 0 W))
  have HK := Lib.hid (fun W : World => (show Calls Tryz.prog 37 #[.agg (hostM 0 0).cells.toArray, .int .i64 8] W (fun e w' => e = .returned (.agg (prefC (maskM (hostM 0 0) 8) (8 : Int)).toArray) ∧ Below W.heap.size W w') from caseMasked_any (hostM 0 0) hok0 8 (by omega) W))
  have HP := Lib.hid (fun (W : World) (hW : LvCf W) => (show Calls Tryz.prog 23 #[.string ⟨#[49, 48, 46, 48, 46, 48, 46, 49, 47, 56]⟩] W (fun e w' => e = .returned (.tuple #[.agg (prefC addr0 0).toArray, .int .i64 5]) ∧ Below W.heap.size W w') from by
    have h := HPP [49, 48, 46, 48, 46, 48, 46, 49, 47, 56] (by decide) W hW
    rw [begun_parse] at h
    exact h))
  have HF := Lib.hid (fun (W : World) (hW : LvCf W) => (show Calls Tryz.prog 19 #[.agg (prefC (maskM (hostM 0 0) 8) (8 : Int)).toArray] W (fun e w' => e = .returned (.string ⟨#[49, 48, 46, 48, 46, 48, 46, 48, 47, 56]⟩) ∧ Below W.heap.size W w') from by
    have h := HFP (maskM (hostM 0 0) 8) hok 8 (by omega) (by omega) W hW
    rw [begun_format] at h
    exact h))
  have HUP := Lib.hid (pref_cellsOf (maskM (hostM 0 0) 8) hok (8 : Int))
  have HU0 := Lib.hid (pref_cellsOf addr0 addr0_ok 0)
  have HZP := Lib.hid (show (prefC addr0 0).length = (prefC (maskM (hostM 0 0) 8) (8 : Int)).length from (prefC_length addr0 addr0_ok 0).trans (prefC_length _ hok _).symm)
  obtain ⟨ch, hch⟩ : ∃ z, (hostM 0 0).cells.toArray = z := ⟨_, rfl⟩
  obtain ⟨cm, hcm⟩ : ∃ z, (prefC (maskM (hostM 0 0) 8) (8 : Int)).toArray = z := ⟨_, rfl⟩
  obtain ⟨c0, hc0⟩ : ∃ z, (prefC addr0 0).toArray = z := ⟨_, rfl⟩
  rw [hch] at HH HK
  rw [hcm] at HK HF
  rw [hc0] at HP
  have HCM := Lib.hid hcm
  have HC0 := Lib.hid hc0
  have HM := Lib.hid (Mem.nil w)
  clear hch hcm hc0 hok0 hlv
  generalize maskM (hostM 0 0) 8 = mm at HCM HUP HZP
  go_enter Tryz.func20, Tryz.ntmps20
  go_wp2_with fail
  refine (HH.out _).mono ?_
  rintro e w1 ⟨rfl, hb⟩
  replace HM := Lib.hid (HM.out.below hb)
  clear hb HH
  go_wp2_with fail
  refine (HK.out _).mono ?_
  rintro e w2 ⟨rfl, hb⟩
  replace HM := Lib.hid (HM.out.below hb)
  have HMZ := Lib.hid (show Mem w [blkE w2.heap.size 29 (prefC addr0 0)] (w2.alloc (.cells #[.bool false, .int .u8 0, .int .u8 0, .int .u8 0, .int .u8 0, .int .u8 0, .int .u8 0, .int .u8 0, .int .u8 0, .int .u8 0, .int .u8 0, .int .u8 0, .int .u8 0, .int .u8 0, .int .u8 0, .int .u8 0, .int .u8 0, .int .i64 0] 29)) from HM.out.alloc rfl 29 #[.bool false, .int .u8 0, .int .u8 0, .int .u8 0, .int .u8 0, .int .u8 0, .int .u8 0, .int .u8 0, .int .u8 0, .int .u8 0, .int .u8 0, .int .u8 0, .int .u8 0, .int .u8 0, .int .u8 0, .int .u8 0, .int .u8 0, .int .i64 0] (prefC addr0 0) rfl)
  clear hb HK HM
  go_upto_region 2 with (refine wpList_store_blk rfl 29 (.tmp 1) (.tmp 5) rfl w2.heap.size (prefC mm (8 : Int)) rfl (by show Value.agg cm = _; rw [HCM.out]) 29 (prefC addr0 0) (HMZ.out.blk 0 rfl) HUP.out HZP.out (prefC_one _ _) ?_; intro w3 hb3 hg3)
  (try simp only [Act.put])
  have hm3 := HMZ.out.put 0 rfl _ hg3 hb3
  clear hb3 hg3 HMZ
  generalize w2.heap.size = g1 at hm3 ⊢
  have HM := Lib.hid (show Mem w [blkE g1 29 (prefC mm (8 : Int))] w3 from hm3)
  clear hm3
  go_wp2_with fail
  refine (HP.out _ (HLV.out.below HM.out.bel)).mono ?_
  rintro e w4 ⟨rfl, hb⟩
  replace HM := Lib.hid (show Mem w [blkE g1 29 (prefC mm (8 : Int))] w4 from HM.out.below hb)
  have HMZ := Lib.hid (show Mem w [blkE w4.heap.size 29 (prefC addr0 0), blkE g1 29 (prefC mm (8 : Int))] (w4.alloc (.cells #[.bool false, .int .u8 0, .int .u8 0, .int .u8 0, .int .u8 0, .int .u8 0, .int .u8 0, .int .u8 0, .int .u8 0, .int .u8 0, .int .u8 0, .int .u8 0, .int .u8 0, .int .u8 0, .int .u8 0, .int .u8 0, .int .u8 0, .int .i64 0] 29)) from HM.out.alloc rfl 29 #[.bool false, .int .u8 0, .int .u8 0, .int .u8 0, .int .u8 0, .int .u8 0, .int .u8 0, .int .u8 0, .int .u8 0, .int .u8 0, .int .u8 0, .int .u8 0, .int .u8 0, .int .u8 0, .int .u8 0, .int .u8 0, .int .u8 0, .int .i64 0] (prefC addr0 0) rfl)
  clear hb HP HM
  go_upto_region 3 with (refine wpList_store_blk rfl 29 (.tmp 2) (.tmp 8) rfl w4.heap.size (prefC addr0 0) rfl (by show Value.agg c0 = _; rw [HC0.out]) 29 (prefC addr0 0) (HMZ.out.blk 0 rfl) HU0.out rfl (prefC_one _ _) ?_; intro w5 hb5 hg5)
  (try simp only [Act.put])
  have hm5 := HMZ.out.put 0 rfl _ hg5 hb5
  clear hb5 hg5 HMZ
  generalize w4.heap.size = g2 at hm5 ⊢
  have HM := Lib.hid (show Mem w [blkE g2 29 (prefC addr0 0), blkE g1 29 (prefC mm (8 : Int))] w5 from hm5)
  clear hm5
  go_wp2_with (refine wpList_load_obj rfl 29 (.tmp 1) rfl g1 0 rfl (prefC mm (8 : Int)) (HM.out.blk 1 rfl).all _ Tryz.underlying29 rfl HUP.out ?_)
  rw [HCM.out]
  refine (HF.out _ (HLV.out.below HM.out.bel)).mono ?_
  rintro e w6 ⟨rfl, hb⟩
  have HB := Lib.hid (HM.out.below hb).bel
  clear hb HF HM
  go_wp2
  go_ret
  exact ⟨rfl, HB.out⟩
end Go.Proofs.YtkhghmmgegkiiaaGreatDoor
namespace Go.Proofs.YtkhghmmgegkiiaaGreatDoor
open Go.RowKit

end Go.Proofs.YtkhghmmgegkiiaaGreatDoor
namespace Go.Proofs.YtkhghmmgegkiiaaGreatDoor
open Go.RowKit

theorem containsM_iff (a x : AddrM) (bits : Int) (hv : validM a bits = true) (hs : soundM x = true) (h6 : (x.six == a.six) = true) : containsM a bits x = true ↔ ∀ i : Nat, (i : Int) < bits → i < 128 → bitM x.ip i = bitM a.ip i := by
  rw [containsM, hv, hs, h6, Bool.true_and, Bool.true_and, Bool.true_and, List.all_eq_true]
  constructor
  · intro h i hi hlt
    have := h i (List.mem_range.2 hlt)
    rw [Bool.or_eq_true, decide_eq_true_iff, beq_iff_eq] at this
    rcases this with h2 | h2
    · omega
    · exact h2
  · intro h i hi
    rw [Bool.or_eq_true, decide_eq_true_iff, beq_iff_eq]
    by_cases h2 : bits ≤ (i : Int)
    · exact .inl h2
    · exact .inr (h i (by omega) (List.mem_range.1 hi))
end Go.Proofs.YtkhghmmgegkiiaaGreatDoor
namespace Go.Proofs.YtkhghmmgegkiiaaGreatDoor
open Go.RowKit

end Go.Proofs.YtkhghmmgegkiiaaGreatDoor
namespace Go.Proofs.YtkhghmmgegkiiaaGreatDoor
open Go.RowKit

theorem endT_len (a : AddrM) (port : Int) (h : port ≤ 65535) : (endT a port).length ≤ 60 := by
  have h1 := addrT_len a
  rw [endT]
  split
  · simp
  · have h2 := decT_len port.toNat 5 (by omega) (by omega)
    split
    · simp only [List.length_append, List.length_cons, List.length_nil]; omega
    · simp only [List.length_append, List.length_cons]; omega
theorem prefT_len (a : AddrM) (bits : Int) (h : bits ≤ 128) : (prefT a bits).length ≤ 60 := by
  have h1 := addrT_len a
  rw [prefT]
  split
  · simp
  · have h2 := decT_len bits.toNat 3 (by omega) (by omega)
    simp only [List.length_append, List.length_cons]; omega
end Go.Proofs.YtkhghmmgegkiiaaGreatDoor
namespace Go.Proofs.YtkhghmmgegkiiaaGreatDoor
open Go.RowKit

structure Low where
  P : World → Prop
  keep : ∀ W W' : World, Below W.heap.size W W' → P W → P W'
/-- bytes that a slice reads as -/
def rdL (A : Option Addr) (n : Nat) (l : List UInt8) : Low := ⟨fun W => Rd W W.heap.size A n l, fun _ _ hb h => (h.below hb).mono hb.size⟩
/-- a block -/
def blkL (g : Nat) (t : TypeId) (cs : List Value) : Low := ⟨fun W => Blk W g t cs, fun _ _ hb h => h.below hb h.lt⟩
/-- a row of bytes that was made above base -/
def ownL (base : Nat) (v : Value) (n : Nat) (xs : List Value) : Low := ⟨fun W => W.ownsRow base 5 1 v n xs, fun _ _ hb h => ⟨h.1, by
  rcases h.2 with h1 | ⟨g, cap, cur, hv, hbg, hg, hr⟩
  · exact .inl h1
  · exact .inr ⟨g, cap, cur, hv, hbg, (hb.block g (h.lt g (by rw [hv]; rfl)).2).trans hg, hr⟩⟩⟩
def Lows (w0 : World) (E : List Low) (W : World) : Prop := (∀ f ∈ E, f.P W) ∧ Below w0.heap.size w0 W
section
variable {w0 W W' : World} {E : List Low}
theorem Lows.nil (w0 : World) : Lows w0 [] w0 := ⟨fun f hf => absurd hf (by simp), Below.refl _ _⟩
theorem Lows.bel (h : Lows w0 E W) : Below w0.heap.size w0 W := h.2
theorem Lows.size (h : Lows w0 E W) : w0.heap.size ≤ W.heap.size := h.2.size
theorem Lows.below (h : Lows w0 E W) (hb : Below W.heap.size W W') : Lows w0 E W' := ⟨fun f hf => f.keep _ _ hb (h.1 f hf), h.2.trans (hb.mono h.2.size)⟩
theorem Lows.drew (h : Lows w0 E W) : Lows w0 E W.drew := h.below ((Below.refl _ _).drew)
theorem Lows.cons (h : Lows w0 E W) (f : Low) (hf : f.P W) : Lows w0 (f :: E) W :=
  ⟨fun g hg => by
    rcases List.mem_cons.1 hg with rfl | hg
    · exact hf
    · exact h.1 g hg, h.2⟩
theorem Lows.get (h : Lows w0 E W) (i : Nat) {f : Low} (he : E[i]? = some f) : f.P W := h.1 _ (List.mem_of_getElem? he)
theorem Lows.rd (h : Lows w0 E W) (i : Nat) {A : Option Addr} {n : Nat} {l : List UInt8} (he : E[i]? = some (rdL A n l)) : Rd W W.heap.size A n l := h.get i he
theorem Lows.blk (h : Lows w0 E W) (i : Nat) {g : Nat} {t : TypeId} {cs : List Value} (he : E[i]? = some (blkL g t cs)) : Blk W g t cs := h.get i he
theorem Lows.own (h : Lows w0 E W) (i : Nat) {base : Nat} {v : Value} {n : Nat} {xs : List Value} (he : E[i]? = some (ownL base v n xs)) : W.ownsRow base 5 1 v n xs := h.get i he
theorem Lows.tail (h : Lows w0 E W) (i : Nat) : Lows w0 (E.eraseIdx i) W := ⟨fun f hf => h.1 f (List.mem_of_mem_eraseIdx hf), h.2⟩
/-- a new block -/
theorem Lows.alloc (h : Lows w0 E W) (t : TypeId) (arr : Array Value) (cs : List Value) (ha : arr = cs.toArray) : Lows w0 (blkL W.heap.size t cs :: E) (W.alloc (.cells arr t)) := by
  subst ha
  exact (h.below ((Below.refl _ _).alloc (Nat.le_refl _) _)).cons (blkL _ _ _) (Blk.new W t cs)
/-- a block above is written -/
theorem Lows.grown (h : Lows w0 E W) {W2 : World} (hb : Below W.heap.size W W') {row : Option Nat} (hg : W'.grownBy W2 row) (hr : ∀ k, row = some k → W.heap.size ≤ k) : Lows w0 E W2 := h.below (hb.grown hg hb.size hr)
/-- a new block that is written at once -/
theorem Lows.stored (h : Lows w0 E W) {t : TypeId} {arr : Array Value} {cs : List Value} {W2 : World} (hg : (W.alloc (.cells arr t)).grownBy W2 (some W.heap.size)) (hb : Blk W2 W.heap.size t cs) : Lows w0 (blkL W.heap.size t cs :: E) W2 :=
  (h.grown ((Below.refl _ _).alloc (Nat.le_refl _) _) hg (by intro k hk; injection hk with hk; omega)).cons (blkL _ _ _) hb
end
end Go.Proofs.YtkhghmmgegkiiaaGreatDoor
namespace Go.Proofs.YtkhghmmgegkiiaaGreatDoor
open Go.RowKit

theorem run_text (w : World) (s : ByteArray) : (convert 9 22 (.string s)).run Tryz.prog w = .ok (.slice (some ⟨w.heap.size, 0, none⟩) s.size (grownCap w s.size 0 5)) (Lib.bytesWorld w 5 s) :=
  Lib.run_convert_string_bytes w 9 22 5 s Tryz.underlying9 Tryz.underlying22 Tryz.underlying5
theorem text_below (w : World) (s : ByteArray) : Below w.heap.size w (Lib.bytesWorld w 5 s) := by
  refine ⟨?_, ?_, ?_, by rw [Lib.bytesWorld_size]; omega, fun k hk => Lib.bytesWorld_at_old w _ s k hk⟩
  all_goals simp [Lib.bytesWorld, World.freeze, World.alloc, World.drew, -World.alloc_eq, -World.drew_eq]
theorem text_in (w : World) (s : ByteArray) (l : List UInt8) (hs : s.data.toList = l) (n : Nat) (hn : s.size = n) : RdIn w.heap.size (Lib.bytesWorld w 5 s).heap.size (some ⟨w.heap.size, 0, none⟩) n l (Lib.bytesWorld w 5 s) := by
  have hl : l.length = n := by rw [← hs, ← hn]; exact Array.length_toList
  refine ⟨hl, fun _ => ⟨w.heap.size, 0, rfl, Nat.le_refl _, by rw [Lib.bytesWorld_size]; omega, fun j hj => ?_⟩⟩
  rw [Nat.zero_add, Lib.bytesWorld_cell w _ s j (by omega), hs, List.getD_eq_getElem?_getD, List.getElem?_eq_getElem hj]
  rfl
end Go.Proofs.YtkhghmmgegkiiaaGreatDoor
namespace Go.Proofs.YtkhghmmgegkiiaaGreatDoor
open Go.RowKit

theorem row_set {W : World} {g n : Nat} {l : List UInt8} {C : Array Value} (hat : W.heap[g]? = some (.cells C 5 (C.size, C.size + 1))) (hr : Rd W W.heap.size (some ⟨g, 0, none⟩) n l) (i : Nat) (hi : i < n) (x : UInt8) :
    W.frozen? ⟨g, i, none⟩ = false ∧ W.cell? ⟨g, i, none⟩ = some (.int .u8 ((l.getD i 0).toNat : Int)) ∧
    Rd (W.setCell ⟨g, i, none⟩ (.int .u8 (x.toNat : Int))) (W.setCell ⟨g, i, none⟩ (.int .u8 (x.toNat : Int))).heap.size (some ⟨g, 0, none⟩) n (l.set i x) ∧
    W.grownBy (W.setCell ⟨g, i, none⟩ (.int .u8 (x.toNat : Int))) (some g) ∧ ∃ D : Array Value, (W.setCell ⟨g, i, none⟩ (.int .u8 (x.toNat : Int))).heap[g]? = some (.cells D 5 (D.size, D.size + 1)) := by
  have hl : l.length = n := hr.1
  have hgl : g < W.heap.size := (Array.getElem?_eq_some_iff.1 hat).1
  have hc : ∀ j, j < n → W.cell? ⟨g, j, none⟩ = some (.int .u8 ((l.getD j 0).toNat : Int)) := fun j hj => by
    rw [hr.cell0 j (by omega), List.getD_eq_getElem?_getD, List.getElem?_eq_getElem (show j < l.length by omega)]; rfl
  have hC : ∀ j, j < n → C[j]? = some (.int .u8 ((l.getD j 0).toNat : Int)) := fun j hj => by
    have h := hc j hj
    simp only [World.cell?, hat] at h
    simpa using h
  have hci : i < C.size := by
    have h := hC i hi
    exact (Array.getElem?_eq_some_iff.1 h).1
  have hW : (W.setCell ⟨g, i, none⟩ (.int .u8 (x.toNat : Int))).heap[g]? = some (.cells (C.setIfInBounds i (.int .u8 (x.toNat : Int))) 5 (C.size, C.size + 1)) := by
    simp [World.setCell, Array.getElem?_modify, hat]
  refine ⟨?_, hc i hi, ⟨by rw [List.length_set, hl], fun _ => ⟨g, 0, rfl, ?_, fun j hj => ?_⟩⟩, ?_⟩
  · simp only [World.frozen?, hat]
    simp only [Bool.and_eq_false_imp, decide_eq_true_eq, decide_eq_false_iff_not]
    omega
  · simp [World.setCell, hgl]
  · rw [List.length_set] at hj
    simp only [World.cell?, hW, Nat.zero_add]
    simp only [Option.isSome_none, Bool.false_eq_true, if_false]
    rw [Array.getElem?_setIfInBounds, List.getElem_set]
    by_cases e : i = j
    · subst e; simp [hci]
    · rw [if_neg e, if_neg e, hC j (by omega), List.getD_eq_getElem?_getD, List.getElem?_eq_getElem hj]; rfl
  · refine ⟨⟨rfl, rfl, rfl, by simp [World.setCell], fun k _ hk => ?_⟩, _, by rw [hW, Array.size_setIfInBounds]⟩
    have hne : g ≠ k := fun e => hk (by simp [e])
    simp [World.setCell, Array.getElem?_modify, hne]
/-- bytes in a block of their own that is the call's since the world V -/
def rowL (V : World) (g n : Nat) : Low := ⟨fun W => (∃ l : List UInt8, Rd W W.heap.size (some ⟨g, 0, none⟩) n l) ∧ (∃ C : Array Value, W.heap[g]? = some (.cells C 5 (C.size, C.size + 1))) ∧ Below V.heap.size V W, fun W W' hb h => ⟨h.1.elim fun l h1 => ⟨l, (h1.below hb).mono hb.size⟩, by
    obtain ⟨C, hC⟩ := h.2.1
    exact ⟨C, (hb.block g (Array.getElem?_eq_some_iff.1 hC).1).trans hC⟩, h.2.2.trans (hb.mono h.2.2.size)⟩⟩
set_option maxRecDepth 100000 in
set_option maxHeartbeats 16000000 in
theorem cf_addrs_walk (HC1 : CfFmtAddrC 17) (HC2 : CfParseAddrC 21) (HC3 : CfFmtEndC 18) (HC4 : CfParseEndC 22) (HC5 : CfFmtPrefC 19) (HC6 : CfParsePrefC 23)
    (w : World) (A : Option Addr) (n c : Nat) (l0 : List UInt8) (hnc : n ≤ c) (hcm : c ≤ maxLen) (hr : Rd w w.heap.size A n l0)
    (a : AddrM) (ha : a.ok) (b : AddrM) (hb0 : b.ok) (bp : Int) (hbp1 : -9223372036854775808 ≤ bp) (hbp2 : bp ≤ 9223372036854775807) (d : AddrM) (hd : d.ok) (db : Int) (hdb1 : -9223372036854775808 ≤ db) (hdb2 : db ≤ 9223372036854775807)
    (s : List UInt8) (hs : s.length ≤ maxLen) (u v : UInt8) (hlv : LvCf w) :
    Calls Tryz.prog 3 #[.slice A n c, .agg a.cells.toArray, .agg (prefC b (bp : Int)).toArray, .agg (prefC d (db : Int)).toArray, .string ⟨s.toArray⟩, .int .u8 (u.toNat : Int), .int .u8 (v.toNat : Int)] w fun e w' => e = .returned (.bool true) ∧ Below w.heap.size w w' := by
  have HLV := Lib.hid hlv
  have HBG := Lib.hid (cf_begun_any HC5 HC6)
  have HRD := Lib.hid (cf_reads_any HC2 HC4 HC6)
  obtain ⟨k, hk⟩ : ∃ k, min n 60 = k := ⟨_, rfl⟩
  have HR := Lib.hid (hr.take (show k ≤ n by omega))
  have HW1 := Lib.hid (caseNew_any A n c 60 k (by omega) hnc hcm hk)
  have hk60 : k ≤ 60 := by omega
  clear hr hk hnc hcm
  generalize l0.take k = l at HR
  have HSH := Lib.hid (fun W => short_any s 60 hs (by omega) W)
  have hS60 : (s.take 60).length ≤ 100 := by rw [List.length_take]; omega
  generalize s.take 60 = sl at HSH hS60
  clear hs
  obtain ⟨tS0, htS0⟩ : ∃ z : ByteArray, ⟨s.toArray⟩ = z := ⟨_, rfl⟩
  rw [htS0] at HSH ⊢
  clear htS0
  have HFA := Lib.hid (fun W => HC1 a ha W)
  have HFB := Lib.hid (fun W => HC3 b hb0 bp hbp1 hbp2 W)
  have HFD := Lib.hid (fun W => HC5 d hd db hdb1 hdb2 W)
  have HGA := Lib.hid (fun W => refFmtAddr_any a ha W)
  have HGB := Lib.hid (fun W => refFmtEnd_any b hb0 bp W)
  have HGD := Lib.hid (fun W => refFmtPref_any d hd db hdb1 hdb2 W)
  generalize addrT a = ta at HFA HGA
  generalize endT b bp = tb at HFB HGB
  generalize prefT d db = td at HFD HGD
  have HUA := Lib.hid (addr_cellsOf a ha)
  have HUB := Lib.hid (end_cellsOf b hb0 bp)
  have HUD := Lib.hid (pref_cellsOf d hd db)
  obtain ⟨ca, hca⟩ : ∃ v, a.cells.toArray = v := ⟨_, rfl⟩
  obtain ⟨cb, hcb⟩ : ∃ v, (prefC b (bp : Int)).toArray = v := ⟨_, rfl⟩
  obtain ⟨cd, hcd⟩ : ∃ v, (prefC d (db : Int)).toArray = v := ⟨_, rfl⟩
  rw [hca] at HFA HGA ⊢
  rw [hcb] at HFB HGB ⊢
  rw [hcd] at HFD HGD ⊢
  have hz1 : (w.alloc (.cells ca 25)).heap.size = w.heap.size + 1 := by simp
  have hz2 : ((w.alloc (.cells ca 25)).alloc (.cells cb 27)).heap.size = w.heap.size + 1 + 1 := by simp
  have hm1 := ((Lows.nil w).alloc 25 ca a.cells hca.symm).alloc 27 cb (prefC b (bp : Int)) hcb.symm
  rw [hz1] at hm1
  have hm2 := hm1.alloc 29 cd (prefC d (db : Int)) hcd.symm
  rw [hz2] at hm2
  have HM := Lib.hid hm2
  clear hm1 hm2 hz1 hz2
  have HCA := Lib.hid hca
  have HCB := Lib.hid hcb
  have HCD := Lib.hid hcd
  clear hca hcb hcd ha hb0 hbp1 hbp2 hd hdb1 hdb2
  go_enter Tryz.func3, Tryz.ntmps3
  go_upto_region 1 with fail
  generalize ((w.alloc (.cells ca 25)).alloc (.cells cb 27)).alloc (.cells cd 29) = w0 at HM ⊢
  go_wp2_with fail
  refine (HW1.out w0).mono ?_
  rintro e w1 ⟨rfl, hm⟩
  have hc : CodesAt w1 w0.heap.size A k c l w0.heap.size 0 := ⟨hm.blk 0 rfl, (HR.out.below HM.out.bel |>.mono HM.out.size).below hm.bel, Nat.le_refl _, (hm.blk 0 rfl).lt, by omega, Nat.zero_le _⟩
  have HPC := Lib.hid (caseAddr_any w0.heap.size A k c l w0.heap.size 0 w1 hc)
  have HEC := Lib.hid (fun W (h : CodesAt W w0.heap.size A k c l w0.heap.size (codeAP l 0)) => caseEndpoint_any w0.heap.size A k c l w0.heap.size (codeAP l 0) W h)
  have HQC := Lib.hid (fun W (h : CodesAt W w0.heap.size A k c l w0.heap.size (codeEP l (codeAP l 0))) => casePrefix_any w0.heap.size A k c l w0.heap.size (codeEP l (codeAP l 0)) W h)
  have hb1 := hm.bel
  clear hc hm HW1 HR
  generalize codeAP l 0 = q1 at HPC HEC HQC
  generalize codeEP l q1 = q2 at HEC HQC
  have hx1 := codeA_ok l 0
  generalize codeA l 0 = x at HPC hx1
  have hpe : codeE l q1 = prefC (codeA l q1) ((1 + bigV l (codeAP l q1) % 65535 : Nat) : Int) := rfl
  rw [hpe] at HEC
  have hy1 := codeA_ok l q1
  have hpy : 1 + bigV l (codeAP l q1) % 65535 ≤ 65535 := by have := Nat.mod_lt (bigV l (codeAP l q1)) (show 0 < 65535 by omega); omega
  generalize 1 + bigV l (codeAP l q1) % 65535 = yp at HEC hpy
  clear hpe
  generalize codeA l q1 = y at HEC hy1
  have hz1 := codeM_ok l q2
  have hzb := codePb_le l q2
  generalize codeM l q2 = z at HQC hz1
  generalize codePb l q2 = zb at HQC hzb
  have HFX := Lib.hid (fun W => HC1 x hx1 W)
  have HFY := Lib.hid (fun W => HC3 y hy1 (yp : Int) (by omega) (by omega) W)
  have HFZ := Lib.hid (fun W => HC5 z hz1 (zb : Int) (by omega) (by omega) W)
  have HRX := Lib.hid (fun W => refFmtAddr_any x hx1 W)
  have HRY := Lib.hid (fun W => refFmtEnd_any y hy1 (yp : Int) W)
  have HRZ := Lib.hid (fun W => refFmtPref_any z hz1 (zb : Int) (by omega) (by omega) W)
  have hlx := addrT_len x
  have hly := endT_len y (yp : Int) (by omega)
  have hlz := prefT_len z (zb : Int) (by omega)
  generalize addrT x = lx at HFX HRX hlx
  generalize endT y (yp : Int) = ly at HFY HRY hly
  generalize prefT z (zb : Int) = lz at HFZ HRZ hlz
  have HUX := Lib.hid (addr_cellsOf x hx1)
  have HUY := Lib.hid (end_cellsOf y hy1 (yp : Int))
  have HUZ := Lib.hid (pref_cellsOf z hz1 (zb : Int))
  have HLX := Lib.hid (show addr0.cells.length = x.cells.length from (AddrM.cells_length addr0_ok).trans (AddrM.cells_length hx1).symm)
  have HLY := Lib.hid (show (prefC addr0 0).length = (prefC y (yp : Int)).length from (prefC_length addr0 addr0_ok 0).trans (prefC_length y hy1 _).symm)
  have HLZ := Lib.hid (show (prefC addr0 0).length = (prefC z (zb : Int)).length from (prefC_length addr0 addr0_ok 0).trans (prefC_length z hz1 _).symm)
  obtain ⟨cx, hcx⟩ : ∃ v, x.cells.toArray = v := ⟨_, rfl⟩
  obtain ⟨cy, hcy⟩ : ∃ v, (prefC y (yp : Int)).toArray = v := ⟨_, rfl⟩
  obtain ⟨cz, hcz⟩ : ∃ v, (prefC z (zb : Int)).toArray = v := ⟨_, rfl⟩
  rw [hcx] at HPC HFX HRX
  rw [hcy] at HEC HFY HRY
  rw [hcz] at HQC HFZ HRZ
  have HCX := Lib.hid hcx
  have HCY := Lib.hid hcy
  have HCZ := Lib.hid hcz
  have HB1 := Lib.hid hb1
  clear hcx hcy hcz hx1 hy1 hz1 hpy hzb hb1 hlv HC1 HC2 HC3 HC4 HC5 HC6
  go_wp2_with fail
  refine HPC.out.mono ?_
  rintro e w2 ⟨rfl, hc2, hg2⟩
  have HB2 := Lib.hid (show Below w0.heap.size w0 w2 from HB1.out.grown hg2 HB1.out.size (by intro q hq; injection hq with hq; omega))
  have HC2 := Lib.hid hc2
  clear hg2 hc2 HPC HB1
  go_wp2_with fail
  refine (HEC.out _ HC2.out).mono ?_
  rintro e w3 ⟨rfl, hc3, hg3⟩
  have HB3 := Lib.hid (show Below w0.heap.size w0 w3 from HB2.out.grown hg3 HB2.out.size (by intro q hq; injection hq with hq; omega))
  have HC3 := Lib.hid hc3
  clear hg3 hc3 HC2 HEC HB2
  go_wp2_with fail
  refine (HQC.out _ HC3.out).mono ?_
  rintro e w4 ⟨rfl, hc4, hg4⟩
  have hb4 : Below w0.heap.size w0 w4 := HB3.out.grown hg4 HB3.out.size (by intro q hq; injection hq with hq; omega)
  replace HM := Lib.hid (HM.out.below hb4)
  obtain ⟨ga, hga⟩ : ∃ z, w.heap.size = z := ⟨_, rfl⟩
  obtain ⟨gb, hgb⟩ : ∃ z, w.heap.size + 1 = z := ⟨_, rfl⟩
  obtain ⟨gd, hgd⟩ : ∃ z, w.heap.size + 1 + 1 = z := ⟨_, rfl⟩
  rw [hgd, hgb, hga] at HM ⊢
  have HGQ := Lib.hid hga
  have HN := Lib.hid (show Mem w4 [blkE (w4.heap.size + 1 + 1) 29 (prefC addr0 0), blkE (w4.heap.size + 1) 27 (prefC addr0 0), blkE w4.heap.size 25 addr0.cells] (((w4.alloc (.cells #[.bool false, .int .u8 0, .int .u8 0, .int .u8 0, .int .u8 0, .int .u8 0, .int .u8 0, .int .u8 0, .int .u8 0, .int .u8 0, .int .u8 0, .int .u8 0, .int .u8 0, .int .u8 0, .int .u8 0, .int .u8 0, .int .u8 0] 25)).alloc (.cells #[.bool false, .int .u8 0, .int .u8 0, .int .u8 0, .int .u8 0, .int .u8 0, .int .u8 0, .int .u8 0, .int .u8 0, .int .u8 0, .int .u8 0, .int .u8 0, .int .u8 0, .int .u8 0, .int .u8 0, .int .u8 0, .int .u8 0, .int .i64 0] 27)).alloc (.cells #[.bool false, .int .u8 0, .int .u8 0, .int .u8 0, .int .u8 0, .int .u8 0, .int .u8 0, .int .u8 0, .int .u8 0, .int .u8 0, .int .u8 0, .int .u8 0, .int .u8 0, .int .u8 0, .int .u8 0, .int .u8 0, .int .u8 0, .int .i64 0] 29)) from (((Mem.nil w4).alloc rfl 25 #[.bool false, .int .u8 0, .int .u8 0, .int .u8 0, .int .u8 0, .int .u8 0, .int .u8 0, .int .u8 0, .int .u8 0, .int .u8 0, .int .u8 0, .int .u8 0, .int .u8 0, .int .u8 0, .int .u8 0, .int .u8 0, .int .u8 0] addr0.cells rfl).alloc (by simp) 27 #[.bool false, .int .u8 0, .int .u8 0, .int .u8 0, .int .u8 0, .int .u8 0, .int .u8 0, .int .u8 0, .int .u8 0, .int .u8 0, .int .u8 0, .int .u8 0, .int .u8 0, .int .u8 0, .int .u8 0, .int .u8 0, .int .u8 0, .int .i64 0] (prefC addr0 0) rfl).alloc (by simp) 29 #[.bool false, .int .u8 0, .int .u8 0, .int .u8 0, .int .u8 0, .int .u8 0, .int .u8 0, .int .u8 0, .int .u8 0, .int .u8 0, .int .u8 0, .int .u8 0, .int .u8 0, .int .u8 0, .int .u8 0, .int .u8 0, .int .u8 0, .int .i64 0] (prefC addr0 0) rfl)
  clear hg4 hc4 hb4 HC3 HQC HB3 hga hgb hgd
  go_upto_region 3 with (first | (refine wpList_store_blk rfl 25 (.tmp 16) (.tmp 27) rfl w4.heap.size x.cells rfl (by show Value.agg cx = _; rw [HCX.out]) 25 addr0.cells (HN.out.blk 2 rfl) HUX.out HLX.out (AddrM.one _) ?_; intro w5 hb5 hg5; have HN5 := Lib.hid (HN.out.put 2 rfl _ hg5 hb5)) | (refine wpList_store_blk rfl 27 (.tmp 17) (.tmp 29) rfl (w4.heap.size + 1) (prefC y (yp : Int)) rfl (by show Value.agg cy = _; rw [HCY.out]) 27 (prefC addr0 0) (HN5.out.blk 1 rfl) HUY.out HLY.out (prefC_one _ _) ?_; intro w6 hb6 hg6; have HN6 := Lib.hid (HN5.out.put 1 rfl _ hg6 hb6)) | (refine wpList_store_blk rfl 29 (.tmp 18) (.tmp 31) rfl (w4.heap.size + 1 + 1) (prefC z (zb : Int)) rfl (by show Value.agg cz = _; rw [HCZ.out]) 29 (prefC addr0 0) (HN6.out.blk 0 rfl) HUZ.out HLZ.out (prefC_one _ _) ?_; intro w7 hb7 hg7; have HN7 := Lib.hid (HN6.out.put 0 rfl _ hg7 hb7)))
  (try simp only [Act.put])
  have hb8 := HN7.out.bel
  replace HM := Lib.hid (show Lows w [blkL (w4.heap.size + 1 + 1) 29 (prefC z (zb : Int)), blkL (w4.heap.size + 1) 27 (prefC y (yp : Int)), blkL w4.heap.size 25 x.cells, blkL gd 29 (prefC d (db : Int)), blkL gb 27 (prefC b (bp : Int)), blkL ga 25 a.cells] w7 from (((HM.out.below hb8).cons (blkL w4.heap.size 25 x.cells) (HN7.out.blk 2 rfl)).cons (blkL (w4.heap.size + 1) 27 (prefC y (yp : Int))) (HN7.out.blk 1 rfl)).cons (blkL (w4.heap.size + 1 + 1) 29 (prefC z (zb : Int))) (HN7.out.blk 0 rfl))
  clear hb5 hg5 hb6 hg6 hb7 hg7 hb8 HN HN5 HN6 HN7
  obtain ⟨gx, hgx⟩ : ∃ z, w4.heap.size = z := ⟨_, rfl⟩
  obtain ⟨gy, hgy⟩ : ∃ z, w4.heap.size + 1 = z := ⟨_, rfl⟩
  obtain ⟨gz, hgz⟩ : ∃ z, w4.heap.size + 1 + 1 = z := ⟨_, rfl⟩
  rw [hgz, hgy, hgx] at HM ⊢
  clear hgx hgy hgz
  go_wp2_with fail
  refine (HSH.out _).mono ?_
  rintro e w8 ⟨rfl, rfl⟩
  clear HSH
  go_upto_region 4 with fail
  clear HLX HLY HLZ
  generalize w7 = w9 at HM ⊢
  refine wp_region_held_drew (S := fun W' => Lows w [blkL gz 29 (prefC z (zb : Int)), blkL gy 27 (prefC y (yp : Int)), blkL gx 25 x.cells, blkL gd 29 (prefC d (db : Int)), blkL gb 27 (prefC b (bp : Int)), blkL ga 25 a.cells] W') (by kernel_rfl) (HM.out.drew) (fun hHeld => ?_)
  replace HM := Lib.hid HM.out.drew
  generalize w9.drew = wd1 at HM hHeld ⊢
  refine take_first (v := ?_) 0 rfl (by kernel_rfl) (by kernel_rfl) (by kernel_rfl) (fun _ _ _ h => h) (Or.inl ⟨by rfl, ?_⟩) (by assumption) ?_
  rotate_left
  · (intro w hSw; (try dsimp only at hSw); go_simp; try with_reducible rfl)
  (try simp only [Act.put, List.setIfInBounds_toArray, List.set_cons_zero, List.set_cons_succ])
  refine take_first (v := .agg cx) 1 rfl (by kernel_rfl) (by kernel_rfl) (by kernel_rfl) (fun _ _ _ h => h) (by rw [← HCX.out]; exact yields_load_obj (by rfl) 25 (.tmp 16) rfl gx 0 rfl x.cells (fun w' hb => (Lows.blk hb 2 rfl).all) _ Tryz.underlying25 rfl HUX.out) (by assumption) ?_
  (try simp only [Act.put, List.setIfInBounds_toArray, List.set_cons_zero, List.set_cons_succ])
  refine take_first (v := .agg cy) 3 rfl (by kernel_rfl) (by kernel_rfl) (by kernel_rfl) (fun _ _ _ h => h) (by rw [← HCY.out]; exact yields_load_obj (by rfl) 27 (.tmp 17) rfl gy 0 rfl (prefC y (yp : Int)) (fun w' hb => (Lows.blk hb 1 rfl).all) _ Tryz.underlying27 rfl HUY.out) (by assumption) ?_
  (try simp only [Act.put, List.setIfInBounds_toArray, List.set_cons_zero, List.set_cons_succ])
  refine take_first (v := .agg cz) 5 rfl (by kernel_rfl) (by kernel_rfl) (by kernel_rfl) (fun _ _ _ h => h) (by rw [← HCZ.out]; exact yields_load_obj (by rfl) 29 (.tmp 18) rfl gz 0 rfl (prefC z (zb : Int)) (fun w' hb => (Lows.blk hb 0 rfl).all) _ Tryz.underlying29 rfl HUZ.out) (by assumption) ?_
  (try simp only [Act.put, List.setIfInBounds_toArray, List.set_cons_zero, List.set_cons_succ])
  refine take_first (v := ?_) 9 rfl (by kernel_rfl) (by kernel_rfl) (by kernel_rfl) (fun _ _ _ h => h) (Or.inl ⟨by rfl, ?_⟩) (by assumption) ?_
  rotate_left
  · (intro w hSw; (try dsimp only at hSw); go_simp; try with_reducible rfl)
  (try simp only [Act.put, List.setIfInBounds_toArray, List.set_cons_zero, List.set_cons_succ])
  refine step_one 2 rfl (by kernel_rfl) (fun K hK => ?_)
  clear hHeld
  go_simp
  refine (HRX.out _).mono ?_
  rintro e wy2 ⟨rfl, hb⟩
  replace HM := Lib.hid (show Lows w [blkL gz 29 (prefC z (zb : Int)), blkL gy 27 (prefC y (yp : Int)), blkL gx 25 x.cells, blkL gd 29 (prefC d (db : Int)), blkL gb 27 (prefC b (bp : Int)), blkL ga 25 a.cells] wy2 from HM.out.below hb)
  clear hb
  go_wp2_with fail
  refine hK.out _ _ (HM.out) (fun hHeld => ?_)
  clear hK K
  (try simp only [Act.put, List.setIfInBounds_toArray, List.set_cons_zero, List.set_cons_succ])
  refine step_one 4 rfl (by kernel_rfl) (fun K hK => ?_)
  clear hHeld
  go_simp
  refine (HRY.out _).mono ?_
  rintro e wy3 ⟨rfl, hb⟩
  replace HM := Lib.hid (show Lows w [blkL gz 29 (prefC z (zb : Int)), blkL gy 27 (prefC y (yp : Int)), blkL gx 25 x.cells, blkL gd 29 (prefC d (db : Int)), blkL gb 27 (prefC b (bp : Int)), blkL ga 25 a.cells] wy3 from HM.out.below hb)
  clear hb
  go_wp2_with fail
  refine hK.out _ _ (HM.out) (fun hHeld => ?_)
  clear hK K
  (try simp only [Act.put, List.setIfInBounds_toArray, List.set_cons_zero, List.set_cons_succ])
  refine step_one 6 rfl (by kernel_rfl) (fun K hK => ?_)
  clear hHeld
  go_simp
  refine (HRZ.out _).mono ?_
  rintro e wy4 ⟨rfl, hb⟩
  replace HM := Lib.hid (show Lows w [blkL gz 29 (prefC z (zb : Int)), blkL gy 27 (prefC y (yp : Int)), blkL gx 25 x.cells, blkL gd 29 (prefC d (db : Int)), blkL gb 27 (prefC b (bp : Int)), blkL ga 25 a.cells] wy4 from HM.out.below hb)
  clear hb
  go_wp2_with fail
  refine hK.out _ _ (HM.out) (fun hHeld => ?_)
  clear hK K
  (try simp only [Act.put, List.setIfInBounds_toArray, List.set_cons_zero, List.set_cons_succ])
  refine step_one 7 rfl (by kernel_rfl) (fun K hK => ?_)
  clear hHeld
  go_simp
  have hm9 := HM.out.alloc 9 #[.string ⟨sl.toArray⟩, .string ⟨lx.toArray⟩, .string ⟨ly.toArray⟩, .string ⟨lz.toArray⟩] ([.string ⟨sl.toArray⟩, .string ⟨lx.toArray⟩, .string ⟨ly.toArray⟩, .string ⟨lz.toArray⟩]) rfl
  generalize wy4.alloc (.cells #[.string ⟨sl.toArray⟩, .string ⟨lx.toArray⟩, .string ⟨ly.toArray⟩, .string ⟨lz.toArray⟩] 9) = wy5 at hm9 ⊢
  generalize wy4.heap.size = gt at hm9 ⊢
  replace HM := Lib.hid (show Lows w [blkL gt 9 ([.string ⟨sl.toArray⟩, .string ⟨lx.toArray⟩, .string ⟨ly.toArray⟩, .string ⟨lz.toArray⟩]), blkL gz 29 (prefC z (zb : Int)), blkL gy 27 (prefC y (yp : Int)), blkL gx 25 x.cells, blkL gd 29 (prefC d (db : Int)), blkL gb 27 (prefC b (bp : Int)), blkL ga 25 a.cells] wy5 from hm9)
  clear hm9
  refine hK.out _ _ (HM.out.tail 0) (fun hHeld => ?_)
  clear hK K
  (try simp only [Act.put, List.setIfInBounds_toArray, List.set_cons_zero, List.set_cons_succ])
  refine wpAnyH_stronger (T := fun W' => Lows w [blkL gt 9 ([.string ⟨sl.toArray⟩, .string ⟨lx.toArray⟩, .string ⟨ly.toArray⟩, .string ⟨lz.toArray⟩]), blkL gz 29 (prefC z (zb : Int)), blkL gy 27 (prefC y (yp : Int)), blkL gx 25 x.cells, blkL gd 29 (prefC d (db : Int)), blkL gb 27 (prefC b (bp : Int)), blkL ga 25 a.cells] W') (fun _ h' => (h'.tail 0)) _ _ _ _ ?_
  replace hHeld := HM.out
  refine take_first (v := ?_) 8 rfl (by kernel_rfl) (by kernel_rfl) (by kernel_rfl) (fun _ _ _ h => h) (Or.inl ⟨by rfl, ?_⟩) (by assumption) ?_
  rotate_left
  · (intro w hSw; (try dsimp only at hSw); go_simp; try with_reducible rfl)
  (try simp only [Act.put, List.setIfInBounds_toArray, List.set_cons_zero, List.set_cons_succ])
  refine wpAnyH_done (by kernel_rfl) ?_ _
  clear hHeld
  replace HM := Lib.hid (show Lows w [blkL gt 9 [.string ⟨sl.toArray⟩, .string ⟨lx.toArray⟩, .string ⟨ly.toArray⟩, .string ⟨lz.toArray⟩], blkL gz 29 (prefC z (zb : Int)), blkL gy 27 (prefC y (yp : Int)), blkL gx 25 x.cells, blkL gd 29 (prefC d (db : Int)), blkL gb 27 (prefC b (bp : Int)), blkL ga 25 a.cells] wy5 from HM.out)
  generalize wy5 = w6 at HM ⊢
  go_wp2_with fail
  go_loopw [43] (fun i wr => ∃ j : Nat, j ≤ 4 ∧ i = .int .i64 (j : Int) ∧ Lows w [blkL gt 9 [.string ⟨sl.toArray⟩, .string ⟨lx.toArray⟩, .string ⟨ly.toArray⟩, .string ⟨lz.toArray⟩], blkL gz 29 (prefC z (zb : Int)), blkL gy 27 (prefC y (yp : Int)), blkL gx 25 x.cells, blkL gd 29 (prefC d (db : Int)), blkL gb 27 (prefC b (bp : Int)), blkL ga 25 a.cells] wr) (fun i _ => 4 - (intOf i).toNat)
  case atStart => exact ⟨0, by omega, rfl, HM.out⟩
  case round =>
    obtain ⟨j, hj, rfl, hM⟩ := hrel
    replace HM := Lib.hid hM
    clear hM
    by_cases hlt : j < 4
    · obtain ⟨t, ht⟩ : ∃ t, [sl, lx, ly, lz].getD j [] = t := ⟨_, rfl⟩
      have htl : t.length ≤ 100 := by rw [← ht]; rcases (show j = 0 ∨ j = 1 ∨ j = 2 ∨ j = 3 by omega) with rfl | rfl | rfl | rfl <;> simp <;> omega
      have hcell : wr.cell? ⟨gt, j, none⟩ = some (.string ⟨t.toArray⟩) := by rw [(HM.out.blk 0 rfl).cell j, ← ht]; rcases (show j = 0 ∨ j = 1 ∨ j = 2 ∨ j = 3 by omega) with rfl | rfl | rfl | rfl <;> rfl
      obtain ⟨S, hS⟩ : ∃ S : ByteArray, ⟨t.toArray⟩ = S := ⟨_, rfl⟩
      have hsz : S.size = t.length := by rw [← hS]; exact text_size t
      have HST := Lib.hid (show S.data.toList = t from by rw [← hS])
      have HRT := Lib.hid (fun W h => HRD.out t (by omega) W h)
      rw [hS] at hcell HRT
      clear ht hS
      obtain ⟨n0, hn0⟩ : ∃ z, t.length = z := ⟨_, rfl⟩
      rw [hn0] at hsz htl
      have hjj : (0 : Int) ≤ (j : Int) := by omega
      have hj4 : (j : Int) < 4 := by omega
      have kc := run_text
      go_upto_region 8 with fail
      clear kc hcell
      obtain ⟨cap, hcap⟩ : ∃ z, grownCap wr n0 0 5 = z := ⟨_, rfl⟩
      have HCP := Lib.hid (show n0 ≤ cap ∧ cap ≤ maxLen from by rw [← hcap]; exact ⟨grownCap_ge _ _ _ _, grownCap_le_maxLen _ _ _ _ (by unfold maxLen; omega)⟩)
      rw [hcap]
      clear hcap
      have HMB := Lib.hid (HM.out.below (text_below wr S))
      replace HMB := Lib.hid (show Lows w (rowL wr wr.heap.size n0 :: [blkL gt 9 [.string ⟨sl.toArray⟩, .string ⟨lx.toArray⟩, .string ⟨ly.toArray⟩, .string ⟨lz.toArray⟩], blkL gz 29 (prefC z (zb : Int)), blkL gy 27 (prefC y (yp : Int)), blkL gx 25 x.cells, blkL gd 29 (prefC d (db : Int)), blkL gb 27 (prefC b (bp : Int)), blkL ga 25 a.cells]) (Lib.bytesWorld wr 5 S) from HMB.out.cons (rowL wr wr.heap.size n0) ⟨⟨t, (text_in wr S t HST.out n0 hsz).rd⟩, ⟨_, Lib.bytesWorld_at_new wr 5 S⟩, text_below wr S⟩)
      have HM0 := HM
      generalize Lib.bytesWorld wr 5 S = wb at HMB ⊢
      go_upto_if 51 with fail
      go_cut [21] (fun v wx => v = .slice (some ⟨wr.heap.size, 0, none⟩) n0 cap ∧ ∃ t2 : List UInt8, t2.length = n0 ∧ Lows w (rdL (some ⟨wr.heap.size, 0, none⟩) n0 t2 :: [blkL gt 9 [.string ⟨sl.toArray⟩, .string ⟨lx.toArray⟩, .string ⟨ly.toArray⟩, .string ⟨lz.toArray⟩], blkL gz 29 (prefC z (zb : Int)), blkL gy 27 (prefC y (yp : Int)), blkL gx 25 x.cells, blkL gd 29 (prefC d (db : Int)), blkL gb 27 (prefC b (bp : Int)), blkL ga 25 a.cells]) wx)
      case first =>
        by_cases h0 : n0 < 1
        · have e1 : ¬ (0 : Int) < (n0 : Int) := by omega
          go_wp2_with fail
          go_meet
          obtain ⟨l9, hl9⟩ := (HMB.out.get (f := rowL wr wr.heap.size n0) 0 rfl).1
          exact ⟨rfl, l9, hl9.1, ((HMB.out.tail 0).cons (rdL (some ⟨wr.heap.size, 0, none⟩) n0 l9) hl9)⟩
        · have e1 : (0 : Int) < (n0 : Int) := by omega
          obtain ⟨i, hii⟩ : ∃ i, u.toNat % n0 = i := ⟨_, rfl⟩
          obtain ⟨q, hqq⟩ : ∃ q, v.toNat % 28 = q := ⟨_, rfl⟩
          have hin : i < n0 := by rw [← hii]; exact Nat.mod_lt _ (by omega)
          have hq28 : q < 28 := by omega
          have hun := u.toNat_lt
          have hvn := v.toNat_lt
          have hwu : IntKind.i64.wrap (u.toNat : Int) = (u.toNat : Int) := IntWalk.i64_in _ (by omega)
          have hwv : IntKind.i64.wrap (v.toNat : Int) = (v.toNat : Int) := IntWalk.i64_in _ (by omega)
          have hwi : IntKind.i64.wrap (i : Int) = (i : Int) := IntWalk.i64_in _ (by omega)
          have hwq : IntKind.i64.wrap (q : Int) = (q : Int) := IntWalk.i64_in _ (by omega)
          have hit : ((u.toNat : Int)).tmod (n0 : Int) = (i : Int) := by rw [Int.tmod_eq_emod_of_nonneg (by omega), ← hii]; rfl
          have hvt : ((v.toNat : Int)).tmod 28 = (q : Int) := by rw [Int.tmod_eq_emod_of_nonneg (by omega)]; omega
          have hix : (i : Int) < (n0 : Int) := by omega
          have hqx : (q : Int) < 28 := by omega
          have hi0 : (0 : Int) ≤ (i : Int) := by omega
          have hq0 : (0 : Int) ≤ (q : Int) := by omega
          have hnz : ¬ n0 = 0 := by omega
          clear hii hqq hun hvn
          replace HM := HMB
          clear HMB
          go_upto_region 9 with fail
          refine wp_region_held_drew (S := fun W' => Lows w [rowL wr wr.heap.size n0, blkL gt 9 [.string ⟨sl.toArray⟩, .string ⟨lx.toArray⟩, .string ⟨ly.toArray⟩, .string ⟨lz.toArray⟩], blkL gz 29 (prefC z (zb : Int)), blkL gy 27 (prefC y (yp : Int)), blkL gx 25 x.cells, blkL gd 29 (prefC d (db : Int)), blkL gb 27 (prefC b (bp : Int)), blkL ga 25 a.cells] W') (by kernel_rfl) (HM.out.drew) (fun hHeld => ?_)
          replace HM := Lib.hid HM.out.drew
          generalize wb.drew = wd1 at HM hHeld ⊢
          refine take_first (v := ?_) 0 rfl (by kernel_rfl) (by kernel_rfl) (by kernel_rfl) (fun _ _ _ h => h) (Or.inl ⟨by rfl, ?_⟩) (by assumption) ?_
          rotate_left
          · (intro w hSw; (try dsimp only at hSw); go_simp; try with_reducible rfl)
          (try simp only [Act.put, List.setIfInBounds_toArray, List.set_cons_zero, List.set_cons_succ])
          refine take_first (v := ?_) 1 rfl (by kernel_rfl) (by kernel_rfl) (by kernel_rfl) (fun _ _ _ h => h) (Or.inl ⟨by rfl, ?_⟩) (by assumption) ?_
          rotate_left
          · (intro w hSw; (try dsimp only at hSw); go_simp; try with_reducible rfl)
          (try simp only [Act.put, List.setIfInBounds_toArray, List.set_cons_zero, List.set_cons_succ])
          refine take_first (v := ?_) 2 rfl (by kernel_rfl) (by kernel_rfl) (by kernel_rfl) (fun _ _ _ h => h) (Or.inl ⟨by rfl, ?_⟩) (by assumption) ?_
          rotate_left
          · (intro w hSw; (try dsimp only at hSw); go_simp; try with_reducible rfl)
          (try simp only [Act.put, List.setIfInBounds_toArray, List.set_cons_zero, List.set_cons_succ])
          refine take_first (v := ?_) 3 rfl (by kernel_rfl) (by kernel_rfl) (by kernel_rfl) (fun _ _ _ h => h) (Or.inl ⟨by rfl, ?_⟩) (by assumption) ?_
          rotate_left
          · (intro w hSw; (try dsimp only at hSw); go_simp; try with_reducible rfl)
          (try simp only [Act.put, List.setIfInBounds_toArray, List.set_cons_zero, List.set_cons_succ])
          refine take_first (v := ?_) 4 rfl (by kernel_rfl) (by kernel_rfl) (by kernel_rfl) (fun _ _ _ h => h) (Or.inl ⟨by rfl, ?_⟩) (by assumption) ?_
          rotate_left
          · (intro w hSw; (try dsimp only at hSw); go_simp; try with_reducible rfl)
          (try simp only [Act.put, List.setIfInBounds_toArray, List.set_cons_zero, List.set_cons_succ])
          refine take_first (v := ?_) 5 rfl (by kernel_rfl) (by kernel_rfl) (by kernel_rfl) (fun _ _ _ h => h) (Or.inl ⟨by rfl, ?_⟩) (by assumption) ?_
          rotate_left
          · (intro w hSw; (try dsimp only at hSw); go_simp; try with_reducible rfl)
          (try simp only [Act.put, List.setIfInBounds_toArray, List.set_cons_zero, List.set_cons_succ])
          refine take_first (v := ?_) 6 rfl (by kernel_rfl) (by kernel_rfl) (by kernel_rfl) (fun _ _ _ h => h) (Or.inl ⟨by rfl, ?_⟩) (by assumption) ?_
          rotate_left
          · (intro w hSw; (try dsimp only at hSw); go_simp; try with_reducible rfl)
          (try simp only [Act.put, List.setIfInBounds_toArray, List.set_cons_zero, List.set_cons_succ])
          refine take_first (v := ?_) 7 rfl (by kernel_rfl) (by kernel_rfl) (by kernel_rfl) (fun _ _ _ h => h) (Or.inl ⟨by rfl, ?_⟩) (by assumption) ?_
          rotate_left
          · (intro w hSw; (try dsimp only at hSw); go_simp; try with_reducible rfl)
          (try simp only [Act.put, List.setIfInBounds_toArray, List.set_cons_zero, List.set_cons_succ])
          refine take_first (v := ?_) 8 rfl (by kernel_rfl) (by kernel_rfl) (by kernel_rfl) (fun _ _ _ h => h) (Or.inl ⟨by rfl, ?_⟩) (by assumption) ?_
          rotate_left
          · (intro w hSw; (try dsimp only at hSw); go_simp; try with_reducible rfl)
          (try simp only [Act.put, List.setIfInBounds_toArray, List.set_cons_zero, List.set_cons_succ])
          refine take_first (v := ?_) 9 rfl (by kernel_rfl) (by kernel_rfl) (by kernel_rfl) (fun _ _ _ h => h) (Or.inl ⟨by rfl, ?_⟩) (by assumption) ?_
          rotate_left
          · (intro w hSw; (try dsimp only at hSw); go_simp; try with_reducible rfl)
          (try simp only [Act.put, List.setIfInBounds_toArray, List.set_cons_zero, List.set_cons_succ])
          refine take_first (v := ?_) 10 rfl (by kernel_rfl) (by kernel_rfl) (by kernel_rfl) (fun _ _ _ h => h) (Or.inl ⟨by rfl, ?_⟩) (by assumption) ?_
          rotate_left
          · (intro w hSw; (try dsimp only at hSw); go_simp; try with_reducible rfl)
          (try simp only [Act.put, List.setIfInBounds_toArray, List.set_cons_zero, List.set_cons_succ])
          refine step_one 11 rfl (by kernel_rfl) (fun K hK => ?_)
          clear hHeld
          obtain ⟨l9, hl9⟩ := (HM.out.get (f := rowL wr wr.heap.size n0) 0 rfl).1
          obtain ⟨C9, hC9⟩ := (HM.out.get (f := rowL wr wr.heap.size n0) 0 rfl).2.1
          have hts := fun x => row_set hC9 hl9 i hin x
          have fx := (hts 0).2.1
          have zx := (hts 0).1
          go_simp
          have hqs : q < (ByteArray.mk #[48, 49, 50, 51, 52, 53, 54, 55, 56, 57, 97, 98, 99, 100, 101, 102, 65, 66, 67, 68, 69, 70, 46, 58, 47, 91, 93, 32]).size := by show q < 28; omega
          generalize (ByteArray.mk #[48, 49, 50, 51, 52, 53, 54, 55, 56, 57, 97, 98, 99, 100, 101, 102, 65, 66, 67, 68, 69, 70, 46, 58, 47, 91, 93, 32])[q]'hqs = x9
          have hs9 := hts x9
          have hb9 := (HM.out.get (f := rowL wr wr.heap.size n0) 0 rfl).2.2
          replace HM := Lib.hid (show Lows w [rowL wr wr.heap.size n0, blkL gt 9 [.string ⟨sl.toArray⟩, .string ⟨lx.toArray⟩, .string ⟨ly.toArray⟩, .string ⟨lz.toArray⟩], blkL gz 29 (prefC z (zb : Int)), blkL gy 27 (prefC y (yp : Int)), blkL gx 25 x.cells, blkL gd 29 (prefC d (db : Int)), blkL gb 27 (prefC b (bp : Int)), blkL ga 25 a.cells] (wd1.setCell ⟨wr.heap.size, i, none⟩ (.int .u8 (x9.toNat : Int))) from (HM0.out.grown hb9 hs9.2.2.2.1 (by intro k hk; injection hk with hk; omega)).cons (rowL wr wr.heap.size n0) ⟨⟨_, hs9.2.2.1⟩, hs9.2.2.2.2, hb9.grown hs9.2.2.2.1 hb9.size (by intro k hk; injection hk with hk; omega)⟩)
          clear fx zx hts hC9 hl9 hs9 hb9
          generalize wd1.setCell ⟨wr.heap.size, i, none⟩ (.int .u8 (x9.toNat : Int)) = wy2 at HM ⊢
          refine hK.out _ _ (HM.out) (fun hHeld => ?_)
          clear hK K
          (try simp only [Act.put])
          refine wpAnyH_done (by kernel_rfl) ?_ _
          clear hHeld
          go_wp2_with fail
          go_meet
          obtain ⟨l9, hl9⟩ := (HM.out.get (f := rowL wr wr.heap.size n0) 0 rfl).1
          exact ⟨rfl, l9, hl9.1, ((HM.out.tail 0).cons (rdL (some ⟨wr.heap.size, 0, none⟩) n0 l9) hl9)⟩

      clear HMB HM HM0
      revert wc
      intro w10 hcut
      obtain ⟨rfl, t2, ht2, hM⟩ := hcut
      have HM := Lib.hid hM
      have cv1 := run_string_of_rd (P := Tryz.prog) 22 9 5 cap Tryz.underlying22 Tryz.underlying5 Tryz.underlying9 (hM.rd 0 rfl)
      clear hM
      have HR2 := Lib.hid (fun W h => HRD.out t2 (by omega) W h)
      obtain ⟨S2, hS2⟩ : ∃ S : ByteArray, ⟨t2.toArray⟩ = S := ⟨_, rfl⟩
      rw [hS2] at HR2 cv1
      go_upto_region 11 with fail
      clear cv1
      replace HM := Lib.hid (((HM.out.tail 0).alloc 9 #[.string S, .string S2] [.string S, .string S2] rfl))
      generalize w10.alloc (.cells #[.string S, .string S2] 9) = w11 at HM ⊢
      generalize w10.heap.size = gu at HM ⊢
      go_loopw [68] (fun i wr => ∃ p : Nat, p ≤ 2 ∧ i = .int .i64 (p : Int) ∧ Lows w ([blkL gu 9 [.string S, .string S2], blkL gt 9 [.string ⟨sl.toArray⟩, .string ⟨lx.toArray⟩, .string ⟨ly.toArray⟩, .string ⟨lz.toArray⟩], blkL gz 29 (prefC z (zb : Int)), blkL gy 27 (prefC y (yp : Int)), blkL gx 25 x.cells, blkL gd 29 (prefC d (db : Int)), blkL gb 27 (prefC b (bp : Int)), blkL ga 25 a.cells]) wr) (fun i _ => 2 - (intOf i).toNat)
      case atStart => exact ⟨0, by omega, rfl, HM.out⟩
      case round =>
        obtain ⟨p, hp, rfl, hM⟩ := hrel
        replace HM := Lib.hid hM
        clear hM
        by_cases hp2 : p < 2
        · obtain ⟨U, hU⟩ : ∃ U, (if p = 0 then S else S2) = U := ⟨_, rfl⟩
          have hcell2 : wr.cell? ⟨gu, p, none⟩ = some (.string U) := by rw [(HM.out.blk 0 rfl).cell p, ← hU]; rcases (show p = 0 ∨ p = 1 by omega) with rfl | rfl <;> rfl
          have HRU := Lib.hid (show ∀ W, LvCf W → Calls Tryz.prog 16 #[.string U] W fun e w' => e = .returned (.bool true) ∧ Below W.heap.size W w' from by rw [← hU]; split; exact HRT.out; exact HR2.out)
          clear hU
          have hpp : (0 : Int) ≤ (p : Int) := by omega
          have hpx : (p : Int) < 2 := by omega
          have hwp : IntKind.i64.wrap ((p : Int) + 1) = (p : Int) + 1 := IntWalk.i64_in _ (by omega)
          go_wp2_with fail
          refine (HRU.out _ (HLV.out.below HM.out.bel)).mono ?_
          rintro e w12 ⟨rfl, hb⟩
          replace HM := Lib.hid (HM.out.below hb)
          clear hb hcell2
          go_wp2_with fail
          go_roundw
          case rel => exact ⟨p + 1, by omega, by go_num, HM.out⟩
          case measure => simp [intOf]; omega
        · obtain rfl : p = 2 := by omega
          have hwj : IntKind.i64.wrap ((j : Int) + 1) = (j : Int) + 1 := IntWalk.i64_in _ (by omega)
          go_wp2_with fail
          go_roundw
          case rel => exact ⟨j + 1, by omega, by go_num, HM.out.tail 0⟩
          case measure => simp [intOf]; omega
    · obtain rfl : j = 4 := by omega
      go_upto_region 17 with fail
      refine wp_region_held_drew (S := fun W' => Lows w [blkL gt 9 [.string ⟨sl.toArray⟩, .string ⟨lx.toArray⟩, .string ⟨ly.toArray⟩, .string ⟨lz.toArray⟩], blkL gz 29 (prefC z (zb : Int)), blkL gy 27 (prefC y (yp : Int)), blkL gx 25 x.cells, blkL gd 29 (prefC d (db : Int)), blkL gb 27 (prefC b (bp : Int)), blkL ga 25 a.cells] W') (by kernel_rfl) (HM.out.drew) (fun hHeld => ?_)
      replace HM := Lib.hid HM.out.drew
      generalize wr.drew = wd1 at HM hHeld ⊢
      refine take_first (v := .agg ca) 0 rfl (by kernel_rfl) (by kernel_rfl) (by kernel_rfl) (fun _ _ _ h => h) (by rw [← HCA.out]; exact yields_load_obj (by rfl) 25 (.tmp 8) rfl ga 0 rfl a.cells (fun w' hb => (Lows.blk hb 6 rfl).all) _ Tryz.underlying25 rfl HUA.out) (by assumption) ?_
      (try simp only [Act.put, List.setIfInBounds_toArray, List.set_cons_zero, List.set_cons_succ])
      refine take_first (v := .agg ca) 2 rfl (by kernel_rfl) (by kernel_rfl) (by kernel_rfl) (fun _ _ _ h => h) (by rw [← HCA.out]; exact yields_load_obj (by rfl) 25 (.tmp 8) rfl ga 0 rfl a.cells (fun w' hb => (Lows.blk hb 6 rfl).all) _ Tryz.underlying25 rfl HUA.out) (by assumption) ?_
      (try simp only [Act.put, List.setIfInBounds_toArray, List.set_cons_zero, List.set_cons_succ])
      refine step_one 1 rfl (by kernel_rfl) (fun K hK => ?_)
      clear hHeld
      go_simp
      refine (HFA.out _ (HLV.out.below HM.out.bel)).mono ?_
      rintro e wy2 ⟨rfl, hb⟩
      replace HM := Lib.hid (show Lows w [blkL gt 9 [.string ⟨sl.toArray⟩, .string ⟨lx.toArray⟩, .string ⟨ly.toArray⟩, .string ⟨lz.toArray⟩], blkL gz 29 (prefC z (zb : Int)), blkL gy 27 (prefC y (yp : Int)), blkL gx 25 x.cells, blkL gd 29 (prefC d (db : Int)), blkL gb 27 (prefC b (bp : Int)), blkL ga 25 a.cells] wy2 from HM.out.below hb)
      clear hb
      go_wp2_with fail
      refine hK.out _ _ (HM.out) (fun hHeld => ?_)
      clear hK K
      (try simp only [Act.put, List.setIfInBounds_toArray, List.set_cons_zero, List.set_cons_succ])
      refine step_one 3 rfl (by kernel_rfl) (fun K hK => ?_)
      clear hHeld
      go_simp
      refine (HGA.out _).mono ?_
      rintro e wy3 ⟨rfl, hb⟩
      replace HM := Lib.hid (show Lows w [blkL gt 9 [.string ⟨sl.toArray⟩, .string ⟨lx.toArray⟩, .string ⟨ly.toArray⟩, .string ⟨lz.toArray⟩], blkL gz 29 (prefC z (zb : Int)), blkL gy 27 (prefC y (yp : Int)), blkL gx 25 x.cells, blkL gd 29 (prefC d (db : Int)), blkL gb 27 (prefC b (bp : Int)), blkL ga 25 a.cells] wy3 from HM.out.below hb)
      clear hb
      go_wp2_with fail
      refine hK.out _ _ (HM.out) (fun hHeld => ?_)
      clear hK K
      (try simp only [Act.put, List.setIfInBounds_toArray, List.set_cons_zero, List.set_cons_succ])
      refine take_first (v := ?_) 4 rfl (by kernel_rfl) (by kernel_rfl) (by kernel_rfl) (fun _ _ _ h => h) (Or.inl ⟨by rfl, ?_⟩) (by assumption) ?_
      rotate_left
      · (intro w hSw; (try dsimp only at hSw); go_simp; try with_reducible rfl)
      (try simp only [Act.put, List.setIfInBounds_toArray, List.set_cons_zero, List.set_cons_succ])
      refine take_first (v := ?_) 5 rfl (by kernel_rfl) (by kernel_rfl) (by kernel_rfl) (fun _ _ _ h => h) (Or.inl ⟨by rfl, ?_⟩) (by assumption) ?_
      rotate_left
      · (intro w hSw; (try dsimp only at hSw); go_simp; try with_reducible rfl)
      (try simp only [Act.put, List.setIfInBounds_toArray, List.set_cons_zero, List.set_cons_succ])
      refine take_first (v := .agg cx) 6 rfl (by kernel_rfl) (by kernel_rfl) (by kernel_rfl) (fun _ _ _ h => h) (by rw [← HCX.out]; exact yields_load_obj (by rfl) 25 (.tmp 16) rfl gx 0 rfl x.cells (fun w' hb => (Lows.blk hb 3 rfl).all) _ Tryz.underlying25 rfl HUX.out) (by assumption) ?_
      (try simp only [Act.put, List.setIfInBounds_toArray, List.set_cons_zero, List.set_cons_succ])
      refine take_first (v := .agg cx) 8 rfl (by kernel_rfl) (by kernel_rfl) (by kernel_rfl) (fun _ _ _ h => h) (by rw [← HCX.out]; exact yields_load_obj (by rfl) 25 (.tmp 16) rfl gx 0 rfl x.cells (fun w' hb => (Lows.blk hb 3 rfl).all) _ Tryz.underlying25 rfl HUX.out) (by assumption) ?_
      (try simp only [Act.put, List.setIfInBounds_toArray, List.set_cons_zero, List.set_cons_succ])
      refine step_one 7 rfl (by kernel_rfl) (fun K hK => ?_)
      clear hHeld
      go_simp
      refine (HFX.out _ (HLV.out.below HM.out.bel)).mono ?_
      rintro e wy4 ⟨rfl, hb⟩
      replace HM := Lib.hid (show Lows w [blkL gt 9 [.string ⟨sl.toArray⟩, .string ⟨lx.toArray⟩, .string ⟨ly.toArray⟩, .string ⟨lz.toArray⟩], blkL gz 29 (prefC z (zb : Int)), blkL gy 27 (prefC y (yp : Int)), blkL gx 25 x.cells, blkL gd 29 (prefC d (db : Int)), blkL gb 27 (prefC b (bp : Int)), blkL ga 25 a.cells] wy4 from HM.out.below hb)
      clear hb
      go_wp2_with fail
      refine hK.out _ _ (HM.out) (fun hHeld => ?_)
      clear hK K
      (try simp only [Act.put, List.setIfInBounds_toArray, List.set_cons_zero, List.set_cons_succ])
      refine step_one 9 rfl (by kernel_rfl) (fun K hK => ?_)
      clear hHeld
      go_simp
      refine (HRX.out _).mono ?_
      rintro e wy5 ⟨rfl, hb⟩
      replace HM := Lib.hid (show Lows w [blkL gt 9 [.string ⟨sl.toArray⟩, .string ⟨lx.toArray⟩, .string ⟨ly.toArray⟩, .string ⟨lz.toArray⟩], blkL gz 29 (prefC z (zb : Int)), blkL gy 27 (prefC y (yp : Int)), blkL gx 25 x.cells, blkL gd 29 (prefC d (db : Int)), blkL gb 27 (prefC b (bp : Int)), blkL ga 25 a.cells] wy5 from HM.out.below hb)
      clear hb
      go_wp2_with fail
      refine hK.out _ _ (HM.out) (fun hHeld => ?_)
      clear hK K
      (try simp only [Act.put, List.setIfInBounds_toArray, List.set_cons_zero, List.set_cons_succ])
      refine take_first (v := ?_) 10 rfl (by kernel_rfl) (by kernel_rfl) (by kernel_rfl) (fun _ _ _ h => h) (Or.inl ⟨by rfl, ?_⟩) (by assumption) ?_
      rotate_left
      · (intro w hSw; (try dsimp only at hSw); go_simp; try with_reducible rfl)
      (try simp only [Act.put, List.setIfInBounds_toArray, List.set_cons_zero, List.set_cons_succ])
      refine take_first (v := ?_) 11 rfl (by kernel_rfl) (by kernel_rfl) (by kernel_rfl) (fun _ _ _ h => h) (Or.inl ⟨by rfl, ?_⟩) (by assumption) ?_
      rotate_left
      · (intro w hSw; (try dsimp only at hSw); go_simp; try with_reducible rfl)
      (try simp only [Act.put, List.setIfInBounds_toArray, List.set_cons_zero, List.set_cons_succ])
      refine take_first (v := ?_) 12 rfl (by kernel_rfl) (by kernel_rfl) (by kernel_rfl) (fun _ _ _ h => h) (Or.inl ⟨by rfl, ?_⟩) (by assumption) ?_
      rotate_left
      · (intro w hSw; (try dsimp only at hSw); go_simp; try with_reducible rfl)
      (try simp only [Act.put, List.setIfInBounds_toArray, List.set_cons_zero, List.set_cons_succ])
      refine take_first (v := .agg cb) 13 rfl (by kernel_rfl) (by kernel_rfl) (by kernel_rfl) (fun _ _ _ h => h) (by rw [← HCB.out]; exact yields_load_obj (by rfl) 27 (.tmp 9) rfl gb 0 rfl (prefC b (bp : Int)) (fun w' hb => (Lows.blk hb 5 rfl).all) _ Tryz.underlying27 rfl HUB.out) (by assumption) ?_
      (try simp only [Act.put, List.setIfInBounds_toArray, List.set_cons_zero, List.set_cons_succ])
      refine take_first (v := .agg cb) 15 rfl (by kernel_rfl) (by kernel_rfl) (by kernel_rfl) (fun _ _ _ h => h) (by rw [← HCB.out]; exact yields_load_obj (by rfl) 27 (.tmp 9) rfl gb 0 rfl (prefC b (bp : Int)) (fun w' hb => (Lows.blk hb 5 rfl).all) _ Tryz.underlying27 rfl HUB.out) (by assumption) ?_
      (try simp only [Act.put, List.setIfInBounds_toArray, List.set_cons_zero, List.set_cons_succ])
      refine step_one 14 rfl (by kernel_rfl) (fun K hK => ?_)
      clear hHeld
      go_simp
      refine (HFB.out _ (HLV.out.below HM.out.bel)).mono ?_
      rintro e wy6 ⟨rfl, hb⟩
      replace HM := Lib.hid (show Lows w [blkL gt 9 [.string ⟨sl.toArray⟩, .string ⟨lx.toArray⟩, .string ⟨ly.toArray⟩, .string ⟨lz.toArray⟩], blkL gz 29 (prefC z (zb : Int)), blkL gy 27 (prefC y (yp : Int)), blkL gx 25 x.cells, blkL gd 29 (prefC d (db : Int)), blkL gb 27 (prefC b (bp : Int)), blkL ga 25 a.cells] wy6 from HM.out.below hb)
      clear hb
      go_wp2_with fail
      refine hK.out _ _ (HM.out) (fun hHeld => ?_)
      clear hK K
      (try simp only [Act.put, List.setIfInBounds_toArray, List.set_cons_zero, List.set_cons_succ])
      refine step_one 16 rfl (by kernel_rfl) (fun K hK => ?_)
      clear hHeld
      go_simp
      refine (HGB.out _).mono ?_
      rintro e wy7 ⟨rfl, hb⟩
      replace HM := Lib.hid (show Lows w [blkL gt 9 [.string ⟨sl.toArray⟩, .string ⟨lx.toArray⟩, .string ⟨ly.toArray⟩, .string ⟨lz.toArray⟩], blkL gz 29 (prefC z (zb : Int)), blkL gy 27 (prefC y (yp : Int)), blkL gx 25 x.cells, blkL gd 29 (prefC d (db : Int)), blkL gb 27 (prefC b (bp : Int)), blkL ga 25 a.cells] wy7 from HM.out.below hb)
      clear hb
      go_wp2_with fail
      refine hK.out _ _ (HM.out) (fun hHeld => ?_)
      clear hK K
      (try simp only [Act.put, List.setIfInBounds_toArray, List.set_cons_zero, List.set_cons_succ])
      refine take_first (v := ?_) 17 rfl (by kernel_rfl) (by kernel_rfl) (by kernel_rfl) (fun _ _ _ h => h) (Or.inl ⟨by rfl, ?_⟩) (by assumption) ?_
      rotate_left
      · (intro w hSw; (try dsimp only at hSw); go_simp; try with_reducible rfl)
      (try simp only [Act.put, List.setIfInBounds_toArray, List.set_cons_zero, List.set_cons_succ])
      refine take_first (v := ?_) 18 rfl (by kernel_rfl) (by kernel_rfl) (by kernel_rfl) (fun _ _ _ h => h) (Or.inl ⟨by rfl, ?_⟩) (by assumption) ?_
      rotate_left
      · (intro w hSw; (try dsimp only at hSw); go_simp; try with_reducible rfl)
      (try simp only [Act.put, List.setIfInBounds_toArray, List.set_cons_zero, List.set_cons_succ])
      refine take_first (v := ?_) 19 rfl (by kernel_rfl) (by kernel_rfl) (by kernel_rfl) (fun _ _ _ h => h) (Or.inl ⟨by rfl, ?_⟩) (by assumption) ?_
      rotate_left
      · (intro w hSw; (try dsimp only at hSw); go_simp; try with_reducible rfl)
      (try simp only [Act.put, List.setIfInBounds_toArray, List.set_cons_zero, List.set_cons_succ])
      refine take_first (v := .agg cy) 20 rfl (by kernel_rfl) (by kernel_rfl) (by kernel_rfl) (fun _ _ _ h => h) (by rw [← HCY.out]; exact yields_load_obj (by rfl) 27 (.tmp 17) rfl gy 0 rfl (prefC y (yp : Int)) (fun w' hb => (Lows.blk hb 2 rfl).all) _ Tryz.underlying27 rfl HUY.out) (by assumption) ?_
      (try simp only [Act.put, List.setIfInBounds_toArray, List.set_cons_zero, List.set_cons_succ])
      refine take_first (v := .agg cy) 22 rfl (by kernel_rfl) (by kernel_rfl) (by kernel_rfl) (fun _ _ _ h => h) (by rw [← HCY.out]; exact yields_load_obj (by rfl) 27 (.tmp 17) rfl gy 0 rfl (prefC y (yp : Int)) (fun w' hb => (Lows.blk hb 2 rfl).all) _ Tryz.underlying27 rfl HUY.out) (by assumption) ?_
      (try simp only [Act.put, List.setIfInBounds_toArray, List.set_cons_zero, List.set_cons_succ])
      refine step_one 21 rfl (by kernel_rfl) (fun K hK => ?_)
      clear hHeld
      go_simp
      refine (HFY.out _ (HLV.out.below HM.out.bel)).mono ?_
      rintro e wy8 ⟨rfl, hb⟩
      replace HM := Lib.hid (show Lows w [blkL gt 9 [.string ⟨sl.toArray⟩, .string ⟨lx.toArray⟩, .string ⟨ly.toArray⟩, .string ⟨lz.toArray⟩], blkL gz 29 (prefC z (zb : Int)), blkL gy 27 (prefC y (yp : Int)), blkL gx 25 x.cells, blkL gd 29 (prefC d (db : Int)), blkL gb 27 (prefC b (bp : Int)), blkL ga 25 a.cells] wy8 from HM.out.below hb)
      clear hb
      go_wp2_with fail
      refine hK.out _ _ (HM.out) (fun hHeld => ?_)
      clear hK K
      (try simp only [Act.put, List.setIfInBounds_toArray, List.set_cons_zero, List.set_cons_succ])
      refine step_one 23 rfl (by kernel_rfl) (fun K hK => ?_)
      clear hHeld
      go_simp
      refine (HRY.out _).mono ?_
      rintro e wy9 ⟨rfl, hb⟩
      replace HM := Lib.hid (show Lows w [blkL gt 9 [.string ⟨sl.toArray⟩, .string ⟨lx.toArray⟩, .string ⟨ly.toArray⟩, .string ⟨lz.toArray⟩], blkL gz 29 (prefC z (zb : Int)), blkL gy 27 (prefC y (yp : Int)), blkL gx 25 x.cells, blkL gd 29 (prefC d (db : Int)), blkL gb 27 (prefC b (bp : Int)), blkL ga 25 a.cells] wy9 from HM.out.below hb)
      clear hb
      go_wp2_with fail
      refine hK.out _ _ (HM.out) (fun hHeld => ?_)
      clear hK K
      (try simp only [Act.put, List.setIfInBounds_toArray, List.set_cons_zero, List.set_cons_succ])
      refine take_first (v := ?_) 24 rfl (by kernel_rfl) (by kernel_rfl) (by kernel_rfl) (fun _ _ _ h => h) (Or.inl ⟨by rfl, ?_⟩) (by assumption) ?_
      rotate_left
      · (intro w hSw; (try dsimp only at hSw); go_simp; try with_reducible rfl)
      (try simp only [Act.put, List.setIfInBounds_toArray, List.set_cons_zero, List.set_cons_succ])
      refine take_first (v := ?_) 25 rfl (by kernel_rfl) (by kernel_rfl) (by kernel_rfl) (fun _ _ _ h => h) (Or.inl ⟨by rfl, ?_⟩) (by assumption) ?_
      rotate_left
      · (intro w hSw; (try dsimp only at hSw); go_simp; try with_reducible rfl)
      (try simp only [Act.put, List.setIfInBounds_toArray, List.set_cons_zero, List.set_cons_succ])
      refine take_first (v := ?_) 26 rfl (by kernel_rfl) (by kernel_rfl) (by kernel_rfl) (fun _ _ _ h => h) (Or.inl ⟨by rfl, ?_⟩) (by assumption) ?_
      rotate_left
      · (intro w hSw; (try dsimp only at hSw); go_simp; try with_reducible rfl)
      (try simp only [Act.put, List.setIfInBounds_toArray, List.set_cons_zero, List.set_cons_succ])
      refine take_first (v := .agg cd) 27 rfl (by kernel_rfl) (by kernel_rfl) (by kernel_rfl) (fun _ _ _ h => h) (by rw [← HCD.out]; exact yields_load_obj (by rfl) 29 (.tmp 10) rfl gd 0 rfl (prefC d (db : Int)) (fun w' hb => (Lows.blk hb 4 rfl).all) _ Tryz.underlying29 rfl HUD.out) (by assumption) ?_
      (try simp only [Act.put, List.setIfInBounds_toArray, List.set_cons_zero, List.set_cons_succ])
      refine take_first (v := .agg cd) 29 rfl (by kernel_rfl) (by kernel_rfl) (by kernel_rfl) (fun _ _ _ h => h) (by rw [← HCD.out]; exact yields_load_obj (by rfl) 29 (.tmp 10) rfl gd 0 rfl (prefC d (db : Int)) (fun w' hb => (Lows.blk hb 4 rfl).all) _ Tryz.underlying29 rfl HUD.out) (by assumption) ?_
      (try simp only [Act.put, List.setIfInBounds_toArray, List.set_cons_zero, List.set_cons_succ])
      refine step_one 28 rfl (by kernel_rfl) (fun K hK => ?_)
      clear hHeld
      go_simp
      refine (HFD.out _ (HLV.out.below HM.out.bel)).mono ?_
      rintro e wy10 ⟨rfl, hb⟩
      replace HM := Lib.hid (show Lows w [blkL gt 9 [.string ⟨sl.toArray⟩, .string ⟨lx.toArray⟩, .string ⟨ly.toArray⟩, .string ⟨lz.toArray⟩], blkL gz 29 (prefC z (zb : Int)), blkL gy 27 (prefC y (yp : Int)), blkL gx 25 x.cells, blkL gd 29 (prefC d (db : Int)), blkL gb 27 (prefC b (bp : Int)), blkL ga 25 a.cells] wy10 from HM.out.below hb)
      clear hb
      go_wp2_with fail
      refine hK.out _ _ (HM.out) (fun hHeld => ?_)
      clear hK K
      (try simp only [Act.put, List.setIfInBounds_toArray, List.set_cons_zero, List.set_cons_succ])
      refine step_one 30 rfl (by kernel_rfl) (fun K hK => ?_)
      clear hHeld
      go_simp
      refine (HGD.out _).mono ?_
      rintro e wy11 ⟨rfl, hb⟩
      replace HM := Lib.hid (show Lows w [blkL gt 9 [.string ⟨sl.toArray⟩, .string ⟨lx.toArray⟩, .string ⟨ly.toArray⟩, .string ⟨lz.toArray⟩], blkL gz 29 (prefC z (zb : Int)), blkL gy 27 (prefC y (yp : Int)), blkL gx 25 x.cells, blkL gd 29 (prefC d (db : Int)), blkL gb 27 (prefC b (bp : Int)), blkL ga 25 a.cells] wy11 from HM.out.below hb)
      clear hb
      go_wp2_with fail
      refine hK.out _ _ (HM.out) (fun hHeld => ?_)
      clear hK K
      (try simp only [Act.put, List.setIfInBounds_toArray, List.set_cons_zero, List.set_cons_succ])
      refine take_first (v := ?_) 31 rfl (by kernel_rfl) (by kernel_rfl) (by kernel_rfl) (fun _ _ _ h => h) (Or.inl ⟨by rfl, ?_⟩) (by assumption) ?_
      rotate_left
      · (intro w hSw; (try dsimp only at hSw); go_simp; try with_reducible rfl)
      (try simp only [Act.put, List.setIfInBounds_toArray, List.set_cons_zero, List.set_cons_succ])
      refine take_first (v := ?_) 32 rfl (by kernel_rfl) (by kernel_rfl) (by kernel_rfl) (fun _ _ _ h => h) (Or.inl ⟨by rfl, ?_⟩) (by assumption) ?_
      rotate_left
      · (intro w hSw; (try dsimp only at hSw); go_simp; try with_reducible rfl)
      (try simp only [Act.put, List.setIfInBounds_toArray, List.set_cons_zero, List.set_cons_succ])
      refine take_first (v := ?_) 33 rfl (by kernel_rfl) (by kernel_rfl) (by kernel_rfl) (fun _ _ _ h => h) (Or.inl ⟨by rfl, ?_⟩) (by assumption) ?_
      rotate_left
      · (intro w hSw; (try dsimp only at hSw); go_simp; try with_reducible rfl)
      (try simp only [Act.put, List.setIfInBounds_toArray, List.set_cons_zero, List.set_cons_succ])
      refine take_first (v := .agg cz) 34 rfl (by kernel_rfl) (by kernel_rfl) (by kernel_rfl) (fun _ _ _ h => h) (by rw [← HCZ.out]; exact yields_load_obj (by rfl) 29 (.tmp 18) rfl gz 0 rfl (prefC z (zb : Int)) (fun w' hb => (Lows.blk hb 1 rfl).all) _ Tryz.underlying29 rfl HUZ.out) (by assumption) ?_
      (try simp only [Act.put, List.setIfInBounds_toArray, List.set_cons_zero, List.set_cons_succ])
      refine take_first (v := .agg cz) 36 rfl (by kernel_rfl) (by kernel_rfl) (by kernel_rfl) (fun _ _ _ h => h) (by rw [← HCZ.out]; exact yields_load_obj (by rfl) 29 (.tmp 18) rfl gz 0 rfl (prefC z (zb : Int)) (fun w' hb => (Lows.blk hb 1 rfl).all) _ Tryz.underlying29 rfl HUZ.out) (by assumption) ?_
      (try simp only [Act.put, List.setIfInBounds_toArray, List.set_cons_zero, List.set_cons_succ])
      refine step_one 35 rfl (by kernel_rfl) (fun K hK => ?_)
      clear hHeld
      go_simp
      refine (HFZ.out _ (HLV.out.below HM.out.bel)).mono ?_
      rintro e wy12 ⟨rfl, hb⟩
      replace HM := Lib.hid (show Lows w [blkL gt 9 [.string ⟨sl.toArray⟩, .string ⟨lx.toArray⟩, .string ⟨ly.toArray⟩, .string ⟨lz.toArray⟩], blkL gz 29 (prefC z (zb : Int)), blkL gy 27 (prefC y (yp : Int)), blkL gx 25 x.cells, blkL gd 29 (prefC d (db : Int)), blkL gb 27 (prefC b (bp : Int)), blkL ga 25 a.cells] wy12 from HM.out.below hb)
      clear hb
      go_wp2_with fail
      refine hK.out _ _ (HM.out) (fun hHeld => ?_)
      clear hK K
      (try simp only [Act.put, List.setIfInBounds_toArray, List.set_cons_zero, List.set_cons_succ])
      refine step_one 37 rfl (by kernel_rfl) (fun K hK => ?_)
      clear hHeld
      go_simp
      refine (HRZ.out _).mono ?_
      rintro e wy13 ⟨rfl, hb⟩
      replace HM := Lib.hid (show Lows w [blkL gt 9 [.string ⟨sl.toArray⟩, .string ⟨lx.toArray⟩, .string ⟨ly.toArray⟩, .string ⟨lz.toArray⟩], blkL gz 29 (prefC z (zb : Int)), blkL gy 27 (prefC y (yp : Int)), blkL gx 25 x.cells, blkL gd 29 (prefC d (db : Int)), blkL gb 27 (prefC b (bp : Int)), blkL ga 25 a.cells] wy13 from HM.out.below hb)
      clear hb
      go_wp2_with fail
      refine hK.out _ _ (HM.out) (fun hHeld => ?_)
      clear hK K
      (try simp only [Act.put, List.setIfInBounds_toArray, List.set_cons_zero, List.set_cons_succ])
      refine take_first (v := ?_) 38 rfl (by kernel_rfl) (by kernel_rfl) (by kernel_rfl) (fun _ _ _ h => h) (Or.inl ⟨by rfl, ?_⟩) (by assumption) ?_
      rotate_left
      · (intro w hSw; (try dsimp only at hSw); go_simp; try with_reducible rfl)
      (try simp only [Act.put, List.setIfInBounds_toArray, List.set_cons_zero, List.set_cons_succ])
      refine take_first (v := ?_) 39 rfl (by kernel_rfl) (by kernel_rfl) (by kernel_rfl) (fun _ _ _ h => h) (Or.inl ⟨by rfl, ?_⟩) (by assumption) ?_
      rotate_left
      · (intro w hSw; (try dsimp only at hSw); go_simp; try with_reducible rfl)
      (try simp only [Act.put, List.setIfInBounds_toArray, List.set_cons_zero, List.set_cons_succ])
      refine take_first (v := ?_) 40 rfl (by kernel_rfl) (by kernel_rfl) (by kernel_rfl) (fun _ _ _ h => h) (Or.inl ⟨by rfl, ?_⟩) (by assumption) ?_
      rotate_left
      · (intro w hSw; (try dsimp only at hSw); go_simp; try with_reducible rfl)
      (try simp only [Act.put, List.setIfInBounds_toArray, List.set_cons_zero, List.set_cons_succ])
      refine step_one 41 rfl (by kernel_rfl) (fun K hK => ?_)
      clear hHeld
      go_simp
      refine (HBG.out _ (HLV.out.below HM.out.bel)).mono ?_
      rintro e wy14 ⟨rfl, hb⟩
      replace HM := Lib.hid (show Lows w [blkL gt 9 [.string ⟨sl.toArray⟩, .string ⟨lx.toArray⟩, .string ⟨ly.toArray⟩, .string ⟨lz.toArray⟩], blkL gz 29 (prefC z (zb : Int)), blkL gy 27 (prefC y (yp : Int)), blkL gx 25 x.cells, blkL gd 29 (prefC d (db : Int)), blkL gb 27 (prefC b (bp : Int)), blkL ga 25 a.cells] wy14 from HM.out.below hb)
      clear hb
      go_wp2_with fail
      refine hK.out _ _ (HM.out) (fun hHeld => ?_)
      clear hK K
      (try simp only [Act.put, List.setIfInBounds_toArray, List.set_cons_zero, List.set_cons_succ])
      refine take_first (v := ?_) 42 rfl (by kernel_rfl) (by kernel_rfl) (by kernel_rfl) (fun _ _ _ h => h) (Or.inl ⟨by rfl, ?_⟩) (by assumption) ?_
      rotate_left
      · (intro w hSw; (try dsimp only at hSw); go_simp; try with_reducible rfl)
      (try simp only [Act.put, List.setIfInBounds_toArray, List.set_cons_zero, List.set_cons_succ])
      refine take_first (v := ?_) 43 rfl (by kernel_rfl) (by kernel_rfl) (by kernel_rfl) (fun _ _ _ h => h) (Or.inl ⟨by rfl, ?_⟩) (by assumption) ?_
      rotate_left
      · (intro w hSw; (try dsimp only at hSw); go_simp; try with_reducible rfl)
      (try simp only [Act.put, List.setIfInBounds_toArray, List.set_cons_zero, List.set_cons_succ])
      refine wpAnyH_done (by kernel_rfl) ?_ _
      clear hHeld
      replace HM := Lib.hid HM.out.bel
      go_wp2_with fail
      go_ret
      exact ⟨rfl, HM.out⟩

end Go.Proofs.YtkhghmmgegkiiaaGreatDoor
