/-
  The contracts of the choices that the statements are made of: Prefix. Prefixes that are addresses with bits cleared: valid, and what they contain. A prefix of choices is valid. What the choices' Config gives: mathematics, and the prefixes that are left as a fact of memory. The choices' Key. The capacity of a row. The contract of the choices that the statements are made of: Prefixes. The contracts of the choices that the statements are made of: Big, Endpoint. The choices that the statements are made of: Bool. The choices' Config: the beginning, up to the peers. The choices' Config: a peer that is being made, and how it goes into the list. No statement is proved here.
-/
import Derived.RegionTactic
import Derived.Deep.DeepCutAuto
import Derived.Laws.Bits64
import Derived.Laws.BitsAllLaws
import Derived.Test.YtcbfchkhbngpkaaGreatDoorConfigReturnsB8
namespace Go.Proofs.YtcbfchkhbngpkaaGreatDoor
open Go.RowKit

/-- the bits of a prefix of choices, and the choices taken behind it -/
def codePn (l : List UInt8) (p : Nat) : Nat := if sixV l p then 129 else 33
def codePb (l : List UInt8) (p : Nat) : Nat := nextV l (codeAP l p) (codePn l p)
def codePP (l : List UInt8) (p : Nat) : Nat := nextP l (codeAP l p) (codePn l p)
theorem codePb_le (l : List UInt8) (p : Nat) : codePb l p ≤ 128 := by
  have h := nextV_lt l (codeAP l p) (codePn l p) (by unfold codePn; split <;> omega)
  have h2 : codePn l p ≤ 129 := by unfold codePn; split <;> omega
  unfold codePb
  omega
def codeM (l : List UInt8) (p : Nat) : AddrM := maskM (codeA l p) (codePb l p)
theorem codeM_ok (l : List UInt8) (p : Nat) : (codeM l p).ok := maskM_ok _ (codeA_ok l p) _
set_option maxRecDepth 100000 in
set_option maxHeartbeats 4000000 in
theorem casePrefix_any (g : Nat) (A : Option Addr) (n c : Nat) (l : List UInt8) (B : Nat) (p : Nat) (w : World) (hc : CodesAt w g A n c l B p) :
    Calls Tryz.prog 44 #[.pointer (some ⟨g, 0, none⟩)] w fun e w' => e = .returned (.agg (prefC (codeM l p) (codePb l p : Int)).toArray) ∧ CodesAt w' g A n c l B (codePP l p) ∧ w.grownBy w' (some g) := by
  rw [codeM]
  obtain ⟨v, hv⟩ : ∃ v, codePb l p = v := ⟨_, rfl⟩
  have hv128 : v ≤ 128 := hv ▸ codePb_le l p
  rw [hv]
  obtain ⟨ca, hca⟩ : ∃ x, (codeA l p).cells.toArray = x := ⟨_, rfl⟩
  obtain ⟨cp, hcp⟩ : ∃ x, (prefC (maskM (codeA l p) v) (v : Int)).toArray = x := ⟨_, rfl⟩
  have HK := Lib.hid (caseMasked_any (codeA l p) (codeA_ok l p) v hv128)
  have HAC := Lib.hid (caseAddr_any g A n c l B p)
  rw [hca, hcp] at HK
  rw [hca] at HAC
  rw [hcp]
  have HB := Lib.hid (And.intro hca hcp)
  have HV := Lib.hid hv
  have HO := Lib.hid (codeA_ok l p)
  have HMO := Lib.hid (maskM_ok _ HO.out v)
  have HLP := Lib.hid (prefC_length (maskM (codeA l p) v) HMO.out (v : Int))
  have HAL := Lib.hid (AddrM.cells_length HO.out)
  have HCO := Lib.hid (addr_cellsOf _ HO.out)
  clear hca hcp hv
  have hgl := hc.lt
  have HM := Lib.hid (show MemG w g [blkE w.heap.size 60 pref0] (w.alloc (.cells #[.bool false, .int .u8 0, .int .u8 0, .int .u8 0, .int .u8 0, .int .u8 0, .int .u8 0, .int .u8 0, .int .u8 0, .int .u8 0, .int .u8 0, .int .u8 0, .int .u8 0, .int .u8 0, .int .u8 0, .int .u8 0, .int .u8 0, .int .i64 0] 60)) from (MemG.nil w g).alloc rfl 60 #[.bool false, .int .u8 0, .int .u8 0, .int .u8 0, .int .u8 0, .int .u8 0, .int .u8 0, .int .u8 0, .int .u8 0, .int .u8 0, .int .u8 0, .int .u8 0, .int .u8 0, .int .u8 0, .int .u8 0, .int .u8 0, .int .u8 0, .int .i64 0] pref0 rfl)
  have HC := Lib.hid (hc.below ((Below.refl _ _).alloc (Nat.le_refl _) (.cells #[.bool false, .int .u8 0, .int .u8 0, .int .u8 0, .int .u8 0, .int .u8 0, .int .u8 0, .int .u8 0, .int .u8 0, .int .u8 0, .int .u8 0, .int .u8 0, .int .u8 0, .int .u8 0, .int .u8 0, .int .u8 0, .int .u8 0, .int .i64 0] 60)))
  clear hc
  go_enter Tryz.func44, Tryz.ntmps44
  go_upto_region 1 with fail
  generalize w.alloc (.cells #[.bool false, .int .u8 0, .int .u8 0, .int .u8 0, .int .u8 0, .int .u8 0, .int .u8 0, .int .u8 0, .int .u8 0, .int .u8 0, .int .u8 0, .int .u8 0, .int .u8 0, .int .u8 0, .int .u8 0, .int .u8 0, .int .u8 0, .int .i64 0] 60) = w1 at HM HC ⊢
  go_wp2_with fail
  refine (HAC.out w1 HC.out).mono ?_
  rintro e w2 ⟨rfl, hc2, hg2⟩
  replace HM := Lib.hid (HM.out.next hgl hg2)
  replace HC := Lib.hid hc2
  clear hc2 hg2
  have HA := Lib.hid (show MemG w g [blkE w2.heap.size 53 addr0.cells, blkE w.heap.size 60 pref0] (w2.alloc (.cells #[.bool false, .int .u8 0, .int .u8 0, .int .u8 0, .int .u8 0, .int .u8 0, .int .u8 0, .int .u8 0, .int .u8 0, .int .u8 0, .int .u8 0, .int .u8 0, .int .u8 0, .int .u8 0, .int .u8 0, .int .u8 0, .int .u8 0] 53)) from HM.out.alloc rfl 53 #[.bool false, .int .u8 0, .int .u8 0, .int .u8 0, .int .u8 0, .int .u8 0, .int .u8 0, .int .u8 0, .int .u8 0, .int .u8 0, .int .u8 0, .int .u8 0, .int .u8 0, .int .u8 0, .int .u8 0, .int .u8 0, .int .u8 0] addr0.cells rfl)
  have HC3 := Lib.hid (HC.out.below ((Below.refl _ _).alloc (Nat.le_refl _) (.cells #[.bool false, .int .u8 0, .int .u8 0, .int .u8 0, .int .u8 0, .int .u8 0, .int .u8 0, .int .u8 0, .int .u8 0, .int .u8 0, .int .u8 0, .int .u8 0, .int .u8 0, .int .u8 0, .int .u8 0, .int .u8 0, .int .u8 0] 53)))
  have hP3 := HC.out.lt
  go_upto_region 2 with (refine wpList_store_blk rfl 53 (.tmp 3) (.tmp 6) rfl w2.heap.size (codeA l p).cells rfl (by show Value.agg ca = _; rw [HB.out.1]) 53 addr0.cells (HA.out.blk 0 rfl) HCO.out (by rw [HAL.out]; rfl) (AddrM.one _) ?_; intro w4 hb hg)
  (try simp only [Act.put])
  replace HM := Lib.hid (show MemG w g [blkE w2.heap.size 53 (codeA l p).cells, blkE w.heap.size 60 pref0] w4 from HA.out.put 0 rfl _ hg hb)
  replace HC := Lib.hid (HC3.out.put hg hP3)
  clear HA HC3 hb hg hP3 HAC
  generalize w2.heap.size = P3 at HM ⊢
  have f6 := (HM.out.blk 0 rfl).cell 0
  rw [show (codeA l p).cells[0]? = some (.bool (sixV l p)) from rfl] at f6
  obtain ⟨sx, hsx⟩ : ∃ q, sixV l p = q := ⟨_, rfl⟩
  rw [hsx] at f6
  have HSX := Lib.hid hsx
  clear hsx
  cases sx with
  | true =>
    have HQ := Lib.hid (show nextV l (codeAP l p) 129 = v ∧ nextP l (codeAP l p) 129 = codePP l p from by rw [← HV.out, codePb, codePP, codePn, HSX.out]; exact ⟨rfl, rfl⟩)
    go_upto_region 5 with fail
    refine wp_region_held_drew (S := fun W' => Blk W' P3 53 (codeA l p).cells) (by kernel_rfl) (((HM.out.drew).blk 0 rfl)) (fun hHeld => ?_)
    replace HM := Lib.hid HM.out.drew
    replace HC := Lib.hid (HC.out.below ((Below.refl _ _).drew))
    generalize w4.drew = wd1 at HM HC hHeld ⊢
    refine take_first (v := .agg ca) 0 rfl (by kernel_rfl) (by kernel_rfl) (by kernel_rfl) (fun _ _ _ h => h) (by rw [← HB.out.1]; exact yields_load_obj (by rfl) 53 (.tmp 3) rfl P3 0 rfl (codeA l p).cells (fun w' hb => hb.all) _ Tryz.underlying53 rfl HCO.out) (by assumption) ?_
    (try simp only [Act.put, List.setIfInBounds_toArray, List.set_cons_zero, List.set_cons_succ])
    refine take_first (v := ?_) 1 rfl (by kernel_rfl) (by kernel_rfl) (by kernel_rfl) (fun _ _ _ h => h) (Or.inl ⟨by rfl, ?_⟩) (by assumption) ?_
    rotate_left
    · (intro w hSw; (try dsimp only at hSw); go_simp; try with_reducible rfl)
    (try simp only [Act.put, List.setIfInBounds_toArray, List.set_cons_zero, List.set_cons_succ])
    refine take_first (v := ?_) 2 rfl (by kernel_rfl) (by kernel_rfl) (by kernel_rfl) (fun _ _ _ h => h) (Or.inl ⟨by rfl, ?_⟩) (by assumption) ?_
    rotate_left
    · (intro w hSw; (try dsimp only at hSw); go_simp; try with_reducible rfl)
    (try simp only [Act.put, List.setIfInBounds_toArray, List.set_cons_zero, List.set_cons_succ])
    refine step_one 3 rfl (by kernel_rfl) (fun K hK => ?_)
    clear hHeld
    go_simp
    refine (HC.out.callNext 129 (by omega)).mono ?_
    rintro e wy2 ⟨rfl, hc2, hg2⟩
    replace HM := Lib.hid (show MemG w g [blkE P3 53 (codeA l p).cells, blkE w.heap.size 60 pref0] wy2 from HM.out.next hgl hg2)
    replace HC := Lib.hid hc2
    clear hc2 hg2
    rw [HQ.out.2] at HC
    rw [HQ.out.1]
    go_wp2_with fail
    refine hK.out _ _ ((HM.out.blk 0 rfl)) (fun hHeld => ?_)
    clear hK K
    (try simp only [Act.put, List.setIfInBounds_toArray, List.set_cons_zero, List.set_cons_succ])
    refine step_one 4 rfl (by kernel_rfl) (fun K hK => ?_)
    clear hHeld
    go_simp
    refine (HK.out _).mono ?_
    rintro e wy3 ⟨rfl, hb⟩
    replace HM := Lib.hid (show MemG w g [blkE P3 53 (codeA l p).cells, blkE w.heap.size 60 pref0] wy3 from HM.out.below hb)
    replace HC := Lib.hid (HC.out.below hb)
    clear hb
    go_wp2_with fail
    refine hK.out _ _ ((HM.out.blk 0 rfl)) (fun hHeld => ?_)
    clear hK K
    (try simp only [Act.put, List.setIfInBounds_toArray, List.set_cons_zero, List.set_cons_succ])
    refine step_one 5 rfl (by kernel_rfl) (fun K hK => ?_)
    clear hHeld
    refine step_store_blk _ rfl 60 (.tmp 2) (.tmp 13) rfl w.heap.size (prefC (maskM (codeA l p) v) (v : Int)) rfl (by show Value.agg cp = _; rw [HB.out.2]) 60 pref0 (HM.out.blk 1 rfl) (pref_cellsOf _ HMO.out _) (by rw [HLP.out]; rfl) (prefC_one _ _) ?_
    intro wy4 hb hg
    replace HM := Lib.hid (show MemG w g [blkE P3 53 (codeA l p).cells, blkE w.heap.size 60 (prefC (maskM (codeA l p) v) (v : Int))] wy4 from HM.out.put 1 rfl _ hg hb)
    replace HC := Lib.hid (HC.out.put hg hgl)
    clear hb hg
    refine hK.out _ _ ((HM.out.blk 0 rfl)) (fun hHeld => ?_)
    clear hK K
    (try simp only [Act.put])
    refine wpAnyH_done (by kernel_rfl) ?_ _
    clear hHeld
    revert wy4
    intro w9 HM HC
    go_wp2_with fail
    have hb9 := HM.out.blk 1 rfl
    exact bodyPost_ret (results_obj rfl _ _ w.heap.size 60 (prefC (maskM (codeA l p) v) (v : Int)) _ rfl hb9 Tryz.underlying60 rfl (pref_cellsOf _ HMO.out _)) rfl ⟨by rw [HB.out.2], HC.out, HM.out.2⟩
  | false =>
    have HQ := Lib.hid (show nextV l (codeAP l p) 33 = v ∧ nextP l (codeAP l p) 33 = codePP l p from by rw [← HV.out, codePb, codePP, codePn, HSX.out]; exact ⟨rfl, rfl⟩)
    go_upto_region 5 with fail
    refine wp_region_held_drew (S := fun W' => Blk W' P3 53 (codeA l p).cells) (by kernel_rfl) (((HM.out.drew).blk 0 rfl)) (fun hHeld => ?_)
    replace HM := Lib.hid HM.out.drew
    replace HC := Lib.hid (HC.out.below ((Below.refl _ _).drew))
    generalize w4.drew = wd1 at HM HC hHeld ⊢
    refine take_first (v := .agg ca) 0 rfl (by kernel_rfl) (by kernel_rfl) (by kernel_rfl) (fun _ _ _ h => h) (by rw [← HB.out.1]; exact yields_load_obj (by rfl) 53 (.tmp 3) rfl P3 0 rfl (codeA l p).cells (fun w' hb => hb.all) _ Tryz.underlying53 rfl HCO.out) (by assumption) ?_
    (try simp only [Act.put, List.setIfInBounds_toArray, List.set_cons_zero, List.set_cons_succ])
    refine take_first (v := ?_) 1 rfl (by kernel_rfl) (by kernel_rfl) (by kernel_rfl) (fun _ _ _ h => h) (Or.inl ⟨by rfl, ?_⟩) (by assumption) ?_
    rotate_left
    · (intro w hSw; (try dsimp only at hSw); go_simp; try with_reducible rfl)
    (try simp only [Act.put, List.setIfInBounds_toArray, List.set_cons_zero, List.set_cons_succ])
    refine take_first (v := ?_) 2 rfl (by kernel_rfl) (by kernel_rfl) (by kernel_rfl) (fun _ _ _ h => h) (Or.inl ⟨by rfl, ?_⟩) (by assumption) ?_
    rotate_left
    · (intro w hSw; (try dsimp only at hSw); go_simp; try with_reducible rfl)
    (try simp only [Act.put, List.setIfInBounds_toArray, List.set_cons_zero, List.set_cons_succ])
    refine step_one 3 rfl (by kernel_rfl) (fun K hK => ?_)
    clear hHeld
    go_simp
    refine (HC.out.callNext 33 (by omega)).mono ?_
    rintro e wy2 ⟨rfl, hc2, hg2⟩
    replace HM := Lib.hid (show MemG w g [blkE P3 53 (codeA l p).cells, blkE w.heap.size 60 pref0] wy2 from HM.out.next hgl hg2)
    replace HC := Lib.hid hc2
    clear hc2 hg2
    rw [HQ.out.2] at HC
    rw [HQ.out.1]
    go_wp2_with fail
    refine hK.out _ _ ((HM.out.blk 0 rfl)) (fun hHeld => ?_)
    clear hK K
    (try simp only [Act.put, List.setIfInBounds_toArray, List.set_cons_zero, List.set_cons_succ])
    refine step_one 4 rfl (by kernel_rfl) (fun K hK => ?_)
    clear hHeld
    go_simp
    refine (HK.out _).mono ?_
    rintro e wy3 ⟨rfl, hb⟩
    replace HM := Lib.hid (show MemG w g [blkE P3 53 (codeA l p).cells, blkE w.heap.size 60 pref0] wy3 from HM.out.below hb)
    replace HC := Lib.hid (HC.out.below hb)
    clear hb
    go_wp2_with fail
    refine hK.out _ _ ((HM.out.blk 0 rfl)) (fun hHeld => ?_)
    clear hK K
    (try simp only [Act.put, List.setIfInBounds_toArray, List.set_cons_zero, List.set_cons_succ])
    refine step_one 5 rfl (by kernel_rfl) (fun K hK => ?_)
    clear hHeld
    refine step_store_blk _ rfl 60 (.tmp 2) (.tmp 13) rfl w.heap.size (prefC (maskM (codeA l p) v) (v : Int)) rfl (by show Value.agg cp = _; rw [HB.out.2]) 60 pref0 (HM.out.blk 1 rfl) (pref_cellsOf _ HMO.out _) (by rw [HLP.out]; rfl) (prefC_one _ _) ?_
    intro wy4 hb hg
    replace HM := Lib.hid (show MemG w g [blkE P3 53 (codeA l p).cells, blkE w.heap.size 60 (prefC (maskM (codeA l p) v) (v : Int))] wy4 from HM.out.put 1 rfl _ hg hb)
    replace HC := Lib.hid (HC.out.put hg hgl)
    clear hb hg
    refine hK.out _ _ ((HM.out.blk 0 rfl)) (fun hHeld => ?_)
    clear hK K
    (try simp only [Act.put])
    refine wpAnyH_done (by kernel_rfl) ?_ _
    clear hHeld
    revert wy4
    intro w9 HM HC
    go_wp2_with fail
    have hb9 := HM.out.blk 1 rfl
    exact bodyPost_ret (results_obj rfl _ _ w.heap.size 60 (prefC (maskM (codeA l p) v) (v : Int)) _ rfl hb9 Tryz.underlying60 rfl (pref_cellsOf _ HMO.out _)) rfl ⟨by rw [HB.out.2], HC.out, HM.out.2⟩
end Go.Proofs.YtcbfchkhbngpkaaGreatDoor
namespace Go.Proofs.YtcbfchkhbngpkaaGreatDoor
open Go.RowKit

theorem bit_clear_all : ∀ m : Fin 8, ∀ k : Fin 8, ∀ x : Fin 256, (clearBit (UInt8.ofNat x.val) m.val).toNat / 2 ^ (7 - k.val) % 2 = if k = m then 0 else x.val / 2 ^ (7 - k.val) % 2 := by decide +kernel
theorem bit_clear (x : UInt8) (m k : Nat) (hm : m < 8) (hk : k < 8) : (clearBit x m).toNat / 2 ^ (7 - k) % 2 = if k = m then 0 else x.toNat / 2 ^ (7 - k) % 2 := by
  have h := bit_clear_all ⟨m, hm⟩ ⟨k, hk⟩ ⟨x.toNat, x.toNat_lt⟩
  simp only [UInt8.ofNat_toNat, Fin.mk.injEq] at h
  exact h
theorem clear_zero : ∀ m : Fin 8, clearBit 0 m.val = 0 := by decide
theorem mask_bit (ip : List UInt8) (hl : ip.length = 16) (b i : Nat) (hi : i < 128) : ∀ j, b + j ≤ 128 → bitM (clearS ip b j) i = if b ≤ i ∧ i < b + j then 0 else bitM ip i
  | 0, _ => by rw [if_neg (by omega)]; rfl
  | j + 1, h => by
    have ih := mask_bit ip hl b i hi j (by omega)
    have hml := clearS_length ip b j
    rw [clearS]
    generalize clearS ip b j = y at ih hml ⊢
    by_cases hq : i / 8 = (b + j) / 8
    · rw [bitM, hq, List.getD_eq_getElem?_getD, List.getElem?_set_self (by omega), Option.getD_some, bit_clear _ _ _ (by omega) (by omega)]
      rw [bitM, hq] at ih
      by_cases he : i % 8 = (b + j) % 8
      · rw [if_pos he, if_pos (by omega)]
      · rw [if_neg he, ih]
        by_cases hc : b ≤ i ∧ i < b + j
        · rw [if_pos hc, if_pos (by omega)]
        · rw [if_neg hc, if_neg (by omega)]
    · rw [bitM, List.getD_eq_getElem?_getD, List.getElem?_set_ne (by omega), ← List.getD_eq_getElem?_getD]
      rw [bitM] at ih
      rw [ih]
      by_cases hc : b ≤ i ∧ i < b + j
      · rw [if_pos hc, if_pos (by omega)]
      · rw [if_neg hc, if_neg (by omega)]
theorem mask_bits (a : AddrM) (h : a.ok) (b i : Nat) (hb : b ≤ 128) (hi : i < 128) : bitM (maskM a b).ip i = if b ≤ i then 0 else bitM a.ip i := by
  have := mask_bit a.ip h b i hi (128 - b) (by omega)
  rw [maskM]
  rw [this]
  by_cases hc : b ≤ i
  · rw [if_pos hc, if_pos (by omega)]
  · rw [if_neg hc, if_neg (by omega)]
theorem sound_iff (a : AddrM) : soundM a = true ↔ a.six = true ∨ ∀ q, 4 ≤ q → a.ip.getD q 0 = 0 := by
  rw [soundM, Bool.or_eq_true, List.all_eq_true]
  refine or_congr Iff.rfl ⟨fun h q hq => ?_, fun h x hx => ?_⟩
  · by_cases hl : q < a.ip.length
    · have := h (a.ip[q]) (by
        rw [List.mem_iff_getElem]
        exact ⟨q - 4, by rw [List.length_drop]; omega, by rw [List.getElem_drop]; congr 1; omega⟩)
      rw [List.getD_eq_getElem?_getD, List.getElem?_eq_getElem hl]
      exact beq_iff_eq.1 this
    · rw [List.getD_eq_getElem?_getD, List.getElem?_eq_none (by omega)]; rfl
  · obtain ⟨n, hn, rfl⟩ := List.mem_iff_getElem.1 hx
    rw [List.length_drop] at hn
    have := h (4 + n) (by omega)
    rw [List.getD_eq_getElem?_getD, List.getElem?_eq_getElem (by omega)] at this
    rw [List.getElem_drop]
    exact beq_iff_eq.2 this
theorem clearS_zero (ip : List UInt8) (b q : Nat) (hq : ip.getD q 0 = 0) : ∀ j, (clearS ip b j).getD q 0 = 0
  | 0 => hq
  | j + 1 => by
    have ih := clearS_zero ip b q hq j
    rw [clearS]
    by_cases he : (b + j) / 8 = q
    · rw [he, ih, clear_zero ⟨(b + j) % 8, Nat.mod_lt _ (by omega)⟩, List.getD_eq_getElem?_getD, List.getElem?_set]
      rw [if_pos rfl]
      split <;> rfl
    · rw [List.getD_eq_getElem?_getD, List.getElem?_set_ne he, ← List.getD_eq_getElem?_getD, ih]
theorem mask_sound (a : AddrM) (b : Nat) (hs : soundM a = true) : soundM (maskM a b) = true := by
  rw [sound_iff] at hs ⊢
  rcases hs with h | h
  · exact .inl h
  · exact .inr fun q hq => clearS_zero _ _ _ (h q hq) _
theorem width_le (a : AddrM) : widthM a ≤ 128 := by unfold widthM; split <;> omega
theorem mask_valid (a : AddrM) (h : a.ok) (b : Nat) (hb : b ≤ widthM a) (hs : soundM a = true) : validM (maskM a b) (b : Int) = true := by
  have hw := width_le a
  rw [validM_iff _ _ (mask_sound a b hs) (by omega) (by show (b : Int) ≤ (widthM a : Int); omega)]
  intro i hi hlt
  rw [mask_bits a h b i (by omega) hlt, if_pos (by omega)]
theorem codeA_sound (l : List UInt8) (p : Nat) : soundM (codeA l p) = true := by
  rw [sound_iff]
  by_cases h : sixV l p = true
  · exact .inl h
  · refine .inr fun q hq => ?_
    rw [codeA]
    dsimp only
    rw [if_neg h, fourB]
    generalize UInt8.ofNat (nextV l (nextP l p 3) 4) = u1
    generalize UInt8.ofNat (nextV l (nextP l (nextP l p 3) 4) 4) = u2
    generalize UInt8.ofNat (nextV l (nextP l (nextP l (nextP l p 3) 4) 4) 256) = u3
    obtain ⟨k, rfl⟩ : ∃ k, q = k + 4 := ⟨q - 4, by omega⟩
    show ([10, u1, u2, u3] ++ List.replicate 12 0 : List UInt8).getD (k + 4) 0 = 0
    rw [List.getD_eq_getElem?_getD, List.getElem?_append_right (by simp), show k + 4 - ([10, u1, u2, u3] : List UInt8).length = k from rfl, List.getElem?_replicate]
    split <;> rfl
end Go.Proofs.YtcbfchkhbngpkaaGreatDoor
namespace Go.Proofs.YtcbfchkhbngpkaaGreatDoor
open Go.RowKit

theorem codeM_valid (l : List UInt8) (p : Nat) : validM (codeM l p) (codePb l p : Int) = true := by
  refine mask_valid (codeA l p) (codeA_ok l p) (codePb l p) ?_ (codeA_sound l p)
  have h := nextV_lt l (codeAP l p) (codePn l p) (by unfold codePn; split <;> omega)
  have hw : codePn l p = widthM (codeA l p) + 1 := by
    unfold codePn widthM
    cases hs : sixV l p with
    | true => simp [codeA, hs]
    | false => simp [codeA, hs]
  unfold codePb
  omega
end Go.Proofs.YtcbfchkhbngpkaaGreatDoor
namespace Go.Proofs.YtcbfchkhbngpkaaGreatDoor
open Go.RowKit

theorem peer_built (k : List UInt8) (hk : k.length = 32) : Tryz.prog.built 57 [(0, .agg (k.map u8v).toArray)] = some (PeerM.cells { peer0 with pub := k } (.slice none 0 0)).toArray := by
  rw [built_of 57 [32, 32, 1, 18, 1, 1] [(List.replicate 32 (0 : UInt8)).map u8v, (List.replicate 32 (0 : UInt8)).map u8v, [.bool false], prefC addr0 0, [.int .i64 0], [.slice none 0 0]] rfl #[(0, 32), (32, 32), (64, 1), (65, 18), (83, 1), (84, 1)] (fun parts => by kernel_rfl) (fun i h => by
    match i, h with
    | 0, _ => rfl
    | 1, _ => rfl
    | 2, _ => rfl
    | 3, _ => rfl
    | 4, _ => rfl
    | 5, _ => rfl) _ (fun p hp => by
    simp only [List.mem_singleton] at hp
    subst hp
    simp [Value.cells, hk])]
  simp [Value.cells, PeerM.cells, peer0]
theorem conf_built (k : List UInt8) (hk : k.length = 32) (q : Int) : Tryz.prog.built 27 [(0, .agg (k.map u8v).toArray), (1, .int .i64 q)] = some (ConfM.cells ⟨k, q, []⟩ (.slice none 0 0)).toArray := by
  rw [built_of 27 [32, 1, 1] [(List.replicate 32 (0 : UInt8)).map u8v, [.int .i64 0], [.slice none 0 0]] rfl #[(0, 32), (32, 1), (33, 1)] (fun parts => by kernel_rfl) (fun i h => by
    match i, h with
    | 0, _ => rfl
    | 1, _ => rfl
    | 2, _ => rfl) _ (fun p hp => by
    simp only [List.mem_cons, List.not_mem_nil, or_false] at hp
    rcases hp with rfl | rfl
    · simp [Value.cells, hk]
    · rfl)]
  simp [Value.cells, ConfM.cells]
theorem PfRd.keep {W W' : World} {B n : Nat} {A : Option Addr} {l : List (AddrM × Int)} (h : PfRd W B A n l) (hk : 0 < n → ∀ ad, A = some ad → W'.heap[ad.block]? = W.heap[ad.block]?) : PfRd W' B A n l :=
  ⟨⟨h.1.1, h.1.2.1, fun hn => by
    obtain ⟨b, off, e, hlt, hc⟩ := h.1.2.2 hn
    exact ⟨b, off, e, hlt, fun j v hv => (World.cell?_of_block (a := ⟨b, off + j, none⟩) (hk hn ⟨b, off, none⟩ e)).trans (hc j v hv)⟩⟩, h.2⟩
/-- prefixes in a block that nobody else has -/
def pfB (A : Option Addr) (n : Nat) : List Nat := if n = 0 then [] else (A.map Addr.block).toList
def pfD (B : Nat) (A : Option Addr) (n : Nat) (l : List (AddrM × Int)) : Dep := ⟨pfB A n, fun W => PfRd W B A n l, fun _ _ h hp => hp.keep fun hn ad e => h ad.block (by rw [pfB, if_neg (by omega), e]; simp)⟩
theorem pfD_nodup (B : Nat) (A : Option Addr) (n : Nat) (l : List (AddrM × Int)) : (pfD B A n l).bs.Nodup := by
  show (pfB A n).Nodup
  unfold pfB
  split
  · simp
  · cases A <;> simp
theorem pfD_mem {B n : Nat} {A : Option Addr} {l : List (AddrM × Int)} {k : Nat} (h : k ∈ (pfD B A n l).bs) : 0 < n ∧ ∃ ad, A = some ad ∧ ad.block = k := by
  have h : k ∈ pfB A n := h
  unfold pfB at h
  by_cases hn : n = 0
  · rw [if_pos hn] at h; cases h
  · rw [if_neg hn] at h
    cases A with
    | none => cases h
    | some ad =>
      have h2 : k = ad.block := by simpa using h
      exact ⟨by omega, ad, rfl, h2.symm⟩
theorem PfRd.behind {W : World} {B n : Nat} {A : Option Addr} {l : List (AddrM × Int)} (h : PfRd W B A n l) (i c : Nat) (hi : i ≤ n) (hc : n ≤ c) : PfRd W B (addrK A i c 18) (n - i) (l.drop i) :=
  ⟨by rw [pfsV, List.map_drop]; exact RdRow.behind h.1 i c hi hc, fun p hp => h.2 p (List.mem_of_mem_drop hp)⟩
theorem addrK_block (A : Option Addr) (i c k : Nat) : (addrK A i c k).map Addr.block = A.map Addr.block := by
  unfold addrK
  split
  · rfl
  · cases A with
    | none => rfl
    | some ad =>
      simp only [Option.map_some]
      unfold Addr.add
      split <;> simp_all
/-- the first fact is the rest of the prefixes, the first of which is taken -/
theorem HeapD.tail {base : Nat} {F : List Dep} {W : World} {B n c : Nat} {A : Option Addr} {x : AddrM × Int} {l : List (AddrM × Int)} (h : HeapD base (pfD B A (n + 1) (x :: l) :: F) W) (hbw : base ≤ W.heap.size) (hc : n + 1 ≤ c) : HeapD base (pfD B (addrK A 1 c 18) n l :: F) W :=
  HeapD.re (T := [pfD B A (n + 1) (x :: l)]) (F := F) h [pfD B (addrK A 1 c 18) n l] (Nat.le_refl _) hbw (fun _ _ _ => rfl) (by
    intro e he
    rw [List.mem_singleton] at he
    subst he
    have h2 : PfRd W B A (n + 1) (x :: l) := h.get 0 rfl
    exact h2.behind 1 c (by omega) hc) (fun k hk => .inl (by
    have hk2 : k ∈ (pfD B (addrK A 1 c 18) n l).bs := by simpa [depB] using hk
    obtain ⟨_, ad, e1, e2⟩ := pfD_mem hk2
    have e3 := addrK_block A 1 c 18
    rw [e1] at e3
    show k ∈ depB [pfD B A (n + 1) (x :: l)]
    simp only [depB, List.flatMap_cons, List.flatMap_nil, List.append_nil]
    show k ∈ pfB A (n + 1)
    rw [pfB, if_neg (by omega), ← e3]
    simp [e2])) (by simpa [depB] using pfD_nodup B _ n l)
/-- all blocks of a list are above base, one that lies below is written -/
theorem HeapD.other {base : Nat} {E : List Dep} {W W' : World} (h : HeapD base E W) {g : Nat} (hk : KeptBut W W' g) (hg : g < base) : HeapD base E W' :=
  ⟨fun e he => e.loc W W' (fun k hke => by
    have := h.2.1 k (List.mem_flatMap.2 ⟨e, he, hke⟩)
    exact hk.2 k this.2 (by omega)) (h.1 e he), fun k hke => ⟨(h.2.1 k hke).1, Nat.lt_of_lt_of_le (h.2.1 k hke).2 hk.1⟩, h.2.2⟩
theorem HeapD.madeG {base : Nat} {E : List Dep} {W W' : World} (h : HeapD base E W) {g : Nat} (hk : KeptBut W W' g) (hg : g < base) (hbw : base ≤ W.heap.size) (e : Dep) (he : ∀ k ∈ e.bs, W.heap.size ≤ k ∧ k < W'.heap.size) (hn : e.bs.Nodup) (hp : e.P W') : HeapD base (e :: E) W' := by
  have h2 := h.other hk hg
  refine ⟨fun x hx => ?_, fun k hk2 => ?_, ?_⟩
  · rcases List.mem_cons.1 hx with rfl | hx
    · exact hp
    · exact h2.1 x hx
  · simp only [depB, List.flatMap_cons, List.mem_append] at hk2
    rcases hk2 with hk2 | hk2
    · have := he k hk2
      exact ⟨by omega, this.2⟩
    · exact h2.2.1 k hk2
  · simp only [depB, List.flatMap_cons, List.nodup_append]
    refine ⟨hn, h.2.2, fun a ha b hb e2 => ?_⟩
    subst e2
    have h3 := he a ha
    have h4 := (h.2.1 a hb).2
    omega
/-- what is known of the peers that were made, and of the prefixes that are left -/
structure GoodC (m i : Nat) (ps : List PeerM) (rl : List (AddrM × Int)) : Prop where
  ok : ∀ p ∈ ps, p.ok ∧ rightP p = true ∧ p.al.length ≤ 2 ∧ ∃ j r, i < j ∧ j ≤ m ∧ p.pub = UInt8.ofNat (10 * j) :: r
  pubs : (ps.map PeerM.pub).Nodup
  pfs : (alls ps ++ rl).Nodup
  rest : ∀ q ∈ rl, okP q ∧ validM q.1 q.2 = true
  few : ps.length + i ≤ m
  pfew : (alls ps).length + rl.length ≤ 6
theorem GoodC.nil (m : Nat) (rl : List (AddrM × Int)) (h1 : rl.Nodup) (h2 : ∀ q ∈ rl, okP q ∧ validM q.1 q.2 = true) (h3 : rl.length ≤ 6) {i : Nat} (hi : i ≤ m) : GoodC m i [] rl := ⟨by simp, by simp, by simpa [alls] using h1, h2, by simpa using hi, by simpa [alls] using h3⟩
theorem GoodC.snoc {m i : Nat} {ps : List PeerM} {al rl : List (AddrM × Int)} (hm : m ≤ 10) (h : GoodC m (i + 1) ps (al ++ rl)) {p : PeerM} (hp : p.ok) (hr : rightP p = true) (hal : p.al = al) (h2 : al.length ≤ 2) {r : List UInt8} (hpub : p.pub = UInt8.ofNat (10 * (i + 1)) :: r) : GoodC m i (ps ++ [p]) rl := by
  have hf := h.few
  refine ⟨fun q hq => ?_, ?_, ?_, fun q hq => h.rest q (List.mem_append_right _ hq), by simp only [List.length_append, List.length_singleton]; omega, ?_⟩
  · rcases List.mem_append.1 hq with hq | hq
    · obtain ⟨a, b, c, j, r', d, e, f⟩ := h.ok q hq
      exact ⟨a, b, c, j, r', by omega, e, f⟩
    · rw [List.mem_singleton] at hq
      subst hq
      exact ⟨hp, hr, by rw [hal]; exact h2, i + 1, r, by omega, by omega, hpub⟩
  · rw [List.map_append, List.nodup_append]
    refine ⟨h.pubs, by simp, fun a ha b hb e => ?_⟩
    obtain ⟨q, hq, rfl⟩ := List.mem_map.1 ha
    rw [List.map_singleton, List.mem_singleton] at hb
    obtain ⟨_, _, _, j, r', d, e2, f⟩ := h.ok q hq
    rw [e, hb, hpub] at f
    injection f with f _
    have := congrArg UInt8.toNat f
    simp only [UInt8.toNat_ofNat'] at this
    omega
  · rw [alls_snoc, hal, List.append_assoc]
    exact h.pfs
  · rw [alls_snoc, hal, List.length_append]
    have := h.pfew
    rw [List.length_append] at this
    omega
theorem repM_nodup {α : Type} {eq : α → α → Bool} (he : ∀ a b, eq a b = true → a = b) {l : List α} (h : l.Nodup) : repM eq l = false := by
  rw [repM, List.any_eq_false]
  intro i hi
  have hlt := List.mem_range.1 hi
  rw [List.getElem?_eq_getElem hlt, Option.any_some, hasN, Bool.not_eq_true, List.any_eq_false]
  intro q hq
  have hqi := List.mem_range.1 hq
  rw [List.getElem?_take, if_pos hqi, List.getElem?_eq_getElem (by omega), Option.any_some]
  intro hx
  have := he _ _ hx
  have h2 := (List.nodup_iff_pairwise_ne.1 h)
  rw [List.pairwise_iff_getElem] at h2
  exact h2 q i (by omega) hlt hqi this.symm
theorem GoodC.valid {m i : Nat} {ps : List PeerM} {rl : List (AddrM × Int)} (h : GoodC m i ps rl) (hm : m ≤ 8) (priv : List UInt8) {port : Int} (h0 : 0 ≤ port) (h1 : port ≤ 65535) : validE ⟨priv, port, ps⟩ = 0 := by
  have hf := h.few
  have hpf := h.pfew
  have ha : ps.all rightP = true := List.all_eq_true.2 fun p hp => (h.ok p hp).2.1
  have r1 := repM_nodup (eq := eqK) (fun a b hab => of_decide_eq_true hab) h.pubs
  have r2 := repM_nodup (eq := eqP) (fun a b hab => by
    have := of_decide_eq_true hab
    exact Prod.ext this.1 this.2) (List.nodup_append.1 h.pfs).1
  have e : allP ⟨priv, port, ps⟩ = alls ps := rfl
  rw [validE, e, if_neg (by simp only; omega), if_neg (by simp only [ha]; simp; omega), if_neg (by rw [r1, r2]; simp)]
end Go.Proofs.YtcbfchkhbngpkaaGreatDoor
namespace Go.Proofs.YtcbfchkhbngpkaaGreatDoor
open Go.RowKit

set_option maxRecDepth 100000 in
set_option maxHeartbeats 8000000 in
theorem caseKey_any (g : Nat) (A : Option Addr) (n c : Nat) (l : List UInt8) (B : Nat) (p : Nat) (w : World) (hc : CodesAt w g A n c l B p) :
    Calls Tryz.prog 16 #[.pointer (some ⟨g, 0, none⟩)] w fun e w' => e = .returned (.agg ((pickB l p 32).map u8v).toArray) ∧ CodesAt w' g A n c l B (nextP l p 256) ∧ w.grownBy w' (some g) := by
  have hgl := hc.lt
  have hbl := pickB_length l p 32
  have HBL := Lib.hid hbl
  have hm := ((MemG.nil w g).alloc rfl 24 #[.int .u8 0, .int .u8 0, .int .u8 0, .int .u8 0, .int .u8 0, .int .u8 0, .int .u8 0, .int .u8 0, .int .u8 0, .int .u8 0, .int .u8 0, .int .u8 0, .int .u8 0, .int .u8 0, .int .u8 0, .int .u8 0, .int .u8 0, .int .u8 0, .int .u8 0, .int .u8 0, .int .u8 0, .int .u8 0, .int .u8 0, .int .u8 0, .int .u8 0, .int .u8 0, .int .u8 0, .int .u8 0, .int .u8 0, .int .u8 0, .int .u8 0, .int .u8 0] ((List.replicate 32 (0 : UInt8)).map u8v) rfl).alloc rfl 24 #[.int .u8 0, .int .u8 0, .int .u8 0, .int .u8 0, .int .u8 0, .int .u8 0, .int .u8 0, .int .u8 0, .int .u8 0, .int .u8 0, .int .u8 0, .int .u8 0, .int .u8 0, .int .u8 0, .int .u8 0, .int .u8 0, .int .u8 0, .int .u8 0, .int .u8 0, .int .u8 0, .int .u8 0, .int .u8 0, .int .u8 0, .int .u8 0, .int .u8 0, .int .u8 0, .int .u8 0, .int .u8 0, .int .u8 0, .int .u8 0, .int .u8 0, .int .u8 0] ((List.replicate 32 (0 : UInt8)).map u8v) rfl
  have HM := Lib.hid (show MemG w g [blkE (w.heap.size + 1) 24 ((List.replicate 32 (0 : UInt8)).map u8v), blkE w.heap.size 24 ((List.replicate 32 (0 : UInt8)).map u8v)] ((w.alloc (.cells #[.int .u8 0, .int .u8 0, .int .u8 0, .int .u8 0, .int .u8 0, .int .u8 0, .int .u8 0, .int .u8 0, .int .u8 0, .int .u8 0, .int .u8 0, .int .u8 0, .int .u8 0, .int .u8 0, .int .u8 0, .int .u8 0, .int .u8 0, .int .u8 0, .int .u8 0, .int .u8 0, .int .u8 0, .int .u8 0, .int .u8 0, .int .u8 0, .int .u8 0, .int .u8 0, .int .u8 0, .int .u8 0, .int .u8 0, .int .u8 0, .int .u8 0, .int .u8 0] 24)).alloc (.cells #[.int .u8 0, .int .u8 0, .int .u8 0, .int .u8 0, .int .u8 0, .int .u8 0, .int .u8 0, .int .u8 0, .int .u8 0, .int .u8 0, .int .u8 0, .int .u8 0, .int .u8 0, .int .u8 0, .int .u8 0, .int .u8 0, .int .u8 0, .int .u8 0, .int .u8 0, .int .u8 0, .int .u8 0, .int .u8 0, .int .u8 0, .int .u8 0, .int .u8 0, .int .u8 0, .int .u8 0, .int .u8 0, .int .u8 0, .int .u8 0, .int .u8 0, .int .u8 0] 24)) from by simpa using hm)
  have HC := Lib.hid (hc.below (((Below.refl w.heap.size w).alloc (Nat.le_refl w.heap.size) (.cells #[.int .u8 0, .int .u8 0, .int .u8 0, .int .u8 0, .int .u8 0, .int .u8 0, .int .u8 0, .int .u8 0, .int .u8 0, .int .u8 0, .int .u8 0, .int .u8 0, .int .u8 0, .int .u8 0, .int .u8 0, .int .u8 0, .int .u8 0, .int .u8 0, .int .u8 0, .int .u8 0, .int .u8 0, .int .u8 0, .int .u8 0, .int .u8 0, .int .u8 0, .int .u8 0, .int .u8 0, .int .u8 0, .int .u8 0, .int .u8 0, .int .u8 0, .int .u8 0] 24)).alloc (by simp) (.cells #[.int .u8 0, .int .u8 0, .int .u8 0, .int .u8 0, .int .u8 0, .int .u8 0, .int .u8 0, .int .u8 0, .int .u8 0, .int .u8 0, .int .u8 0, .int .u8 0, .int .u8 0, .int .u8 0, .int .u8 0, .int .u8 0, .int .u8 0, .int .u8 0, .int .u8 0, .int .u8 0, .int .u8 0, .int .u8 0, .int .u8 0, .int .u8 0, .int .u8 0, .int .u8 0, .int .u8 0, .int .u8 0, .int .u8 0, .int .u8 0, .int .u8 0, .int .u8 0] 24)))
  have HPG := Lib.hid (show g < w.heap.size + 1 from by omega)
  clear hc hbl hm
  go_enter Tryz.func16, Tryz.ntmps16
  go_upto_region 2 with fail
  generalize (w.alloc (.cells #[.int .u8 0, .int .u8 0, .int .u8 0, .int .u8 0, .int .u8 0, .int .u8 0, .int .u8 0, .int .u8 0, .int .u8 0, .int .u8 0, .int .u8 0, .int .u8 0, .int .u8 0, .int .u8 0, .int .u8 0, .int .u8 0, .int .u8 0, .int .u8 0, .int .u8 0, .int .u8 0, .int .u8 0, .int .u8 0, .int .u8 0, .int .u8 0, .int .u8 0, .int .u8 0, .int .u8 0, .int .u8 0, .int .u8 0, .int .u8 0, .int .u8 0, .int .u8 0] 24)).alloc (.cells #[.int .u8 0, .int .u8 0, .int .u8 0, .int .u8 0, .int .u8 0, .int .u8 0, .int .u8 0, .int .u8 0, .int .u8 0, .int .u8 0, .int .u8 0, .int .u8 0, .int .u8 0, .int .u8 0, .int .u8 0, .int .u8 0, .int .u8 0, .int .u8 0, .int .u8 0, .int .u8 0, .int .u8 0, .int .u8 0, .int .u8 0, .int .u8 0, .int .u8 0, .int .u8 0, .int .u8 0, .int .u8 0, .int .u8 0, .int .u8 0, .int .u8 0, .int .u8 0] 24) = w3 at HM HC ⊢
  generalize w.heap.size + 1 = P3 at HM HPG ⊢
  refine wp_region_held_drew (S := fun _ => True) (by kernel_rfl) trivial (fun hHeld => ?_)
  replace HM := Lib.hid HM.out.drew
  replace HC := Lib.hid (HC.out.below ((Below.refl _ _).drew))
  generalize w3.drew = wd1 at HM HC hHeld ⊢
  refine take_first (v := ?_) 0 rfl (by kernel_rfl) (by kernel_rfl) (by kernel_rfl) (fun _ _ _ h => h) (Or.inl ⟨by rfl, ?_⟩) (by assumption) ?_
  rotate_left
  · (intro w hSw; (try dsimp only at hSw); go_simp; try with_reducible rfl)
  (try simp only [Act.put, List.setIfInBounds_toArray, List.set_cons_zero, List.set_cons_succ])
  refine take_first (v := ?_) 1 rfl (by kernel_rfl) (by kernel_rfl) (by kernel_rfl) (fun _ _ _ h => h) (Or.inl ⟨by rfl, ?_⟩) (by assumption) ?_
  rotate_left
  · (intro w hSw; (try dsimp only at hSw); go_simp; try with_reducible rfl)
  (try simp only [Act.put, List.setIfInBounds_toArray, List.set_cons_zero, List.set_cons_succ])
  refine step_one 2 rfl (by kernel_rfl) (fun K hK => ?_)
  clear hHeld
  go_simp
  refine (HC.out.callBytes 32 (by omega)).mono ?_
  rintro e wy2 ⟨rfl, hc2, hm2⟩
  replace HM := Lib.hid (show MemG w g [blkE wd1.heap.size 5 ((pickB l p 32).map u8v), blkE P3 24 ((List.replicate 32 (0 : UInt8)).map u8v), blkE w.heap.size 24 ((List.replicate 32 (0 : UInt8)).map u8v)] wy2 from HM.out.join hgl hm2)
  replace HC := Lib.hid hc2
  clear hc2 hm2
  generalize wd1.heap.size = PB at HM ⊢
  go_wp2_with fail
  refine hK.out _ _ (trivial) (fun hHeld => ?_)
  clear hK K
  (try simp only [Act.put, List.setIfInBounds_toArray, List.set_cons_zero, List.set_cons_succ])
  refine step_one 3 rfl (by kernel_rfl) (fun K hK => ?_)
  clear hHeld
  refine step_copy_bytes _ rfl (.tmp 4) (.tmp 6) 22 22 (by rfl) 5 Tryz.underlying22 (by kernel_rfl) P3 0 32 32 ⟨PB, 0, none⟩ 32 32 (by rfl) (by rfl) ((List.replicate 32 (0 : UInt8)).map u8v) 24 (HM.out.blk 1 rfl) ((pickB l p 32).map u8v) (by rw [List.length_map, HBL.out]; rfl) (fun q v hv => by rw [Go.WideShapes.add_plain]; exact (HM.out.blk 0 rfl).all q v hv) (by rw [List.length_map, HBL.out]; simp) (u8v_one _) ?_
  intro wy3 hb hg
  replace hb : Blk wy3 P3 24 ((pickB l p 32).map u8v) := by simpa [HBL.out] using hb
  replace HM := Lib.hid (show MemG w g [blkE PB 5 ((pickB l p 32).map u8v), blkE P3 24 ((pickB l p 32).map u8v), blkE w.heap.size 24 ((List.replicate 32 (0 : UInt8)).map u8v)] wy3 from HM.out.put 1 rfl _ hg hb)
  replace HC := Lib.hid (HC.out.put hg HPG.out)
  clear hb hg
  refine hK.out _ _ (trivial) (fun hHeld => ?_)
  clear hK K
  (try simp only [Act.put, List.setIfInBounds_toArray, List.set_cons_zero, List.set_cons_succ])
  refine wpAnyH_done (by kernel_rfl) ?_ _
  clear hHeld
  revert wy3
  intro wq HM HC
  obtain ⟨kc, hkc⟩ : ∃ z, ((pickB l p 32).map u8v).toArray = z := ⟨_, rfl⟩
  have HKC := Lib.hid hkc
  clear hkc
  go_upto_region 3 with fail
  go_wp2_with (first | ((with_reducible refine at_op (.load 24 (.tmp 3)) rfl ?_); refine wpList_load_obj rfl 24 (.tmp 3) rfl P3 0 rfl ((pickB l p 32).map u8v) (HM.out.blk 1 rfl).all _ Tryz.underlying24 rfl (size32 (by rw [List.length_map, HBL.out])) ?_; rw [HKC.out]) | ((with_reducible refine at_op (.store 24 (.tmp 2) (.tmp 8)) rfl ?_); refine wpList_store_obj rfl 24 (.tmp 2) (.tmp 8) rfl w.heap.size 0 ((pickB l p 32).map u8v) rfl (by show Value.agg kc = _; rw [HKC.out]) 24 ((List.replicate 32 (0 : UInt8)).map u8v) (HM.out.blk 2 rfl) (size32 (by rw [List.length_map, HBL.out])) (by simp [HBL.out]) (u8v_one _) ?_; intro w9 hb9 hg9))
  rw [setL_all _ _ (by simp [HBL.out])] at hb9
  exact bodyPost_ret (results_obj rfl _ _ w.heap.size 24 ((pickB l p 32).map u8v) _ rfl hb9 Tryz.underlying24 rfl (size32 (by rw [List.length_map, HBL.out]))) rfl ⟨rfl, HC.out.put hg9 hgl, (HM.out.put 2 rfl _ hg9 hb9).2⟩
end Go.Proofs.YtcbfchkhbngpkaaGreatDoor
namespace Go.Proofs.YtcbfchkhbngpkaaGreatDoor
open Go.RowKit

theorem own_cap {w : World} {base e size n c : Nat} {A : Option Addr} {xs : List Value} (h : w.ownsRow base e size (.slice A n c) n xs) : n ≤ c ∧ c ≤ maxLen := by
  rcases h.2 with ⟨h, h0⟩ | ⟨g, cap, cur, h, _, _, h1, h2, _⟩
  · injection h with _ _ h
    exact ⟨by omega, by unfold maxLen; omega⟩
  · injection h with _ _ h
    subst h
    exact ⟨h1, h2⟩
end Go.Proofs.YtcbfchkhbngpkaaGreatDoor
namespace Go.Proofs.YtcbfchkhbngpkaaGreatDoor
open Go.RowKit

set_option maxRecDepth 100000 in
set_option maxHeartbeats 16000000 in
theorem casePrefixesC_any (g : Nat) (A : Option Addr) (n c : Nat) (l : List UInt8) (B : Nat) (p : Nat) (m : Nat) (hm : m ≤ 100) (w : World) (hc : CodesAt w g A n c l B p) :
    Calls Tryz.prog 18 #[.pointer (some ⟨g, 0, none⟩), .int .i64 (m : Int)] w fun e w' => ∃ (ps : List (AddrM × Int)) (A' : Option Addr) (c' p' : Nat), e = .returned (.slice A' ps.length c') ∧ PfRd w' w'.heap.size A' ps.length ps ∧ (∀ ad, A' = some ad → w.heap.size ≤ ad.block) ∧ CodesAt w' g A n c l B p' ∧ w.grownBy w' (some g) ∧ ps.length ≤ m ∧ ps.length ≤ c' ∧ ps.Nodup ∧ ∀ q ∈ ps, ∃ i, q = (codeM l i, (codePb l i : Int)) := by
  have hgl := hc.lt
  have hN := hc.callNext (m + 1) (by omega)
  rw [show ((m + 1 : Nat) : Int) = (m : Int) + 1 from by omega] at hN
  have hk := nextV_lt l p (m + 1) (by omega)
  obtain ⟨k0, hk0⟩ : ∃ z, nextV l p (m + 1) = z := ⟨_, rfl⟩
  rw [hk0] at hN hk
  have HN := Lib.hid hN
  obtain ⟨ik, hik, hiz, his, hib⟩ := prefInfo
  have HKI := Lib.hid (And.intro hik (And.intro hiz (And.intro his hib)))
  clear hik hiz his hib hN hc hk0
  go_enter Tryz.func18, Tryz.ntmps18
  go_wp2_with fail
  refine HN.out.mono ?_
  rintro e w1 ⟨rfl, hcd, hg⟩
  have HC := Lib.hid (And.intro hcd hg)
  clear hcd hg HN
  go_wp2_with fail
  go_loopw [6, 5] (fun i vo wr => ∃ (k : Nat) (ps : List (AddrM × Int)) (q : Nat), ps.length + k ≤ m ∧ i = .int .i64 (k : Int) ∧ wr.ownsRow w.heap.size 60 18 vo ps.length (pfsV ps).flatten ∧ CodesAt wr g A n c l B q ∧ w.grownBy wr (some g) ∧ ps.Nodup ∧ ∀ q ∈ ps, ∃ i, q = (codeM l i, (codePb l i : Int))) (fun i _ _ => (intOf i).toNat)
  case atStart => exact ⟨k0, [], _, by simp; omega, rfl, World.ownsRow_nil _ _ _ _, HC.out.1, HC.out.2, by simp, by simp⟩
  case round =>
    clear HC hk
    obtain ⟨k, ps, q, hkm, rfl, hown, hcd, hg, hnd, hall⟩ := hrel
    have HO := Lib.hid (And.intro hown (And.intro hcd hg))
    have HPS := Lib.hid (And.intro hnd hall)
    obtain ⟨A9, c9, rfl⟩ : ∃ A c, u5 = .slice A ps.length c := by
      rcases hown.2 with ⟨h, h0⟩ | ⟨g, cap, cur, h, _⟩
      · exact ⟨none, 0, by rw [h, h0]⟩
      · exact ⟨_, _, h⟩
    clear hown hcd hg hnd hall
    have HOKS := Lib.hid (show ∀ r ∈ ps, okP r from fun r hr => by
      obtain ⟨i, rfl⟩ := HPS.out.2 r hr
      exact ⟨codeM_ok l i, by have := codePb_le l i; unfold inI64; constructor <;> omega⟩)
    by_cases hk0 : 0 < k
    · have d1 : decide ((k : Int) > 0) = true := by simp; omega
      have HPX := Lib.hid (casePrefix_any g A n c l B q wr HO.out.2.1)
      have hoa := codeM_ok l q
      have hob : inI64 (codePb l q : Int) := by have := codePb_le l q; unfold inI64; constructor <;> omega
      have HME := Lib.hid (show ∃ i, (codeM l q, (codePb l q : Int)) = (codeM l i, (codePb l i : Int)) from ⟨q, rfl⟩)
      generalize codeM l q = a at HPX hoa HME ⊢
      generalize (codePb l q : Int) = bits at HPX hob HME ⊢
      have hlen : ps.length ≤ 100 := by omega
      obtain ⟨pp, hpp⟩ : ∃ z, (prefC a bits).toArray = z := ⟨_, rfl⟩
      rw [hpp] at HPX
      have HPP := Lib.hid hpp
      have HOA := Lib.hid hoa
      have HOB := Lib.hid hob
      clear hpp hoa hob
      go_wp2_with fail
      refine HPX.out.mono ?_
      rintro e w3 ⟨rfl, hcd, hg⟩
      have HO3 := Lib.hid (show w3.ownsRow w.heap.size 60 18 (.slice A9 ps.length c9) ps.length (pfsV ps).flatten ∧ CodesAt w3 g A n c l B (codePP l q) ∧ w.grownBy w3 (some g) from ⟨HO.out.1.kept hg (by
        cases e : (Value.slice A9 ps.length c9).ownBlock with
        | none => exact .inl rfl
        | some b => exact .inr (fun e2 => by injection e2 with e2; have := (HO.out.1.lt b e).1; omega)), hcd, grownBy_trans HO.out.2.2 hg⟩)
      clear hcd hg HO HPX
      have HZ := Lib.hid (Blk.new w3 60 (prefC addr0 0))
      go_upto_region 7 with (refine wpList_store_obj rfl 60 (.tmp 7) (.tmp 20) rfl w3.heap.size 0 (prefC a bits) rfl (by show Value.agg pp = _; rw [HPP.out]) 60 (prefC addr0 0) HZ.out (pref_cellsOf' a HOA.out bits) (by rw [prefC_length a HOA.out]; decide) (pref_oneR a bits) ?_; intro w4 hb4 hg4)
      rw [setL_all _ _ (by rw [prefC_length a HOA.out]; rfl)] at hb4
      have hbf := below_fresh hg4
      have HX4 := Lib.hid (show Blk w4 w3.heap.size 60 (prefC a bits) ∧ PfRd w4 w4.heap.size A9 ps.length ps from ⟨hb4, PfRd.of_own rfl HOKS.out (own_below HO3.out.1 hbf)⟩)
      have HO4 := Lib.hid (show w4.ownsRow w.heap.size 60 18 (.slice A9 ps.length c9) ps.length (pfsV ps).flatten ∧ CodesAt w4 g A n c l B (codePP l q) ∧ w.grownBy w4 (some g) from ⟨own_below HO3.out.1 hbf, HO3.out.2.1.below hbf, grownB HO3.out.2.2 hbf⟩)
      clear hbf hb4 hg4 HZ HO3 d1
      generalize w3.heap.size = P1 at HX4 ⊢
      obtain ⟨len, hl0⟩ : ∃ z, ps.length = z := ⟨_, rfl⟩
      rw [hl0] at HX4 HO4 hlen hkm ⊢
      have HL := Lib.hid hl0
      clear hl0
      go_wp2_with fail
      go_loopw [23, 8] (fun i vf wz => ∃ j : Nat, j ≤ len ∧ i = .int .i64 (j : Int) ∧ vf = .bool (decide ((a, bits) ∉ ps.take j)) ∧ Below w4.heap.size w4 wz) (fun i _ _ => len - (intOf i).toNat)
      case atStart => exact ⟨0, by omega, rfl, by simp, Below.refl _ _⟩
      case round =>
        obtain ⟨j, hj, rfl, rfl, hW⟩ := hrel
        have HW := Lib.hid hW
        clear hW
        by_cases hjn : j < len
        · have d1 : decide ((j : Int) < (len : Int)) = true := by simp; omega
          obtain ⟨b, off, rfl⟩ := HX4.out.2.1.addr (by omega)
          obtain ⟨r, hr⟩ : ∃ r, ps[j]? = some r := ⟨ps[j]'(by rw [HL.out]; exact hjn), List.getElem?_eq_getElem _⟩
          have HOK := Lib.hid (HX4.out.2.ok hr)
          have hat := HX4.out.2.at j r hr
          have HLA := Lib.hid (hat.2.mono HW.out hat.1)
          have HP1 := Lib.hid (HX4.out.1.all.mono HW.out HX4.out.1.lt)
          have hmem : decide ((a, bits) ∉ ps.take (j + 1)) = (decide ((a, bits) ∉ ps.take j) && !decide (a = r.1 ∧ bits = r.2)) := by
            rw [take_snoc hr]
            have : (a, bits) = r ↔ a = r.1 ∧ bits = r.2 := by cases r; simp
            by_cases h1 : (a, bits) ∈ ps.take j <;> by_cases h2 : a = r.1 ∧ bits = r.2 <;> simp [h1, h2, this]
          have HME2 := Lib.hid hmem
          have heq := fun w' : World => pref_eqd a r.1 bits r.2 HOA.out HOK.out.1 HOB.out HOK.out.2 w'
          obtain ⟨rp, hrp⟩ : ∃ z, (prefC r.1 r.2).toArray = z := ⟨_, rfl⟩
          rw [HPP.out, hrp] at heq
          have HEQ := Lib.hid heq
          have HRP := Lib.hid hrp
          clear hat hr hmem heq hrp
          obtain ⟨fb, hfb⟩ : ∃ z, decide ((a, bits) ∉ ps.take j) = z := ⟨_, rfl⟩
          rw [hfb] at HME2 ⊢
          clear hfb
          obtain ⟨eb, heb⟩ : ∃ z, decide (a = r.1 ∧ bits = r.2) = z := ⟨_, rfl⟩
          rw [heb] at HME2 HEQ
          clear heb
          have HZ := Lib.hid (Blk.new wr 60 (prefC addr0 0))
          go_upto_region 10 with (first | (refine wpList_load_obj rfl 60 (.tmp 25) rfl b _ rfl (prefC r.1 r.2) HLA.out _ Tryz.underlying60 rfl (pref_cellsOf' r.1 HOK.out.1 r.2) ?_; rw [HRP.out]) | (refine wpList_store_obj rfl 60 (.tmp 10) (.tmp 26) rfl wr.heap.size 0 (prefC r.1 r.2) rfl (by show Value.agg rp = _; rw [HRP.out]) 60 (prefC addr0 0) HZ.out (pref_cellsOf' r.1 HOK.out.1 r.2) (by rw [prefC_length r.1 HOK.out.1]; decide) (pref_oneR _ _) ?_; intro w5 hb5 hg5))
          rw [setL_all _ _ (by rw [prefC_length r.1 HOK.out.1]; rfl)] at hb5
          have hbf := below_fresh hg5
          have HP5 := Lib.hid (show At w5 P1 0 (prefC a bits) from HP1.out.mono hbf (Nat.lt_of_lt_of_le HX4.out.1.lt HW.out.size))
          have HF := Lib.hid (show Below w4.heap.size w4 w5 from HW.out.trans (hbf.mono HW.out.size))
          have HQ5 := Lib.hid hb5
          clear hb5 hg5 HZ d1 HP1 HLA HW hbf
          generalize wr.heap.size = P2 at HQ5 ⊢
          cases fb with
          | false =>
            go_wp2_with fail
            go_roundw
            case rel => exact ⟨j + 1, by omega, by go_num, by rw [HME2.out]; rfl, HF.out⟩
            case measure => simp [intOf]; omega
          | true =>
            go_wp2_with (first | (refine wpList_load_obj_g (by rfl) 60 (.tmp 7) rfl P1 0 rfl (prefC a bits) HP5.out _ Tryz.underlying60 rfl (pref_cellsOf' a HOA.out bits) ?_; rw [HPP.out]) | (refine wpList_load_obj_g (by rfl) 60 (.tmp 10) rfl P2 0 rfl (prefC r.1 r.2) HQ5.out.all _ Tryz.underlying60 rfl (pref_cellsOf' r.1 HOK.out.1 r.2) ?_; rw [HRP.out]) | (refine wpList_neq_agg (by rfl) 60 60 29 30 rfl pp rp eb rfl rfl prefix_noguard (HEQ.out _) ?_))
            go_roundw
            case rel => exact ⟨j + 1, by omega, by go_num, by rw [HME2.out]; rfl, HF.out⟩
            case measure => simp [intOf]; omega
        · obtain rfl : j = len := by omega
          have d1 : decide ((j : Int) < (j : Int)) = false := by simp
          have htk : ps.take j = ps := List.take_of_length_le (by rw [HL.out]; exact Nat.le_refl _)
          rw [htk]
          have HW0 := Lib.hid HW.out
          have ho6 := own_below HO4.out.1 HW0.out
          have hc6 := HO4.out.2.1.below HW0.out
          have hg6 := grownB HO4.out.2.2 HW0.out
          have HO6 := Lib.hid (And.intro ho6 (And.intro hc6 hg6))
          have HP6 := Lib.hid (HX4.out.1.all.mono HW0.out HX4.out.1.lt)
          clear ho6 hc6 hg6 HW HW0 HX4 HO4 htk
          by_cases hin : (a, bits) ∈ ps
          · have db : decide ((a, bits) ∉ ps) = false := by simpa using hin
            rw [db]
            clear db hin
            go_wp2_with fail
            go_roundw
            case rel => exact ⟨k - 1, ps, _, by rw [HL.out]; omega, by go_num; try omega, by rw [HL.out]; exact HO6.out.1, HO6.out.2.1, HO6.out.2.2, HPS.out.1, HPS.out.2⟩
            case measure => simp [intOf]; omega
          · have db : decide ((a, bits) ∉ ps) = true := by simpa using hin
            have HIN := Lib.hid hin
            rw [db]
            clear db hin
            go_wp2_with (first | (refine wpList_load_obj rfl 60 (.tmp 7) rfl P1 0 rfl (prefC a bits) HP6.out _ Tryz.underlying60 rfl (pref_cellsOf' a HOA.out bits) ?_; rw [HPP.out]) | (refine wpList_buildOne rfl 49 60 (.tmp 36) rfl pp rfl 18 Tryz.underlying49 ik HKI.out.1 HKI.out.2.2.1 _ HKI.out.2.1 (by omega) (by omega) (by rw [← HPP.out, List.size_toArray, prefC_length a HOA.out]) ?_) | (refine wpList_append_own_at _ rfl (.tmp 35) (.tmp 37) 49 rfl w.heap.size 60 ik _ 18 32 Tryz.underlying49 HKI.out.1 HKI.out.2.1 HKI.out.2.2.1 HKI.out.2.2.2 (by rfl) (by omega) _ j _ rfl (HO6.out.1.alloc (.cells pp 60)) ⟨wr.heap.size, 0, none⟩ 1 1 (prefC a bits) rfl (by rw [prefC_length a HOA.out]) (fun q v hv => by rw [Go.WideShapes.add_plain, Nat.zero_add, ← HPP.out, (Blk.new wr 60 (prefC a bits)).cell]; exact hv) (pref_oneR _ _) (by unfold maxLen; omega) (by omega) (Nat.le_trans HO6.out.2.2.size (by simp)) ?_; intro v7 w7 ho7 hg7 _ hk7))
            replace hg7 : (wr.alloc (.cells pp 60)).grownBy w7 (Value.slice A9 j c9).ownBlock := hg7
            have hal : Below wr.heap.size wr (wr.alloc (.cells pp 60)) := (Below.refl _ _).alloc (Nat.le_refl _) _
            have hc7 := HO6.out.2.1.below hal
            have hg7b := grownA (grownB HO6.out.2.2 hal) hg7 (fun b hb => (HO6.out.1.lt b hb).1)
            have hc8 : CodesAt w7 g A n c l B (codePP l q) := by
              cases e : (Value.slice A9 j c9).ownBlock with
              | none => exact hc7.below (by rw [e] at hg7; exact (Below.refl _ _).grown hg7 (Nat.le_refl _) (fun b hb => by cases hb))
              | some b =>
                rw [e] at hg7
                exact hc7.put hg7 (by have := (HO6.out.1.lt b e).1; omega)
            have HF := Lib.hid (And.intro ho7 (And.intro hc8 hg7b))
            clear ho7 hg7 hk7 hal hc7 hg7b hc8
            go_roundw
            case rel => exact ⟨k - 1, ps ++ [(a, bits)], _, by rw [List.length_append, HL.out]; simp; omega, by go_num; try omega, by rw [List.length_append, HL.out, pfsV_snoc]; exact HF.out.1, HF.out.2.1, HF.out.2.2, List.nodup_append.2 ⟨HPS.out.1, by simp, fun x hx y hy => by simp at hy; subst hy; exact fun e => HIN.out (e ▸ hx)⟩, fun x hx => by
              rcases List.mem_append.1 hx with h | h
              · exact HPS.out.2 x h
              · rw [List.mem_singleton.1 h]; exact HME.out⟩
            case measure => simp [intOf]; omega
    · obtain rfl : k = 0 := by omega
      have HX := Lib.hid (PfRd.of_own rfl HOKS.out HO.out.1)
      have HLO := Lib.hid (show ∀ ad, A9 = some ad → w.heap.size ≤ ad.block from fun ad h => by subst h; exact (HO.out.1.lt ad.block rfl).1)
      have HF := Lib.hid HO.out.2
      have HLE := Lib.hid (And.intro (show ps.length ≤ m by omega) (own_cap HO.out.1).1)
      clear HO
      go_wp2_with fail
      go_ret
      exact ⟨ps, _, _, _, rfl, HX.out, HLO.out, HF.out.1, HF.out.2, HLE.out.1, HLE.out.2, HPS.out.1, HPS.out.2⟩
end Go.Proofs.YtcbfchkhbngpkaaGreatDoor
namespace Go.Proofs.YtcbfchkhbngpkaaGreatDoor
open Go.RowKit

theorem or_i64_nat (a b : Nat) (ha : a < 9223372036854775808) (hb : b < 9223372036854775808) : bits BinOp.or IntKind.i64 (a : Int) (b : Int) = ((a ||| b : Nat) : Int) := by
  have hx : a ||| b < 2 ^ 63 := Nat.or_lt_two_pow (by omega) (by omega)
  have h1 : (BitVec.ofInt 64 (a : Int)).toNat = a := by
    rw [BitVec.ofInt_natCast, BitVec.toNat_ofNat]; exact Nat.mod_eq_of_lt (by omega)
  have h2 : (BitVec.ofInt 64 (b : Int)).toNat = b := by
    rw [BitVec.ofInt_natCast, BitVec.toNat_ofNat]; exact Nat.mod_eq_of_lt (by omega)
  show IntKind.i64.wrap ((BitVec.ofInt 64 (a : Int) ||| BitVec.ofInt 64 (b : Int)).toNat : Int) = _
  rw [BitVec.toNat_or, h1, h2, IntKind.wrap_i64]
  omega
/-- three choices as one number -/
def bigV (l : List UInt8) (p : Nat) : Nat := nextV l p 256 * 65536 ||| nextV l (nextP l p 256) 256 * 256 ||| nextV l (nextP l (nextP l p 256) 256) 256
def bigP (l : List UInt8) (p : Nat) : Nat := nextP l (nextP l (nextP l p 256) 256) 256
set_option maxRecDepth 100000 in
set_option maxHeartbeats 2000000 in
theorem caseBig_any (g : Nat) (A : Option Addr) (n c : Nat) (l : List UInt8) (B : Nat) (p : Nat) (m : Nat) (h1 : 1 ≤ m) (hm : m ≤ 1000000) (w : World) (hc : CodesAt w g A n c l B p) :
    Calls Tryz.prog 17 #[.pointer (some ⟨g, 0, none⟩), .int .i64 (m : Int)] w fun e w' => e = .returned (.int .i64 ((bigV l p % m : Nat) : Int)) ∧ CodesAt w' g A n c l B (bigP l p) ∧ w.grownBy w' (some g) := by
  have d1 : decide ((m : Int) < 1) = false := by simp; omega
  have HC := Lib.hid hc
  have C1 := hc.callNext 256 (by omega)
  have hx := nextV_lt l p 256 (by omega)
  have hy := nextV_lt l (nextP l p 256) 256 (by omega)
  have hz := nextV_lt l (nextP l (nextP l p 256) 256) 256 (by omega)
  have hv : bigV l p = nextV l p 256 * 65536 ||| nextV l (nextP l p 256) 256 * 256 ||| nextV l (nextP l (nextP l p 256) 256) 256 := rfl
  have hpp : bigP l p = nextP l (nextP l (nextP l p 256) 256) 256 := rfl
  rw [hv, hpp]
  obtain ⟨P1, hP1⟩ : ∃ z, nextP l p 256 = z := ⟨_, rfl⟩
  rw [hP1] at hy hz C1 ⊢
  obtain ⟨P2, hP2⟩ : ∃ z, nextP l P1 256 = z := ⟨_, rfl⟩
  rw [hP2] at hz ⊢
  obtain ⟨a, ha⟩ : ∃ z, nextV l p 256 = z := ⟨_, rfl⟩
  obtain ⟨b, hb⟩ : ∃ z, nextV l P1 256 = z := ⟨_, rfl⟩
  obtain ⟨d, hd⟩ : ∃ z, nextV l P2 256 = z := ⟨_, rfl⟩
  rw [ha] at hx C1 ⊢
  rw [hb] at hy ⊢
  rw [hd] at hz ⊢
  have HX := Lib.hid (And.intro hx (And.intro hy hz))
  have HA1 := Lib.hid hP2
  have HA2 := Lib.hid hb
  have HA3 := Lib.hid hd
  have HC1 := Lib.hid C1
  have e1 : (a : Int) * 65536 = ((a * 65536 : Nat) : Int) := by omega
  have e2 : (b : Int) * 256 = ((b * 256 : Nat) : Int) := by omega
  have o1 : bits BinOp.or IntKind.i64 ((a : Int) * 65536) ((b : Int) * 256) = ((a * 65536 ||| b * 256 : Nat) : Int) := by rw [e1, e2, or_i64_nat _ _ (by omega) (by omega)]
  have hlt1 : a * 65536 ||| b * 256 < 16777216 := Nat.or_lt_two_pow (n := 24) (by omega) (by omega)
  have o2 : bits BinOp.or IntKind.i64 ((a * 65536 ||| b * 256 : Nat) : Int) (d : Int) = ((a * 65536 ||| b * 256 ||| d : Nat) : Int) := or_i64_nat _ _ (by omega) (by omega)
  obtain ⟨v, hv2⟩ : ∃ z, a * 65536 ||| b * 256 ||| d = z := ⟨_, rfl⟩
  rw [hv2] at o2 ⊢
  obtain ⟨u, hu⟩ : ∃ z, a * 65536 ||| b * 256 = z := ⟨_, rfl⟩
  rw [hu] at o1 o2
  have w1 : IntKind.i64.wrap ((a : Int) * 65536) = (a : Int) * 65536 := IntWalk.i64_in _ (by omega)
  have w2 : IntKind.i64.wrap ((b : Int) * 256) = (b : Int) * 256 := IntWalk.i64_in _ (by omega)
  have m0 : ((m : Int) == 0) = false := by rw [beq_eq_false_iff_ne]; omega
  have m1 : ((v : Int)).tmod (m : Int) = ((v % m : Nat) : Int) := by rw [Int.tmod_eq_emod_of_nonneg (by omega)]; omega
  clear hx hy hz hP1 hP2 ha hb hd hv hpp C1 e1 e2 hlt1 hv2 hu hc
  go_enter Tryz.func17, Tryz.ntmps17
  go_wp2_with fail
  refine HC1.out.mono ?_
  rintro e w1' ⟨rfl, hc1, hg1⟩
  have HC2 := Lib.hid (hc1.callNext 256 (by omega))
  rw [HA1.out, HA2.out] at HC2
  have HG1 := Lib.hid hg1
  clear hc1 hg1
  go_wp2_with fail
  refine HC2.out.mono ?_
  rintro e w2' ⟨rfl, hc2, hg2⟩
  have HC3 := Lib.hid (hc2.callNext 256 (by omega))
  rw [HA3.out] at HC3
  have HG2 := Lib.hid (grownBy_trans HG1.out hg2)
  clear hc2 hg2
  go_wp2_with fail
  refine HC3.out.mono ?_
  rintro e w3' ⟨rfl, hc3, hg3⟩
  have HF := Lib.hid (And.intro hc3 (grownBy_trans HG2.out hg3))
  clear hc3 hg3
  go_wp2_with fail
  go_ret
  exact ⟨rfl, HF.out.1, HF.out.2⟩
/-- an endpoint of choices: its address, its port, and where the choices go on -/
def codeE (l : List UInt8) (p : Nat) : List Value := (codeA l p).cells ++ [.int .i64 ((1 + bigV l (codeAP l p) % 65535 : Nat) : Int)]
def codeEP (l : List UInt8) (p : Nat) : Nat := bigP l (codeAP l p)
def end0 : List Value := addr0.cells ++ [.int .i64 0]
set_option maxRecDepth 100000 in
set_option maxHeartbeats 2000000 in
theorem caseEndpoint_any (g : Nat) (A : Option Addr) (n c : Nat) (l : List UInt8) (B : Nat) (p : Nat) (w : World) (hc : CodesAt w g A n c l B p) :
    Calls Tryz.prog 21 #[.pointer (some ⟨g, 0, none⟩)] w fun e w' => e = .returned (.agg (codeE l p).toArray) ∧ CodesAt w' g A n c l B (codeEP l p) ∧ w.grownBy w' (some g) := by
  have hgl := hc.lt
  have hlt : bigV l (codeAP l p) % 65535 < 65535 := Nat.mod_lt _ (by omega)
  have hE : codeE l p = (codeA l p).cells ++ [.int .i64 ((1 + bigV l (codeAP l p) % 65535 : Nat) : Int)] := rfl
  have hP : codeEP l p = bigP l (codeAP l p) := rfl
  have hok := codeA_ok l p
  have HM := Lib.hid (show MemG w g [blkE w.heap.size 55 end0] (w.alloc (.cells #[.bool false, .int .u8 0, .int .u8 0, .int .u8 0, .int .u8 0, .int .u8 0, .int .u8 0, .int .u8 0, .int .u8 0, .int .u8 0, .int .u8 0, .int .u8 0, .int .u8 0, .int .u8 0, .int .u8 0, .int .u8 0, .int .u8 0, .int .i64 0] 55)) from (MemG.nil w g).alloc rfl 55 #[.bool false, .int .u8 0, .int .u8 0, .int .u8 0, .int .u8 0, .int .u8 0, .int .u8 0, .int .u8 0, .int .u8 0, .int .u8 0, .int .u8 0, .int .u8 0, .int .u8 0, .int .u8 0, .int .u8 0, .int .u8 0, .int .u8 0, .int .i64 0] end0 rfl)
  have HC0 := Lib.hid (caseAddr_any g A n c l B p _ (hc.below ((Below.refl _ _).alloc (Nat.le_refl w.heap.size) (.cells #[.bool false, .int .u8 0, .int .u8 0, .int .u8 0, .int .u8 0, .int .u8 0, .int .u8 0, .int .u8 0, .int .u8 0, .int .u8 0, .int .u8 0, .int .u8 0, .int .u8 0, .int .u8 0, .int .u8 0, .int .u8 0, .int .u8 0, .int .i64 0] 55))))
  rw [hE, hP]
  obtain ⟨q, hq⟩ : ∃ z, bigV l (codeAP l p) % 65535 = z := ⟨_, rfl⟩
  rw [hq] at hlt ⊢
  have HQ := Lib.hid hq
  have w1 : IntKind.i64.wrap (((1 + q : Nat)) : Int) = ((1 + q : Nat) : Int) := IntWalk.i64_in _ (by omega)
  have e1 : (1 : Int) + (q : Int) = ((1 + q : Nat) : Int) := by omega
  obtain ⟨r, hr⟩ : ∃ z, 1 + q = z := ⟨_, rfl⟩
  rw [hr] at w1 e1 ⊢
  obtain ⟨ca, hca⟩ : ∃ z, (codeA l p).cells.toArray = z := ⟨_, rfl⟩
  obtain ⟨ce, hce⟩ : ∃ z, ((codeA l p).cells ++ [Value.int .i64 (r : Int)]).toArray = z := ⟨_, rfl⟩
  have hbt := end_built (codeA l p) hok (r : Int)
  rw [hca] at HC0 hbt
  rw [hce] at hbt ⊢
  have HBT := Lib.hid hbt
  have HCE := Lib.hid hce
  have hlen : ((codeA l p).cells ++ [Value.int .i64 (r : Int)]).length = 18 := by rw [List.length_append, AddrM.cells_length hok]; rfl
  have HLN := Lib.hid hlen
  have HUE := Lib.hid (show (Tryz.prog.info? 55).map (·.size) = some ((codeA l p).cells ++ [Value.int .i64 (r : Int)]).length from by rw [hlen]; kernel_rfl)
  have HONE := Lib.hid (show ∀ v ∈ (codeA l p).cells ++ [Value.int .i64 (r : Int)], v.oneCell' = true from by
    intro v hv
    rcases List.mem_append.1 hv with hv | hv
    · exact AddrM.one _ v hv
    · rw [List.mem_singleton.1 hv]; rfl)
  clear hE hP hok hq hr hca hce hbt hlen hlt hc
  go_enter Tryz.func21, Tryz.ntmps21
  go_upto_region 1 with fail
  go_wp2_with fail
  refine HC0.out.mono ?_
  rintro e w1' ⟨rfl, hc1, hg1⟩
  have HC1 := Lib.hid (caseBig_any g A n c l B (codeAP l p) 65535 (by omega) (by omega) w1' hc1)
  rw [HQ.out] at HC1
  replace HM := Lib.hid (HM.out.next hgl hg1)
  clear hc1 hg1 HC0
  go_wp2_with fail
  refine HC1.out.mono ?_
  rintro e w2' ⟨rfl, hc2, hg2⟩
  replace HM := Lib.hid (HM.out.next hgl hg2)
  have HC2 := Lib.hid hc2
  clear hc2 hg2 HC1
  go_wp2_with (first | (refine wpList_build_as rfl 55 [(0, .tmp 4), (1, .tmp 7)] rfl ce ?_ ?_; exact HBT.out) | (refine wpList_store_blk rfl 55 (.tmp 2) (.tmp 8) rfl w.heap.size ((codeA l p).cells ++ [Value.int .i64 (r : Int)]) rfl (by show Value.agg ce = _; rw [HCE.out]) 55 end0 (HM.out.blk 0 rfl) HUE.out (by rw [HLN.out]; rfl) HONE.out ?_; intro w9 hb9 hg9))
  exact bodyPost_ret (results_obj rfl _ _ w.heap.size 55 ((codeA l p).cells ++ [Value.int .i64 (r : Int)]) _ rfl hb9 Tryz.underlying55 rfl HUE.out) rfl ⟨by rw [HCE.out], HC2.out.put hg9 hgl, (HM.out.put 0 rfl _ hg9 hb9).2⟩
end Go.Proofs.YtcbfchkhbngpkaaGreatDoor
namespace Go.Proofs.YtcbfchkhbngpkaaGreatDoor
open Go.RowKit

set_option maxRecDepth 100000 in
set_option maxHeartbeats 8000000 in
theorem caseBool_any (g : Nat) (A : Option Addr) (n c : Nat) (l : List UInt8) (B p : Nat) (W : World) (h : CodesAt W g A n c l B p) :
    Calls Tryz.prog 20 #[.pointer (some ⟨g, 0, none⟩)] W fun e w' => e = .returned (.bool (nextV l p 2 == 1)) ∧ CodesAt w' g A n c l B (nextP l p 2) ∧ W.grownBy w' (some g) := by
  have hn := h.callNext 2 (by omega)
  rw [show ((2 : Nat) : Int) = 2 from rfl] at hn
  have HN := Lib.hid hn
  clear hn h
  go_enter Tryz.func20, Tryz.ntmps20
  go_wp2_with fail
  refine HN.out.mono ?_
  rintro e w1 ⟨rfl, hc, hg⟩
  obtain ⟨v, hv⟩ : ∃ v, nextV l p 2 = v := ⟨_, rfl⟩
  rw [hv]
  have HV := Lib.hid hv
  have HF := Lib.hid (And.intro hc hg)
  clear hc hg hv HN
  have hb : ((v : Int) == 1) = (v == 1) := by rw [Bool.eq_iff_iff, beq_iff_eq, beq_iff_eq]; omega
  go_wp2
  go_ret
  exact ⟨by rw [HV.out]; rfl, HF.out.1, HF.out.2⟩
end Go.Proofs.YtcbfchkhbngpkaaGreatDoor
namespace Go.Proofs.YtcbfchkhbngpkaaGreatDoor
open Go.RowKit

/-- what holds ahead of each peer -/
structure CnfAt (w : World) (g : Nat) (A : Option Addr) (n c : Nat) (l : List UInt8) (B : Nat) (m g4 g5 : Nat) (priv : List UInt8) (port : Int) (i : Nat) (A2 : Option Addr) (n2 c2 : Nat) (W : World) : Prop where
  ex : ∃ (p B0 : Nat) (ps : List PeerM) (v : Value) (Bs : List Nat) (rl : List (AddrM × Int)), rl.length = n2 ∧ CodesAt W g A n c l B p ∧ GoodC m i ps rl ∧
    HeapD w.heap.size [peersD w.heap.size Bs v ps, blkD g5 27 (ConfM.cells ⟨priv, port, []⟩ v), pfD B0 A2 n2 rl, blkD g4 27 (#[.int .u8 0, .int .u8 0, .int .u8 0, .int .u8 0, .int .u8 0, .int .u8 0, .int .u8 0, .int .u8 0, .int .u8 0, .int .u8 0, .int .u8 0, .int .u8 0, .int .u8 0, .int .u8 0, .int .u8 0, .int .u8 0, .int .u8 0, .int .u8 0, .int .u8 0, .int .u8 0, .int .u8 0, .int .u8 0, .int .u8 0, .int .u8 0, .int .u8 0, .int .u8 0, .int .u8 0, .int .u8 0, .int .u8 0, .int .u8 0, .int .u8 0, .int .u8 0, .int .i64 0, .slice none 0 0] : Array Value).toList] W
  bel : Below g w W
  cap : n2 ≤ c2
theorem below_codes {g : Nat} {w W W' : World} (h : Below g w W) (hg0 : g < w.heap.size) (hg : W.grownBy W' (some g)) : Below g w W' := h.grown hg (by have := h.size; omega) (by intro k hk; injection hk with hk; omega)
theorem below_more {g : Nat} {w W W' : World} (h : Below g w W) (hg0 : g < w.heap.size) (hb : Below W.heap.size W W') : Below g w W' := h.trans (hb.mono (by have := h.size; omega))
/-- a peer that is being made -/
structure PrAt (w : World) (g : Nat) (A : Option Addr) (n c : Nat) (l : List UInt8) (B : Nat) (g8 : Nat) (F : List Dep) (va : Value) (pm : PeerM) (W : World) : Prop where
  codes : ∃ p, CodesAt W g A n c l B p
  hd : HeapD w.heap.size (blkD g8 57 (pm.cells va) :: ownD w.heap.size 60 18 va pm.al.length (pfsV pm.al).flatten :: F) W
  bel : Below g w W
  ok : pm.ok
theorem peer_set_sha {p : PeerM} (h : p.ok) (v : Value) (k : List UInt8) (hk : k.length = 32) : setL (p.cells v) 32 (k.map u8v) = PeerM.cells { p with sha := k } v := by
  have h1 : (p.pub.map u8v).length = 32 := by rw [List.length_map, h.1]
  have h2 : (p.sha.map u8v).length = 32 := by rw [List.length_map, h.2.1]
  rw [setL, PeerM.cells, PeerM.cells, List.take_left' h1, List.length_map, hk, List.drop_append, List.drop_eq_nil_of_le (by omega), h1, List.drop_left' (by omega)]
  simp
theorem peer_set_has {p : PeerM} (h : p.ok) (v : Value) (b : Bool) : (p.cells v).set 64 (.bool b) = PeerM.cells { p with hasE := b } v := by
  have h1 : (p.pub.map u8v).length = 32 := by rw [List.length_map, h.1]
  have h2 : (p.sha.map u8v).length = 32 := by rw [List.length_map, h.2.1]
  rw [PeerM.cells, List.set_append_right _ _ (by omega), List.set_append_right _ _ (by omega), h1, h2]
  rfl
theorem peer_set_end {p : PeerM} (h : p.ok) (v : Value) (a : AddrM) (ha : a.ok) (q : Int) : setL (p.cells v) 65 (prefC a q) = PeerM.cells { p with ea := a, ep := q } v := by
  have h1 : (p.pub.map u8v).length = 32 := by rw [List.length_map, h.1]
  have h2 : (p.sha.map u8v).length = 32 := by rw [List.length_map, h.2.1]
  have h3 := prefC_length p.ea h.2.2.1 p.ep
  have h4 := prefC_length a ha q
  have e : p.cells v = (p.pub.map u8v ++ p.sha.map u8v ++ [.bool p.hasE]) ++ (prefC p.ea p.ep ++ [.int .i64 p.keep, v]) := by simp [PeerM.cells]
  have hl : (p.pub.map u8v ++ p.sha.map u8v ++ [Value.bool p.hasE]).length = 65 := by simp only [List.length_append, h1, h2]; rfl
  rw [setL, e, List.take_left' hl, h4, List.drop_append, List.drop_eq_nil_of_le (by omega), hl, List.drop_left' (by omega)]
  simp [PeerM.cells]
theorem peer_set_keep {p : PeerM} (h : p.ok) (v : Value) (q : Int) : (p.cells v).set 83 (.int .i64 q) = PeerM.cells { p with keep := q } v := by
  have h1 : (p.pub.map u8v).length = 32 := by rw [List.length_map, h.1]
  have h2 : (p.sha.map u8v).length = 32 := by rw [List.length_map, h.2.1]
  have h3 := prefC_length p.ea h.2.2.1 p.ep
  rw [PeerM.cells, List.set_append_right _ _ (by omega), List.set_append_right _ _ (by omega), h1, h2, show 83 - 32 - 32 = 18 + 1 from rfl, List.set_cons_succ, List.set_append_right _ _ (by omega), h3]
  rfl
theorem peer_set_al {p : PeerM} (h : p.ok) (v v' : Value) : (p.cells v).set 84 v' = p.cells v' := by
  have h1 : (p.pub.map u8v).length = 32 := by rw [List.length_map, h.1]
  have h2 : (p.sha.map u8v).length = 32 := by rw [List.length_map, h.2.1]
  have h3 := prefC_length p.ea h.2.2.1 p.ep
  rw [PeerM.cells, List.set_append_right _ _ (by omega), List.set_append_right _ _ (by omega), h1, h2, show 84 - 32 - 32 = 19 + 1 from rfl, List.set_cons_succ, List.set_append_right _ _ (by omega), h3]
  rfl
theorem codeE_pref (l : List UInt8) (p : Nat) : ∃ r : Nat, 1 ≤ r ∧ r ≤ 65535 ∧ codeE l p = prefC (codeA l p) (r : Int) := ⟨1 + bigV l (codeAP l p) % 65535, by omega, by have := Nat.mod_lt (bigV l (codeAP l p)) (show 0 < 65535 by omega); omega, rfl⟩
end Go.Proofs.YtcbfchkhbngpkaaGreatDoor
namespace Go.Proofs.YtcbfchkhbngpkaaGreatDoor
open Go.RowKit

section
variable {w W W' : World} {g : Nat} {A : Option Addr} {n c : Nat} {l : List UInt8} {B p : Nat}
theorem CodesAt.keptBut (h : CodesAt W g A n c l B p) {b : Nat} (hg : KeptBut W W' b) (hb : g < b) : CodesAt W' g A n c l B p :=
  ⟨by have := h.blk; unfold Blk at *; rw [hg.2 g h.lt (by omega)]; exact this, h.rd.keep (fun q hq => World.cell?_of_block (hg.2 q.block (by have := h.le; have := h.lt; omega) (by have := h.le; omega))), h.le, Nat.lt_of_lt_of_le h.lt hg.1, h.small, h.pos⟩
theorem PrAt.next {g8 : Nat} {F : List Dep} {va : Value} {pm : PeerM} (h : PrAt w g A n c l B g8 F va pm W) (hgl : g < w.heap.size) {q : Nat} (hc : CodesAt W' g A n c l B q) (hg : W.grownBy W' (some g)) : PrAt w g A n c l B g8 F va pm W' :=
  ⟨⟨q, hc⟩, h.hd.other (.of_grown hg) hgl, below_codes h.bel hgl hg, h.ok⟩
theorem PrAt.put {g8 : Nat} {F : List Dep} {va : Value} {pm pm' : PeerM} (h : PrAt w g A n c l B g8 F va pm W) (hgl : g < w.heap.size) (hg : W.grownBy W' (some g8)) (hb : Blk W' g8 57 (pm'.cells va)) (hok : pm'.ok) (hal : pm'.al = pm.al) : PrAt w g A n c l B g8 F va pm' W' := by
  have h8 := h.hd.at 0 rfl (k := g8) (by simp [blkD])
  have hs := h.bel.size
  obtain ⟨q, hc⟩ := h.codes
  exact ⟨⟨q, hc.keptBut (.of_grown hg) (by omega)⟩, by rw [hal]; exact h.hd.put (by omega) (.of_grown hg) hb, h.bel.grown hg (by omega) (by intro k hk; injection hk with hk; omega), hok⟩
theorem grown_cell (W : World) (g j : Nat) (v : Value) : W.grownBy (W.setCell ⟨g, j, none⟩ v) (some g) := ⟨rfl, rfl, rfl, by simp [World.setCell], fun k _ hne => Below.heap_setCell W ⟨g, j, none⟩ v k (fun e => hne (by simp [e]))⟩
theorem PrAt.blk {g8 : Nat} {F : List Dep} {va : Value} {pm : PeerM} (h : PrAt w g A n c l B g8 F va pm W) : Blk W g8 57 (pm.cells va) := h.hd.blk 0 rfl
end
theorem peer_at {p : PeerM} (h : p.ok) (v : Value) : (p.cells v)[64]? = some (.bool p.hasE) ∧ (p.cells v)[83]? = some (.int .i64 p.keep) ∧ (p.cells v)[84]? = some v := by
  have h1 : (p.pub.map u8v).length = 32 := by rw [List.length_map, h.1]
  have h2 : (p.sha.map u8v).length = 32 := by rw [List.length_map, h.2.1]
  have h3 := prefC_length p.ea h.2.2.1 p.ep
  refine ⟨?_, ?_, ?_⟩
  · rw [PeerM.cells, List.getElem?_append_right (by omega), List.getElem?_append_right (by omega), h1, h2]; rfl
  · rw [PeerM.cells, List.getElem?_append_right (by omega), List.getElem?_append_right (by omega), h1, h2, show 83 - 32 - 32 = 18 + 1 from rfl, List.getElem?_cons_succ, List.getElem?_append_right (by omega), h3]; rfl
  · rw [PeerM.cells, List.getElem?_append_right (by omega), List.getElem?_append_right (by omega), h1, h2, show 84 - 32 - 32 = 19 + 1 from rfl, List.getElem?_cons_succ, List.getElem?_append_right (by omega), h3]; rfl
/-- what is known of a peer that is being made -/
structure PrOk (k0 : List UInt8) (p : PeerM) : Prop where
  pub : p.pub = k0
  al : p.al = []
  e : rightE p = true
  k : rightK p.keep = true
theorem PrOk.zero (k0 : List UInt8) : PrOk k0 { peer0 with pub := k0 } := ⟨rfl, rfl, by simp [rightE, peer0], rfl⟩
theorem PrOk.sha {k0 : List UInt8} {p : PeerM} (h : PrOk k0 p) (s : List UInt8) : PrOk k0 { p with sha := s } := ⟨h.pub, h.al, h.e, h.k⟩
theorem PrOk.endp {k0 : List UInt8} {p : PeerM} (h : PrOk k0 p) {a : AddrM} (ha : soundM a = true) {r : Nat} (h1 : 1 ≤ r) (h2 : r ≤ 65535) : PrOk k0 { p with hasE := true, ea := a, ep := (r : Int) } := ⟨h.pub, h.al, by
  have := addrT_ne ha
  have h3 : endT a (r : Int) ≠ [] := by
    rw [endT, if_neg (by simp only [this, false_or]; omega)]
    simp
  simpa [rightE] using h3, h.k⟩
theorem PrOk.keepK {k0 : List UInt8} {p : PeerM} (h : PrOk k0 p) {r : Nat} (h1 : 1000 ≤ r) (h2 : r ≤ 31000) : PrOk k0 { p with keep := (r : Int) } := ⟨h.pub, h.al, h.e, by
  simp only [rightK, Bool.or_eq_true, Bool.and_eq_true, decide_eq_true_eq]
  exact .inr ⟨by omega, by omega⟩⟩
theorem PeerM.ok.setSha {p : PeerM} (h : p.ok) {s : List UInt8} (hs : s.length = 32) : ({ p with sha := s } : PeerM).ok := ⟨h.1, hs, h.2.2⟩
theorem PeerM.ok.setEnd {p : PeerM} (h : p.ok) {a : AddrM} (ha : a.ok) {r : Int} (hr : inI64 r) : ({ p with ea := a, ep := r } : PeerM).ok := ⟨h.1, h.2.1, ha, hr, h.2.2.2.2⟩
theorem PeerM.ok.setKeep {p : PeerM} (h : p.ok) {r : Int} (hr : inI64 r) : ({ p with keep := r } : PeerM).ok := ⟨h.1, h.2.1, h.2.2.1, h.2.2.2.1, hr, h.2.2.2.2.2⟩
theorem fm_cons {α β : Type} (f : α → Option β) (x : α) (l : List α) : (x :: l).filterMap f = (f x).toList ++ l.filterMap f := by
  cases h : f x <;> simp [h]
theorem fm_snoc {α β : Type} (f : α → Option β) (x : α) (l : List α) : (l ++ [x]).filterMap f = l.filterMap f ++ (f x).toList := by
  rw [List.filterMap_append, fm_cons]; simp
theorem peersV_snoc {ps : List PeerM} {vs : List Value} (hl : vs.length = ps.length) (p : PeerM) (v : Value) : peersV (ps ++ [p]) (vs ++ [v]) = peersV ps vs ++ [p.cells v] := by
  rw [peersV, peersV, List.zipWith_append hl.symm]; rfl
theorem HeapD.sep {base : Nat} {E : List Dep} {e : Dep} {W : World} (h : HeapD base (e :: E) W) {a b : Nat} (ha : a ∈ e.bs) {i : Nat} {e' : Dep} (hi : E[i]? = some e') (hb : b ∈ e'.bs) : a ≠ b := fun he => by
  have h2 := h.2.2
  simp only [depB, List.flatMap_cons, List.nodup_append] at h2
  exact h2.2.2 a ha b (List.mem_flatMap.2 ⟨e', List.mem_of_getElem? hi, hb⟩) he
theorem HeapD.tail' {base : Nat} {F : List Dep} {W : World} {B n c : Nat} {A : Option Addr} {x : AddrM × Int} {l : List (AddrM × Int)} (hn : 0 < n) (h : HeapD base (pfD B A n (x :: l) :: F) W) (hbw : base ≤ W.heap.size) (hc : n ≤ c) : HeapD base (pfD B (addrK A 1 c 18) (n - 1) l :: F) W := by
  obtain ⟨m, rfl⟩ : ∃ m, n = m + 1 := ⟨n - 1, by omega⟩
  exact h.tail hbw hc
theorem pfsV_app1 (al : List (AddrM × Int)) (x : AddrM × Int) : (pfsV (al ++ [x])).flatten = (pfsV al).flatten ++ [prefC x.1 x.2].flatten := by simp [pfsV]
theorem peerInfo : ∃ i z, Tryz.prog.info? 57 = some i ∧ i.zero = some z ∧ z.cells.size = 85 ∧ i.size = 85 ∧ i.bytes = 136 := by
  have h : (Tryz.prog.info? 57).map (fun i => (i.zero.map (fun z => z.cells.size), i.size, i.bytes)) = some (some 85, 85, 136) := by kernel_rfl
  cases hi : Tryz.prog.info? 57 with
  | none => rw [hi] at h; cases h
  | some i =>
    rw [hi] at h
    simp only [Option.map_some, Option.some.injEq, Prod.mk.injEq] at h
    cases hz : i.zero with
    | none => rw [hz] at h; simp at h
    | some z =>
      rw [hz] at h
      exact ⟨i, z, rfl, hz, by simpa using h.1, h.2.1, h.2.2⟩
theorem conf_at {x : ConfM} (h : x.ok) (v : Value) : (x.cells v)[33]? = some v := by
  have h1 : (x.priv.map u8v).length = 32 := by rw [List.length_map, h.1]
  rw [ConfM.cells, List.getElem?_append_right (by omega), h1]; rfl
theorem conf_set_peers {x : ConfM} (h : x.ok) (v v' : Value) : (x.cells v).set 33 v' = x.cells v' := by
  have h1 : (x.priv.map u8v).length = 32 := by rw [List.length_map, h.1]
  rw [ConfM.cells, List.set_append_right _ _ (by omega), h1]; rfl
theorem PrOk.right {k0 : List UInt8} {p : PeerM} (h : PrOk k0 p) {al : List (AddrM × Int)} (ha : ∀ q ∈ al, validM q.1 q.2 = true) : rightP { p with al := al } = true := by
  have h1 := h.e
  have h2 := h.k
  simp only [rightE] at h1
  simp only [rightP, rightE, Bool.and_eq_true, List.all_eq_true]
  exact ⟨⟨h1, h2⟩, ha⟩
theorem GoodC.rest2 {m i : Nat} {ps : List PeerM} {al rl : List (AddrM × Int)} (h : GoodC m i ps (al ++ rl)) (x : AddrM × Int) (hx : x ∈ al) : (x.1.ok ∧ inI64 x.2) ∧ validM x.1 x.2 = true := by
  have := h.rest x (List.mem_append_left _ hx)
  exact ⟨this.1, this.2⟩
theorem pfB_mem {A : Option Addr} {b off n : Nat} (hA : A = some ⟨b, off, none⟩) (hn : 0 < n) : b ∈ pfB A n := by
  rw [pfB, if_neg (by omega), hA]; simp
/-- a row grows, the choices are as they were -/
theorem CodesAt.grownBy {W W' : World} {g : Nat} {A : Option Addr} {n c : Nat} {l : List UInt8} {B p : Nat} (h : CodesAt W g A n c l B p) {o : Option Nat} (hg : W.grownBy W' o) (ho : ∀ k, o = some k → g < k) : CodesAt W' g A n c l B p := by
  cases o with
  | none => exact h.below ((Below.refl _ _).grown hg (Nat.le_refl _) (fun b hb => by cases hb))
  | some b => exact h.put hg (ho b rfl)
/-- a peer goes into the list -/
theorem HeapD.peer {base : Nat} {F : List Dep} {W W' : World} {v v' va : Value} {Bs : List Nat} {ps : List PeerM} {p : PeerM} {vs : List Value}
    (h : HeapD base (peersD base Bs v ps :: ownD base 60 18 va p.al.length (pfsV p.al).flatten :: F) W) (hbw : base ≤ W.heap.size) (hl : vs.length = ps.length) (hr : ∀ (i : Nat) (q : PeerM) (x : Value), ps[i]? = some q → vs[i]? = some x → W.ownsRow base 60 18 x q.al.length (pfsV q.al).flatten) (hB : (v :: vs).filterMap Value.ownBlock = Bs)
    (ho : W'.ownsRow base 57 85 v' (ps.length + 1) ((peersV ps vs).flatten ++ [p.cells va].flatten)) (hg : W.grownBy W' v.ownBlock) (hv : v'.ownBlock = v.ownBlock ∨ v'.ownBlock = some W.heap.size) : ∃ Bs', HeapD base (peersD base Bs' v' (ps ++ [p]) :: F) W' := by
  have hT : depB [peersD base Bs v ps, ownD base 60 18 va p.al.length (pfsV p.al).flatten] = Bs ++ va.ownBlock.toList := by simp [depB, peersD, ownD]
  have hnd : (Bs ++ va.ownBlock.toList).Nodup := by
    have := h.2.2
    rw [show peersD base Bs v ps :: ownD base 60 18 va p.al.length (pfsV p.al).flatten :: F = [peersD base Bs v ps, ownD base 60 18 va p.al.length (pfsV p.al).flatten] ++ F from rfl, depB, List.flatMap_append, List.nodup_append] at this
    have h1 := this.1
    rwa [show List.flatMap _ _ = depB [peersD base Bs v ps, ownD base 60 18 va p.al.length (pfsV p.al).flatten] from rfl, hT] at h1
  have hlt : ∀ k ∈ Bs ++ va.ownBlock.toList, k < W.heap.size := fun k hk => by
    rw [← hT] at hk
    obtain ⟨e, he, hke⟩ := List.mem_flatMap.1 hk
    refine (h.2.1 k (List.mem_flatMap.2 ⟨e, ?_, hke⟩)).2
    simp only [List.mem_cons, List.not_mem_nil, or_false] at he
    rcases he with rfl | rfl <;> simp
  have hva := h.own 1 rfl
  rw [← hB, fm_cons] at hnd hlt
  rw [List.append_assoc, List.nodup_append] at hnd
  have hsep : ∀ k, some k = v.ownBlock → ∀ b ∈ vs.filterMap Value.ownBlock ++ va.ownBlock.toList, b ≠ k := fun k hk b hb e => hnd.2.2 k (by rw [← hk]; simp) b hb e.symm
  have hkeep : ∀ (x : Value), (∀ k, x.ownBlock = some k → k ∈ vs.filterMap Value.ownBlock ++ va.ownBlock.toList) → ∀ k, x.ownBlock = some k → W'.heap[k]? = W.heap[k]? := fun x hx k hk =>
    hg.block k (hlt k (by rw [List.append_assoc]; exact List.mem_append_right _ (hx k hk))) (fun e => hsep k e k (hx k hk) rfl)
  refine ⟨v'.ownBlock.toList ++ (vs.filterMap Value.ownBlock ++ va.ownBlock.toList), HeapD.re (T := [peersD base Bs v ps, ownD base 60 18 va p.al.length (pfsV p.al).flatten]) (F := F) h [peersD base _ v' (ps ++ [p])] hg.size hbw (fun k hk hn => hg.block k hk (fun e => hn ?_)) ?_ (fun k hk => ?_) ?_⟩
  · rw [hT, ← hB, fm_cons, ← e]
    simp
  · intro e he
    rw [List.mem_singleton] at he
    subst he
    refine ⟨vs ++ [va], by simp [hl], ?_, fun i q x hq hx => ?_, by rw [fm_cons, fm_snoc]⟩
    · rw [peersV_snoc hl, List.flatten_append, List.length_append, List.length_singleton]
      exact ho
    · by_cases hi : i < ps.length
      · rw [List.getElem?_append_left hi] at hq
        rw [List.getElem?_append_left (by omega)] at hx
        exact own_kept (hr i q x hq hx) (hkeep x fun k hk => List.mem_append_left _ (List.mem_filterMap.2 ⟨x, List.mem_of_getElem? hx, hk⟩))
      · have hi2 : i = ps.length := by
          have := (List.getElem?_eq_some_iff.1 hq).1
          simp at this
          omega
        subst hi2
        rw [List.getElem?_append_right (Nat.le_refl _), Nat.sub_self] at hq
        rw [← hl, List.getElem?_append_right (Nat.le_refl _), Nat.sub_self] at hx
        injection hq with hq
        injection hx with hx
        subst hq hx
        exact own_kept hva (hkeep va fun k hk => by rw [hk]; simp)
  · have hk2 : k ∈ v'.ownBlock.toList ++ (vs.filterMap Value.ownBlock ++ va.ownBlock.toList) := by simpa [depB, peersD] using hk
    rw [hT, ← hB, fm_cons]
    rcases List.mem_append.1 hk2 with h1 | h1
    · rcases hv with hv | hv
      · rw [hv] at h1
        exact .inl (by simp only [List.mem_append]; exact .inl (.inl h1))
      · rw [hv] at h1
        have : k = W.heap.size := by simpa using h1
        exact .inr ⟨by omega, (own_lt ho (by rw [hv, this])).2⟩
    · exact .inl (by rw [List.append_assoc]; exact List.mem_append_right _ h1)
  · have hx : (v'.ownBlock.toList ++ (vs.filterMap Value.ownBlock ++ va.ownBlock.toList)).Nodup := by
      rw [List.nodup_append]
      refine ⟨by cases v'.ownBlock <;> simp, hnd.2.1, fun a ha b hb e => ?_⟩
      subst e
      rcases hv with hv | hv
      · rw [hv] at ha
        exact hnd.2.2 a ha a hb rfl
      · rw [hv] at ha
        have : a = W.heap.size := by simpa using ha
        have := hlt a (by rw [List.append_assoc]; exact List.mem_append_right _ hb)
        omega
    simpa [depB, peersD] using hx
/-- a peer that is being made takes prefixes of those that are left -/
structure KAt (w : World) (g : Nat) (A : Option Addr) (n c : Nat) (l : List UInt8) (B : Nat) (g8 m i : Nat) (ps : List PeerM) (F2 : List Dep) (pm : PeerM) (k : Nat) (A2 : Option Addr) (n2 c2 : Nat) (W : World) : Prop where
  ex : ∃ (p B0 : Nat) (al rl : List (AddrM × Int)) (va : Value), rl.length = n2 ∧ CodesAt W g A n c l B p ∧ GoodC m i ps (al ++ rl) ∧ al.length + k ≤ 2 ∧
    HeapD w.heap.size (pfD B0 A2 n2 rl :: ownD w.heap.size 60 18 va al.length (pfsV al).flatten :: blkD g8 57 (pm.cells va) :: F2) W
  bel : Below g w W
  cap : n2 ≤ c2
theorem PrAt.kAt {w W : World} {g : Nat} {A : Option Addr} {n c : Nat} {l : List UInt8} {B g8 m i : Nat} {ps : List PeerM} {pm : PeerM} {d1 d2 d3 : Dep} {B0 : Nat} {A2 : Option Addr} {n2 c2 k : Nat} {rl : List (AddrM × Int)}
    (h : PrAt w g A n c l B g8 [d1, d2, pfD B0 A2 n2 rl, d3] (.slice none 0 0) pm W) (ha : pm.al = []) (hk : k ≤ 2) (hg : GoodC m i ps rl) (hl : rl.length = n2) (hc : n2 ≤ c2) : KAt w g A n c l B g8 m i ps [d1, d2, d3] pm k A2 n2 c2 W := by
  obtain ⟨⟨p, hp⟩, hd, hb, _⟩ := h
  rw [ha] at hd
  have h1 := (((((hd.pull 5 rfl).pull 4 rfl).pull 4 rfl).pull 3 rfl).pull 4 rfl).pull 5 rfl
  exact ⟨⟨p, B0, [], rl, _, hl, hp, hg, by simpa using hk, h1⟩, hb, hc⟩
/-- one of two operations is a load -/
theorem load_or {P : Program} {md : Region.Mode} {ops : Array Oper} {Q : Exit → Act → World → Prop} {S : World → Prop} {r r' : List Oper} {oi oj : Oper} {v : Value} {fuel : Nat} {listed : Array Bool} {a : Act} {w : World} (i j : Nat) (hi : ops.toList.drop i = oi :: r) (hj : ops.toList.drop j = oj :: r')
    (hr : Region.ready md ops listed = [i, j]) (hy : YieldsIf P ops (fun W => W = w) oi v a) (hS : S w)
    (h1 : wpAnyH P md ops Q S fuel (listed.setIfInBounds i true) (a.put oi.dst v) w)
    (h2 : ∀ K' : Act → World → Prop, Shut (∀ a w, S w → (S w → wpAnyH P md ops Q S fuel (listed.setIfInBounds j true) a w) → K' a w) → if Region.wanted oj (yielded ops a.tmps) = true then Oper.wp P oj a w K' Q else K' (a.put oj.dst undef) w) :
    wpAnyH P md ops Q S (fuel + 1) listed a w :=
  wpAnyH_ready hr (by simp) fun x hx => by
    rcases List.mem_cons.1 hx with rfl | hx
    · exact hy.wpOp (getElem?_of_drop hi) rfl ⟨hS, h1⟩
    · exact AllReadyH.cons (getElem?_of_drop hj) h2 AllReadyH.nil x hx
/-- the one operation that may come up is a load -/
theorem load_one {P : Program} {md : Region.Mode} {ops : Array Oper} {Q : Exit → Act → World → Prop} {S : World → Prop} {r : List Oper} {oi : Oper} {v : Value} {fuel : Nat} {listed : Array Bool} {a : Act} {w : World} (i : Nat) (hi : ops.toList.drop i = oi :: r)
    (hr : Region.ready md ops listed = [i]) (hy : YieldsIf P ops (fun W => W = w) oi v a) (hS : S w)
    (h1 : wpAnyH P md ops Q S fuel (listed.setIfInBounds i true) (a.put oi.dst v) w) : wpAnyH P md ops Q S (fuel + 1) listed a w :=
  wpAnyH_ready hr (by simp) fun x hx => by
    rw [List.mem_singleton] at hx
    subst hx
    exact hy.wpOp (getElem?_of_drop hi) rfl ⟨hS, h1⟩
end Go.Proofs.YtcbfchkhbngpkaaGreatDoor
