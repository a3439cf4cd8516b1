/-
  AeadReturns returns true for every key, nonce and data, and changes nothing that was there: the walk, over what is asked of aead.Seal and Open.
-/
import Derived.Test.YtafkedeelngnnaaAeBegun
import Derived.Test.YtafkedeelngnnaaCut
import Derived.Laws.BitsAllLaws
import Derived.RegionTactic
namespace Go.Proofs.Ytafkedeelngnnaa
open Go.RowKit
theorem ae_xor (a b : UInt8) : bits BinOp.xor IntKind.u8 (a.toNat : Int) (b.toNat : Int) = ((a ^^^ b).toNat : Int) := by
  rw [UInt8.toNat_xor, u8_xor_nat _ _ a.toNat_lt b.toNat_lt]

set_option maxRecDepth 100000 in
set_option maxHeartbeats 8000000 in
theorem returns_walk (HS : SealC) (HO : OpenC) (w : World) (k nn : List UInt8) (Ap : Option Addr) (np cp : Nat) (lp : List UInt8) (Am : Option Addr) (nm cm : Nat) (lm : List UInt8) (ia iby : Nat) (hk : k.length = 32) (hn : nn.length = 12) (hpc : np ≤ cp) (hpm : cp ≤ maxLen) (hrp : Rd w w.heap.size Ap np lp) (hmc : nm ≤ cm) (hmm : cm ≤ maxLen) (hrm : Rd w w.heap.size Am nm lm) (hia : ia ≤ 255) (hby : iby ≤ 255) :
    Calls Try.prog 4 #[.agg (k.map u8v).toArray, .agg (nn.map u8v).toArray, .slice Ap np cp, .slice Am nm cm, .int .u8 (ia : Int), .int .u8 (iby : Int)] w fun e w' => e = .returned (.bool true) ∧ Below w.heap.size w w' := by
  obtain ⟨ck, hck⟩ : ∃ ck, (k.map u8v).toArray = ck := ⟨_, rfl⟩
  obtain ⟨cn, hcn⟩ : ∃ cn, (nn.map u8v).toArray = cn := ⟨_, rfl⟩
  have SC := HS k nn hk hn
  have OC := HO k nn hk hn
  rw [hck, hcn] at SC OC
  rw [hck, hcn]
  have h0 : Blk ((w.alloc (.cells ck 23)).alloc (.cells cn 25)) w.heap.size 23 (k.map u8v) := by rw [← hck]; exact (Blk.new w _ _).alloc _
  have h1 : Blk ((w.alloc (.cells ck 23)).alloc (.cells cn 25)) (w.heap.size + 1) 25 (nn.map u8v) := by rw [← hcn]; exact Blk.new' (w.alloc (.cells ck 23)) (by simp) _ _
  have h3 : Below w.heap.size w ((w.alloc (.cells ck 23)).alloc (.cells cn 25)) := ((Below.refl _ _).alloc (Nat.le_refl _) _).alloc (by simp) _
  have HP := Lib.hid (hrp.below h3)
  have HM := Lib.hid (hrm.below h3)
  have hw2 : ((w.alloc (.cells ck 23)).alloc (.cells cn 25)).heap.size = w.heap.size + 2 := by simp
  have HC := Lib.hid (And.intro hck hcn)
  have HL := Lib.hid (And.intro hk hn)
  have HSC := Lib.hid SC
  have HOC := Lib.hid OC
  have HBG := Lib.hid (begun_any HS)
  clear hck hcn hk hn SC OC HS HO hrp hrm
  go_enter Try.func4, Try.ntmps4
  go_upto_region 1 with fail
  generalize ((w.alloc (.cells ck 23)).alloc (.cells cn 25)) = w1 at h0 h1 h3 HP HM hw2 ⊢
  have hw0 := h3.size
  have H1 := Lib.hid (show Blk w1 w.heap.size 23 (k.map u8v) ∧ Blk w1 (w.heap.size + 1) 25 (nn.map u8v) ∧ Below w.heap.size w w1 from ⟨h0, h1, h3⟩)
  clear h0 h1 h3
  go_wp2_with fail
  refine (cut_any _ Ap np cp 150 lp hpc hpm _ HP.out).mono ?_
  rintro e w2 ⟨rfl, hp2, rfl⟩
  replace HP := Lib.hid hp2
  clear hp2
  go_wp2_with fail
  refine (cut_any _ Am nm cm 40 lm hmc hmm _ HM.out).mono ?_
  rintro e w2 ⟨rfl, hm2, rfl⟩
  replace HM := Lib.hid hm2
  clear hm2
  obtain ⟨pn, hpn⟩ : ∃ pn, min np 150 = pn := ⟨_, rfl⟩
  obtain ⟨mn, hmn⟩ : ∃ mn, min nm 40 = mn := ⟨_, rfl⟩
  have hp1 : pn ≤ cp := by omega
  have hp2 : pn ≤ 150 := by omega
  have hm1 : mn ≤ cm := by omega
  have hm2 : mn ≤ 40 := by omega
  rw [hpn] at HP ⊢
  rw [hmn] at HM ⊢
  clear hpn hmn
  generalize lp.take 150 = pl at HP
  generalize lm.take 40 = ml at HM
  have HPK := Lib.hid (fun (w' : World) (hb : Below w.heap.size w w') => ((HP.out.keep fun p hp => (hb.cell hp).trans (H1.out.2.2.cell hp).symm : Rd w' w.heap.size Ap pn pl)).mono hb.size)
  have HMK := Lib.hid (fun (w' : World) (hb : Below w.heap.size w w') => ((HM.out.keep fun p hp => (hb.cell hp).trans (H1.out.2.2.cell hp).symm : Rd w' w.heap.size Am mn ml)).mono hb.size)
  have HPL := Lib.hid HP.out.1
  clear HP HM
  go_wp2_with (first | (refine wpList_load_blk rfl 23 (.tmp 6) rfl w.heap.size rfl 23 (k.map u8v) H1.out.1 32 5 Try.underlying23 (cells32 k HL.out.1) ?_; rw [HC.out.1]) | (refine wpList_load_blk rfl 25 (.tmp 7) rfl (w.heap.size + 1) rfl 25 (nn.map u8v) H1.out.2.1 12 5 Try.underlying25 (ae_cellsN nn HL.out.2) ?_; rw [HC.out.2]))
  refine (HSC.out Ap Am pn cp mn cm pl ml hp1 hpm hm1 hmm (by omega) (by omega) _ (HPK.out _ H1.out.2.2) (HMK.out _ H1.out.2.2)).mono ?_
  rintro e w3 ⟨A3, c3, rfl, ho3, hb3⟩
  replace H1 := Lib.hid (show Blk w3 w.heap.size 23 (k.map u8v) ∧ Blk w3 (w.heap.size + 1) 25 (nn.map u8v) ∧ Below w.heap.size w w3 from ⟨H1.out.1.below hb3 H1.out.1.lt, H1.out.2.1.below hb3 H1.out.2.1.lt, H1.out.2.2.trans (hb3.mono H1.out.2.2.size)⟩)
  have HO3 := Lib.hid (own_base ho3 (show w.heap.size + 2 ≤ w1.heap.size by omega))
  have hq3 := own_addr ho3
  obtain ⟨g3, rfl⟩ := hq3.2.2 (by omega)
  have hc3 := hq3.1
  have hc4 := hq3.2.1
  clear ho3 hb3 hq3
  go_wp2_with (first | (refine wpList_load_blk rfl 23 (.tmp 6) rfl w.heap.size rfl 23 (k.map u8v) H1.out.1 32 5 Try.underlying23 (cells32 k HL.out.1) ?_; rw [HC.out.1]) | (refine wpList_load_blk rfl 25 (.tmp 7) rfl (w.heap.size + 1) rfl 25 (nn.map u8v) H1.out.2.1 12 5 Try.underlying25 (ae_cellsN nn HL.out.2) ?_; rw [HC.out.2]))
  refine (HOC.out _ Am (pn + 16) c3 mn cm _ ml hc3 hc4 hm1 hmm (by omega) (by omega) _ (Rd.of_own HO3.out) (HMK.out _ H1.out.2.2)).mono ?_
  rintro e w4 ⟨A4, c4, he4, hr4, hq4, hq5, hb4⟩
  rw [open_seal] at he4 hr4 hq4
  rw [show ((pl, 0) : List UInt8 × Nat).1 = pl from rfl] at he4 hr4 hq4
  rw [show pl.length = pn from HPL.out] at he4 hr4 hq4
  subst he4
  replace H1 := Lib.hid (show Blk w4 w.heap.size 23 (k.map u8v) ∧ Blk w4 (w.heap.size + 1) 25 (nn.map u8v) ∧ Below w.heap.size w w4 from ⟨H1.out.1.below hb4 H1.out.1.lt, H1.out.2.1.below hb4 H1.out.2.1.lt, H1.out.2.2.trans (hb4.mono H1.out.2.2.size)⟩)
  replace HO3 := Lib.hid (own_below HO3.out hb4)
  have HR4 := Lib.hid hr4
  clear hr4 hb4
  have cvq : (convert 26 9 (.slice A4 pn c4)).run Try.prog w4 = .ok (.string ⟨pl.toArray⟩) w4 := ae_conv HR4.out c4
  have cvp : (convert 26 9 (.slice Ap pn cp)).run Try.prog w4 = .ok (.string ⟨pl.toArray⟩) w4 := ae_conv (HPK.out _ H1.out.2.2) cp
  have hw16 : IntKind.i64.wrap ((pn : Int) + 16) = (pn : Int) + 16 := IntWalk.i64_in _ (by omega)
  go_upto_region 6 with fail
  clear cvq cvp HR4 hw16 hq4 hq5
  obtain ⟨ix, hix⟩ : ∃ ix, ia % (pn + 16) = ix := ⟨_, rfl⟩
  have hixl : ix < pn + 16 := by rw [← hix]; exact Nat.mod_lt _ (by omega)
  have hmod : (ia : Int) % ((pn : Int) + 16) = (ix : Int) := by rw [← hix]; simp
  have bix : (ix : Int) < (pn : Int) + 16 := by omega
  obtain ⟨se, hse⟩ : ∃ se, sealL k nn pl ml = se := ⟨_, rfl⟩
  have hsel : se.length = pn + 16 := by rw [← hse, sealL_length, HPL.out]
  rw [hse] at HO3
  obtain ⟨yb, rfl⟩ : ∃ yb : UInt8, iby = yb.toNat := ⟨UInt8.ofNat iby, by rw [UInt8.toNat_ofNat', Nat.mod_eq_of_lt (by omega)]⟩
  have fx := HO3.out.cellAt ix (by omega)
  rw [map_u8v_getElem? se ix (by omega)] at fx
  have zx := HO3.out.frozenAt ix
  obtain ⟨xb, hxb⟩ : ∃ xb, se[ix]'(by omega) = xb := ⟨_, rfl⟩
  rw [hxb] at fx
  have hxor := ae_xor xb yb
  obtain ⟨zb, hzb⟩ : ∃ zb, xb ^^^ yb = zb := ⟨_, rfl⟩
  rw [hzb] at hxor
  obtain ⟨st, hst⟩ : ∃ st, se.set ix zb = st := ⟨_, rfl⟩
  have hstored := (HO3.out.stored ix (u8v zb)).1
  rw [← List.map_set, hst] at hstored
  have hg3 : w.heap.size + 2 ≤ g3 := (HO3.out.lt g3 rfl).1
  have H5 := Lib.hid (show (w4.setCell ⟨g3, ix, none⟩ (.int .u8 (zb.toNat : Int))).ownsRow (w.heap.size + 2) 5 1 (.slice (some ⟨g3, 0, none⟩) (pn + 16) c3) (pn + 16) (st.map u8v) ∧ Blk (w4.setCell ⟨g3, ix, none⟩ (.int .u8 (zb.toNat : Int))) w.heap.size 23 (k.map u8v) ∧ Blk (w4.setCell ⟨g3, ix, none⟩ (.int .u8 (zb.toNat : Int))) (w.heap.size + 1) 25 (nn.map u8v) ∧ Below w.heap.size w (w4.setCell ⟨g3, ix, none⟩ (.int .u8 (zb.toNat : Int))) from ⟨hstored, H1.out.1.far (by simp; omega) _, H1.out.2.1.far (by simp; omega) _, H1.out.2.2.setCell (by dsimp only; omega) _⟩)
  have hstl : st.length = pn + 16 := by rw [← hst, List.length_set]; exact hsel
  have hsame : yb = 0 → st = se := fun h0 => by
    subst h0
    rw [← hst, ← hzb, show xb ^^^ 0 = xb by simp, ← hxb, List.set_getElem_self]
  have HSE := Lib.hid (And.intro hse (And.intro hstl hsame))
  clear hse hxb hzb hst hstored hsame hstl hsel H1 HO3 hix hixl
  go_upto_region 7 with fail
  generalize w4.setCell ⟨g3, ix, none⟩ (.int .u8 (zb.toNat : Int)) = w5 at H5 ⊢
  clear fx zx hxor hmod bix
  have H1 := Lib.hid (show Blk w5 w.heap.size 23 (k.map u8v) ∧ Blk w5 (w.heap.size + 1) 25 (nn.map u8v) ∧ Below w.heap.size w w5 from ⟨H5.out.2.1, H5.out.2.2.1, H5.out.2.2.2⟩)
  have HO5 := Lib.hid H5.out.1
  clear H5
  go_wp2_with (first | (refine wpList_load_blk rfl 23 (.tmp 6) rfl w.heap.size rfl 23 (k.map u8v) H1.out.1 32 5 Try.underlying23 (cells32 k HL.out.1) ?_; rw [HC.out.1]) | (refine wpList_load_blk rfl 25 (.tmp 7) rfl (w.heap.size + 1) rfl 25 (nn.map u8v) H1.out.2.1 12 5 Try.underlying25 (ae_cellsN nn HL.out.2) ?_; rw [HC.out.2]))
  refine (HOC.out _ Am (pn + 16) c3 mn cm _ ml hc3 hc4 hm1 hmm (by omega) (by omega) _ (Rd.of_own HO5.out) (HMK.out _ H1.out.2.2)).mono ?_
  rintro e w6 ⟨A6, c6, rfl, hr6, hq6, hq7, hb6⟩
  replace H1 := Lib.hid (show Blk w6 w.heap.size 23 (k.map u8v) ∧ Blk w6 (w.heap.size + 1) 25 (nn.map u8v) ∧ Below w.heap.size w w6 from ⟨H1.out.1.below hb6 H1.out.1.lt, H1.out.2.1.below hb6 H1.out.2.1.lt, H1.out.2.2.trans (hb6.mono H1.out.2.2.size)⟩)
  replace HO5 := Lib.hid (own_below HO5.out hb6)
  have hcase := open_cases k nn st ml (by rw [HSE.out.2.1]; omega)
  have hback := seal_open k nn st ml
  have hzero : yb = 0 → (openL k nn st ml).2 = 0 := fun h0 => by rw [HSE.out.2.2 h0, ← HSE.out.1, open_seal]
  generalize openL k nn st ml = o at hr6 hq6 hcase hback hzero ⊢
  obtain ⟨r, f⟩ := o
  dsimp only at hr6 hq6 hcase hback hzero ⊢
  have HR6 := Lib.hid hr6
  clear hr6 hb6
  go_upto_region 8 with fail
  have HRO := Lib.hid (Rd.of_own HO5.out)
  clear HO5
  rcases hcase with ⟨rfl, rfl⟩ | rfl
  · have hy : ¬ yb = 0 := fun h0 => by have := hzero h0; omega
    have hby0 : ((yb.toNat : Int) != 0) = true := by
      have hy2 : ¬ yb.toNat = 0 := fun e => hy (by apply UInt8.toNat.inj; simpa using e)
      have hy3 : ¬ (yb.toNat : Int) = 0 := by omega
      exact bne_iff_ne.2 hy3
    clear hback hzero
    refine wp_region_held_drew (S := fun w' => Below w6.heap.size w6 w') (by kernel_rfl) ((Below.refl w6.heap.size w6).drew) (fun hHeld => ?_)
    refine take_first (v := ?_) 0 rfl (by kernel_rfl) (by kernel_rfl) (by kernel_rfl) (fun _ _ _ h => h) (Or.inl ⟨by rfl, ?_⟩) (by assumption) ?_
    rotate_left
    · (intro w hSw; (try dsimp only at hSw); go_simp; try with_reducible rfl)
    (try simp only [Act.put, List.setIfInBounds_toArray, List.set_cons_zero, List.set_cons_succ])
    refine take_first (v := ?_) 1 rfl (by kernel_rfl) (by kernel_rfl) (by kernel_rfl) (fun _ _ _ h => h) (Or.inl ⟨by rfl, ?_⟩) (by assumption) ?_
    rotate_left
    · (intro w hSw; (try dsimp only at hSw); go_simp; try with_reducible rfl)
    (try simp only [Act.put, List.setIfInBounds_toArray, List.set_cons_zero, List.set_cons_succ])
    refine take_first (v := ?_) 2 rfl (by kernel_rfl) (by kernel_rfl) (by kernel_rfl) (fun _ _ _ h => h) (Or.inl ⟨by rfl, ?_⟩) (by assumption) ?_
    rotate_left
    · (intro w hSw; (try dsimp only at hSw); go_simp; try with_reducible rfl)
    (try simp only [Act.put, List.setIfInBounds_toArray, List.set_cons_zero, List.set_cons_succ])
    refine take_first (v := ?_) 3 rfl (by kernel_rfl) (by kernel_rfl) (by kernel_rfl) (fun _ _ _ h => h) (Or.inl ⟨by rfl, ?_⟩) (by assumption) ?_
    rotate_left
    · (intro w hSw; (try dsimp only at hSw); go_simp; try with_reducible rfl)
    (try simp only [Act.put, List.setIfInBounds_toArray, List.set_cons_zero, List.set_cons_succ])
    refine take_first (v := ?_) 4 rfl (by kernel_rfl) (by kernel_rfl) (by kernel_rfl) (fun _ _ _ h => h) (Or.inl ⟨by rfl, ?_⟩) (by assumption) ?_
    rotate_left
    · (intro w hSw; (try dsimp only at hSw); go_simp; try with_reducible rfl)
    (try simp only [Act.put, List.setIfInBounds_toArray, List.set_cons_zero, List.set_cons_succ])
    refine take_first (v := ?_) 5 rfl (by kernel_rfl) (by kernel_rfl) (by kernel_rfl) (fun _ _ _ h => h) (Or.inl ⟨by rfl, ?_⟩) (by assumption) ?_
    rotate_left
    · (intro w hSw; (try dsimp only at hSw); go_simp; try with_reducible rfl)
    (try simp only [Act.put, List.setIfInBounds_toArray, List.set_cons_zero, List.set_cons_succ])
    refine take_first (v := ?_) 6 rfl (by kernel_rfl) (by kernel_rfl) (by kernel_rfl) (fun _ _ _ h => h) (Or.inl ⟨by rfl, ?_⟩) (by assumption) ?_
    rotate_left
    · (intro w hSw; (try dsimp only at hSw); go_simp; try with_reducible rfl)
    (try simp only [Act.put, List.setIfInBounds_toArray, List.set_cons_zero, List.set_cons_succ])
    refine take_first (v := ?_) 7 rfl (by kernel_rfl) (by kernel_rfl) (by kernel_rfl) (fun _ _ _ h => h) (Or.inl ⟨by rfl, ?_⟩) (by assumption) ?_
    rotate_left
    · (intro w hSw; (try dsimp only at hSw); go_simp; try with_reducible rfl)
    (try simp only [Act.put, List.setIfInBounds_toArray, List.set_cons_zero, List.set_cons_succ])
    refine take_first (v := undef) 8 rfl (by kernel_rfl) (by kernel_rfl) (by kernel_rfl) (fun _ _ _ h => h) (Or.inr ⟨by rfl, rfl⟩) (by assumption) ?_
    (try simp only [Act.put, List.setIfInBounds_toArray, List.set_cons_zero, List.set_cons_succ])
    refine take_first (v := undef) 9 rfl (by kernel_rfl) (by kernel_rfl) (by kernel_rfl) (fun _ _ _ h => h) (Or.inr ⟨by rfl, rfl⟩) (by assumption) ?_
    (try simp only [Act.put, List.setIfInBounds_toArray, List.set_cons_zero, List.set_cons_succ])
    refine take_first (v := undef) 10 rfl (by kernel_rfl) (by kernel_rfl) (by kernel_rfl) (fun _ _ _ h => h) (Or.inr ⟨by rfl, rfl⟩) (by assumption) ?_
    (try simp only [Act.put, List.setIfInBounds_toArray, List.set_cons_zero, List.set_cons_succ])
    refine take_first (v := undef) 11 rfl (by kernel_rfl) (by kernel_rfl) (by kernel_rfl) (fun _ _ _ h => h) (Or.inr ⟨by rfl, rfl⟩) (by assumption) ?_
    (try simp only [Act.put, List.setIfInBounds_toArray, List.set_cons_zero, List.set_cons_succ])
    refine take_first (v := undef) 12 rfl (by kernel_rfl) (by kernel_rfl) (by kernel_rfl) (fun _ _ _ h => h) (Or.inr ⟨by rfl, rfl⟩) (by assumption) ?_
    (try simp only [Act.put, List.setIfInBounds_toArray, List.set_cons_zero, List.set_cons_succ])
    refine take_first (v := undef) 13 rfl (by kernel_rfl) (by kernel_rfl) (by kernel_rfl) (fun _ _ _ h => h) (Or.inr ⟨by rfl, rfl⟩) (by assumption) ?_
    (try simp only [Act.put, List.setIfInBounds_toArray, List.set_cons_zero, List.set_cons_succ])
    refine take_first (v := undef) 14 rfl (by kernel_rfl) (by kernel_rfl) (by kernel_rfl) (fun _ _ _ h => h) (Or.inr ⟨by rfl, rfl⟩) (by assumption) ?_
    (try simp only [Act.put, List.setIfInBounds_toArray, List.set_cons_zero, List.set_cons_succ])
    refine take_first (v := undef) 15 rfl (by kernel_rfl) (by kernel_rfl) (by kernel_rfl) (fun _ _ _ h => h) (Or.inr ⟨by rfl, rfl⟩) (by assumption) ?_
    (try simp only [Act.put, List.setIfInBounds_toArray, List.set_cons_zero, List.set_cons_succ])
    refine take_first (v := undef) 16 rfl (by kernel_rfl) (by kernel_rfl) (by kernel_rfl) (fun _ _ _ h => h) (Or.inr ⟨by rfl, rfl⟩) (by assumption) ?_
    (try simp only [Act.put, List.setIfInBounds_toArray, List.set_cons_zero, List.set_cons_succ])
    refine take_first (v := undef) 17 rfl (by kernel_rfl) (by kernel_rfl) (by kernel_rfl) (fun _ _ _ h => h) (Or.inr ⟨by rfl, rfl⟩) (by assumption) ?_
    (try simp only [Act.put, List.setIfInBounds_toArray, List.set_cons_zero, List.set_cons_succ])
    refine take_first (v := undef) 18 rfl (by kernel_rfl) (by kernel_rfl) (by kernel_rfl) (fun _ _ _ h => h) (Or.inr ⟨by rfl, rfl⟩) (by assumption) ?_
    (try simp only [Act.put, List.setIfInBounds_toArray, List.set_cons_zero, List.set_cons_succ])
    refine take_first (v := undef) 19 rfl (by kernel_rfl) (by kernel_rfl) (by kernel_rfl) (fun _ _ _ h => h) (Or.inr ⟨by rfl, rfl⟩) (by assumption) ?_
    (try simp only [Act.put, List.setIfInBounds_toArray, List.set_cons_zero, List.set_cons_succ])
    refine take_first (v := undef) 20 rfl (by kernel_rfl) (by kernel_rfl) (by kernel_rfl) (fun _ _ _ h => h) (Or.inr ⟨by rfl, rfl⟩) (by assumption) ?_
    (try simp only [Act.put, List.setIfInBounds_toArray, List.set_cons_zero, List.set_cons_succ])
    refine take_first (v := ?_) 21 rfl (by kernel_rfl) (by kernel_rfl) (by kernel_rfl) (fun _ _ _ h => h) (Or.inl ⟨by rfl, ?_⟩) (by assumption) ?_
    rotate_left
    · (intro w hSw; (try dsimp only at hSw); go_simp; try with_reducible rfl)
    (try simp only [Act.put, List.setIfInBounds_toArray, List.set_cons_zero, List.set_cons_succ])
    refine take_first (v := ?_) 22 rfl (by kernel_rfl) (by kernel_rfl) (by kernel_rfl) (fun _ _ _ h => h) (Or.inl ⟨by rfl, ?_⟩) (by assumption) ?_
    rotate_left
    · (intro w hSw; (try dsimp only at hSw); go_simp; try with_reducible rfl)
    (try simp only [Act.put, List.setIfInBounds_toArray, List.set_cons_zero, List.set_cons_succ])
    refine take_first (v := ?_) 23 rfl (by kernel_rfl) (by kernel_rfl) (by kernel_rfl) (fun _ _ _ h => h) (Or.inl ⟨by rfl, ?_⟩) (by assumption) ?_
    rotate_left
    · (intro w hSw; (try dsimp only at hSw); go_simp; try with_reducible rfl)
    (try simp only [Act.put, List.setIfInBounds_toArray, List.set_cons_zero, List.set_cons_succ])
    refine take_first (v := ?_) 24 rfl (by kernel_rfl) (by kernel_rfl) (by kernel_rfl) (fun _ _ _ h => h) (Or.inl ⟨by rfl, ?_⟩) (by assumption) ?_
    rotate_left
    · (intro w hSw; (try dsimp only at hSw); go_simp; try with_reducible rfl)
    (try simp only [Act.put, List.setIfInBounds_toArray, List.set_cons_zero, List.set_cons_succ])
    refine take_first (v := ?_) 25 rfl (by kernel_rfl) (by kernel_rfl) (by kernel_rfl) (fun _ _ _ h => h) (Or.inl ⟨by rfl, ?_⟩) (by assumption) ?_
    rotate_left
    · (intro w hSw; (try dsimp only at hSw); go_simp; try with_reducible rfl)
    (try simp only [Act.put, List.setIfInBounds_toArray, List.set_cons_zero, List.set_cons_succ])
    refine take_first (v := undef) 26 rfl (by kernel_rfl) (by kernel_rfl) (by kernel_rfl) (fun _ _ _ h => h) (Or.inr ⟨by rfl, rfl⟩) (by assumption) ?_
    (try simp only [Act.put, List.setIfInBounds_toArray, List.set_cons_zero, List.set_cons_succ])
    refine take_first (v := undef) 27 rfl (by kernel_rfl) (by kernel_rfl) (by kernel_rfl) (fun _ _ _ h => h) (Or.inr ⟨by rfl, rfl⟩) (by assumption) ?_
    (try simp only [Act.put, List.setIfInBounds_toArray, List.set_cons_zero, List.set_cons_succ])
    refine take_first (v := ?_) 28 rfl (by kernel_rfl) (by kernel_rfl) (by kernel_rfl) (fun _ _ _ h => h) (Or.inl ⟨by rfl, ?_⟩) (by assumption) ?_
    rotate_left
    · (intro w hSw; (try dsimp only at hSw); go_simp; try with_reducible rfl)
    (try simp only [Act.put, List.setIfInBounds_toArray, List.set_cons_zero, List.set_cons_succ])
    refine take_first (v := ?_) 29 rfl (by kernel_rfl) (by kernel_rfl) (by kernel_rfl) (fun _ _ _ h => h) (Or.inl ⟨by rfl, ?_⟩) (by assumption) ?_
    rotate_left
    · (intro w hSw; (try dsimp only at hSw); go_simp; try with_reducible rfl)
    (try simp only [Act.put, List.setIfInBounds_toArray, List.set_cons_zero, List.set_cons_succ])
    refine take_first (v := ?_) 30 rfl (by kernel_rfl) (by kernel_rfl) (by kernel_rfl) (fun _ _ _ h => h) (Or.inl ⟨by rfl, ?_⟩) (by assumption) ?_
    rotate_left
    · (intro w hSw; (try dsimp only at hSw); go_simp; try with_reducible rfl)
    (try simp only [Act.put, List.setIfInBounds_toArray, List.set_cons_zero, List.set_cons_succ])
    refine step_one 31 rfl (by kernel_rfl) (fun K hK => ?_)
    go_simp
    refine (HBG.out _).mono ?_
    rintro e wC ⟨rfl, hbC⟩
    go_wp2_with fail
    refine hK.out _ _ (hHeld.trans (hbC.mono hHeld.size)) (fun hHeld => ?_)
    clear hK K
    (try simp only [Act.put, List.setIfInBounds_toArray, List.set_cons_zero, List.set_cons_succ])
    refine take_first (v := ?_) 32 rfl (by kernel_rfl) (by kernel_rfl) (by kernel_rfl) (fun _ _ _ h => h) (Or.inl ⟨by rfl, ?_⟩) (by assumption) ?_
    rotate_left
    · (intro w hSw; (try dsimp only at hSw); go_simp; try with_reducible rfl)
    (try simp only [Act.put, List.setIfInBounds_toArray, List.set_cons_zero, List.set_cons_succ])
    refine take_first (v := ?_) 33 rfl (by kernel_rfl) (by kernel_rfl) (by kernel_rfl) (fun _ _ _ h => h) (Or.inl ⟨by rfl, ?_⟩) (by assumption) ?_
    rotate_left
    · (intro w hSw; (try dsimp only at hSw); go_simp; try with_reducible rfl)
    (try simp only [Act.put, List.setIfInBounds_toArray, List.set_cons_zero, List.set_cons_succ])
    refine wpAnyH_done (by kernel_rfl) ?_ _
    have HF := Lib.hid (H1.out.2.2.trans (hHeld.mono H1.out.2.2.size))
    clear hHeld hby0
    go_wp2_with fail
    go_ret
    exact ⟨rfl, HF.out⟩
  · have hb7 := hback rfl
    have hrl : r.length = pn := by
      have h := congrArg List.length hb7
      rw [sealL_length, HSE.out.2.1] at h
      omega
    have HB7 := Lib.hid hb7
    clear hback hzero hb7
    rw [hrl] at HR6 hq6 ⊢
    have cvs : ∀ w' : World, Below w6.heap.size w6 w' → (convert 26 9 (.slice (some ⟨g3, 0, none⟩) (pn + 16) c3)).run Try.prog w' = .ok (.string ⟨st.toArray⟩) w' := fun w' hb => ae_conv (HRO.out.below hb) c3
    by_cases hy : yb = 0
    · have hby0 : ((yb.toNat : Int) != 0) = false := by subst hy; rfl
      refine wp_region_held_drew (S := fun w' => Below w6.heap.size w6 w') (by kernel_rfl) ((Below.refl w6.heap.size w6).drew) (fun hHeld => ?_)
      refine take_first (v := ?_) 0 rfl (by kernel_rfl) (by kernel_rfl) (by kernel_rfl) (fun _ _ _ h => h) (Or.inl ⟨by rfl, ?_⟩) (by assumption) ?_
      rotate_left
      · (intro w hSw; (try dsimp only at hSw); go_simp; try with_reducible rfl)
      (try simp only [Act.put, List.setIfInBounds_toArray, List.set_cons_zero, List.set_cons_succ])
      refine take_first (v := ?_) 1 rfl (by kernel_rfl) (by kernel_rfl) (by kernel_rfl) (fun _ _ _ h => h) (Or.inl ⟨by rfl, ?_⟩) (by assumption) ?_
      rotate_left
      · (intro w hSw; (try dsimp only at hSw); go_simp; try with_reducible rfl)
      (try simp only [Act.put, List.setIfInBounds_toArray, List.set_cons_zero, List.set_cons_succ])
      refine take_first (v := ?_) 2 rfl (by kernel_rfl) (by kernel_rfl) (by kernel_rfl) (fun _ _ _ h => h) (Or.inl ⟨by rfl, ?_⟩) (by assumption) ?_
      rotate_left
      · (intro w hSw; (try dsimp only at hSw); go_simp; try with_reducible rfl)
      (try simp only [Act.put, List.setIfInBounds_toArray, List.set_cons_zero, List.set_cons_succ])
      refine take_first (v := undef) 3 rfl (by kernel_rfl) (by kernel_rfl) (by kernel_rfl) (fun _ _ _ h => h) (Or.inr ⟨by rfl, rfl⟩) (by assumption) ?_
      (try simp only [Act.put, List.setIfInBounds_toArray, List.set_cons_zero, List.set_cons_succ])
      refine take_first (v := undef) 4 rfl (by kernel_rfl) (by kernel_rfl) (by kernel_rfl) (fun _ _ _ h => h) (Or.inr ⟨by rfl, rfl⟩) (by assumption) ?_
      (try simp only [Act.put, List.setIfInBounds_toArray, List.set_cons_zero, List.set_cons_succ])
      refine take_first (v := undef) 5 rfl (by kernel_rfl) (by kernel_rfl) (by kernel_rfl) (fun _ _ _ h => h) (Or.inr ⟨by rfl, rfl⟩) (by assumption) ?_
      (try simp only [Act.put, List.setIfInBounds_toArray, List.set_cons_zero, List.set_cons_succ])
      refine take_first (v := ?_) 6 rfl (by kernel_rfl) (by kernel_rfl) (by kernel_rfl) (fun _ _ _ h => h) (Or.inl ⟨by rfl, ?_⟩) (by assumption) ?_
      rotate_left
      · (intro w hSw; (try dsimp only at hSw); go_simp; try with_reducible rfl)
      (try simp only [Act.put, List.setIfInBounds_toArray, List.set_cons_zero, List.set_cons_succ])
      refine take_first (v := ?_) 7 rfl (by kernel_rfl) (by kernel_rfl) (by kernel_rfl) (fun _ _ _ h => h) (Or.inl ⟨by rfl, ?_⟩) (by assumption) ?_
      rotate_left
      · (intro w hSw; (try dsimp only at hSw); go_simp; try with_reducible rfl)
      (try simp only [Act.put, List.setIfInBounds_toArray, List.set_cons_zero, List.set_cons_succ])
      refine take_first (v := ?_) 8 rfl (by kernel_rfl) (by kernel_rfl) (by kernel_rfl) (fun _ _ _ h => h) (Or.inl ⟨by rfl, ?_⟩) (by assumption) ?_
      rotate_left
      · (intro w hSw; (try dsimp only at hSw); go_simp; try with_reducible rfl)
      (try simp only [Act.put, List.setIfInBounds_toArray, List.set_cons_zero, List.set_cons_succ])
      refine take_first (v := ?_) 9 rfl (by kernel_rfl) (by kernel_rfl) (by kernel_rfl) (fun _ _ _ h => h) (Or.inl ⟨by rfl, ?_⟩) (by assumption) ?_
      rotate_left
      · (intro w hSw; (try dsimp only at hSw); go_simp; try with_reducible rfl)
      (try simp only [Act.put, List.setIfInBounds_toArray, List.set_cons_zero, List.set_cons_succ])
      refine take_first (v := ?_) 10 rfl (by kernel_rfl) (by kernel_rfl) (by kernel_rfl) (fun _ _ _ h => h) (Or.inl ⟨by rfl, ?_⟩) (by assumption) ?_
      rotate_left
      · (intro w hSw; (try dsimp only at hSw); go_simp; try with_reducible rfl)
      (try simp only [Act.put, List.setIfInBounds_toArray, List.set_cons_zero, List.set_cons_succ])
      refine take_first (v := .agg ck) 11 rfl (by kernel_rfl) (by kernel_rfl) (by kernel_rfl) (fun _ _ _ h => h) (by rw [← HC.out.1]; exact yields_load_blk (by rfl) 23 (.tmp 6) rfl w.heap.size rfl 23 (k.map u8v) (fun w' hb => H1.out.1.below hb H1.out.1.lt) 32 5 Try.underlying23 (cells32 k HL.out.1)) (by assumption) ?_
      (try simp only [Act.put, List.setIfInBounds_toArray, List.set_cons_zero, List.set_cons_succ])
      refine take_first (v := .agg cn) 12 rfl (by kernel_rfl) (by kernel_rfl) (by kernel_rfl) (fun _ _ _ h => h) (by rw [← HC.out.2]; exact yields_load_blk (by rfl) 25 (.tmp 7) rfl (w.heap.size + 1) rfl 25 (nn.map u8v) (fun w' hb => H1.out.2.1.below hb H1.out.2.1.lt) 12 5 Try.underlying25 (ae_cellsN nn HL.out.2)) (by assumption) ?_
      (try simp only [Act.put, List.setIfInBounds_toArray, List.set_cons_zero, List.set_cons_succ])
      refine take_first (v := ?_) 13 rfl (by kernel_rfl) (by kernel_rfl) (by kernel_rfl) (fun _ _ _ h => h) (Or.inl ⟨by rfl, ?_⟩) (by assumption) ?_
      rotate_left
      · (intro w hSw; (try dsimp only at hSw); go_simp; try with_reducible rfl)
      (try simp only [Act.put, List.setIfInBounds_toArray, List.set_cons_zero, List.set_cons_succ])
      refine take_first (v := ?_) 14 rfl (by kernel_rfl) (by kernel_rfl) (by kernel_rfl) (fun _ _ _ h => h) (Or.inl ⟨by rfl, ?_⟩) (by assumption) ?_
      rotate_left
      · (intro w hSw; (try dsimp only at hSw); go_simp; try with_reducible rfl)
      (try simp only [Act.put, List.setIfInBounds_toArray, List.set_cons_zero, List.set_cons_succ])
      refine take_first (v := ?_) 17 rfl (by kernel_rfl) (by kernel_rfl) (by kernel_rfl) (fun _ _ _ h => h) (Or.inl ⟨by rfl, ?_⟩) (by assumption) ?_
      rotate_left
      · (intro w hSw; (try dsimp only at hSw); go_simp; try with_reducible rfl)
      (try simp only [Act.put, List.setIfInBounds_toArray, List.set_cons_zero, List.set_cons_succ])
      refine take_first (v := ?_) 18 rfl (by kernel_rfl) (by kernel_rfl) (by kernel_rfl) (fun _ _ _ h => h) (Or.inl ⟨by rfl, ?_⟩) (by assumption) ?_
      rotate_left
      · (intro w hSw; (try dsimp only at hSw); go_simp; try with_reducible rfl)
      (try simp only [Act.put, List.setIfInBounds_toArray, List.set_cons_zero, List.set_cons_succ])
      refine step_one 15 rfl (by kernel_rfl) (fun K hK => ?_)
      go_simp
      refine (HSC.out A6 Am pn c6 mn cm r ml hq6 hq7 hm1 hmm (by omega) (by omega) _ ((HR6.out.below hHeld).mono hHeld.size) (HMK.out _ (H1.out.2.2.trans (hHeld.mono H1.out.2.2.size)))).mono ?_
      rintro e w7 ⟨A7, c7, rfl, ho7, hb7⟩
      go_wp2_with fail
      refine hK.out _ _ (hHeld.trans (hb7.mono hHeld.size)) (fun hHeld => ?_)
      clear hK K
      (try simp only [Act.put, List.setIfInBounds_toArray, List.set_cons_zero, List.set_cons_succ])
      have HEND := Lib.hid (H1.out.2.2.trans (hHeld.mono H1.out.2.2.size))
      have hr7 := Rd.of_own ho7
      rw [HB7.out] at hr7
      have HR7 := Lib.hid hr7
      replace cvs : ∀ w' : World, Below w7.heap.size w7 w' → (convert 26 9 (.slice (some ⟨g3, 0, none⟩) (pn + 16) c3)).run Try.prog w' = .ok (.string ⟨st.toArray⟩) w' := fun w' hb => ae_conv (HRO.out.below (hHeld.trans (hb.mono hHeld.size))) c3
      have cvr : ∀ w' : World, Below w7.heap.size w7 w' → (convert 26 9 (.slice A7 (pn + 16) c7)).run Try.prog w' = .ok (.string ⟨st.toArray⟩) w' := fun w' hb => ae_conv (HR7.out.below hb) c7
      refine wpAnyH_later hHeld ?_
      replace hHeld := Below.refl w7.heap.size w7
      clear ho7 hb7 hr7
      refine take_first (v := ?_) 16 rfl (by kernel_rfl) (by kernel_rfl) (by kernel_rfl) (fun _ _ _ h => h) (Or.inl ⟨by rfl, ?_⟩) (by assumption) ?_
      rotate_left
      · (intro w hSw; (try dsimp only at hSw); go_simp; try with_reducible rfl)
      (try simp only [Act.put, List.setIfInBounds_toArray, List.set_cons_zero, List.set_cons_succ])
      refine take_first (v := ?_) 19 rfl (by kernel_rfl) (by kernel_rfl) (by kernel_rfl) (fun _ _ _ h => h) (Or.inl ⟨by rfl, ?_⟩) (by assumption) ?_
      rotate_left
      · (intro w hSw; (try dsimp only at hSw); go_simp; try with_reducible rfl)
      (try simp only [Act.put, List.setIfInBounds_toArray, List.set_cons_zero, List.set_cons_succ])
      refine take_first (v := ?_) 20 rfl (by kernel_rfl) (by kernel_rfl) (by kernel_rfl) (fun _ _ _ h => h) (Or.inl ⟨by rfl, ?_⟩) (by assumption) ?_
      rotate_left
      · (intro w hSw; (try dsimp only at hSw); go_simp; try with_reducible rfl)
      (try simp only [Act.put, List.setIfInBounds_toArray, List.set_cons_zero, List.set_cons_succ])
      refine take_first (v := ?_) 21 rfl (by kernel_rfl) (by kernel_rfl) (by kernel_rfl) (fun _ _ _ h => h) (Or.inl ⟨by rfl, ?_⟩) (by assumption) ?_
      rotate_left
      · (intro w hSw; (try dsimp only at hSw); go_simp; try with_reducible rfl)
      (try simp only [Act.put, List.setIfInBounds_toArray, List.set_cons_zero, List.set_cons_succ])
      refine take_first (v := ?_) 22 rfl (by kernel_rfl) (by kernel_rfl) (by kernel_rfl) (fun _ _ _ h => h) (Or.inl ⟨by rfl, ?_⟩) (by assumption) ?_
      rotate_left
      · (intro w hSw; (try dsimp only at hSw); go_simp; try with_reducible rfl)
      (try simp only [Act.put, List.setIfInBounds_toArray, List.set_cons_zero, List.set_cons_succ])
      refine take_first (v := ?_) 23 rfl (by kernel_rfl) (by kernel_rfl) (by kernel_rfl) (fun _ _ _ h => h) (Or.inl ⟨by rfl, ?_⟩) (by assumption) ?_
      rotate_left
      · (intro w hSw; (try dsimp only at hSw); go_simp; try with_reducible rfl)
      (try simp only [Act.put, List.setIfInBounds_toArray, List.set_cons_zero, List.set_cons_succ])
      refine take_first (v := ?_) 24 rfl (by kernel_rfl) (by kernel_rfl) (by kernel_rfl) (fun _ _ _ h => h) (Or.inl ⟨by rfl, ?_⟩) (by assumption) ?_
      rotate_left
      · (intro w hSw; (try dsimp only at hSw); go_simp; try with_reducible rfl)
      (try simp only [Act.put, List.setIfInBounds_toArray, List.set_cons_zero, List.set_cons_succ])
      refine take_first (v := ?_) 25 rfl (by kernel_rfl) (by kernel_rfl) (by kernel_rfl) (fun _ _ _ h => h) (Or.inl ⟨by rfl, ?_⟩) (by assumption) ?_
      rotate_left
      · (intro w hSw; (try dsimp only at hSw); go_simp; try with_reducible rfl)
      (try simp only [Act.put, List.setIfInBounds_toArray, List.set_cons_zero, List.set_cons_succ])
      refine take_first (v := ?_) 26 rfl (by kernel_rfl) (by kernel_rfl) (by kernel_rfl) (fun _ _ _ h => h) (Or.inl ⟨by rfl, ?_⟩) (by assumption) ?_
      rotate_left
      · (intro w hSw; (try dsimp only at hSw); go_simp; try with_reducible rfl)
      (try simp only [Act.put, List.setIfInBounds_toArray, List.set_cons_zero, List.set_cons_succ])
      refine take_first (v := ?_) 27 rfl (by kernel_rfl) (by kernel_rfl) (by kernel_rfl) (fun _ _ _ h => h) (Or.inl ⟨by rfl, ?_⟩) (by assumption) ?_
      rotate_left
      · (intro w hSw; (try dsimp only at hSw); go_simp; try with_reducible rfl)
      (try simp only [Act.put, List.setIfInBounds_toArray, List.set_cons_zero, List.set_cons_succ])
      refine take_first (v := ?_) 28 rfl (by kernel_rfl) (by kernel_rfl) (by kernel_rfl) (fun _ _ _ h => h) (Or.inl ⟨by rfl, ?_⟩) (by assumption) ?_
      rotate_left
      · (intro w hSw; (try dsimp only at hSw); go_simp; try with_reducible rfl)
      (try simp only [Act.put, List.setIfInBounds_toArray, List.set_cons_zero, List.set_cons_succ])
      refine take_first (v := ?_) 29 rfl (by kernel_rfl) (by kernel_rfl) (by kernel_rfl) (fun _ _ _ h => h) (Or.inl ⟨by rfl, ?_⟩) (by assumption) ?_
      rotate_left
      · (intro w hSw; (try dsimp only at hSw); go_simp; try with_reducible rfl)
      (try simp only [Act.put, List.setIfInBounds_toArray, List.set_cons_zero, List.set_cons_succ])
      refine take_first (v := ?_) 30 rfl (by kernel_rfl) (by kernel_rfl) (by kernel_rfl) (fun _ _ _ h => h) (Or.inl ⟨by rfl, ?_⟩) (by assumption) ?_
      rotate_left
      · (intro w hSw; (try dsimp only at hSw); go_simp; try with_reducible rfl)
      (try simp only [Act.put, List.setIfInBounds_toArray, List.set_cons_zero, List.set_cons_succ])
      refine step_one 31 rfl (by kernel_rfl) (fun K hK => ?_)
      go_simp
      refine (HBG.out _).mono ?_
      rintro e wC ⟨rfl, hbC⟩
      go_wp2_with fail
      refine hK.out _ _ (hHeld.trans (hbC.mono hHeld.size)) (fun hHeld => ?_)
      clear hK K
      (try simp only [Act.put, List.setIfInBounds_toArray, List.set_cons_zero, List.set_cons_succ])
      refine take_first (v := ?_) 32 rfl (by kernel_rfl) (by kernel_rfl) (by kernel_rfl) (fun _ _ _ h => h) (Or.inl ⟨by rfl, ?_⟩) (by assumption) ?_
      rotate_left
      · (intro w hSw; (try dsimp only at hSw); go_simp; try with_reducible rfl)
      (try simp only [Act.put, List.setIfInBounds_toArray, List.set_cons_zero, List.set_cons_succ])
      refine take_first (v := ?_) 33 rfl (by kernel_rfl) (by kernel_rfl) (by kernel_rfl) (fun _ _ _ h => h) (Or.inl ⟨by rfl, ?_⟩) (by assumption) ?_
      rotate_left
      · (intro w hSw; (try dsimp only at hSw); go_simp; try with_reducible rfl)
      (try simp only [Act.put, List.setIfInBounds_toArray, List.set_cons_zero, List.set_cons_succ])
      refine wpAnyH_done (by kernel_rfl) ?_ _
      have HF := Lib.hid (HEND.out.trans (hHeld.mono HEND.out.size))
      clear hHeld hby0
      go_wp2_with fail
      go_ret
      exact ⟨rfl, HF.out⟩
    · have hby0 : ((yb.toNat : Int) != 0) = true := by
        have hy2 : ¬ yb.toNat = 0 := fun e => hy (by apply UInt8.toNat.inj; simpa using e)
        have hy3 : ¬ (yb.toNat : Int) = 0 := by omega
        exact bne_iff_ne.2 hy3
      refine wp_region_held_drew (S := fun w' => Below w6.heap.size w6 w') (by kernel_rfl) ((Below.refl w6.heap.size w6).drew) (fun hHeld => ?_)
      refine take_first (v := ?_) 0 rfl (by kernel_rfl) (by kernel_rfl) (by kernel_rfl) (fun _ _ _ h => h) (Or.inl ⟨by rfl, ?_⟩) (by assumption) ?_
      rotate_left
      · (intro w hSw; (try dsimp only at hSw); go_simp; try with_reducible rfl)
      (try simp only [Act.put, List.setIfInBounds_toArray, List.set_cons_zero, List.set_cons_succ])
      refine take_first (v := ?_) 1 rfl (by kernel_rfl) (by kernel_rfl) (by kernel_rfl) (fun _ _ _ h => h) (Or.inl ⟨by rfl, ?_⟩) (by assumption) ?_
      rotate_left
      · (intro w hSw; (try dsimp only at hSw); go_simp; try with_reducible rfl)
      (try simp only [Act.put, List.setIfInBounds_toArray, List.set_cons_zero, List.set_cons_succ])
      refine take_first (v := ?_) 2 rfl (by kernel_rfl) (by kernel_rfl) (by kernel_rfl) (fun _ _ _ h => h) (Or.inl ⟨by rfl, ?_⟩) (by assumption) ?_
      rotate_left
      · (intro w hSw; (try dsimp only at hSw); go_simp; try with_reducible rfl)
      (try simp only [Act.put, List.setIfInBounds_toArray, List.set_cons_zero, List.set_cons_succ])
      refine take_first (v := undef) 3 rfl (by kernel_rfl) (by kernel_rfl) (by kernel_rfl) (fun _ _ _ h => h) (Or.inr ⟨by rfl, rfl⟩) (by assumption) ?_
      (try simp only [Act.put, List.setIfInBounds_toArray, List.set_cons_zero, List.set_cons_succ])
      refine take_first (v := undef) 4 rfl (by kernel_rfl) (by kernel_rfl) (by kernel_rfl) (fun _ _ _ h => h) (Or.inr ⟨by rfl, rfl⟩) (by assumption) ?_
      (try simp only [Act.put, List.setIfInBounds_toArray, List.set_cons_zero, List.set_cons_succ])
      refine take_first (v := undef) 5 rfl (by kernel_rfl) (by kernel_rfl) (by kernel_rfl) (fun _ _ _ h => h) (Or.inr ⟨by rfl, rfl⟩) (by assumption) ?_
      (try simp only [Act.put, List.setIfInBounds_toArray, List.set_cons_zero, List.set_cons_succ])
      refine take_first (v := ?_) 6 rfl (by kernel_rfl) (by kernel_rfl) (by kernel_rfl) (fun _ _ _ h => h) (Or.inl ⟨by rfl, ?_⟩) (by assumption) ?_
      rotate_left
      · (intro w hSw; (try dsimp only at hSw); go_simp; try with_reducible rfl)
      (try simp only [Act.put, List.setIfInBounds_toArray, List.set_cons_zero, List.set_cons_succ])
      refine take_first (v := ?_) 7 rfl (by kernel_rfl) (by kernel_rfl) (by kernel_rfl) (fun _ _ _ h => h) (Or.inl ⟨by rfl, ?_⟩) (by assumption) ?_
      rotate_left
      · (intro w hSw; (try dsimp only at hSw); go_simp; try with_reducible rfl)
      (try simp only [Act.put, List.setIfInBounds_toArray, List.set_cons_zero, List.set_cons_succ])
      refine take_first (v := ?_) 8 rfl (by kernel_rfl) (by kernel_rfl) (by kernel_rfl) (fun _ _ _ h => h) (Or.inl ⟨by rfl, ?_⟩) (by assumption) ?_
      rotate_left
      · (intro w hSw; (try dsimp only at hSw); go_simp; try with_reducible rfl)
      (try simp only [Act.put, List.setIfInBounds_toArray, List.set_cons_zero, List.set_cons_succ])
      refine take_first (v := ?_) 9 rfl (by kernel_rfl) (by kernel_rfl) (by kernel_rfl) (fun _ _ _ h => h) (Or.inl ⟨by rfl, ?_⟩) (by assumption) ?_
      rotate_left
      · (intro w hSw; (try dsimp only at hSw); go_simp; try with_reducible rfl)
      (try simp only [Act.put, List.setIfInBounds_toArray, List.set_cons_zero, List.set_cons_succ])
      refine take_first (v := ?_) 10 rfl (by kernel_rfl) (by kernel_rfl) (by kernel_rfl) (fun _ _ _ h => h) (Or.inl ⟨by rfl, ?_⟩) (by assumption) ?_
      rotate_left
      · (intro w hSw; (try dsimp only at hSw); go_simp; try with_reducible rfl)
      (try simp only [Act.put, List.setIfInBounds_toArray, List.set_cons_zero, List.set_cons_succ])
      refine take_first (v := .agg ck) 11 rfl (by kernel_rfl) (by kernel_rfl) (by kernel_rfl) (fun _ _ _ h => h) (by rw [← HC.out.1]; exact yields_load_blk (by rfl) 23 (.tmp 6) rfl w.heap.size rfl 23 (k.map u8v) (fun w' hb => H1.out.1.below hb H1.out.1.lt) 32 5 Try.underlying23 (cells32 k HL.out.1)) (by assumption) ?_
      (try simp only [Act.put, List.setIfInBounds_toArray, List.set_cons_zero, List.set_cons_succ])
      refine take_first (v := .agg cn) 12 rfl (by kernel_rfl) (by kernel_rfl) (by kernel_rfl) (fun _ _ _ h => h) (by rw [← HC.out.2]; exact yields_load_blk (by rfl) 25 (.tmp 7) rfl (w.heap.size + 1) rfl 25 (nn.map u8v) (fun w' hb => H1.out.2.1.below hb H1.out.2.1.lt) 12 5 Try.underlying25 (ae_cellsN nn HL.out.2)) (by assumption) ?_
      (try simp only [Act.put, List.setIfInBounds_toArray, List.set_cons_zero, List.set_cons_succ])
      refine take_first (v := ?_) 13 rfl (by kernel_rfl) (by kernel_rfl) (by kernel_rfl) (fun _ _ _ h => h) (Or.inl ⟨by rfl, ?_⟩) (by assumption) ?_
      rotate_left
      · (intro w hSw; (try dsimp only at hSw); go_simp; try with_reducible rfl)
      (try simp only [Act.put, List.setIfInBounds_toArray, List.set_cons_zero, List.set_cons_succ])
      refine take_first (v := ?_) 14 rfl (by kernel_rfl) (by kernel_rfl) (by kernel_rfl) (fun _ _ _ h => h) (Or.inl ⟨by rfl, ?_⟩) (by assumption) ?_
      rotate_left
      · (intro w hSw; (try dsimp only at hSw); go_simp; try with_reducible rfl)
      (try simp only [Act.put, List.setIfInBounds_toArray, List.set_cons_zero, List.set_cons_succ])
      refine take_first (v := ?_) 17 rfl (by kernel_rfl) (by kernel_rfl) (by kernel_rfl) (fun _ _ _ h => h) (Or.inl ⟨by rfl, ?_⟩) (by assumption) ?_
      rotate_left
      · (intro w hSw; (try dsimp only at hSw); go_simp; try with_reducible rfl)
      (try simp only [Act.put, List.setIfInBounds_toArray, List.set_cons_zero, List.set_cons_succ])
      refine take_first (v := ?_) 18 rfl (by kernel_rfl) (by kernel_rfl) (by kernel_rfl) (fun _ _ _ h => h) (Or.inl ⟨by rfl, ?_⟩) (by assumption) ?_
      rotate_left
      · (intro w hSw; (try dsimp only at hSw); go_simp; try with_reducible rfl)
      (try simp only [Act.put, List.setIfInBounds_toArray, List.set_cons_zero, List.set_cons_succ])
      refine step_one 15 rfl (by kernel_rfl) (fun K hK => ?_)
      go_simp
      refine (HSC.out A6 Am pn c6 mn cm r ml hq6 hq7 hm1 hmm (by omega) (by omega) _ ((HR6.out.below hHeld).mono hHeld.size) (HMK.out _ (H1.out.2.2.trans (hHeld.mono H1.out.2.2.size)))).mono ?_
      rintro e w7 ⟨A7, c7, rfl, ho7, hb7⟩
      go_wp2_with fail
      refine hK.out _ _ (hHeld.trans (hb7.mono hHeld.size)) (fun hHeld => ?_)
      clear hK K
      (try simp only [Act.put, List.setIfInBounds_toArray, List.set_cons_zero, List.set_cons_succ])
      have HEND := Lib.hid (H1.out.2.2.trans (hHeld.mono H1.out.2.2.size))
      have hr7 := Rd.of_own ho7
      rw [HB7.out] at hr7
      have HR7 := Lib.hid hr7
      replace cvs : ∀ w' : World, Below w7.heap.size w7 w' → (convert 26 9 (.slice (some ⟨g3, 0, none⟩) (pn + 16) c3)).run Try.prog w' = .ok (.string ⟨st.toArray⟩) w' := fun w' hb => ae_conv (HRO.out.below (hHeld.trans (hb.mono hHeld.size))) c3
      have cvr : ∀ w' : World, Below w7.heap.size w7 w' → (convert 26 9 (.slice A7 (pn + 16) c7)).run Try.prog w' = .ok (.string ⟨st.toArray⟩) w' := fun w' hb => ae_conv (HR7.out.below hb) c7
      refine wpAnyH_later hHeld ?_
      replace hHeld := Below.refl w7.heap.size w7
      clear ho7 hb7 hr7
      refine take_first (v := ?_) 16 rfl (by kernel_rfl) (by kernel_rfl) (by kernel_rfl) (fun _ _ _ h => h) (Or.inl ⟨by rfl, ?_⟩) (by assumption) ?_
      rotate_left
      · (intro w hSw; (try dsimp only at hSw); go_simp; try with_reducible rfl)
      (try simp only [Act.put, List.setIfInBounds_toArray, List.set_cons_zero, List.set_cons_succ])
      refine take_first (v := ?_) 19 rfl (by kernel_rfl) (by kernel_rfl) (by kernel_rfl) (fun _ _ _ h => h) (Or.inl ⟨by rfl, ?_⟩) (by assumption) ?_
      rotate_left
      · (intro w hSw; (try dsimp only at hSw); go_simp; try with_reducible rfl)
      (try simp only [Act.put, List.setIfInBounds_toArray, List.set_cons_zero, List.set_cons_succ])
      refine take_first (v := ?_) 20 rfl (by kernel_rfl) (by kernel_rfl) (by kernel_rfl) (fun _ _ _ h => h) (Or.inl ⟨by rfl, ?_⟩) (by assumption) ?_
      rotate_left
      · (intro w hSw; (try dsimp only at hSw); go_simp; try with_reducible rfl)
      (try simp only [Act.put, List.setIfInBounds_toArray, List.set_cons_zero, List.set_cons_succ])
      refine take_first (v := ?_) 21 rfl (by kernel_rfl) (by kernel_rfl) (by kernel_rfl) (fun _ _ _ h => h) (Or.inl ⟨by rfl, ?_⟩) (by assumption) ?_
      rotate_left
      · (intro w hSw; (try dsimp only at hSw); go_simp; try with_reducible rfl)
      (try simp only [Act.put, List.setIfInBounds_toArray, List.set_cons_zero, List.set_cons_succ])
      refine take_first (v := ?_) 22 rfl (by kernel_rfl) (by kernel_rfl) (by kernel_rfl) (fun _ _ _ h => h) (Or.inl ⟨by rfl, ?_⟩) (by assumption) ?_
      rotate_left
      · (intro w hSw; (try dsimp only at hSw); go_simp; try with_reducible rfl)
      (try simp only [Act.put, List.setIfInBounds_toArray, List.set_cons_zero, List.set_cons_succ])
      refine take_first (v := ?_) 23 rfl (by kernel_rfl) (by kernel_rfl) (by kernel_rfl) (fun _ _ _ h => h) (Or.inl ⟨by rfl, ?_⟩) (by assumption) ?_
      rotate_left
      · (intro w hSw; (try dsimp only at hSw); go_simp; try with_reducible rfl)
      (try simp only [Act.put, List.setIfInBounds_toArray, List.set_cons_zero, List.set_cons_succ])
      refine take_first (v := ?_) 24 rfl (by kernel_rfl) (by kernel_rfl) (by kernel_rfl) (fun _ _ _ h => h) (Or.inl ⟨by rfl, ?_⟩) (by assumption) ?_
      rotate_left
      · (intro w hSw; (try dsimp only at hSw); go_simp; try with_reducible rfl)
      (try simp only [Act.put, List.setIfInBounds_toArray, List.set_cons_zero, List.set_cons_succ])
      refine take_first (v := ?_) 25 rfl (by kernel_rfl) (by kernel_rfl) (by kernel_rfl) (fun _ _ _ h => h) (Or.inl ⟨by rfl, ?_⟩) (by assumption) ?_
      rotate_left
      · (intro w hSw; (try dsimp only at hSw); go_simp; try with_reducible rfl)
      (try simp only [Act.put, List.setIfInBounds_toArray, List.set_cons_zero, List.set_cons_succ])
      refine take_first (v := undef) 26 rfl (by kernel_rfl) (by kernel_rfl) (by kernel_rfl) (fun _ _ _ h => h) (Or.inr ⟨by rfl, rfl⟩) (by assumption) ?_
      (try simp only [Act.put, List.setIfInBounds_toArray, List.set_cons_zero, List.set_cons_succ])
      refine take_first (v := undef) 27 rfl (by kernel_rfl) (by kernel_rfl) (by kernel_rfl) (fun _ _ _ h => h) (Or.inr ⟨by rfl, rfl⟩) (by assumption) ?_
      (try simp only [Act.put, List.setIfInBounds_toArray, List.set_cons_zero, List.set_cons_succ])
      refine take_first (v := ?_) 28 rfl (by kernel_rfl) (by kernel_rfl) (by kernel_rfl) (fun _ _ _ h => h) (Or.inl ⟨by rfl, ?_⟩) (by assumption) ?_
      rotate_left
      · (intro w hSw; (try dsimp only at hSw); go_simp; try with_reducible rfl)
      (try simp only [Act.put, List.setIfInBounds_toArray, List.set_cons_zero, List.set_cons_succ])
      refine take_first (v := ?_) 29 rfl (by kernel_rfl) (by kernel_rfl) (by kernel_rfl) (fun _ _ _ h => h) (Or.inl ⟨by rfl, ?_⟩) (by assumption) ?_
      rotate_left
      · (intro w hSw; (try dsimp only at hSw); go_simp; try with_reducible rfl)
      (try simp only [Act.put, List.setIfInBounds_toArray, List.set_cons_zero, List.set_cons_succ])
      refine take_first (v := ?_) 30 rfl (by kernel_rfl) (by kernel_rfl) (by kernel_rfl) (fun _ _ _ h => h) (Or.inl ⟨by rfl, ?_⟩) (by assumption) ?_
      rotate_left
      · (intro w hSw; (try dsimp only at hSw); go_simp; try with_reducible rfl)
      (try simp only [Act.put, List.setIfInBounds_toArray, List.set_cons_zero, List.set_cons_succ])
      refine step_one 31 rfl (by kernel_rfl) (fun K hK => ?_)
      go_simp
      refine (HBG.out _).mono ?_
      rintro e wC ⟨rfl, hbC⟩
      go_wp2_with fail
      refine hK.out _ _ (hHeld.trans (hbC.mono hHeld.size)) (fun hHeld => ?_)
      clear hK K
      (try simp only [Act.put, List.setIfInBounds_toArray, List.set_cons_zero, List.set_cons_succ])
      refine take_first (v := ?_) 32 rfl (by kernel_rfl) (by kernel_rfl) (by kernel_rfl) (fun _ _ _ h => h) (Or.inl ⟨by rfl, ?_⟩) (by assumption) ?_
      rotate_left
      · (intro w hSw; (try dsimp only at hSw); go_simp; try with_reducible rfl)
      (try simp only [Act.put, List.setIfInBounds_toArray, List.set_cons_zero, List.set_cons_succ])
      refine take_first (v := ?_) 33 rfl (by kernel_rfl) (by kernel_rfl) (by kernel_rfl) (fun _ _ _ h => h) (Or.inl ⟨by rfl, ?_⟩) (by assumption) ?_
      rotate_left
      · (intro w hSw; (try dsimp only at hSw); go_simp; try with_reducible rfl)
      (try simp only [Act.put, List.setIfInBounds_toArray, List.set_cons_zero, List.set_cons_succ])
      refine wpAnyH_done (by kernel_rfl) ?_ _
      have HF := Lib.hid (HEND.out.trans (hHeld.mono HEND.out.size))
      clear hHeld hby0
      go_wp2_with fail
      go_ret
      exact ⟨rfl, HF.out⟩
end Go.Proofs.Ytafkedeelngnnaa
