/-
  AeadSeals returns true for every key, nonce and data, and changes nothing that was there: the walk, over what is asked of aead.Seal and Open and of the reference's layers.
-/
import Derived.Test.YtafkedeelngnnaaAeReturns
import Derived.Test.YtafkedeelngnnaaAeRefSeal
namespace Go.Proofs.Ytafkedeelngnnaa
open Go.RowKit

set_option maxRecDepth 100000 in
set_option maxHeartbeats 8000000 in
theorem seals_walk (HS : SealC) (HO : OpenC) (HXC : RefXorC) (HBC : RefBlockC) (HPC : RefPolyC) (w : World) (k nn : List UInt8) (Ap : Option Addr) (np cp : Nat) (lp : List UInt8) (Am : Option Addr) (nm cm : Nat) (lm : List UInt8) (As : Option Addr) (ns cs : Nat) (ls : List UInt8) (ia iby : Nat) (hk : k.length = 32) (hn : nn.length = 12) (hpc : np ≤ cp) (hpm : cp ≤ maxLen) (hrp : Rd w w.heap.size Ap np lp) (hmc : nm ≤ cm) (hmm : cm ≤ maxLen) (hrm : Rd w w.heap.size Am nm lm) (hsc : ns ≤ cs) (hsm : cs ≤ maxLen) (hrs : Rd w w.heap.size As ns ls) (hia : ia ≤ 255) (hby : iby ≤ 255) :
    Calls Try.prog 3 #[.agg (k.map u8v).toArray, .agg (nn.map u8v).toArray, .slice Ap np cp, .slice Am nm cm, .slice As ns cs, .int .u8 (ia : Int), .int .u8 (iby : Int)] w fun e w' => e = .returned (.bool true) ∧ Below w.heap.size w w' := by
  obtain ⟨i0, hi, hz0, hz1, hz2⟩ := info_parts Try.info5
  obtain ⟨ck, hck⟩ : ∃ ck, (k.map u8v).toArray = ck := ⟨_, rfl⟩
  obtain ⟨cn, hcn⟩ : ∃ cn, (nn.map u8v).toArray = cn := ⟨_, rfl⟩
  have SC := HS k nn hk hn
  have OC := HO k nn hk hn
  have RS := refSeal_any HXC HBC HPC k nn hk hn
  have RO := refOpen_any HXC HBC HPC k nn hk hn
  rw [hck, hcn] at SC OC RS RO
  rw [hck, hcn]
  have h0 : Blk ((w.alloc (.cells ck 23)).alloc (.cells cn 25)) w.heap.size 23 (k.map u8v) := by rw [← hck]; exact (Blk.new w _ _).alloc _
  have h1 : Blk ((w.alloc (.cells ck 23)).alloc (.cells cn 25)) (w.heap.size + 1) 25 (nn.map u8v) := by rw [← hcn]; exact Blk.new' (w.alloc (.cells ck 23)) (by simp) _ _
  have h3 : Below w.heap.size w ((w.alloc (.cells ck 23)).alloc (.cells cn 25)) := ((Below.refl _ _).alloc (Nat.le_refl _) _).alloc (by simp) _
  have HP := Lib.hid (hrp.below h3)
  have HM := Lib.hid (hrm.below h3)
  have HZ := Lib.hid (hrs.below h3)
  have hw2 : ((w.alloc (.cells ck 23)).alloc (.cells cn 25)).heap.size = w.heap.size + 2 := by simp
  have HC := Lib.hid (And.intro hck hcn)
  have HL := Lib.hid (And.intro hk hn)
  have HSC := Lib.hid SC
  have HOC := Lib.hid OC
  have HRS := Lib.hid RS
  have HRO := Lib.hid RO
  have HBG := Lib.hid (begun_any HS)
  clear hck hcn hk hn SC OC RS RO HS HO HXC HBC HPC hrp hrm hrs
  go_enter Try.func3, Try.ntmps3
  go_upto_region 1 with fail
  generalize ((w.alloc (.cells ck 23)).alloc (.cells cn 25)) = w1 at h0 h1 h3 HP HM HZ hw2 ⊢
  have H1 := Lib.hid (show Blk w1 w.heap.size 23 (k.map u8v) ∧ Blk w1 (w.heap.size + 1) 25 (nn.map u8v) ∧ Below w.heap.size w w1 from ⟨h0, h1, h3⟩)
  clear h0 h1 h3
  go_wp2_with fail
  refine (cut_any _ Ap np cp 150 lp hpc hpm _ HP.out).mono ?_
  rintro e w2 ⟨rfl, hp2, rfl⟩
  replace HP := Lib.hid hp2
  clear hp2
  go_wp2_with fail
  refine (cut_any _ Am nm cm 40 lm hmc hmm _ HM.out).mono ?_
  rintro e w2 ⟨rfl, hm2, rfl⟩
  replace HM := Lib.hid hm2
  clear hm2
  go_wp2_with fail
  refine (cut_any _ As ns cs 60 ls hsc hsm _ HZ.out).mono ?_
  rintro e w2 ⟨rfl, hs2, rfl⟩
  replace HZ := Lib.hid hs2
  clear hs2
  obtain ⟨pn, hpn⟩ : ∃ pn, min np 150 = pn := ⟨_, rfl⟩
  obtain ⟨mn, hmn⟩ : ∃ mn, min nm 40 = mn := ⟨_, rfl⟩
  obtain ⟨sn, hsn⟩ : ∃ sn, min ns 60 = sn := ⟨_, rfl⟩
  have hp1 : pn ≤ cp := by omega
  have hp2 : pn ≤ 150 := by omega
  have hm1 : mn ≤ cm := by omega
  have hm2 : mn ≤ 40 := by omega
  have hs1 : sn ≤ cs := by omega
  have hs2 : sn ≤ 60 := by omega
  rw [hpn] at HP ⊢
  rw [hmn] at HM ⊢
  rw [hsn] at HZ ⊢
  clear hpn hmn hsn
  generalize lp.take 150 = pl at HP
  generalize lm.take 40 = ml at HM
  generalize ls.take 60 = zl at HZ
  have HPK := Lib.hid (fun (w' : World) (hb : Below w.heap.size w w') => ((HP.out.keep fun p hp => (hb.cell hp).trans (H1.out.2.2.cell hp).symm : Rd w' w.heap.size Ap pn pl)).mono hb.size)
  have HMK := Lib.hid (fun (w' : World) (hb : Below w.heap.size w w') => ((HM.out.keep fun p hp => (hb.cell hp).trans (H1.out.2.2.cell hp).symm : Rd w' w.heap.size Am mn ml)).mono hb.size)
  have HZK := Lib.hid (fun (w' : World) (hb : Below w.heap.size w w') => ((HZ.out.keep fun p hp => (hb.cell hp).trans (H1.out.2.2.cell hp).symm : Rd w' w.heap.size As sn zl)).mono hb.size)
  have HPL := Lib.hid HP.out.1
  clear HP HM HZ
  go_wp2_with (first | (refine wpList_load_blk rfl 23 (.tmp 7) rfl w.heap.size rfl 23 (k.map u8v) H1.out.1 32 5 Try.underlying23 (cells32 k HL.out.1) ?_; rw [HC.out.1]) | (refine wpList_load_blk rfl 25 (.tmp 8) rfl (w.heap.size + 1) rfl 25 (nn.map u8v) H1.out.2.1 12 5 Try.underlying25 (ae_cellsN nn HL.out.2) ?_; rw [HC.out.2]))
  refine (HRS.out Ap Am pn cp mn cm pl ml (by omega) (by omega) _ (HPK.out _ H1.out.2.2) (HMK.out _ H1.out.2.2)).mono ?_
  rintro e w3 ⟨A3, c3, rfl, ho3, hb3⟩
  replace H1 := Lib.hid (show Blk w3 w.heap.size 23 (k.map u8v) ∧ Blk w3 (w.heap.size + 1) 25 (nn.map u8v) ∧ Below w.heap.size w w3 from ⟨H1.out.1.below hb3 H1.out.1.lt, H1.out.2.1.below hb3 H1.out.2.1.lt, H1.out.2.2.trans (hb3.mono H1.out.2.2.size)⟩)
  have hq3 := own_addr ho3
  obtain ⟨g3, rfl⟩ := hq3.2.2 (by omega)
  have hc3 := hq3.1
  have hc4 := hq3.2.1
  have hg3 := (ho3.lt g3 rfl).2
  obtain ⟨se, hse⟩ : ∃ se, sealL k nn pl ml = se := ⟨_, rfl⟩
  have hsel : se.length = pn + 16 := by rw [← hse, sealL_length, HPL.out]
  rw [hse] at ho3
  have HO3 := Lib.hid ho3
  clear ho3 hb3 hq3
  have hsz3 : w.heap.size + 2 ≤ w3.heap.size := by have := H1.out.2.1.lt; omega
  go_upto_region 4 with (refine wpList_append_rd _ rfl (.const (.slice none 0 0)) (.tmp 37) 26 rfl w3.heap.size 5 i0 (.int .u8 0) Try.underlying26 hi hz0 hz1 hz2 rfl (.slice none 0 0) 0 [] rfl (World.ownsRow_nil _ _ _ _) _ _ _ _ se rfl (Rd.of_own HO3.out) (by omega) (Nat.le_refl _) ?_; intro v4 w4 hown4 hg4; rw [Nat.zero_add, List.nil_append] at hown4; obtain ⟨A5, c5, rfl, _⟩ := own_slice hown4; obtain ⟨g5, rfl⟩ := (own_addr hown4).2.2 (by omega))
  have hg5 := (hown4.lt g5 rfl).1
  have hq5 := own_addr hown4
  have hc5 := hq5.1
  have hc6 := hq5.2.1
  have hb34 : Below w3.heap.size w3 w4 := (Below.refl _ _).grown hg4 (Nat.le_refl _) (by simp [Value.ownBlock])
  have HO4 := Lib.hid hown4
  obtain ⟨ix, hix⟩ : ∃ ix, ia % (pn + 16) = ix := ⟨_, rfl⟩
  have hixl : ix < pn + 16 := by rw [← hix]; exact Nat.mod_lt _ (by omega)
  have hmod : (ia : Int) % ((pn : Int) + 16) = (ix : Int) := by rw [← hix]; simp
  have bix : (ix : Int) < (pn : Int) + 16 := by omega
  obtain ⟨yb, rfl⟩ : ∃ yb : UInt8, iby = yb.toNat := ⟨UInt8.ofNat iby, by rw [UInt8.toNat_ofNat', Nat.mod_eq_of_lt (by omega)]⟩
  have fx := hown4.cellAt ix (by omega)
  rw [map_u8v_getElem? se ix (by omega)] at fx
  have zx := hown4.frozenAt ix
  obtain ⟨xb, hxb⟩ : ∃ xb, se[ix]'(by omega) = xb := ⟨_, rfl⟩
  rw [hxb] at fx
  have hxor := ae_xor xb yb
  obtain ⟨zb, hzb⟩ : ∃ zb, xb ^^^ yb = zb := ⟨_, rfl⟩
  rw [hzb] at hxor
  obtain ⟨st, hst⟩ : ∃ st, se.set ix zb = st := ⟨_, rfl⟩
  have hstored := (HO4.out.stored ix (u8v zb)).1
  rw [← List.map_set, hst] at hstored
  have hstl : st.length = pn + 16 := by rw [← hst, List.length_set]; exact hsel
  have hb35 : Below w3.heap.size w3 (w4.setCell ⟨g5, ix, none⟩ (.int .u8 (zb.toNat : Int))) := hb34.setCell (by dsimp only; omega) _
  have H5 := Lib.hid (show (w4.setCell ⟨g5, ix, none⟩ (.int .u8 (zb.toNat : Int))).ownsRow w3.heap.size 5 1 (.slice (some ⟨g5, 0, none⟩) (pn + 16) c5) (pn + 16) (st.map u8v) ∧ Below w3.heap.size w3 (w4.setCell ⟨g5, ix, none⟩ (.int .u8 (zb.toNat : Int))) from ⟨hstored, hb35⟩)
  have HSE := Lib.hid (And.intro hse (And.intro hsel hstl))
  clear hown4 hg4 hq5 hb34 HO4 hse hsel hstl hxb hzb hst hstored hb35 hix
  go_upto_region 5 with fail
  generalize w4.setCell ⟨g5, ix, none⟩ (.int .u8 (zb.toNat : Int)) = w5 at H5 ⊢
  clear fx zx hxor
  replace H1 := Lib.hid (show Blk w5 w.heap.size 23 (k.map u8v) ∧ Blk w5 (w.heap.size + 1) 25 (nn.map u8v) ∧ Below w.heap.size w w5 from ⟨H1.out.1.below H5.out.2 H1.out.1.lt, H1.out.2.1.below H5.out.2 H1.out.2.1.lt, H1.out.2.2.trans (H5.out.2.mono H1.out.2.2.size)⟩)
  replace HO3 := Lib.hid (own_below HO3.out H5.out.2)
  have HO5 := Lib.hid (own_base H5.out.1 hsz3)
  clear H5
  have cvb : ∀ w' : World, Below w5.heap.size w5 w' → (convert 26 9 (.slice (some ⟨g3, 0, none⟩) (pn + 16) c3)).run Try.prog w' = .ok (.string ⟨se.toArray⟩) w' := fun w' hb => ae_conv ((Rd.of_own HO3.out).below hb) c3
  refine wp_region_held_drew (S := fun w' => Below w5.heap.size w5 w') (by kernel_rfl) ((Below.refl w5.heap.size w5).drew) (fun hHeld => ?_)
  refine take_first (v := .agg ck) 0 rfl (by kernel_rfl) (by kernel_rfl) (by kernel_rfl) (fun _ _ _ h => h) (by rw [← HC.out.1]; exact yields_load_blk (by rfl) 23 (.tmp 7) rfl w.heap.size rfl 23 (k.map u8v) (fun w' hb => H1.out.1.below hb H1.out.1.lt) 32 5 Try.underlying23 (cells32 k HL.out.1)) (by assumption) ?_
  (try simp only [Act.put, List.setIfInBounds_toArray, List.set_cons_zero, List.set_cons_succ])
  refine take_first (v := .agg cn) 1 rfl (by kernel_rfl) (by kernel_rfl) (by kernel_rfl) (fun _ _ _ h => h) (by rw [← HC.out.2]; exact yields_load_blk (by rfl) 25 (.tmp 8) rfl (w.heap.size + 1) rfl 25 (nn.map u8v) (fun w' hb => H1.out.2.1.below hb H1.out.2.1.lt) 12 5 Try.underlying25 (ae_cellsN nn HL.out.2)) (by assumption) ?_
  (try simp only [Act.put, List.setIfInBounds_toArray, List.set_cons_zero, List.set_cons_succ])
  refine take_first (v := ?_) 2 rfl (by kernel_rfl) (by kernel_rfl) (by kernel_rfl) (fun _ _ _ h => h) (Or.inl ⟨by rfl, ?_⟩) (by assumption) ?_
  rotate_left
  · (intro w hSw; (try dsimp only at hSw); go_simp; try with_reducible rfl)
  (try simp only [Act.put, List.setIfInBounds_toArray, List.set_cons_zero, List.set_cons_succ])
  refine take_first (v := ?_) 3 rfl (by kernel_rfl) (by kernel_rfl) (by kernel_rfl) (fun _ _ _ h => h) (Or.inl ⟨by rfl, ?_⟩) (by assumption) ?_
  rotate_left
  · (intro w hSw; (try dsimp only at hSw); go_simp; try with_reducible rfl)
  (try simp only [Act.put, List.setIfInBounds_toArray, List.set_cons_zero, List.set_cons_succ])
  refine take_first (v := ?_) 6 rfl (by kernel_rfl) (by kernel_rfl) (by kernel_rfl) (fun _ _ _ h => h) (Or.inl ⟨by rfl, ?_⟩) (by assumption) ?_
  rotate_left
  · (intro w hSw; (try dsimp only at hSw); go_simp; try with_reducible rfl)
  (try simp only [Act.put, List.setIfInBounds_toArray, List.set_cons_zero, List.set_cons_succ])
  refine take_first (v := ?_) 7 rfl (by kernel_rfl) (by kernel_rfl) (by kernel_rfl) (fun _ _ _ h => h) (Or.inl ⟨by rfl, ?_⟩) (by assumption) ?_
  rotate_left
  · (intro w hSw; (try dsimp only at hSw); go_simp; try with_reducible rfl)
  (try simp only [Act.put, List.setIfInBounds_toArray, List.set_cons_zero, List.set_cons_succ])
  refine step_one 4 rfl (by kernel_rfl) (fun K hK => ?_)
  go_simp
  refine (HSC.out Ap Am pn cp mn cm pl ml hp1 hpm hm1 hmm (by omega) (by omega) _ (HPK.out _ (H1.out.2.2.trans (hHeld.mono H1.out.2.2.size))) (HMK.out _ (H1.out.2.2.trans (hHeld.mono H1.out.2.2.size)))).mono ?_
  rintro e w6 ⟨A6, c6, rfl, ho6, hb6⟩
  go_wp2_with fail
  refine hK.out _ _ (hHeld.trans (hb6.mono hHeld.size)) (fun hHeld => ?_)
  clear hK K
  (try simp only [Act.put, List.setIfInBounds_toArray, List.set_cons_zero, List.set_cons_succ])
  have hr6 := Rd.of_own ho6
  rw [HSE.out.1] at hr6
  have HR6 := Lib.hid hr6
  replace H1 := Lib.hid (show Blk w6 w.heap.size 23 (k.map u8v) ∧ Blk w6 (w.heap.size + 1) 25 (nn.map u8v) ∧ Below w.heap.size w w6 from ⟨H1.out.1.below hHeld H1.out.1.lt, H1.out.2.1.below hHeld H1.out.2.1.lt, H1.out.2.2.trans (hHeld.mono H1.out.2.2.size)⟩)
  replace HO3 := Lib.hid (own_below HO3.out hHeld)
  replace HO5 := Lib.hid (own_below HO5.out hHeld)
  clear cvb
  have cvb : ∀ w' : World, Below w6.heap.size w6 w' → (convert 26 9 (.slice (some ⟨g3, 0, none⟩) (pn + 16) c3)).run Try.prog w' = .ok (.string ⟨se.toArray⟩) w' := fun w' hb => ae_conv ((Rd.of_own HO3.out).below hb) c3
  have cvr : ∀ w' : World, Below w6.heap.size w6 w' → (convert 26 9 (.slice A6 (pn + 16) c6)).run Try.prog w' = .ok (.string ⟨se.toArray⟩) w' := fun w' hb => ae_conv (HR6.out.below hb) c6
  refine wpAnyH_later hHeld ?_
  replace hHeld := Below.refl w6.heap.size w6
  clear ho6 hb6 hr6
  refine take_first (v := ?_) 5 rfl (by kernel_rfl) (by kernel_rfl) (by kernel_rfl) (fun _ _ _ h => h) (Or.inl ⟨by rfl, ?_⟩) (by assumption) ?_
  rotate_left
  · (intro w hSw; (try dsimp only at hSw); go_simp; try with_reducible rfl)
  (try simp only [Act.put, List.setIfInBounds_toArray, List.set_cons_zero, List.set_cons_succ])
  refine take_first (v := ?_) 8 rfl (by kernel_rfl) (by kernel_rfl) (by kernel_rfl) (fun _ _ _ h => h) (Or.inl ⟨by rfl, ?_⟩) (by assumption) ?_
  rotate_left
  · (intro w hSw; (try dsimp only at hSw); go_simp; try with_reducible rfl)
  (try simp only [Act.put, List.setIfInBounds_toArray, List.set_cons_zero, List.set_cons_succ])
  refine wpAnyH_done (by kernel_rfl) ?_ _
  clear hHeld cvb cvr
  have bi3 : (ix : Int) ≤ (c3 : Int) := by omega
  have hg := Blk.new w6 26 [.slice (some ⟨g3, 0, none⟩) (pn + 16) c3, .slice (some ⟨g5, 0, none⟩) (pn + 16) c5, .slice As sn cs, .slice (some ⟨g3, 0, none⟩) ix c3]
  have hb67 : Below w6.heap.size w6 (w6.alloc (.cells [.slice (some ⟨g3, 0, none⟩) (pn + 16) c3, .slice (some ⟨g5, 0, none⟩) (pn + 16) c5, .slice As sn cs, .slice (some ⟨g3, 0, none⟩) ix c3].toArray 26)) := (Below.refl _ _).alloc (Nat.le_refl _) _
  rw [show [Value.slice (some ⟨g3, 0, none⟩) (pn + 16) c3, .slice (some ⟨g5, 0, none⟩) (pn + 16) c5, .slice As sn cs, .slice (some ⟨g3, 0, none⟩) ix c3].toArray = #[Value.slice (some ⟨g3, 0, none⟩) (pn + 16) c3, .slice (some ⟨g5, 0, none⟩) (pn + 16) c5, .slice As sn cs, .slice (some ⟨g3, 0, none⟩) ix c3] from rfl] at hb67
  have HI := Lib.hid (show Blk (w6.alloc (.cells #[Value.slice (some ⟨g3, 0, none⟩) (pn + 16) c3, .slice (some ⟨g5, 0, none⟩) (pn + 16) c5, .slice As sn cs, .slice (some ⟨g3, 0, none⟩) ix c3] 26)) w6.heap.size 26 [.slice (some ⟨g3, 0, none⟩) (pn + 16) c3, .slice (some ⟨g5, 0, none⟩) (pn + 16) c5, .slice As sn cs, .slice (some ⟨g3, 0, none⟩) ix c3] ∧ Below w6.heap.size w6 (w6.alloc (.cells #[Value.slice (some ⟨g3, 0, none⟩) (pn + 16) c3, .slice (some ⟨g5, 0, none⟩) (pn + 16) c5, .slice As sn cs, .slice (some ⟨g3, 0, none⟩) ix c3] 26)) from ⟨hg, hb67⟩)
  clear hg hb67
  go_upto_region 8 with fail
  generalize w6.alloc (.cells #[Value.slice (some ⟨g3, 0, none⟩) (pn + 16) c3, .slice (some ⟨g5, 0, none⟩) (pn + 16) c5, .slice As sn cs, .slice (some ⟨g3, 0, none⟩) ix c3] 26) = w7 at HI ⊢
  clear bi3 hmod bix
  replace H1 := Lib.hid (show Blk w7 w.heap.size 23 (k.map u8v) ∧ Blk w7 (w.heap.size + 1) 25 (nn.map u8v) ∧ Below w.heap.size w w7 from ⟨H1.out.1.below HI.out.2 H1.out.1.lt, H1.out.2.1.below HI.out.2 H1.out.2.1.lt, H1.out.2.2.trans (HI.out.2.mono H1.out.2.2.size)⟩)
  replace HO3 := Lib.hid (own_below HO3.out HI.out.2)
  replace HO5 := Lib.hid (own_below HO5.out HI.out.2)
  have HIT := Lib.hid (show ∀ j, j < 4 → ∃ (A' : Option Addr) (n' c' : Nat) (l' : List UInt8), w7.cell? ⟨w6.heap.size, j, none⟩ = some (.slice A' n' c') ∧ Rd w7 w7.heap.size A' n' l' ∧ n' ≤ c' ∧ c' ≤ maxLen ∧ n' ≤ 400 by
    intro j hj
    have hr3 := Rd.of_own HO3.out
    rw [HI.out.1.cell]
    match j, hj with
    | 0, _ => exact ⟨_, _, _, _, rfl, hr3, hc3, hc4, by omega⟩
    | 1, _ => exact ⟨_, _, _, _, rfl, Rd.of_own HO5.out, hc5, hc6, by omega⟩
    | 2, _ => exact ⟨_, _, _, _, rfl, HZK.out _ H1.out.2.2, hs1, hsm, by omega⟩
    | 3, _ => exact ⟨_, _, _, _, rfl, hr3.take (m := ix) (by omega), by omega, hc4, by omega⟩
    | j + 4, hj => exact absurd hj (by omega))
  have HML := Lib.hid HI.out.1.lt
  generalize w6.heap.size = M at HIT HML HI ⊢
  clear HI HO3 HO5 HR6
  go_wp2_with fail
  go_loopw [71] (fun v wr => ∃ j : Nat, j ≤ 4 ∧ v = .int .i64 (j : Int) ∧ Hid (Below w7.heap.size w7 wr)) (fun v _ => 4 - (intOf v).toNat)
  case atStart => exact ⟨0, by omega, rfl, Lib.hid (Below.refl _ _)⟩
  case round =>
    obtain ⟨j, hj, rfl, HW⟩ := hrel
    by_cases hlt : j < 4
    · have d4 : decide ((j : Int) < 4) = true := by simp; omega
      obtain ⟨A', n', c', l', fc, hrd, hn1, hn2, hn3⟩ := HIT.out j hlt
      have fx := (HW.out.cell (p := ⟨M, j, none⟩) HML.out).trans fc
      have HRD := Lib.hid ((hrd.below HW.out).mono HW.out.size)
      have HN := Lib.hid (And.intro hn1 (And.intro hn2 hn3))
      clear fc hrd hn1 hn2 hn3
      replace H1 := Lib.hid (show Blk wr w.heap.size 23 (k.map u8v) ∧ Blk wr (w.heap.size + 1) 25 (nn.map u8v) ∧ Below w.heap.size w wr from ⟨H1.out.1.below HW.out H1.out.1.lt, H1.out.2.1.below HW.out H1.out.2.1.lt, H1.out.2.2.trans (HW.out.mono H1.out.2.2.size)⟩)
      have hn3 := HN.out.2.2
      obtain ⟨o, ho⟩ : ∃ o, openL k nn l' ml = o := ⟨_, rfl⟩
      have OA := HOC.out A' Am n' c' mn cm l' ml HN.out.1 HN.out.2.1 hm1 hmm (by omega) (by omega)
      have OB := HRO.out A' Am n' c' mn cm l' ml (by omega) HN.out.1 HN.out.2.1 (by omega)
      rw [ho] at OA OB
      obtain ⟨r, f⟩ := o
      dsimp only at OA OB
      have HOA := Lib.hid OA
      have HOB := Lib.hid OB
      clear OA OB ho
      go_wp2_with (first | (refine wpList_load_blk rfl 23 (.tmp 7) rfl w.heap.size rfl 23 (k.map u8v) H1.out.1 32 5 Try.underlying23 (cells32 k HL.out.1) ?_; rw [HC.out.1]) | (refine wpList_load_blk rfl 25 (.tmp 8) rfl (w.heap.size + 1) rfl 25 (nn.map u8v) H1.out.2.1 12 5 Try.underlying25 (ae_cellsN nn HL.out.2) ?_; rw [HC.out.2]))
      clear fx d4
      refine (HOA.out _ HRD.out (HMK.out _ H1.out.2.2)).mono ?_
      rintro e wa ⟨Aa, ca, rfl, hra, _, _, hba⟩
      replace H1 := Lib.hid (show Blk wa w.heap.size 23 (k.map u8v) ∧ Blk wa (w.heap.size + 1) 25 (nn.map u8v) ∧ Below w.heap.size w wa from ⟨H1.out.1.below hba H1.out.1.lt, H1.out.2.1.below hba H1.out.2.1.lt, H1.out.2.2.trans (hba.mono H1.out.2.2.size)⟩)
      replace HW := Lib.hid (HW.out.trans (hba.mono HW.out.size))
      replace HRD := Lib.hid ((HRD.out.below hba).mono hba.size)
      have HRA := Lib.hid hra
      clear hra hba
      go_wp2_with (first | (refine wpList_load_blk rfl 23 (.tmp 7) rfl w.heap.size rfl 23 (k.map u8v) H1.out.1 32 5 Try.underlying23 (cells32 k HL.out.1) ?_; rw [HC.out.1]) | (refine wpList_load_blk rfl 25 (.tmp 8) rfl (w.heap.size + 1) rfl 25 (nn.map u8v) H1.out.2.1 12 5 Try.underlying25 (ae_cellsN nn HL.out.2) ?_; rw [HC.out.2]))
      refine (HOB.out _ HRD.out (HMK.out _ H1.out.2.2)).mono ?_
      rintro e wb ⟨Ab, cb, rfl, hrb, hbb⟩
      replace HW := Lib.hid (HW.out.trans (hbb.mono HW.out.size))
      have cva : (convert 26 9 (.slice Aa r.length ca)).run Try.prog wb = .ok (.string ⟨r.toArray⟩) wb := ae_conv (HRA.out.below hbb) ca
      have cvb : (convert 26 9 (.slice Ab r.length cb)).run Try.prog wb = .ok (.string ⟨r.toArray⟩) wb := ae_conv hrb cb
      clear hrb hbb HRA HRD HOA HOB H1
      go_wp2_with fail
      refine ⟨⟨j + 1, by omega, by go_num, HW⟩, ?_⟩
      simp [intOf]
      omega
    · obtain rfl : j = 4 := by omega
      have HF := Lib.hid (H1.out.2.2.trans (HW.out.mono H1.out.2.2.size))
      rw [show ((4 : Nat) : Int) = 4 from rfl]
      go_wp2_with fail
      refine (HBG.out _).mono ?_
      rintro e wz ⟨rfl, hbz⟩
      have HE := Lib.hid (HF.out.trans (hbz.mono HF.out.size))
      clear hbz HF
      go_wp2_with fail
      go_ret
      exact ⟨rfl, HE.out⟩
end Go.Proofs.Ytafkedeelngnnaa
