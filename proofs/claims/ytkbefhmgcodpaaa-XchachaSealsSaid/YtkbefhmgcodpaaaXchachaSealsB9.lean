/-
  XchachaSeals returns true for every input, and changes nothing that was there: the walk, over what is asked of xchacha.Derive, Seal and Open. Pieces of a slice of bytes whose address is not known: what x[i:j] and x[i:] give, and what they read as. The contracts of xchacha.readWords, writeWords and stateOf: words out of bytes, bytes out of words, and the words that are mixed. The contract of xchacha.Derive. The contract of codec.Join: the parts one after the other (as XEqual's, over XPart). The contracts of aead.padding, length and tagData: the data that a tag is for. No statement is proved here.
-/
import Derived.Laws.BitsAllLaws
import Derived.RegionTactic
import Derived.BigQuiet
import Derived.Deep.QuietTactic
import Derived.Maps.AppendAt
import Derived.Outline
import Derived.Test.YtkbefhmgcodpaaaXchachaSealsB8
namespace Go.Proofs.Ytkbefhmgcodpaaa
open Go.RowKit
theorem xc_xor (a b : UInt8) : bits BinOp.xor IntKind.u8 (a.toNat : Int) (b.toNat : Int) = ((a ^^^ b).toNat : Int) := by
  rw [UInt8.toNat_xor, u8_xor_nat _ _ a.toNat_lt b.toNat_lt]

set_option maxRecDepth 100000 in
set_option maxHeartbeats 8000000 in
theorem xc_seals_walk (HD : DeriveC) (HS : XSealC) (HO : XOpenC) (w : World) (k inn n : List UInt8) (Ap : Option Addr) (np cp : Nat) (lp : List UInt8) (Am : Option Addr) (nm cm : Nat) (lm : List UInt8) (ia iby : Nat) (hk : k.length = 32) (hin : inn.length = 16) (hn : n.length = 24) (hpc : np ≤ cp) (hpm : cp ≤ maxLen) (hrp : Rd w w.heap.size Ap np lp) (hmc : nm ≤ cm) (hmm : cm ≤ maxLen) (hrm : Rd w w.heap.size Am nm lm) (hia : ia ≤ 255) (hby : iby ≤ 255) :
    Calls Try.prog 3 #[.agg (k.map u8v).toArray, .agg (inn.map u8v).toArray, .agg (n.map u8v).toArray, .slice Ap np cp, .slice Am nm cm, .int .u8 (ia : Int), .int .u8 (iby : Int)] w fun e w' => e = .returned (.bool true) ∧ Below w.heap.size w w' := by
  obtain ⟨i0, hi, hz0, hz1, hz2⟩ := info_parts Try.info5
  obtain ⟨ck, hck⟩ : ∃ ck, (k.map u8v).toArray = ck := ⟨_, rfl⟩
  obtain ⟨ci, hci⟩ : ∃ ck, (inn.map u8v).toArray = ck := ⟨_, rfl⟩
  obtain ⟨cn, hcn⟩ : ∃ cn, (n.map u8v).toArray = cn := ⟨_, rfl⟩
  have SC := HS k n hk hn
  have OC := HO k n hk hn
  have RS := refXSeal_any k n hk hn
  have RO := refXOpen_any k n hk hn
  have DC := HD k inn hk hin
  have RD := fun w' : World => refDerive_any k inn hk hin w'
  have ex := fun w' : World => run_key_eq (P := Try.prog) 23 5 32 Try.underlying23 Try.underlying5 i0 hi hz1 (deriveL k inn) (deriveL k inn) (deriveL_length _ _) (deriveL_length _ _) w'
  rw [show (deriveL k inn == deriveL k inn) = true by simp] at ex
  obtain ⟨cd, hcd⟩ : ∃ c, ((deriveL k inn).map u8v).toArray = c := ⟨_, rfl⟩
  rw [hck, hcn] at SC OC RS RO
  rw [hck, hci, hcd] at DC RD
  rw [hcd] at ex
  rw [hck, hci, hcn]
  have HM := Lib.hid (show Mem w [blkE (w.heap.size + 1 + 1) 26 (n.map u8v), blkE (w.heap.size + 1) 24 (inn.map u8v), blkE w.heap.size 23 (k.map u8v)] (((w.alloc (.cells ck 23)).alloc (.cells ci 24)).alloc (.cells cn 26)) from (((Mem.nil w).alloc rfl 23 ck (k.map u8v) hck.symm).alloc (by simp) 24 ci (inn.map u8v) hci.symm).alloc (by simp) 26 cn (n.map u8v) hcn.symm)
  have HC := Lib.hid (And.intro hck (And.intro hcn hci))
  have HL := Lib.hid (And.intro hk (And.intro hn hin))
  have HSC := Lib.hid SC
  have HOC := Lib.hid OC
  have HRS := Lib.hid RS
  have HRO := Lib.hid RO
  have HDC := Lib.hid DC
  have HRD := Lib.hid RD
  have HEX := Lib.hid ex
  have HBG := Lib.hid (xc_begun_any HD)
  have HP := Lib.hid hrp
  have HR := Lib.hid hrm
  clear hck hcn hci hcd hk hn hin SC OC RS RO DC RD ex HD HS HO hrp hrm
  go_enter Try.func3, Try.ntmps3
  go_upto_region 1 with fail
  generalize (((w.alloc (.cells ck 23)).alloc (.cells ci 24)).alloc (.cells cn 26)) = w1 at HM ⊢
  go_wp2_with fail
  refine (cut_any _ Ap np cp 100 lp hpc hpm _ (HP.out.below HM.out.bel)).mono ?_
  rintro e w2 ⟨rfl, hp2, rfl⟩
  clear hp2
  go_wp2_with fail
  refine (cut_any _ Am nm cm 30 lm hmc hmm _ (HR.out.below HM.out.bel)).mono ?_
  rintro e w2 ⟨rfl, hm2, rfl⟩
  clear hm2
  obtain ⟨pn, hpn⟩ : ∃ pn, min np 100 = pn := ⟨_, rfl⟩
  obtain ⟨mn, hmn⟩ : ∃ mn, min nm 30 = mn := ⟨_, rfl⟩
  have hp1 : pn ≤ cp := by omega
  have hp2 : pn ≤ 100 := by omega
  have hm1 : mn ≤ cm := by omega
  have hm2 : mn ≤ 30 := by omega
  replace HP := Lib.hid (HP.out.take (m := pn) (by omega))
  replace HR := Lib.hid (HR.out.take (m := mn) (by omega))
  rw [hpn, hmn]
  clear hpn hmn
  generalize lp.take pn = pl at HP
  generalize lm.take mn = ml at HR
  have HPL := Lib.hid HP.out.1
  go_wp2_with (first | (refine wpList_load_blk rfl 23 (.tmp 7) rfl w.heap.size rfl 23 (k.map u8v) (HM.out.blk 2 rfl) 32 5 Try.underlying23 (cells32 k HL.out.1) ?_; rw [HC.out.1]) | (refine wpList_load_blk rfl 26 (.tmp 9) rfl (w.heap.size + 1 + 1) rfl 26 (n.map u8v) (HM.out.blk 0 rfl) 24 5 Try.underlying26 (xc_cellsL n HL.out.2.1) ?_; rw [HC.out.2.1]))
  refine (HRS.out Ap Am pn cp mn cm pl ml (by omega) (by omega) _ (HM.out.arg HP.out) (HM.out.arg HR.out)).mono ?_
  rintro e w3 ⟨A3, c3, rfl, ho3, hb3⟩
  have hq3 := own_addr ho3
  obtain ⟨g3, rfl⟩ := hq3.2.2 (by omega)
  have hc3 := hq3.1
  have hc4 := hq3.2.1
  obtain ⟨se, hse⟩ : ∃ se, xsealL k n pl ml = se := ⟨_, rfl⟩
  have hsel : se.length = pn + 16 := by rw [← hse, xsealL_length, HPL.out]
  rw [hse] at ho3
  replace HM := Lib.hid (show Mem w [rdE w1.heap.size w3.heap.size (some ⟨g3, 0, none⟩) (pn + 16) se, blkE (w.heap.size + 1 + 1) 26 (n.map u8v), blkE (w.heap.size + 1) 24 (inn.map u8v), blkE w.heap.size 23 (k.map u8v)] w3 from HM.out.callRd hb3 ho3)
  clear ho3 hb3 hq3
  go_upto_region 4 with (refine wpList_append_rd _ rfl (.const (.slice none 0 0)) (.tmp 34) 27 rfl w3.heap.size 5 i0 (.int .u8 0) Try.underlying27 hi hz0 hz1 hz2 rfl (.slice none 0 0) 0 [] rfl (World.ownsRow_nil _ _ _ _) _ _ _ _ se rfl (HM.out.rd 0 rfl) (by omega) (Nat.le_refl _) ?_; intro v4 w4 hown4 hg4; rw [Nat.zero_add, List.nil_append] at hown4; obtain ⟨A5, c5, rfl, _⟩ := own_slice hown4; obtain ⟨g5, rfl⟩ := (own_addr hown4).2.2 (by omega))
  have hg5 := (hown4.lt g5 rfl).1
  have hq5 := own_addr hown4
  have hc5 := hq5.1
  have hc6 := hq5.2.1
  have hb34 : Below w3.heap.size w3 w4 := (Below.refl _ _).grown hg4 (Nat.le_refl _) (by simp [Value.ownBlock])
  have HO4 := Lib.hid hown4
  obtain ⟨ix, hix⟩ : ∃ ix, ia % (pn + 16) = ix := ⟨_, rfl⟩
  have hixl : ix < pn + 16 := by rw [← hix]; exact Nat.mod_lt _ (by omega)
  have hmod : (ia : Int) % ((pn : Int) + 16) = (ix : Int) := by rw [← hix]; simp
  have bix : (ix : Int) < (pn : Int) + 16 := by omega
  obtain ⟨yb, rfl⟩ : ∃ yb : UInt8, iby = yb.toNat := ⟨UInt8.ofNat iby, by rw [UInt8.toNat_ofNat', Nat.mod_eq_of_lt (by omega)]⟩
  have fx := hown4.cellAt ix (by omega)
  rw [map_u8v_getElem? se ix (by omega)] at fx
  have zx := hown4.frozenAt ix
  obtain ⟨xb, hxb⟩ : ∃ xb, se[ix]'(by omega) = xb := ⟨_, rfl⟩
  rw [hxb] at fx
  have hxor := xc_xor xb yb
  obtain ⟨zb, hzb⟩ : ∃ zb, xb ^^^ yb = zb := ⟨_, rfl⟩
  rw [hzb] at hxor
  obtain ⟨st, hst⟩ : ∃ st, se.set ix zb = st := ⟨_, rfl⟩
  have hstored := (HO4.out.stored ix (u8v zb)).1
  rw [← List.map_set, hst] at hstored
  have hb35 : Below w3.heap.size w3 (w4.setCell ⟨g5, ix, none⟩ (.int .u8 (zb.toNat : Int))) := hb34.setCell (by dsimp only; omega) _
  have H5 := Lib.hid (show Mem w [rdE w3.heap.size (w4.setCell ⟨g5, ix, none⟩ (.int .u8 (zb.toNat : Int))).heap.size (some ⟨g5, 0, none⟩) (pn + 16) st, rdE w1.heap.size w3.heap.size (some ⟨g3, 0, none⟩) (pn + 16) se, blkE (w.heap.size + 1 + 1) 26 (n.map u8v), blkE (w.heap.size + 1) 24 (inn.map u8v), blkE w.heap.size 23 (k.map u8v)] (w4.setCell ⟨g5, ix, none⟩ (.int .u8 (zb.toNat : Int))) from HM.out.callRd hb35 hstored)
  have HSE := Lib.hid (And.intro hse hsel)
  clear hown4 hg4 hq5 hb34 HO4 hse hsel hxb hzb hst hstored hb35 hix HM
  go_upto_region 5 with fail
  generalize w4.setCell ⟨g5, ix, none⟩ (.int .u8 (zb.toNat : Int)) = w5 at H5 ⊢
  clear fx zx hxor
  have HM := Lib.hid H5.out
  clear H5
  refine wp_region_held_drew (S := fun W' => Mem w [rdE w3.heap.size w5.heap.size (some ⟨g5, 0, none⟩) (pn + 16) st, rdE w1.heap.size w3.heap.size (some ⟨g3, 0, none⟩) (pn + 16) se, blkE (w.heap.size + 1 + 1) 26 (n.map u8v), blkE (w.heap.size + 1) 24 (inn.map u8v), blkE w.heap.size 23 (k.map u8v)] W') (by kernel_rfl) ((HM.out).drew) (fun hHeld => ?_)
  replace HM := Lib.hid HM.out.drew
  generalize w5.drew = wd1 at HM hHeld ⊢
  refine take_first (v := .agg ck) 0 rfl (by kernel_rfl) (by kernel_rfl) (by kernel_rfl) (fun _ _ _ h => h) (by rw [← HC.out.1]; exact yields_load_blk (by rfl) 23 (.tmp 7) rfl w.heap.size rfl 23 (k.map u8v) (fun w' hb => hb.blk 4 rfl) 32 5 Try.underlying23 (cells32 k HL.out.1)) (by assumption) ?_
  (try simp only [Act.put, List.setIfInBounds_toArray, List.set_cons_zero, List.set_cons_succ])
  refine take_first (v := .agg ci) 1 rfl (by kernel_rfl) (by kernel_rfl) (by kernel_rfl) (fun _ _ _ h => h) (by rw [← HC.out.2.2]; exact yields_load_blk (by rfl) 24 (.tmp 8) rfl (w.heap.size + 1) rfl 24 (inn.map u8v) (fun w' hb => hb.blk 3 rfl) 16 5 Try.underlying24 (xc_cells16 inn HL.out.2.2)) (by assumption) ?_
  (try simp only [Act.put, List.setIfInBounds_toArray, List.set_cons_zero, List.set_cons_succ])
  refine take_first (v := .agg ck) 3 rfl (by kernel_rfl) (by kernel_rfl) (by kernel_rfl) (fun _ _ _ h => h) (by rw [← HC.out.1]; exact yields_load_blk (by rfl) 23 (.tmp 7) rfl w.heap.size rfl 23 (k.map u8v) (fun w' hb => hb.blk 4 rfl) 32 5 Try.underlying23 (cells32 k HL.out.1)) (by assumption) ?_
  (try simp only [Act.put, List.setIfInBounds_toArray, List.set_cons_zero, List.set_cons_succ])
  refine take_first (v := .agg ci) 4 rfl (by kernel_rfl) (by kernel_rfl) (by kernel_rfl) (fun _ _ _ h => h) (by rw [← HC.out.2.2]; exact yields_load_blk (by rfl) 24 (.tmp 8) rfl (w.heap.size + 1) rfl 24 (inn.map u8v) (fun w' hb => hb.blk 3 rfl) 16 5 Try.underlying24 (xc_cells16 inn HL.out.2.2)) (by assumption) ?_
  (try simp only [Act.put, List.setIfInBounds_toArray, List.set_cons_zero, List.set_cons_succ])
  refine step_one 2 rfl (by kernel_rfl) (fun K hK => ?_)
  clear hHeld
  go_simp
  refine (HDC.out _).mono ?_
  rintro e wy2 ⟨rfl, hb⟩
  replace HM := Lib.hid (show Mem w [rdE w3.heap.size w5.heap.size (some ⟨g5, 0, none⟩) (pn + 16) st, rdE w1.heap.size w3.heap.size (some ⟨g3, 0, none⟩) (pn + 16) se, blkE (w.heap.size + 1 + 1) 26 (n.map u8v), blkE (w.heap.size + 1) 24 (inn.map u8v), blkE w.heap.size 23 (k.map u8v)] wy2 from HM.out.below hb)
  clear hb
  go_wp2_with fail
  refine hK.out _ _ (HM.out) (fun hHeld => ?_)
  clear hK K
  (try simp only [Act.put, List.setIfInBounds_toArray, List.set_cons_zero, List.set_cons_succ])
  refine step_one 5 rfl (by kernel_rfl) (fun K hK => ?_)
  clear hHeld
  go_simp
  refine (HRD.out _).mono ?_
  rintro e wy3 ⟨rfl, hb⟩
  replace HM := Lib.hid (show Mem w [rdE w3.heap.size w5.heap.size (some ⟨g5, 0, none⟩) (pn + 16) st, rdE w1.heap.size w3.heap.size (some ⟨g3, 0, none⟩) (pn + 16) se, blkE (w.heap.size + 1 + 1) 26 (n.map u8v), blkE (w.heap.size + 1) 24 (inn.map u8v), blkE w.heap.size 23 (k.map u8v)] wy3 from HM.out.below hb)
  clear hb
  go_wp2_with fail
  refine hK.out _ _ (HM.out) (fun hHeld => ?_)
  clear hK K
  (try simp only [Act.put, List.setIfInBounds_toArray, List.set_cons_zero, List.set_cons_succ])
  refine take_first (v := ?_) 6 rfl (by kernel_rfl) (by kernel_rfl) (by kernel_rfl) (fun _ _ _ h => h) (Or.inl ⟨by rfl, ?_⟩) (by assumption) ?_
  rotate_left
  · (intro w hSw; (try dsimp only at hSw); have ex := HEX.out w; go_simp; try with_reducible rfl)
  (try simp only [Act.put, List.setIfInBounds_toArray, List.set_cons_zero, List.set_cons_succ])
  refine take_first (v := ?_) 7 rfl (by kernel_rfl) (by kernel_rfl) (by kernel_rfl) (fun _ _ _ h => h) (Or.inl ⟨by rfl, ?_⟩) (by assumption) ?_
  rotate_left
  · (intro w hSw; (try dsimp only at hSw); go_simp; try with_reducible rfl)
  (try simp only [Act.put, List.setIfInBounds_toArray, List.set_cons_zero, List.set_cons_succ])
  refine take_first (v := .agg ck) 8 rfl (by kernel_rfl) (by kernel_rfl) (by kernel_rfl) (fun _ _ _ h => h) (by rw [← HC.out.1]; exact yields_load_blk (by rfl) 23 (.tmp 7) rfl w.heap.size rfl 23 (k.map u8v) (fun w' hb => hb.blk 4 rfl) 32 5 Try.underlying23 (cells32 k HL.out.1)) (by assumption) ?_
  (try simp only [Act.put, List.setIfInBounds_toArray, List.set_cons_zero, List.set_cons_succ])
  refine take_first (v := .agg cn) 9 rfl (by kernel_rfl) (by kernel_rfl) (by kernel_rfl) (fun _ _ _ h => h) (by rw [← HC.out.2.1]; exact yields_load_blk (by rfl) 26 (.tmp 9) rfl (w.heap.size + 1 + 1) rfl 26 (n.map u8v) (fun w' hb => hb.blk 2 rfl) 24 5 Try.underlying26 (xc_cellsL n HL.out.2.1)) (by assumption) ?_
  (try simp only [Act.put, List.setIfInBounds_toArray, List.set_cons_zero, List.set_cons_succ])
  refine take_first (v := ?_) 10 rfl (by kernel_rfl) (by kernel_rfl) (by kernel_rfl) (fun _ _ _ h => h) (Or.inl ⟨by rfl, ?_⟩) (by assumption) ?_
  rotate_left
  · (intro w hSw; (try dsimp only at hSw); go_simp; try with_reducible rfl)
  (try simp only [Act.put, List.setIfInBounds_toArray, List.set_cons_zero, List.set_cons_succ])
  refine take_first (v := ?_) 11 rfl (by kernel_rfl) (by kernel_rfl) (by kernel_rfl) (fun _ _ _ h => h) (Or.inl ⟨by rfl, ?_⟩) (by assumption) ?_
  rotate_left
  · (intro w hSw; (try dsimp only at hSw); go_simp; try with_reducible rfl)
  (try simp only [Act.put, List.setIfInBounds_toArray, List.set_cons_zero, List.set_cons_succ])
  refine take_first (v := ?_) 14 rfl (by kernel_rfl) (by kernel_rfl) (by kernel_rfl) (fun _ _ _ h => h) (Or.inl ⟨by rfl, ?_⟩) (by assumption) ?_
  rotate_left
  · (intro w hSw; (try dsimp only at hSw); go_simp; try with_reducible rfl)
  (try simp only [Act.put, List.setIfInBounds_toArray, List.set_cons_zero, List.set_cons_succ])
  refine take_first (v := ?_) 15 rfl (by kernel_rfl) (by kernel_rfl) (by kernel_rfl) (fun _ _ _ h => h) (Or.inl ⟨by rfl, ?_⟩) (by assumption) ?_
  rotate_left
  · (intro w hSw; (try dsimp only at hSw); have cv : (convert 27 9 (.slice (some ⟨g3, 0, none⟩) (pn + 16) c3)).run Try.prog w = .ok (.string ⟨se.toArray⟩) w := ae_conv (Mem.rd hSw 1 rfl) c3; go_simp; try with_reducible rfl)
  (try simp only [Act.put, List.setIfInBounds_toArray, List.set_cons_zero, List.set_cons_succ])
  refine step_one 12 rfl (by kernel_rfl) (fun K hK => ?_)
  clear hHeld
  go_simp
  refine (HSC.out Ap Am pn cp mn cm pl ml hp1 hpm hm1 hmm (by omega) (by omega) _ (HM.out.arg HP.out) (HM.out.arg HR.out)).mono ?_
  rintro e wy4 ⟨A6, c6, rfl, ho, hb⟩
  replace HM := Lib.hid (show Mem w [rdE wy3.heap.size wy4.heap.size A6 (pn + 16) se, rdE w3.heap.size w5.heap.size (some ⟨g5, 0, none⟩) (pn + 16) st, rdE w1.heap.size w3.heap.size (some ⟨g3, 0, none⟩) (pn + 16) se, blkE (w.heap.size + 1 + 1) 26 (n.map u8v), blkE (w.heap.size + 1) 24 (inn.map u8v), blkE w.heap.size 23 (k.map u8v)] wy4 from by rw [HSE.out.1] at ho; exact HM.out.callRd hb ho)
  clear ho
  clear hb
  go_wp2_with fail
  refine hK.out _ _ ((HM.out.erase 0)) (fun hHeld => ?_)
  clear hK K
  (try simp only [Act.put, List.setIfInBounds_toArray, List.set_cons_zero, List.set_cons_succ])
  refine wpAnyH_stronger (T := fun W' => Mem w [rdE wy3.heap.size wy4.heap.size A6 (pn + 16) se, rdE w3.heap.size w5.heap.size (some ⟨g5, 0, none⟩) (pn + 16) st, rdE w1.heap.size w3.heap.size (some ⟨g3, 0, none⟩) (pn + 16) se, blkE (w.heap.size + 1 + 1) 26 (n.map u8v), blkE (w.heap.size + 1) 24 (inn.map u8v), blkE w.heap.size 23 (k.map u8v)] W') (fun _ h' => h'.erase 0) _ _ _ _ ?_
  replace hHeld := HM.out
  refine take_first (v := ?_) 13 rfl (by kernel_rfl) (by kernel_rfl) (by kernel_rfl) (fun _ _ _ h => h) (Or.inl ⟨by rfl, ?_⟩) (by assumption) ?_
  rotate_left
  · (intro w hSw; (try dsimp only at hSw); have cv : (convert 27 9 (.slice A6 (pn + 16) c6)).run Try.prog w = .ok (.string ⟨se.toArray⟩) w := ae_conv (Mem.rd hSw 0 rfl) c6; go_simp; try with_reducible rfl)
  (try simp only [Act.put, List.setIfInBounds_toArray, List.set_cons_zero, List.set_cons_succ])
  refine take_first (v := ?_) 16 rfl (by kernel_rfl) (by kernel_rfl) (by kernel_rfl) (fun _ _ _ h => h) (Or.inl ⟨by rfl, ?_⟩) (by assumption) ?_
  rotate_left
  · (intro w hSw; (try dsimp only at hSw); go_simp; try with_reducible rfl)
  (try simp only [Act.put, List.setIfInBounds_toArray, List.set_cons_zero, List.set_cons_succ])
  refine take_first (v := ?_) 17 rfl (by kernel_rfl) (by kernel_rfl) (by kernel_rfl) (fun _ _ _ h => h) (Or.inl ⟨by rfl, ?_⟩) (by assumption) ?_
  rotate_left
  · (intro w hSw; (try dsimp only at hSw); go_simp; try with_reducible rfl)
  (try simp only [Act.put, List.setIfInBounds_toArray, List.set_cons_zero, List.set_cons_succ])
  refine wpAnyH_done (by kernel_rfl) ?_ _
  clear hHeld
  have bi3 : (ix : Int) ≤ (c3 : Int) := by omega
  replace HM := Lib.hid (HM.out.erase 0)
  replace HM := Lib.hid (show Mem w [blkE wy4.heap.size 27 [.slice (some ⟨g3, 0, none⟩) (pn + 16) c3, .slice (some ⟨g5, 0, none⟩) (pn + 16) c5, .slice Ap pn cp, .slice (some ⟨g3, 0, none⟩) ix c3], rdE w3.heap.size w5.heap.size (some ⟨g5, 0, none⟩) (pn + 16) st, rdE w1.heap.size w3.heap.size (some ⟨g3, 0, none⟩) (pn + 16) se, blkE (w.heap.size + 1 + 1) 26 (n.map u8v), blkE (w.heap.size + 1) 24 (inn.map u8v), blkE w.heap.size 23 (k.map u8v)] (wy4.alloc (.cells #[Value.slice (some ⟨g3, 0, none⟩) (pn + 16) c3, .slice (some ⟨g5, 0, none⟩) (pn + 16) c5, .slice Ap pn cp, .slice (some ⟨g3, 0, none⟩) ix c3] 27)) from HM.out.alloc rfl 27 #[Value.slice (some ⟨g3, 0, none⟩) (pn + 16) c3, .slice (some ⟨g5, 0, none⟩) (pn + 16) c5, .slice Ap pn cp, .slice (some ⟨g3, 0, none⟩) ix c3] [.slice (some ⟨g3, 0, none⟩) (pn + 16) c3, .slice (some ⟨g5, 0, none⟩) (pn + 16) c5, .slice Ap pn cp, .slice (some ⟨g3, 0, none⟩) ix c3] rfl)
  go_upto_region 8 with fail
  generalize wy4.alloc (.cells #[Value.slice (some ⟨g3, 0, none⟩) (pn + 16) c3, .slice (some ⟨g5, 0, none⟩) (pn + 16) c5, .slice Ap pn cp, .slice (some ⟨g3, 0, none⟩) ix c3] 27) = w7 at HM ⊢
  generalize wy4.heap.size = M at HM ⊢
  clear bi3 hmod bix
  have HIT := Lib.hid (show ∀ j, j < 4 → ∃ (A' : Option Addr) (n' c' : Nat) (l' : List UInt8), w7.cell? ⟨M, j, none⟩ = some (.slice A' n' c') ∧ Rd w7 w7.heap.size A' n' l' ∧ n' ≤ c' ∧ c' ≤ maxLen ∧ n' ≤ 400 by
    intro j hj
    have hr3 := HM.out.rd 2 rfl
    rw [(HM.out.blk 0 rfl).cell]
    match j, hj with
    | 0, _ => exact ⟨_, _, _, _, rfl, hr3, hc3, hc4, by omega⟩
    | 1, _ => exact ⟨_, _, _, _, rfl, HM.out.rd 1 rfl, hc5, hc6, by omega⟩
    | 2, _ => exact ⟨_, _, _, _, rfl, HM.out.arg HP.out, hp1, hpm, by omega⟩
    | 3, _ => exact ⟨_, _, _, _, rfl, hr3.take (m := ix) (by omega), by omega, hc4, by omega⟩
    | j + 4, hj => exact absurd hj (by omega))
  have HML := Lib.hid (HM.out.blk 0 rfl).lt
  go_wp2_with fail
  go_loopw [77] (fun v wr => ∃ j : Nat, j ≤ 4 ∧ v = .int .i64 (j : Int) ∧ Hid (Below w7.heap.size w7 wr)) (fun v _ => 4 - (intOf v).toNat)
  case atStart => exact ⟨0, by omega, rfl, Lib.hid (Below.refl _ _)⟩
  case round =>
    obtain ⟨j, hj, rfl, HW⟩ := hrel
    by_cases hlt : j < 4
    · have d4 : decide ((j : Int) < 4) = true := by simp; omega
      obtain ⟨A', n', c', l', fc, hrd, hn1, hn2, hn3⟩ := HIT.out j hlt
      have fx := (HW.out.cell (p := ⟨M, j, none⟩) HML.out).trans fc
      have HRD := Lib.hid ((hrd.below HW.out).mono HW.out.size)
      have HN := Lib.hid (And.intro hn1 (And.intro hn2 hn3))
      clear fc hrd hn1 hn2 hn3
      replace HM := Lib.hid (HM.out.below HW.out)
      have hn3 := HN.out.2.2
      obtain ⟨o, ho⟩ : ∃ o, xopenL k n l' ml = o := ⟨_, rfl⟩
      have OA := HOC.out A' Am n' c' mn cm l' ml HN.out.1 HN.out.2.1 hm1 hmm (by omega) (by omega)
      have OB := HRO.out A' Am n' c' mn cm l' ml (by omega) HN.out.1 HN.out.2.1 (by omega)
      rw [ho] at OA OB
      obtain ⟨r, f⟩ := o
      dsimp only at OA OB
      have HOA := Lib.hid OA
      have HOB := Lib.hid OB
      clear OA OB ho
      go_wp2_with (first | (refine wpList_load_blk rfl 23 (.tmp 7) rfl w.heap.size rfl 23 (k.map u8v) (HM.out.blk 5 rfl) 32 5 Try.underlying23 (cells32 k HL.out.1) ?_; rw [HC.out.1]) | (refine wpList_load_blk rfl 26 (.tmp 9) rfl (w.heap.size + 1 + 1) rfl 26 (n.map u8v) (HM.out.blk 3 rfl) 24 5 Try.underlying26 (xc_cellsL n HL.out.2.1) ?_; rw [HC.out.2.1]))
      clear fx d4
      refine (HOA.out _ HRD.out (HM.out.arg HR.out)).mono ?_
      rintro e wa ⟨Aa, ca, rfl, hra, _, _, hba⟩
      replace HM := Lib.hid (HM.out.below hba)
      replace HW := Lib.hid (HW.out.trans (hba.mono HW.out.size))
      replace HRD := Lib.hid ((HRD.out.below hba).mono hba.size)
      have HRA := Lib.hid hra
      clear hra hba
      go_wp2_with (first | (refine wpList_load_blk rfl 23 (.tmp 7) rfl w.heap.size rfl 23 (k.map u8v) (HM.out.blk 5 rfl) 32 5 Try.underlying23 (cells32 k HL.out.1) ?_; rw [HC.out.1]) | (refine wpList_load_blk rfl 26 (.tmp 9) rfl (w.heap.size + 1 + 1) rfl 26 (n.map u8v) (HM.out.blk 3 rfl) 24 5 Try.underlying26 (xc_cellsL n HL.out.2.1) ?_; rw [HC.out.2.1]))
      refine (HOB.out _ HRD.out (HM.out.arg HR.out)).mono ?_
      rintro e wb ⟨Ab, cb, rfl, hrb, hbb⟩
      replace HW := Lib.hid (HW.out.trans (hbb.mono HW.out.size))
      have cva : (convert 27 9 (.slice Aa r.length ca)).run Try.prog wb = .ok (.string ⟨r.toArray⟩) wb := ae_conv (HRA.out.below hbb) ca
      have cvb : (convert 27 9 (.slice Ab r.length cb)).run Try.prog wb = .ok (.string ⟨r.toArray⟩) wb := ae_conv hrb cb
      clear hrb hbb HRA HRD HOA HOB HM
      go_wp2_with fail
      refine ⟨⟨j + 1, by omega, by go_num, HW⟩, ?_⟩
      simp [intOf]
      omega
    · obtain rfl : j = 4 := by omega
      have HF := Lib.hid (HM.out.below HW.out).bel
      rw [show ((4 : Nat) : Int) = 4 from rfl]
      go_wp2_with fail
      refine (HBG.out _).mono ?_
      rintro e wz ⟨rfl, hbz⟩
      have HE := Lib.hid (HF.out.trans (hbz.mono HF.out.size))
      clear hbz HF
      go_wp2_with fail
      go_ret
      exact ⟨rfl, HE.out⟩
end Go.Proofs.Ytkbefhmgcodpaaa
namespace Go.Proofs.Ytkbefhmgcodpaaa
open Go.RowKit

theorem bytes_under : Try.prog.underlying 27 = some (.slice (Try.prog.elem 27)) := by kernel_rfl
theorem bytes_size (w : World) : (sizeOf (Try.prog.elem 27)).run Try.prog w = .ok 1 w := by
  obtain ⟨i0, hi, hz0, hz1, hz2⟩ := info_parts Try.info5
  have e : Try.prog.elem 27 = 5 := by kernel_rfl
  rw [e]
  simp [sizeOf, typeInfo, hi, hz1]
/-- the address behind i elements, as the model keeps it -/
def addrOf (A : Option Addr) (i c : Nat) : Option Addr := if c = i then A else A.map (·.add (i * 1))
theorem Rd.behind {W : World} {B n : Nat} {A : Option Addr} {l : List UInt8} (h : Rd W B A n l) (i c : Nat) (hi : i ≤ n) (hc : n ≤ c) : Rd W B (addrOf A i c) (n - i) (l.drop i) := by
  unfold addrOf
  by_cases e : c = i
  · have e0 : n - i = 0 := by omega
    rw [if_pos e, e0, List.drop_of_length_le (by have := h.1; omega)]
    exact Rd.nil _ _ _
  · rw [if_neg e]
    rcases Nat.eq_zero_or_pos (n - i) with h0 | h0
    · rw [h0, List.drop_of_length_le (by have := h.1; omega)]
      exact Rd.nil _ _ _
    · obtain ⟨b, off, rfl, _, _⟩ := h.2 (by omega)
      rw [Option.map_some, Go.WideShapes.add_plain, Nat.mul_one]
      exact h.drop i b off rfl hi
set_option maxRecDepth 100000 in
theorem slice_lh (A : Option Addr) (n c i j : Nat) (h1 : i ≤ j) (h2 : j ≤ n) (h3 : n ≤ c) (w : World) : (Instr.sliceAt 27 (.slice A n c) (some (.int .i64 (i : Int))) (some (.int .i64 (j : Int))) none).run Try.prog w = .ok (.slice (addrOf A i c) (j - i) (c - i)) w := by
  rw [run_sliceAt_slice (P := Try.prog) (w := w) 27 _ _ _ _ bytes_under, run_slice_lh (P := Try.prog) (w := w) 27 A n c bytes_under .i64 .i64 i j (by omega) (by omega) (by omega), bytes_size]
  simp only [Result.andThen, sliced, Int.toNat_natCast]
  rfl
set_option maxRecDepth 100000 in
theorem slice_l (A : Option Addr) (n c i : Nat) (h2 : i ≤ n) (w : World) : (Instr.sliceAt 27 (.slice A n c) (some (.int .i64 (i : Int))) none none).run Try.prog w = .ok (.slice (addrOf A i c) (n - i) (c - i)) w := by
  rw [run_sliceAt_slice (P := Try.prog) (w := w) 27 _ _ _ _ bytes_under, run_slice_l (P := Try.prog) (w := w) 27 A n c bytes_under .i64 i (by omega) (by omega), bytes_size]
  simp only [Result.andThen, sliced, Int.toNat_natCast]
  rfl
end Go.Proofs.Ytkbefhmgcodpaaa
namespace Go.Proofs.Ytkbefhmgcodpaaa
open Go.RowKit

theorem xcReadWords_any (G off n c kb m : Nat) (t tk : TypeId) (l : List UInt32) (bs : List UInt8) (hl : l.length = 16) (hoff : off + n ≤ 16) (hc : n ≤ c) (hb : bs.length = m) (hm : 4 * n ≤ m) (hm2 : m ≤ 1000) (hkG : G ≠ kb) (w : World) (hG : Blk w G t (l.map u32v)) (hK : Blk w kb tk (bs.map u8v)) :
    Calls Try.prog 28 #[.slice (some ⟨G, off, none⟩) n c, .slice (some ⟨kb, 0, none⟩) m m] w fun e w' => e = .returned (.tuple #[]) ∧ Blk w' G t ((fillW l off (wordL bs) n).map u32v) ∧ w.grownBy w' (some G) := by
  have HG := Lib.hid hG
  have HK := Lib.hid hK
  have HL := Lib.hid hl
  have HB := Lib.hid hb
  have HKG := Lib.hid hkG
  clear hG hK hl hb hkG
  go_enter Try.func28, Try.ntmps28
  go_wp2
  go_loopw [7, 4] (fun i _ wr => ∃ j : Nat, j ≤ n ∧ i = .int .i64 j ∧ Blk wr G t ((fillW l off (wordL bs) j).map u32v) ∧ Blk wr kb tk (bs.map u8v) ∧ w.grownBy wr (some G)) (fun i _ _ => n - (intOf i).toNat)
  case atStart => exact ⟨0, by omega, rfl, HG.out, HK.out, World.grownBy.refl _ _⟩
  case round =>
    obtain ⟨j, hj, rfl, hblk, hk, hg⟩ := hrel
    by_cases hlt : j < n
    · have rd := hk.rd (4 * j) 4 (by have := HB.out; omega)
      have RL := Lib.hid (readLittle_any _ _ 4 (m - 4 * j) _ (by omega) wr rd)
      have hlen : (fillW l off (wordL bs) j).length = 16 := by rw [fillW_length]; exact HL.out
      have fx := hblk.word (off + j) (by omega)
      have zx := hblk.frozen (off + j)
      have WW := Lib.hid (word_wrap bs j)
      have HN := Lib.hid (And.intro (hblk.setWord (off + j) (wordL bs j)) (And.intro (hk.far (p := ⟨G, off + j, none⟩) HKG.out.symm (.int .u32 ((wordL bs j).toNat : Int))) (grown_set hg (off + j) (.int .u32 ((wordL bs j).toNat : Int)))))
      clear hblk hk hg rd hlen
      go_wp2_with fail
      rw [show (j + 1) * 4 - j * 4 = 4 by omega, Nat.mul_comm j 4]
      refine RL.out.mono ?_
      rintro e w1 ⟨rfl, rfl⟩
      clear RL
      obtain ⟨N, hN⟩ : ∃ N, numL (((bs.drop (4 * j)).take 4).take 8) = N := ⟨_, rfl⟩
      have WN := WW.out
      rw [hN] at WN ⊢
      clear hN WW
      go_wp2
      go_roundw
      case rel =>
        exact ⟨j + 1, by omega, by go_num, HN.out.1, HN.out.2.1, HN.out.2.2⟩
      case measure => simp [intOf]; omega
    · obtain rfl : j = n := by omega
      have HN := Lib.hid (And.intro hblk hg)
      clear hblk hg hk
      go_wp2
      refine bodyPost_end (results_none rfl _ _ _) rfl ⟨rfl, HN.out.1, HN.out.2⟩

theorem grown_trans' {a w w' : World} {row : Option Nat} (h : a.grownBy w row) (k : w.grownBy w' row) : a.grownBy w' row :=
  ⟨k.os.trans h.os, k.tape.trans h.tape, k.output.trans h.output, Nat.le_trans h.size k.size, fun i hi hr => (k.block i (Nat.lt_of_lt_of_le hi h.size) hr).trans (h.block i hi hr)⟩
theorem grown_below {a w w' : World} {row : Option Nat} (h : a.grownBy w row) (hb : Below w.heap.size w w') : a.grownBy w' row :=
  grown_trans' h ⟨hb.os, hb.tape, hb.output, hb.size, fun i hi _ => hb.block i hi⟩
theorem grown_drew {a w : World} {row : Option Nat} (h : a.grownBy w row) : a.grownBy w.drew row := ⟨h.os, h.tape, h.output, h.size, h.block⟩
/-- l with the bytes of words laid from off on -/
def writeW (l : List UInt8) (off : Nat) (f : Nat → UInt32) : Nat → List UInt8
  | 0 => l
  | j + 1 => putL (writeW l off f j) (off + 4 * j) (littleL (f j).toNat 4)
theorem writeW_length (l : List UInt8) (off : Nat) (f : Nat → UInt32) : ∀ j, off + 4 * j ≤ l.length → (writeW l off f j).length = l.length
  | 0, _ => rfl
  | j + 1, h => by
    have := writeW_length l off f j (by omega)
    rw [writeW, putL_length _ _ _ (by rw [littleL_length]; omega), this]

set_option maxRecDepth 100000 in
theorem xcWriteWords_any (G off c H o2 n c2 M : Nat) (t th : TypeId) (l : List UInt8) (ws : List UInt32) (hl : l.length = M) (hM : off + 4 * n ≤ M) (_hM2 : M ≤ 1000) (hc : 4 * n ≤ c) (hcm : c ≤ 1000) (hw : o2 + n ≤ ws.length) (hc2 : n ≤ c2) (hHG : H ≠ G) (w : World) (hG : Blk w G t (l.map u8v)) (hH : Blk w H th (ws.map u32v)) :
    Calls Try.prog 17 #[.slice (some ⟨G, off, none⟩) (4 * n : Nat) c, .slice (some ⟨H, o2, none⟩) n c2] w fun e w' => e = .returned (.tuple #[]) ∧ Blk w' G t ((writeW l off (fun i => wd ws (o2 + i)) n).map u8v) ∧ w.grownBy w' (some G) := by
  have HG := Lib.hid hG
  have HH := Lib.hid hH
  have HL := Lib.hid hl
  have HW := Lib.hid hw
  have HHG := Lib.hid hHG
  clear hG hH hl hw hHG
  go_enter Try.func17, Try.ntmps17
  go_wp2
  go_loopw [8, 4, 5] (fun i _ _ wr => ∃ j : Nat, j ≤ n ∧ i = .int .i64 j ∧ Blk wr G t ((writeW l off (fun i => wd ws (o2 + i)) j).map u8v) ∧ Blk wr H th (ws.map u32v) ∧ w.grownBy wr (some G)) (fun i _ _ _ => n - (intOf i).toNat)
  case atStart => exact ⟨0, by omega, rfl, HG.out, HH.out, World.grownBy.refl _ _⟩
  case round =>
    clear HG HH
    obtain ⟨j, hj, rfl, hg, hh, hgr⟩ := hrel
    by_cases hlt : j < n
    · have fx := hh.word (o2 + j) (by have := HW.out; omega)
      have hlen : (writeW l off (fun i => wd ws (o2 + i)) j).length = M := by rw [writeW_length _ _ _ _ (by have := HL.out; omega)]; exact HL.out
      have hnx : writeW l off (fun i => wd ws (o2 + i)) (j + 1) = putL (writeW l off (fun i => wd ws (o2 + i)) j) (off + 4 * j) (littleL (wd ws (o2 + j)).toNat 4) := rfl
      generalize writeW l off (fun i => wd ws (o2 + i)) j = cur at hg hlen hnx
      have HX := Lib.hid hnx
      clear hnx
      obtain ⟨x, hx⟩ : ∃ x, wd ws (o2 + j) = x := ⟨_, rfl⟩
      rw [hx] at fx
      have HB := Lib.hid (And.intro hg (And.intro hh hgr))
      clear hg hh hgr
      have hwr : IntKind.i64.wrap ((j : Int) * 4) = (j : Int) * 4 := IntWalk.i64_in _ (by omega)
      have hwc : IntKind.u64.wrap (x.toNat : Int) = (x.toNat : Int) := by
        have := x.toNat_lt
        rw [IntKind.wrap_u64]
        omega
      have hsl : ∀ w' : World, (Instr.sliceAt 27 (.slice (some ⟨G, off, none⟩) (4 * n) c) (some (.int .i64 ((j : Int) * 4))) none none).run Try.prog w' = .ok (.slice (some ⟨G, off + 4 * j, none⟩) (4 * n - 4 * j) (c - 4 * j)) w' := by
        intro w'
        have h := slice_l (some ⟨G, off, none⟩) (4 * n) c (4 * j) (by omega) w'
        rw [addrOf, if_neg (by omega), Option.map_some, Go.WideShapes.add_plain, Nat.mul_one, show ((4 * j : Nat) : Int) = (j : Int) * 4 by omega] at h
        exact h
      have HLI := Lib.hid (fun w' : World => little_any x.toNat (by have := x.toNat_lt; omega) 4 (by omega) (by omega) w')
      have HLEN := Lib.hid hlen
      clear hlen
      go_upto_region 3 with fail
      refine wp_region_held_drew (S := fun _ => True) (by kernel_rfl) (trivial) (fun hHeld => ?_)
      refine take_first (v := ?_) 0 rfl (by kernel_rfl) (by kernel_rfl) (by kernel_rfl) (fun _ _ _ h => h) (Or.inl ⟨by rfl, ?_⟩) (by assumption) ?_
      rotate_left
      · (intro w hSw; (try dsimp only at hSw); go_simp; try with_reducible rfl)
      (try simp only [Act.put, List.setIfInBounds_toArray, List.set_cons_zero, List.set_cons_succ])
      refine take_first (v := ?_) 1 rfl (by kernel_rfl) (by kernel_rfl) (by kernel_rfl) (fun _ _ _ h => h) (Or.inl ⟨by rfl, ?_⟩) (by assumption) ?_
      rotate_left
      · (intro w hSw; (try dsimp only at hSw); go_simp; try with_reducible rfl)
      (try simp only [Act.put, List.setIfInBounds_toArray, List.set_cons_zero, List.set_cons_succ])
      refine take_first (v := ?_) 2 rfl (by kernel_rfl) (by kernel_rfl) (by kernel_rfl) (fun _ _ _ h => h) (Or.inl ⟨by rfl, ?_⟩) (by assumption) ?_
      rotate_left
      · (intro w hSw; (try dsimp only at hSw); go_simp; try with_reducible rfl)
      (try simp only [Act.put, List.setIfInBounds_toArray, List.set_cons_zero, List.set_cons_succ])
      refine take_first (v := ?_) 3 rfl (by kernel_rfl) (by kernel_rfl) (by kernel_rfl) (fun _ _ _ h => h) (Or.inl ⟨by rfl, ?_⟩) (by assumption) ?_
      rotate_left
      · (intro w hSw; (try dsimp only at hSw); go_simp; try with_reducible rfl)
      (try simp only [Act.put, List.setIfInBounds_toArray, List.set_cons_zero, List.set_cons_succ])
      refine take_first (v := ?_) 4 rfl (by kernel_rfl) (by kernel_rfl) (by kernel_rfl) (fun _ _ _ h => h) (Or.inl ⟨by rfl, ?_⟩) (by assumption) ?_
      rotate_left
      · (intro w hSw; (try dsimp only at hSw); go_simp; try with_reducible rfl)
      (try simp only [Act.put, List.setIfInBounds_toArray, List.set_cons_zero, List.set_cons_succ])
      refine take_first (v := ?_) 5 rfl (by kernel_rfl) (by kernel_rfl) (by kernel_rfl) (fun _ _ _ h => h) (Or.inl ⟨by rfl, ?_⟩) (by assumption) ?_
      rotate_left
      · (intro w hSw; (try dsimp only at hSw); go_simp; try with_reducible rfl)
      (try simp only [Act.put, List.setIfInBounds_toArray, List.set_cons_zero, List.set_cons_succ])
      refine step_one 6 rfl (by kernel_rfl) (fun K hK => ?_)
      go_simp
      refine (HLI.out _).mono ?_
      rintro e wq ⟨rfl, hown, hbq⟩
      have HB8 := Lib.hid (show Blk wq G t (cur.map u8v) ∧ Blk wq H th (ws.map u32v) ∧ w.grownBy wq (some G) from ⟨HB.out.1.drew.below hbq HB.out.1.lt, HB.out.2.1.drew.below hbq HB.out.2.1.lt, grown_below (grown_drew HB.out.2.2) hbq⟩)
      have HO := Lib.hid hown
      clear hown hbq
      go_wp2_with fail
      refine hK.out _ _ (trivial) (fun hHeld => ?_)
      clear hK K
      (try simp only [Act.put, List.setIfInBounds_toArray, List.set_cons_zero, List.set_cons_succ])
      refine step_one 7 rfl (by kernel_rfl) (fun K hK => ?_)
      refine step_copy_bytes _ rfl (.tmp 16) (.tmp 19) 27 27 (by rfl) 5 Try.underlying27 (by kernel_rfl) G (off + 4 * j) (4 * n - 4 * j) (c - 4 * j) ⟨wr.heap.size, 0, none⟩ 4 4 (by rfl) (by rfl) (cur.map u8v) t HB8.out.1 ((littleL x.toNat 4).map u8v) (by rw [List.length_map, littleL_length]; exact (Nat.min_eq_left (show 4 ≤ 4 * n - 4 * j by omega)).symm) (Rd.of_own HO.out).src (by simp only [List.length_map, littleL_length, HLEN.out]; omega) (u8v_one _) ?_
      intro w8 hb8 hg8
      rw [putL_map] at hb8
      refine hK.out _ _ (trivial) (fun hHeld => ?_)
      clear hK K
      (try simp only [Act.put, List.setIfInBounds_toArray, List.set_cons_zero, List.set_cons_succ])
      refine wpAnyH_done (by kernel_rfl) ?_ _
      have HN := Lib.hid (show Blk w8 G t ((writeW l off (fun i => wd ws (o2 + i)) (j + 1)).map u8v) ∧ Blk w8 H th (ws.map u32v) ∧ w.grownBy w8 (some G) from by
        rw [HX.out, hx]
        exact ⟨hb8, HB8.out.2.1.grown hg8 (by intro e; injection e with e; exact HHG.out e), grown_trans' HB8.out.2.2 hg8⟩)
      clear hb8 hg8 HB8 HB HO hwr hwc hsl
      go_wp2
      go_roundw
      case rel => exact ⟨j + 1, by omega, by go_num, HN.out.1, HN.out.2.1, HN.out.2.2⟩
      case measure => simp [intOf]; omega
    · obtain rfl : j = n := by omega
      have HN := Lib.hid (And.intro hg hgr)
      clear hg hgr hh
      go_wp2
      refine bodyPost_end (results_none rfl _ _ _) rfl ⟨rfl, HN.out.1, HN.out.2⟩

set_option maxRecDepth 100000 in
theorem xcStateOf_any (k inn : List UInt8) (hk : k.length = 32) (hin : inn.length = 16) (w : World) :
    Calls Try.prog 16 #[.agg (k.map u8v).toArray, .agg (inn.map u8v).toArray] w fun e w' => e = .returned (.agg ((xcW k inn).map u32v).toArray) ∧ Below w.heap.size w w' := by
  obtain ⟨ck, hck⟩ : ∃ ck, (k.map u8v).toArray = ck := ⟨_, rfl⟩
  obtain ⟨ci, hci⟩ : ∃ ck, (inn.map u8v).toArray = ck := ⟨_, rfl⟩
  rw [hck, hci]
  have HM := Lib.hid (show Mem w [blkE (w.heap.size + 1 + 1) 44 z16, blkE (w.heap.size + 1) 24 (inn.map u8v), blkE w.heap.size 23 (k.map u8v)] (((w.alloc (.cells ck 23)).alloc (.cells ci 24)).alloc (.cells #[.int .u32 0, .int .u32 0, .int .u32 0, .int .u32 0, .int .u32 0, .int .u32 0, .int .u32 0, .int .u32 0, .int .u32 0, .int .u32 0, .int .u32 0, .int .u32 0, .int .u32 0, .int .u32 0, .int .u32 0, .int .u32 0] 44)) from (((Mem.nil w).alloc rfl 23 ck (k.map u8v) hck.symm).alloc (by simp) 24 ci (inn.map u8v) hci.symm).alloc (by simp) 44 #[.int .u32 0, .int .u32 0, .int .u32 0, .int .u32 0, .int .u32 0, .int .u32 0, .int .u32 0, .int .u32 0, .int .u32 0, .int .u32 0, .int .u32 0, .int .u32 0, .int .u32 0, .int .u32 0, .int .u32 0, .int .u32 0] z16 rfl)
  have HK := Lib.hid hk
  have HN := Lib.hid hin
  have HBM := Lib.hid base_map
  clear hk hin hck hci
  go_enter Try.func16, Try.ntmps16
  go_upto_region 1 with fail
  generalize hw1 : (((w.alloc (.cells ck 23)).alloc (.cells ci 24)).alloc (.cells #[.int .u32 0, .int .u32 0, .int .u32 0, .int .u32 0, .int .u32 0, .int .u32 0, .int .u32 0, .int .u32 0, .int .u32 0, .int .u32 0, .int .u32 0, .int .u32 0, .int .u32 0, .int .u32 0, .int .u32 0, .int .u32 0] 44)) = w1 at HM ⊢
  have HS1 := Lib.hid (show w1.heap.size = w.heap.size + 3 by rw [← hw1]; simp)
  clear hw1
  have HA := Lib.hid (show Mem w [blkE w1.heap.size 44 z16, blkE (w.heap.size + 1 + 1) 44 z16, blkE (w.heap.size + 1) 24 (inn.map u8v), blkE w.heap.size 23 (k.map u8v)] (w1.alloc (.cells #[.int .u32 0, .int .u32 0, .int .u32 0, .int .u32 0, .int .u32 0, .int .u32 0, .int .u32 0, .int .u32 0, .int .u32 0, .int .u32 0, .int .u32 0, .int .u32 0, .int .u32 0, .int .u32 0, .int .u32 0, .int .u32 0] 44)) from HM.out.alloc rfl 44 #[.int .u32 0, .int .u32 0, .int .u32 0, .int .u32 0, .int .u32 0, .int .u32 0, .int .u32 0, .int .u32 0, .int .u32 0, .int .u32 0, .int .u32 0, .int .u32 0, .int .u32 0, .int .u32 0, .int .u32 0, .int .u32 0] z16 rfl)
  go_upto_region 2 with (refine wpList_store_blk rfl 44 (.tmp 5) (.tmp 6) rfl w1.heap.size (baseW.map u32v) rfl (by rw [HBM.out]; rfl) 44 z16 (HA.out.blk 0 rfl) (cells16 baseW rfl) rfl (u32v_one _) ?_; intro w2 hb2 hg2)
  (try simp only [Act.put])
  replace HM := Lib.hid (show Mem w [blkE w1.heap.size 44 (baseW.map u32v), blkE (w.heap.size + 1 + 1) 44 z16, blkE (w.heap.size + 1) 24 (inn.map u8v), blkE w.heap.size 23 (k.map u8v)] w2 from HA.out.put 0 rfl _ hg2 hb2)
  clear hb2 hg2 HA HBM
  have HGN := Lib.hid (show w1.heap.size ≠ w.heap.size ∧ w1.heap.size ≠ w.heap.size + 1 by have := HS1.out; omega)
  clear HS1
  generalize w1.heap.size = G at HM HGN ⊢
  go_cut [] (fun wx => Mem w [blkE G 44 ((fillW baseW 4 (wordL k) 8).map u32v), blkE (w.heap.size + 1 + 1) 44 z16, blkE (w.heap.size + 1) 24 (inn.map u8v), blkE w.heap.size 23 (k.map u8v)] wx)
  case first =>
    have RW := Lib.hid (fun w' : World => fun h1 h2 => xcReadWords_any G 4 8 12 w.heap.size 32 44 23 (baseW) k rfl (by omega) (by omega) HK.out (by omega) (by omega) HGN.out.1 w' h1 h2)
    go_region_with ((go_at_call 28; refine (RW.out w2.drew (HM.out.drew.blk 0 rfl) (HM.out.drew.blk 3 rfl)).mono ?_; rintro e w4 ⟨rfl, hb4, hg4⟩))
    all_goals (go_wp2; go_meet; exact HM.out.drew.put 0 rfl _ hg4 hb4)
  case rest =>
    replace HM := Lib.hid hcut
    clear hcut
    go_upto_region 3 with fail
    go_cut [] (fun wx => Mem w [blkE G 44 ((fillW (fillW baseW 4 (wordL k) 8) 12 (wordL inn) 4).map u32v), blkE (w.heap.size + 1 + 1) 44 z16, blkE (w.heap.size + 1) 24 (inn.map u8v), blkE w.heap.size 23 (k.map u8v)] wx)
    case first =>
      have RW := Lib.hid (fun w' : World => fun h1 h2 => xcReadWords_any G 12 4 4 (w.heap.size + 1) 16 44 24 (fillW baseW 4 (wordL k) 8) inn (by rw [fillW_length]; rfl) (by omega) (by omega) HN.out (by omega) (by omega) HGN.out.2 w' h1 h2)
      go_region_with ((go_at_call 28; refine (RW.out wc.drew (HM.out.drew.blk 0 rfl) (HM.out.drew.blk 2 rfl)).mono ?_; rintro e w4 ⟨rfl, hb4, hg4⟩))
      all_goals (go_wp2; go_meet; exact HM.out.drew.put 0 rfl _ hg4 hb4)
    case rest =>
      replace HM := Lib.hid hcut
      clear hcut
      have HZ := Lib.hid (show fillW (fillW baseW 4 (wordL k) 8) 12 (wordL inn) 4 = xcW k inn from rfl)
      have HLz := Lib.hid (xcW_length k inn)
      rw [HZ.out] at HM
      clear HZ
      obtain ⟨lz, hlz⟩ : ∃ l, xcW k inn = l := ⟨_, rfl⟩
      rw [hlz] at HM HLz
      have HSZ := Lib.hid hlz
      clear hlz
      obtain ⟨cz, hcz⟩ : ∃ cz, (lz.map u32v).toArray = cz := ⟨_, rfl⟩
      have HCZ := Lib.hid hcz
      clear hcz
      go_wp2_with (first | (refine wpList_load_blk rfl 44 (.tmp 5) rfl G rfl 44 (lz.map u32v) (HM.out.blk 0 rfl) 16 43 Try.underlying44 (cells16 lz HLz.out) ?_; rw [HCZ.out]) | (refine wpList_store_blk rfl 44 (.tmp 4) (.tmp 13) rfl (w.heap.size + 1 + 1) (lz.map u32v) rfl (by show Value.agg cz = _; rw [HCZ.out]) 44 z16 (HM.out.blk 1 rfl) (cells16 lz HLz.out) (by rw [List.length_map, HLz.out]; rfl) (u32v_one _) ?_; intro w9 hb9 hg9))
      exact bodyPost_ret (results_blk rfl _ _ (w.heap.size + 1 + 1) 44 (lz.map u32v) 16 43 rfl hb9 Try.underlying44 (cells16 lz HLz.out)) rfl ⟨by rw [HSZ.out], (HM.out.put 1 rfl _ hg9 hb9).bel⟩
end Go.Proofs.Ytkbefhmgcodpaaa
namespace Go.Proofs.Ytkbefhmgcodpaaa
open Go.RowKit

theorem der_eight (b0 b1 b2 b3 c0 c1 c2 c3 : List UInt8) (hb0 : b0.length = 4) (hb1 : b1.length = 4) (hb2 : b2.length = 4) (hb3 : b3.length = 4) (hc0 : c0.length = 4) (hc1 : c1.length = 4) (hc2 : c2.length = 4) (hc3 : c3.length = 4) :
    putL (putL (putL (putL (putL (putL (putL (putL (List.replicate 32 0) 0 b0) 4 b1) 8 b2) 12 b3) 16 c0) 20 c1) 24 c2) 28 c3 = b0 ++ (b1 ++ (b2 ++ (b3 ++ (c0 ++ (c1 ++ (c2 ++ c3)))))) := by
  match b0, hb0, b1, hb1, b2, hb2, b3, hb3, c0, hc0, c1, hc1, c2, hc2, c3, hc3 with
  | [_, _, _, _], _, [_, _, _, _], _, [_, _, _, _], _, [_, _, _, _], _, [_, _, _, _], _, [_, _, _, _], _, [_, _, _, _], _, [_, _, _, _], _ => simp [putL]
theorem der_write (ms : List UInt32) (h : ms.length = 16) : writeW (writeW (List.replicate 32 (0 : UInt8)) 0 (fun i => wd ms (0 + i)) 4) 16 (fun i => wd ms (12 + i)) 4 = (ms.take 4 ++ ms.drop 12).flatMap fun x => littleL x.toNat 4 := by
  match ms, h with
  | [a0, a1, a2, a3, a4, a5, a6, a7, a8, a9, a10, a11, a12, a13, a14, a15], _ =>
    have h4 := der_eight (littleL a0.toNat 4) (littleL a1.toNat 4) (littleL a2.toNat 4) (littleL a3.toNat 4) (littleL a12.toNat 4) (littleL a13.toNat 4) (littleL a14.toNat 4) (littleL a15.toNat 4) (littleL_length _ _) (littleL_length _ _) (littleL_length _ _) (littleL_length _ _) (littleL_length _ _) (littleL_length _ _) (littleL_length _ _) (littleL_length _ _)
    simpa [writeW, wd] using h4

set_option maxRecDepth 100000 in
theorem deriveC : DeriveC := by
  intro k inn hk hin w
  have SC := fun w' : World => xcStateOf_any k inn hk hin w'
  have CC := fun w' : World => core_any (xcW k inn) (xcW_length k inn) w'
  rw [show coreW 10 (xcW k inn) = xcoreW k inn from rfl] at CC
  have hms := xcoreW_length k inn
  have hdr : deriveL k inn = ((xcoreW k inn).take 4 ++ (xcoreW k inn).drop 12).flatMap fun x => littleL x.toNat 4 := rfl
  rw [← der_write _ hms] at hdr
  generalize xcoreW k inn = ms at CC hms hdr
  obtain ⟨ck, hck⟩ : ∃ ck, (k.map u8v).toArray = ck := ⟨_, rfl⟩
  obtain ⟨ci, hci⟩ : ∃ ck, (inn.map u8v).toArray = ck := ⟨_, rfl⟩
  obtain ⟨cx, hcx⟩ : ∃ c, ((xcW k inn).map u32v).toArray = c := ⟨_, rfl⟩
  obtain ⟨cm, hcm⟩ : ∃ c, (ms.map u32v).toArray = c := ⟨_, rfl⟩
  rw [hck, hci, hcx] at SC
  rw [hcx, hcm] at CC
  rw [hck, hci]
  have HM := Lib.hid (show Mem w [blkE (w.heap.size + 1 + 1) 23 (aeZ 32), blkE (w.heap.size + 1) 24 (inn.map u8v), blkE w.heap.size 23 (k.map u8v)] (((w.alloc (.cells ck 23)).alloc (.cells ci 24)).alloc (.cells #[.int .u8 0, .int .u8 0, .int .u8 0, .int .u8 0, .int .u8 0, .int .u8 0, .int .u8 0, .int .u8 0, .int .u8 0, .int .u8 0, .int .u8 0, .int .u8 0, .int .u8 0, .int .u8 0, .int .u8 0, .int .u8 0, .int .u8 0, .int .u8 0, .int .u8 0, .int .u8 0, .int .u8 0, .int .u8 0, .int .u8 0, .int .u8 0, .int .u8 0, .int .u8 0, .int .u8 0, .int .u8 0, .int .u8 0, .int .u8 0, .int .u8 0, .int .u8 0] 23)) from (((Mem.nil w).alloc rfl 23 ck (k.map u8v) hck.symm).alloc (by simp) 24 ci (inn.map u8v) hci.symm).alloc (by simp) 23 #[.int .u8 0, .int .u8 0, .int .u8 0, .int .u8 0, .int .u8 0, .int .u8 0, .int .u8 0, .int .u8 0, .int .u8 0, .int .u8 0, .int .u8 0, .int .u8 0, .int .u8 0, .int .u8 0, .int .u8 0, .int .u8 0, .int .u8 0, .int .u8 0, .int .u8 0, .int .u8 0, .int .u8 0, .int .u8 0, .int .u8 0, .int .u8 0, .int .u8 0, .int .u8 0, .int .u8 0, .int .u8 0, .int .u8 0, .int .u8 0, .int .u8 0, .int .u8 0] (aeZ 32) rfl)
  have HC := Lib.hid (And.intro hck (And.intro hci hcm))
  have HL := Lib.hid (And.intro hk hin)
  have HMS := Lib.hid hms
  have HDR := Lib.hid hdr
  have HSC := Lib.hid SC
  have HCC := Lib.hid CC
  clear hck hci hcx hcm hk hin hms hdr SC CC
  go_enter Try.func7, Try.ntmps7
  go_upto_region 1 with fail
  generalize (((w.alloc (.cells ck 23)).alloc (.cells ci 24)).alloc (.cells #[.int .u8 0, .int .u8 0, .int .u8 0, .int .u8 0, .int .u8 0, .int .u8 0, .int .u8 0, .int .u8 0, .int .u8 0, .int .u8 0, .int .u8 0, .int .u8 0, .int .u8 0, .int .u8 0, .int .u8 0, .int .u8 0, .int .u8 0, .int .u8 0, .int .u8 0, .int .u8 0, .int .u8 0, .int .u8 0, .int .u8 0, .int .u8 0, .int .u8 0, .int .u8 0, .int .u8 0, .int .u8 0, .int .u8 0, .int .u8 0, .int .u8 0, .int .u8 0] 23)) = w1 at HM ⊢
  go_wp2_with (first | (refine wpList_load_blk rfl 23 (.tmp 2) rfl w.heap.size rfl 23 (k.map u8v) (HM.out.blk 2 rfl) 32 5 Try.underlying23 (cells32 k HL.out.1) ?_; rw [HC.out.1]) | (refine wpList_load_blk rfl 24 (.tmp 3) rfl (w.heap.size + 1) rfl 24 (inn.map u8v) (HM.out.blk 1 rfl) 16 5 Try.underlying24 (xc_cells16 _ HL.out.2) ?_; rw [HC.out.2.1]))
  refine (HSC.out _).mono ?_
  rintro e w2 ⟨rfl, hb⟩
  replace HM := Lib.hid (show Mem w [blkE (w.heap.size + 1 + 1) 23 (aeZ 32), blkE (w.heap.size + 1) 24 (inn.map u8v), blkE w.heap.size 23 (k.map u8v)] w2 from HM.out.below hb)
  clear hb
  go_wp2_with fail
  refine (HCC.out _).mono ?_
  rintro e w3 ⟨rfl, hb⟩
  replace HM := Lib.hid (show Mem w [blkE (w.heap.size + 1 + 1) 23 (aeZ 32), blkE (w.heap.size + 1) 24 (inn.map u8v), blkE w.heap.size 23 (k.map u8v)] w3 from HM.out.below hb)
  clear hb
  have HA := Lib.hid (show Mem w [blkE w3.heap.size 44 z16, blkE (w.heap.size + 1 + 1) 23 (aeZ 32), blkE (w.heap.size + 1) 24 (inn.map u8v), blkE w.heap.size 23 (k.map u8v)] (w3.alloc (.cells #[.int .u32 0, .int .u32 0, .int .u32 0, .int .u32 0, .int .u32 0, .int .u32 0, .int .u32 0, .int .u32 0, .int .u32 0, .int .u32 0, .int .u32 0, .int .u32 0, .int .u32 0, .int .u32 0, .int .u32 0, .int .u32 0] 44)) from HM.out.alloc rfl 44 #[.int .u32 0, .int .u32 0, .int .u32 0, .int .u32 0, .int .u32 0, .int .u32 0, .int .u32 0, .int .u32 0, .int .u32 0, .int .u32 0, .int .u32 0, .int .u32 0, .int .u32 0, .int .u32 0, .int .u32 0, .int .u32 0] z16 rfl)
  go_upto_region 2 with (refine wpList_store_blk rfl 44 (.tmp 5) (.tmp 10) rfl w3.heap.size (ms.map u32v) rfl (by show Value.agg cm = _; rw [HC.out.2.2]) 44 z16 (HA.out.blk 0 rfl) (cells16 ms HMS.out) (by rw [List.length_map, HMS.out]; rfl) (u32v_one _) ?_; intro w4 hb4 hg4)
  (try simp only [Act.put])
  replace HM := Lib.hid (show Mem w [blkE w3.heap.size 44 (ms.map u32v), blkE (w.heap.size + 1 + 1) 23 (aeZ 32), blkE (w.heap.size + 1) 24 (inn.map u8v), blkE w.heap.size 23 (k.map u8v)] w4 from HA.out.put 0 rfl _ hg4 hb4)
  have HP := Lib.hid (show w3.heap.size < w4.heap.size by have := hg4.size; simp at this; omega)
  clear hb4 hg4 HA
  generalize w3.heap.size = P at HM HP ⊢
  have HA := Lib.hid (show Mem w [blkE w4.heap.size 23 ((List.replicate 32 (0 : UInt8)).map u8v), blkE P 44 (ms.map u32v), blkE (w.heap.size + 1 + 1) 23 (aeZ 32), blkE (w.heap.size + 1) 24 (inn.map u8v), blkE w.heap.size 23 (k.map u8v)] (w4.alloc (.cells #[.int .u8 0, .int .u8 0, .int .u8 0, .int .u8 0, .int .u8 0, .int .u8 0, .int .u8 0, .int .u8 0, .int .u8 0, .int .u8 0, .int .u8 0, .int .u8 0, .int .u8 0, .int .u8 0, .int .u8 0, .int .u8 0, .int .u8 0, .int .u8 0, .int .u8 0, .int .u8 0, .int .u8 0, .int .u8 0, .int .u8 0, .int .u8 0, .int .u8 0, .int .u8 0, .int .u8 0, .int .u8 0, .int .u8 0, .int .u8 0, .int .u8 0, .int .u8 0] 23)) from HM.out.alloc rfl 23 #[.int .u8 0, .int .u8 0, .int .u8 0, .int .u8 0, .int .u8 0, .int .u8 0, .int .u8 0, .int .u8 0, .int .u8 0, .int .u8 0, .int .u8 0, .int .u8 0, .int .u8 0, .int .u8 0, .int .u8 0, .int .u8 0, .int .u8 0, .int .u8 0, .int .u8 0, .int .u8 0, .int .u8 0, .int .u8 0, .int .u8 0, .int .u8 0, .int .u8 0, .int .u8 0, .int .u8 0, .int .u8 0, .int .u8 0, .int .u8 0, .int .u8 0, .int .u8 0] ((List.replicate 32 (0 : UInt8)).map u8v) rfl)
  go_upto_region 3 with fail
  replace HM := HA
  clear HA
  generalize w4.alloc (.cells #[.int .u8 0, .int .u8 0, .int .u8 0, .int .u8 0, .int .u8 0, .int .u8 0, .int .u8 0, .int .u8 0, .int .u8 0, .int .u8 0, .int .u8 0, .int .u8 0, .int .u8 0, .int .u8 0, .int .u8 0, .int .u8 0, .int .u8 0, .int .u8 0, .int .u8 0, .int .u8 0, .int .u8 0, .int .u8 0, .int .u8 0, .int .u8 0, .int .u8 0, .int .u8 0, .int .u8 0, .int .u8 0, .int .u8 0, .int .u8 0, .int .u8 0, .int .u8 0] 23) = w5 at HM ⊢
  have HPQ := Lib.hid (show P ≠ w4.heap.size from Nat.ne_of_lt HP.out)
  clear HP
  generalize w4.heap.size = Q at HM HPQ ⊢
  go_cut [] (fun wx => Mem w [blkE Q 23 ((writeW (List.replicate 32 (0 : UInt8)) 0 (fun i => wd ms (0 + i)) 4).map u8v), blkE P 44 (ms.map u32v), blkE (w.heap.size + 1 + 1) 23 (aeZ 32), blkE (w.heap.size + 1) 24 (inn.map u8v), blkE w.heap.size 23 (k.map u8v)] wx)
  case first =>
    have RW := Lib.hid (fun w' : World => fun h1 h2 => xcWriteWords_any Q 0 32 P 0 4 16 32 23 44 (List.replicate 32 (0 : UInt8)) ms rfl (by omega) (by omega) (by omega) (by omega) (by rw [HMS.out]; omega) (by omega) HPQ.out w' h1 h2)
    go_region_with ((go_at_call 17; refine (RW.out w5.drew (HM.out.drew.blk 0 rfl) (HM.out.drew.blk 1 rfl)).mono ?_; rintro e w4 ⟨rfl, hb4, hg4⟩))
    all_goals (go_wp2; go_meet; exact HM.out.drew.put 0 rfl _ hg4 hb4)
  case rest =>
    replace HM := Lib.hid hcut
    clear hcut
    go_upto_region 4 with fail
    go_cut [] (fun wx => Mem w [blkE Q 23 ((writeW (writeW (List.replicate 32 (0 : UInt8)) 0 (fun i => wd ms (0 + i)) 4) 16 (fun i => wd ms (12 + i)) 4).map u8v), blkE P 44 (ms.map u32v), blkE (w.heap.size + 1 + 1) 23 (aeZ 32), blkE (w.heap.size + 1) 24 (inn.map u8v), blkE w.heap.size 23 (k.map u8v)] wx)
    case first =>
      have RW := Lib.hid (fun w' : World => fun h1 h2 => xcWriteWords_any Q 16 16 P 12 4 4 32 23 44 (writeW (List.replicate 32 (0 : UInt8)) 0 (fun i => wd ms (0 + i)) 4) ms (by rw [writeW_length _ _ _ _ (by simp)]; rfl) (by omega) (by omega) (by omega) (by omega) (by rw [HMS.out]; omega) (by omega) HPQ.out w' h1 h2)
      go_region_with ((go_at_call 17; refine (RW.out wc.drew (HM.out.drew.blk 0 rfl) (HM.out.drew.blk 1 rfl)).mono ?_; rintro e w4 ⟨rfl, hb4, hg4⟩))
      all_goals (go_wp2; go_meet; exact HM.out.drew.put 0 rfl _ hg4 hb4)
    case rest =>
      replace HM := Lib.hid hcut
      clear hcut
      rw [← HDR.out] at HM
      have HLz := Lib.hid (deriveL_length k inn)
      obtain ⟨lz, hlz⟩ : ∃ l, deriveL k inn = l := ⟨_, rfl⟩
      rw [hlz] at HM HLz
      have HSZ := Lib.hid hlz
      clear hlz
      obtain ⟨cz, hcz⟩ : ∃ cz, (lz.map u8v).toArray = cz := ⟨_, rfl⟩
      have HCZ := Lib.hid hcz
      clear hcz
      go_wp2_with (first | (refine wpList_load_blk rfl 23 (.tmp 6) rfl Q rfl 23 (lz.map u8v) (HM.out.blk 0 rfl) 32 5 Try.underlying23 (cells32 lz HLz.out) ?_; rw [HCZ.out]) | (refine wpList_store_blk rfl 23 (.tmp 4) (.tmp 17) rfl (w.heap.size + 1 + 1) (lz.map u8v) rfl (by show Value.agg cz = _; rw [HCZ.out]) 23 (aeZ 32) (HM.out.blk 2 rfl) (cells32 lz HLz.out) (by rw [List.length_map, HLz.out]; rfl) (u8v_one _) ?_; intro w9 hb9 hg9))
      exact bodyPost_ret (results_blk rfl _ _ (w.heap.size + 1 + 1) 23 (lz.map u8v) 32 5 rfl hb9 Try.underlying23 (cells32 lz HLz.out)) rfl ⟨by rw [HSZ.out], (HM.out.put 2 rfl _ hg9 hb9).bel⟩
end Go.Proofs.Ytkbefhmgcodpaaa
namespace Go.Proofs.Ytkbefhmgcodpaaa
open Go.RowKit

set_option maxHeartbeats 400000 in
set_option maxRecDepth 100000 in
theorem coJoin_any (B c : Nat) (A : Option Addr) (ps : List Part) (hm : ps.length ≤ 1000000) (ht : (flat ps ps.length).length ≤ 1000000) (w : World) (hB : B ≤ w.heap.size) (hp : PartsRd w B A ps) :
    Calls Try.prog 34 #[.slice A ps.length c] w fun e w' => ∃ A' c', e = .returned (.slice A' (flat ps ps.length).length c') ∧ w'.ownsRow w.heap.size 5 1 (.slice A' (flat ps ps.length).length c') (flat ps ps.length).length ((flat ps ps.length).map u8v) ∧ Below w.heap.size w w' := by
  obtain ⟨i0, hi, hz0, hz1, hz2⟩ := info_parts Try.info5
  have HP := Lib.hid hp
  clear hp
  obtain ⟨n, hn⟩ : ∃ n, ps.length = n := ⟨_, rfl⟩
  have HN := Lib.hid hn
  have hfl := flat_le ps
  rw [hn] at hm ht hfl ⊢
  have HFL := Lib.hid hfl
  clear hn hfl
  go_enter Try.func34, Try.ntmps34
  go_wp2
  go_loop [3, 11, 5] (fun s i _ => ∃ j : Nat, j ≤ n ∧ i = .int .i64 j ∧ s = .int .i64 (flat ps j).length) (fun _ i _ => n - (intOf i).toNat)
  case atStart => exact ⟨0, by omega, rfl, rfl⟩
  case round =>
    obtain ⟨j, hj, rfl, rfl⟩ := hrel
    by_cases hlt : j < n
    · have hjp : j < ps.length := by have := HN.out; omega
      obtain ⟨g, rfl, _, hc⟩ := HP.out (by omega)
      obtain ⟨hc1, hr⟩ := hc j hjp
      have hl : ps[j].n = ps[j].l.length := hr.1.symm
      have HL := Lib.hid hl
      have b1 := HFL.out j
      have b2 := HFL.out (j + 1)
      have e2 := congrArg List.length (flat_succ ps j hjp)
      rw [List.length_append] at e2
      have b3 : (flat ps j).length + ps[j].n ≤ 1000000 := by omega
      have HE := Lib.hid e2
      clear hc hr hl e2 b2
      go_wp2
      go_round
      case rel => exact ⟨j + 1, by omega, by go_num, by rw [HE.out, HL.out]; go_num⟩
      case measure => simp [intOf]; omega
    · obtain rfl : j = n := by omega
      go_wp2_with (refine wpList_make_own _ rfl (.const (.int .i64 0)) (.tmp 20) 27 rfl w.heap.size 5 i0 (.int .u8 0) 1 Try.underlying27 hi hz0 hz1 .i64 .i64 (flat ps j).length (flat ps j).length rfl rfl rfl (by rw [hz2]; omega) (by unfold maxLen; omega) (Nat.le_refl _) ?_; intro w1 hown1 hg1)
      go_loopw [6, 24, 8] (fun v i _ wr => ∃ k : Nat, k ≤ j ∧ i = .int .i64 k ∧ wr.ownsRow w.heap.size 5 1 v (flat ps k).length ((flat ps k).map u8v) ∧ Below w.heap.size w wr) (fun _ i _ _ => j - (intOf i).toNat)
      case atStart => exact ⟨0, by omega, rfl, hown1, (Below.refl _ _).grown hg1 (Nat.le_refl _) (by simp)⟩
      case round =>
        obtain ⟨k, hk, rfl, hown, hb⟩ := hrel
        by_cases hlt : k < j
        · have hjp : k < ps.length := by have := HN.out; omega
          obtain ⟨g, rfl, hgB, hc⟩ := HP.out (by omega)
          obtain ⟨hc0, hr0⟩ := hc k hjp
          have hc1 := (hb.cell (p := ⟨g, k, none⟩) (Nat.lt_of_lt_of_le hgB hB)).trans hc0
          have hr := Lib.hid (hr0.below (hb.mono hB))
          have hl : (flat ps (k + 1)).length = (flat ps k).length + ps[k].n := by rw [flat_succ ps k hjp, List.length_append, hr0.1]
          have b3 : (flat ps k).length + ps[k].n ≤ 1000000 := by have := HFL.out (k + 1); omega
          have HL := Lib.hid hl
          have hsz := hb.size
          clear hc hc0 hr0 hl
          go_wp2_with (at_builtin; refine wpList_append_rd _ rfl (.tmp 28) (.tmp 29) 27 rfl w.heap.size 5 i0 (.int .u8 0) Try.underlying27 hi hz0 hz1 hz2 rfl u6 (flat ps k).length _ rfl hown _ _ _ _ _ rfl hr.out (by omega) hsz ?_; intro v' w' hown' hg')
          have HO := Lib.hid hown'
          clear hown'
          go_wp2
          go_roundw
          case rel =>
            refine ⟨k + 1, by omega, by go_num, ?_, hb.grown hg' hsz (own_from hown)⟩
            have h := HO.out
            rw [HL.out, flat_succ ps k hjp, List.map_append]
            exact h
          case measure => simp [intOf]; omega
        · obtain rfl : k = j := by omega
          obtain ⟨A', c', rfl, _⟩ := own_slice hown
          have HO := Lib.hid hown
          clear hown
          go_wp2
          go_ret
          exact ⟨A', c', rfl, HO.out, hb⟩
end Go.Proofs.Ytkbefhmgcodpaaa
namespace Go.Proofs.Ytkbefhmgcodpaaa
open Go.RowKit

set_option maxHeartbeats 1000000 in
set_option maxRecDepth 100000 in
theorem pad_any (n c : Nat) (A : Option Addr) (l : List UInt8) (hn : n ≤ 1000000) (w : World) (hr : Rd w w.heap.size A n l) (m : Nat) (hm : (padL l).length = m) :
    Calls Try.prog 55 #[.slice A n c] w fun e w' => ∃ A' c', e = .returned (.slice A' m c') ∧ Rd w' w'.heap.size A' m (padL l) ∧ Below w.heap.size w w' := by
  obtain ⟨i0, hi, hz0, hz1, hz2⟩ := info_parts Try.info5
  have hl : l.length = n := hr.1
  have hpl : (padL l).length = (16 - n % 16) % 16 := by rw [padL, List.length_replicate, hl]
  by_cases h0 : n % 16 = 0
  · have e0 : m = 0 := by omega
    have en : padL l = [] := List.eq_nil_of_length_eq_zero (by omega)
    rw [en, e0]
    have d0 : ((n : Int) % 16 == 0) = true := by rw [beq_iff_eq]; omega
    clear hr hpl en hl hm e0
    go_enter Try.func55, Try.ntmps55
    go_wp2
    go_ret
    exact ⟨_, _, rfl, Rd.nil _ _ _, Below.refl _ _⟩
  · obtain ⟨q, hq⟩ : ∃ q, n % 16 = q := ⟨_, rfl⟩
    have hm16 : m = 16 - q := by omega
    have en : padL l = List.replicate m 0 := by rw [padL, hl, ← hm, hpl]
    rw [en]
    have d0 : ((n : Int) % 16 == 0) = false := by rw [beq_eq_false_iff_ne]; omega
    have d1 : (n : Int) % 16 = (q : Int) := by omega
    subst hm16
    have e8 : (16 : Int) - ((n : Int) % 16) = ((16 - q : Nat) : Int) := by omega
    clear hr hpl en hl hm
    go_enter Try.func55, Try.ntmps55
    go_wp2_with (refine wpList_make_full _ rfl (.tmp 10) (.tmp 10) 27 rfl w.heap.size 5 i0 (.int .u8 0) 1 Try.underlying27 hi hz0 hz1 .i64 .i64 _ _ (16 - q) rfl rfl (by first | omega | (rw [IntKind.wrap_i64]; omega)) (by first | omega | (rw [IntKind.wrap_i64]; omega)) (by rw [hz2]; omega) (by unfold maxLen; omega) (Nat.le_refl _) ?_; intro w1 hown1 hg1)
    rw [show (Value.int IntKind.u8 0).cells = #[.int .u8 0] from rfl, toList_madeCells_one, Nat.mul_one] at hown1
    rw [show List.replicate (16 - q) (Value.int IntKind.u8 0) = (List.replicate (16 - q) (0 : UInt8)).map u8v by rw [List.map_replicate]; rfl] at hown1
    go_ret
    exact ⟨_, _, rfl, Rd.of_own hown1, (Below.refl _ _).grown hg1 (Nat.le_refl _) (by simp)⟩

set_option maxHeartbeats 1000000 in
set_option maxRecDepth 100000 in
theorem length_any (n c : Nat) (A : Option Addr) (hn : n ≤ 1000000) (w : World) :
    Calls Try.prog 56 #[.slice A n c] w fun e w' => e = .returned (.slice (some ⟨w.heap.size, 0, none⟩) 8 8) ∧ Rd w' w'.heap.size (some ⟨w.heap.size, 0, none⟩) 8 (littleL n 8) ∧ Below w.heap.size w w' := by
  go_enter Try.func56, Try.ntmps56
  go_wp2_with fail
  rw [show (8 : Int) = ((8 : Nat) : Int) from rfl]
  refine (little_any n (by omega) 8 (by omega) (by omega) _).mono ?_
  rintro e w1 ⟨rfl, ho, hb⟩
  have HO := Lib.hid (Rd.of_own ho)
  clear ho
  go_wp2_with fail
  go_ret
  exact ⟨rfl, HO.out, hb⟩

set_option maxRecDepth 100000 in
theorem coJoin_six (g : Nat) (t : TypeId) (A1 A2 A3 A4 A5 A6 : Option Addr) (n1 c1 n2 c2 n3 c3 n4 c4 n5 c5 n6 c6 : Nat) (l1 l2 l3 l4 l5 l6 : List UInt8) (M : Nat) (hM : n1 + n2 + (n3 + n4) + (n5 + n6) = M) (hn : M ≤ 1000000) (w : World) (hb : Blk w g t [.slice A1 n1 c1, .slice A2 n2 c2, .slice A3 n3 c3, .slice A4 n4 c4, .slice A5 n5 c5, .slice A6 n6 c6])
    (h1 : Rd w w.heap.size A1 n1 l1) (h2 : Rd w w.heap.size A2 n2 l2) (h3 : Rd w w.heap.size A3 n3 l3) (h4 : Rd w w.heap.size A4 n4 l4) (h5 : Rd w w.heap.size A5 n5 l5) (h6 : Rd w w.heap.size A6 n6 l6) :
    Calls Try.prog 34 #[.slice (some ⟨g, 0, none⟩) 6 6] w fun e w' => ∃ A' c', e = .returned (.slice A' M c') ∧ Rd w' w'.heap.size A' M (l1 ++ l2 ++ (l3 ++ l4) ++ (l5 ++ l6)) ∧ M ≤ c' ∧ c' ≤ maxLen ∧ Below w.heap.size w w' := by
  have hf : flat [⟨A1, n1, c1, l1⟩, ⟨A2, n2, c2, l2⟩, ⟨A3, n3, c3, l3⟩, ⟨A4, n4, c4, l4⟩, ⟨A5, n5, c5, l5⟩, ⟨A6, n6, c6, l6⟩] 6 = l1 ++ l2 ++ (l3 ++ l4) ++ (l5 ++ l6) := by simp [flat]
  have hl : (l1 ++ l2 ++ (l3 ++ l4) ++ (l5 ++ l6)).length = M := by simp only [List.length_append]; rw [h1.1, h2.1, h3.1, h4.1, h5.1, h6.1, hM]
  have hJ := coJoin_any w.heap.size 6 (some ⟨g, 0, none⟩) [⟨A1, n1, c1, l1⟩, ⟨A2, n2, c2, l2⟩, ⟨A3, n3, c3, l3⟩, ⟨A4, n4, c4, l4⟩, ⟨A5, n5, c5, l5⟩, ⟨A6, n6, c6, l6⟩] (by simp) (by show (flat _ 6).length ≤ _; rw [hf, hl]; exact hn) w (Nat.le_refl _) (fun _ => ⟨g, rfl, hb.lt, fun j hj => by
    rw [hb.cell]
    match j, hj with
    | 0, _ => exact ⟨rfl, h1⟩
    | 1, _ => exact ⟨rfl, h2⟩
    | 2, _ => exact ⟨rfl, h3⟩
    | 3, _ => exact ⟨rfl, h4⟩
    | 4, _ => exact ⟨rfl, h5⟩
    | 5, _ => exact ⟨rfl, h6⟩
    | j + 6, hj => exact absurd hj (by simp)⟩)
  refine hJ.mono ?_
  rintro e w' ⟨A', c', he, ho, hbl⟩
  have e2 : ([⟨A1, n1, c1, l1⟩, ⟨A2, n2, c2, l2⟩, ⟨A3, n3, c3, l3⟩, ⟨A4, n4, c4, l4⟩, ⟨A5, n5, c5, l5⟩, ⟨A6, n6, c6, l6⟩] : List Part).length = 6 := rfl
  rw [e2, hf, hl] at he ho
  obtain ⟨q1, q2, _⟩ := own_addr ho
  exact ⟨A', c', he, Rd.of_own ho, q1, q2, hbl⟩

set_option maxRecDepth 100000 in
set_option maxHeartbeats 4000000 in
theorem tagData_any (Ac Am : Option Addr) (nc cc nm cm : Nat) (c more : List UInt8) (hnc : nc ≤ 400000) (hnm : nm ≤ 400000) (w : World) (hrc : Rd w w.heap.size Ac nc c) (hrm : Rd w w.heap.size Am nm more) (M : Nat) (hM : (macL more c).length = M) :
    Calls Try.prog 45 #[.slice Ac nc cc, .slice Am nm cm] w fun e w' => ∃ A' c', e = .returned (.slice A' M c') ∧ Rd w' w'.heap.size A' M (macL more c) ∧ M ≤ c' ∧ c' ≤ maxLen ∧ M ≤ 1000000 ∧ Below w.heap.size w w' := by
  obtain ⟨m1, hm1⟩ : ∃ m1, (padL more).length = m1 := ⟨_, rfl⟩
  obtain ⟨m2, hm2⟩ : ∃ m2, (padL c).length = m2 := ⟨_, rfl⟩
  have hMM : nm + m1 + (nc + m2) + (8 + 8) = M := by rw [← hM]; simp only [macL, List.length_append, littleL_length]; rw [hm1, hm2, hrm.1, hrc.1]
  have hp1 := padL_length more
  have hp2 := padL_length c
  have hM6 : M ≤ 1000000 := by omega
  have hmac : more ++ padL more ++ (c ++ padL c) ++ (littleL nm 8 ++ littleL nc 8) = macL more c := by rw [macL, hrc.1, hrm.1]
  have HM := Lib.hid (And.intro hMM (And.intro hM6 (And.intro hmac (And.intro hm1 hm2))))
  have HC := Lib.hid hrc
  have HR := Lib.hid hrm
  have HB := Lib.hid (Below.refl w.heap.size w)
  clear hmac hm1 hm2 hMM hM hp1 hp2 hrc hrm hM6
  go_enter Try.func45, Try.ntmps45
  go_wp2_with fail
  refine (pad_any nm cm Am more (by omega) _ HR.out m1 HM.out.2.2.2.1).mono ?_
  rintro e w1 ⟨F1, d1, rfl, hr, hb⟩
  replace HB := Lib.hid (HB.out.trans (hb.mono HB.out.size))
  replace HC := Lib.hid ((HC.out.below hb).mono hb.size)
  replace HR := Lib.hid ((HR.out.below hb).mono hb.size)
  have R1 := Lib.hid hr
  clear hb hr
  go_wp2_with fail
  refine (pad_any nc cc Ac c (by omega) _ HC.out m2 HM.out.2.2.2.2).mono ?_
  rintro e w2 ⟨F2, d2, rfl, hr, hb⟩
  replace HB := Lib.hid (HB.out.trans (hb.mono HB.out.size))
  replace HC := Lib.hid ((HC.out.below hb).mono hb.size)
  replace HR := Lib.hid ((HR.out.below hb).mono hb.size)
  replace R1 := Lib.hid ((R1.out.below hb).mono hb.size)
  have R2 := Lib.hid hr
  clear hb hr
  go_wp2_with fail
  refine (length_any nm cm Am (by omega) _).mono ?_
  rintro e w3 ⟨rfl, hr, hb⟩
  replace HB := Lib.hid (HB.out.trans (hb.mono HB.out.size))
  replace HC := Lib.hid ((HC.out.below hb).mono hb.size)
  replace HR := Lib.hid ((HR.out.below hb).mono hb.size)
  replace R1 := Lib.hid ((R1.out.below hb).mono hb.size)
  replace R2 := Lib.hid ((R2.out.below hb).mono hb.size)
  have R3 := Lib.hid hr
  clear hb hr
  generalize w2.heap.size = g3 at R3 ⊢
  go_wp2_with fail
  refine (length_any nc cc Ac (by omega) _).mono ?_
  rintro e w4 ⟨rfl, hr, hb⟩
  replace HB := Lib.hid (HB.out.trans (hb.mono HB.out.size))
  replace HC := Lib.hid ((HC.out.below hb).mono hb.size)
  replace HR := Lib.hid ((HR.out.below hb).mono hb.size)
  replace R1 := Lib.hid ((R1.out.below hb).mono hb.size)
  replace R2 := Lib.hid ((R2.out.below hb).mono hb.size)
  replace R3 := Lib.hid ((R3.out.below hb).mono hb.size)
  have R4 := Lib.hid hr
  clear hb hr
  generalize w3.heap.size = g4 at R4 ⊢
  go_wp2_with fail
  have hg := Blk.new w4 27 [Value.slice Am nm cm, .slice F1 m1 d1, .slice Ac nc cc, .slice F2 m2 d2, .slice (some ⟨g3, 0, none⟩) 8 8, .slice (some ⟨g4, 0, none⟩) 8 8]
  have hb : Below w4.heap.size w4 (w4.alloc (.cells [Value.slice Am nm cm, .slice F1 m1 d1, .slice Ac nc cc, .slice F2 m2 d2, .slice (some ⟨g3, 0, none⟩) 8 8, .slice (some ⟨g4, 0, none⟩) 8 8].toArray 27)) := (Below.refl _ _).alloc (Nat.le_refl _) _
  rw [show [Value.slice Am nm cm, .slice F1 m1 d1, .slice Ac nc cc, .slice F2 m2 d2, .slice (some ⟨g3, 0, none⟩) 8 8, .slice (some ⟨g4, 0, none⟩) 8 8].toArray = #[Value.slice Am nm cm, .slice F1 m1 d1, .slice Ac nc cc, .slice F2 m2 d2, .slice (some ⟨g3, 0, none⟩) 8 8, .slice (some ⟨g4, 0, none⟩) 8 8] from rfl] at hg hb
  replace HB := Lib.hid (HB.out.trans (hb.mono HB.out.size))
  replace HC := Lib.hid ((HC.out.below hb).mono hb.size)
  replace HR := Lib.hid ((HR.out.below hb).mono hb.size)
  replace R1 := Lib.hid ((R1.out.below hb).mono hb.size)
  replace R2 := Lib.hid ((R2.out.below hb).mono hb.size)
  replace R3 := Lib.hid ((R3.out.below hb).mono hb.size)
  replace R4 := Lib.hid ((R4.out.below hb).mono hb.size)
  have HG := Lib.hid hg
  clear hb hg
  generalize w4.alloc (.cells #[Value.slice Am nm cm, .slice F1 m1 d1, .slice Ac nc cc, .slice F2 m2 d2, .slice (some ⟨g3, 0, none⟩) 8 8, .slice (some ⟨g4, 0, none⟩) 8 8] 27) = w5 at HB HC HR R1 R2 R3 R4 HG ⊢
  generalize w4.heap.size = g5 at HG ⊢
  refine (coJoin_six g5 27 _ _ _ _ _ _ nm cm m1 d1 nc cc m2 d2 8 8 8 8 _ _ _ _ _ _ M HM.out.1 HM.out.2.1 _ HG.out HR.out R1.out HC.out R2.out R3.out R4.out).mono ?_
  rintro e w6 ⟨A6, c6, rfl, hr, q1, q2, hb⟩
  rw [HM.out.2.2.1] at hr
  have HO := Lib.hid (And.intro hr (HB.out.trans (hb.mono HB.out.size)))
  clear hr hb HC HR R1 R2 R3 R4 HG HB
  go_wp2_with fail
  go_ret
  exact ⟨_, _, rfl, HO.out.1, q1, q2, HM.out.2.1, HO.out.2⟩
end Go.Proofs.Ytkbefhmgcodpaaa
