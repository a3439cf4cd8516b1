/-
  XchachaReturns returns true for every key, nonce and data, and changes nothing that was there: the walk, over what is asked of xchacha.Derive, Seal and Open.
-/
import Derived.Test.YtkbefhmgcodpaaaXcBegun
import Derived.Test.YtkbefhmgcodpaaaEnt
import Derived.Test.YtkbefhmgcodpaaaCut
import Derived.Test.YtkbefhmgcodpaaaAeC
namespace Go.Proofs.Ytkbefhmgcodpaaa
open Go.RowKit

set_option maxRecDepth 100000 in
set_option maxHeartbeats 8000000 in
theorem xc_returns_walk (HD : DeriveC) (HS : XSealC) (HO : XOpenC) (w : World) (k n : List UInt8) (Ap : Option Addr) (np cp : Nat) (lp : List UInt8) (Am : Option Addr) (nm cm : Nat) (lm : List UInt8) (hk : k.length = 32) (hn : n.length = 24) (hpc : np ≤ cp) (hpm : cp ≤ maxLen) (hrp : Rd w w.heap.size Ap np lp) (hmc : nm ≤ cm) (hmm : cm ≤ maxLen) (hrm : Rd w w.heap.size Am nm lm) :
    Calls Try.prog 4 #[.agg (k.map u8v).toArray, .agg (n.map u8v).toArray, .slice Ap np cp, .slice Am nm cm] w fun e w' => e = .returned (.bool true) ∧ Below w.heap.size w w' := by
  obtain ⟨ck, hck⟩ : ∃ ck, (k.map u8v).toArray = ck := ⟨_, rfl⟩
  obtain ⟨cn, hcn⟩ : ∃ cn, (n.map u8v).toArray = cn := ⟨_, rfl⟩
  have SC := HS k n hk hn
  have OC := HO k n hk hn
  rw [hck, hcn] at SC OC
  rw [hck, hcn]
  have HM := Lib.hid (show Mem w [blkE (w.heap.size + 1) 26 (n.map u8v), blkE w.heap.size 23 (k.map u8v)] ((w.alloc (.cells ck 23)).alloc (.cells cn 26)) from ((Mem.nil w).alloc rfl 23 ck (k.map u8v) hck.symm).alloc (by simp) 26 cn (n.map u8v) hcn.symm)
  have HC := Lib.hid (And.intro hck hcn)
  have HL := Lib.hid (And.intro hk hn)
  have HSC := Lib.hid SC
  have HOC := Lib.hid OC
  have HBG := Lib.hid (xc_begun_any HD)
  have HP := Lib.hid hrp
  have HR := Lib.hid hrm
  clear hck hcn hk hn SC OC HD HS HO hrp hrm
  go_enter Try.func4, Try.ntmps4
  go_upto_region 1 with fail
  generalize ((w.alloc (.cells ck 23)).alloc (.cells cn 26)) = w1 at HM ⊢
  go_wp2_with fail
  refine (cut_any _ Ap np cp 100 lp hpc hpm _ (HP.out.below HM.out.bel)).mono ?_
  rintro e w2 ⟨rfl, hp2, rfl⟩
  clear hp2
  go_wp2_with fail
  refine (cut_any _ Am nm cm 30 lm hmc hmm _ (HR.out.below HM.out.bel)).mono ?_
  rintro e w2 ⟨rfl, hm2, rfl⟩
  clear hm2
  obtain ⟨pn, hpn⟩ : ∃ pn, min np 100 = pn := ⟨_, rfl⟩
  obtain ⟨mn, hmn⟩ : ∃ mn, min nm 30 = mn := ⟨_, rfl⟩
  have hp1 : pn ≤ cp := by omega
  have hp2 : pn ≤ 100 := by omega
  have hm1 : mn ≤ cm := by omega
  have hm2 : mn ≤ 30 := by omega
  replace HP := Lib.hid (HP.out.take (m := pn) (by omega))
  replace HR := Lib.hid (HR.out.take (m := mn) (by omega))
  rw [hpn, hmn]
  clear hpn hmn
  generalize lp.take pn = pl at HP
  generalize lm.take mn = ml at HR
  have HPL := Lib.hid HP.out.1
  go_wp2_with (first | (refine wpList_load_blk rfl 23 (.tmp 4) rfl w.heap.size rfl 23 (k.map u8v) (HM.out.blk 1 rfl) 32 5 Try.underlying23 (cells32 k HL.out.1) ?_; rw [HC.out.1]) | (refine wpList_load_blk rfl 26 (.tmp 5) rfl (w.heap.size + 1) rfl 26 (n.map u8v) (HM.out.blk 0 rfl) 24 5 Try.underlying26 (xc_cellsL n HL.out.2) ?_; rw [HC.out.2]))
  refine (HSC.out Ap Am pn cp mn cm pl ml hp1 hpm hm1 hmm (by omega) (by omega) _ (HM.out.arg HP.out) (HM.out.arg HR.out)).mono ?_
  rintro e w3 ⟨A3, c3, rfl, ho, hb⟩
  have hq3 := own_addr ho
  have hc3 := hq3.1
  have hc4 := hq3.2.1
  replace HM := Lib.hid (show Mem w [rdE w1.heap.size w3.heap.size A3 (pn + 16) (xsealL k n pl ml), blkE (w.heap.size + 1) 26 (n.map u8v), blkE w.heap.size 23 (k.map u8v)] w3 from HM.out.callRd hb ho)
  clear ho hb hq3
  go_wp2_with (first | (refine wpList_load_blk rfl 23 (.tmp 4) rfl w.heap.size rfl 23 (k.map u8v) (HM.out.blk 2 rfl) 32 5 Try.underlying23 (cells32 k HL.out.1) ?_; rw [HC.out.1]) | (refine wpList_load_blk rfl 26 (.tmp 5) rfl (w.heap.size + 1) rfl 26 (n.map u8v) (HM.out.blk 1 rfl) 24 5 Try.underlying26 (xc_cellsL n HL.out.2) ?_; rw [HC.out.2]))
  refine (HOC.out A3 Am (pn + 16) c3 mn cm _ ml hc3 hc4 hm1 hmm (by omega) (by omega) _ (HM.out.rd 0 rfl) (HM.out.arg HR.out)).mono ?_
  rintro e w4 ⟨A4, c4, he4, hr4, hq4, hq5, hb⟩
  rw [xopen_seal] at he4 hr4 hq4
  rw [show ((pl, 0) : List UInt8 × Nat).1 = pl from rfl, show pl.length = pn from HPL.out] at he4 hr4 hq4
  subst he4
  replace HM := Lib.hid (HM.out.below hb)
  clear hb
  have cvq : (convert 27 9 (.slice A4 pn c4)).run Try.prog w4 = .ok (.string ⟨pl.toArray⟩) w4 := ae_conv hr4 c4
  have cvp : (convert 27 9 (.slice Ap pn cp)).run Try.prog w4 = .ok (.string ⟨pl.toArray⟩) w4 := ae_conv (HM.out.arg HP.out) cp
  have hw16 : IntKind.i64.wrap ((pn : Int) + 16) = (pn : Int) + 16 := IntWalk.i64_in _ (by omega)
  clear hr4 hq4 hq5
  go_wp2_with fail
  clear cvq cvp hw16
  refine (HBG.out _).mono ?_
  rintro e w5 ⟨rfl, hb⟩
  have HF := Lib.hid (HM.out.below hb).bel
  clear hb HM
  go_wp2_with fail
  go_ret
  exact ⟨rfl, HF.out⟩
end Go.Proofs.Ytkbefhmgcodpaaa
