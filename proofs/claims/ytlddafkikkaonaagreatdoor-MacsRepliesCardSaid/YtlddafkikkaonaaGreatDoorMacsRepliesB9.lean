/-
  The contracts of the reference's Counter, Seal and Open. The contracts of the reference's Derive, short, XSeal and XOpen. No statement is proved here.
-/
import Derived.Deep.DeepCutAuto
import Derived.Test.YtlddafkikkaonaaGreatDoorMacsRepliesB8
namespace Go.Proofs.YtlddafkikkaonaaGreatDoor
open Go.RowKit
def RefXorC : Prop := ∀ (k n : List UInt8), k.length = 32 → n.length = 12 → ∀ (c : UInt32) (D : Option Addr) (m cap : Nat) (l : List UInt8), m ≤ 1000000 → ∀ w : World, Rd w w.heap.size D m l →
 Calls Tryz.prog 47 #[.agg (k.map u8v).toArray, .int .u32 (c.toNat : Int), .agg (n.map u8v).toArray, .slice D m cap] w fun e w' => ∃ A c', e = .returned (.slice A m c') ∧ w'.ownsRow w.heap.size 5 1 (.slice A m c') m ((xorL k c n l).map u8v) ∧ Below w.heap.size w w'
set_option maxRecDepth 100000 in
set_option maxHeartbeats 4000000 in
theorem refSeal_any (HXC : RefXorC) (HBC : RefBlockC) (HPC : RefPolyC) (k nn : List UInt8) (hk : k.length = 32) (hn : nn.length = 12) (Ap Am : Option Addr) (np cp nm cm : Nat) (pl more : List UInt8) (hnp : np ≤ 300000) (hnm : nm ≤ 300000) (w : World) (hrp : Rd w w.heap.size Ap np pl) (hrm : Rd w w.heap.size Am nm more) :
 Calls Tryz.prog 23 #[.agg (k.map u8v).toArray, .agg (nn.map u8v).toArray, .slice Ap np cp, .slice Am nm cm] w fun e w' => ∃ A c', e = .returned (.slice A (np + 16) c') ∧ w'.ownsRow w.heap.size 5 1 (.slice A (np + 16) c') (np + 16) ((sealL k nn pl more).map u8v) ∧ Below w.heap.size w w' := by
 obtain ⟨i0, hi, hz0, hz1, hz2⟩ := info_parts Tryz.info5
 have XC := HXC k nn hk hn 1 Ap np cp pl (by omega)
 have TC := fun (A : Option Addr) (c' : Nat) => refTag_any HBC HPC k nn hk hn A Am np c' nm cm (xorL k 1 nn pl) more (by omega) (by omega)
 rw [show ((1 : UInt32).toNat : Int) = 1 from rfl] at XC
 obtain ⟨ck, hck⟩ : ∃ ck, (k.map u8v).toArray = ck := ⟨_, rfl⟩
 obtain ⟨cn, hcn⟩ : ∃ cn, (nn.map u8v).toArray = cn := ⟨_, rfl⟩
 rw [hck, hcn] at XC TC
 rw [hck, hcn]
 have h0 : Blk ((w.alloc (.cells ck 23)).alloc (.cells cn 57)) w.heap.size 23 (k.map u8v) := by rw [← hck]; exact (Blk.new w _ _).alloc _
 have h1 : Blk ((w.alloc (.cells ck 23)).alloc (.cells cn 57)) (w.heap.size + 1) 57 (nn.map u8v) := by rw [← hcn]; exact Blk.new' (w.alloc (.cells ck 23)) (by simp) _ _
 have h3 : Below w.heap.size w ((w.alloc (.cells ck 23)).alloc (.cells cn 57)) := ((Below.refl _ _).alloc (Nat.le_refl _) _).alloc (by simp) _
 have hst := sealT_length k nn (xorL k 1 nn pl) more
 have hse : xorL k 1 nn pl ++ sealT k nn (xorL k 1 nn pl) more = sealL k nn pl more := rfl
 generalize sealL k nn pl more = se at hse
 generalize sealT k nn (xorL k 1 nn pl) more = st at TC hst hse
 generalize xorL k 1 nn pl = xl at XC TC hse
 obtain ⟨cs, hcs⟩ : ∃ cs, (st.map u8v).toArray = cs := ⟨_, rfl⟩
 rw [hcs] at TC
 have HP := Lib.hid (hrp.below h3)
 have HM := Lib.hid (hrm.below h3)
 have HC := Lib.hid (And.intro hck hcn)
 have HL := Lib.hid (And.intro hk hn)
 have HS := Lib.hid (And.intro hst (And.intro hcs hse))
 have HXC2 := Lib.hid XC
 have HTC2 := Lib.hid TC
 clear hck hcn hk hn hst hcs hse XC TC HXC HBC HPC hrp hrm
 go_enter Tryz.func23, Tryz.ntmps23
 go_upto_region 1 with fail
 generalize ((w.alloc (.cells ck 23)).alloc (.cells cn 57)) = w1 at h0 h1 h3 HP HM ⊢
 have hw1 := h3.size
 have H1 := Lib.hid (show Blk w1 w.heap.size 23 (k.map u8v) ∧ Blk w1 (w.heap.size + 1) 57 (nn.map u8v) ∧ Below w.heap.size w w1 from ⟨h0, h1, h3⟩)
 clear h0 h1 h3
 replace HP := Lib.hid (HP.out.mono H1.out.2.2.size)
 replace HM := Lib.hid (HM.out.mono H1.out.2.2.size)
 go_wp2_with (first | (refine wpList_load_blk rfl 23 (.tmp 4) rfl w.heap.size rfl 23 (k.map u8v) H1.out.1 32 5 Tryz.underlying23 (cells32 k HL.out.1) ?_; rw [HC.out.1]) | (refine wpList_load_blk rfl 57 (.tmp 5) rfl (w.heap.size + 1) rfl 57 (nn.map u8v) H1.out.2.1 12 5 Tryz.underlying57 (ae_cellsN nn HL.out.2) ?_; rw [HC.out.2]))
 refine (HXC2.out _ HP.out).mono ?_
 rintro e w2 ⟨A1, c1, rfl, ho, hb⟩
 replace H1 := Lib.hid (show Blk w2 w.heap.size 23 (k.map u8v) ∧ Blk w2 (w.heap.size + 1) 57 (nn.map u8v) ∧ Below w.heap.size w w2 from ⟨H1.out.1.below hb H1.out.1.lt, H1.out.2.1.below hb H1.out.2.1.lt, H1.out.2.2.trans (hb.mono H1.out.2.2.size)⟩)
 have HO := Lib.hid (own_base ho (show w.heap.size ≤ w1.heap.size by have := H1.out.2.2; exact hw1))
 replace HM := Lib.hid ((HM.out.below hb).mono hb.size)
 clear ho hb HP
 go_wp2_with (first | (refine wpList_load_blk rfl 23 (.tmp 4) rfl w.heap.size rfl 23 (k.map u8v) H1.out.1 32 5 Tryz.underlying23 (cells32 k HL.out.1) ?_; rw [HC.out.1]) | (refine wpList_load_blk rfl 57 (.tmp 5) rfl (w.heap.size + 1) rfl 57 (nn.map u8v) H1.out.2.1 12 5 Tryz.underlying57 (ae_cellsN nn HL.out.2) ?_; rw [HC.out.2]))
 refine (HTC2.out A1 c1 _ (Rd.of_own HO.out) HM.out).mono ?_
 rintro e w3 ⟨rfl, hb⟩
 have HO3 := Lib.hid (And.intro (own_below HO.out hb) (H1.out.2.2.trans (hb.mono H1.out.2.2.size)))
 clear hb HO H1 HM
 go_upto_region 3 with (refine wpList_store_blk rfl 27 (.tmp 10) (.tmp 19) rfl w3.heap.size (st.map u8v) rfl (by show Value.agg cs = _; rw [HS.out.2.1]) 27 (aeZ 16) (Blk.new w3 27 (aeZ 16)) (ae_cellsT st HS.out.1) (by rw [List.length_map, HS.out.1]; rfl) (u8v_one _) ?_; intro w4 hb4 hg4)
 simp only [Act.put]
 have hb34 : Below w3.heap.size w3 w4 := Below.grown ((Below.refl _ _).alloc (Nat.le_refl _) (.cells (aeZ 16).toArray 27)) hg4 (by simp) (by intro k hk; injection hk with hk; omega)
 have HO4 := Lib.hid (And.intro (own_below HO3.out.1 hb34) (And.intro (HO3.out.2.trans (hb34.mono HO3.out.2.size)) (blk_all hb4 HS.out.1)))
 clear hb4 hg4 hb34 HO3
 generalize w3.heap.size = P at HO4 ⊢
 go_wp2_with (refine wpList_append_rd _ rfl (.tmp 20) (.tmp 21) 29 rfl w.heap.size 5 i0 (.int .u8 0) Tryz.underlying29 hi hz0 hz1 hz2 rfl (.slice A1 np c1) np (xl.map u8v) rfl HO4.out.1 _ _ 16 16 st rfl HO4.out.2.2 (by omega) HO4.out.2.1.size ?_; intro v5 w5 hown5 hg5)
 obtain ⟨A5, c5, rfl, _⟩ := own_slice hown5
 have H5 := Lib.hid (show w5.ownsRow w.heap.size 5 1 (.slice A5 (np + 16) c5) (np + 16) (se.map u8v) ∧ Below w.heap.size w w5 from ⟨by rw [← List.map_append, HS.out.2.2] at hown5; exact hown5, HO4.out.2.1.grown hg5 HO4.out.2.1.size (own_from HO4.out.1)⟩)
 clear hown5 hg5 HO4
 go_wp2
 go_ret
 exact ⟨_, _, rfl, H5.out.1, H5.out.2⟩
/-- 'string(b)' of a slice that reads as l -/
theorem ae_str {w : World} {B n : Nat} {A : Option Addr} {l : List UInt8} (h : Rd w B A n l) (c : Nat) : (convert 29 9 (.slice A n c)).run Tryz.prog w = .ok (.string ⟨l.toArray⟩) w :=
 run_string_of_rd (P := Tryz.prog) 29 9 5 c Tryz.underlying29 Tryz.underlying5 Tryz.underlying9 h
set_option maxRecDepth 100000 in
set_option maxHeartbeats 4000000 in
theorem refOpen_any (HXC : RefXorC) (HBC : RefBlockC) (HPC : RefPolyC) (k nn : List UInt8) (hk : k.length = 32) (hn : nn.length = 12) (As Am : Option Addr) (ns cs0 nm cm : Nat) (sl more : List UInt8) (hns : ns ≤ 300000) (hnc : ns ≤ cs0) (_hcm : cs0 ≤ maxLen) (hnm : nm ≤ 300000) (w : World) (hrs : Rd w w.heap.size As ns sl) (hrm : Rd w w.heap.size Am nm more) :
 Calls Tryz.prog 38 #[.agg (k.map u8v).toArray, .agg (nn.map u8v).toArray, .slice As ns cs0, .slice Am nm cm] w fun e w' => ∃ A c', e = .returned (.tuple #[.slice A (openL k nn sl more).1.length c', .int .i64 ((openL k nn sl more).2 : Int)]) ∧ Rd w' w'.heap.size A (openL k nn sl more).1.length (openL k nn sl more).1 ∧ Below w.heap.size w w' := by
 have hsl : sl.length = ns := hrs.1
 by_cases h16 : ns < 16
 ·
  have ho : openL k nn sl more = ([], 2) := by rw [openL, if_pos (by omega)]
  rw [ho]
  have d16 : decide ((ns : Int) < 16) = true := by simp; omega
  have hB := Lib.hid (((Below.refl w.heap.size w).alloc (Nat.le_refl _) (.cells (k.map u8v).toArray 23)).alloc (by simp) (.cells (nn.map u8v).toArray 57))
  obtain ⟨ck, hck⟩ : ∃ ck, (k.map u8v).toArray = ck := ⟨_, rfl⟩
  obtain ⟨cn, hcn⟩ : ∃ cn, (nn.map u8v).toArray = cn := ⟨_, rfl⟩
  rw [hck, hcn] at hB
  rw [hck, hcn]
  clear hck hcn ho HXC HBC HPC
  go_enter Tryz.func38, Tryz.ntmps38
  go_wp2_with fail
  exact bodyPost_ret (results_tmp2 rfl _ _ _) rfl ⟨_, _, rfl, Rd.nil _ _ _, hB.out⟩
 ·
  obtain ⟨m, hm⟩ : ∃ m, ns - 16 = m := ⟨_, rfl⟩
  have d16 : decide ((ns : Int) < 16) = false := by simp; omega
  have hsb : (ns : Int) - 16 = (m : Int) := by omega
  have hsw : IntKind.i64.wrap ((ns : Int) - 16) = (m : Int) := by rw [hsb]; exact IntWalk.i64_in _ (by omega)
  have b1 : (m : Int) ≤ (cs0 : Int) := by omega
  have b2 : ¬ cs0 = m := by omega
  have b3 : (m : Int) ≤ (ns : Int) := by omega
  obtain ⟨sb, soff, rfl, hsbl, _⟩ := hrs.2 (by omega)
  have ho : openL k nn sl more = if sealT k nn (sl.take m) more = sl.drop m then (xorL k 1 nn (sl.take m), 0) else ([], 6) := by rw [openL, if_neg (by omega), hsl, hm]
  have hr1 := hrs.take (m := m) (by omega)
  have hr2 := hrs.drop m sb soff rfl (by omega)
  rw [show ns - m = 16 by omega] at hr2
  have htl : (sl.drop m).length = 16 := hr2.1
  have hcl : (sl.take m).length = m := hr1.1
  have XC := HXC k nn hk hn 1 (some ⟨sb, soff, none⟩) m cs0 (sl.take m) (by omega)
  have TC := refTag_any HBC HPC k nn hk hn (some ⟨sb, soff, none⟩) Am m cs0 nm cm (sl.take m) more (by omega) (by omega)
  rw [show ((1 : UInt32).toNat : Int) = 1 from rfl] at XC
  have hst := sealT_length k nn (sl.take m) more
  have hxl : (xorL k 1 nn (sl.take m)).length = m := by rw [xorL_length, hcl]
  obtain ⟨st, hste⟩ : ∃ st, sealT k nn (sl.take m) more = st := ⟨_, rfl⟩
  rw [hste] at TC hst ho
  generalize xorL k 1 nn (sl.take m) = xl at XC hxl ho
  generalize sl.take m = cl at XC TC hr1 hcl hste
  generalize sl.drop m = tl at hr2 htl ho
  obtain ⟨⟨ol, oe⟩, hoe⟩ : ∃ o, openL k nn sl more = o := ⟨_, rfl⟩
  rw [hoe] at ho ⊢
  have HOE := Lib.hid ho
  clear hste ho hrs hoe
  obtain ⟨cs, hcs⟩ : ∃ cs, (st.map u8v).toArray = cs := ⟨_, rfl⟩
  rw [hcs] at TC
  obtain ⟨ck, hck⟩ : ∃ ck, (k.map u8v).toArray = ck := ⟨_, rfl⟩
  obtain ⟨cn, hcn⟩ : ∃ cn, (nn.map u8v).toArray = cn := ⟨_, rfl⟩
  rw [hck, hcn] at XC TC
  rw [hck, hcn]
  have h0 : Blk ((w.alloc (.cells ck 23)).alloc (.cells cn 57)) w.heap.size 23 (k.map u8v) := by rw [← hck]; exact (Blk.new w _ _).alloc _
  have h1 : Blk ((w.alloc (.cells ck 23)).alloc (.cells cn 57)) (w.heap.size + 1) 57 (nn.map u8v) := by rw [← hcn]; exact Blk.new' (w.alloc (.cells ck 23)) (by simp) _ _
  have h3 : Below w.heap.size w ((w.alloc (.cells ck 23)).alloc (.cells cn 57)) := ((Below.refl _ _).alloc (Nat.le_refl _) _).alloc (by simp) _
  have HP := Lib.hid (hr1.below h3)
  have HT := Lib.hid (hr2.below h3)
  have HM := Lib.hid (hrm.below h3)
  have HC := Lib.hid (And.intro hck hcn)
  have HL := Lib.hid (And.intro hk hn)
  have HS := Lib.hid (And.intro hst (And.intro hcs (And.intro hcl (And.intro htl hxl))))
  have HXC2 := Lib.hid XC
  have HTC2 := Lib.hid TC
  have HSM := Lib.hid hm
  clear hck hcn hk hn hst hcs hcl htl hxl XC TC HXC HBC HPC hr1 hr2 hrm hsl hm
  go_enter Tryz.func38, Tryz.ntmps38
  go_upto_region 1 with fail
  generalize ((w.alloc (.cells ck 23)).alloc (.cells cn 57)) = w1 at h0 h1 h3 HP HT HM ⊢
  have H1 := Lib.hid (show Blk w1 w.heap.size 23 (k.map u8v) ∧ Blk w1 (w.heap.size + 1) 57 (nn.map u8v) ∧ Below w.heap.size w w1 from ⟨h0, h1, h3⟩)
  clear h0 h1 h3
  replace HP := Lib.hid (HP.out.mono H1.out.2.2.size)
  replace HT := Lib.hid (HT.out.mono H1.out.2.2.size)
  replace HM := Lib.hid (HM.out.mono H1.out.2.2.size)
  go_wp2_with (first | (refine wpList_load_blk rfl 23 (.tmp 4) rfl w.heap.size rfl 23 (k.map u8v) H1.out.1 32 5 Tryz.underlying23 (cells32 k HL.out.1) ?_; rw [HC.out.1]) | (refine wpList_load_blk rfl 57 (.tmp 5) rfl (w.heap.size + 1) rfl 57 (nn.map u8v) H1.out.2.1 12 5 Tryz.underlying57 (ae_cellsN nn HL.out.2) ?_; rw [HC.out.2]))
  clear d16 hsb hsw b1
  refine (HTC2.out _ HP.out HM.out).mono ?_
  rintro e w2 ⟨rfl, hb⟩
  replace H1 := Lib.hid (show Blk w2 w.heap.size 23 (k.map u8v) ∧ Blk w2 (w.heap.size + 1) 57 (nn.map u8v) ∧ Below w.heap.size w w2 from ⟨H1.out.1.below hb H1.out.1.lt, H1.out.2.1.below hb H1.out.2.1.lt, H1.out.2.2.trans (hb.mono H1.out.2.2.size)⟩)
  replace HP := Lib.hid ((HP.out.below hb).mono hb.size)
  replace HT := Lib.hid ((HT.out.below hb).mono hb.size)
  clear hb HM
  go_upto_region 5 with (refine wpList_store_blk rfl 27 (.tmp 11) (.tmp 24) rfl w2.heap.size (st.map u8v) rfl (by show Value.agg cs = _; rw [HS.out.2.1]) 27 (aeZ 16) (Blk.new w2 27 (aeZ 16)) (ae_cellsT st HS.out.1) (by rw [List.length_map, HS.out.1]; rfl) (u8v_one _) ?_; intro w4 hb4 hg4)
  simp only [Act.put]
  have hb24 : Below w2.heap.size w2 w4 := Below.grown ((Below.refl _ _).alloc (Nat.le_refl _) (.cells (aeZ 16).toArray 27)) hg4 (by simp) (by intro k hk; injection hk with hk; omega)
  replace H1 := Lib.hid (show Blk w4 w.heap.size 23 (k.map u8v) ∧ Blk w4 (w.heap.size + 1) 57 (nn.map u8v) ∧ Below w.heap.size w w4 from ⟨H1.out.1.below hb24 H1.out.1.lt, H1.out.2.1.below hb24 H1.out.2.1.lt, H1.out.2.2.trans (hb24.mono H1.out.2.2.size)⟩)
  replace HP := Lib.hid ((HP.out.below hb24).mono hb24.size)
  replace HT := Lib.hid ((HT.out.below hb24).mono hb24.size)
  have HG := Lib.hid (blk_all hb4 HS.out.1)
  clear hb4 hg4 hb24
  generalize w2.heap.size = P at HG ⊢
  have cvg : ∀ w' : World, Below w4.heap.size w4 w' → (convert 29 9 (.slice (some ⟨P, 0, none⟩) 16 16)).run Tryz.prog w' = .ok (.string ⟨st.toArray⟩) w' := fun w' hb => ae_str (HG.out.below hb) 16
  have cvt : ∀ w' : World, Below w4.heap.size w4 w' → (convert 29 9 (.slice (some ⟨sb, soff + m, none⟩) 16 (cs0 - m))).run Tryz.prog w' = .ok (.string ⟨tl.toArray⟩) w' := fun w' hb => ae_str (HT.out.below hb) _
  have e16 : ns - m = 16 := by have := HSM.out; omega
  by_cases hst : st = tl
  ·
   have ho := HOE.out
   rw [if_pos hst] at ho
   injection ho with ho1 ho2
   subst ho1 ho2 hst
   refine wp_region_held_drew (S := fun w5 => Below w4.heap.size w4 w5) (by kernel_rfl) ((Below.refl w4.heap.size w4).drew) (fun hHeld => ?_)
   refine tf (v := ?_) 0 rfl (Or.inl ⟨by rfl, ?_⟩) ?_
   rotate_left
   · (intro w hSw; (try dsimp only at hSw); go_simp; try with_reducible rfl)
   (try simp only [Act.put, sA, s0, s1])
   refine tf (v := ?_) 1 rfl (Or.inl ⟨by rfl, ?_⟩) ?_
   rotate_left
   · (intro w hSw; (try dsimp only at hSw); go_simp; try with_reducible rfl)
   (try simp only [Act.put, sA, s0, s1])
   refine tf (v := ?_) 2 rfl (Or.inl ⟨by rfl, ?_⟩) ?_
   rotate_left
   · (intro w hSw; (try dsimp only at hSw); go_simp; try with_reducible rfl)
   (try simp only [Act.put, sA, s0, s1])
   refine tf (v := ?_) 3 rfl (Or.inl ⟨by rfl, ?_⟩) ?_
   rotate_left
   · (intro w hSw; (try dsimp only at hSw); go_simp; try with_reducible rfl)
   (try simp only [Act.put, sA, s0, s1])
   refine tf (v := ?_) 4 rfl (Or.inl ⟨by rfl, ?_⟩) ?_
   rotate_left
   · (intro w hSw; (try dsimp only at hSw); go_simp; try with_reducible rfl)
   (try simp only [Act.put, sA, s0, s1])
   refine tf (v := ?_) 5 rfl (Or.inl ⟨by rfl, ?_⟩) ?_
   rotate_left
   · (intro w hSw; (try dsimp only at hSw); go_simp; try with_reducible rfl)
   (try simp only [Act.put, sA, s0, s1])
   refine tf (v := ?_) 6 rfl (Or.inl ⟨by rfl, ?_⟩) ?_
   rotate_left
   · (intro w hSw; (try dsimp only at hSw); go_simp; try with_reducible rfl)
   (try simp only [Act.put, sA, s0, s1])
   refine tf (v := ?_) 7 rfl (Or.inl ⟨by rfl, ?_⟩) ?_
   rotate_left
   · (intro w hSw; (try dsimp only at hSw); go_simp; try with_reducible rfl)
   (try simp only [Act.put, sA, s0, s1])
   refine wpAnyH_done (by kernel_rfl) ?_ _
   replace H1 := Lib.hid (show Blk w4.drew w.heap.size 23 (k.map u8v) ∧ Blk w4.drew (w.heap.size + 1) 57 (nn.map u8v) ∧ Below w.heap.size w w4.drew from ⟨H1.out.1.drew, H1.out.2.1.drew, H1.out.2.2.drew⟩)
   replace HP := Lib.hid HP.out.drew
   clear cvg cvt HG HT hHeld HOE
   go_wp2_with (first | (refine wpList_load_blk rfl 23 (.tmp 4) rfl w.heap.size rfl 23 (k.map u8v) H1.out.1 32 5 Tryz.underlying23 (cells32 k HL.out.1) ?_; rw [HC.out.1]) | (refine wpList_load_blk rfl 57 (.tmp 5) rfl (w.heap.size + 1) rfl 57 (nn.map u8v) H1.out.2.1 12 5 Tryz.underlying57 (ae_cellsN nn HL.out.2) ?_; rw [HC.out.2]))
   refine (HXC2.out _ HP.out).mono ?_
   rintro e w6 ⟨A6, c6, rfl, ho6, hb6⟩
   have HF := Lib.hid (And.intro (Rd.of_own ho6) (H1.out.2.2.trans (hb6.mono H1.out.2.2.size)))
   clear ho6 hb6 H1 HP
   go_wp2_with fail
   have hoL := HS.out.2.2.2.2
   exact bodyPost_ret (results_tmp2 rfl _ _ _) rfl ⟨A6, c6, by rw [hoL]; rfl, by rw [hoL]; exact HF.out.1, HF.out.2⟩
  ·
   have ho := HOE.out
   rw [if_neg hst] at ho
   injection ho with ho1 ho2
   subst ho1 ho2
   refine wp_region_held_drew (S := fun w5 => Below w4.heap.size w4 w5) (by kernel_rfl) ((Below.refl w4.heap.size w4).drew) (fun hHeld => ?_)
   refine tf (v := ?_) 0 rfl (Or.inl ⟨by rfl, ?_⟩) ?_
   rotate_left
   · (intro w hSw; (try dsimp only at hSw); go_simp; try with_reducible rfl)
   (try simp only [Act.put, sA, s0, s1])
   refine tf (v := ?_) 1 rfl (Or.inl ⟨by rfl, ?_⟩) ?_
   rotate_left
   · (intro w hSw; (try dsimp only at hSw); go_simp; try with_reducible rfl)
   (try simp only [Act.put, sA, s0, s1])
   refine tf (v := ?_) 2 rfl (Or.inl ⟨by rfl, ?_⟩) ?_
   rotate_left
   · (intro w hSw; (try dsimp only at hSw); go_simp; try with_reducible rfl)
   (try simp only [Act.put, sA, s0, s1])
   refine tf (v := ?_) 3 rfl (Or.inl ⟨by rfl, ?_⟩) ?_
   rotate_left
   · (intro w hSw; (try dsimp only at hSw); go_simp; try with_reducible rfl)
   (try simp only [Act.put, sA, s0, s1])
   refine tf (v := ?_) 4 rfl (Or.inl ⟨by rfl, ?_⟩) ?_
   rotate_left
   · (intro w hSw; (try dsimp only at hSw); go_simp; try with_reducible rfl)
   (try simp only [Act.put, sA, s0, s1])
   refine tf (v := ?_) 5 rfl (Or.inl ⟨by rfl, ?_⟩) ?_
   rotate_left
   · (intro w hSw; (try dsimp only at hSw); go_simp; try with_reducible rfl)
   (try simp only [Act.put, sA, s0, s1])
   refine tf (v := ?_) 6 rfl (Or.inl ⟨by rfl, ?_⟩) ?_
   rotate_left
   · (intro w hSw; (try dsimp only at hSw); go_simp; try with_reducible rfl)
   (try simp only [Act.put, sA, s0, s1])
   refine tf (v := .bool true) 7 rfl (Or.inl ⟨by rfl, ?_⟩) ?_
   · (intro w hSw; (try dsimp only at hSw); go_simp)
   (try simp only [Act.put, sA, s0, s1])
   refine wpAnyH_done (by kernel_rfl) ?_ _
   have HF := Lib.hid H1.out.2.2.drew
   clear cvg cvt HG HT hHeld HOE H1 HP
   go_wp2_with fail
   exact bodyPost_ret (results_tmp2 rfl _ _ _) rfl ⟨_, _, rfl, Rd.nil _ _ _, HF.out⟩
set_option maxRecDepth 100000 in
set_option maxHeartbeats 8000000 in
theorem refDerive_any (k inn : List UInt8) (hk : k.length = 32) (hin : inn.length = 16) (w : World) :
 Calls Tryz.prog 46 #[.agg (k.map u8v).toArray, .agg (inn.map u8v).toArray] w fun e w' => e = .returned (.agg ((deriveL k inn).map u8v).toArray) ∧ Below w.heap.size w w' := by
 obtain ⟨i0, hi, hz0, hz1, hz2⟩ := info_parts Tryz.info5
 have ST := fun (w' : World) (hr : Rd w' w'.heap.size (some ⟨w.heap.size + 1, 0, none⟩) 16 inn) => refState_any k hk w'.heap.size (w.heap.size + 1) 0 16 inn (by omega) (by unfold maxLen; omega) w' (Nat.le_refl _) hr
 have CO := fun w' : World => refCore_any (xcW k inn) (xcW_length k inn) w'
 have hder : deriveL k inn = derRow (xcoreW k inn) 4 := (derRow_end _ (xcoreW_length k inn)).symm
 have hWl := xcoreW_length k inn
 rw [show coreW 10 (xcW k inn) = xcoreW k inn from rfl] at CO
 rw [show fillW (fillW baseW 4 (wordL k) 8) 12 (wordL inn) 4 = xcW k inn from rfl] at ST
 obtain ⟨W16, hW16⟩ : ∃ x, xcoreW k inn = x := ⟨_, rfl⟩
 rw [hW16] at CO hder hWl
 rw [hder]
 obtain ⟨ck, hck⟩ : ∃ ck, (k.map u8v).toArray = ck := ⟨_, rfl⟩
 obtain ⟨cin, hcin⟩ : ∃ c, (inn.map u8v).toArray = c := ⟨_, rfl⟩
 obtain ⟨cst, hcst⟩ : ∃ c, ((xcW k inn).map u32v).toArray = c := ⟨_, rfl⟩
 obtain ⟨cco, hcco⟩ : ∃ c, (W16.map u32v).toArray = c := ⟨_, rfl⟩
 rw [hck, hcst] at ST
 rw [hcst, hcco] at CO
 rw [hck, hcin]
 have HM := Lib.hid (show Mem w [blkE (w.heap.size + 1 + 1) 23 (aeZ 32), blkE (w.heap.size + 1) 26 (inn.map u8v), blkE w.heap.size 23 (k.map u8v)] (((w.alloc (.cells ck 23)).alloc (.cells cin 26)).alloc (.cells zb32 23)) from (((Mem.nil w).alloc rfl 23 ck (k.map u8v) hck.symm).alloc (by simp) 26 cin (inn.map u8v) hcin.symm).alloc (by simp) 23 zb32 (aeZ 32) rfl)
 have HCK := Lib.hid hck
 have HK := Lib.hid hk
 have HIN := Lib.hid hin
 have HST := Lib.hid ST
 have HCO := Lib.hid CO
 have HAC := Lib.hid hcco
 have HW16 := Lib.hid hWl
 clear hck hcin hcst hcco hk hin ST CO hder hW16 hWl
 go_enter Tryz.func46, Tryz.ntmps46
 go_upto_region 1 with fail
 generalize (((w.alloc (.cells ck 23)).alloc (.cells cin 26)).alloc (.cells zb32 23)) = w1 at HM ⊢
 go_cut [5] (fun v wx => ∃ P, v = .pointer (some ⟨P, 0, none⟩) ∧ Mem w (blkE P 86 (W16.map u32v) :: [blkE (w.heap.size + 1 + 1) 23 (aeZ 32), blkE (w.heap.size + 1) 26 (inn.map u8v), blkE w.heap.size 23 (k.map u8v)]) wx)
 case first =>
  refine wp_region_held_drew (S := fun W' => Mem w [blkE (w.heap.size + 1 + 1) 23 (aeZ 32), blkE (w.heap.size + 1) 26 (inn.map u8v), blkE w.heap.size 23 (k.map u8v)] W') (by kernel_rfl) (HM.out.drew) (fun hHeld => ?_)
  replace HM := Lib.hid HM.out.drew
  generalize w1.drew = wd1 at HM hHeld ⊢
  refine tf (v := .agg ck) 0 rfl (by rw [← HCK.out]; exact yields_load_blk (by rfl) 23 (.tmp 2) rfl w.heap.size rfl 23 (k.map u8v) (fun w' hb => hb.blk 2 rfl) 32 5 Tryz.underlying23 (cells32 k HK.out)) ?_
  (try simp only [Act.put, sA, s0, s1])
  refine tf (v := ?_) 1 rfl (Or.inl ⟨by rfl, ?_⟩) ?_
  rotate_left
  · (intro w hSw; (try dsimp only at hSw); go_simp; try with_reducible rfl)
  (try simp only [Act.put, sA, s0, s1])
  refine step_two 2 4 rfl rfl (by kernel_rfl) (fun K hK => ?_) (fun K hK => ?_)
  ·
   clear hHeld
   go_simp
   refine (HST.out _ (blk_rd (HM.out.blk 1 rfl) HIN.out)).mono ?_
   rintro e wy2 ⟨rfl, hb⟩
   replace HM := Lib.hid (show Mem w [blkE (w.heap.size + 1 + 1) 23 (aeZ 32), blkE (w.heap.size + 1) 26 (inn.map u8v), blkE w.heap.size 23 (k.map u8v)] wy2 from HM.out.below hb)
   clear hb
   go_wp2_with fail
   refine hK.out _ _ (HM.out) (fun hHeld => ?_)
   clear hK K
   (try simp only [Act.put, sA, s0, s1])
   refine step_two 3 4 rfl rfl (by kernel_rfl) (fun K hK => ?_) (fun K hK => ?_)
   ·
    clear hHeld
    go_simp
    refine (HCO.out _).mono ?_
    rintro e wy3 ⟨rfl, hb⟩
    replace HM := Lib.hid (show Mem w [blkE (w.heap.size + 1 + 1) 23 (aeZ 32), blkE (w.heap.size + 1) 26 (inn.map u8v), blkE w.heap.size 23 (k.map u8v)] wy3 from HM.out.below hb)
    clear hb
    go_wp2_with fail
    refine hK.out _ _ (HM.out) (fun hHeld => ?_)
    clear hK K
    (try simp only [Act.put, sA, s0, s1])
    refine so 4 rfl fun K hK => ?_
    clear hHeld
    go_simp
    replace HM := Lib.hid (show Mem w [blkE wy3.heap.size 86 (z16), blkE (w.heap.size + 1 + 1) 23 (aeZ 32), blkE (w.heap.size + 1) 26 (inn.map u8v), blkE w.heap.size 23 (k.map u8v)] (wy3.alloc (.cells zw16_ 86)) from HM.out.alloc rfl 86 zw16_ (z16) rfl)
    generalize wy3.alloc (.cells zw16_ 86) = wy4 at HM ⊢
    generalize wy3.heap.size = PW at HM ⊢
    refine hK.out _ _ (HM.out.erase 0) (fun hHeld => ?_)
    clear hK K
    (try simp only [Act.put, sA, s0, s1])
    refine so 5 rfl fun K hK => ?_
    clear hHeld
    refine step_store_blk _ rfl 86 (.tmp 5) (.tmp 11) rfl PW (W16.map u32v) rfl (by rw [HAC.out]; rfl) 86 (z16) (HM.out.blk 0 rfl) (cells16 W16 HW16.out) (by rw [List.length_map, HW16.out]; rfl) (by intro v hv; obtain ⟨_, _, rfl⟩ := List.mem_map.1 hv; rfl) ?_
    intro wy5 hb hg
    replace HM := Lib.hid (show Mem w [blkE PW 86 (W16.map u32v), blkE (w.heap.size + 1 + 1) 23 (aeZ 32), blkE (w.heap.size + 1) 26 (inn.map u8v), blkE w.heap.size 23 (k.map u8v)] wy5 from HM.out.put 0 rfl _ hg hb)
    clear hb hg
    refine hK.out _ _ (HM.out.erase 0) (fun hHeld => ?_)
    clear hK K
    (try simp only [Act.put])
    refine wpAnyH_done (by kernel_rfl) ?_ _
    go_wp2
    go_meet
    exact ⟨PW, rfl, HM.out⟩
   ·
    clear hHeld
    go_simp
    replace HM := Lib.hid (show Mem w [blkE wy2.heap.size 86 (z16), blkE (w.heap.size + 1 + 1) 23 (aeZ 32), blkE (w.heap.size + 1) 26 (inn.map u8v), blkE w.heap.size 23 (k.map u8v)] (wy2.alloc (.cells zw16_ 86)) from HM.out.alloc rfl 86 zw16_ (z16) rfl)
    generalize wy2.alloc (.cells zw16_ 86) = wy3 at HM ⊢
    generalize wy2.heap.size = PW at HM ⊢
    refine hK.out _ _ (HM.out.erase 0) (fun hHeld => ?_)
    clear hK K
    (try simp only [Act.put, sA, s0, s1])
    refine so 3 rfl fun K hK => ?_
    clear hHeld
    go_simp
    refine (HCO.out _).mono ?_
    rintro e wy4 ⟨rfl, hb⟩
    replace HM := Lib.hid (show Mem w [blkE PW 86 (z16), blkE (w.heap.size + 1 + 1) 23 (aeZ 32), blkE (w.heap.size + 1) 26 (inn.map u8v), blkE w.heap.size 23 (k.map u8v)] wy4 from HM.out.below hb)
    clear hb
    go_wp2_with fail
    refine hK.out _ _ (HM.out.erase 0) (fun hHeld => ?_)
    clear hK K
    (try simp only [Act.put, sA, s0, s1])
    refine so 5 rfl fun K hK => ?_
    clear hHeld
    refine step_store_blk _ rfl 86 (.tmp 5) (.tmp 11) rfl PW (W16.map u32v) rfl (by rw [HAC.out]; rfl) 86 (z16) (HM.out.blk 0 rfl) (cells16 W16 HW16.out) (by rw [List.length_map, HW16.out]; rfl) (by intro v hv; obtain ⟨_, _, rfl⟩ := List.mem_map.1 hv; rfl) ?_
    intro wy5 hb hg
    replace HM := Lib.hid (show Mem w [blkE PW 86 (W16.map u32v), blkE (w.heap.size + 1 + 1) 23 (aeZ 32), blkE (w.heap.size + 1) 26 (inn.map u8v), blkE w.heap.size 23 (k.map u8v)] wy5 from HM.out.put 0 rfl _ hg hb)
    clear hb hg
    refine hK.out _ _ (HM.out.erase 0) (fun hHeld => ?_)
    clear hK K
    (try simp only [Act.put])
    refine wpAnyH_done (by kernel_rfl) ?_ _
    go_wp2
    go_meet
    exact ⟨PW, rfl, HM.out⟩
  ·
   clear hHeld
   go_simp
   replace HM := Lib.hid (show Mem w [blkE wd1.heap.size 86 (z16), blkE (w.heap.size + 1 + 1) 23 (aeZ 32), blkE (w.heap.size + 1) 26 (inn.map u8v), blkE w.heap.size 23 (k.map u8v)] (wd1.alloc (.cells zw16_ 86)) from HM.out.alloc rfl 86 zw16_ (z16) rfl)
   generalize wd1.alloc (.cells zw16_ 86) = wy2 at HM ⊢
   generalize wd1.heap.size = PW at HM ⊢
   refine hK.out _ _ (HM.out.erase 0) (fun hHeld => ?_)
   clear hK K
   (try simp only [Act.put, sA, s0, s1])
   refine so 2 rfl fun K hK => ?_
   clear hHeld
   go_simp
   refine (HST.out _ (blk_rd (HM.out.blk 2 rfl) HIN.out)).mono ?_
   rintro e wy3 ⟨rfl, hb⟩
   replace HM := Lib.hid (show Mem w [blkE PW 86 (z16), blkE (w.heap.size + 1 + 1) 23 (aeZ 32), blkE (w.heap.size + 1) 26 (inn.map u8v), blkE w.heap.size 23 (k.map u8v)] wy3 from HM.out.below hb)
   clear hb
   go_wp2_with fail
   refine hK.out _ _ (HM.out.erase 0) (fun hHeld => ?_)
   clear hK K
   (try simp only [Act.put, sA, s0, s1])
   refine so 3 rfl fun K hK => ?_
   clear hHeld
   go_simp
   refine (HCO.out _).mono ?_
   rintro e wy4 ⟨rfl, hb⟩
   replace HM := Lib.hid (show Mem w [blkE PW 86 (z16), blkE (w.heap.size + 1 + 1) 23 (aeZ 32), blkE (w.heap.size + 1) 26 (inn.map u8v), blkE w.heap.size 23 (k.map u8v)] wy4 from HM.out.below hb)
   clear hb
   go_wp2_with fail
   refine hK.out _ _ (HM.out.erase 0) (fun hHeld => ?_)
   clear hK K
   (try simp only [Act.put, sA, s0, s1])
   refine so 5 rfl fun K hK => ?_
   clear hHeld
   refine step_store_blk _ rfl 86 (.tmp 5) (.tmp 11) rfl PW (W16.map u32v) rfl (by rw [HAC.out]; rfl) 86 (z16) (HM.out.blk 0 rfl) (cells16 W16 HW16.out) (by rw [List.length_map, HW16.out]; rfl) (by intro v hv; obtain ⟨_, _, rfl⟩ := List.mem_map.1 hv; rfl) ?_
   intro wy5 hb hg
   replace HM := Lib.hid (show Mem w [blkE PW 86 (W16.map u32v), blkE (w.heap.size + 1 + 1) 23 (aeZ 32), blkE (w.heap.size + 1) 26 (inn.map u8v), blkE w.heap.size 23 (k.map u8v)] wy5 from HM.out.put 0 rfl _ hg hb)
   clear hb hg
   refine hK.out _ _ (HM.out.erase 0) (fun hHeld => ?_)
   clear hK K
   (try simp only [Act.put])
   refine wpAnyH_done (by kernel_rfl) ?_ _
   go_wp2
   go_meet
   exact ⟨PW, rfl, HM.out⟩
 case rest =>
  obtain ⟨PW, rfl, hM⟩ := hcut
  clear HM HST HCO HCK HK HIN HAC
  have HM := Lib.hid hM
  clear hM
  go_upto_region 3 with fail
  replace HM := Lib.hid (show Mem w [blkE wc.heap.size 23 (aeZ 32), blkE PW 86 (W16.map u32v), blkE (w.heap.size + 1 + 1) 23 (aeZ 32), blkE (w.heap.size + 1) 26 (inn.map u8v), blkE w.heap.size 23 (k.map u8v)] (wc.alloc (.cells zb32 23)) from HM.out.alloc rfl 23 zb32 (aeZ 32) rfl)
  generalize wc.alloc (.cells zb32 23) = w2 at HM ⊢
  generalize wc.heap.size = Q at HM ⊢
  go_wp2_with fail
  go_loopw [7] (fun i wr => ∃ j : Nat, j ≤ 4 ∧ i = .int .i64 (j : Int) ∧ Mem w (blkE Q 23 ((derRow W16 j).map u8v) :: [blkE PW 86 (W16.map u32v), blkE (w.heap.size + 1 + 1) 23 (aeZ 32), blkE (w.heap.size + 1) 26 (inn.map u8v), blkE w.heap.size 23 (k.map u8v)]) wr) (fun i _ => 4 - (intOf i).toNat)
  case atStart => exact ⟨0, by omega, rfl, HM.out⟩
  case round =>
   clear HM
   obtain ⟨j, hj, rfl, hM⟩ := hrel
   have HM := Lib.hid hM
   clear hM
   rcases (show j = 0 ∨ j = 1 ∨ j = 2 ∨ j = 3 ∨ j = 4 by omega) with rfl | rfl | rfl | rfl | rfl
   ·
    have hrow : (derRow W16 0).length = 32 := derRow_length _ _ (by omega)
    go_upto_region 6 with fail
    have e0 : IntKind.i64.wrap 0 = 0 := by decide
    have e12 : IntKind.i64.wrap 12 = 12 := by decide
    have e16 : IntKind.i64.wrap 16 = 16 := by decide
    obtain ⟨x6, hx6⟩ : ∃ x, wd W16 0 = x := ⟨_, rfl⟩
    have hcv6 : IntKind.u64.wrap (x6.toNat : Int) = (x6.toNat : Int) := by have := x6.toNat_lt; rw [IntKind.wrap_u64]; omega
    refine wp_region_held_drew (S := fun W' => Mem w [blkE PW 86 (W16.map u32v), blkE (w.heap.size + 1 + 1) 23 (aeZ 32), blkE (w.heap.size + 1) 26 (inn.map u8v), blkE w.heap.size 23 (k.map u8v)] W') (by kernel_rfl) ((HM.out.erase 0).drew) (fun hHeld => ?_)
    replace HM := Lib.hid HM.out.drew
    generalize wr.drew = wd1 at HM hHeld ⊢
    refine tf (v := ?_) 0 rfl (Or.inl ⟨by rfl, ?_⟩) ?_
    rotate_left
    · (intro w hSw; (try dsimp only at hSw); go_simp; try with_reducible rfl)
    (try simp only [Act.put, sA, s0, s1])
    refine tf (v := ?_) 1 rfl (Or.inl ⟨by rfl, ?_⟩) ?_
    rotate_left
    · (intro w hSw; (try dsimp only at hSw); go_simp; try with_reducible rfl)
    (try simp only [Act.put, sA, s0, s1])
    refine tf (v := ?_) 2 rfl (Or.inl ⟨by rfl, ?_⟩) ?_
    rotate_left
    · (intro w hSw; (try dsimp only at hSw); go_simp; try with_reducible rfl)
    (try simp only [Act.put, sA, s0, s1])
    refine tf (v := ?_) 3 rfl (Or.inl ⟨by rfl, ?_⟩) ?_
    rotate_left
    · (intro w hSw; (try dsimp only at hSw); go_simp; try with_reducible rfl)
    (try simp only [Act.put, sA, s0, s1])
    refine tf (v := ?_) 4 rfl (Or.inl ⟨by rfl, ?_⟩) ?_
    rotate_left
    · (intro w hSw; (try dsimp only at hSw); go_simp; try with_reducible rfl)
    (try simp only [Act.put, sA, s0, s1])
    refine tf (v := ?_) 5 rfl (Or.inl ⟨by rfl, ?_⟩) ?_
    rotate_left
    · (intro w hSw; (try dsimp only at hSw); have fx := (Mem.blk hSw 0 rfl).word 0 (by rw [HW16.out]; decide); rw [hx6] at fx; go_simp; try with_reducible rfl)
    (try simp only [Act.put, sA, s0, s1])
    refine tf (v := ?_) 6 rfl (Or.inl ⟨by rfl, ?_⟩) ?_
    rotate_left
    · (intro w hSw; (try dsimp only at hSw); go_simp; try with_reducible rfl)
    (try simp only [Act.put, sA, s0, s1])
    refine so 7 rfl fun K hK => ?_
    clear hHeld
    go_simp
    refine (refLit_some x6.toNat (by have := x6.toNat_lt; omega) _).mono ?_
    rintro e wy2 ⟨gl, cl, rfl, ho, hb⟩
    replace HM := Lib.hid (show Mem w [rdE wd1.heap.size wy2.heap.size (some ⟨gl, 0, none⟩) 4 (littleL x6.toNat 4), blkE Q 23 ((derRow W16 0).map u8v), blkE PW 86 (W16.map u32v), blkE (w.heap.size + 1 + 1) 23 (aeZ 32), blkE (w.heap.size + 1) 26 (inn.map u8v), blkE w.heap.size 23 (k.map u8v)] wy2 from HM.out.callRd hb ho)
    clear ho
    clear hb
    go_wp2_with fail
    refine hK.out _ _ ((HM.out.erase 0).erase 0) (fun hHeld => ?_)
    clear hK K
    (try simp only [Act.put, sA, s0, s1])
    refine so 8 rfl fun K hK => ?_
    clear hHeld
    refine step_copy_bytes _ rfl (.tmp 18) (.tmp 23) 29 29 (by rfl) 5 Tryz.underlying29 (by kernel_rfl) Q 0 32 32 ⟨gl, 0, none⟩ 4 cl (by rfl) (by rfl) ((derRow W16 0).map u8v) 23 (HM.out.blk 1 rfl) ((littleL x6.toNat 4).map u8v) (by rw [List.length_map, littleL_length]; rfl) (HM.out.rd 0 rfl).src (by rw [List.length_map, List.length_map, littleL_length]; rw [hrow]; decide) (u8v_one _) ?_
    intro wy3 hb hg
    rw [putL_map] at hb
    replace HM := Lib.hid (show Mem w [rdE wd1.heap.size wy2.heap.size (some ⟨gl, 0, none⟩) 4 (littleL x6.toNat 4), blkE Q 23 ((putL (derRow W16 0) 0 (littleL x6.toNat 4)).map u8v), blkE PW 86 (W16.map u32v), blkE (w.heap.size + 1 + 1) 23 (aeZ 32), blkE (w.heap.size + 1) 26 (inn.map u8v), blkE w.heap.size 23 (k.map u8v)] wy3 from HM.out.put 1 rfl _ hg hb)
    clear hb hg
    refine hK.out _ _ ((HM.out.erase 0).erase 0) (fun hHeld => ?_)
    clear hK K
    (try simp only [Act.put, sA, s0, s1])
    refine wpAnyH_done (by kernel_rfl) ?_ _
    clear hHeld hcv6
    replace HM := Lib.hid (HM.out.erase 0)
    replace HM := Lib.hid (show Mem w [blkE Q 23 ((putL (derRow W16 0) 0 (littleL x6.toNat 4)).map u8v), blkE PW 86 (W16.map u32v), blkE (w.heap.size + 1 + 1) 23 (aeZ 32), blkE (w.heap.size + 1) 26 (inn.map u8v), blkE w.heap.size 23 (k.map u8v)] wy3 from HM.out)
    have hrow : (putL (derRow W16 0) 0 (littleL x6.toNat 4)).length = 32 := by rw [putL_length _ _ _ (by rw [littleL_length, hrow]; decide), hrow]
    go_upto_region 7 with fail
    obtain ⟨x7, hx7⟩ : ∃ x, wd W16 12 = x := ⟨_, rfl⟩
    have hcv7 : IntKind.u64.wrap (x7.toNat : Int) = (x7.toNat : Int) := by have := x7.toNat_lt; rw [IntKind.wrap_u64]; omega
    refine wp_region_held_drew (S := fun W' => Mem w [blkE PW 86 (W16.map u32v), blkE (w.heap.size + 1 + 1) 23 (aeZ 32), blkE (w.heap.size + 1) 26 (inn.map u8v), blkE w.heap.size 23 (k.map u8v)] W') (by kernel_rfl) ((HM.out.erase 0).drew) (fun hHeld => ?_)
    replace HM := Lib.hid HM.out.drew
    generalize wy3.drew = wd2 at HM hHeld ⊢
    refine tf (v := ?_) 0 rfl (Or.inl ⟨by rfl, ?_⟩) ?_
    rotate_left
    · (intro w hSw; (try dsimp only at hSw); go_simp; try with_reducible rfl)
    (try simp only [Act.put, sA, s0, s1])
    refine tf (v := ?_) 1 rfl (Or.inl ⟨by rfl, ?_⟩) ?_
    rotate_left
    · (intro w hSw; (try dsimp only at hSw); go_simp; try with_reducible rfl)
    (try simp only [Act.put, sA, s0, s1])
    refine tf (v := ?_) 2 rfl (Or.inl ⟨by rfl, ?_⟩) ?_
    rotate_left
    · (intro w hSw; (try dsimp only at hSw); go_simp; try with_reducible rfl)
    (try simp only [Act.put, sA, s0, s1])
    refine tf (v := ?_) 3 rfl (Or.inl ⟨by rfl, ?_⟩) ?_
    rotate_left
    · (intro w hSw; (try dsimp only at hSw); go_simp; try with_reducible rfl)
    (try simp only [Act.put, sA, s0, s1])
    refine tf (v := ?_) 4 rfl (Or.inl ⟨by rfl, ?_⟩) ?_
    rotate_left
    · (intro w hSw; (try dsimp only at hSw); go_simp; try with_reducible rfl)
    (try simp only [Act.put, sA, s0, s1])
    refine tf (v := ?_) 5 rfl (Or.inl ⟨by rfl, ?_⟩) ?_
    rotate_left
    · (intro w hSw; (try dsimp only at hSw); go_simp; try with_reducible rfl)
    (try simp only [Act.put, sA, s0, s1])
    refine tf (v := ?_) 6 rfl (Or.inl ⟨by rfl, ?_⟩) ?_
    rotate_left
    · (intro w hSw; (try dsimp only at hSw); go_simp; try with_reducible rfl)
    (try simp only [Act.put, sA, s0, s1])
    refine tf (v := ?_) 7 rfl (Or.inl ⟨by rfl, ?_⟩) ?_
    rotate_left
    · (intro w hSw; (try dsimp only at hSw); have fx := (Mem.blk hSw 0 rfl).word 12 (by rw [HW16.out]; decide); rw [hx7] at fx; go_simp; try with_reducible rfl)
    (try simp only [Act.put, sA, s0, s1])
    refine tf (v := ?_) 8 rfl (Or.inl ⟨by rfl, ?_⟩) ?_
    rotate_left
    · (intro w hSw; (try dsimp only at hSw); go_simp; try with_reducible rfl)
    (try simp only [Act.put, sA, s0, s1])
    refine so 9 rfl fun K hK => ?_
    clear hHeld
    go_simp
    refine (refLit_some x7.toNat (by have := x7.toNat_lt; omega) _).mono ?_
    rintro e wz2 ⟨gl, cl, rfl, ho, hb⟩
    replace HM := Lib.hid (show Mem w [rdE wd2.heap.size wz2.heap.size (some ⟨gl, 0, none⟩) 4 (littleL x7.toNat 4), blkE Q 23 ((putL (derRow W16 0) 0 (littleL x6.toNat 4)).map u8v), blkE PW 86 (W16.map u32v), blkE (w.heap.size + 1 + 1) 23 (aeZ 32), blkE (w.heap.size + 1) 26 (inn.map u8v), blkE w.heap.size 23 (k.map u8v)] wz2 from HM.out.callRd hb ho)
    clear ho
    clear hb
    go_wp2_with fail
    refine hK.out _ _ ((HM.out.erase 0).erase 0) (fun hHeld => ?_)
    clear hK K
    (try simp only [Act.put, sA, s0, s1])
    refine so 10 rfl fun K hK => ?_
    clear hHeld
    refine step_copy_bytes _ rfl (.tmp 28) (.tmp 34) 29 29 (by rfl) 5 Tryz.underlying29 (by kernel_rfl) Q 16 16 16 ⟨gl, 0, none⟩ 4 cl (by rfl) (by rfl) ((putL (derRow W16 0) 0 (littleL x6.toNat 4)).map u8v) 23 (HM.out.blk 1 rfl) ((littleL x7.toNat 4).map u8v) (by rw [List.length_map, littleL_length]; rfl) (HM.out.rd 0 rfl).src (by rw [List.length_map, List.length_map, littleL_length]; rw [hrow]; decide) (u8v_one _) ?_
    intro wz3 hb hg
    rw [putL_map] at hb
    replace HM := Lib.hid (show Mem w [rdE wd2.heap.size wz2.heap.size (some ⟨gl, 0, none⟩) 4 (littleL x7.toNat 4), blkE Q 23 ((putL (putL (derRow W16 0) 0 (littleL x6.toNat 4)) 16 (littleL x7.toNat 4)).map u8v), blkE PW 86 (W16.map u32v), blkE (w.heap.size + 1 + 1) 23 (aeZ 32), blkE (w.heap.size + 1) 26 (inn.map u8v), blkE w.heap.size 23 (k.map u8v)] wz3 from HM.out.put 1 rfl _ hg hb)
    clear hb hg
    refine hK.out _ _ ((HM.out.erase 0).erase 0) (fun hHeld => ?_)
    clear hK K
    (try simp only [Act.put, sA, s0, s1])
    refine wpAnyH_done (by kernel_rfl) ?_ _
    clear hHeld hcv7
    replace HM := Lib.hid (HM.out.erase 0)
    have hd : derRow W16 1 = putL (putL (derRow W16 0) 0 (littleL x6.toNat 4)) 16 (littleL x7.toNat 4) := by rw [← hx6, ← hx7]; rfl
    replace HM := Lib.hid (show Mem w [blkE Q 23 ((derRow W16 1).map u8v), blkE PW 86 (W16.map u32v), blkE (w.heap.size + 1 + 1) 23 (aeZ 32), blkE (w.heap.size + 1) 26 (inn.map u8v), blkE w.heap.size 23 (k.map u8v)] wz3 from by rw [hd]; exact HM.out)
    clear hd hx6 hx7
    go_wp2
    go_roundw
    case rel => exact ⟨1, by omega, by rfl, HM.out⟩
    case measure => simp [intOf]
   ·
    have hrow : (derRow W16 1).length = 32 := derRow_length _ _ (by omega)
    go_upto_region 6 with fail
    have e4 : IntKind.i64.wrap 4 = 4 := by decide
    have e13 : IntKind.i64.wrap 13 = 13 := by decide
    have e20 : IntKind.i64.wrap 20 = 20 := by decide
    obtain ⟨x6, hx6⟩ : ∃ x, wd W16 1 = x := ⟨_, rfl⟩
    have hcv6 : IntKind.u64.wrap (x6.toNat : Int) = (x6.toNat : Int) := by have := x6.toNat_lt; rw [IntKind.wrap_u64]; omega
    refine wp_region_held_drew (S := fun W' => Mem w [blkE PW 86 (W16.map u32v), blkE (w.heap.size + 1 + 1) 23 (aeZ 32), blkE (w.heap.size + 1) 26 (inn.map u8v), blkE w.heap.size 23 (k.map u8v)] W') (by kernel_rfl) ((HM.out.erase 0).drew) (fun hHeld => ?_)
    replace HM := Lib.hid HM.out.drew
    generalize wr.drew = wd1 at HM hHeld ⊢
    refine tf (v := ?_) 0 rfl (Or.inl ⟨by rfl, ?_⟩) ?_
    rotate_left
    · (intro w hSw; (try dsimp only at hSw); go_simp; try with_reducible rfl)
    (try simp only [Act.put, sA, s0, s1])
    refine tf (v := ?_) 1 rfl (Or.inl ⟨by rfl, ?_⟩) ?_
    rotate_left
    · (intro w hSw; (try dsimp only at hSw); go_simp; try with_reducible rfl)
    (try simp only [Act.put, sA, s0, s1])
    refine tf (v := ?_) 2 rfl (Or.inl ⟨by rfl, ?_⟩) ?_
    rotate_left
    · (intro w hSw; (try dsimp only at hSw); go_simp; try with_reducible rfl)
    (try simp only [Act.put, sA, s0, s1])
    refine tf (v := ?_) 3 rfl (Or.inl ⟨by rfl, ?_⟩) ?_
    rotate_left
    · (intro w hSw; (try dsimp only at hSw); go_simp; try with_reducible rfl)
    (try simp only [Act.put, sA, s0, s1])
    refine tf (v := ?_) 4 rfl (Or.inl ⟨by rfl, ?_⟩) ?_
    rotate_left
    · (intro w hSw; (try dsimp only at hSw); go_simp; try with_reducible rfl)
    (try simp only [Act.put, sA, s0, s1])
    refine tf (v := ?_) 5 rfl (Or.inl ⟨by rfl, ?_⟩) ?_
    rotate_left
    · (intro w hSw; (try dsimp only at hSw); have fx := (Mem.blk hSw 0 rfl).word 1 (by rw [HW16.out]; decide); rw [hx6] at fx; go_simp; try with_reducible rfl)
    (try simp only [Act.put, sA, s0, s1])
    refine tf (v := ?_) 6 rfl (Or.inl ⟨by rfl, ?_⟩) ?_
    rotate_left
    · (intro w hSw; (try dsimp only at hSw); go_simp; try with_reducible rfl)
    (try simp only [Act.put, sA, s0, s1])
    refine so 7 rfl fun K hK => ?_
    clear hHeld
    go_simp
    refine (refLit_some x6.toNat (by have := x6.toNat_lt; omega) _).mono ?_
    rintro e wy2 ⟨gl, cl, rfl, ho, hb⟩
    replace HM := Lib.hid (show Mem w [rdE wd1.heap.size wy2.heap.size (some ⟨gl, 0, none⟩) 4 (littleL x6.toNat 4), blkE Q 23 ((derRow W16 1).map u8v), blkE PW 86 (W16.map u32v), blkE (w.heap.size + 1 + 1) 23 (aeZ 32), blkE (w.heap.size + 1) 26 (inn.map u8v), blkE w.heap.size 23 (k.map u8v)] wy2 from HM.out.callRd hb ho)
    clear ho
    clear hb
    go_wp2_with fail
    refine hK.out _ _ ((HM.out.erase 0).erase 0) (fun hHeld => ?_)
    clear hK K
    (try simp only [Act.put, sA, s0, s1])
    refine so 8 rfl fun K hK => ?_
    clear hHeld
    refine step_copy_bytes _ rfl (.tmp 18) (.tmp 23) 29 29 (by rfl) 5 Tryz.underlying29 (by kernel_rfl) Q 4 28 28 ⟨gl, 0, none⟩ 4 cl (by rfl) (by rfl) ((derRow W16 1).map u8v) 23 (HM.out.blk 1 rfl) ((littleL x6.toNat 4).map u8v) (by rw [List.length_map, littleL_length]; rfl) (HM.out.rd 0 rfl).src (by rw [List.length_map, List.length_map, littleL_length]; rw [hrow]; decide) (u8v_one _) ?_
    intro wy3 hb hg
    rw [putL_map] at hb
    replace HM := Lib.hid (show Mem w [rdE wd1.heap.size wy2.heap.size (some ⟨gl, 0, none⟩) 4 (littleL x6.toNat 4), blkE Q 23 ((putL (derRow W16 1) 4 (littleL x6.toNat 4)).map u8v), blkE PW 86 (W16.map u32v), blkE (w.heap.size + 1 + 1) 23 (aeZ 32), blkE (w.heap.size + 1) 26 (inn.map u8v), blkE w.heap.size 23 (k.map u8v)] wy3 from HM.out.put 1 rfl _ hg hb)
    clear hb hg
    refine hK.out _ _ ((HM.out.erase 0).erase 0) (fun hHeld => ?_)
    clear hK K
    (try simp only [Act.put, sA, s0, s1])
    refine wpAnyH_done (by kernel_rfl) ?_ _
    clear hHeld hcv6
    replace HM := Lib.hid (HM.out.erase 0)
    replace HM := Lib.hid (show Mem w [blkE Q 23 ((putL (derRow W16 1) 4 (littleL x6.toNat 4)).map u8v), blkE PW 86 (W16.map u32v), blkE (w.heap.size + 1 + 1) 23 (aeZ 32), blkE (w.heap.size + 1) 26 (inn.map u8v), blkE w.heap.size 23 (k.map u8v)] wy3 from HM.out)
    have hrow : (putL (derRow W16 1) 4 (littleL x6.toNat 4)).length = 32 := by rw [putL_length _ _ _ (by rw [littleL_length, hrow]; decide), hrow]
    go_upto_region 7 with fail
    obtain ⟨x7, hx7⟩ : ∃ x, wd W16 13 = x := ⟨_, rfl⟩
    have hcv7 : IntKind.u64.wrap (x7.toNat : Int) = (x7.toNat : Int) := by have := x7.toNat_lt; rw [IntKind.wrap_u64]; omega
    refine wp_region_held_drew (S := fun W' => Mem w [blkE PW 86 (W16.map u32v), blkE (w.heap.size + 1 + 1) 23 (aeZ 32), blkE (w.heap.size + 1) 26 (inn.map u8v), blkE w.heap.size 23 (k.map u8v)] W') (by kernel_rfl) ((HM.out.erase 0).drew) (fun hHeld => ?_)
    replace HM := Lib.hid HM.out.drew
    generalize wy3.drew = wd2 at HM hHeld ⊢
    refine tf (v := ?_) 0 rfl (Or.inl ⟨by rfl, ?_⟩) ?_
    rotate_left
    · (intro w hSw; (try dsimp only at hSw); go_simp; try with_reducible rfl)
    (try simp only [Act.put, sA, s0, s1])
    refine tf (v := ?_) 1 rfl (Or.inl ⟨by rfl, ?_⟩) ?_
    rotate_left
    · (intro w hSw; (try dsimp only at hSw); go_simp; try with_reducible rfl)
    (try simp only [Act.put, sA, s0, s1])
    refine tf (v := ?_) 2 rfl (Or.inl ⟨by rfl, ?_⟩) ?_
    rotate_left
    · (intro w hSw; (try dsimp only at hSw); go_simp; try with_reducible rfl)
    (try simp only [Act.put, sA, s0, s1])
    refine tf (v := ?_) 3 rfl (Or.inl ⟨by rfl, ?_⟩) ?_
    rotate_left
    · (intro w hSw; (try dsimp only at hSw); go_simp; try with_reducible rfl)
    (try simp only [Act.put, sA, s0, s1])
    refine tf (v := ?_) 4 rfl (Or.inl ⟨by rfl, ?_⟩) ?_
    rotate_left
    · (intro w hSw; (try dsimp only at hSw); go_simp; try with_reducible rfl)
    (try simp only [Act.put, sA, s0, s1])
    refine tf (v := ?_) 5 rfl (Or.inl ⟨by rfl, ?_⟩) ?_
    rotate_left
    · (intro w hSw; (try dsimp only at hSw); go_simp; try with_reducible rfl)
    (try simp only [Act.put, sA, s0, s1])
    refine tf (v := ?_) 6 rfl (Or.inl ⟨by rfl, ?_⟩) ?_
    rotate_left
    · (intro w hSw; (try dsimp only at hSw); go_simp; try with_reducible rfl)
    (try simp only [Act.put, sA, s0, s1])
    refine tf (v := ?_) 7 rfl (Or.inl ⟨by rfl, ?_⟩) ?_
    rotate_left
    · (intro w hSw; (try dsimp only at hSw); have fx := (Mem.blk hSw 0 rfl).word 13 (by rw [HW16.out]; decide); rw [hx7] at fx; go_simp; try with_reducible rfl)
    (try simp only [Act.put, sA, s0, s1])
    refine tf (v := ?_) 8 rfl (Or.inl ⟨by rfl, ?_⟩) ?_
    rotate_left
    · (intro w hSw; (try dsimp only at hSw); go_simp; try with_reducible rfl)
    (try simp only [Act.put, sA, s0, s1])
    refine so 9 rfl fun K hK => ?_
    clear hHeld
    go_simp
    refine (refLit_some x7.toNat (by have := x7.toNat_lt; omega) _).mono ?_
    rintro e wz2 ⟨gl, cl, rfl, ho, hb⟩
    replace HM := Lib.hid (show Mem w [rdE wd2.heap.size wz2.heap.size (some ⟨gl, 0, none⟩) 4 (littleL x7.toNat 4), blkE Q 23 ((putL (derRow W16 1) 4 (littleL x6.toNat 4)).map u8v), blkE PW 86 (W16.map u32v), blkE (w.heap.size + 1 + 1) 23 (aeZ 32), blkE (w.heap.size + 1) 26 (inn.map u8v), blkE w.heap.size 23 (k.map u8v)] wz2 from HM.out.callRd hb ho)
    clear ho
    clear hb
    go_wp2_with fail
    refine hK.out _ _ ((HM.out.erase 0).erase 0) (fun hHeld => ?_)
    clear hK K
    (try simp only [Act.put, sA, s0, s1])
    refine so 10 rfl fun K hK => ?_
    clear hHeld
    refine step_copy_bytes _ rfl (.tmp 28) (.tmp 34) 29 29 (by rfl) 5 Tryz.underlying29 (by kernel_rfl) Q 20 12 12 ⟨gl, 0, none⟩ 4 cl (by rfl) (by rfl) ((putL (derRow W16 1) 4 (littleL x6.toNat 4)).map u8v) 23 (HM.out.blk 1 rfl) ((littleL x7.toNat 4).map u8v) (by rw [List.length_map, littleL_length]; rfl) (HM.out.rd 0 rfl).src (by rw [List.length_map, List.length_map, littleL_length]; rw [hrow]; decide) (u8v_one _) ?_
    intro wz3 hb hg
    rw [putL_map] at hb
    replace HM := Lib.hid (show Mem w [rdE wd2.heap.size wz2.heap.size (some ⟨gl, 0, none⟩) 4 (littleL x7.toNat 4), blkE Q 23 ((putL (putL (derRow W16 1) 4 (littleL x6.toNat 4)) 20 (littleL x7.toNat 4)).map u8v), blkE PW 86 (W16.map u32v), blkE (w.heap.size + 1 + 1) 23 (aeZ 32), blkE (w.heap.size + 1) 26 (inn.map u8v), blkE w.heap.size 23 (k.map u8v)] wz3 from HM.out.put 1 rfl _ hg hb)
    clear hb hg
    refine hK.out _ _ ((HM.out.erase 0).erase 0) (fun hHeld => ?_)
    clear hK K
    (try simp only [Act.put, sA, s0, s1])
    refine wpAnyH_done (by kernel_rfl) ?_ _
    clear hHeld hcv7
    replace HM := Lib.hid (HM.out.erase 0)
    have hd : derRow W16 2 = putL (putL (derRow W16 1) 4 (littleL x6.toNat 4)) 20 (littleL x7.toNat 4) := by rw [← hx6, ← hx7]; rfl
    replace HM := Lib.hid (show Mem w [blkE Q 23 ((derRow W16 2).map u8v), blkE PW 86 (W16.map u32v), blkE (w.heap.size + 1 + 1) 23 (aeZ 32), blkE (w.heap.size + 1) 26 (inn.map u8v), blkE w.heap.size 23 (k.map u8v)] wz3 from by rw [hd]; exact HM.out)
    clear hd hx6 hx7
    go_wp2
    go_roundw
    case rel => exact ⟨2, by omega, by rfl, HM.out⟩
    case measure => simp [intOf]
   ·
    have hrow : (derRow W16 2).length = 32 := derRow_length _ _ (by omega)
    go_upto_region 6 with fail
    have e8 : IntKind.i64.wrap 8 = 8 := by decide
    have e14 : IntKind.i64.wrap 14 = 14 := by decide
    have e24 : IntKind.i64.wrap 24 = 24 := by decide
    obtain ⟨x6, hx6⟩ : ∃ x, wd W16 2 = x := ⟨_, rfl⟩
    have hcv6 : IntKind.u64.wrap (x6.toNat : Int) = (x6.toNat : Int) := by have := x6.toNat_lt; rw [IntKind.wrap_u64]; omega
    refine wp_region_held_drew (S := fun W' => Mem w [blkE PW 86 (W16.map u32v), blkE (w.heap.size + 1 + 1) 23 (aeZ 32), blkE (w.heap.size + 1) 26 (inn.map u8v), blkE w.heap.size 23 (k.map u8v)] W') (by kernel_rfl) ((HM.out.erase 0).drew) (fun hHeld => ?_)
    replace HM := Lib.hid HM.out.drew
    generalize wr.drew = wd1 at HM hHeld ⊢
    refine tf (v := ?_) 0 rfl (Or.inl ⟨by rfl, ?_⟩) ?_
    rotate_left
    · (intro w hSw; (try dsimp only at hSw); go_simp; try with_reducible rfl)
    (try simp only [Act.put, sA, s0, s1])
    refine tf (v := ?_) 1 rfl (Or.inl ⟨by rfl, ?_⟩) ?_
    rotate_left
    · (intro w hSw; (try dsimp only at hSw); go_simp; try with_reducible rfl)
    (try simp only [Act.put, sA, s0, s1])
    refine tf (v := ?_) 2 rfl (Or.inl ⟨by rfl, ?_⟩) ?_
    rotate_left
    · (intro w hSw; (try dsimp only at hSw); go_simp; try with_reducible rfl)
    (try simp only [Act.put, sA, s0, s1])
    refine tf (v := ?_) 3 rfl (Or.inl ⟨by rfl, ?_⟩) ?_
    rotate_left
    · (intro w hSw; (try dsimp only at hSw); go_simp; try with_reducible rfl)
    (try simp only [Act.put, sA, s0, s1])
    refine tf (v := ?_) 4 rfl (Or.inl ⟨by rfl, ?_⟩) ?_
    rotate_left
    · (intro w hSw; (try dsimp only at hSw); go_simp; try with_reducible rfl)
    (try simp only [Act.put, sA, s0, s1])
    refine tf (v := ?_) 5 rfl (Or.inl ⟨by rfl, ?_⟩) ?_
    rotate_left
    · (intro w hSw; (try dsimp only at hSw); have fx := (Mem.blk hSw 0 rfl).word 2 (by rw [HW16.out]; decide); rw [hx6] at fx; go_simp; try with_reducible rfl)
    (try simp only [Act.put, sA, s0, s1])
    refine tf (v := ?_) 6 rfl (Or.inl ⟨by rfl, ?_⟩) ?_
    rotate_left
    · (intro w hSw; (try dsimp only at hSw); go_simp; try with_reducible rfl)
    (try simp only [Act.put, sA, s0, s1])
    refine so 7 rfl fun K hK => ?_
    clear hHeld
    go_simp
    refine (refLit_some x6.toNat (by have := x6.toNat_lt; omega) _).mono ?_
    rintro e wy2 ⟨gl, cl, rfl, ho, hb⟩
    replace HM := Lib.hid (show Mem w [rdE wd1.heap.size wy2.heap.size (some ⟨gl, 0, none⟩) 4 (littleL x6.toNat 4), blkE Q 23 ((derRow W16 2).map u8v), blkE PW 86 (W16.map u32v), blkE (w.heap.size + 1 + 1) 23 (aeZ 32), blkE (w.heap.size + 1) 26 (inn.map u8v), blkE w.heap.size 23 (k.map u8v)] wy2 from HM.out.callRd hb ho)
    clear ho
    clear hb
    go_wp2_with fail
    refine hK.out _ _ ((HM.out.erase 0).erase 0) (fun hHeld => ?_)
    clear hK K
    (try simp only [Act.put, sA, s0, s1])
    refine so 8 rfl fun K hK => ?_
    clear hHeld
    refine step_copy_bytes _ rfl (.tmp 18) (.tmp 23) 29 29 (by rfl) 5 Tryz.underlying29 (by kernel_rfl) Q 8 24 24 ⟨gl, 0, none⟩ 4 cl (by rfl) (by rfl) ((derRow W16 2).map u8v) 23 (HM.out.blk 1 rfl) ((littleL x6.toNat 4).map u8v) (by rw [List.length_map, littleL_length]; rfl) (HM.out.rd 0 rfl).src (by rw [List.length_map, List.length_map, littleL_length]; rw [hrow]; decide) (u8v_one _) ?_
    intro wy3 hb hg
    rw [putL_map] at hb
    replace HM := Lib.hid (show Mem w [rdE wd1.heap.size wy2.heap.size (some ⟨gl, 0, none⟩) 4 (littleL x6.toNat 4), blkE Q 23 ((putL (derRow W16 2) 8 (littleL x6.toNat 4)).map u8v), blkE PW 86 (W16.map u32v), blkE (w.heap.size + 1 + 1) 23 (aeZ 32), blkE (w.heap.size + 1) 26 (inn.map u8v), blkE w.heap.size 23 (k.map u8v)] wy3 from HM.out.put 1 rfl _ hg hb)
    clear hb hg
    refine hK.out _ _ ((HM.out.erase 0).erase 0) (fun hHeld => ?_)
    clear hK K
    (try simp only [Act.put, sA, s0, s1])
    refine wpAnyH_done (by kernel_rfl) ?_ _
    clear hHeld hcv6
    replace HM := Lib.hid (HM.out.erase 0)
    replace HM := Lib.hid (show Mem w [blkE Q 23 ((putL (derRow W16 2) 8 (littleL x6.toNat 4)).map u8v), blkE PW 86 (W16.map u32v), blkE (w.heap.size + 1 + 1) 23 (aeZ 32), blkE (w.heap.size + 1) 26 (inn.map u8v), blkE w.heap.size 23 (k.map u8v)] wy3 from HM.out)
    have hrow : (putL (derRow W16 2) 8 (littleL x6.toNat 4)).length = 32 := by rw [putL_length _ _ _ (by rw [littleL_length, hrow]; decide), hrow]
    go_upto_region 7 with fail
    obtain ⟨x7, hx7⟩ : ∃ x, wd W16 14 = x := ⟨_, rfl⟩
    have hcv7 : IntKind.u64.wrap (x7.toNat : Int) = (x7.toNat : Int) := by have := x7.toNat_lt; rw [IntKind.wrap_u64]; omega
    refine wp_region_held_drew (S := fun W' => Mem w [blkE PW 86 (W16.map u32v), blkE (w.heap.size + 1 + 1) 23 (aeZ 32), blkE (w.heap.size + 1) 26 (inn.map u8v), blkE w.heap.size 23 (k.map u8v)] W') (by kernel_rfl) ((HM.out.erase 0).drew) (fun hHeld => ?_)
    replace HM := Lib.hid HM.out.drew
    generalize wy3.drew = wd2 at HM hHeld ⊢
    refine tf (v := ?_) 0 rfl (Or.inl ⟨by rfl, ?_⟩) ?_
    rotate_left
    · (intro w hSw; (try dsimp only at hSw); go_simp; try with_reducible rfl)
    (try simp only [Act.put, sA, s0, s1])
    refine tf (v := ?_) 1 rfl (Or.inl ⟨by rfl, ?_⟩) ?_
    rotate_left
    · (intro w hSw; (try dsimp only at hSw); go_simp; try with_reducible rfl)
    (try simp only [Act.put, sA, s0, s1])
    refine tf (v := ?_) 2 rfl (Or.inl ⟨by rfl, ?_⟩) ?_
    rotate_left
    · (intro w hSw; (try dsimp only at hSw); go_simp; try with_reducible rfl)
    (try simp only [Act.put, sA, s0, s1])
    refine tf (v := ?_) 3 rfl (Or.inl ⟨by rfl, ?_⟩) ?_
    rotate_left
    · (intro w hSw; (try dsimp only at hSw); go_simp; try with_reducible rfl)
    (try simp only [Act.put, sA, s0, s1])
    refine tf (v := ?_) 4 rfl (Or.inl ⟨by rfl, ?_⟩) ?_
    rotate_left
    · (intro w hSw; (try dsimp only at hSw); go_simp; try with_reducible rfl)
    (try simp only [Act.put, sA, s0, s1])
    refine tf (v := ?_) 5 rfl (Or.inl ⟨by rfl, ?_⟩) ?_
    rotate_left
    · (intro w hSw; (try dsimp only at hSw); go_simp; try with_reducible rfl)
    (try simp only [Act.put, sA, s0, s1])
    refine tf (v := ?_) 6 rfl (Or.inl ⟨by rfl, ?_⟩) ?_
    rotate_left
    · (intro w hSw; (try dsimp only at hSw); go_simp; try with_reducible rfl)
    (try simp only [Act.put, sA, s0, s1])
    refine tf (v := ?_) 7 rfl (Or.inl ⟨by rfl, ?_⟩) ?_
    rotate_left
    · (intro w hSw; (try dsimp only at hSw); have fx := (Mem.blk hSw 0 rfl).word 14 (by rw [HW16.out]; decide); rw [hx7] at fx; go_simp; try with_reducible rfl)
    (try simp only [Act.put, sA, s0, s1])
    refine tf (v := ?_) 8 rfl (Or.inl ⟨by rfl, ?_⟩) ?_
    rotate_left
    · (intro w hSw; (try dsimp only at hSw); go_simp; try with_reducible rfl)
    (try simp only [Act.put, sA, s0, s1])
    refine so 9 rfl fun K hK => ?_
    clear hHeld
    go_simp
    refine (refLit_some x7.toNat (by have := x7.toNat_lt; omega) _).mono ?_
    rintro e wz2 ⟨gl, cl, rfl, ho, hb⟩
    replace HM := Lib.hid (show Mem w [rdE wd2.heap.size wz2.heap.size (some ⟨gl, 0, none⟩) 4 (littleL x7.toNat 4), blkE Q 23 ((putL (derRow W16 2) 8 (littleL x6.toNat 4)).map u8v), blkE PW 86 (W16.map u32v), blkE (w.heap.size + 1 + 1) 23 (aeZ 32), blkE (w.heap.size + 1) 26 (inn.map u8v), blkE w.heap.size 23 (k.map u8v)] wz2 from HM.out.callRd hb ho)
    clear ho
    clear hb
    go_wp2_with fail
    refine hK.out _ _ ((HM.out.erase 0).erase 0) (fun hHeld => ?_)
    clear hK K
    (try simp only [Act.put, sA, s0, s1])
    refine so 10 rfl fun K hK => ?_
    clear hHeld
    refine step_copy_bytes _ rfl (.tmp 28) (.tmp 34) 29 29 (by rfl) 5 Tryz.underlying29 (by kernel_rfl) Q 24 8 8 ⟨gl, 0, none⟩ 4 cl (by rfl) (by rfl) ((putL (derRow W16 2) 8 (littleL x6.toNat 4)).map u8v) 23 (HM.out.blk 1 rfl) ((littleL x7.toNat 4).map u8v) (by rw [List.length_map, littleL_length]; rfl) (HM.out.rd 0 rfl).src (by rw [List.length_map, List.length_map, littleL_length]; rw [hrow]; decide) (u8v_one _) ?_
    intro wz3 hb hg
    rw [putL_map] at hb
    replace HM := Lib.hid (show Mem w [rdE wd2.heap.size wz2.heap.size (some ⟨gl, 0, none⟩) 4 (littleL x7.toNat 4), blkE Q 23 ((putL (putL (derRow W16 2) 8 (littleL x6.toNat 4)) 24 (littleL x7.toNat 4)).map u8v), blkE PW 86 (W16.map u32v), blkE (w.heap.size + 1 + 1) 23 (aeZ 32), blkE (w.heap.size + 1) 26 (inn.map u8v), blkE w.heap.size 23 (k.map u8v)] wz3 from HM.out.put 1 rfl _ hg hb)
    clear hb hg
    refine hK.out _ _ ((HM.out.erase 0).erase 0) (fun hHeld => ?_)
    clear hK K
    (try simp only [Act.put, sA, s0, s1])
    refine wpAnyH_done (by kernel_rfl) ?_ _
    clear hHeld hcv7
    replace HM := Lib.hid (HM.out.erase 0)
    have hd : derRow W16 3 = putL (putL (derRow W16 2) 8 (littleL x6.toNat 4)) 24 (littleL x7.toNat 4) := by rw [← hx6, ← hx7]; rfl
    replace HM := Lib.hid (show Mem w [blkE Q 23 ((derRow W16 3).map u8v), blkE PW 86 (W16.map u32v), blkE (w.heap.size + 1 + 1) 23 (aeZ 32), blkE (w.heap.size + 1) 26 (inn.map u8v), blkE w.heap.size 23 (k.map u8v)] wz3 from by rw [hd]; exact HM.out)
    clear hd hx6 hx7
    go_wp2
    go_roundw
    case rel => exact ⟨3, by omega, by rfl, HM.out⟩
    case measure => simp [intOf]
   ·
    have hrow : (derRow W16 3).length = 32 := derRow_length _ _ (by omega)
    go_upto_region 6 with fail
    have e12 : IntKind.i64.wrap 12 = 12 := by decide
    have e15 : IntKind.i64.wrap 15 = 15 := by decide
    have e28 : IntKind.i64.wrap 28 = 28 := by decide
    obtain ⟨x6, hx6⟩ : ∃ x, wd W16 3 = x := ⟨_, rfl⟩
    have hcv6 : IntKind.u64.wrap (x6.toNat : Int) = (x6.toNat : Int) := by have := x6.toNat_lt; rw [IntKind.wrap_u64]; omega
    refine wp_region_held_drew (S := fun W' => Mem w [blkE PW 86 (W16.map u32v), blkE (w.heap.size + 1 + 1) 23 (aeZ 32), blkE (w.heap.size + 1) 26 (inn.map u8v), blkE w.heap.size 23 (k.map u8v)] W') (by kernel_rfl) ((HM.out.erase 0).drew) (fun hHeld => ?_)
    replace HM := Lib.hid HM.out.drew
    generalize wr.drew = wd1 at HM hHeld ⊢
    refine tf (v := ?_) 0 rfl (Or.inl ⟨by rfl, ?_⟩) ?_
    rotate_left
    · (intro w hSw; (try dsimp only at hSw); go_simp; try with_reducible rfl)
    (try simp only [Act.put, sA, s0, s1])
    refine tf (v := ?_) 1 rfl (Or.inl ⟨by rfl, ?_⟩) ?_
    rotate_left
    · (intro w hSw; (try dsimp only at hSw); go_simp; try with_reducible rfl)
    (try simp only [Act.put, sA, s0, s1])
    refine tf (v := ?_) 2 rfl (Or.inl ⟨by rfl, ?_⟩) ?_
    rotate_left
    · (intro w hSw; (try dsimp only at hSw); go_simp; try with_reducible rfl)
    (try simp only [Act.put, sA, s0, s1])
    refine tf (v := ?_) 3 rfl (Or.inl ⟨by rfl, ?_⟩) ?_
    rotate_left
    · (intro w hSw; (try dsimp only at hSw); go_simp; try with_reducible rfl)
    (try simp only [Act.put, sA, s0, s1])
    refine tf (v := ?_) 4 rfl (Or.inl ⟨by rfl, ?_⟩) ?_
    rotate_left
    · (intro w hSw; (try dsimp only at hSw); go_simp; try with_reducible rfl)
    (try simp only [Act.put, sA, s0, s1])
    refine tf (v := ?_) 5 rfl (Or.inl ⟨by rfl, ?_⟩) ?_
    rotate_left
    · (intro w hSw; (try dsimp only at hSw); have fx := (Mem.blk hSw 0 rfl).word 3 (by rw [HW16.out]; decide); rw [hx6] at fx; go_simp; try with_reducible rfl)
    (try simp only [Act.put, sA, s0, s1])
    refine tf (v := ?_) 6 rfl (Or.inl ⟨by rfl, ?_⟩) ?_
    rotate_left
    · (intro w hSw; (try dsimp only at hSw); go_simp; try with_reducible rfl)
    (try simp only [Act.put, sA, s0, s1])
    refine so 7 rfl fun K hK => ?_
    clear hHeld
    go_simp
    refine (refLit_some x6.toNat (by have := x6.toNat_lt; omega) _).mono ?_
    rintro e wy2 ⟨gl, cl, rfl, ho, hb⟩
    replace HM := Lib.hid (show Mem w [rdE wd1.heap.size wy2.heap.size (some ⟨gl, 0, none⟩) 4 (littleL x6.toNat 4), blkE Q 23 ((derRow W16 3).map u8v), blkE PW 86 (W16.map u32v), blkE (w.heap.size + 1 + 1) 23 (aeZ 32), blkE (w.heap.size + 1) 26 (inn.map u8v), blkE w.heap.size 23 (k.map u8v)] wy2 from HM.out.callRd hb ho)
    clear ho
    clear hb
    go_wp2_with fail
    refine hK.out _ _ ((HM.out.erase 0).erase 0) (fun hHeld => ?_)
    clear hK K
    (try simp only [Act.put, sA, s0, s1])
    refine so 8 rfl fun K hK => ?_
    clear hHeld
    refine step_copy_bytes _ rfl (.tmp 18) (.tmp 23) 29 29 (by rfl) 5 Tryz.underlying29 (by kernel_rfl) Q 12 20 20 ⟨gl, 0, none⟩ 4 cl (by rfl) (by rfl) ((derRow W16 3).map u8v) 23 (HM.out.blk 1 rfl) ((littleL x6.toNat 4).map u8v) (by rw [List.length_map, littleL_length]; rfl) (HM.out.rd 0 rfl).src (by rw [List.length_map, List.length_map, littleL_length]; rw [hrow]; decide) (u8v_one _) ?_
    intro wy3 hb hg
    rw [putL_map] at hb
    replace HM := Lib.hid (show Mem w [rdE wd1.heap.size wy2.heap.size (some ⟨gl, 0, none⟩) 4 (littleL x6.toNat 4), blkE Q 23 ((putL (derRow W16 3) 12 (littleL x6.toNat 4)).map u8v), blkE PW 86 (W16.map u32v), blkE (w.heap.size + 1 + 1) 23 (aeZ 32), blkE (w.heap.size + 1) 26 (inn.map u8v), blkE w.heap.size 23 (k.map u8v)] wy3 from HM.out.put 1 rfl _ hg hb)
    clear hb hg
    refine hK.out _ _ ((HM.out.erase 0).erase 0) (fun hHeld => ?_)
    clear hK K
    (try simp only [Act.put, sA, s0, s1])
    refine wpAnyH_done (by kernel_rfl) ?_ _
    clear hHeld hcv6
    replace HM := Lib.hid (HM.out.erase 0)
    replace HM := Lib.hid (show Mem w [blkE Q 23 ((putL (derRow W16 3) 12 (littleL x6.toNat 4)).map u8v), blkE PW 86 (W16.map u32v), blkE (w.heap.size + 1 + 1) 23 (aeZ 32), blkE (w.heap.size + 1) 26 (inn.map u8v), blkE w.heap.size 23 (k.map u8v)] wy3 from HM.out)
    have hrow : (putL (derRow W16 3) 12 (littleL x6.toNat 4)).length = 32 := by rw [putL_length _ _ _ (by rw [littleL_length, hrow]; decide), hrow]
    go_upto_region 7 with fail
    obtain ⟨x7, hx7⟩ : ∃ x, wd W16 15 = x := ⟨_, rfl⟩
    have hcv7 : IntKind.u64.wrap (x7.toNat : Int) = (x7.toNat : Int) := by have := x7.toNat_lt; rw [IntKind.wrap_u64]; omega
    refine wp_region_held_drew (S := fun W' => Mem w [blkE PW 86 (W16.map u32v), blkE (w.heap.size + 1 + 1) 23 (aeZ 32), blkE (w.heap.size + 1) 26 (inn.map u8v), blkE w.heap.size 23 (k.map u8v)] W') (by kernel_rfl) ((HM.out.erase 0).drew) (fun hHeld => ?_)
    replace HM := Lib.hid HM.out.drew
    generalize wy3.drew = wd2 at HM hHeld ⊢
    refine tf (v := ?_) 0 rfl (Or.inl ⟨by rfl, ?_⟩) ?_
    rotate_left
    · (intro w hSw; (try dsimp only at hSw); go_simp; try with_reducible rfl)
    (try simp only [Act.put, sA, s0, s1])
    refine tf (v := ?_) 1 rfl (Or.inl ⟨by rfl, ?_⟩) ?_
    rotate_left
    · (intro w hSw; (try dsimp only at hSw); go_simp; try with_reducible rfl)
    (try simp only [Act.put, sA, s0, s1])
    refine tf (v := ?_) 2 rfl (Or.inl ⟨by rfl, ?_⟩) ?_
    rotate_left
    · (intro w hSw; (try dsimp only at hSw); go_simp; try with_reducible rfl)
    (try simp only [Act.put, sA, s0, s1])
    refine tf (v := ?_) 3 rfl (Or.inl ⟨by rfl, ?_⟩) ?_
    rotate_left
    · (intro w hSw; (try dsimp only at hSw); go_simp; try with_reducible rfl)
    (try simp only [Act.put, sA, s0, s1])
    refine tf (v := ?_) 4 rfl (Or.inl ⟨by rfl, ?_⟩) ?_
    rotate_left
    · (intro w hSw; (try dsimp only at hSw); go_simp; try with_reducible rfl)
    (try simp only [Act.put, sA, s0, s1])
    refine tf (v := ?_) 5 rfl (Or.inl ⟨by rfl, ?_⟩) ?_
    rotate_left
    · (intro w hSw; (try dsimp only at hSw); go_simp; try with_reducible rfl)
    (try simp only [Act.put, sA, s0, s1])
    refine tf (v := ?_) 6 rfl (Or.inl ⟨by rfl, ?_⟩) ?_
    rotate_left
    · (intro w hSw; (try dsimp only at hSw); go_simp; try with_reducible rfl)
    (try simp only [Act.put, sA, s0, s1])
    refine tf (v := ?_) 7 rfl (Or.inl ⟨by rfl, ?_⟩) ?_
    rotate_left
    · (intro w hSw; (try dsimp only at hSw); have fx := (Mem.blk hSw 0 rfl).word 15 (by rw [HW16.out]; decide); rw [hx7] at fx; go_simp; try with_reducible rfl)
    (try simp only [Act.put, sA, s0, s1])
    refine tf (v := ?_) 8 rfl (Or.inl ⟨by rfl, ?_⟩) ?_
    rotate_left
    · (intro w hSw; (try dsimp only at hSw); go_simp; try with_reducible rfl)
    (try simp only [Act.put, sA, s0, s1])
    refine so 9 rfl fun K hK => ?_
    clear hHeld
    go_simp
    refine (refLit_some x7.toNat (by have := x7.toNat_lt; omega) _).mono ?_
    rintro e wz2 ⟨gl, cl, rfl, ho, hb⟩
    replace HM := Lib.hid (show Mem w [rdE wd2.heap.size wz2.heap.size (some ⟨gl, 0, none⟩) 4 (littleL x7.toNat 4), blkE Q 23 ((putL (derRow W16 3) 12 (littleL x6.toNat 4)).map u8v), blkE PW 86 (W16.map u32v), blkE (w.heap.size + 1 + 1) 23 (aeZ 32), blkE (w.heap.size + 1) 26 (inn.map u8v), blkE w.heap.size 23 (k.map u8v)] wz2 from HM.out.callRd hb ho)
    clear ho
    clear hb
    go_wp2_with fail
    refine hK.out _ _ ((HM.out.erase 0).erase 0) (fun hHeld => ?_)
    clear hK K
    (try simp only [Act.put, sA, s0, s1])
    refine so 10 rfl fun K hK => ?_
    clear hHeld
    refine step_copy_bytes _ rfl (.tmp 28) (.tmp 34) 29 29 (by rfl) 5 Tryz.underlying29 (by kernel_rfl) Q 28 4 4 ⟨gl, 0, none⟩ 4 cl (by rfl) (by rfl) ((putL (derRow W16 3) 12 (littleL x6.toNat 4)).map u8v) 23 (HM.out.blk 1 rfl) ((littleL x7.toNat 4).map u8v) (by rw [List.length_map, littleL_length]; rfl) (HM.out.rd 0 rfl).src (by rw [List.length_map, List.length_map, littleL_length]; rw [hrow]; decide) (u8v_one _) ?_
    intro wz3 hb hg
    rw [putL_map] at hb
    replace HM := Lib.hid (show Mem w [rdE wd2.heap.size wz2.heap.size (some ⟨gl, 0, none⟩) 4 (littleL x7.toNat 4), blkE Q 23 ((putL (putL (derRow W16 3) 12 (littleL x6.toNat 4)) 28 (littleL x7.toNat 4)).map u8v), blkE PW 86 (W16.map u32v), blkE (w.heap.size + 1 + 1) 23 (aeZ 32), blkE (w.heap.size + 1) 26 (inn.map u8v), blkE w.heap.size 23 (k.map u8v)] wz3 from HM.out.put 1 rfl _ hg hb)
    clear hb hg
    refine hK.out _ _ ((HM.out.erase 0).erase 0) (fun hHeld => ?_)
    clear hK K
    (try simp only [Act.put, sA, s0, s1])
    refine wpAnyH_done (by kernel_rfl) ?_ _
    clear hHeld hcv7
    replace HM := Lib.hid (HM.out.erase 0)
    have hd : derRow W16 4 = putL (putL (derRow W16 3) 12 (littleL x6.toNat 4)) 28 (littleL x7.toNat 4) := by rw [← hx6, ← hx7]; rfl
    replace HM := Lib.hid (show Mem w [blkE Q 23 ((derRow W16 4).map u8v), blkE PW 86 (W16.map u32v), blkE (w.heap.size + 1 + 1) 23 (aeZ 32), blkE (w.heap.size + 1) 26 (inn.map u8v), blkE w.heap.size 23 (k.map u8v)] wz3 from by rw [hd]; exact HM.out)
    clear hd hx6 hx7
    go_wp2
    go_roundw
    case rel => exact ⟨4, by omega, by rfl, HM.out⟩
    case measure => simp [intOf]
   ·
    have hrow : (derRow W16 4).length = 32 := derRow_length _ _ (by omega)
    obtain ⟨ol, hol⟩ : ∃ x, derRow W16 4 = x := ⟨_, rfl⟩
    rw [hol] at HM hrow
    have HOL := Lib.hid hol
    clear hol
    obtain ⟨co, hco⟩ : ∃ c, (ol.map u8v).toArray = c := ⟨_, rfl⟩
    have HO := Lib.hid (And.intro hrow hco)
    clear hrow hco
    go_wp2_with (first | (refine wpList_load_blk rfl 23 (.tmp 6) rfl Q rfl 23 (ol.map u8v) (HM.out.blk 0 rfl) 32 5 Tryz.underlying23 (cells32 ol HO.out.1) ?_; rw [HO.out.2]) | (refine wpList_store_blk rfl 23 (.tmp 4) (.tmp 36) rfl (w.heap.size + 1 + 1) (ol.map u8v) rfl (by show Value.agg co = _; rw [HO.out.2]) 23 (aeZ 32) (HM.out.blk 2 rfl) (cells32 ol HO.out.1) (by rw [List.length_map, HO.out.1]; rfl) (u8v_one _) ?_; intro w9 hb9 hg9))
    exact bodyPost_ret (results_blk rfl _ _ (w.heap.size + 1 + 1) 23 (ol.map u8v) 32 5 rfl hb9 Tryz.underlying23 (cells32 ol HO.out.1)) rfl ⟨by rw [HOL.out], (HM.out.put 2 rfl _ hg9 hb9).bel⟩
end Go.Proofs.YtlddafkikkaonaaGreatDoor
