/-
  The contract of the reference's tag of a cipher text.
-/
import Derived.Test.YtafkedeelngnnaaAeMore
import Derived.Test.YtafkedeelngnnaaRefFill
import Derived.Test.YtafkedeelngnnaaRefLit
import Derived.RegionTactic
import Derived.BigRegion
namespace Go.Proofs.Ytafkedeelngnnaa
open Go.RowKit

set_option maxRecDepth 100000 in
set_option maxHeartbeats 8000000 in
theorem refTag_any (HBC : RefBlockC) (HPC : RefPolyC) (k nn : List UInt8) (hk : k.length = 32) (hn : nn.length = 12) (Ac Am : Option Addr) (nc cc nm cm : Nat) (c more : List UInt8) (hnc : nc ≤ 400000) (hnm : nm ≤ 400000) (w : World) (hrc : Rd w w.heap.size Ac nc c) (hrm : Rd w w.heap.size Am nm more) :
    Calls Try.prog 15 #[.agg (k.map u8v).toArray, .agg (nn.map u8v).toArray, .slice Ac nc cc, .slice Am nm cm] w fun e w' => e = .returned (.agg ((sealT k nn c more).map u8v).toArray) ∧ Below w.heap.size w w' := by
  have BC := HBC k nn hk hn 0
  rw [show ((0 : UInt32).toNat : Int) = 0 from rfl] at BC
  have PC := HPC (oneK k nn) (oneK_length k nn)
  obtain ⟨ck, hck⟩ : ∃ ck, (k.map u8v).toArray = ck := ⟨_, rfl⟩
  obtain ⟨cn, hcn⟩ : ∃ cn, (nn.map u8v).toArray = cn := ⟨_, rfl⟩
  obtain ⟨ok, hok⟩ : ∃ ok, ((oneK k nn).map u8v).toArray = ok := ⟨_, rfl⟩
  have hbl := blockL_len k 0 nn
  have hone : oneK k nn = (blockL k 0 nn).take 32 := rfl
  obtain ⟨bl, hble⟩ : ∃ bl, blockL k 0 nn = bl := ⟨_, rfl⟩
  rw [hble] at BC hbl hone
  obtain ⟨cb, hcb⟩ : ∃ cb, (bl.map u8v).toArray = cb := ⟨_, rfl⟩
  rw [hck, hcn, hcb] at BC
  rw [hok] at PC
  rw [hck, hcn]
  have h0 : Blk (((w.alloc (.cells ck 23)).alloc (.cells cn 25)).alloc (.cells (aeZ 16).toArray 43)) w.heap.size 23 (k.map u8v) := by rw [← hck]; exact ((Blk.new w _ _).alloc _).alloc _
  have h1 : Blk (((w.alloc (.cells ck 23)).alloc (.cells cn 25)).alloc (.cells (aeZ 16).toArray 43)) (w.heap.size + 1) 25 (nn.map u8v) := by rw [← hcn]; exact (Blk.new' (w.alloc (.cells ck 23)) (by simp) _ _).alloc _
  have h2 : Blk (((w.alloc (.cells ck 23)).alloc (.cells cn 25)).alloc (.cells (aeZ 16).toArray 43)) (w.heap.size + 2) 43 (aeZ 16) := Blk.new' _ (by simp) _ _
  have h3 : Below w.heap.size w (((w.alloc (.cells ck 23)).alloc (.cells cn 25)).alloc (.cells (aeZ 16).toArray 43)) := (((Below.refl _ _).alloc (Nat.le_refl _) _).alloc (by simp) _).alloc (by simp; omega) _
  rw [aeZ16] at h0 h1 h2 h3
  have HLN := Lib.hid (And.intro hrc.1 hrm.1)
  obtain ⟨m1, hm1⟩ : ∃ m1, (more ++ padL more).length = m1 := ⟨_, rfl⟩
  obtain ⟨m2, hm2⟩ : ∃ m2, (c ++ padL c).length = m2 := ⟨_, rfl⟩
  have hp1 := padL_length more
  have hp2 := padL_length c
  have hm3 : m1 ≤ nm + 15 := by rw [← hm1, List.length_append]; have := hrm.1; omega
  have hm4 : m2 ≤ nc + 15 := by rw [← hm2, List.length_append]; have := hrc.1; omega
  obtain ⟨MM, hMM⟩ : ∃ MM, m1 + m2 + (8 + 8) = MM := ⟨_, rfl⟩
  have HMM := Lib.hid hMM
  have hM6 : MM ≤ 1000000 := by omega
  have HM := Lib.hid (And.intro hm1 hm2)
  clear hm1 hm2 hp1 hp2 hm3 hm4 hMM
  obtain ⟨st, hst⟩ : ∃ st, sealT k nn c more = st := ⟨_, rfl⟩
  have hstl : st.length = 16 := by rw [← hst]; exact sealT_length _ _ _ _
  obtain ⟨cs, hcs⟩ : ∃ cs, (st.map u8v).toArray = cs := ⟨_, rfl⟩
  have HST := Lib.hid (And.intro hstl (And.intro hcs hst))
  have hmac : more ++ padL more ++ (c ++ padL c) ++ (littleL nm 8 ++ littleL nc 8) = macL more c := by rw [macL, hrc.1, hrm.1]
  have HMAC := Lib.hid hmac
  clear hst hcs hstl hmac
  have HRC := Lib.hid hrc
  have HRM := Lib.hid hrm
  have HC := Lib.hid (And.intro hck (And.intro hcn hcb))
  have HOK := Lib.hid hok
  have HL := Lib.hid (And.intro hk (And.intro hn (And.intro hbl hone)))
  have HBC2 := Lib.hid BC
  have HPC2 := Lib.hid PC
  clear hck hcn hcb hok hk hn hbl hone BC PC hrc hrm HBC HPC hble
  go_enter Try.func15, Try.ntmps15
  go_upto_region 1 with fail
  generalize (((w.alloc (.cells ck 23)).alloc (.cells cn 25)).alloc (.cells #[.int .u8 0, .int .u8 0, .int .u8 0, .int .u8 0, .int .u8 0, .int .u8 0, .int .u8 0, .int .u8 0, .int .u8 0, .int .u8 0, .int .u8 0, .int .u8 0, .int .u8 0, .int .u8 0, .int .u8 0, .int .u8 0] 43)) = w1 at h0 h1 h2 h3 ⊢
  rw [show w.heap.size + 1 + 1 = w.heap.size + 2 from rfl]
  have H1 := Lib.hid (And.intro h0 (And.intro h1 (And.intro h2 h3)))
  clear h0 h1 h2 h3
  go_wp2_with (first | (refine wpList_load_blk rfl 23 (.tmp 4) rfl w.heap.size rfl 23 (k.map u8v) H1.out.1 32 5 Try.underlying23 (cells32 k HL.out.1) ?_; rw [HC.out.1]) | (refine wpList_load_blk rfl 25 (.tmp 5) rfl (w.heap.size + 1) rfl 25 (nn.map u8v) H1.out.2.1 12 5 Try.underlying25 (ae_cellsN nn HL.out.2.1) ?_; rw [HC.out.2.1]))
  refine (HBC2.out _).mono ?_
  rintro e w2 ⟨rfl, hb2⟩
  have H2 := Lib.hid (And.intro (H1.out.2.2.1.below hb2 H1.out.2.2.1.lt) (H1.out.2.2.2.trans (hb2.mono H1.out.2.2.2.size)))
  clear hb2 H1
  go_upto_region 2 with (refine wpList_store_blk rfl 48 (.tmp 9) (.tmp 13) rfl w2.heap.size (bl.map u8v) rfl (by show Value.agg cb = _; rw [HC.out.2.2]) 48 (aeZ 64) (Blk.new w2 48 (aeZ 64)) (ae_cells64 bl HL.out.2.2.1) (by rw [List.length_map, HL.out.2.2.1]; rfl) (u8v_one _) ?_; intro w3 hb3 hg3)
  simp only [Act.put]
  have H3 := Lib.hid (show Blk w3 w2.heap.size 48 (bl.map u8v) ∧ Blk w3 (w.heap.size + 2) 43 (aeZ 16) ∧ Below w.heap.size w w3 ∧ w.heap.size + 2 < w2.heap.size from ⟨hb3, (H2.out.1.alloc _).grown hg3 (by have := H2.out.1.lt; simp; omega), below_blk (H2.out.2.alloc H2.out.2.size _) hg3 H2.out.2.size, H2.out.1.lt⟩)
  clear hb3 hg3 H2
  generalize w2.heap.size = P at H3 ⊢
  go_upto_region 3 with fail
  have H5 := Lib.hid (show Blk (w3.alloc (.cells (aeZ 32).toArray 23)) w3.heap.size 23 (aeZ 32) ∧ Blk (w3.alloc (.cells (aeZ 32).toArray 23)) P 48 (bl.map u8v) ∧ Blk (w3.alloc (.cells (aeZ 32).toArray 23)) (w.heap.size + 2) 43 (aeZ 16) ∧ Below w.heap.size w (w3.alloc (.cells (aeZ 32).toArray 23)) ∧ w.heap.size + 2 < w3.heap.size ∧ P < w3.heap.size from ⟨Blk.new w3 _ _, H3.out.1.alloc _, H3.out.2.1.alloc _, H3.out.2.2.1.alloc H3.out.2.2.1.size _, H3.out.2.1.lt, H3.out.1.lt⟩)
  rw [aeZ32] at H5
  generalize w3.alloc (.cells #[.int .u8 0, .int .u8 0, .int .u8 0, .int .u8 0, .int .u8 0, .int .u8 0, .int .u8 0, .int .u8 0, .int .u8 0, .int .u8 0, .int .u8 0, .int .u8 0, .int .u8 0, .int .u8 0, .int .u8 0, .int .u8 0, .int .u8 0, .int .u8 0, .int .u8 0, .int .u8 0, .int .u8 0, .int .u8 0, .int .u8 0, .int .u8 0, .int .u8 0, .int .u8 0, .int .u8 0, .int .u8 0, .int .u8 0, .int .u8 0, .int .u8 0, .int .u8 0] 23) = w4 at H5 ⊢
  generalize w3.heap.size = Q at H5 ⊢
  clear H3
  have HSRC := Lib.hid (show ∀ j v, ((oneK k nn).map u8v)[j]? = some v → w4.drew.cell? ((Addr.mk P 0 none).add j) = some v by
    have h := (H5.out.2.1.drew.rd 0 32 (by rw [HL.out.2.2.1]; omega)).src
    rw [List.drop_zero, ← HL.out.2.2.2] at h
    exact h)
  refine wp_region_held_drew (S := fun _ => True) (by kernel_rfl) (trivial) (fun hHeld => ?_)
  refine take_first (v := ?_) 0 rfl (by kernel_rfl) (by kernel_rfl) (by kernel_rfl) (fun _ _ _ h => h) (Or.inl ⟨by rfl, ?_⟩) (by assumption) ?_
  rotate_left
  · (intro w hSw; (try dsimp only at hSw); go_simp; try with_reducible rfl)
  (try simp only [Act.put, List.setIfInBounds_toArray, List.set_cons_zero, List.set_cons_succ])
  refine take_first (v := ?_) 1 rfl (by kernel_rfl) (by kernel_rfl) (by kernel_rfl) (fun _ _ _ h => h) (Or.inl ⟨by rfl, ?_⟩) (by assumption) ?_
  rotate_left
  · (intro w hSw; (try dsimp only at hSw); go_simp; try with_reducible rfl)
  (try simp only [Act.put, List.setIfInBounds_toArray, List.set_cons_zero, List.set_cons_succ])
  refine step_one 2 rfl (by kernel_rfl) (fun K hK => ?_)
  refine step_copy_bytes _ rfl (.tmp 14) (.tmp 15) 26 26 (by rfl) 5 Try.underlying26 (by kernel_rfl) Q 0 32 32 ⟨P, 0, none⟩ 32 64 (by rfl) (by rfl) (aeZ 32) 23 H5.out.1.drew ((oneK k nn).map u8v) (by rw [List.length_map, oneK_length]; rfl) HSRC.out (by rw [List.length_map, oneK_length]; decide) (u8v_one _) ?_
  intro w6 hb6 hg6
  refine hK.out _ _ (trivial) (fun hHeld => ?_)
  clear hK K
  (try simp only [Act.put, List.setIfInBounds_toArray, List.set_cons_zero, List.set_cons_succ])
  refine wpAnyH_done (by kernel_rfl) ?_ _
  have hone6 : (aeZ 32).take 0 ++ (oneK k nn).map u8v ++ (aeZ 32).drop (0 + ((oneK k nn).map u8v).length) = (oneK k nn).map u8v := by
    rw [List.take_zero, List.nil_append, List.length_map, oneK_length, List.drop_of_length_le (by simp [aeZ]), List.append_nil]
  rw [hone6] at hb6
  have HB := Lib.hid (show Blk w6 Q 23 ((oneK k nn).map u8v) ∧ Blk w6 (w.heap.size + 2) 43 (aeZ 16) ∧ Below w.heap.size w w6 from ⟨hb6, H5.out.2.2.1.drew.grown hg6 (by have := H5.out.2.2.2.2.1; simp; omega), below_blk H5.out.2.2.2.1.drew hg6 (by have := H5.out.2.2.2.2.1; omega)⟩)
  have HQ := Lib.hid H5.out.2.2.2.2.1
  clear hb6 hg6 hone6 H5 HSRC hHeld
  replace HRC := Lib.hid ((HRC.out.below HB.out.2.2).mono HB.out.2.2.size)
  replace HRM := Lib.hid ((HRM.out.below HB.out.2.2).mono HB.out.2.2.size)
  go_upto_region 4 with fail
  generalize hw7 : w6 = w7 at HB HRC HRM ⊢
  clear hw7
  refine wp_region_held_drew (S := fun w4 => Blk w4 Q 23 ((oneK k nn).map u8v)) (by kernel_rfl) (HB.out.1.drew) (fun hHeld => ?_)
  replace HB := Lib.hid (show Blk w7.drew Q 23 ((oneK k nn).map u8v) ∧ Blk w7.drew (w.heap.size + 2) 43 (aeZ 16) ∧ Below w.heap.size w w7.drew from ⟨HB.out.1.drew, HB.out.2.1.drew, HB.out.2.2.drew⟩)
  replace HRC := Lib.hid HRC.out.drew
  replace HRM := Lib.hid HRM.out.drew
  refine take_first (v := .agg ok) 0 rfl (by kernel_rfl) (by kernel_rfl) (by kernel_rfl) (fun _ _ _ h => h) (by rw [← HOK.out]; exact yields_load_blk (by rfl) 23 (.tmp 10) rfl Q rfl 23 ((oneK k nn).map u8v) (fun w' hb => hb) 32 5 Try.underlying23 (cells32 _ (oneK_length k nn))) (by assumption) ?_
  (try simp only [Act.put, List.setIfInBounds_toArray, List.set_cons_zero, List.set_cons_succ])
  refine take_first (v := ?_) 1 rfl (by kernel_rfl) (by kernel_rfl) (by kernel_rfl) (fun _ _ _ h => h) (Or.inl ⟨by rfl, ?_⟩) (by assumption) ?_
  rotate_left
  · (intro w hSw; (try dsimp only at hSw); go_simp; try with_reducible rfl)
  (try simp only [Act.put, List.setIfInBounds_toArray, List.set_cons_zero, List.set_cons_succ])
  refine take_first (v := ?_) 3 rfl (by kernel_rfl) (by kernel_rfl) (by kernel_rfl) (fun _ _ _ h => h) (Or.inl ⟨by rfl, ?_⟩) (by assumption) ?_
  rotate_left
  · (intro w hSw; (try dsimp only at hSw); go_simp; try with_reducible rfl)
  (try simp only [Act.put, List.setIfInBounds_toArray, List.set_cons_zero, List.set_cons_succ])
  refine take_first (v := ?_) 5 rfl (by kernel_rfl) (by kernel_rfl) (by kernel_rfl) (fun _ _ _ h => h) (Or.inl ⟨by rfl, ?_⟩) (by assumption) ?_
  rotate_left
  · (intro w hSw; (try dsimp only at hSw); go_simp; try with_reducible rfl)
  (try simp only [Act.put, List.setIfInBounds_toArray, List.set_cons_zero, List.set_cons_succ])
  refine take_first (v := ?_) 6 rfl (by kernel_rfl) (by kernel_rfl) (by kernel_rfl) (fun _ _ _ h => h) (Or.inl ⟨by rfl, ?_⟩) (by assumption) ?_
  rotate_left
  · (intro w hSw; (try dsimp only at hSw); go_simp; try with_reducible rfl)
  (try simp only [Act.put, List.setIfInBounds_toArray, List.set_cons_zero, List.set_cons_succ])
  refine take_first (v := ?_) 7 rfl (by kernel_rfl) (by kernel_rfl) (by kernel_rfl) (fun _ _ _ h => h) (Or.inl ⟨by rfl, ?_⟩) (by assumption) ?_
  rotate_left
  · (intro w hSw; (try dsimp only at hSw); go_simp; try with_reducible rfl)
  (try simp only [Act.put, List.setIfInBounds_toArray, List.set_cons_zero, List.set_cons_succ])
  refine take_first (v := ?_) 9 rfl (by kernel_rfl) (by kernel_rfl) (by kernel_rfl) (fun _ _ _ h => h) (Or.inl ⟨by rfl, ?_⟩) (by assumption) ?_
  rotate_left
  · (intro w hSw; (try dsimp only at hSw); go_simp; try with_reducible rfl)
  (try simp only [Act.put, List.setIfInBounds_toArray, List.set_cons_zero, List.set_cons_succ])
  refine take_first (v := ?_) 10 rfl (by kernel_rfl) (by kernel_rfl) (by kernel_rfl) (fun _ _ _ h => h) (Or.inl ⟨by rfl, ?_⟩) (by assumption) ?_
  rotate_left
  · (intro w hSw; (try dsimp only at hSw); go_simp; try with_reducible rfl)
  (try simp only [Act.put, List.setIfInBounds_toArray, List.set_cons_zero, List.set_cons_succ])
  refine take_first (v := ?_) 11 rfl (by kernel_rfl) (by kernel_rfl) (by kernel_rfl) (fun _ _ _ h => h) (Or.inl ⟨by rfl, ?_⟩) (by assumption) ?_
  rotate_left
  · (intro w hSw; (try dsimp only at hSw); go_simp; try with_reducible rfl)
  (try simp only [Act.put, List.setIfInBounds_toArray, List.set_cons_zero, List.set_cons_succ])
  refine step_one 2 rfl (by kernel_rfl) (fun K hK => ?_)
  go_simp
  refine (refFilled_m cm Am nm more (by omega) m1 HM.out.1 _ HRM.out).mono ?_
  rintro e wa ⟨F1, d1, rfl, hf, hb⟩
  replace HRC := Lib.hid ((HRC.out.below hb).mono hb.size)
  replace HRM := Lib.hid ((HRM.out.below hb).mono hb.size)
  replace HB := Lib.hid (show Blk wa Q 23 ((oneK k nn).map u8v) ∧ Blk wa (w.heap.size + 2) 43 (aeZ 16) ∧ Below w.heap.size w wa from ⟨HB.out.1.below hb HB.out.1.lt, HB.out.2.1.below hb HB.out.2.1.lt, HB.out.2.2.trans (hb.mono HB.out.2.2.size)⟩)
  have R1 := Lib.hid hf
  clear hf
  clear hb
  go_wp2_with fail
  refine hK.out _ _ (HB.out.1) (fun hHeld => ?_)
  clear hK K
  (try simp only [Act.put, List.setIfInBounds_toArray, List.set_cons_zero, List.set_cons_succ])
  refine step_one 4 rfl (by kernel_rfl) (fun K hK => ?_)
  go_simp
  refine (refFilled_m cc Ac nc c (by omega) m2 HM.out.2 _ HRC.out).mono ?_
  rintro e wb ⟨F2, d2, rfl, hf, hb⟩
  replace R1 := Lib.hid ((R1.out.below hb).mono hb.size)
  replace HB := Lib.hid (show Blk wb Q 23 ((oneK k nn).map u8v) ∧ Blk wb (w.heap.size + 2) 43 (aeZ 16) ∧ Below w.heap.size w wb from ⟨HB.out.1.below hb HB.out.1.lt, HB.out.2.1.below hb HB.out.2.1.lt, HB.out.2.2.trans (hb.mono HB.out.2.2.size)⟩)
  have R2 := Lib.hid hf
  clear hf
  clear hb
  go_wp2_with fail
  refine hK.out _ _ (HB.out.1) (fun hHeld => ?_)
  clear hK K
  (try simp only [Act.put, List.setIfInBounds_toArray, List.set_cons_zero, List.set_cons_succ])
  refine step_one 8 rfl (by kernel_rfl) (fun K hK => ?_)
  go_simp
  rw [show (8 : Int) = ((8 : Nat) : Int) from rfl, show IntKind.u64.wrap (nm : Int) = (nm : Int) by rw [IntKind.wrap_u64]; omega]
  refine (refLittle_any nm (by omega) 8 (by omega) (by omega) _).mono ?_
  rintro e wc ⟨F3, d3, rfl, ho, hb⟩
  replace R1 := Lib.hid ((R1.out.below hb).mono hb.size)
  replace R2 := Lib.hid ((R2.out.below hb).mono hb.size)
  replace HB := Lib.hid (show Blk wc Q 23 ((oneK k nn).map u8v) ∧ Blk wc (w.heap.size + 2) 43 (aeZ 16) ∧ Below w.heap.size w wc from ⟨HB.out.1.below hb HB.out.1.lt, HB.out.2.1.below hb HB.out.2.1.lt, HB.out.2.2.trans (hb.mono HB.out.2.2.size)⟩)
  have R3 := Lib.hid (Rd.of_own ho)
  clear ho
  clear hb
  go_wp2_with fail
  refine hK.out _ _ (HB.out.1) (fun hHeld => ?_)
  clear hK K
  (try simp only [Act.put, List.setIfInBounds_toArray, List.set_cons_zero, List.set_cons_succ])
  refine step_one 12 rfl (by kernel_rfl) (fun K hK => ?_)
  go_simp
  rw [show (8 : Int) = ((8 : Nat) : Int) from rfl, show IntKind.u64.wrap (nc : Int) = (nc : Int) by rw [IntKind.wrap_u64]; omega]
  refine (refLittle_any nc (by omega) 8 (by omega) (by omega) _).mono ?_
  rintro e wd ⟨F4, d4, rfl, ho, hb⟩
  replace R1 := Lib.hid ((R1.out.below hb).mono hb.size)
  replace R2 := Lib.hid ((R2.out.below hb).mono hb.size)
  replace R3 := Lib.hid ((R3.out.below hb).mono hb.size)
  replace HB := Lib.hid (show Blk wd Q 23 ((oneK k nn).map u8v) ∧ Blk wd (w.heap.size + 2) 43 (aeZ 16) ∧ Below w.heap.size w wd from ⟨HB.out.1.below hb HB.out.1.lt, HB.out.2.1.below hb HB.out.2.1.lt, HB.out.2.2.trans (hb.mono HB.out.2.2.size)⟩)
  have R4 := Lib.hid (Rd.of_own ho)
  clear ho
  clear hb
  go_wp2_with fail
  refine hK.out _ _ (HB.out.1) (fun hHeld => ?_)
  clear hK K
  (try simp only [Act.put, List.setIfInBounds_toArray, List.set_cons_zero, List.set_cons_succ])
  refine step_one 13 rfl (by kernel_rfl) (fun K hK => ?_)
  go_simp
  have hg := Blk.new wd 26 [.slice F1 m1 d1, .slice F2 m2 d2, .slice F3 8 d3, .slice F4 8 d4]
  have hb : Below wd.heap.size wd (wd.alloc (.cells [.slice F1 m1 d1, .slice F2 m2 d2, .slice F3 8 d3, .slice F4 8 d4].toArray 26)) := (Below.refl _ _).alloc (Nat.le_refl _) _
  rw [show [Value.slice F1 m1 d1, .slice F2 m2 d2, .slice F3 8 d3, .slice F4 8 d4].toArray = #[Value.slice F1 m1 d1, .slice F2 m2 d2, .slice F3 8 d3, .slice F4 8 d4] from rfl] at hb
  have HG := Lib.hid (show Blk (wd.alloc (.cells #[Value.slice F1 m1 d1, .slice F2 m2 d2, .slice F3 8 d3, .slice F4 8 d4] 26)) wd.heap.size 26 [.slice F1 m1 d1, .slice F2 m2 d2, .slice F3 8 d3, .slice F4 8 d4] from hg)
  generalize hwe : wd.alloc (.cells #[Value.slice F1 m1 d1, .slice F2 m2 d2, .slice F3 8 d3, .slice F4 8 d4] 26) = we at HG hb ⊢
  clear hwe hg
  replace R1 := Lib.hid ((R1.out.below hb).mono hb.size)
  replace R2 := Lib.hid ((R2.out.below hb).mono hb.size)
  replace R3 := Lib.hid ((R3.out.below hb).mono hb.size)
  replace R4 := Lib.hid ((R4.out.below hb).mono hb.size)
  replace HB := Lib.hid (show Blk we Q 23 ((oneK k nn).map u8v) ∧ Blk we (w.heap.size + 2) 43 (aeZ 16) ∧ Below w.heap.size w we from ⟨HB.out.1.below hb HB.out.1.lt, HB.out.2.1.below hb HB.out.2.1.lt, HB.out.2.2.trans (hb.mono HB.out.2.2.size)⟩)
  clear hb
  generalize wd.heap.size = gj at HG ⊢
  refine hK.out _ _ (HB.out.1) (fun hHeld => ?_)
  clear hK K
  (try simp only [Act.put, List.setIfInBounds_toArray, List.set_cons_zero, List.set_cons_succ])
  refine step_one 14 rfl (by kernel_rfl) (fun K hK => ?_)
  go_simp
  refine (refJoin_four gj 26 F1 F2 F3 F4 m1 d1 m2 d2 8 d3 8 d4 _ _ _ _ MM HMM.out hM6 _ HG.out R1.out R2.out R3.out R4.out).mono ?_
  rintro e wf ⟨AJ, cj, rfl, hJ, q1, q2, hb⟩
  rw [HMAC.out] at hJ
  have RJ := Lib.hid hJ
  replace HB := Lib.hid (show Blk wf Q 23 ((oneK k nn).map u8v) ∧ Blk wf (w.heap.size + 2) 43 (aeZ 16) ∧ Below w.heap.size w wf from ⟨HB.out.1.below hb HB.out.1.lt, HB.out.2.1.below hb HB.out.2.1.lt, HB.out.2.2.trans (hb.mono HB.out.2.2.size)⟩)
  clear hb hJ R1 R2 R3 R4 HG
  go_wp2_with fail
  refine hK.out _ _ (HB.out.1) (fun hHeld => ?_)
  clear hK K
  (try simp only [Act.put, List.setIfInBounds_toArray, List.set_cons_zero, List.set_cons_succ])
  refine step_one 15 rfl (by kernel_rfl) (fun K hK => ?_)
  go_simp
  refine (HPC2.out AJ MM cj _ q1 q2 _ RJ.out).mono ?_
  rintro e wg ⟨rfl, hb⟩
  replace HB := Lib.hid (show Blk wg Q 23 ((oneK k nn).map u8v) ∧ Blk wg (w.heap.size + 2) 43 (aeZ 16) ∧ Below w.heap.size w wg from ⟨HB.out.1.below hb HB.out.1.lt, HB.out.2.1.below hb HB.out.2.1.lt, HB.out.2.2.trans (hb.mono HB.out.2.2.size)⟩)
  clear hb
  rw [show tagL (oneK k nn) (macL more c) = st from HST.out.2.2, HST.out.2.1]
  go_wp2_with fail
  refine hK.out _ _ (HB.out.1) (fun hHeld => ?_)
  clear hK K
  (try simp only [Act.put, List.setIfInBounds_toArray, List.set_cons_zero, List.set_cons_succ])
  refine step_one 16 rfl (by kernel_rfl) (fun K hK => ?_)
  refine step_store_blk _ rfl 43 (.tmp 8) (.tmp 32) rfl (w.heap.size + 2) (st.map u8v) rfl (by show Value.agg cs = _; rw [HST.out.2.1]) 43 (aeZ 16) HB.out.2.1 (ae_cellsT st HST.out.1) (by rw [List.length_map, HST.out.1]; rfl) (u8v_one _) ?_
  intro w9 hb9 hg9
  have hq9 := HB.out.1.grown hg9 (by have := HQ.out; simp; omega)
  have hl9 := below_blk HB.out.2.2 hg9 (by omega)
  refine hK.out _ _ hq9 (fun hHeld => ?_)
  clear hK K
  (try simp only [Act.put])
  refine wpAnyH_done (by kernel_rfl) ?_ _
  go_wp2_with fail
  exact bodyPost_ret (results_blk rfl _ _ (w.heap.size + 2) 43 (st.map u8v) 16 5 rfl hb9 Try.underlying43 (ae_cellsT st HST.out.1)) rfl ⟨by rw [HST.out.2.2], hl9⟩
end Go.Proofs.Ytafkedeelngnnaa
