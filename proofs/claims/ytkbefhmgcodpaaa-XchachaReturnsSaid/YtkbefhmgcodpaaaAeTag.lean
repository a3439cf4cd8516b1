/-
  The contract of aead.tagOf.
-/
import Derived.Test.YtkbefhmgcodpaaaAeData
import Derived.Test.YtkbefhmgcodpaaaChBlock
import Derived.Test.YtkbefhmgcodpaaaSuSum
import Derived.RegionTactic
import Derived.BigRegion
import Derived.Deep.DeepCutAuto
namespace Go.Proofs.Ytkbefhmgcodpaaa
open Go.RowKit

set_option maxRecDepth 100000 in
set_option maxHeartbeats 8000000 in
theorem tagOf_any (k nn : List UInt8) (hk : k.length = 32) (hn : nn.length = 12) (Ac Am : Option Addr) (nc cc nm cm : Nat) (c more : List UInt8) (hnc : nc ≤ 400000) (hnm : nm ≤ 400000) (w : World) (hrc : Rd w w.heap.size Ac nc c) (hrm : Rd w w.heap.size Am nm more) :
    Calls Try.prog 33 #[.agg (k.map u8v).toArray, .agg (nn.map u8v).toArray, .slice Ac nc cc, .slice Am nm cm] w fun e w' => e = .returned (.agg ((sealT k nn c more).map u8v).toArray) ∧ Below w.heap.size w w' := by
  have BC := block_any k nn hk hn 0
  rw [show ((0 : UInt32).toNat : Int) = 0 from rfl] at BC
  have PC := sumC (oneK k nn) (oneK_length k nn)
  obtain ⟨ck, hck⟩ : ∃ ck, (k.map u8v).toArray = ck := ⟨_, rfl⟩
  obtain ⟨cn, hcn⟩ : ∃ cn, (nn.map u8v).toArray = cn := ⟨_, rfl⟩
  obtain ⟨ok, hok⟩ : ∃ ok, ((oneK k nn).map u8v).toArray = ok := ⟨_, rfl⟩
  have hbl := blockL_len k 0 nn
  have hone : oneK k nn = (blockL k 0 nn).take 32 := rfl
  obtain ⟨bl, hble⟩ : ∃ bl, blockL k 0 nn = bl := ⟨_, rfl⟩
  rw [hble] at BC hbl hone
  obtain ⟨cb, hcb⟩ : ∃ cb, (bl.map u8v).toArray = cb := ⟨_, rfl⟩
  rw [hck, hcn, hcb] at BC
  rw [hok] at PC
  rw [hck, hcn]
  have h0 : Blk ((((w.alloc (.cells ck 23)).alloc (.cells cn 39)).alloc (.cells (aeZ 16).toArray 54)).alloc (.cells (aeZ 32).toArray 23)) w.heap.size 23 (k.map u8v) := by rw [← hck]; exact (((Blk.new w _ _).alloc _).alloc _).alloc _
  have h1 : Blk ((((w.alloc (.cells ck 23)).alloc (.cells cn 39)).alloc (.cells (aeZ 16).toArray 54)).alloc (.cells (aeZ 32).toArray 23)) (w.heap.size + 1) 39 (nn.map u8v) := by rw [← hcn]; exact ((Blk.new' (w.alloc (.cells ck 23)) (by simp) _ _).alloc _).alloc _
  have h2 : Blk ((((w.alloc (.cells ck 23)).alloc (.cells cn 39)).alloc (.cells (aeZ 16).toArray 54)).alloc (.cells (aeZ 32).toArray 23)) (w.heap.size + 2) 54 (aeZ 16) := (Blk.new' _ (by simp) _ _).alloc _
  have h4 : Blk ((((w.alloc (.cells ck 23)).alloc (.cells cn 39)).alloc (.cells (aeZ 16).toArray 54)).alloc (.cells (aeZ 32).toArray 23)) (w.heap.size + 3) 23 (aeZ 32) := Blk.new' _ (by simp) _ _
  have h3 : Below w.heap.size w ((((w.alloc (.cells ck 23)).alloc (.cells cn 39)).alloc (.cells (aeZ 16).toArray 54)).alloc (.cells (aeZ 32).toArray 23)) := ((((Below.refl _ _).alloc (Nat.le_refl _) _).alloc (by simp) _).alloc (by simp; omega) _).alloc (by simp; omega) _
  rw [aeZ16, aeZ32] at h0 h1 h2 h3 h4
  obtain ⟨MM, hMM⟩ : ∃ MM, (macL more c).length = MM := ⟨_, rfl⟩
  have HMM := Lib.hid hMM
  clear hMM
  obtain ⟨st, hst⟩ : ∃ st, sealT k nn c more = st := ⟨_, rfl⟩
  have hstl : st.length = 16 := by rw [← hst]; exact sealT_length _ _ _ _
  obtain ⟨cs, hcs⟩ : ∃ cs, (st.map u8v).toArray = cs := ⟨_, rfl⟩
  have HST := Lib.hid (And.intro hstl (And.intro hcs hst))
  clear hst hcs hstl
  have HRC := Lib.hid hrc
  have HRM := Lib.hid hrm
  have HC := Lib.hid (And.intro hck (And.intro hcn hcb))
  have HOK := Lib.hid hok
  have HL := Lib.hid (And.intro hk (And.intro hn (And.intro hbl hone)))
  have HBC2 := Lib.hid BC
  have HPC2 := Lib.hid PC
  clear hck hcn hcb hok hk hn hbl hone BC PC hrc hrm hble
  go_enter Try.func33, Try.ntmps33
  go_upto_region 2 with fail
  generalize ((((w.alloc (.cells ck 23)).alloc (.cells cn 39)).alloc (.cells #[.int .u8 0, .int .u8 0, .int .u8 0, .int .u8 0, .int .u8 0, .int .u8 0, .int .u8 0, .int .u8 0, .int .u8 0, .int .u8 0, .int .u8 0, .int .u8 0, .int .u8 0, .int .u8 0, .int .u8 0, .int .u8 0] 54)).alloc (.cells #[.int .u8 0, .int .u8 0, .int .u8 0, .int .u8 0, .int .u8 0, .int .u8 0, .int .u8 0, .int .u8 0, .int .u8 0, .int .u8 0, .int .u8 0, .int .u8 0, .int .u8 0, .int .u8 0, .int .u8 0, .int .u8 0, .int .u8 0, .int .u8 0, .int .u8 0, .int .u8 0, .int .u8 0, .int .u8 0, .int .u8 0, .int .u8 0, .int .u8 0, .int .u8 0, .int .u8 0, .int .u8 0, .int .u8 0, .int .u8 0, .int .u8 0, .int .u8 0] 23)) = w1 at h0 h1 h2 h3 h4 ⊢
  rw [show w.heap.size + 1 + 1 = w.heap.size + 2 from rfl, show w.heap.size + 2 + 1 = w.heap.size + 3 from rfl]
  have H1 := Lib.hid (And.intro h0 (And.intro h1 (And.intro h2 (And.intro h4 h3))))
  clear h0 h1 h2 h3 h4
  go_wp2_with (first | (refine wpList_load_blk rfl 23 (.tmp 4) rfl w.heap.size rfl 23 (k.map u8v) H1.out.1 32 5 Try.underlying23 (cells32 k HL.out.1) ?_; rw [HC.out.1]) | (refine wpList_load_blk rfl 39 (.tmp 5) rfl (w.heap.size + 1) rfl 39 (nn.map u8v) H1.out.2.1 12 5 Try.underlying39 (ae_cellsN nn HL.out.2.1) ?_; rw [HC.out.2.1]))
  refine (HBC2.out _).mono ?_
  rintro e w2 ⟨rfl, hb2⟩
  have H2 := Lib.hid (And.intro (H1.out.2.2.1.below hb2 H1.out.2.2.1.lt) (And.intro (H1.out.2.2.2.1.below hb2 H1.out.2.2.2.1.lt) (H1.out.2.2.2.2.trans (hb2.mono H1.out.2.2.2.2.size))))
  clear hb2 H1
  go_upto_region 3 with (refine wpList_store_blk rfl 63 (.tmp 10) (.tmp 13) rfl w2.heap.size (bl.map u8v) rfl (by show Value.agg cb = _; rw [HC.out.2.2]) 63 (aeZ 64) (Blk.new w2 63 (aeZ 64)) (ae_cells64 bl HL.out.2.2.1) (by rw [List.length_map, HL.out.2.2.1]; rfl) (u8v_one _) ?_; intro w3 hb3 hg3)
  simp only [Act.put]
  have H3 := Lib.hid (show Blk w3 w2.heap.size 63 (bl.map u8v) ∧ Blk w3 (w.heap.size + 2) 54 (aeZ 16) ∧ Blk w3 (w.heap.size + 3) 23 (aeZ 32) ∧ Below w.heap.size w w3 from ⟨hb3, (H2.out.1.alloc _).grown hg3 (by have := H2.out.1.lt; simp; omega), (H2.out.2.1.alloc _).grown hg3 (by have := H2.out.2.1.lt; simp; omega), below_blk (H2.out.2.2.alloc H2.out.2.2.size _) hg3 H2.out.2.2.size⟩)
  clear hb3 hg3 H2
  generalize w2.heap.size = P at H3 ⊢
  have HSRC := Lib.hid (show ∀ j v, ((oneK k nn).map u8v)[j]? = some v → w3.drew.cell? ((Addr.mk P 0 none).add j) = some v by
    have h := (H3.out.1.drew.rd 0 32 (by rw [HL.out.2.2.1]; omega)).src
    rw [List.drop_zero, ← HL.out.2.2.2] at h
    exact h)
  refine wp_region_held_drew (S := fun _ => True) (by kernel_rfl) (trivial) (fun hHeld => ?_)
  refine take_first (v := ?_) 0 rfl (by kernel_rfl) (by kernel_rfl) (by kernel_rfl) (fun _ _ _ h => h) (Or.inl ⟨by rfl, ?_⟩) (by assumption) ?_
  rotate_left
  · (intro w hSw; (try dsimp only at hSw); go_simp; try with_reducible rfl)
  (try simp only [Act.put, List.setIfInBounds_toArray, List.set_cons_zero, List.set_cons_succ])
  refine take_first (v := ?_) 1 rfl (by kernel_rfl) (by kernel_rfl) (by kernel_rfl) (fun _ _ _ h => h) (Or.inl ⟨by rfl, ?_⟩) (by assumption) ?_
  rotate_left
  · (intro w hSw; (try dsimp only at hSw); go_simp; try with_reducible rfl)
  (try simp only [Act.put, List.setIfInBounds_toArray, List.set_cons_zero, List.set_cons_succ])
  refine step_one 2 rfl (by kernel_rfl) (fun K hK => ?_)
  refine step_copy_bytes _ rfl (.tmp 14) (.tmp 15) 27 27 (by rfl) 5 Try.underlying27 (by kernel_rfl) (w.heap.size + 3) 0 32 32 ⟨P, 0, none⟩ 64 64 (by rfl) (by rfl) (aeZ 32) 23 H3.out.2.2.1.drew ((oneK k nn).map u8v) (by rw [List.length_map, oneK_length]; rfl) HSRC.out (by rw [List.length_map, oneK_length]; decide) (u8v_one _) ?_
  intro w6 hb6 hg6
  refine hK.out _ _ (trivial) (fun hHeld => ?_)
  clear hK K
  (try simp only [Act.put, List.setIfInBounds_toArray, List.set_cons_zero, List.set_cons_succ])
  refine wpAnyH_done (by kernel_rfl) ?_ _
  have hone6 : (aeZ 32).take 0 ++ (oneK k nn).map u8v ++ (aeZ 32).drop (0 + ((oneK k nn).map u8v).length) = (oneK k nn).map u8v := by
    rw [List.take_zero, List.nil_append, List.length_map, oneK_length, List.drop_of_length_le (by simp [aeZ]), List.append_nil]
  rw [hone6] at hb6
  have HB := Lib.hid (show Blk w6 (w.heap.size + 3) 23 ((oneK k nn).map u8v) ∧ Blk w6 (w.heap.size + 2) 54 (aeZ 16) ∧ Below w.heap.size w w6 from ⟨hb6, H3.out.2.1.drew.grown hg6 (by simp), below_blk H3.out.2.2.2.drew hg6 (by omega)⟩)
  clear hb6 hg6 hone6 H3 HSRC hHeld
  replace HRC := Lib.hid ((HRC.out.below HB.out.2.2).mono HB.out.2.2.size)
  replace HRM := Lib.hid ((HRM.out.below HB.out.2.2).mono HB.out.2.2.size)
  go_upto_region 4 with fail
  generalize hw7 : w6 = w7 at HB HRC HRM ⊢
  clear hw7
  refine wp_region_held_drew (S := fun w4 => Blk w4 (w.heap.size + 3) 23 ((oneK k nn).map u8v)) (by kernel_rfl) (HB.out.1.drew) (fun hHeld => ?_)
  replace HB := Lib.hid (show Blk w7.drew (w.heap.size + 3) 23 ((oneK k nn).map u8v) ∧ Blk w7.drew (w.heap.size + 2) 54 (aeZ 16) ∧ Below w.heap.size w w7.drew from ⟨HB.out.1.drew, HB.out.2.1.drew, HB.out.2.2.drew⟩)
  replace HRC := Lib.hid HRC.out.drew
  replace HRM := Lib.hid HRM.out.drew
  refine take_first (v := .agg ok) 0 rfl (by kernel_rfl) (by kernel_rfl) (by kernel_rfl) (fun _ _ _ h => h) (by rw [← HOK.out]; exact yields_load_blk (by rfl) 23 (.tmp 9) rfl (w.heap.size + 3) rfl 23 ((oneK k nn).map u8v) (fun w' hb => hb) 32 5 Try.underlying23 (cells32 _ (oneK_length k nn))) (by assumption) ?_
  (try simp only [Act.put, List.setIfInBounds_toArray, List.set_cons_zero, List.set_cons_succ])
  refine take_first (v := ?_) 1 rfl (by kernel_rfl) (by kernel_rfl) (by kernel_rfl) (fun _ _ _ h => h) (Or.inl ⟨by rfl, ?_⟩) (by assumption) ?_
  rotate_left
  · (intro w hSw; (try dsimp only at hSw); go_simp; try with_reducible rfl)
  (try simp only [Act.put, List.setIfInBounds_toArray, List.set_cons_zero, List.set_cons_succ])
  refine take_first (v := ?_) 2 rfl (by kernel_rfl) (by kernel_rfl) (by kernel_rfl) (fun _ _ _ h => h) (Or.inl ⟨by rfl, ?_⟩) (by assumption) ?_
  rotate_left
  · (intro w hSw; (try dsimp only at hSw); go_simp; try with_reducible rfl)
  (try simp only [Act.put, List.setIfInBounds_toArray, List.set_cons_zero, List.set_cons_succ])
  refine step_one 3 rfl (by kernel_rfl) (fun K hK => ?_)
  go_simp
  refine (tagData_any Ac Am nc cc nm cm c more (by omega) (by omega) _ HRC.out HRM.out MM HMM.out).mono ?_
  rintro e wa ⟨F1, d1, rfl, hf, q1, q2, q3, hb⟩
  replace HB := Lib.hid (show Blk wa (w.heap.size + 3) 23 ((oneK k nn).map u8v) ∧ Blk wa (w.heap.size + 2) 54 (aeZ 16) ∧ Below w.heap.size w wa from ⟨HB.out.1.below hb HB.out.1.lt, HB.out.2.1.below hb HB.out.2.1.lt, HB.out.2.2.trans (hb.mono HB.out.2.2.size)⟩)
  have R1 := Lib.hid hf
  clear hf hb
  go_wp2_with fail
  refine hK.out _ _ (HB.out.1) (fun hHeld => ?_)
  clear hK K
  (try simp only [Act.put, List.setIfInBounds_toArray, List.set_cons_zero, List.set_cons_succ])
  refine step_one 4 rfl (by kernel_rfl) (fun K hK => ?_)
  go_simp
  refine (HPC2.out F1 MM d1 _ q1 q2 q3 _ R1.out).mono ?_
  rintro e wb ⟨rfl, hb⟩
  replace HB := Lib.hid (show Blk wb (w.heap.size + 3) 23 ((oneK k nn).map u8v) ∧ Blk wb (w.heap.size + 2) 54 (aeZ 16) ∧ Below w.heap.size w wb from ⟨HB.out.1.below hb HB.out.1.lt, HB.out.2.1.below hb HB.out.2.1.lt, HB.out.2.2.trans (hb.mono HB.out.2.2.size)⟩)
  clear hb
  rw [show tagL (oneK k nn) (macL more c) = st from HST.out.2.2, HST.out.2.1]
  go_wp2_with fail
  refine hK.out _ _ (HB.out.1) (fun hHeld => ?_)
  clear hK K
  (try simp only [Act.put, List.setIfInBounds_toArray, List.set_cons_zero, List.set_cons_succ])
  refine step_one 5 rfl (by kernel_rfl) (fun K hK => ?_)
  refine step_store_blk _ rfl 54 (.tmp 8) (.tmp 21) rfl (w.heap.size + 2) (st.map u8v) rfl (by show Value.agg cs = _; rw [HST.out.2.1]) 54 (aeZ 16) HB.out.2.1 (ae_cellsT st HST.out.1) (by rw [List.length_map, HST.out.1]; rfl) (u8v_one _) ?_
  intro w9 hb9 hg9
  have hq9 := HB.out.1.grown hg9 (by simp)
  have hl9 := below_blk HB.out.2.2 hg9 (by omega)
  refine hK.out _ _ hq9 (fun hHeld => ?_)
  clear hK K
  (try simp only [Act.put])
  refine wpAnyH_done (by kernel_rfl) ?_ _
  go_wp2_with fail
  exact bodyPost_ret (results_blk rfl _ _ (w.heap.size + 2) 54 (st.map u8v) 16 5 rfl hb9 Try.underlying54 (ae_cellsT st HST.out.1)) rfl ⟨by rw [HST.out.2.2], hl9⟩
end Go.Proofs.Ytkbefhmgcodpaaa
