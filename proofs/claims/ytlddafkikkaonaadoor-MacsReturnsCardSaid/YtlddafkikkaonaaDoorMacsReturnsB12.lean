/-
  The contract of aead.tagOf. A slice of bytes built of a long row of constants. What is asked of aead.Seal and Open. The contract of chacha.Xor: the data, combined with the blocks for counter, counter + 1, .. The contracts of aead.Seal and Open. The contracts of xchacha.divide, Seal and Open. A part of a slice as an array. A cookie reply out of its parts. What is asked of Reply holds of the landed function. A row that was made is a block; bytes that were read stay. Bytes at a place, and the length of a cookie that was sealed. No statement is proved here.
-/
import Derived.RegionTactic
import Derived.BigRegion
import Derived.Deep.DeepCutAuto
import Derived.Lib.SlBytesConst
import Derived.Outline
import Derived.Test.YtlddafkikkaonaaDoorMacsReturnsB11
namespace Go.Proofs.YtlddafkikkaonaaDoor
open Go.RowKit

set_option maxRecDepth 100000 in
set_option maxHeartbeats 8000000 in
theorem tagOf_any (k nn : List UInt8) (hk : k.length = 32) (hn : nn.length = 12) (Ac Am : Option Addr) (nc cc nm cm : Nat) (c more : List UInt8) (hnc : nc ≤ 400000) (hnm : nm ≤ 400000) (w : World) (hrc : Rd w w.heap.size Ac nc c) (hrm : Rd w w.heap.size Am nm more) :
    Calls Tryd.prog 80 #[.agg (k.map u8v).toArray, .agg (nn.map u8v).toArray, .slice Ac nc cc, .slice Am nm cm] w fun e w' => e = .returned (.agg ((sealT k nn c more).map u8v).toArray) ∧ Below w.heap.size w w' := by
  have BC := block_any k nn hk hn 0
  rw [show ((0 : UInt32).toNat : Int) = 0 from rfl] at BC
  have PC := sumC (oneK k nn) (oneK_length k nn)
  obtain ⟨ck, hck⟩ : ∃ ck, (k.map u8v).toArray = ck := ⟨_, rfl⟩
  obtain ⟨cn, hcn⟩ : ∃ cn, (nn.map u8v).toArray = cn := ⟨_, rfl⟩
  obtain ⟨ok, hok⟩ : ∃ ok, ((oneK k nn).map u8v).toArray = ok := ⟨_, rfl⟩
  have hbl := blockL_len k 0 nn
  have hone : oneK k nn = (blockL k 0 nn).take 32 := rfl
  obtain ⟨bl, hble⟩ : ∃ bl, blockL k 0 nn = bl := ⟨_, rfl⟩
  rw [hble] at BC hbl hone
  obtain ⟨cb, hcb⟩ : ∃ cb, (bl.map u8v).toArray = cb := ⟨_, rfl⟩
  rw [hck, hcn, hcb] at BC
  rw [hok] at PC
  rw [hck, hcn]
  have h0 : Blk ((((w.alloc (.cells ck 23)).alloc (.cells cn 102)).alloc (.cells (aeZ 16).toArray 30)).alloc (.cells (aeZ 32).toArray 23)) w.heap.size 23 (k.map u8v) := by rw [← hck]; exact (((Blk.new w _ _).alloc _).alloc _).alloc _
  have h1 : Blk ((((w.alloc (.cells ck 23)).alloc (.cells cn 102)).alloc (.cells (aeZ 16).toArray 30)).alloc (.cells (aeZ 32).toArray 23)) (w.heap.size + 1) 102 (nn.map u8v) := by rw [← hcn]; exact ((Blk.new' (w.alloc (.cells ck 23)) (by simp) _ _).alloc _).alloc _
  have h2 : Blk ((((w.alloc (.cells ck 23)).alloc (.cells cn 102)).alloc (.cells (aeZ 16).toArray 30)).alloc (.cells (aeZ 32).toArray 23)) (w.heap.size + 2) 30 (aeZ 16) := (Blk.new' _ (by simp) _ _).alloc _
  have h4 : Blk ((((w.alloc (.cells ck 23)).alloc (.cells cn 102)).alloc (.cells (aeZ 16).toArray 30)).alloc (.cells (aeZ 32).toArray 23)) (w.heap.size + 3) 23 (aeZ 32) := Blk.new' _ (by simp) _ _
  have h3 : Below w.heap.size w ((((w.alloc (.cells ck 23)).alloc (.cells cn 102)).alloc (.cells (aeZ 16).toArray 30)).alloc (.cells (aeZ 32).toArray 23)) := ((((Below.refl _ _).alloc (Nat.le_refl _) _).alloc (by simp) _).alloc (by simp; omega) _).alloc (by simp; omega) _
  rw [aeZ16, aeZ32] at h0 h1 h2 h3 h4
  obtain ⟨MM, hMM⟩ : ∃ MM, (macL more c).length = MM := ⟨_, rfl⟩
  have HMM := Lib.hid hMM
  clear hMM
  obtain ⟨st, hst⟩ : ∃ st, sealT k nn c more = st := ⟨_, rfl⟩
  have hstl : st.length = 16 := by rw [← hst]; exact sealT_length _ _ _ _
  obtain ⟨cs, hcs⟩ : ∃ cs, (st.map u8v).toArray = cs := ⟨_, rfl⟩
  have HST := Lib.hid (And.intro hstl (And.intro hcs hst))
  clear hst hcs hstl
  have HRC := Lib.hid hrc
  have HRM := Lib.hid hrm
  have HC := Lib.hid (And.intro hck (And.intro hcn hcb))
  have HOK := Lib.hid hok
  have HL := Lib.hid (And.intro hk (And.intro hn (And.intro hbl hone)))
  have HBC2 := Lib.hid BC
  have HPC2 := Lib.hid PC
  clear hck hcn hcb hok hk hn hbl hone BC PC hrc hrm hble
  go_enter Tryd.func80, Tryd.ntmps80
  go_upto_region 2 with fail
  generalize ((((w.alloc (.cells ck 23)).alloc (.cells cn 102)).alloc (.cells #[.int .u8 0, .int .u8 0, .int .u8 0, .int .u8 0, .int .u8 0, .int .u8 0, .int .u8 0, .int .u8 0, .int .u8 0, .int .u8 0, .int .u8 0, .int .u8 0, .int .u8 0, .int .u8 0, .int .u8 0, .int .u8 0] 30)).alloc (.cells #[.int .u8 0, .int .u8 0, .int .u8 0, .int .u8 0, .int .u8 0, .int .u8 0, .int .u8 0, .int .u8 0, .int .u8 0, .int .u8 0, .int .u8 0, .int .u8 0, .int .u8 0, .int .u8 0, .int .u8 0, .int .u8 0, .int .u8 0, .int .u8 0, .int .u8 0, .int .u8 0, .int .u8 0, .int .u8 0, .int .u8 0, .int .u8 0, .int .u8 0, .int .u8 0, .int .u8 0, .int .u8 0, .int .u8 0, .int .u8 0, .int .u8 0, .int .u8 0] 23)) = w1 at h0 h1 h2 h3 h4 ⊢
  rw [show w.heap.size + 1 + 1 = w.heap.size + 2 from rfl, show w.heap.size + 2 + 1 = w.heap.size + 3 from rfl]
  have H1 := Lib.hid (And.intro h0 (And.intro h1 (And.intro h2 (And.intro h4 h3))))
  clear h0 h1 h2 h3 h4
  go_wp2_with (first | (refine wpList_load_blk rfl 23 (.tmp 4) rfl w.heap.size rfl 23 (k.map u8v) H1.out.1 32 5 Tryd.underlying23 (cells32 k HL.out.1) ?_; rw [HC.out.1]) | (refine wpList_load_blk rfl 102 (.tmp 5) rfl (w.heap.size + 1) rfl 102 (nn.map u8v) H1.out.2.1 12 5 Tryd.underlying102 (ae_cellsN nn HL.out.2.1) ?_; rw [HC.out.2.1]))
  refine (HBC2.out _).mono ?_
  rintro e w2 ⟨rfl, hb2⟩
  have H2 := Lib.hid (And.intro (H1.out.2.2.1.below hb2 H1.out.2.2.1.lt) (And.intro (H1.out.2.2.2.1.below hb2 H1.out.2.2.2.1.lt) (H1.out.2.2.2.2.trans (hb2.mono H1.out.2.2.2.2.size))))
  clear hb2 H1
  go_upto_region 3 with (refine wpList_store_blk rfl 123 (.tmp 10) (.tmp 13) rfl w2.heap.size (bl.map u8v) rfl (by show Value.agg cb = _; rw [HC.out.2.2]) 123 (aeZ 64) (Blk.new w2 123 (aeZ 64)) (ae_cells64 bl HL.out.2.2.1) (by rw [List.length_map, HL.out.2.2.1]; rfl) (u8v_one _) ?_; intro w3 hb3 hg3)
  simp only [Act.put]
  have H3 := Lib.hid (show Blk w3 w2.heap.size 123 (bl.map u8v) ∧ Blk w3 (w.heap.size + 2) 30 (aeZ 16) ∧ Blk w3 (w.heap.size + 3) 23 (aeZ 32) ∧ Below w.heap.size w w3 from ⟨hb3, (H2.out.1.alloc _).grown hg3 (by have := H2.out.1.lt; simp; omega), (H2.out.2.1.alloc _).grown hg3 (by have := H2.out.2.1.lt; simp; omega), below_blk (H2.out.2.2.alloc H2.out.2.2.size _) hg3 H2.out.2.2.size⟩)
  clear hb3 hg3 H2
  generalize w2.heap.size = P at H3 ⊢
  have HSRC := Lib.hid (show ∀ j v, ((oneK k nn).map u8v)[j]? = some v → w3.drew.cell? ((Addr.mk P 0 none).add j) = some v by
    have h := (H3.out.1.drew.rd 0 32 (by rw [HL.out.2.2.1]; omega)).src
    rw [List.drop_zero, ← HL.out.2.2.2] at h
    exact h)
  refine wp_region_held_drew (S := fun _ => True) (by kernel_rfl) (trivial) (fun hHeld => ?_)
  refine take_first (v := ?_) 0 rfl (by kernel_rfl) (by kernel_rfl) (by kernel_rfl) (fun _ _ _ h => h) (Or.inl ⟨by rfl, ?_⟩) (by assumption) ?_
  rotate_left
  · (intro w hSw; (try dsimp only at hSw); go_simp; try with_reducible rfl)
  (try simp only [Act.put, List.setIfInBounds_toArray, List.set_cons_zero, List.set_cons_succ])
  refine take_first (v := ?_) 1 rfl (by kernel_rfl) (by kernel_rfl) (by kernel_rfl) (fun _ _ _ h => h) (Or.inl ⟨by rfl, ?_⟩) (by assumption) ?_
  rotate_left
  · (intro w hSw; (try dsimp only at hSw); go_simp; try with_reducible rfl)
  (try simp only [Act.put, List.setIfInBounds_toArray, List.set_cons_zero, List.set_cons_succ])
  refine step_one 2 rfl (by kernel_rfl) (fun K hK => ?_)
  refine step_copy_bytes _ rfl (.tmp 14) (.tmp 15) 24 24 (by rfl) 5 Tryd.underlying24 (by kernel_rfl) (w.heap.size + 3) 0 32 32 ⟨P, 0, none⟩ 64 64 (by rfl) (by rfl) (aeZ 32) 23 H3.out.2.2.1.drew ((oneK k nn).map u8v) (by rw [List.length_map, oneK_length]; rfl) HSRC.out (by rw [List.length_map, oneK_length]; decide) (u8v_one _) ?_
  intro w6 hb6 hg6
  refine hK.out _ _ (trivial) (fun hHeld => ?_)
  clear hK K
  (try simp only [Act.put, List.setIfInBounds_toArray, List.set_cons_zero, List.set_cons_succ])
  refine wpAnyH_done (by kernel_rfl) ?_ _
  have hone6 : (aeZ 32).take 0 ++ (oneK k nn).map u8v ++ (aeZ 32).drop (0 + ((oneK k nn).map u8v).length) = (oneK k nn).map u8v := by
    rw [List.take_zero, List.nil_append, List.length_map, oneK_length, List.drop_of_length_le (by simp [aeZ]), List.append_nil]
  rw [hone6] at hb6
  have HB := Lib.hid (show Blk w6 (w.heap.size + 3) 23 ((oneK k nn).map u8v) ∧ Blk w6 (w.heap.size + 2) 30 (aeZ 16) ∧ Below w.heap.size w w6 from ⟨hb6, H3.out.2.1.drew.grown hg6 (by simp), below_blk H3.out.2.2.2.drew hg6 (by omega)⟩)
  clear hb6 hg6 hone6 H3 HSRC hHeld
  replace HRC := Lib.hid ((HRC.out.below HB.out.2.2).mono HB.out.2.2.size)
  replace HRM := Lib.hid ((HRM.out.below HB.out.2.2).mono HB.out.2.2.size)
  go_upto_region 4 with fail
  generalize hw7 : w6 = w7 at HB HRC HRM ⊢
  clear hw7
  refine wp_region_held_drew (S := fun w4 => Blk w4 (w.heap.size + 3) 23 ((oneK k nn).map u8v)) (by kernel_rfl) (HB.out.1.drew) (fun hHeld => ?_)
  replace HB := Lib.hid (show Blk w7.drew (w.heap.size + 3) 23 ((oneK k nn).map u8v) ∧ Blk w7.drew (w.heap.size + 2) 30 (aeZ 16) ∧ Below w.heap.size w w7.drew from ⟨HB.out.1.drew, HB.out.2.1.drew, HB.out.2.2.drew⟩)
  replace HRC := Lib.hid HRC.out.drew
  replace HRM := Lib.hid HRM.out.drew
  refine take_first (v := .agg ok) 0 rfl (by kernel_rfl) (by kernel_rfl) (by kernel_rfl) (fun _ _ _ h => h) (by rw [← HOK.out]; exact yields_load_blk (by rfl) 23 (.tmp 9) rfl (w.heap.size + 3) rfl 23 ((oneK k nn).map u8v) (fun w' hb => hb) 32 5 Tryd.underlying23 (cells32 _ (oneK_length k nn))) (by assumption) ?_
  (try simp only [Act.put, List.setIfInBounds_toArray, List.set_cons_zero, List.set_cons_succ])
  refine take_first (v := ?_) 1 rfl (by kernel_rfl) (by kernel_rfl) (by kernel_rfl) (fun _ _ _ h => h) (Or.inl ⟨by rfl, ?_⟩) (by assumption) ?_
  rotate_left
  · (intro w hSw; (try dsimp only at hSw); go_simp; try with_reducible rfl)
  (try simp only [Act.put, List.setIfInBounds_toArray, List.set_cons_zero, List.set_cons_succ])
  refine take_first (v := ?_) 2 rfl (by kernel_rfl) (by kernel_rfl) (by kernel_rfl) (fun _ _ _ h => h) (Or.inl ⟨by rfl, ?_⟩) (by assumption) ?_
  rotate_left
  · (intro w hSw; (try dsimp only at hSw); go_simp; try with_reducible rfl)
  (try simp only [Act.put, List.setIfInBounds_toArray, List.set_cons_zero, List.set_cons_succ])
  refine step_one 3 rfl (by kernel_rfl) (fun K hK => ?_)
  go_simp
  refine (tagData_any Ac Am nc cc nm cm c more (by omega) (by omega) _ HRC.out HRM.out MM HMM.out).mono ?_
  rintro e wa ⟨F1, d1, rfl, hf, q1, q2, q3, hb⟩
  replace HB := Lib.hid (show Blk wa (w.heap.size + 3) 23 ((oneK k nn).map u8v) ∧ Blk wa (w.heap.size + 2) 30 (aeZ 16) ∧ Below w.heap.size w wa from ⟨HB.out.1.below hb HB.out.1.lt, HB.out.2.1.below hb HB.out.2.1.lt, HB.out.2.2.trans (hb.mono HB.out.2.2.size)⟩)
  have R1 := Lib.hid hf
  clear hf hb
  go_wp2_with fail
  refine hK.out _ _ (HB.out.1) (fun hHeld => ?_)
  clear hK K
  (try simp only [Act.put, List.setIfInBounds_toArray, List.set_cons_zero, List.set_cons_succ])
  refine step_one 4 rfl (by kernel_rfl) (fun K hK => ?_)
  go_simp
  refine (HPC2.out F1 MM d1 _ q1 q2 q3 _ R1.out).mono ?_
  rintro e wb ⟨rfl, hb⟩
  replace HB := Lib.hid (show Blk wb (w.heap.size + 3) 23 ((oneK k nn).map u8v) ∧ Blk wb (w.heap.size + 2) 30 (aeZ 16) ∧ Below w.heap.size w wb from ⟨HB.out.1.below hb HB.out.1.lt, HB.out.2.1.below hb HB.out.2.1.lt, HB.out.2.2.trans (hb.mono HB.out.2.2.size)⟩)
  clear hb
  rw [show tagL (oneK k nn) (macL more c) = st from HST.out.2.2, HST.out.2.1]
  go_wp2_with fail
  refine hK.out _ _ (HB.out.1) (fun hHeld => ?_)
  clear hK K
  (try simp only [Act.put, List.setIfInBounds_toArray, List.set_cons_zero, List.set_cons_succ])
  refine step_one 5 rfl (by kernel_rfl) (fun K hK => ?_)
  refine step_store_blk _ rfl 30 (.tmp 8) (.tmp 21) rfl (w.heap.size + 2) (st.map u8v) rfl (by show Value.agg cs = _; rw [HST.out.2.1]) 30 (aeZ 16) HB.out.2.1 (ae_cellsT st HST.out.1) (by rw [List.length_map, HST.out.1]; rfl) (u8v_one _) ?_
  intro w9 hb9 hg9
  have hq9 := HB.out.1.grown hg9 (by simp)
  have hl9 := below_blk HB.out.2.2 hg9 (by omega)
  refine hK.out _ _ hq9 (fun hHeld => ?_)
  clear hK K
  (try simp only [Act.put])
  refine wpAnyH_done (by kernel_rfl) ?_ _
  go_wp2_with fail
  exact bodyPost_ret (results_blk rfl _ _ (w.heap.size + 2) 30 (st.map u8v) 16 5 rfl hb9 Tryd.underlying30 (ae_cellsT st HST.out.1)) rfl ⟨by rw [HST.out.2.2], hl9⟩
end Go.Proofs.YtlddafkikkaonaaDoor
namespace Go.Proofs.YtlddafkikkaonaaDoor
open Go.RowKit

end Go.Proofs.YtlddafkikkaonaaDoor
namespace Go.Proofs.YtlddafkikkaonaaDoor
open Go.RowKit

/-- aead.Seal seals -/
def SealC : Prop := ∀ (k nn : List UInt8), k.length = 32 → nn.length = 12 → ∀ (Ap Am : Option Addr) (np cp nm cm : Nat) (pl more : List UInt8), np ≤ cp → cp ≤ maxLen → nm ≤ cm → cm ≤ maxLen → np ≤ 100000 → nm ≤ 100000 → ∀ w : World, Rd w w.heap.size Ap np pl → Rd w w.heap.size Am nm more →
  Calls Tryd.prog 69 #[.agg (k.map u8v).toArray, .agg (nn.map u8v).toArray, .slice Ap np cp, .slice Am nm cm] w fun e w' => ∃ A c', e = .returned (.slice A (np + 16) c') ∧ w'.ownsRow w.heap.size 5 1 (.slice A (np + 16) c') (np + 16) ((sealL k nn pl more).map u8v) ∧ Below w.heap.size w w'
/-- aead.Open opens, or gives the error -/
def OpenC : Prop := ∀ (k nn : List UInt8), k.length = 32 → nn.length = 12 → ∀ (As Am : Option Addr) (ns cs nm cm : Nat) (sl more : List UInt8), ns ≤ cs → cs ≤ maxLen → nm ≤ cm → cm ≤ maxLen → ns ≤ 100000 → nm ≤ 100000 → ∀ w : World, Rd w w.heap.size As ns sl → Rd w w.heap.size Am nm more →
  Calls Tryd.prog 68 #[.agg (k.map u8v).toArray, .agg (nn.map u8v).toArray, .slice As ns cs, .slice Am nm cm] w fun e w' => ∃ A c', e = .returned (.tuple #[.slice A (openL k nn sl more).1.length c', .int .i64 ((openL k nn sl more).2 : Int)]) ∧ Rd w' w'.heap.size A (openL k nn sl more).1.length (openL k nn sl more).1 ∧ (openL k nn sl more).1.length ≤ c' ∧ c' ≤ maxLen ∧ Below w.heap.size w w'
end Go.Proofs.YtlddafkikkaonaaDoor
namespace Go.Proofs.YtlddafkikkaonaaDoor
open Go.RowKit

/-- the first j bytes of the result, then zeros -/
def xorRow (x : List UInt8) (n j : Nat) : List UInt8 := x.take j ++ List.replicate (n - j) 0
theorem xorRow_zero (x : List UInt8) (n : Nat) : xorRow x n 0 = List.replicate n 0 := by simp [xorRow]
theorem xorRow_end (x : List UInt8) (n j : Nat) (h : x.length = n) (hj : n ≤ j) : xorRow x n j = x := by
  simp [xorRow, List.take_of_length_le (show x.length ≤ j by omega), show n - j = 0 by omega]
theorem xorRow_set (x : List UInt8) (n j : Nat) (h : x.length = n) (hj : j < n) : (xorRow x n j).set j (x[j]'(by omega)) = xorRow x n (j + 1) := by
  unfold xorRow
  have hl : (x.take j).length = j := by rw [List.length_take]; omega
  rw [List.set_append_right _ _ (by omega), hl, Nat.sub_self, show n - j = (n - (j + 1)) + 1 by omega, List.replicate_succ, List.set_cons_zero, List.take_succ_eq_append_getElem (by omega), List.append_assoc]
  rfl
theorem xor_byte (k : List UInt8) (c : UInt32) (nn l : List UInt8) (q j : Nat) (h1 : 64 * q ≤ j) (h2 : j < 64 * q + 64) (hj : j < l.length) (bl : List UInt8) (hbl : bl = blockL k (c + UInt32.ofNat q) nn) (hlen : j - 64 * q < bl.length) :
    (xorL k c nn l)[j]'(by rw [xorL_length]; exact hj) = l[j] ^^^ bl[j - 64 * q] := by
  rw [xorL_get _ _ _ _ _ hj]
  have h : streamB k c nn j = bl[j - 64 * q] := by
    unfold streamB
    rw [show j / 64 = q by omega, show j % 64 = j - 64 * q by omega, ← hbl]
    simp [List.getD, hlen]
  rw [h]
theorem u8_xor_val (a b : UInt8) : bits BinOp.xor IntKind.u8 (a.toNat : Int) (b.toNat : Int) = ((a ^^^ b).toNat : Int) := by
  rw [UInt8.toNat_xor, u8_xor_nat _ _ a.toNat_lt b.toNat_lt]
theorem blockL_length (k : List UInt8) (c : UInt32) (n : List UInt8) : (blockL k c n).length = 64 := by
  obtain ⟨ws, hws⟩ : ∃ ws, (coreW 10 (stateW k c n)).zipWith (· + ·) (stateW k c n) = ws := ⟨_, rfl⟩
  have h : ws.length = 16 := by rw [← hws, List.length_zipWith, coreW_length, stateW_length]; rfl
  have e : blockL k c n = bytesW ws := by rw [← hws]; unfold blockL bytesW; rfl
  rw [e, bytesW_length, h]

set_option maxRecDepth 100000 in
set_option maxHeartbeats 4000000 in
theorem xor_any (k nn : List UInt8) (hk : k.length = 32) (hn : nn.length = 12) (c : UInt32) (B : Nat) (D : Option Addr) (n cap : Nat) (l : List UInt8) (hn6 : n ≤ 1000000) (w : World) (hB : B ≤ w.heap.size) (hr : Rd w B D n l) :
    Calls Tryd.prog 81 #[.agg (k.map u8v).toArray, .int .u32 (c.toNat : Int), .agg (nn.map u8v).toArray, .slice D n cap] w fun e w' => ∃ G, e = .returned (.slice (some ⟨G, 0, none⟩) n n) ∧ w'.ownsRow w.heap.size 5 1 (.slice (some ⟨G, 0, none⟩) n n) n ((xorL k c nn l).map u8v) ∧ Below w.heap.size w w' := by
  obtain ⟨i0, hi, hz0, hz1, hz2⟩ := info_parts Tryd.info5
  have BC := fun (c' : UInt32) (w' : World) => block_any k nn hk hn c' w'
  obtain ⟨ck, hck⟩ : ∃ ck, (k.map u8v).toArray = ck := ⟨_, rfl⟩
  obtain ⟨cn, hcn⟩ : ∃ cn, (nn.map u8v).toArray = cn := ⟨_, rfl⟩
  rw [hck, hcn] at BC
  rw [hck, hcn]
  have HK0 := Lib.hid (show Blk (w.alloc (.cells ck 23)) w.heap.size 23 (k.map u8v) by rw [← hck]; exact Blk.new w _ _)
  have HN0 := Lib.hid (show Blk ((w.alloc (.cells ck 23)).alloc (.cells cn 102)) (w.heap.size + 1) 102 (nn.map u8v) by rw [← hcn]; exact Blk.new' _ (by simp) _ _)
  have HCK := Lib.hid hck
  have HCN := Lib.hid hcn
  have HBC := Lib.hid BC
  have HK := Lib.hid hk
  have HN := Lib.hid hn
  have HR := Lib.hid hr
  have HLN := Lib.hid hr.1
  clear hk hn hck hcn BC hr
  go_enter Tryd.func81, Tryd.ntmps81
  go_upto_region 1 with fail
  have hk1 := HK0.out.alloc (.cells cn 102)
  have hn1 := HN0.out
  have hbel1 : Below w.heap.size w ((w.alloc (.cells ck 23)).alloc (.cells cn 102)) := ((Below.refl _ _).alloc (Nat.le_refl _) _).alloc (by simp) _
  have hs1 : ((w.alloc (.cells ck 23)).alloc (.cells cn 102)).heap.size = w.heap.size + 2 := by simp
  clear HK0 HN0
  generalize (w.alloc (.cells ck 23)).alloc (.cells cn 102) = w1 at hk1 hn1 hbel1 hs1 ⊢
  have H1 := Lib.hid (And.intro hk1 (And.intro hn1 (And.intro hbel1 hs1)))
  clear hk1 hn1 hbel1 hs1
  go_upto_region 2 with (refine wpList_make_full _ rfl (.tmp 14) (.tmp 14) 24 rfl w1.heap.size 5 i0 (.int .u8 0) 1 Tryd.underlying24 hi hz0 hz1 .i64 .i64 n n n rfl rfl rfl rfl (by rw [hz2]; omega) (by unfold maxLen; omega) (Nat.le_refl _) ?_; intro w2 hown2 hg2)
  have EX := Lib.hid (show madeCells (Value.int IntKind.u8 0).cells (n * 1) = madeCells (Value.int IntKind.u8 0).cells (n * 1) from rfl)
  obtain ⟨X, hX⟩ : ∃ X, xorL k c nn l = X := ⟨_, rfl⟩
  have HXL := Lib.hid (show X.length = n by rw [← hX, xorL_length]; exact HLN.out)
  have HX := Lib.hid hX
  have H2 := Lib.hid (show Blk w2 w.heap.size 23 (k.map u8v) ∧ Blk w2 (w.heap.size + 1) 102 (nn.map u8v) ∧ w2.ownsRow (w.heap.size + 2) 5 1 (.slice (some ⟨w.heap.size + 2, 0, none⟩) n n) n ((xorRow X n 0).map u8v) ∧ Below w.heap.size w w2 by
    have hs := H1.out.2.2.2
    refine ⟨H1.out.1.grown hg2 (by simp), H1.out.2.1.grown hg2 (by simp), ?_, Below.grown H1.out.2.2.1 hg2 H1.out.2.2.1.size (by simp)⟩
    rw [show (Value.int IntKind.u8 0).cells = #[.int .u8 0] from rfl, toList_madeCells_one, Nat.mul_one, hs] at hown2
    rw [xorRow_zero, List.map_replicate]
    exact hown2)
  clear hX EX hown2 hg2
  rw [H1.out.2.2.2]
  clear H1
  go_wp2_with fail
  go_loopw [1, 10] (fun cc i wr => ∃ (q b : Nat) (cq : UInt32), Hid (b = 64 * q ∧ c + UInt32.ofNat q = cq) ∧ b < n + 64 ∧ i = .int .i64 (b : Int) ∧ cc = .int .u32 (cq.toNat : Int) ∧ Blk wr w.heap.size 23 (k.map u8v) ∧ Blk wr (w.heap.size + 1) 102 (nn.map u8v) ∧ wr.ownsRow (w.heap.size + 2) 5 1 (.slice (some ⟨w.heap.size + 2, 0, none⟩) n n) n ((xorRow X n (min b n)).map u8v) ∧ Below w.heap.size w wr) (fun _ i _ => n + 64 - (intOf i).toNat)
  case atStart => exact ⟨0, 0, c, Lib.hid ⟨rfl, by simp⟩, by omega, rfl, rfl, H2.out.1, H2.out.2.1, by rw [Nat.min_eq_left (by omega)]; exact H2.out.2.2.1, H2.out.2.2.2⟩
  case round =>
    clear H2
    obtain ⟨q, b, cq, HBQ, hbn, rfl, rfl, hk1, hn1, hown, hbel⟩ := hrel
    by_cases hlt : b < n
    · have d16 : decide ((b : Int) < (n : Int)) = true := by simp; omega
      rw [Nat.min_eq_left (by omega)] at hown
      have hks := hk1.lt
      have hns := hn1.lt
      have HO := Lib.hid hown
      have HBL := Lib.hid hbel
      clear hown hbel
      obtain ⟨bl, hbl⟩ : ∃ bl, blockL k cq nn = bl := ⟨_, rfl⟩
      have HB := HBC.out cq
      rw [hbl] at HB
      have H64 := Lib.hid (show bl.length = 64 by rw [← hbl]; exact blockL_length _ _ _)
      have HBB := Lib.hid hbl
      obtain ⟨sb, hsb⟩ : ∃ sb, (bl.map u8v).toArray = sb := ⟨_, rfl⟩
      rw [hsb] at HB
      have HSB := Lib.hid hsb
      have HCB := Lib.hid HB
      clear HB hbl hsb
      go_wp2_with (first | (refine wpList_load_blk rfl 23 (.tmp 4) rfl w.heap.size rfl 23 (k.map u8v) hk1 32 5 Tryd.underlying23 (cells32 k HK.out) ?_; rw [HCK.out]) | (refine wpList_load_blk rfl 102 (.tmp 6) rfl (w.heap.size + 1) rfl 102 (nn.map u8v) hn1 12 5 Tryd.underlying102 (cells12 nn HN.out) ?_; rw [HCN.out]))
      clear d16
      refine (HCB.out _).mono ?_
      rintro e w3 ⟨rfl, hb3⟩
      have H3 := Lib.hid (show Blk w3 w.heap.size 23 (k.map u8v) ∧ Blk w3 (w.heap.size + 1) 102 (nn.map u8v) ∧ w3.ownsRow (w.heap.size + 2) 5 1 (.slice (some ⟨w.heap.size + 2, 0, none⟩) n n) n ((xorRow X n b).map u8v) ∧ Below w.heap.size w w3 from ⟨hk1.below hb3 hks, hn1.below hb3 hns, own_below HO.out hb3, HBL.out.trans (hb3.mono HBL.out.size)⟩)
      clear hk1 hn1 HO HBL hb3 hks hns
      go_upto_region 6 with (refine wpList_store_blk rfl 123 (.tmp 11) (.tmp 25) rfl w3.heap.size (bl.map u8v) rfl (by rw [HSB.out]; rfl) 123 z64 (Blk.new w3 123 z64) (cells64 bl H64.out) (by rw [List.length_map, H64.out]; rfl) (u8v_one _) ?_; intro w4 hb4 hg4)
      simp only [Act.put]
      have hs3 : w.heap.size + 2 < w3.heap.size ∨ n = 0 := by
        rcases H3.out.2.2.1.2 with ⟨h, _⟩ | ⟨g, cap', cur, h, _⟩
        · cases h
        · exact .inl ((H3.out.2.2.1.lt _ rfl).2)
      have hs3 : w.heap.size + 2 < w3.heap.size := by omega
      have H4 := Lib.hid (show Blk w4 w3.heap.size 123 (bl.map u8v) ∧ Blk w4 w.heap.size 23 (k.map u8v) ∧ Blk w4 (w.heap.size + 1) 102 (nn.map u8v) ∧ w4.ownsRow (w.heap.size + 2) 5 1 (.slice (some ⟨w.heap.size + 2, 0, none⟩) n n) n ((xorRow X n b).map u8v) ∧ Below w.heap.size w w4 from ⟨hb4, (H3.out.1.alloc _).grown hg4 (by simp; omega), (H3.out.2.1.alloc _).grown hg4 (by simp; omega), (H3.out.2.2.1.alloc _).kept hg4 (.inr (by simp [Value.ownBlock]; omega)), Below.grown (H3.out.2.2.2.alloc H3.out.2.2.2.size (.cells z64.toArray 123)) hg4 (by simp; omega) (by intro k hk; injection hk with hk; omega)⟩)
      clear hb4 hg4 H3
      have HS3 := Lib.hid hs3
      clear hs3
      generalize w3.heap.size = P at H4 HS3 ⊢
      go_wp2_with fail
      obtain ⟨m, hm⟩ : ∃ m, m = min (b + 64) n := ⟨_, rfl⟩
      have hmv : (if (n : Int) < (b : Int) + 64 then (n : Int) else (b : Int) + 64) = (m : Int) := by
        split <;> omega
      have hbm : b ≤ m := by omega
      have hmn : m ≤ n := by omega
      have hmb : m ≤ b + 64 := by omega
      have HM := Lib.hid hm
      clear hm
      go_loopw [12] (fun i wr => ∃ j : Nat, b ≤ j ∧ j ≤ m ∧ i = .int .i64 (j : Int) ∧ Blk wr P 123 (bl.map u8v) ∧ Blk wr w.heap.size 23 (k.map u8v) ∧ Blk wr (w.heap.size + 1) 102 (nn.map u8v) ∧ wr.ownsRow (w.heap.size + 2) 5 1 (.slice (some ⟨w.heap.size + 2, 0, none⟩) n n) n ((xorRow X n j).map u8v) ∧ Below w.heap.size w wr) (fun i _ => n - (intOf i).toNat)
      case atStart => exact ⟨b, Nat.le_refl _, by omega, rfl, H4.out.1, H4.out.2.1, H4.out.2.2.1, H4.out.2.2.2.1, H4.out.2.2.2.2⟩
      case round =>
        clear H4
        obtain ⟨j, hbj, hjm, rfl, hp, hk1, hn1, hown, hbel⟩ := hrel
        have HH := Lib.hid (And.intro hp (And.intro hk1 (And.intro hn1 (And.intro hown hbel))))
        clear hp hk1 hn1 hown hbel
        by_cases hjl : j < m
        · have dj : decide ((j : Int) < (m : Int)) = true := by simp; omega
          obtain ⟨t, ht⟩ : ∃ t, j - b = t := ⟨_, rfl⟩
          have hsb : (j : Int) - (b : Int) = (t : Int) := by omega
          have ht64 : t < 64 := by omega
          have hjn : j < n := by omega
          have hjl' : j < l.length := by rw [HLN.out]; omega
          have htl : t < bl.length := by rw [H64.out]; omega
          obtain ⟨db, off, rfl, hdb, hc⟩ := (HR.out.below (HH.out.2.2.2.2.mono hB)).at_ (by omega)
          have fx := hc j hjl'
          clear hc
          have fy := HH.out.1.cell t
          rw [map_u8v_getElem? bl t htl] at fy
          have hjX : j < X.length := by rw [HXL.out]; omega
          have hX : bits BinOp.xor IntKind.u8 (l[j].toNat : Int) (bl[t].toNat : Int) = (X[j].toNat : Int) := by
            rw [u8_xor_val]
            have hq := HBQ.out.1
            have e := xor_byte k c nn l q j (by omega) (by omega) hjl' bl (by rw [HBQ.out.2, HBB.out]) (by omega)
            have e2 : (xorL k c nn l)[j]'(by rw [xorL_length]; exact hjl') = X[j] := by simp only [HX.out]
            rw [e2] at e
            rw [e]
            simp only [← hq, ht]
          generalize l[j] = xb at fx hX
          generalize bl[t] = yb at fy hX
          obtain ⟨zb, hzb⟩ : ∃ zb, X[j] = zb := ⟨_, rfl⟩
          rw [hzb] at hX
          have hfz := HH.out.2.2.2.1.frozenAt j
          have hcl : ∃ u, wr.cell? ⟨w.heap.size + 2, j, none⟩ = some u := by
            rw [HH.out.2.2.2.1.cellAt j (by omega)]
            exact ⟨_, List.getElem?_eq_getElem (by rw [HH.out.2.2.2.1.1]; omega)⟩
          obtain ⟨u, hcl⟩ := hcl
          have HZ := Lib.hid hzb
          clear hzb ht
          go_upto_region 9 with fail
          go_region
          have hh := (HH.out.2.2.2.1.stored j (u8v zb)).1
          rw [← List.map_set, ← HZ.out, xorRow_set X n j HXL.out hjn, HZ.out] at hh
          have HN9 := Lib.hid (And.intro (HH.out.1.far (p := ⟨w.heap.size + 2, j, none⟩) (by have := HS3.out; simp; omega) (.int .u8 (zb.toNat : Int))) (And.intro (HH.out.2.1.far (p := ⟨w.heap.size + 2, j, none⟩) (by simp) (.int .u8 (zb.toNat : Int))) (And.intro (HH.out.2.2.1.far (p := ⟨w.heap.size + 2, j, none⟩) (by simp) (.int .u8 (zb.toNat : Int))) (And.intro hh (HH.out.2.2.2.2.setCell (p := ⟨w.heap.size + 2, j, none⟩) (by dsimp only; omega) (.int .u8 (zb.toNat : Int)))))))
          clear hh HH fx fy hX hfz hcl HZ dj hsb
          go_wp2
          go_roundw
          case rel => exact ⟨j + 1, by omega, by omega, by go_num, HN9.out.1.drew, HN9.out.2.1.drew, HN9.out.2.2.1.drew, HN9.out.2.2.2.1.drew, HN9.out.2.2.2.2.drew⟩
          case measure => simp [intOf]; omega
        · obtain rfl : j = m := by omega
          obtain ⟨c1, hc1⟩ : ∃ c1, cq + 1 = c1 := ⟨_, rfl⟩
          have hcv : ((cq.toNat : Int) + 1) % 4294967296 = (c1.toNat : Int) := by
            rw [← hc1, UInt32.toNat_add]
            rfl
          have HC1 := Lib.hid hc1
          have HCV := Lib.hid hcv
          clear hcv
          have dj : decide ((j : Int) < (j : Int)) = false := by simp
          clear hc1
          go_wp2
          go_roundw
          case rel => exact ⟨q + 1, b + 64, c1, Lib.hid ⟨by have := HBQ.out.1; omega, by rw [← HC1.out, ← HBQ.out.2, UInt32.add_assoc, UInt32.ofNat_add]; rfl⟩, by omega, by go_num, congrArg (Value.int .u32) HCV.out, HH.out.2.1, HH.out.2.2.1, by rw [← HM.out]; exact HH.out.2.2.2.1, HH.out.2.2.2.2⟩
          case measure => simp [intOf]; omega
    · have hfin := hown
      rw [Nat.min_eq_right (by omega), xorRow_end X n n HXL.out (Nat.le_refl _)] at hfin
      have HF := Lib.hid (And.intro hfin hbel)
      clear hfin hown hbel hk1 hn1
      have d16 : decide ((b : Int) < (n : Int)) = false := by simp; omega
      go_wp2
      go_ret
      exact ⟨w.heap.size + 2, rfl, by rw [HX.out]; exact own_base HF.out.1 (by omega), HF.out.2⟩
end Go.Proofs.YtlddafkikkaonaaDoor
namespace Go.Proofs.YtlddafkikkaonaaDoor
open Go.RowKit

theorem coJoin_two (g : Nat) (t : TypeId) (A1 A2 : Option Addr) (n1 c1 n2 c2 : Nat) (l1 l2 : List UInt8) (M : Nat) (hM : n1 + n2 = M) (hn : M ≤ 1000000) (w : World) (hb : Blk w g t [.slice A1 n1 c1, .slice A2 n2 c2])
    (h1 : Rd w w.heap.size A1 n1 l1) (h2 : Rd w w.heap.size A2 n2 l2) :
    Calls Tryd.prog 56 #[.slice (some ⟨g, 0, none⟩) 2 2] w fun e w' => ∃ A' c', e = .returned (.slice A' M c') ∧ w'.ownsRow w.heap.size 5 1 (.slice A' M c') M ((l1 ++ l2).map u8v) ∧ Below w.heap.size w w' := by
  have hf : flat [⟨A1, n1, c1, l1⟩, ⟨A2, n2, c2, l2⟩] 2 = l1 ++ l2 := by simp [flat]
  have hl : (l1 ++ l2).length = M := by simp only [List.length_append]; rw [h1.1, h2.1, hM]
  have hJ := coJoin_any w.heap.size 2 (some ⟨g, 0, none⟩) [⟨A1, n1, c1, l1⟩, ⟨A2, n2, c2, l2⟩] (by simp) (by show (flat _ 2).length ≤ _; rw [hf, hl]; exact hn) w (Nat.le_refl _) (fun _ => ⟨g, rfl, hb.lt, fun j hj => by
    rw [hb.cell]
    match j, hj with
    | 0, _ => exact ⟨rfl, h1⟩
    | 1, _ => exact ⟨rfl, h2⟩
    | j + 2, hj => exact absurd hj (by simp)⟩)
  refine hJ.mono ?_
  rintro e w' ⟨A', c', he, ho, hbl⟩
  have e2 : ([⟨A1, n1, c1, l1⟩, ⟨A2, n2, c2, l2⟩] : List Part).length = 2 := rfl
  rw [e2, hf, hl] at he ho
  exact ⟨A', c', he, ho, hbl⟩

set_option maxRecDepth 100000 in
set_option maxHeartbeats 4000000 in
theorem sealC : SealC := by
  intro k nn hk hn Ap Am np cp nm cm pl more _ _ _ _ hnp hnm w hrp hrm
  have XC := fun (w' : World) (h : Rd w' w'.heap.size Ap np pl) => xor_any k nn hk hn 1 w'.heap.size Ap np cp pl (by omega) w' (Nat.le_refl _) h
  have TC := fun (A : Option Addr) (c' : Nat) => tagOf_any k nn hk hn A Am np c' nm cm (xorL k 1 nn pl) more (by omega) (by omega)
  rw [show ((1 : UInt32).toNat : Int) = 1 from rfl] at XC
  obtain ⟨ck, hck⟩ : ∃ ck, (k.map u8v).toArray = ck := ⟨_, rfl⟩
  obtain ⟨cn, hcn⟩ : ∃ cn, (nn.map u8v).toArray = cn := ⟨_, rfl⟩
  rw [hck, hcn] at XC TC
  rw [hck, hcn]
  have h0 : Blk ((w.alloc (.cells ck 23)).alloc (.cells cn 102)) w.heap.size 23 (k.map u8v) := by rw [← hck]; exact (Blk.new w _ _).alloc _
  have h1 : Blk ((w.alloc (.cells ck 23)).alloc (.cells cn 102)) (w.heap.size + 1) 102 (nn.map u8v) := by rw [← hcn]; exact Blk.new' (w.alloc (.cells ck 23)) (by simp) _ _
  have h3 : Below w.heap.size w ((w.alloc (.cells ck 23)).alloc (.cells cn 102)) := ((Below.refl _ _).alloc (Nat.le_refl _) _).alloc (by simp) _
  have hst := sealT_length k nn (xorL k 1 nn pl) more
  have hse : xorL k 1 nn pl ++ sealT k nn (xorL k 1 nn pl) more = sealL k nn pl more := rfl
  generalize sealL k nn pl more = se at hse
  generalize sealT k nn (xorL k 1 nn pl) more = st at TC hst hse
  generalize xorL k 1 nn pl = xl at XC TC hse
  obtain ⟨cs, hcs⟩ : ∃ cs, (st.map u8v).toArray = cs := ⟨_, rfl⟩
  rw [hcs] at TC
  have HP := Lib.hid (hrp.below h3)
  have HM := Lib.hid (hrm.below h3)
  have HC := Lib.hid (And.intro hck hcn)
  have HL := Lib.hid (And.intro hk hn)
  have HS := Lib.hid (And.intro hst (And.intro hcs hse))
  have HXC2 := Lib.hid XC
  have HTC2 := Lib.hid TC
  clear hck hcn hk hn hst hcs hse XC TC hrp hrm
  go_enter Tryd.func69, Tryd.ntmps69
  go_upto_region 1 with fail
  generalize ((w.alloc (.cells ck 23)).alloc (.cells cn 102)) = w1 at h0 h1 h3 HP HM ⊢
  have hw1 := h3.size
  have H1 := Lib.hid (show Blk w1 w.heap.size 23 (k.map u8v) ∧ Blk w1 (w.heap.size + 1) 102 (nn.map u8v) ∧ Below w.heap.size w w1 from ⟨h0, h1, h3⟩)
  clear h0 h1 h3
  replace HP := Lib.hid (HP.out.mono H1.out.2.2.size)
  replace HM := Lib.hid (HM.out.mono H1.out.2.2.size)
  go_wp2_with (first | (refine wpList_load_blk rfl 23 (.tmp 4) rfl w.heap.size rfl 23 (k.map u8v) H1.out.1 32 5 Tryd.underlying23 (cells32 k HL.out.1) ?_; rw [HC.out.1]) | (refine wpList_load_blk rfl 102 (.tmp 5) rfl (w.heap.size + 1) rfl 102 (nn.map u8v) H1.out.2.1 12 5 Tryd.underlying102 (ae_cellsN nn HL.out.2) ?_; rw [HC.out.2]))
  refine (HXC2.out _ HP.out).mono ?_
  rintro e w2 ⟨g1, rfl, ho, hb⟩
  replace H1 := Lib.hid (show Blk w2 w.heap.size 23 (k.map u8v) ∧ Blk w2 (w.heap.size + 1) 102 (nn.map u8v) ∧ Below w.heap.size w w2 from ⟨H1.out.1.below hb H1.out.1.lt, H1.out.2.1.below hb H1.out.2.1.lt, H1.out.2.2.trans (hb.mono H1.out.2.2.size)⟩)
  have HO := Lib.hid (Rd.of_own ho)
  replace HM := Lib.hid ((HM.out.below hb).mono hb.size)
  clear ho hb HP
  go_wp2_with (first | (refine wpList_load_blk rfl 23 (.tmp 4) rfl w.heap.size rfl 23 (k.map u8v) H1.out.1 32 5 Tryd.underlying23 (cells32 k HL.out.1) ?_; rw [HC.out.1]) | (refine wpList_load_blk rfl 102 (.tmp 5) rfl (w.heap.size + 1) rfl 102 (nn.map u8v) H1.out.2.1 12 5 Tryd.underlying102 (ae_cellsN nn HL.out.2) ?_; rw [HC.out.2]))
  refine (HTC2.out (some ⟨g1, 0, none⟩) np _ HO.out HM.out).mono ?_
  rintro e w3 ⟨rfl, hb⟩
  have HO3 := Lib.hid (And.intro ((HO.out.below hb).mono hb.size) (H1.out.2.2.trans (hb.mono H1.out.2.2.size)))
  clear hb HO H1 HM
  go_upto_region 3 with (refine wpList_store_blk rfl 30 (.tmp 10) (.tmp 19) rfl w3.heap.size (st.map u8v) rfl (by show Value.agg cs = _; rw [HS.out.2.1]) 30 (aeZ 16) (Blk.new w3 30 (aeZ 16)) (ae_cellsT st HS.out.1) (by rw [List.length_map, HS.out.1]; rfl) (u8v_one _) ?_; intro w4 hb4 hg4)
  simp only [Act.put]
  have hb34 : Below w3.heap.size w3 w4 := Below.grown ((Below.refl _ _).alloc (Nat.le_refl _) (.cells (aeZ 16).toArray 30)) hg4 (by simp) (by intro k hk; injection hk with hk; omega)
  have HO4 := Lib.hid (And.intro ((HO3.out.1.below hb34).mono hb34.size) (And.intro (HO3.out.2.trans (hb34.mono HO3.out.2.size)) (blk_all hb4 HS.out.1)))
  clear hb4 hg4 hb34 HO3
  generalize w3.heap.size = P at HO4 ⊢
  go_wp2_with fail
  have hg := Blk.new w4 24 [Value.slice (some ⟨g1, 0, none⟩) np np, .slice (some ⟨P, 0, none⟩) 16 16]
  have hb : Below w4.heap.size w4 (w4.alloc (.cells [Value.slice (some ⟨g1, 0, none⟩) np np, .slice (some ⟨P, 0, none⟩) 16 16].toArray 24)) := (Below.refl _ _).alloc (Nat.le_refl _) _
  rw [show [Value.slice (some ⟨g1, 0, none⟩) np np, .slice (some ⟨P, 0, none⟩) 16 16].toArray = #[Value.slice (some ⟨g1, 0, none⟩) np np, .slice (some ⟨P, 0, none⟩) 16 16] from rfl] at hg hb
  have H5 := Lib.hid (And.intro hg (And.intro ((HO4.out.1.below hb).mono hb.size) (And.intro ((HO4.out.2.2.below hb).mono hb.size) (HO4.out.2.1.trans (hb.mono HO4.out.2.1.size)))))
  clear hg hb HO4
  generalize w4.alloc (.cells #[Value.slice (some ⟨g1, 0, none⟩) np np, .slice (some ⟨P, 0, none⟩) 16 16] 24) = w5 at H5 ⊢
  generalize w4.heap.size = g5 at H5 ⊢
  refine (coJoin_two g5 24 _ _ np np 16 16 xl st (np + 16) rfl (by omega) _ H5.out.1 H5.out.2.1 H5.out.2.2.1).mono ?_
  rintro e w6 ⟨A6, c6, rfl, ho, hb⟩
  rw [HS.out.2.2] at ho
  have HF := Lib.hid (And.intro (own_base ho H5.out.2.2.2.size) (H5.out.2.2.2.trans (hb.mono H5.out.2.2.2.size)))
  clear ho hb H5
  go_wp2
  go_ret
  exact ⟨_, _, rfl, HF.out.1, HF.out.2⟩

set_option maxRecDepth 100000 in
set_option maxHeartbeats 4000000 in
theorem openC : OpenC := by
  intro k nn hk hn As Am ns cs0 nm cm sl more hnc _hcm _ _ hns hnm w hrs hrm
  have hsl : sl.length = ns := hrs.1
  by_cases h16 : ns < 16
  · have ho : openL k nn sl more = ([], 2) := by rw [openL, if_pos (by omega)]
    rw [ho]
    have d16 : decide ((ns : Int) < 16) = true := by simp; omega
    have hB := Lib.hid (((Below.refl w.heap.size w).alloc (Nat.le_refl _) (.cells (k.map u8v).toArray 23)).alloc (by simp) (.cells (nn.map u8v).toArray 102))
    obtain ⟨ck, hck⟩ : ∃ ck, (k.map u8v).toArray = ck := ⟨_, rfl⟩
    obtain ⟨cn, hcn⟩ : ∃ cn, (nn.map u8v).toArray = cn := ⟨_, rfl⟩
    rw [hck, hcn] at hB
    rw [hck, hcn]
    clear hck hcn ho
    go_enter Tryd.func68, Tryd.ntmps68
    go_wp2_with fail
    exact bodyPost_ret (results_tmp2 rfl _ _ _) rfl ⟨_, 0, rfl, Rd.nil _ _ _, Nat.zero_le _, Nat.zero_le _, hB.out⟩
  · obtain ⟨m, hm⟩ : ∃ m, ns - 16 = m := ⟨_, rfl⟩
    have d16 : decide ((ns : Int) < 16) = false := by simp; omega
    have hsb : (ns : Int) - 16 = (m : Int) := by omega
    have hsw : IntKind.i64.wrap ((ns : Int) - 16) = (m : Int) := by rw [hsb]; exact IntWalk.i64_in _ (by omega)
    have b1 : (m : Int) ≤ (cs0 : Int) := by omega
    have b2 : ¬ cs0 = m := by omega
    have b3 : (m : Int) ≤ (ns : Int) := by omega
    obtain ⟨sb, soff, rfl, hsbl, _⟩ := hrs.2 (by omega)
    have ho : openL k nn sl more = if sealT k nn (sl.take m) more = sl.drop m then (xorL k 1 nn (sl.take m), 0) else ([], 6) := by rw [openL, if_neg (by omega), hsl, hm]
    have hr1 := hrs.take (m := m) (by omega)
    have hr2 := hrs.drop m sb soff rfl (by omega)
    rw [show ns - m = 16 by omega] at hr2
    have htl : (sl.drop m).length = 16 := hr2.1
    have hcl : (sl.take m).length = m := hr1.1
    have XC := fun (w' : World) (h : Rd w' w'.heap.size (some ⟨sb, soff, none⟩) m (sl.take m)) => xor_any k nn hk hn 1 w'.heap.size (some ⟨sb, soff, none⟩) m cs0 (sl.take m) (by omega) w' (Nat.le_refl _) h
    have TC := tagOf_any k nn hk hn (some ⟨sb, soff, none⟩) Am m cs0 nm cm (sl.take m) more (by omega) (by omega)
    rw [show ((1 : UInt32).toNat : Int) = 1 from rfl] at XC
    have hst := sealT_length k nn (sl.take m) more
    have hxl : (xorL k 1 nn (sl.take m)).length = m := by rw [xorL_length, hcl]
    obtain ⟨st, hste⟩ : ∃ st, sealT k nn (sl.take m) more = st := ⟨_, rfl⟩
    rw [hste] at TC hst ho
    generalize xorL k 1 nn (sl.take m) = xl at XC hxl ho
    generalize sl.take m = cl at XC TC hr1 hcl hste
    generalize sl.drop m = tl at hr2 htl ho
    obtain ⟨⟨ol, oe⟩, hoe⟩ : ∃ o, openL k nn sl more = o := ⟨_, rfl⟩
    rw [hoe] at ho ⊢
    have HOE := Lib.hid ho
    clear hste ho hrs hoe
    obtain ⟨cs, hcs⟩ : ∃ cs, (st.map u8v).toArray = cs := ⟨_, rfl⟩
    rw [hcs] at TC
    obtain ⟨ck, hck⟩ : ∃ ck, (k.map u8v).toArray = ck := ⟨_, rfl⟩
    obtain ⟨cn, hcn⟩ : ∃ cn, (nn.map u8v).toArray = cn := ⟨_, rfl⟩
    rw [hck, hcn] at XC TC
    rw [hck, hcn]
    have h0 : Blk ((w.alloc (.cells ck 23)).alloc (.cells cn 102)) w.heap.size 23 (k.map u8v) := by rw [← hck]; exact (Blk.new w _ _).alloc _
    have h1 : Blk ((w.alloc (.cells ck 23)).alloc (.cells cn 102)) (w.heap.size + 1) 102 (nn.map u8v) := by rw [← hcn]; exact Blk.new' (w.alloc (.cells ck 23)) (by simp) _ _
    have h3 : Below w.heap.size w ((w.alloc (.cells ck 23)).alloc (.cells cn 102)) := ((Below.refl _ _).alloc (Nat.le_refl _) _).alloc (by simp) _
    have HP := Lib.hid (hr1.below h3)
    have HT := Lib.hid (hr2.below h3)
    have HM := Lib.hid (hrm.below h3)
    have HC := Lib.hid (And.intro hck hcn)
    have HL := Lib.hid (And.intro hk hn)
    have HS := Lib.hid (And.intro hst (And.intro hcs (And.intro hcl (And.intro htl hxl))))
    have HXC2 := Lib.hid XC
    have HTC2 := Lib.hid TC
    have HSM := Lib.hid hm
    have HCM := Lib.hid (show m ≤ maxLen by omega)
    clear hck hcn hk hn hst hcs hcl htl hxl XC TC hr1 hr2 hrm hsl hm
    go_enter Tryd.func68, Tryd.ntmps68
    go_upto_region 1 with fail
    generalize ((w.alloc (.cells ck 23)).alloc (.cells cn 102)) = w1 at h0 h1 h3 HP HT HM ⊢
    have H1 := Lib.hid (show Blk w1 w.heap.size 23 (k.map u8v) ∧ Blk w1 (w.heap.size + 1) 102 (nn.map u8v) ∧ Below w.heap.size w w1 from ⟨h0, h1, h3⟩)
    clear h0 h1 h3
    replace HP := Lib.hid (HP.out.mono H1.out.2.2.size)
    replace HT := Lib.hid (HT.out.mono H1.out.2.2.size)
    replace HM := Lib.hid (HM.out.mono H1.out.2.2.size)
    go_wp2_with (first | (refine wpList_load_blk rfl 23 (.tmp 4) rfl w.heap.size rfl 23 (k.map u8v) H1.out.1 32 5 Tryd.underlying23 (cells32 k HL.out.1) ?_; rw [HC.out.1]) | (refine wpList_load_blk rfl 102 (.tmp 5) rfl (w.heap.size + 1) rfl 102 (nn.map u8v) H1.out.2.1 12 5 Tryd.underlying102 (ae_cellsN nn HL.out.2) ?_; rw [HC.out.2]))
    clear d16 hsb hsw b1
    refine (HTC2.out _ HP.out HM.out).mono ?_
    rintro e w2 ⟨rfl, hb⟩
    replace H1 := Lib.hid (show Blk w2 w.heap.size 23 (k.map u8v) ∧ Blk w2 (w.heap.size + 1) 102 (nn.map u8v) ∧ Below w.heap.size w w2 from ⟨H1.out.1.below hb H1.out.1.lt, H1.out.2.1.below hb H1.out.2.1.lt, H1.out.2.2.trans (hb.mono H1.out.2.2.size)⟩)
    replace HP := Lib.hid ((HP.out.below hb).mono hb.size)
    replace HT := Lib.hid ((HT.out.below hb).mono hb.size)
    clear hb HM
    go_upto_region 6 with (refine wpList_store_blk rfl 30 (.tmp 12) (.tmp 26) rfl w2.heap.size (st.map u8v) rfl (by show Value.agg cs = _; rw [HS.out.2.1]) 30 (aeZ 16) (Blk.new w2 30 (aeZ 16)) (ae_cellsT st HS.out.1) (by rw [List.length_map, HS.out.1]; rfl) (u8v_one _) ?_; intro w4 hb4 hg4)
    simp only [Act.put]
    have hb24 : Below w2.heap.size w2 w4 := Below.grown ((Below.refl _ _).alloc (Nat.le_refl _) (.cells (aeZ 16).toArray 30)) hg4 (by simp) (by intro k hk; injection hk with hk; omega)
    replace H1 := Lib.hid (show Blk w4 w.heap.size 23 (k.map u8v) ∧ Blk w4 (w.heap.size + 1) 102 (nn.map u8v) ∧ Below w.heap.size w w4 from ⟨H1.out.1.below hb24 H1.out.1.lt, H1.out.2.1.below hb24 H1.out.2.1.lt, H1.out.2.2.trans (hb24.mono H1.out.2.2.size)⟩)
    replace HP := Lib.hid ((HP.out.below hb24).mono hb24.size)
    replace HT := Lib.hid ((HT.out.below hb24).mono hb24.size)
    have HG := Lib.hid (blk_all hb4 HS.out.1)
    clear hb4 hg4 hb24
    generalize w2.heap.size = P at HG ⊢
    have e16 : ns - m = 16 := by have := HSM.out; omega
    by_cases hst : st = tl
    · have ho := HOE.out
      rw [if_pos hst] at ho
      injection ho with ho1 ho2
      subst ho1 ho2
      have hbe : (tl == st) = true := by rw [beq_iff_eq]; exact hst.symm
      refine wp_region_held_drew (S := fun w5 => Below w4.heap.size w4 w5) (by kernel_rfl) ((Below.refl w4.heap.size w4).drew) (fun hHeld => ?_)
      refine take_first (v := ?_) 0 rfl (by kernel_rfl) (by kernel_rfl) (by kernel_rfl) (fun _ _ _ h => h) (Or.inl ⟨by rfl, ?_⟩) (by assumption) ?_
      rotate_left
      · (intro w hSw; (try dsimp only at hSw); go_simp; try with_reducible rfl)
      (try simp only [Act.put, List.setIfInBounds_toArray, List.set_cons_zero, List.set_cons_succ])
      refine take_first (v := ?_) 1 rfl (by kernel_rfl) (by kernel_rfl) (by kernel_rfl) (fun _ _ _ h => h) (Or.inl ⟨by rfl, ?_⟩) (by assumption) ?_
      rotate_left
      · (intro w hSw; (try dsimp only at hSw); go_simp; try with_reducible rfl)
      (try simp only [Act.put, List.setIfInBounds_toArray, List.set_cons_zero, List.set_cons_succ])
      refine take_first (v := ?_) 2 rfl (by kernel_rfl) (by kernel_rfl) (by kernel_rfl) (fun _ _ _ h => h) (Or.inl ⟨by rfl, ?_⟩) (by assumption) ?_
      rotate_left
      · (intro w hSw; (try dsimp only at hSw); go_simp; try with_reducible rfl)
      (try simp only [Act.put, List.setIfInBounds_toArray, List.set_cons_zero, List.set_cons_succ])
      refine take_first (v := ?_) 3 rfl (by kernel_rfl) (by kernel_rfl) (by kernel_rfl) (fun _ _ _ h => h) (Or.inl ⟨by rfl, ?_⟩) (by assumption) ?_
      rotate_left
      · (intro w hSw; (try dsimp only at hSw); go_simp; try with_reducible rfl)
      (try simp only [Act.put, List.setIfInBounds_toArray, List.set_cons_zero, List.set_cons_succ])
      refine step_one 4 rfl (by kernel_rfl) (fun K hK => ?_)
      go_simp
      refine (equal_any w4.heap.size 16 16 (cs0 - m) 16 _ _ tl st (by omega) (by omega) w4.drew (Nat.le_refl _) HT.out.drew HG.out.drew).mono ?_
      rintro e w6 ⟨rfl, hb6⟩
      rw [hbe]
      replace H1 := Lib.hid (show Blk w6 w.heap.size 23 (k.map u8v) ∧ Blk w6 (w.heap.size + 1) 102 (nn.map u8v) ∧ Below w.heap.size w w6 from ⟨H1.out.1.drew.below hb6 H1.out.1.lt, H1.out.2.1.drew.below hb6 H1.out.2.1.lt, H1.out.2.2.drew.trans (hb6.mono H1.out.2.2.size)⟩)
      replace HP := Lib.hid ((HP.out.drew.below hb6).mono hb6.size)
      have hb7 : Below w4.heap.size w4 w6 := (Below.refl w4.heap.size w4).drew.trans hb6
      clear hb6
      go_wp2_with fail
      refine hK.out _ _ (hb7) (fun hHeld => ?_)
      clear hK K
      (try simp only [Act.put, List.setIfInBounds_toArray, List.set_cons_zero, List.set_cons_succ])
      refine take_first (v := ?_) 5 rfl (by kernel_rfl) (by kernel_rfl) (by kernel_rfl) (fun _ _ _ h => h) (Or.inl ⟨by rfl, ?_⟩) (by assumption) ?_
      rotate_left
      · (intro w hSw; (try dsimp only at hSw); go_simp; try with_reducible rfl)
      (try simp only [Act.put, List.setIfInBounds_toArray, List.set_cons_zero, List.set_cons_succ])
      refine wpAnyH_done (by kernel_rfl) ?_ _
      clear hb7
      clear HG HT hHeld HOE
      go_wp2_with (first | (refine wpList_load_blk rfl 23 (.tmp 4) rfl w.heap.size rfl 23 (k.map u8v) H1.out.1 32 5 Tryd.underlying23 (cells32 k HL.out.1) ?_; rw [HC.out.1]) | (refine wpList_load_blk rfl 102 (.tmp 5) rfl (w.heap.size + 1) rfl 102 (nn.map u8v) H1.out.2.1 12 5 Tryd.underlying102 (ae_cellsN nn HL.out.2) ?_; rw [HC.out.2]))
      refine (HXC2.out _ HP.out).mono ?_
      rintro e w8 ⟨g8, rfl, ho6, hb6⟩
      have HF := Lib.hid (And.intro (Rd.of_own ho6) (H1.out.2.2.trans (hb6.mono H1.out.2.2.size)))
      clear ho6 hb6 H1 HP
      go_wp2_with fail
      have hoL := HS.out.2.2.2.2
      exact bodyPost_ret (results_tmp2 rfl _ _ _) rfl ⟨_, m, by rw [hoL]; rfl, by rw [hoL]; exact HF.out.1, by rw [hoL]; exact Nat.le_refl _, HCM.out, HF.out.2⟩
    · have ho := HOE.out
      rw [if_neg hst] at ho
      injection ho with ho1 ho2
      subst ho1 ho2
      have hbe : (tl == st) = false := by rw [beq_eq_false_iff_ne]; exact fun h => hst h.symm
      refine wp_region_held_drew (S := fun w5 => Below w4.heap.size w4 w5) (by kernel_rfl) ((Below.refl w4.heap.size w4).drew) (fun hHeld => ?_)
      refine take_first (v := ?_) 0 rfl (by kernel_rfl) (by kernel_rfl) (by kernel_rfl) (fun _ _ _ h => h) (Or.inl ⟨by rfl, ?_⟩) (by assumption) ?_
      rotate_left
      · (intro w hSw; (try dsimp only at hSw); go_simp; try with_reducible rfl)
      (try simp only [Act.put, List.setIfInBounds_toArray, List.set_cons_zero, List.set_cons_succ])
      refine take_first (v := ?_) 1 rfl (by kernel_rfl) (by kernel_rfl) (by kernel_rfl) (fun _ _ _ h => h) (Or.inl ⟨by rfl, ?_⟩) (by assumption) ?_
      rotate_left
      · (intro w hSw; (try dsimp only at hSw); go_simp; try with_reducible rfl)
      (try simp only [Act.put, List.setIfInBounds_toArray, List.set_cons_zero, List.set_cons_succ])
      refine take_first (v := ?_) 2 rfl (by kernel_rfl) (by kernel_rfl) (by kernel_rfl) (fun _ _ _ h => h) (Or.inl ⟨by rfl, ?_⟩) (by assumption) ?_
      rotate_left
      · (intro w hSw; (try dsimp only at hSw); go_simp; try with_reducible rfl)
      (try simp only [Act.put, List.setIfInBounds_toArray, List.set_cons_zero, List.set_cons_succ])
      refine take_first (v := ?_) 3 rfl (by kernel_rfl) (by kernel_rfl) (by kernel_rfl) (fun _ _ _ h => h) (Or.inl ⟨by rfl, ?_⟩) (by assumption) ?_
      rotate_left
      · (intro w hSw; (try dsimp only at hSw); go_simp; try with_reducible rfl)
      (try simp only [Act.put, List.setIfInBounds_toArray, List.set_cons_zero, List.set_cons_succ])
      refine step_one 4 rfl (by kernel_rfl) (fun K hK => ?_)
      go_simp
      refine (equal_any w4.heap.size 16 16 (cs0 - m) 16 _ _ tl st (by omega) (by omega) w4.drew (Nat.le_refl _) HT.out.drew HG.out.drew).mono ?_
      rintro e w6 ⟨rfl, hb6⟩
      rw [hbe]
      replace H1 := Lib.hid (show Blk w6 w.heap.size 23 (k.map u8v) ∧ Blk w6 (w.heap.size + 1) 102 (nn.map u8v) ∧ Below w.heap.size w w6 from ⟨H1.out.1.drew.below hb6 H1.out.1.lt, H1.out.2.1.drew.below hb6 H1.out.2.1.lt, H1.out.2.2.drew.trans (hb6.mono H1.out.2.2.size)⟩)
      replace HP := Lib.hid ((HP.out.drew.below hb6).mono hb6.size)
      have hb7 : Below w4.heap.size w4 w6 := (Below.refl w4.heap.size w4).drew.trans hb6
      clear hb6
      go_wp2_with fail
      refine hK.out _ _ (hb7) (fun hHeld => ?_)
      clear hK K
      (try simp only [Act.put, List.setIfInBounds_toArray, List.set_cons_zero, List.set_cons_succ])
      refine take_first (v := ?_) 5 rfl (by kernel_rfl) (by kernel_rfl) (by kernel_rfl) (fun _ _ _ h => h) (Or.inl ⟨by rfl, ?_⟩) (by assumption) ?_
      rotate_left
      · (intro w hSw; (try dsimp only at hSw); go_simp; try with_reducible rfl)
      (try simp only [Act.put, List.setIfInBounds_toArray, List.set_cons_zero, List.set_cons_succ])
      refine wpAnyH_done (by kernel_rfl) ?_ _
      clear hb7
      have HF := Lib.hid H1.out.2.2
      clear HG HT hHeld HOE H1 HP
      go_wp2_with fail
      exact bodyPost_ret (results_tmp2 rfl _ _ _) rfl ⟨_, 0, rfl, Rd.nil _ _ _, Nat.zero_le _, Nat.zero_le _, HF.out⟩
end Go.Proofs.YtlddafkikkaonaaDoor
namespace Go.Proofs.YtlddafkikkaonaaDoor
open Go.RowKit

set_option maxRecDepth 100000 in
set_option maxHeartbeats 8000000 in
theorem xcDivide_any (k n : List UInt8) (hk : k.length = 32) (hn : n.length = 24) (w : World) :
    Calls Tryd.prog 67 #[.agg (k.map u8v).toArray, .agg (n.map u8v).toArray] w fun e w' => e = .returned (.tuple #[.agg ((longK k n).map u8v).toArray, .agg ((longN n).map u8v).toArray]) ∧ Below w.heap.size w w' := by
  have h16 : (n.take 16).length = 16 := by rw [List.length_take, hn]; rfl
  have h8 : (n.drop 16).length = 8 := by rw [List.length_drop, hn]
  have DC := fun w' : World => deriveC k (n.take 16) hk h16 w'
  rw [show deriveL k (n.take 16) = longK k n from rfl] at DC
  obtain ⟨ck, hck⟩ : ∃ ck, (k.map u8v).toArray = ck := ⟨_, rfl⟩
  obtain ⟨cn, hcn⟩ : ∃ c, (n.map u8v).toArray = c := ⟨_, rfl⟩
  obtain ⟨ci, hci⟩ : ∃ c, ((n.take 16).map u8v).toArray = c := ⟨_, rfl⟩
  obtain ⟨cd, hcd⟩ : ∃ c, ((longK k n).map u8v).toArray = c := ⟨_, rfl⟩
  obtain ⟨co, hco⟩ : ∃ c, ((longN n).map u8v).toArray = c := ⟨_, rfl⟩
  rw [hck, hci, hcd] at DC
  rw [hck, hcn]
  have HM := Lib.hid (show Mem w [blkE (w.heap.size + 1 + 1 + 1 + 1) 25 ((List.replicate 16 (0 : UInt8)).map u8v), blkE (w.heap.size + 1 + 1 + 1) 102 (aeZ 12), blkE (w.heap.size + 1 + 1) 23 (aeZ 32), blkE (w.heap.size + 1) 52 (n.map u8v), blkE w.heap.size 23 (k.map u8v)] (((((w.alloc (.cells ck 23)).alloc (.cells cn 52)).alloc (.cells #[.int .u8 0, .int .u8 0, .int .u8 0, .int .u8 0, .int .u8 0, .int .u8 0, .int .u8 0, .int .u8 0, .int .u8 0, .int .u8 0, .int .u8 0, .int .u8 0, .int .u8 0, .int .u8 0, .int .u8 0, .int .u8 0, .int .u8 0, .int .u8 0, .int .u8 0, .int .u8 0, .int .u8 0, .int .u8 0, .int .u8 0, .int .u8 0, .int .u8 0, .int .u8 0, .int .u8 0, .int .u8 0, .int .u8 0, .int .u8 0, .int .u8 0, .int .u8 0] 23)).alloc (.cells #[.int .u8 0, .int .u8 0, .int .u8 0, .int .u8 0, .int .u8 0, .int .u8 0, .int .u8 0, .int .u8 0, .int .u8 0, .int .u8 0, .int .u8 0, .int .u8 0] 102)).alloc (.cells #[.int .u8 0, .int .u8 0, .int .u8 0, .int .u8 0, .int .u8 0, .int .u8 0, .int .u8 0, .int .u8 0, .int .u8 0, .int .u8 0, .int .u8 0, .int .u8 0, .int .u8 0, .int .u8 0, .int .u8 0, .int .u8 0] 25)) from (((((((((((Mem.nil w)).alloc rfl 23 ck (k.map u8v) hck.symm)).alloc (by simp) 52 cn (n.map u8v) hcn.symm)).alloc (by simp) 23 #[.int .u8 0, .int .u8 0, .int .u8 0, .int .u8 0, .int .u8 0, .int .u8 0, .int .u8 0, .int .u8 0, .int .u8 0, .int .u8 0, .int .u8 0, .int .u8 0, .int .u8 0, .int .u8 0, .int .u8 0, .int .u8 0, .int .u8 0, .int .u8 0, .int .u8 0, .int .u8 0, .int .u8 0, .int .u8 0, .int .u8 0, .int .u8 0, .int .u8 0, .int .u8 0, .int .u8 0, .int .u8 0, .int .u8 0, .int .u8 0, .int .u8 0, .int .u8 0] (aeZ 32) rfl)).alloc (by simp) 102 #[.int .u8 0, .int .u8 0, .int .u8 0, .int .u8 0, .int .u8 0, .int .u8 0, .int .u8 0, .int .u8 0, .int .u8 0, .int .u8 0, .int .u8 0, .int .u8 0] (aeZ 12) rfl)).alloc (by simp) 25 #[.int .u8 0, .int .u8 0, .int .u8 0, .int .u8 0, .int .u8 0, .int .u8 0, .int .u8 0, .int .u8 0, .int .u8 0, .int .u8 0, .int .u8 0, .int .u8 0, .int .u8 0, .int .u8 0, .int .u8 0, .int .u8 0] ((List.replicate 16 (0 : UInt8)).map u8v) rfl))
  have HC := Lib.hid (And.intro hck (And.intro hci (And.intro hco hcd)))
  have HL := Lib.hid (And.intro hk hn)
  have HL16 := Lib.hid h16
  have HL8 := Lib.hid h8
  have HLN := Lib.hid (longN_length n hn)
  have HDC := Lib.hid DC
  clear hck hcn hci hcd hco hk hn h16 h8 DC
  go_enter Tryd.func67, Tryd.ntmps67
  go_upto_region 2 with fail
  generalize (((((w.alloc (.cells ck 23)).alloc (.cells cn 52)).alloc (.cells #[.int .u8 0, .int .u8 0, .int .u8 0, .int .u8 0, .int .u8 0, .int .u8 0, .int .u8 0, .int .u8 0, .int .u8 0, .int .u8 0, .int .u8 0, .int .u8 0, .int .u8 0, .int .u8 0, .int .u8 0, .int .u8 0, .int .u8 0, .int .u8 0, .int .u8 0, .int .u8 0, .int .u8 0, .int .u8 0, .int .u8 0, .int .u8 0, .int .u8 0, .int .u8 0, .int .u8 0, .int .u8 0, .int .u8 0, .int .u8 0, .int .u8 0, .int .u8 0] 23)).alloc (.cells #[.int .u8 0, .int .u8 0, .int .u8 0, .int .u8 0, .int .u8 0, .int .u8 0, .int .u8 0, .int .u8 0, .int .u8 0, .int .u8 0, .int .u8 0, .int .u8 0] 102)).alloc (.cells #[.int .u8 0, .int .u8 0, .int .u8 0, .int .u8 0, .int .u8 0, .int .u8 0, .int .u8 0, .int .u8 0, .int .u8 0, .int .u8 0, .int .u8 0, .int .u8 0, .int .u8 0, .int .u8 0, .int .u8 0, .int .u8 0] 25)) = w1 at HM ⊢
  refine wp_region_held_drew (S := fun W' => Mem w [blkE (w.heap.size + 1 + 1 + 1) 102 (aeZ 12), blkE (w.heap.size + 1 + 1) 23 (aeZ 32), blkE (w.heap.size + 1) 52 (n.map u8v), blkE w.heap.size 23 (k.map u8v)] W') (by kernel_rfl) ((HM.out.erase 0).drew) (fun hHeld => ?_)
  replace HM := Lib.hid HM.out.drew
  generalize w1.drew = wd1 at HM hHeld ⊢
  refine take_first (v := ?_) 0 rfl (by kernel_rfl) (by kernel_rfl) (by kernel_rfl) (fun _ _ _ h => h) (Or.inl ⟨by rfl, ?_⟩) (by assumption) ?_
  rotate_left
  · (intro w hSw; (try dsimp only at hSw); go_simp; try with_reducible rfl)
  (try simp only [Act.put, List.setIfInBounds_toArray, List.set_cons_zero, List.set_cons_succ])
  refine take_first (v := ?_) 1 rfl (by kernel_rfl) (by kernel_rfl) (by kernel_rfl) (fun _ _ _ h => h) (Or.inl ⟨by rfl, ?_⟩) (by assumption) ?_
  rotate_left
  · (intro w hSw; (try dsimp only at hSw); go_simp; try with_reducible rfl)
  (try simp only [Act.put, List.setIfInBounds_toArray, List.set_cons_zero, List.set_cons_succ])
  refine step_one 2 rfl (by kernel_rfl) (fun K hK => ?_)
  clear hHeld
  refine step_copy_bytes _ rfl (.tmp 8) (.tmp 9) 24 24 (by rfl) 5 Tryd.underlying24 (by kernel_rfl) (w.heap.size + 1 + 1 + 1 + 1) 0 16 16 ⟨(w.heap.size + 1), 0, none⟩ 24 24 (by rfl) (by rfl) ((List.replicate 16 (0 : UInt8)).map u8v) 25 (HM.out.blk 0 rfl) ((n.take 16).map u8v) (by rw [List.length_map, HL16.out]; rfl) (show Rd wd1 (w.heap.size + 1 + 1) (some ⟨w.heap.size + 1, 0, none⟩) 16 (n.take 16) from by have h := ((HM.out.blk 3 rfl).rd 0 16 (by rw [HL.out.2]; omega)); rwa [List.drop_zero] at h).src (by rw [List.length_map, List.length_map, HL16.out]; decide) (u8v_one _) ?_
  intro wy2 hb hg
  rw [putL_map] at hb
  replace HM := Lib.hid (show Mem w [blkE (w.heap.size + 1 + 1 + 1 + 1) 25 ((putL (List.replicate 16 0) 0 (n.take 16)).map u8v), blkE (w.heap.size + 1 + 1 + 1) 102 (aeZ 12), blkE (w.heap.size + 1 + 1) 23 (aeZ 32), blkE (w.heap.size + 1) 52 (n.map u8v), blkE w.heap.size 23 (k.map u8v)] wy2 from HM.out.put 0 rfl _ hg hb)
  clear hb hg
  refine hK.out _ _ (HM.out.erase 0) (fun hHeld => ?_)
  clear hK K
  (try simp only [Act.put, List.setIfInBounds_toArray, List.set_cons_zero, List.set_cons_succ])
  refine wpAnyH_done (by kernel_rfl) ?_ _
  have hp1 : putL (List.replicate 16 0) 0 (n.take 16) = n.take 16 := by
    rw [putL, List.take_zero, List.nil_append, HL16.out, List.drop_of_length_le (by simp), List.append_nil]
  rw [hp1] at HM
  clear hp1 hHeld
  generalize hw4 : wy2 = w3 at HM ⊢
  clear hw4
  have HA := Lib.hid (show Mem w [blkE w3.heap.size 102 ((List.replicate 12 (0 : UInt8)).map u8v), blkE (w.heap.size + 1 + 1 + 1 + 1) 25 ((n.take 16).map u8v), blkE (w.heap.size + 1 + 1 + 1) 102 (aeZ 12), blkE (w.heap.size + 1 + 1) 23 (aeZ 32), blkE (w.heap.size + 1) 52 (n.map u8v), blkE w.heap.size 23 (k.map u8v)] (w3.alloc (.cells #[.int .u8 0, .int .u8 0, .int .u8 0, .int .u8 0, .int .u8 0, .int .u8 0, .int .u8 0, .int .u8 0, .int .u8 0, .int .u8 0, .int .u8 0, .int .u8 0] 102)) from HM.out.alloc rfl 102 #[.int .u8 0, .int .u8 0, .int .u8 0, .int .u8 0, .int .u8 0, .int .u8 0, .int .u8 0, .int .u8 0, .int .u8 0, .int .u8 0, .int .u8 0, .int .u8 0] ((List.replicate 12 (0 : UInt8)).map u8v) rfl)
  go_upto_region 4 with fail
  replace HM := HA
  clear HA
  generalize w3.alloc (.cells #[.int .u8 0, .int .u8 0, .int .u8 0, .int .u8 0, .int .u8 0, .int .u8 0, .int .u8 0, .int .u8 0, .int .u8 0, .int .u8 0, .int .u8 0, .int .u8 0] 102) = w4 at HM ⊢
  generalize w3.heap.size = Q at HM ⊢
  refine wp_region_held_drew (S := fun W' => Mem w [blkE (w.heap.size + 1 + 1 + 1 + 1) 25 ((n.take 16).map u8v), blkE (w.heap.size + 1 + 1 + 1) 102 (aeZ 12), blkE (w.heap.size + 1 + 1) 23 (aeZ 32), blkE (w.heap.size + 1) 52 (n.map u8v), blkE w.heap.size 23 (k.map u8v)] W') (by kernel_rfl) ((HM.out.erase 0).drew) (fun hHeld => ?_)
  replace HM := Lib.hid HM.out.drew
  generalize w4.drew = wd2 at HM hHeld ⊢
  refine take_first (v := ?_) 0 rfl (by kernel_rfl) (by kernel_rfl) (by kernel_rfl) (fun _ _ _ h => h) (Or.inl ⟨by rfl, ?_⟩) (by assumption) ?_
  rotate_left
  · (intro w hSw; (try dsimp only at hSw); go_simp; try with_reducible rfl)
  (try simp only [Act.put, List.setIfInBounds_toArray, List.set_cons_zero, List.set_cons_succ])
  refine take_first (v := ?_) 1 rfl (by kernel_rfl) (by kernel_rfl) (by kernel_rfl) (fun _ _ _ h => h) (Or.inl ⟨by rfl, ?_⟩) (by assumption) ?_
  rotate_left
  · (intro w hSw; (try dsimp only at hSw); go_simp; try with_reducible rfl)
  (try simp only [Act.put, List.setIfInBounds_toArray, List.set_cons_zero, List.set_cons_succ])
  refine step_one 2 rfl (by kernel_rfl) (fun K hK => ?_)
  clear hHeld
  refine step_copy_bytes _ rfl (.tmp 11) (.tmp 12) 24 24 (by rfl) 5 Tryd.underlying24 (by kernel_rfl) Q 4 8 8 ⟨(w.heap.size + 1), 16, none⟩ 8 8 (by rfl) (by rfl) ((List.replicate 12 (0 : UInt8)).map u8v) 102 (HM.out.blk 0 rfl) ((n.drop 16).map u8v) (by rw [List.length_map, HL8.out]; rfl) (show Rd wd2 (w.heap.size + 1 + 1) (some ⟨w.heap.size + 1, 16, none⟩) 8 (n.drop 16) from by have h := ((HM.out.blk 4 rfl).rd 16 8 (by rw [HL.out.2]; omega)); rwa [List.take_of_length_le (by rw [HL8.out]; omega)] at h).src (by rw [List.length_map, List.length_map, HL8.out]; decide) (u8v_one _) ?_
  intro wz2 hb hg
  rw [putL_map] at hb
  replace HM := Lib.hid (show Mem w [blkE Q 102 ((putL (List.replicate 12 0) 4 (n.drop 16)).map u8v), blkE (w.heap.size + 1 + 1 + 1 + 1) 25 ((n.take 16).map u8v), blkE (w.heap.size + 1 + 1 + 1) 102 (aeZ 12), blkE (w.heap.size + 1 + 1) 23 (aeZ 32), blkE (w.heap.size + 1) 52 (n.map u8v), blkE w.heap.size 23 (k.map u8v)] wz2 from HM.out.put 0 rfl _ hg hb)
  clear hb hg
  refine hK.out _ _ (HM.out.erase 0) (fun hHeld => ?_)
  clear hK K
  (try simp only [Act.put, List.setIfInBounds_toArray, List.set_cons_zero, List.set_cons_succ])
  refine wpAnyH_done (by kernel_rfl) ?_ _
  have hp2 : putL (List.replicate 12 0) 4 (n.drop 16) = longN n := by
    rw [putL, HL8.out, show (List.replicate 12 (0 : UInt8)).drop (4 + 8) = [] from rfl, List.append_nil]; rfl
  rw [hp2] at HM
  clear hp2 hHeld
  go_upto_region 5 with fail
  generalize hw7 : wz2 = w7 at HM ⊢
  clear hw7
  refine wp_region_held_drew (S := fun W' => Mem w [blkE Q 102 ((longN n).map u8v), blkE (w.heap.size + 1 + 1 + 1 + 1) 25 ((n.take 16).map u8v), blkE (w.heap.size + 1) 52 (n.map u8v), blkE w.heap.size 23 (k.map u8v)] W') (by kernel_rfl) (((HM.out.erase 2).erase 2).drew) (fun hHeld => ?_)
  replace HM := Lib.hid HM.out.drew
  generalize w7.drew = wd1 at HM hHeld ⊢
  refine take_first (v := .agg ck) 0 rfl (by kernel_rfl) (by kernel_rfl) (by kernel_rfl) (fun _ _ _ h => h) (by rw [← HC.out.1]; exact yields_load_blk (by rfl) 23 (.tmp 2) rfl w.heap.size rfl 23 (k.map u8v) (fun w' hb => hb.blk 3 rfl) 32 5 Tryd.underlying23 (cells32 k HL.out.1)) (by assumption) ?_
  (try simp only [Act.put, List.setIfInBounds_toArray, List.set_cons_zero, List.set_cons_succ])
  refine take_first (v := .agg ci) 1 rfl (by kernel_rfl) (by kernel_rfl) (by kernel_rfl) (fun _ _ _ h => h) (by rw [← HC.out.2.1]; exact yields_load_blk (by rfl) 25 (.tmp 6) rfl (w.heap.size + 1 + 1 + 1 + 1) rfl 25 ((n.take 16).map u8v) (fun w' hb => hb.blk 1 rfl) 16 5 Tryd.underlying25 (xc_cells16 _ HL16.out)) (by assumption) ?_
  (try simp only [Act.put, List.setIfInBounds_toArray, List.set_cons_zero, List.set_cons_succ])
  refine take_first (v := .agg co) 3 rfl (by kernel_rfl) (by kernel_rfl) (by kernel_rfl) (fun _ _ _ h => h) (by rw [← HC.out.2.2.1]; exact yields_load_blk (by rfl) 102 (.tmp 7) rfl Q rfl 102 ((longN n).map u8v) (fun w' hb => hb.blk 0 rfl) 12 5 Tryd.underlying102 (ae_cellsN _ HLN.out)) (by assumption) ?_
  (try simp only [Act.put, List.setIfInBounds_toArray, List.set_cons_zero, List.set_cons_succ])
  refine step_one 2 rfl (by kernel_rfl) (fun K hK => ?_)
  clear hHeld
  go_simp
  refine (HDC.out _).mono ?_
  rintro e wy2 ⟨rfl, hb⟩
  replace HM := Lib.hid (show Mem w [blkE Q 102 ((longN n).map u8v), blkE (w.heap.size + 1 + 1 + 1 + 1) 25 ((n.take 16).map u8v), blkE (w.heap.size + 1 + 1 + 1) 102 (aeZ 12), blkE (w.heap.size + 1 + 1) 23 (aeZ 32), blkE (w.heap.size + 1) 52 (n.map u8v), blkE w.heap.size 23 (k.map u8v)] wy2 from HM.out.below hb)
  clear hb
  go_wp2_with fail
  refine hK.out _ _ ((HM.out.erase 2).erase 2) (fun hHeld => ?_)
  clear hK K
  (try simp only [Act.put, List.setIfInBounds_toArray, List.set_cons_zero, List.set_cons_succ])
  refine step_one 4 rfl (by kernel_rfl) (fun K hK => ?_)
  clear hHeld
  refine step_store_blk _ rfl 23 (.tmp 4) (.tmp 16) rfl (w.heap.size + 1 + 1) ((longK k n).map u8v) rfl (by show Value.agg cd = _; rw [HC.out.2.2.2]) 23 (aeZ 32) (HM.out.blk 3 rfl) (cells32 _ (longK_length k n)) (by rw [List.length_map, longK_length]; rfl) (u8v_one _) ?_
  intro wy3 hb hg
  replace HM := Lib.hid (show Mem w [blkE Q 102 ((longN n).map u8v), blkE (w.heap.size + 1 + 1 + 1 + 1) 25 ((n.take 16).map u8v), blkE (w.heap.size + 1 + 1 + 1) 102 (aeZ 12), blkE (w.heap.size + 1 + 1) 23 ((longK k n).map u8v), blkE (w.heap.size + 1) 52 (n.map u8v), blkE w.heap.size 23 (k.map u8v)] wy3 from HM.out.put 3 rfl _ hg hb)
  clear hb hg
  refine hK.out _ _ ((HM.out.erase 2).erase 2) (fun hHeld => ?_)
  clear hK K
  (try simp only [Act.put])
  refine step_one 5 rfl (by kernel_rfl) (fun K hK => ?_)
  clear hHeld
  refine step_store_blk _ rfl 102 (.tmp 5) (.tmp 17) rfl (w.heap.size + 1 + 1 + 1) ((longN n).map u8v) rfl (by show Value.agg co = _; rw [HC.out.2.2.1]) 102 (aeZ 12) (HM.out.blk 2 rfl) (ae_cellsN _ HLN.out) (by rw [List.length_map, HLN.out]; rfl) (u8v_one _) ?_
  intro wy4 hb hg
  replace HM := Lib.hid (show Mem w [blkE Q 102 ((longN n).map u8v), blkE (w.heap.size + 1 + 1 + 1 + 1) 25 ((n.take 16).map u8v), blkE (w.heap.size + 1 + 1 + 1) 102 ((longN n).map u8v), blkE (w.heap.size + 1 + 1) 23 ((longK k n).map u8v), blkE (w.heap.size + 1) 52 (n.map u8v), blkE w.heap.size 23 (k.map u8v)] wy4 from HM.out.put 2 rfl _ hg hb)
  clear hb hg
  refine hK.out _ _ ((HM.out.erase 2).erase 2) (fun hHeld => ?_)
  clear hK K
  (try simp only [Act.put])
  refine wpAnyH_done (by kernel_rfl) ?_ _
  go_wp2_with fail
  exact bodyPost_ret (results_blk2 rfl _ _ (w.heap.size + 1 + 1) 23 ((longK k n).map u8v) 32 5 rfl (HM.out.blk 3 rfl) Tryd.underlying23 (cells32 _ (longK_length k n)) (w.heap.size + 1 + 1 + 1) 102 ((longN n).map u8v) 12 5 rfl (HM.out.blk 2 rfl) Tryd.underlying102 (ae_cellsN _ HLN.out)) rfl ⟨rfl, HM.out.bel⟩


set_option maxRecDepth 100000 in
set_option maxHeartbeats 4000000 in
theorem xsealC : XSealC := by
  intro k n hk hn Ap Am np cp nm cm pl more hnp hcp hnm hcm h1 h2 w hrp hrm
  have SH := fun w' : World => xcDivide_any k n hk hn w'
  have SE := sealC (longK k n) (longN n) (longK_length k n) (longN_length n hn)
  have HLN := Lib.hid (longN_length n hn)
  obtain ⟨ck, hck⟩ : ∃ ck, (k.map u8v).toArray = ck := ⟨_, rfl⟩
  obtain ⟨cn, hcn⟩ : ∃ c, (n.map u8v).toArray = c := ⟨_, rfl⟩
  obtain ⟨cd, hcd⟩ : ∃ c, ((longK k n).map u8v).toArray = c := ⟨_, rfl⟩
  obtain ⟨co, hco⟩ : ∃ c, ((longN n).map u8v).toArray = c := ⟨_, rfl⟩
  rw [hck, hcn, hcd, hco] at SH
  rw [hcd, hco] at SE
  rw [hck, hcn]
  have HM := Lib.hid (show Mem w [blkE (w.heap.size + 1) 52 (n.map u8v), blkE w.heap.size 23 (k.map u8v)] ((w.alloc (.cells ck 23)).alloc (.cells cn 52)) from ((Mem.nil w).alloc rfl 23 ck (k.map u8v) hck.symm).alloc (by simp) 52 cn (n.map u8v) hcn.symm)
  have HC := Lib.hid (And.intro hck (And.intro hcn (And.intro hcd hco)))
  have HL := Lib.hid (And.intro hk hn)
  have HSH := Lib.hid SH
  have HSE := Lib.hid SE
  clear hck hcn hcd hco hk hn SH SE
  go_enter Tryd.func49, Tryd.ntmps49
  go_upto_region 1 with fail
  generalize ((w.alloc (.cells ck 23)).alloc (.cells cn 52)) = w1 at HM ⊢
  go_wp2_with (first | (refine wpList_load_blk rfl 23 (.tmp 4) rfl w.heap.size rfl 23 (k.map u8v) (HM.out.blk 1 rfl) 32 5 Tryd.underlying23 (cells32 k HL.out.1) ?_; rw [HC.out.1]) | (refine wpList_load_blk rfl 52 (.tmp 5) rfl (w.heap.size + 1) rfl 52 (n.map u8v) (HM.out.blk 0 rfl) 24 5 Tryd.underlying52 (xc_cellsL n HL.out.2) ?_; rw [HC.out.2.1]))
  refine (HSH.out _).mono ?_
  rintro e w2 ⟨rfl, hb⟩
  replace HM := Lib.hid (show Mem w [blkE (w.heap.size + 1) 52 (n.map u8v), blkE w.heap.size 23 (k.map u8v)] w2 from HM.out.below hb)
  clear hb
  have HA := Lib.hid (show Mem w [blkE (w2.heap.size + 1) 102 (aeZ 12), blkE w2.heap.size 23 (aeZ 32), blkE (w.heap.size + 1) 52 (n.map u8v), blkE w.heap.size 23 (k.map u8v)] ((w2.alloc (.cells #[.int .u8 0, .int .u8 0, .int .u8 0, .int .u8 0, .int .u8 0, .int .u8 0, .int .u8 0, .int .u8 0, .int .u8 0, .int .u8 0, .int .u8 0, .int .u8 0, .int .u8 0, .int .u8 0, .int .u8 0, .int .u8 0, .int .u8 0, .int .u8 0, .int .u8 0, .int .u8 0, .int .u8 0, .int .u8 0, .int .u8 0, .int .u8 0, .int .u8 0, .int .u8 0, .int .u8 0, .int .u8 0, .int .u8 0, .int .u8 0, .int .u8 0, .int .u8 0] 23)).alloc (.cells #[.int .u8 0, .int .u8 0, .int .u8 0, .int .u8 0, .int .u8 0, .int .u8 0, .int .u8 0, .int .u8 0, .int .u8 0, .int .u8 0, .int .u8 0, .int .u8 0] 102)) from (HM.out.alloc rfl 23 #[.int .u8 0, .int .u8 0, .int .u8 0, .int .u8 0, .int .u8 0, .int .u8 0, .int .u8 0, .int .u8 0, .int .u8 0, .int .u8 0, .int .u8 0, .int .u8 0, .int .u8 0, .int .u8 0, .int .u8 0, .int .u8 0, .int .u8 0, .int .u8 0, .int .u8 0, .int .u8 0, .int .u8 0, .int .u8 0, .int .u8 0, .int .u8 0, .int .u8 0, .int .u8 0, .int .u8 0, .int .u8 0, .int .u8 0, .int .u8 0, .int .u8 0, .int .u8 0] (aeZ 32) rfl).alloc (by simp) 102 #[.int .u8 0, .int .u8 0, .int .u8 0, .int .u8 0, .int .u8 0, .int .u8 0, .int .u8 0, .int .u8 0, .int .u8 0, .int .u8 0, .int .u8 0, .int .u8 0] (aeZ 12) rfl)
  go_upto_region 2 with (first | (refine wpList_store_blk rfl 23 (.tmp 9) (.tmp 15) rfl w2.heap.size ((longK k n).map u8v) rfl (by show Value.agg cd = _; rw [HC.out.2.2.1]) 23 (aeZ 32) (HA.out.blk 1 rfl) (cells32 _ (longK_length k n)) (by rw [List.length_map, longK_length]; rfl) (u8v_one _) ?_; intro w3 hb3 hg3) | (refine wpList_store_blk rfl 102 (.tmp 10) (.tmp 16) rfl (w2.heap.size + 1) ((longN n).map u8v) rfl (by show Value.agg co = _; rw [HC.out.2.2.2]) 102 (aeZ 12) ((HA.out.put 1 rfl ((longK k n).map u8v) hg3 hb3).blk 0 rfl) (ae_cellsN _ HLN.out) (by rw [List.length_map, HLN.out]; rfl) (u8v_one _) ?_; intro w4 hb4 hg4))
  (try simp only [Act.put])
  replace HM := Lib.hid (show Mem w [blkE (w2.heap.size + 1) 102 ((longN n).map u8v), blkE w2.heap.size 23 ((longK k n).map u8v), blkE (w.heap.size + 1) 52 (n.map u8v), blkE w.heap.size 23 (k.map u8v)] w4 from (HA.out.put 1 rfl ((longK k n).map u8v) hg3 hb3).put 0 rfl ((longN n).map u8v) hg4 hb4)
  clear hb3 hg3 hb4 hg4 HA
  generalize w2.heap.size = P at HM ⊢
  go_wp2_with (first | (refine wpList_load_blk rfl 23 (.tmp 9) rfl P rfl 23 ((longK k n).map u8v) (HM.out.blk 1 rfl) 32 5 Tryd.underlying23 (cells32 _ (longK_length k n)) ?_; rw [HC.out.2.2.1]) | (refine wpList_load_blk rfl 102 (.tmp 10) rfl (P + 1) rfl 102 ((longN n).map u8v) (HM.out.blk 0 rfl) 12 5 Tryd.underlying102 (ae_cellsN _ HLN.out) ?_; rw [HC.out.2.2.2]))
  refine (HSE.out Ap Am np cp nm cm pl more hnp hcp hnm hcm h1 h2 _ (HM.out.arg hrp) (HM.out.arg hrm)).mono ?_
  rintro e w5 ⟨A5, c5, rfl, ho, hb⟩
  have HF := Lib.hid (And.intro (own_base ho HM.out.size) (HM.out.below hb).bel)
  clear ho hb HM
  go_wp2
  go_ret
  exact ⟨_, _, rfl, HF.out.1, HF.out.2⟩

set_option maxRecDepth 100000 in
set_option maxHeartbeats 4000000 in
theorem xopenC : XOpenC := by
  intro k n hk hn As Am ns cs0 nm cm sl more hns hcs hnm hcm h1 h2 w hrs hrm
  have SH := fun w' : World => xcDivide_any k n hk hn w'
  have SE := openC (longK k n) (longN n) (longK_length k n) (longN_length n hn)
  have HLN := Lib.hid (longN_length n hn)
  obtain ⟨ck, hck⟩ : ∃ ck, (k.map u8v).toArray = ck := ⟨_, rfl⟩
  obtain ⟨cn, hcn⟩ : ∃ c, (n.map u8v).toArray = c := ⟨_, rfl⟩
  obtain ⟨cd, hcd⟩ : ∃ c, ((longK k n).map u8v).toArray = c := ⟨_, rfl⟩
  obtain ⟨co, hco⟩ : ∃ c, ((longN n).map u8v).toArray = c := ⟨_, rfl⟩
  rw [hck, hcn, hcd, hco] at SH
  rw [hcd, hco] at SE
  rw [hck, hcn]
  have HM := Lib.hid (show Mem w [blkE (w.heap.size + 1) 52 (n.map u8v), blkE w.heap.size 23 (k.map u8v)] ((w.alloc (.cells ck 23)).alloc (.cells cn 52)) from ((Mem.nil w).alloc rfl 23 ck (k.map u8v) hck.symm).alloc (by simp) 52 cn (n.map u8v) hcn.symm)
  have HC := Lib.hid (And.intro hck (And.intro hcn (And.intro hcd hco)))
  have HL := Lib.hid (And.intro hk hn)
  have HSH := Lib.hid SH
  have HSE := Lib.hid SE
  clear hck hcn hcd hco hk hn SH SE
  have HX := Lib.hid (show openL (longK k n) (longN n) sl more = xopenL k n sl more from rfl)
  go_enter Tryd.func48, Tryd.ntmps48
  go_upto_region 1 with fail
  generalize ((w.alloc (.cells ck 23)).alloc (.cells cn 52)) = w1 at HM ⊢
  go_wp2_with (first | (refine wpList_load_blk rfl 23 (.tmp 4) rfl w.heap.size rfl 23 (k.map u8v) (HM.out.blk 1 rfl) 32 5 Tryd.underlying23 (cells32 k HL.out.1) ?_; rw [HC.out.1]) | (refine wpList_load_blk rfl 52 (.tmp 5) rfl (w.heap.size + 1) rfl 52 (n.map u8v) (HM.out.blk 0 rfl) 24 5 Tryd.underlying52 (xc_cellsL n HL.out.2) ?_; rw [HC.out.2.1]))
  refine (HSH.out _).mono ?_
  rintro e w2 ⟨rfl, hb⟩
  replace HM := Lib.hid (show Mem w [blkE (w.heap.size + 1) 52 (n.map u8v), blkE w.heap.size 23 (k.map u8v)] w2 from HM.out.below hb)
  clear hb
  have HA := Lib.hid (show Mem w [blkE (w2.heap.size + 1) 102 (aeZ 12), blkE w2.heap.size 23 (aeZ 32), blkE (w.heap.size + 1) 52 (n.map u8v), blkE w.heap.size 23 (k.map u8v)] ((w2.alloc (.cells #[.int .u8 0, .int .u8 0, .int .u8 0, .int .u8 0, .int .u8 0, .int .u8 0, .int .u8 0, .int .u8 0, .int .u8 0, .int .u8 0, .int .u8 0, .int .u8 0, .int .u8 0, .int .u8 0, .int .u8 0, .int .u8 0, .int .u8 0, .int .u8 0, .int .u8 0, .int .u8 0, .int .u8 0, .int .u8 0, .int .u8 0, .int .u8 0, .int .u8 0, .int .u8 0, .int .u8 0, .int .u8 0, .int .u8 0, .int .u8 0, .int .u8 0, .int .u8 0] 23)).alloc (.cells #[.int .u8 0, .int .u8 0, .int .u8 0, .int .u8 0, .int .u8 0, .int .u8 0, .int .u8 0, .int .u8 0, .int .u8 0, .int .u8 0, .int .u8 0, .int .u8 0] 102)) from (HM.out.alloc rfl 23 #[.int .u8 0, .int .u8 0, .int .u8 0, .int .u8 0, .int .u8 0, .int .u8 0, .int .u8 0, .int .u8 0, .int .u8 0, .int .u8 0, .int .u8 0, .int .u8 0, .int .u8 0, .int .u8 0, .int .u8 0, .int .u8 0, .int .u8 0, .int .u8 0, .int .u8 0, .int .u8 0, .int .u8 0, .int .u8 0, .int .u8 0, .int .u8 0, .int .u8 0, .int .u8 0, .int .u8 0, .int .u8 0, .int .u8 0, .int .u8 0, .int .u8 0, .int .u8 0] (aeZ 32) rfl).alloc (by simp) 102 #[.int .u8 0, .int .u8 0, .int .u8 0, .int .u8 0, .int .u8 0, .int .u8 0, .int .u8 0, .int .u8 0, .int .u8 0, .int .u8 0, .int .u8 0, .int .u8 0] (aeZ 12) rfl)
  go_upto_region 2 with (first | (refine wpList_store_blk rfl 23 (.tmp 10) (.tmp 16) rfl w2.heap.size ((longK k n).map u8v) rfl (by show Value.agg cd = _; rw [HC.out.2.2.1]) 23 (aeZ 32) (HA.out.blk 1 rfl) (cells32 _ (longK_length k n)) (by rw [List.length_map, longK_length]; rfl) (u8v_one _) ?_; intro w3 hb3 hg3) | (refine wpList_store_blk rfl 102 (.tmp 11) (.tmp 17) rfl (w2.heap.size + 1) ((longN n).map u8v) rfl (by show Value.agg co = _; rw [HC.out.2.2.2]) 102 (aeZ 12) ((HA.out.put 1 rfl ((longK k n).map u8v) hg3 hb3).blk 0 rfl) (ae_cellsN _ HLN.out) (by rw [List.length_map, HLN.out]; rfl) (u8v_one _) ?_; intro w4 hb4 hg4))
  (try simp only [Act.put])
  replace HM := Lib.hid (show Mem w [blkE (w2.heap.size + 1) 102 ((longN n).map u8v), blkE w2.heap.size 23 ((longK k n).map u8v), blkE (w.heap.size + 1) 52 (n.map u8v), blkE w.heap.size 23 (k.map u8v)] w4 from (HA.out.put 1 rfl ((longK k n).map u8v) hg3 hb3).put 0 rfl ((longN n).map u8v) hg4 hb4)
  clear hb3 hg3 hb4 hg4 HA
  generalize w2.heap.size = P at HM ⊢
  go_wp2_with (first | (refine wpList_load_blk rfl 23 (.tmp 10) rfl P rfl 23 ((longK k n).map u8v) (HM.out.blk 1 rfl) 32 5 Tryd.underlying23 (cells32 _ (longK_length k n)) ?_; rw [HC.out.2.2.1]) | (refine wpList_load_blk rfl 102 (.tmp 11) rfl (P + 1) rfl 102 ((longN n).map u8v) (HM.out.blk 0 rfl) 12 5 Tryd.underlying102 (ae_cellsN _ HLN.out) ?_; rw [HC.out.2.2.2]))
  refine (HSE.out As Am ns cs0 nm cm sl more hns hcs hnm hcm h1 h2 _ (HM.out.arg hrs) (HM.out.arg hrm)).mono ?_
  rintro e w5 ⟨A5, c5, rfl, ho, hl1, hl2, hb⟩
  rw [HX.out] at ho hl1 ⊢
  have HF := Lib.hid (And.intro ho (And.intro hl1 (And.intro hl2 (HM.out.below hb).bel)))
  clear ho hb HM hl1 hl2
  go_wp2
  exact bodyPost_ret (results_tmp2 rfl _ _ _) rfl ⟨_, _, rfl, HF.out.1, HF.out.2.1, HF.out.2.2.1, HF.out.2.2.2⟩
end Go.Proofs.YtlddafkikkaonaaDoor
namespace Go.Proofs.YtlddafkikkaonaaDoor
open Go.RowKit

/-- a slice that is long enough as an array -/
theorem run_arrayAt_off {P : Program} (w : World) (ty : TypeId) (g off n c k : Nat) (e : TypeId) (hu : P.underlying ty = some (.array k e)) (h : k ≤ n) :
    (Instr.arrayAt ty (.slice (some ⟨g, off, none⟩) n c)).run P w = .ok (.pointer (some ⟨g, off, none⟩)) w := by
  unfold Instr.arrayAt
  rw [Sem.run_bind, run_underlying hu w]
  simp [Nat.not_lt.2 h]
theorem Rd.at_obj {w : World} {B n b off : Nat} {l : List UInt8} (h : Rd w B (some ⟨b, off, none⟩) n l) (i k : Nat) : At w b (off + i) (((l.drop i).take k).map u8v) := by
  intro j v hv
  have hj : j < ((l.drop i).take k).length := by
    have := (List.getElem?_eq_some_iff.1 hv).1
    simpa using this
  have hj2 : j < k ∧ i + j < l.length := by
    rw [List.length_take, List.length_drop] at hj
    omega
  have hb := h.byt (i + j) (by rw [← h.1]; omega)
  rw [Nat.add_assoc, hb]
  rw [List.getElem?_map, List.getElem?_eq_getElem hj] at hv
  simp only [Option.map_some, Option.some.injEq] at hv
  rw [← hv, List.getElem_take, List.getElem_drop, List.getD_eq_getElem?_getD, List.getElem?_eq_getElem hj2.2]
  rfl
theorem cut_drop (l : List UInt8) (a z : Nat) : (l.drop a).take z ++ l.drop (a + z) = l.drop a := by
  rw [← List.drop_drop]
  exact List.take_append_drop _ _
end Go.Proofs.YtlddafkikkaonaaDoor
namespace Go.Proofs.YtlddafkikkaonaaDoor
open Go.RowKit

set_option maxRecDepth 100000 in
theorem built_ms3 (v : Nat) (f0 f1 : List UInt8) (h0 : f0.length = 24) (h1 : f1.length = 32) : Tryd.prog.built 83 [(0, .int .u32 (v : Int)), (1, .agg (f0.map u8v).toArray), (2, .agg (f1.map u8v).toArray)] = some (MsgM.mk [v] (f0 ++ f1)).cells.toArray := by
  rw [built_of 83 [1, 24, 32] [[.int .u32 0], (List.replicate 24 (0 : UInt8)).map u8v, (List.replicate 32 (0 : UInt8)).map u8v] (by kernel_rfl) #[(0, 1), (1, 24), (25, 32)] (fun parts => by kernel_rfl) (fun i h => by
    match i, h with
    | 0, _ => rfl
    | 1, _ => rfl
    | 2, _ => rfl) _ (fun p hp => by
    simp only [List.mem_cons, List.not_mem_nil, or_false] at hp
    rcases hp with rfl | rfl | rfl
    · rfl
    · simp [Value.cells, h0]
    · simp [Value.cells, h1])]
  simp [MsgM.cells, Value.cells, u32c]
theorem parts_ms3 (l : List UInt8) (h : l.length = 64) : (l.drop 8).take 24 ++ (l.drop 32).take 32 = l.drop 8 := by
  rw [show (l.drop 32).take 32 = l.drop 32 from List.take_of_length_le (by rw [List.length_drop, h]; decide)]
  try simp only [List.append_assoc]
  rw [show l.drop 32 = l.drop (8 + 24) from rfl, cut_drop]
end Go.Proofs.YtlddafkikkaonaaDoor
namespace Go.Proofs.YtlddafkikkaonaaDoor
open Go.RowKit

theorem Rd.at_all {w : World} {B n b off : Nat} {l : List UInt8} (h : Rd w B (some ⟨b, off, none⟩) n l) : At w b off (l.map u8v) := by
  have h2 := h.at_obj 0 n
  rwa [List.drop_zero, List.take_of_length_le (by rw [h.1]; exact Nat.le_refl _), Nat.add_zero] at h2
set_option maxRecDepth 100000 in
set_option maxHeartbeats 8000000 in
theorem mcReplyC : McReplyC 22 := by
  intro p nn ck mac hp hn hck hmac r hr w hlv
  have HLV := Lib.hid hlv
  have HP := Lib.hid hp
  have HN := Lib.hid hn
  have HK := Lib.hid hck
  have HMC := Lib.hid hmac
  have hok := replyM_ok (p := p) (mac := mac) hn hck hr
  have hM2 : replyM p nn ck mac r = MsgM.mk [r] (nn ++ xsealL (hideB p) nn ck mac) := rfl
  have hsl : (xsealL (hideB p) nn ck mac).length = 32 := by rw [xsealL_length, hck]
  have hhd := fun (W : World) (hl : LvBlake W) => (show Calls Tryd.prog 36 #[.string ⟨#[99, 111, 111, 107, 105, 101, 45, 45]⟩, .agg (p.map u8v).toArray] W (fun e w' => e = .returned (.agg ((hideB p).map u8v).toArray) ∧ Below W.heap.size W w') from derive_any ⟨#[99, 111, 111, 107, 105, 101, 45, 45]⟩ cookK rfl rfl p hp W hl)
  have hxs := fun (gc gm : Nat) (W : World) (h1 : Rd W W.heap.size (some ⟨gc, 0, none⟩) 16 ck) (h2 : Rd W W.heap.size (some ⟨gm, 0, none⟩) 16 mac) => (show Calls Tryd.prog 49 #[.agg ((hideB p).map u8v).toArray, .agg (nn.map u8v).toArray, .slice (some ⟨gc, 0, none⟩) 16 16, .slice (some ⟨gm, 0, none⟩) 16 16] W (fun e w' => ∃ A c', e = .returned (.slice A 32 c') ∧ w'.ownsRow W.heap.size 5 1 (.slice A 32 c') 32 ((xsealL (hideB p) nn ck mac).map u8v) ∧ Below W.heap.size W w') from xsealC (hideB p) nn (hideB_length p) hn (some ⟨gc, 0, none⟩) (some ⟨gm, 0, none⟩) 16 16 16 16 ck mac (by omega) (by decide) (by omega) (by decide) (by omega) (by omega) W h1 h2)
  have hen := msEncN3 _ hok
  rw [hM2] at hen hok ⊢
  generalize xsealL (hideB p) nn ck mac = sl at hxs hen hsl hok ⊢
  generalize hideB p = hk at hhd hxs
  have HSLN := Lib.hid hsl
  have hbt := built_ms3 r nn sl hn hsl
  obtain ⟨cp, hcp⟩ : ∃ z, (p.map u8v).toArray = z := ⟨_, rfl⟩
  obtain ⟨cn, hcn⟩ : ∃ z, (nn.map u8v).toArray = z := ⟨_, rfl⟩
  obtain ⟨cc, hcc⟩ : ∃ z, (ck.map u8v).toArray = z := ⟨_, rfl⟩
  obtain ⟨cm, hcm⟩ : ∃ z, (mac.map u8v).toArray = z := ⟨_, rfl⟩
  obtain ⟨chk, hchk⟩ : ∃ z, (hk.map u8v).toArray = z := ⟨_, rfl⟩
  obtain ⟨cs5, hcs5⟩ : ∃ z, (sl.map u8v).toArray = z := ⟨_, rfl⟩
  obtain ⟨cM2, hcM2⟩ : ∃ z, (MsgM.mk [r] (nn ++ sl)).cells.toArray = z := ⟨_, rfl⟩
  rw [hcn, hcs5, hcM2] at hbt
  rw [hcM2] at hen
  rw [hcp, hchk] at hhd
  rw [hchk, hcn] at hxs
  have HBT := Lib.hid hbt
  have HEN := Lib.hid hen
  have HHD := Lib.hid hhd
  have HXS := Lib.hid hxs
  have HCS := Lib.hid hcs5
  have HCP := Lib.hid hcp
  have HCN := Lib.hid hcn
  rw [hcp, hcn, hcc, hcm]
  have HM := Lib.hid (show Mem w [blkE (w.heap.size + 1 + 1 + 1) 30 (mac.map u8v), blkE (w.heap.size + 1 + 1) 30 (ck.map u8v), blkE (w.heap.size + 1) 52 (nn.map u8v), blkE w.heap.size 23 (p.map u8v)] ((((w.alloc (.cells cp 23)).alloc (.cells cn 52)).alloc (.cells cc 30)).alloc (.cells cm 30)) from (((((Mem.nil w).alloc rfl 23 cp (p.map u8v) hcp.symm).alloc (by simp) 52 cn (nn.map u8v) hcn.symm).alloc (by simp) 30 cc (ck.map u8v) hcc.symm).alloc (by simp) 30 cm (mac.map u8v) hcm.symm))
  clear hcp hcn hcc hcm hchk hcs5 hcM2 hbt hen hhd hxs hsl hok hM2 hp hn hck hmac hr hlv
  go_enter Tryd.func22, Tryd.ntmps22
  go_upto_region 1 with fail
  generalize ((((w.alloc (.cells cp 23)).alloc (.cells cn 52)).alloc (.cells cc 30)).alloc (.cells cm 30)) = w1 at HM ⊢
  refine wp_region_held_drew (S := fun W' => Mem w [blkE (w.heap.size + 1 + 1 + 1) 30 (mac.map u8v), blkE (w.heap.size + 1 + 1) 30 (ck.map u8v), blkE (w.heap.size + 1) 52 (nn.map u8v), blkE w.heap.size 23 (p.map u8v)] W') (by kernel_rfl) ((HM.out).drew) (fun hHeld => ?_)
  replace HM := Lib.hid HM.out.drew
  generalize w1.drew = wd1 at HM hHeld ⊢
  refine take_first (v := .agg cp) 0 rfl (by kernel_rfl) (by kernel_rfl) (by kernel_rfl) (fun _ _ _ h => h) (by rw [← HCP.out]; exact yields_load_obj (by rfl) 23 (.tmp 5) rfl w.heap.size 0 rfl (p.map u8v) (fun w' hb => (Mem.blk hb 3 rfl).all) _ Tryd.underlying23 rfl (cells32 p HP.out)) (by assumption) ?_
  (try simp only [Act.put, List.setIfInBounds_toArray, List.set_cons_zero, List.set_cons_succ])
  refine take_first (v := .agg cn) 2 rfl (by kernel_rfl) (by kernel_rfl) (by kernel_rfl) (fun _ _ _ h => h) (by rw [← HCN.out]; exact yields_load_obj (by rfl) 52 (.tmp 6) rfl (w.heap.size + 1) 0 rfl (nn.map u8v) (fun w' hb => (Mem.blk hb 2 rfl).all) _ Tryd.underlying52 rfl (xc_cellsL nn HN.out)) (by assumption) ?_
  (try simp only [Act.put, List.setIfInBounds_toArray, List.set_cons_zero, List.set_cons_succ])
  refine take_first (v := ?_) 3 rfl (by kernel_rfl) (by kernel_rfl) (by kernel_rfl) (fun _ _ _ h => h) (Or.inl ⟨by rfl, ?_⟩) (by assumption) ?_
  rotate_left
  · (intro w hSw; (try dsimp only at hSw); go_simp; try with_reducible rfl)
  (try simp only [Act.put, List.setIfInBounds_toArray, List.set_cons_zero, List.set_cons_succ])
  refine take_first (v := ?_) 4 rfl (by kernel_rfl) (by kernel_rfl) (by kernel_rfl) (fun _ _ _ h => h) (Or.inl ⟨by rfl, ?_⟩) (by assumption) ?_
  rotate_left
  · (intro w hSw; (try dsimp only at hSw); go_simp; try with_reducible rfl)
  (try simp only [Act.put, List.setIfInBounds_toArray, List.set_cons_zero, List.set_cons_succ])
  refine step_one 1 rfl (by kernel_rfl) (fun K hK => ?_)
  clear hHeld
  go_simp
  refine (HHD.out _ (HLV.out.below HM.out.bel)).mono ?_
  rintro e wy2 ⟨rfl, hb⟩
  replace HM := Lib.hid (show Mem w [blkE (w.heap.size + 1 + 1 + 1) 30 (mac.map u8v), blkE (w.heap.size + 1 + 1) 30 (ck.map u8v), blkE (w.heap.size + 1) 52 (nn.map u8v), blkE w.heap.size 23 (p.map u8v)] wy2 from HM.out.below hb)
  clear hb
  go_wp2_with fail
  refine hK.out _ _ (HM.out) (fun hHeld => ?_)
  clear hK K
  (try simp only [Act.put, List.setIfInBounds_toArray, List.set_cons_zero, List.set_cons_succ])
  refine step_one 5 rfl (by kernel_rfl) (fun K hK => ?_)
  clear hHeld
  go_simp
  refine (HXS.out (w.heap.size + 1 + 1) (w.heap.size + 1 + 1 + 1) _ (blk_all (HM.out.blk 1 rfl) HK.out) (blk_all (HM.out.blk 0 rfl) HMC.out)).mono ?_
  rintro e wy3 ⟨A5, c5, rfl, ho, hb⟩
  obtain ⟨g5, rfl⟩ := (own_addr ho).2.2 (by omega)
  replace HM := Lib.hid (show Mem w [rdE wy2.heap.size wy3.heap.size (some ⟨g5, 0, none⟩) 32 sl, blkE (w.heap.size + 1 + 1 + 1) 30 (mac.map u8v), blkE (w.heap.size + 1 + 1) 30 (ck.map u8v), blkE (w.heap.size + 1) 52 (nn.map u8v), blkE w.heap.size 23 (p.map u8v)] wy3 from HM.out.callRd hb ho)
  clear hb ho
  go_wp2_with fail
  refine hK.out _ _ ((HM.out.erase 0)) (fun hHeld => ?_)
  clear hK K
  (try simp only [Act.put, List.setIfInBounds_toArray, List.set_cons_zero, List.set_cons_succ])
  refine wpAnyH_stronger (T := fun W' => Mem w [rdE wy2.heap.size wy3.heap.size (some ⟨g5, 0, none⟩) 32 sl, blkE (w.heap.size + 1 + 1 + 1) 30 (mac.map u8v), blkE (w.heap.size + 1 + 1) 30 (ck.map u8v), blkE (w.heap.size + 1) 52 (nn.map u8v), blkE w.heap.size 23 (p.map u8v)] W') (fun _ h' => h'.erase 0) _ _ _ _ ?_
  replace hHeld := HM.out
  refine take_first (v := ?_) 6 rfl (by kernel_rfl) (by kernel_rfl) (by kernel_rfl) (fun _ _ _ h => h) (Or.inl ⟨by rfl, ?_⟩) (by assumption) ?_
  rotate_left
  · (intro w hSw; (try dsimp only at hSw); go_simp; try with_reducible rfl)
  (try simp only [Act.put, List.setIfInBounds_toArray, List.set_cons_zero, List.set_cons_succ])
  refine wpAnyH_done (by kernel_rfl) ?_ _
  clear hHeld
  go_upto_region 2 with fail
  refine wp_region_held_drew (S := fun W' => Mem w [rdE wy2.heap.size wy3.heap.size (some ⟨g5, 0, none⟩) 32 sl, blkE (w.heap.size + 1 + 1 + 1) 30 (mac.map u8v), blkE (w.heap.size + 1 + 1) 30 (ck.map u8v), blkE (w.heap.size + 1) 52 (nn.map u8v), blkE w.heap.size 23 (p.map u8v)] W') (by kernel_rfl) ((HM.out).drew) (fun hHeld => ?_)
  replace HM := Lib.hid HM.out.drew
  generalize wy3.drew = wd51 at HM hHeld ⊢
  refine take_first (v := ?_) 0 rfl (by kernel_rfl) (by kernel_rfl) (by kernel_rfl) (fun _ _ _ h => h) (Or.inl ⟨by rfl, ?_⟩) (by assumption) ?_
  rotate_left
  · (intro w hSw; (try dsimp only at hSw); go_simp; try with_reducible rfl)
  (try simp only [Act.put, List.setIfInBounds_toArray, List.set_cons_zero, List.set_cons_succ])
  refine take_first (v := .agg cn) 1 rfl (by kernel_rfl) (by kernel_rfl) (by kernel_rfl) (fun _ _ _ h => h) (by rw [← HCN.out]; exact yields_load_obj (by rfl) 52 (.tmp 6) rfl (w.heap.size + 1) 0 rfl (nn.map u8v) (fun w' hb => (Mem.blk hb 3 rfl).all) _ Tryd.underlying52 rfl (xc_cellsL nn HN.out)) (by assumption) ?_
  (try simp only [Act.put, List.setIfInBounds_toArray, List.set_cons_zero, List.set_cons_succ])
  refine take_first (v := ?_) 2 rfl (by kernel_rfl) (by kernel_rfl) (by kernel_rfl) (fun _ _ _ h => h) (Or.inl ⟨by rfl, ?_⟩) (by assumption) ?_
  rotate_left
  · (intro w hSw; (try dsimp only at hSw); go_simp; try with_reducible rfl)
  (try simp only [Act.put, List.setIfInBounds_toArray, List.set_cons_zero, List.set_cons_succ])
  refine take_first (v := ?_) 3 rfl (by kernel_rfl) (by kernel_rfl) (by kernel_rfl) (fun _ _ _ h => h) (Or.inl ⟨by rfl, ?_⟩) (by assumption) ?_
  rotate_left
  · (intro w hSw; (try dsimp only at hSw); have ha := run_arrayAt_off (P := Tryd.prog) w 22 g5 0 32 c5 32 5 Tryd.underlying22 (Nat.le_refl _); go_simp; try with_reducible rfl)
  (try simp only [Act.put, List.setIfInBounds_toArray, List.set_cons_zero, List.set_cons_succ])
  refine take_first (v := .agg cs5) 4 rfl (by kernel_rfl) (by kernel_rfl) (by kernel_rfl) (fun _ _ _ h => h) (by rw [← HCS.out]; exact yields_load_obj (by rfl) 22 (.tmp 21) rfl g5 0 rfl (sl.map u8v) (fun w' hb => (Mem.rd hb 0 rfl).at_all) _ Tryd.underlying22 rfl (by rw [List.length_map, HSLN.out]; kernel_rfl)) (by assumption) ?_
  (try simp only [Act.put, List.setIfInBounds_toArray, List.set_cons_zero, List.set_cons_succ])
  refine take_first (v := .agg cM2) 5 rfl (by kernel_rfl) (by kernel_rfl) (by kernel_rfl) (fun _ _ _ h => h) (yields_build_obj (by rfl) 83 [(0, .tmp 18), (1, .tmp 19), (2, .tmp 22)] rfl cM2 HBT.out) (by assumption) ?_
  (try simp only [Act.put, List.setIfInBounds_toArray, List.set_cons_zero, List.set_cons_succ])
  refine step_one 6 rfl (by kernel_rfl) (fun K hK => ?_)
  clear hHeld
  go_simp
  refine (HEN.out _).mono ?_
  rintro e wy52 ⟨A9, c9, rfl, h1, h2, hr, hb⟩
  replace HM := Lib.hid (show Mem w [rdE wd51.heap.size wy52.heap.size A9 (msLen 3) (encB 3 (MsgM.mk [r] (nn ++ sl))), rdE wy2.heap.size wy3.heap.size (some ⟨g5, 0, none⟩) 32 sl, blkE (w.heap.size + 1 + 1 + 1) 30 (mac.map u8v), blkE (w.heap.size + 1 + 1) 30 (ck.map u8v), blkE (w.heap.size + 1) 52 (nn.map u8v), blkE w.heap.size 23 (p.map u8v)] wy52 from HM.out.call hb _ rfl rfl hr)
  have HR9 := Lib.hid (And.intro h1 h2)
  clear h1 h2 hr hb
  go_wp2_with fail
  refine hK.out _ _ ((HM.out.erase 0)) (fun hHeld => ?_)
  clear hK K
  (try simp only [Act.put, List.setIfInBounds_toArray, List.set_cons_zero, List.set_cons_succ])
  refine wpAnyH_stronger (T := fun W' => Mem w [rdE wd51.heap.size wy52.heap.size A9 (msLen 3) (encB 3 (MsgM.mk [r] (nn ++ sl))), rdE wy2.heap.size wy3.heap.size (some ⟨g5, 0, none⟩) 32 sl, blkE (w.heap.size + 1 + 1 + 1) 30 (mac.map u8v), blkE (w.heap.size + 1 + 1) 30 (ck.map u8v), blkE (w.heap.size + 1) 52 (nn.map u8v), blkE w.heap.size 23 (p.map u8v)] W') (fun _ h' => h'.erase 0) _ _ _ _ ?_
  replace hHeld := HM.out
  refine take_first (v := ?_) 7 rfl (by kernel_rfl) (by kernel_rfl) (by kernel_rfl) (fun _ _ _ h => h) (Or.inl ⟨by rfl, ?_⟩) (by assumption) ?_
  rotate_left
  · (intro w hSw; (try dsimp only at hSw); go_simp; try with_reducible rfl)
  (try simp only [Act.put, List.setIfInBounds_toArray, List.set_cons_zero, List.set_cons_succ])
  refine wpAnyH_done (by kernel_rfl) ?_ _
  clear hHeld
  go_wp2_with fail
  go_ret
  exact ⟨A9, c9, rfl, HR9.out.1, HR9.out.2, (HM.out.get 0 rfl).from_ (MemE.low HM.out.1 0 _ rfl), HM.out.bel⟩
end Go.Proofs.YtlddafkikkaonaaDoor
namespace Go.Proofs.YtlddafkikkaonaaDoor
open Go.RowKit

theorem Rd.kept {w w' : World} {B g n : Nat} {A : Option Addr} {l : List UInt8} (h : Rd w B A n l) (hB : B ≤ g) (hg : g < w.heap.size) (hb : w.grownBy w' (some g)) : Rd w' B A n l :=
  h.keep fun q hq => World.cell?_of_block (hb.block q.block (by omega) (fun e => by injection e with e; omega))
end Go.Proofs.YtlddafkikkaonaaDoor
namespace Go.Proofs.YtlddafkikkaonaaDoor
open Go.RowKit

theorem rd_of_at {W : World} {g off n : Nat} {l : List UInt8} (hg : g < W.heap.size) (h : At W g off (l.map u8v)) (hl : l.length = n) : Rd W W.heap.size (some ⟨g, off, none⟩) n l :=
  ⟨hl, fun _ => ⟨g, off, rfl, hg, fun j hj => h j _ (by rw [List.getElem?_map, List.getElem?_eq_getElem hj]; rfl)⟩⟩
theorem xopen_len (k n s more : List UInt8) (hs : s.length = 32) (h : (xopenL k n s more).2 = 0) : (xopenL k n s more).1.length = 16 := by
  have h2 := seal_open (longK k n) (longN n) s more h
  have h3 := sealL_length (longK k n) (longN n) (openL (longK k n) (longN n) s more).1 more
  rw [h2, hs] at h3
  show (openL (longK k n) (longN n) s more).1.length = 16
  omega
end Go.Proofs.YtlddafkikkaonaaDoor
