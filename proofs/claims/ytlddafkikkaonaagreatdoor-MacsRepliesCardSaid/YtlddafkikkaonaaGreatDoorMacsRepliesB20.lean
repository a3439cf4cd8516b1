/-
  The contract of aead.tagOf. A slice of bytes built of a long row of constants. What is asked of aead.Seal and Open. The contracts of aead.Seal and Open. The contracts of xchacha.divide, Seal and Open. The contract of the program's EncodeCookie. A part of a slice as an array. A cookie reply out of its parts. What is asked of Reply holds of the landed function. No statement is proved here.
-/
import Derived.RegionTactic
import Derived.BigRegion
import Derived.Deep.DeepCutAuto
import Derived.Lib.SlBytesConst
import Derived.Outline
import Derived.Test.YtlddafkikkaonaaGreatDoorMacsRepliesB19
namespace Go.Proofs.YtlddafkikkaonaaGreatDoor
open Go.RowKit
set_option maxRecDepth 100000 in
set_option maxHeartbeats 8000000 in
theorem tagOf_any (k nn : List UInt8) (hk : k.length = 32) (hn : nn.length = 12) (Ac Am : Option Addr) (nc cc nm cm : Nat) (c more : List UInt8) (hnc : nc ≤ 400000) (hnm : nm ≤ 400000) (w : World) (hrc : Rd w w.heap.size Ac nc c) (hrm : Rd w w.heap.size Am nm more) :
 Calls Tryz.prog 53 #[.agg (k.map u8v).toArray, .agg (nn.map u8v).toArray, .slice Ac nc cc, .slice Am nm cm] w fun e w' => e = .returned (.agg ((sealT k nn c more).map u8v).toArray) ∧ Below w.heap.size w w' := by
 have BC := block_any k nn hk hn 0
 rw [show ((0 : UInt32).toNat : Int) = 0 from rfl] at BC
 have PC := sumC (oneK k nn) (oneK_length k nn)
 obtain ⟨ck, hck⟩ : ∃ ck, (k.map u8v).toArray = ck := ⟨_, rfl⟩
 obtain ⟨cn, hcn⟩ : ∃ cn, (nn.map u8v).toArray = cn := ⟨_, rfl⟩
 obtain ⟨ok, hok⟩ : ∃ ok, ((oneK k nn).map u8v).toArray = ok := ⟨_, rfl⟩
 have hbl := blockL_len k 0 nn
 have hone : oneK k nn = (blockL k 0 nn).take 32 := rfl
 obtain ⟨bl, hble⟩ : ∃ bl, blockL k 0 nn = bl := ⟨_, rfl⟩
 rw [hble] at BC hbl hone
 obtain ⟨cb, hcb⟩ : ∃ cb, (bl.map u8v).toArray = cb := ⟨_, rfl⟩
 rw [hck, hcn, hcb] at BC
 rw [hok] at PC
 rw [hck, hcn]
 have h0 : Blk ((((w.alloc (.cells ck 23)).alloc (.cells cn 57)).alloc (.cells (aeZ 16).toArray 27)).alloc (.cells (aeZ 32).toArray 23)) w.heap.size 23 (k.map u8v) := by rw [← hck]; exact (((Blk.new w _ _).alloc _).alloc _).alloc _
 have h1 : Blk ((((w.alloc (.cells ck 23)).alloc (.cells cn 57)).alloc (.cells (aeZ 16).toArray 27)).alloc (.cells (aeZ 32).toArray 23)) (w.heap.size + 1) 57 (nn.map u8v) := by rw [← hcn]; exact ((Blk.new' (w.alloc (.cells ck 23)) (by simp) _ _).alloc _).alloc _
 have h2 : Blk ((((w.alloc (.cells ck 23)).alloc (.cells cn 57)).alloc (.cells (aeZ 16).toArray 27)).alloc (.cells (aeZ 32).toArray 23)) (w.heap.size + 2) 27 (aeZ 16) := (Blk.new' _ (by simp) _ _).alloc _
 have h4 : Blk ((((w.alloc (.cells ck 23)).alloc (.cells cn 57)).alloc (.cells (aeZ 16).toArray 27)).alloc (.cells (aeZ 32).toArray 23)) (w.heap.size + 3) 23 (aeZ 32) := Blk.new' _ (by simp) _ _
 have h3 : Below w.heap.size w ((((w.alloc (.cells ck 23)).alloc (.cells cn 57)).alloc (.cells (aeZ 16).toArray 27)).alloc (.cells (aeZ 32).toArray 23)) := ((((Below.refl _ _).alloc (Nat.le_refl _) _).alloc (by simp) _).alloc (by simp; omega) _).alloc (by simp; omega) _
 rw [aeZ16, aeZ32] at h0 h1 h2 h3 h4
 obtain ⟨MM, hMM⟩ : ∃ MM, (macL more c).length = MM := ⟨_, rfl⟩
 have HMM := Lib.hid hMM
 clear hMM
 obtain ⟨st, hst⟩ : ∃ st, sealT k nn c more = st := ⟨_, rfl⟩
 have hstl : st.length = 16 := by rw [← hst]; exact sealT_length _ _ _ _
 obtain ⟨cs, hcs⟩ : ∃ cs, (st.map u8v).toArray = cs := ⟨_, rfl⟩
 have HST := Lib.hid (And.intro hstl (And.intro hcs hst))
 clear hst hcs hstl
 have HRC := Lib.hid hrc
 have HRM := Lib.hid hrm
 have HC := Lib.hid (And.intro hck (And.intro hcn hcb))
 have HOK := Lib.hid hok
 have HL := Lib.hid (And.intro hk (And.intro hn (And.intro hbl hone)))
 have HBC2 := Lib.hid BC
 have HPC2 := Lib.hid PC
 clear hck hcn hcb hok hk hn hbl hone BC PC hrc hrm hble
 go_enter Tryz.func53, Tryz.ntmps53
 go_upto_region 2 with fail
 generalize ((((w.alloc (.cells ck 23)).alloc (.cells cn 57)).alloc (.cells zb16 27)).alloc (.cells zb32 23)) = w1 at h0 h1 h2 h3 h4 ⊢
 rw [show w.heap.size + 1 + 1 = w.heap.size + 2 from rfl, show w.heap.size + 2 + 1 = w.heap.size + 3 from rfl]
 have H1 := Lib.hid (And.intro h0 (And.intro h1 (And.intro h2 (And.intro h4 h3))))
 clear h0 h1 h2 h3 h4
 go_wp2_with (first | (refine wpList_load_blk rfl 23 (.tmp 4) rfl w.heap.size rfl 23 (k.map u8v) H1.out.1 32 5 Tryz.underlying23 (cells32 k HL.out.1) ?_; rw [HC.out.1]) | (refine wpList_load_blk rfl 57 (.tmp 5) rfl (w.heap.size + 1) rfl 57 (nn.map u8v) H1.out.2.1 12 5 Tryz.underlying57 (ae_cellsN nn HL.out.2.1) ?_; rw [HC.out.2.1]))
 refine (HBC2.out _).mono ?_
 rintro e w2 ⟨rfl, hb2⟩
 have H2 := Lib.hid (And.intro (H1.out.2.2.1.below hb2 H1.out.2.2.1.lt) (And.intro (H1.out.2.2.2.1.below hb2 H1.out.2.2.2.1.lt) (H1.out.2.2.2.2.trans (hb2.mono H1.out.2.2.2.2.size))))
 clear hb2 H1
 go_upto_region 3 with (refine wpList_store_blk rfl 89 (.tmp 10) (.tmp 13) rfl w2.heap.size (bl.map u8v) rfl (by show Value.agg cb = _; rw [HC.out.2.2]) 89 (aeZ 64) (Blk.new w2 89 (aeZ 64)) (ae_cells64 bl HL.out.2.2.1) (by rw [List.length_map, HL.out.2.2.1]; rfl) (u8v_one _) ?_; intro w3 hb3 hg3)
 simp only [Act.put]
 have H3 := Lib.hid (show Blk w3 w2.heap.size 89 (bl.map u8v) ∧ Blk w3 (w.heap.size + 2) 27 (aeZ 16) ∧ Blk w3 (w.heap.size + 3) 23 (aeZ 32) ∧ Below w.heap.size w w3 from ⟨hb3, (H2.out.1.alloc _).grown hg3 (by have := H2.out.1.lt; simp; omega), (H2.out.2.1.alloc _).grown hg3 (by have := H2.out.2.1.lt; simp; omega), below_blk (H2.out.2.2.alloc H2.out.2.2.size _) hg3 H2.out.2.2.size⟩)
 clear hb3 hg3 H2
 generalize w2.heap.size = P at H3 ⊢
 have HSRC := Lib.hid (show ∀ j v, ((oneK k nn).map u8v)[j]? = some v → w3.drew.cell? ((Addr.mk P 0 none).add j) = some v by
  have h := (H3.out.1.drew.rd 0 32 (by rw [HL.out.2.2.1]; omega)).src
  rw [List.drop_zero, ← HL.out.2.2.2] at h
  exact h)
 refine wp_region_held_drew (S := fun _ => True) (by kernel_rfl) (trivial) (fun hHeld => ?_)
 refine tf (v := ?_) 0 rfl (Or.inl ⟨by rfl, ?_⟩) ?_
 rotate_left
 · (intro w hSw; (try dsimp only at hSw); go_simp; try with_reducible rfl)
 (try simp only [Act.put, sA, s0, s1])
 refine tf (v := ?_) 1 rfl (Or.inl ⟨by rfl, ?_⟩) ?_
 rotate_left
 · (intro w hSw; (try dsimp only at hSw); go_simp; try with_reducible rfl)
 (try simp only [Act.put, sA, s0, s1])
 refine so 2 rfl fun K hK => ?_
 refine step_copy_bytes _ rfl (.tmp 14) (.tmp 15) 29 29 (by rfl) 5 Tryz.underlying29 (by kernel_rfl) (w.heap.size + 3) 0 32 32 ⟨P, 0, none⟩ 64 64 (by rfl) (by rfl) (aeZ 32) 23 H3.out.2.2.1.drew ((oneK k nn).map u8v) (by rw [List.length_map, oneK_length]; rfl) HSRC.out (by rw [List.length_map, oneK_length]; decide) (u8v_one _) ?_
 intro w6 hb6 hg6
 refine hK.out _ _ (trivial) (fun hHeld => ?_)
 clear hK K
 (try simp only [Act.put, sA, s0, s1])
 refine wpAnyH_done (by kernel_rfl) ?_ _
 have hone6 : (aeZ 32).take 0 ++ (oneK k nn).map u8v ++ (aeZ 32).drop (0 + ((oneK k nn).map u8v).length) = (oneK k nn).map u8v := by
  rw [List.take_zero, List.nil_append, List.length_map, oneK_length, List.drop_of_length_le (by simp [aeZ]), List.append_nil]
 rw [hone6] at hb6
 have HB := Lib.hid (show Blk w6 (w.heap.size + 3) 23 ((oneK k nn).map u8v) ∧ Blk w6 (w.heap.size + 2) 27 (aeZ 16) ∧ Below w.heap.size w w6 from ⟨hb6, H3.out.2.1.drew.grown hg6 (by simp), below_blk H3.out.2.2.2.drew hg6 (by omega)⟩)
 clear hb6 hg6 hone6 H3 HSRC hHeld
 replace HRC := Lib.hid ((HRC.out.below HB.out.2.2).mono HB.out.2.2.size)
 replace HRM := Lib.hid ((HRM.out.below HB.out.2.2).mono HB.out.2.2.size)
 go_upto_region 4 with fail
 generalize hw7 : w6 = w7 at HB HRC HRM ⊢
 clear hw7
 refine wp_region_held_drew (S := fun w4 => Blk w4 (w.heap.size + 3) 23 ((oneK k nn).map u8v)) (by kernel_rfl) (HB.out.1.drew) (fun hHeld => ?_)
 replace HB := Lib.hid (show Blk w7.drew (w.heap.size + 3) 23 ((oneK k nn).map u8v) ∧ Blk w7.drew (w.heap.size + 2) 27 (aeZ 16) ∧ Below w.heap.size w w7.drew from ⟨HB.out.1.drew, HB.out.2.1.drew, HB.out.2.2.drew⟩)
 replace HRC := Lib.hid HRC.out.drew
 replace HRM := Lib.hid HRM.out.drew
 refine tf (v := .agg ok) 0 rfl (by rw [← HOK.out]; exact yields_load_blk (by rfl) 23 (.tmp 9) rfl (w.heap.size + 3) rfl 23 ((oneK k nn).map u8v) (fun w' hb => hb) 32 5 Tryz.underlying23 (cells32 _ (oneK_length k nn))) ?_
 (try simp only [Act.put, sA, s0, s1])
 refine tf (v := ?_) 1 rfl (Or.inl ⟨by rfl, ?_⟩) ?_
 rotate_left
 · (intro w hSw; (try dsimp only at hSw); go_simp; try with_reducible rfl)
 (try simp only [Act.put, sA, s0, s1])
 refine tf (v := ?_) 2 rfl (Or.inl ⟨by rfl, ?_⟩) ?_
 rotate_left
 · (intro w hSw; (try dsimp only at hSw); go_simp; try with_reducible rfl)
 (try simp only [Act.put, sA, s0, s1])
 refine so 3 rfl fun K hK => ?_
 go_simp
 refine (tagData_any Ac Am nc cc nm cm c more (by omega) (by omega) _ HRC.out HRM.out MM HMM.out).mono ?_
 rintro e wa ⟨F1, d1, rfl, hf, q1, q2, q3, hb⟩
 replace HB := Lib.hid (show Blk wa (w.heap.size + 3) 23 ((oneK k nn).map u8v) ∧ Blk wa (w.heap.size + 2) 27 (aeZ 16) ∧ Below w.heap.size w wa from ⟨HB.out.1.below hb HB.out.1.lt, HB.out.2.1.below hb HB.out.2.1.lt, HB.out.2.2.trans (hb.mono HB.out.2.2.size)⟩)
 have R1 := Lib.hid hf
 clear hf hb
 go_wp2_with fail
 refine hK.out _ _ (HB.out.1) (fun hHeld => ?_)
 clear hK K
 (try simp only [Act.put, sA, s0, s1])
 refine so 4 rfl fun K hK => ?_
 go_simp
 refine (HPC2.out F1 MM d1 _ q1 q2 q3 _ R1.out).mono ?_
 rintro e wb ⟨rfl, hb⟩
 replace HB := Lib.hid (show Blk wb (w.heap.size + 3) 23 ((oneK k nn).map u8v) ∧ Blk wb (w.heap.size + 2) 27 (aeZ 16) ∧ Below w.heap.size w wb from ⟨HB.out.1.below hb HB.out.1.lt, HB.out.2.1.below hb HB.out.2.1.lt, HB.out.2.2.trans (hb.mono HB.out.2.2.size)⟩)
 clear hb
 rw [show tagL (oneK k nn) (macL more c) = st from HST.out.2.2, HST.out.2.1]
 go_wp2_with fail
 refine hK.out _ _ (HB.out.1) (fun hHeld => ?_)
 clear hK K
 (try simp only [Act.put, sA, s0, s1])
 refine so 5 rfl fun K hK => ?_
 refine step_store_blk _ rfl 27 (.tmp 8) (.tmp 21) rfl (w.heap.size + 2) (st.map u8v) rfl (by show Value.agg cs = _; rw [HST.out.2.1]) 27 (aeZ 16) HB.out.2.1 (ae_cellsT st HST.out.1) (by rw [List.length_map, HST.out.1]; rfl) (u8v_one _) ?_
 intro w9 hb9 hg9
 have hq9 := HB.out.1.grown hg9 (by simp)
 have hl9 := below_blk HB.out.2.2 hg9 (by omega)
 refine hK.out _ _ hq9 (fun hHeld => ?_)
 clear hK K
 (try simp only [Act.put])
 refine wpAnyH_done (by kernel_rfl) ?_ _
 go_wp2_with fail
 exact bodyPost_ret (results_blk rfl _ _ (w.heap.size + 2) 27 (st.map u8v) 16 5 rfl hb9 Tryz.underlying27 (ae_cellsT st HST.out.1)) rfl ⟨by rw [HST.out.2.2], hl9⟩
/-- aead.Seal seals -/
def SealC : Prop := ∀ (k nn : List UInt8), k.length = 32 → nn.length = 12 → ∀ (Ap Am : Option Addr) (np cp nm cm : Nat) (pl more : List UInt8), np ≤ cp → cp ≤ maxLen → nm ≤ cm → cm ≤ maxLen → np ≤ 100000 → nm ≤ 100000 → ∀ w : World, Rd w w.heap.size Ap np pl → Rd w w.heap.size Am nm more →
 Calls Tryz.prog 28 #[.agg (k.map u8v).toArray, .agg (nn.map u8v).toArray, .slice Ap np cp, .slice Am nm cm] w fun e w' => ∃ A c', e = .returned (.slice A (np + 16) c') ∧ w'.ownsRow w.heap.size 5 1 (.slice A (np + 16) c') (np + 16) ((sealL k nn pl more).map u8v) ∧ Below w.heap.size w w'
/-- aead.Open opens, or gives the error -/
def OpenC : Prop := ∀ (k nn : List UInt8), k.length = 32 → nn.length = 12 → ∀ (As Am : Option Addr) (ns cs nm cm : Nat) (sl more : List UInt8), ns ≤ cs → cs ≤ maxLen → nm ≤ cm → cm ≤ maxLen → ns ≤ 100000 → nm ≤ 100000 → ∀ w : World, Rd w w.heap.size As ns sl → Rd w w.heap.size Am nm more →
 Calls Tryz.prog 35 #[.agg (k.map u8v).toArray, .agg (nn.map u8v).toArray, .slice As ns cs, .slice Am nm cm] w fun e w' => ∃ A c', e = .returned (.tuple #[.slice A (openL k nn sl more).1.length c', .int .i64 ((openL k nn sl more).2 : Int)]) ∧ Rd w' w'.heap.size A (openL k nn sl more).1.length (openL k nn sl more).1 ∧ (openL k nn sl more).1.length ≤ c' ∧ c' ≤ maxLen ∧ Below w.heap.size w w'
theorem coJoin_two (g : Nat) (t : TypeId) (A1 A2 : Option Addr) (n1 c1 n2 c2 : Nat) (l1 l2 : List UInt8) (M : Nat) (hM : n1 + n2 = M) (hn : M ≤ 1000000) (w : World) (hb : Blk w g t [.slice A1 n1 c1, .slice A2 n2 c2])
 (h1 : Rd w w.heap.size A1 n1 l1) (h2 : Rd w w.heap.size A2 n2 l2) :
 Calls Tryz.prog 30 #[.slice (some ⟨g, 0, none⟩) 2 2] w fun e w' => ∃ A' c', e = .returned (.slice A' M c') ∧ w'.ownsRow w.heap.size 5 1 (.slice A' M c') M ((l1 ++ l2).map u8v) ∧ Below w.heap.size w w' := by
 have hf : flat [⟨A1, n1, c1, l1⟩, ⟨A2, n2, c2, l2⟩] 2 = l1 ++ l2 := by simp [flat]
 have hl : (l1 ++ l2).length = M := by simp only [List.length_append]; rw [h1.1, h2.1, hM]
 have hJ := coJoin_any w.heap.size 2 (some ⟨g, 0, none⟩) [⟨A1, n1, c1, l1⟩, ⟨A2, n2, c2, l2⟩] (by simp) (by show (flat _ 2).length ≤ _; rw [hf, hl]; exact hn) w (Nat.le_refl _) (fun _ => ⟨g, rfl, hb.lt, fun j hj => by
  rw [hb.cell]
  match j, hj with
  | 0, _ => exact ⟨rfl, h1⟩
  | 1, _ => exact ⟨rfl, h2⟩
  | j + 2, hj => exact absurd hj (by simp)⟩)
 refine hJ.mono ?_
 rintro e w' ⟨A', c', he, ho, hbl⟩
 have e2 : ([⟨A1, n1, c1, l1⟩, ⟨A2, n2, c2, l2⟩] : List Part).length = 2 := rfl
 rw [e2, hf, hl] at he ho
 exact ⟨A', c', he, ho, hbl⟩
set_option maxRecDepth 100000 in
set_option maxHeartbeats 4000000 in
theorem sealC : SealC := by
 intro k nn hk hn Ap Am np cp nm cm pl more _ _ _ _ hnp hnm w hrp hrm
 have XC := fun (w' : World) (h : Rd w' w'.heap.size Ap np pl) => xor_any k nn hk hn 1 w'.heap.size Ap np cp pl (by omega) w' (Nat.le_refl _) h
 have TC := fun (A : Option Addr) (c' : Nat) => tagOf_any k nn hk hn A Am np c' nm cm (xorL k 1 nn pl) more (by omega) (by omega)
 rw [show ((1 : UInt32).toNat : Int) = 1 from rfl] at XC
 obtain ⟨ck, hck⟩ : ∃ ck, (k.map u8v).toArray = ck := ⟨_, rfl⟩
 obtain ⟨cn, hcn⟩ : ∃ cn, (nn.map u8v).toArray = cn := ⟨_, rfl⟩
 rw [hck, hcn] at XC TC
 rw [hck, hcn]
 have h0 : Blk ((w.alloc (.cells ck 23)).alloc (.cells cn 57)) w.heap.size 23 (k.map u8v) := by rw [← hck]; exact (Blk.new w _ _).alloc _
 have h1 : Blk ((w.alloc (.cells ck 23)).alloc (.cells cn 57)) (w.heap.size + 1) 57 (nn.map u8v) := by rw [← hcn]; exact Blk.new' (w.alloc (.cells ck 23)) (by simp) _ _
 have h3 : Below w.heap.size w ((w.alloc (.cells ck 23)).alloc (.cells cn 57)) := ((Below.refl _ _).alloc (Nat.le_refl _) _).alloc (by simp) _
 have hst := sealT_length k nn (xorL k 1 nn pl) more
 have hse : xorL k 1 nn pl ++ sealT k nn (xorL k 1 nn pl) more = sealL k nn pl more := rfl
 generalize sealL k nn pl more = se at hse
 generalize sealT k nn (xorL k 1 nn pl) more = st at TC hst hse
 generalize xorL k 1 nn pl = xl at XC TC hse
 obtain ⟨cs, hcs⟩ : ∃ cs, (st.map u8v).toArray = cs := ⟨_, rfl⟩
 rw [hcs] at TC
 have HP := Lib.hid (hrp.below h3)
 have HM := Lib.hid (hrm.below h3)
 have HC := Lib.hid (And.intro hck hcn)
 have HL := Lib.hid (And.intro hk hn)
 have HS := Lib.hid (And.intro hst (And.intro hcs hse))
 have HXC2 := Lib.hid XC
 have HTC2 := Lib.hid TC
 clear hck hcn hk hn hst hcs hse XC TC hrp hrm
 go_enter Tryz.func28, Tryz.ntmps28
 go_upto_region 1 with fail
 generalize ((w.alloc (.cells ck 23)).alloc (.cells cn 57)) = w1 at h0 h1 h3 HP HM ⊢
 have hw1 := h3.size
 have H1 := Lib.hid (show Blk w1 w.heap.size 23 (k.map u8v) ∧ Blk w1 (w.heap.size + 1) 57 (nn.map u8v) ∧ Below w.heap.size w w1 from ⟨h0, h1, h3⟩)
 clear h0 h1 h3
 replace HP := Lib.hid (HP.out.mono H1.out.2.2.size)
 replace HM := Lib.hid (HM.out.mono H1.out.2.2.size)
 go_wp2_with (first | (refine wpList_load_blk rfl 23 (.tmp 4) rfl w.heap.size rfl 23 (k.map u8v) H1.out.1 32 5 Tryz.underlying23 (cells32 k HL.out.1) ?_; rw [HC.out.1]) | (refine wpList_load_blk rfl 57 (.tmp 5) rfl (w.heap.size + 1) rfl 57 (nn.map u8v) H1.out.2.1 12 5 Tryz.underlying57 (ae_cellsN nn HL.out.2) ?_; rw [HC.out.2]))
 refine (HXC2.out _ HP.out).mono ?_
 rintro e w2 ⟨g1, rfl, ho, hb⟩
 replace H1 := Lib.hid (show Blk w2 w.heap.size 23 (k.map u8v) ∧ Blk w2 (w.heap.size + 1) 57 (nn.map u8v) ∧ Below w.heap.size w w2 from ⟨H1.out.1.below hb H1.out.1.lt, H1.out.2.1.below hb H1.out.2.1.lt, H1.out.2.2.trans (hb.mono H1.out.2.2.size)⟩)
 have HO := Lib.hid (Rd.of_own ho)
 replace HM := Lib.hid ((HM.out.below hb).mono hb.size)
 clear ho hb HP
 go_wp2_with (first | (refine wpList_load_blk rfl 23 (.tmp 4) rfl w.heap.size rfl 23 (k.map u8v) H1.out.1 32 5 Tryz.underlying23 (cells32 k HL.out.1) ?_; rw [HC.out.1]) | (refine wpList_load_blk rfl 57 (.tmp 5) rfl (w.heap.size + 1) rfl 57 (nn.map u8v) H1.out.2.1 12 5 Tryz.underlying57 (ae_cellsN nn HL.out.2) ?_; rw [HC.out.2]))
 refine (HTC2.out (some ⟨g1, 0, none⟩) np _ HO.out HM.out).mono ?_
 rintro e w3 ⟨rfl, hb⟩
 have HO3 := Lib.hid (And.intro ((HO.out.below hb).mono hb.size) (H1.out.2.2.trans (hb.mono H1.out.2.2.size)))
 clear hb HO H1 HM
 go_upto_region 3 with (refine wpList_store_blk rfl 27 (.tmp 10) (.tmp 19) rfl w3.heap.size (st.map u8v) rfl (by show Value.agg cs = _; rw [HS.out.2.1]) 27 (aeZ 16) (Blk.new w3 27 (aeZ 16)) (ae_cellsT st HS.out.1) (by rw [List.length_map, HS.out.1]; rfl) (u8v_one _) ?_; intro w4 hb4 hg4)
 simp only [Act.put]
 have hb34 : Below w3.heap.size w3 w4 := Below.grown ((Below.refl _ _).alloc (Nat.le_refl _) (.cells (aeZ 16).toArray 27)) hg4 (by simp) (by intro k hk; injection hk with hk; omega)
 have HO4 := Lib.hid (And.intro ((HO3.out.1.below hb34).mono hb34.size) (And.intro (HO3.out.2.trans (hb34.mono HO3.out.2.size)) (blk_all hb4 HS.out.1)))
 clear hb4 hg4 hb34 HO3
 generalize w3.heap.size = P at HO4 ⊢
 go_wp2_with fail
 have hg := Blk.new w4 29 [Value.slice (some ⟨g1, 0, none⟩) np np, .slice (some ⟨P, 0, none⟩) 16 16]
 have hb : Below w4.heap.size w4 (w4.alloc (.cells [Value.slice (some ⟨g1, 0, none⟩) np np, .slice (some ⟨P, 0, none⟩) 16 16].toArray 29)) := (Below.refl _ _).alloc (Nat.le_refl _) _
 rw [show [Value.slice (some ⟨g1, 0, none⟩) np np, .slice (some ⟨P, 0, none⟩) 16 16].toArray = #[Value.slice (some ⟨g1, 0, none⟩) np np, .slice (some ⟨P, 0, none⟩) 16 16] from rfl] at hg hb
 have H5 := Lib.hid (And.intro hg (And.intro ((HO4.out.1.below hb).mono hb.size) (And.intro ((HO4.out.2.2.below hb).mono hb.size) (HO4.out.2.1.trans (hb.mono HO4.out.2.1.size)))))
 clear hg hb HO4
 generalize w4.alloc (.cells #[Value.slice (some ⟨g1, 0, none⟩) np np, .slice (some ⟨P, 0, none⟩) 16 16] 29) = w5 at H5 ⊢
 generalize w4.heap.size = g5 at H5 ⊢
 refine (coJoin_two g5 29 _ _ np np 16 16 xl st (np + 16) rfl (by omega) _ H5.out.1 H5.out.2.1 H5.out.2.2.1).mono ?_
 rintro e w6 ⟨A6, c6, rfl, ho, hb⟩
 rw [HS.out.2.2] at ho
 have HF := Lib.hid (And.intro (own_base ho H5.out.2.2.2.size) (H5.out.2.2.2.trans (hb.mono H5.out.2.2.2.size)))
 clear ho hb H5
 go_wp2
 go_ret
 exact ⟨_, _, rfl, HF.out.1, HF.out.2⟩
set_option maxRecDepth 100000 in
set_option maxHeartbeats 4000000 in
theorem openC : OpenC := by
 intro k nn hk hn As Am ns cs0 nm cm sl more hnc _hcm _ _ hns hnm w hrs hrm
 have hsl : sl.length = ns := hrs.1
 by_cases h16 : ns < 16
 ·
  have ho : openL k nn sl more = ([], 2) := by rw [openL, if_pos (by omega)]
  rw [ho]
  have d16 : decide ((ns : Int) < 16) = true := by simp; omega
  have hB := Lib.hid (((Below.refl w.heap.size w).alloc (Nat.le_refl _) (.cells (k.map u8v).toArray 23)).alloc (by simp) (.cells (nn.map u8v).toArray 57))
  obtain ⟨ck, hck⟩ : ∃ ck, (k.map u8v).toArray = ck := ⟨_, rfl⟩
  obtain ⟨cn, hcn⟩ : ∃ cn, (nn.map u8v).toArray = cn := ⟨_, rfl⟩
  rw [hck, hcn] at hB
  rw [hck, hcn]
  clear hck hcn ho
  go_enter Tryz.func35, Tryz.ntmps35
  go_wp2_with fail
  exact bodyPost_ret (results_tmp2 rfl _ _ _) rfl ⟨_, 0, rfl, Rd.nil _ _ _, Nat.zero_le _, Nat.zero_le _, hB.out⟩
 ·
  obtain ⟨m, hm⟩ : ∃ m, ns - 16 = m := ⟨_, rfl⟩
  have d16 : decide ((ns : Int) < 16) = false := by simp; omega
  have hsb : (ns : Int) - 16 = (m : Int) := by omega
  have hsw : IntKind.i64.wrap ((ns : Int) - 16) = (m : Int) := by rw [hsb]; exact IntWalk.i64_in _ (by omega)
  have b1 : (m : Int) ≤ (cs0 : Int) := by omega
  have b2 : ¬ cs0 = m := by omega
  have b3 : (m : Int) ≤ (ns : Int) := by omega
  obtain ⟨sb, soff, rfl, hsbl, _⟩ := hrs.2 (by omega)
  have ho : openL k nn sl more = if sealT k nn (sl.take m) more = sl.drop m then (xorL k 1 nn (sl.take m), 0) else ([], 6) := by rw [openL, if_neg (by omega), hsl, hm]
  have hr1 := hrs.take (m := m) (by omega)
  have hr2 := hrs.drop m sb soff rfl (by omega)
  rw [show ns - m = 16 by omega] at hr2
  have htl : (sl.drop m).length = 16 := hr2.1
  have hcl : (sl.take m).length = m := hr1.1
  have XC := fun (w' : World) (h : Rd w' w'.heap.size (some ⟨sb, soff, none⟩) m (sl.take m)) => xor_any k nn hk hn 1 w'.heap.size (some ⟨sb, soff, none⟩) m cs0 (sl.take m) (by omega) w' (Nat.le_refl _) h
  have TC := tagOf_any k nn hk hn (some ⟨sb, soff, none⟩) Am m cs0 nm cm (sl.take m) more (by omega) (by omega)
  rw [show ((1 : UInt32).toNat : Int) = 1 from rfl] at XC
  have hst := sealT_length k nn (sl.take m) more
  have hxl : (xorL k 1 nn (sl.take m)).length = m := by rw [xorL_length, hcl]
  obtain ⟨st, hste⟩ : ∃ st, sealT k nn (sl.take m) more = st := ⟨_, rfl⟩
  rw [hste] at TC hst ho
  generalize xorL k 1 nn (sl.take m) = xl at XC hxl ho
  generalize sl.take m = cl at XC TC hr1 hcl hste
  generalize sl.drop m = tl at hr2 htl ho
  obtain ⟨⟨ol, oe⟩, hoe⟩ : ∃ o, openL k nn sl more = o := ⟨_, rfl⟩
  rw [hoe] at ho ⊢
  have HOE := Lib.hid ho
  clear hste ho hrs hoe
  obtain ⟨cs, hcs⟩ : ∃ cs, (st.map u8v).toArray = cs := ⟨_, rfl⟩
  rw [hcs] at TC
  obtain ⟨ck, hck⟩ : ∃ ck, (k.map u8v).toArray = ck := ⟨_, rfl⟩
  obtain ⟨cn, hcn⟩ : ∃ cn, (nn.map u8v).toArray = cn := ⟨_, rfl⟩
  rw [hck, hcn] at XC TC
  rw [hck, hcn]
  have h0 : Blk ((w.alloc (.cells ck 23)).alloc (.cells cn 57)) w.heap.size 23 (k.map u8v) := by rw [← hck]; exact (Blk.new w _ _).alloc _
  have h1 : Blk ((w.alloc (.cells ck 23)).alloc (.cells cn 57)) (w.heap.size + 1) 57 (nn.map u8v) := by rw [← hcn]; exact Blk.new' (w.alloc (.cells ck 23)) (by simp) _ _
  have h3 : Below w.heap.size w ((w.alloc (.cells ck 23)).alloc (.cells cn 57)) := ((Below.refl _ _).alloc (Nat.le_refl _) _).alloc (by simp) _
  have HP := Lib.hid (hr1.below h3)
  have HT := Lib.hid (hr2.below h3)
  have HM := Lib.hid (hrm.below h3)
  have HC := Lib.hid (And.intro hck hcn)
  have HL := Lib.hid (And.intro hk hn)
  have HS := Lib.hid (And.intro hst (And.intro hcs (And.intro hcl (And.intro htl hxl))))
  have HXC2 := Lib.hid XC
  have HTC2 := Lib.hid TC
  have HSM := Lib.hid hm
  have HCM := Lib.hid (show m ≤ maxLen by omega)
  clear hck hcn hk hn hst hcs hcl htl hxl XC TC hr1 hr2 hrm hsl hm
  go_enter Tryz.func35, Tryz.ntmps35
  go_upto_region 1 with fail
  generalize ((w.alloc (.cells ck 23)).alloc (.cells cn 57)) = w1 at h0 h1 h3 HP HT HM ⊢
  have H1 := Lib.hid (show Blk w1 w.heap.size 23 (k.map u8v) ∧ Blk w1 (w.heap.size + 1) 57 (nn.map u8v) ∧ Below w.heap.size w w1 from ⟨h0, h1, h3⟩)
  clear h0 h1 h3
  replace HP := Lib.hid (HP.out.mono H1.out.2.2.size)
  replace HT := Lib.hid (HT.out.mono H1.out.2.2.size)
  replace HM := Lib.hid (HM.out.mono H1.out.2.2.size)
  go_wp2_with (first | (refine wpList_load_blk rfl 23 (.tmp 4) rfl w.heap.size rfl 23 (k.map u8v) H1.out.1 32 5 Tryz.underlying23 (cells32 k HL.out.1) ?_; rw [HC.out.1]) | (refine wpList_load_blk rfl 57 (.tmp 5) rfl (w.heap.size + 1) rfl 57 (nn.map u8v) H1.out.2.1 12 5 Tryz.underlying57 (ae_cellsN nn HL.out.2) ?_; rw [HC.out.2]))
  clear d16 hsb hsw b1
  refine (HTC2.out _ HP.out HM.out).mono ?_
  rintro e w2 ⟨rfl, hb⟩
  replace H1 := Lib.hid (show Blk w2 w.heap.size 23 (k.map u8v) ∧ Blk w2 (w.heap.size + 1) 57 (nn.map u8v) ∧ Below w.heap.size w w2 from ⟨H1.out.1.below hb H1.out.1.lt, H1.out.2.1.below hb H1.out.2.1.lt, H1.out.2.2.trans (hb.mono H1.out.2.2.size)⟩)
  replace HP := Lib.hid ((HP.out.below hb).mono hb.size)
  replace HT := Lib.hid ((HT.out.below hb).mono hb.size)
  clear hb HM
  go_upto_region 6 with (refine wpList_store_blk rfl 27 (.tmp 12) (.tmp 26) rfl w2.heap.size (st.map u8v) rfl (by show Value.agg cs = _; rw [HS.out.2.1]) 27 (aeZ 16) (Blk.new w2 27 (aeZ 16)) (ae_cellsT st HS.out.1) (by rw [List.length_map, HS.out.1]; rfl) (u8v_one _) ?_; intro w4 hb4 hg4)
  simp only [Act.put]
  have hb24 : Below w2.heap.size w2 w4 := Below.grown ((Below.refl _ _).alloc (Nat.le_refl _) (.cells (aeZ 16).toArray 27)) hg4 (by simp) (by intro k hk; injection hk with hk; omega)
  replace H1 := Lib.hid (show Blk w4 w.heap.size 23 (k.map u8v) ∧ Blk w4 (w.heap.size + 1) 57 (nn.map u8v) ∧ Below w.heap.size w w4 from ⟨H1.out.1.below hb24 H1.out.1.lt, H1.out.2.1.below hb24 H1.out.2.1.lt, H1.out.2.2.trans (hb24.mono H1.out.2.2.size)⟩)
  replace HP := Lib.hid ((HP.out.below hb24).mono hb24.size)
  replace HT := Lib.hid ((HT.out.below hb24).mono hb24.size)
  have HG := Lib.hid (blk_all hb4 HS.out.1)
  clear hb4 hg4 hb24
  generalize w2.heap.size = P at HG ⊢
  have e16 : ns - m = 16 := by have := HSM.out; omega
  by_cases hst : st = tl
  ·
   have ho := HOE.out
   rw [if_pos hst] at ho
   injection ho with ho1 ho2
   subst ho1 ho2
   have hbe : (tl == st) = true := by rw [beq_iff_eq]; exact hst.symm
   refine wp_region_held_drew (S := fun w5 => Below w4.heap.size w4 w5) (by kernel_rfl) ((Below.refl w4.heap.size w4).drew) (fun hHeld => ?_)
   refine tf (v := ?_) 0 rfl (Or.inl ⟨by rfl, ?_⟩) ?_
   rotate_left
   · (intro w hSw; (try dsimp only at hSw); go_simp; try with_reducible rfl)
   (try simp only [Act.put, sA, s0, s1])
   refine tf (v := ?_) 1 rfl (Or.inl ⟨by rfl, ?_⟩) ?_
   rotate_left
   · (intro w hSw; (try dsimp only at hSw); go_simp; try with_reducible rfl)
   (try simp only [Act.put, sA, s0, s1])
   refine tf (v := ?_) 2 rfl (Or.inl ⟨by rfl, ?_⟩) ?_
   rotate_left
   · (intro w hSw; (try dsimp only at hSw); go_simp; try with_reducible rfl)
   (try simp only [Act.put, sA, s0, s1])
   refine tf (v := ?_) 3 rfl (Or.inl ⟨by rfl, ?_⟩) ?_
   rotate_left
   · (intro w hSw; (try dsimp only at hSw); go_simp; try with_reducible rfl)
   (try simp only [Act.put, sA, s0, s1])
   refine so 4 rfl fun K hK => ?_
   go_simp
   refine (equal_any w4.heap.size 16 16 (cs0 - m) 16 _ _ tl st (by omega) (by omega) w4.drew (Nat.le_refl _) HT.out.drew HG.out.drew).mono ?_
   rintro e w6 ⟨rfl, hb6⟩
   rw [hbe]
   replace H1 := Lib.hid (show Blk w6 w.heap.size 23 (k.map u8v) ∧ Blk w6 (w.heap.size + 1) 57 (nn.map u8v) ∧ Below w.heap.size w w6 from ⟨H1.out.1.drew.below hb6 H1.out.1.lt, H1.out.2.1.drew.below hb6 H1.out.2.1.lt, H1.out.2.2.drew.trans (hb6.mono H1.out.2.2.size)⟩)
   replace HP := Lib.hid ((HP.out.drew.below hb6).mono hb6.size)
   have hb7 : Below w4.heap.size w4 w6 := (Below.refl w4.heap.size w4).drew.trans hb6
   clear hb6
   go_wp2_with fail
   refine hK.out _ _ (hb7) (fun hHeld => ?_)
   clear hK K
   (try simp only [Act.put, sA, s0, s1])
   refine tf (v := ?_) 5 rfl (Or.inl ⟨by rfl, ?_⟩) ?_
   rotate_left
   · (intro w hSw; (try dsimp only at hSw); go_simp; try with_reducible rfl)
   (try simp only [Act.put, sA, s0, s1])
   refine wpAnyH_done (by kernel_rfl) ?_ _
   clear hb7
   clear HG HT hHeld HOE
   go_wp2_with (first | (refine wpList_load_blk rfl 23 (.tmp 4) rfl w.heap.size rfl 23 (k.map u8v) H1.out.1 32 5 Tryz.underlying23 (cells32 k HL.out.1) ?_; rw [HC.out.1]) | (refine wpList_load_blk rfl 57 (.tmp 5) rfl (w.heap.size + 1) rfl 57 (nn.map u8v) H1.out.2.1 12 5 Tryz.underlying57 (ae_cellsN nn HL.out.2) ?_; rw [HC.out.2]))
   refine (HXC2.out _ HP.out).mono ?_
   rintro e w8 ⟨g8, rfl, ho6, hb6⟩
   have HF := Lib.hid (And.intro (Rd.of_own ho6) (H1.out.2.2.trans (hb6.mono H1.out.2.2.size)))
   clear ho6 hb6 H1 HP
   go_wp2_with fail
   have hoL := HS.out.2.2.2.2
   exact bodyPost_ret (results_tmp2 rfl _ _ _) rfl ⟨_, m, by rw [hoL]; rfl, by rw [hoL]; exact HF.out.1, by rw [hoL]; exact Nat.le_refl _, HCM.out, HF.out.2⟩
  ·
   have ho := HOE.out
   rw [if_neg hst] at ho
   injection ho with ho1 ho2
   subst ho1 ho2
   have hbe : (tl == st) = false := by rw [beq_eq_false_iff_ne]; exact fun h => hst h.symm
   refine wp_region_held_drew (S := fun w5 => Below w4.heap.size w4 w5) (by kernel_rfl) ((Below.refl w4.heap.size w4).drew) (fun hHeld => ?_)
   refine tf (v := ?_) 0 rfl (Or.inl ⟨by rfl, ?_⟩) ?_
   rotate_left
   · (intro w hSw; (try dsimp only at hSw); go_simp; try with_reducible rfl)
   (try simp only [Act.put, sA, s0, s1])
   refine tf (v := ?_) 1 rfl (Or.inl ⟨by rfl, ?_⟩) ?_
   rotate_left
   · (intro w hSw; (try dsimp only at hSw); go_simp; try with_reducible rfl)
   (try simp only [Act.put, sA, s0, s1])
   refine tf (v := ?_) 2 rfl (Or.inl ⟨by rfl, ?_⟩) ?_
   rotate_left
   · (intro w hSw; (try dsimp only at hSw); go_simp; try with_reducible rfl)
   (try simp only [Act.put, sA, s0, s1])
   refine tf (v := ?_) 3 rfl (Or.inl ⟨by rfl, ?_⟩) ?_
   rotate_left
   · (intro w hSw; (try dsimp only at hSw); go_simp; try with_reducible rfl)
   (try simp only [Act.put, sA, s0, s1])
   refine so 4 rfl fun K hK => ?_
   go_simp
   refine (equal_any w4.heap.size 16 16 (cs0 - m) 16 _ _ tl st (by omega) (by omega) w4.drew (Nat.le_refl _) HT.out.drew HG.out.drew).mono ?_
   rintro e w6 ⟨rfl, hb6⟩
   rw [hbe]
   replace H1 := Lib.hid (show Blk w6 w.heap.size 23 (k.map u8v) ∧ Blk w6 (w.heap.size + 1) 57 (nn.map u8v) ∧ Below w.heap.size w w6 from ⟨H1.out.1.drew.below hb6 H1.out.1.lt, H1.out.2.1.drew.below hb6 H1.out.2.1.lt, H1.out.2.2.drew.trans (hb6.mono H1.out.2.2.size)⟩)
   replace HP := Lib.hid ((HP.out.drew.below hb6).mono hb6.size)
   have hb7 : Below w4.heap.size w4 w6 := (Below.refl w4.heap.size w4).drew.trans hb6
   clear hb6
   go_wp2_with fail
   refine hK.out _ _ (hb7) (fun hHeld => ?_)
   clear hK K
   (try simp only [Act.put, sA, s0, s1])
   refine tf (v := ?_) 5 rfl (Or.inl ⟨by rfl, ?_⟩) ?_
   rotate_left
   · (intro w hSw; (try dsimp only at hSw); go_simp; try with_reducible rfl)
   (try simp only [Act.put, sA, s0, s1])
   refine wpAnyH_done (by kernel_rfl) ?_ _
   clear hb7
   have HF := Lib.hid H1.out.2.2
   clear HG HT hHeld HOE H1 HP
   go_wp2_with fail
   exact bodyPost_ret (results_tmp2 rfl _ _ _) rfl ⟨_, 0, rfl, Rd.nil _ _ _, Nat.zero_le _, Nat.zero_le _, HF.out⟩
set_option maxRecDepth 100000 in
set_option maxHeartbeats 8000000 in
theorem xcDivide_any (k n : List UInt8) (hk : k.length = 32) (hn : n.length = 24) (w : World) :
 Calls Tryz.prog 27 #[.agg (k.map u8v).toArray, .agg (n.map u8v).toArray] w fun e w' => e = .returned (.tuple #[.agg ((longK k n).map u8v).toArray, .agg ((longN n).map u8v).toArray]) ∧ Below w.heap.size w w' := by
 have h16 : (n.take 16).length = 16 := by rw [List.length_take, hn]; rfl
 have h8 : (n.drop 16).length = 8 := by rw [List.length_drop, hn]
 have DC := fun w' : World => deriveC k (n.take 16) hk h16 w'
 rw [show deriveL k (n.take 16) = longK k n from rfl] at DC
 obtain ⟨ck, hck⟩ : ∃ ck, (k.map u8v).toArray = ck := ⟨_, rfl⟩
 obtain ⟨cn, hcn⟩ : ∃ c, (n.map u8v).toArray = c := ⟨_, rfl⟩
 obtain ⟨ci, hci⟩ : ∃ c, ((n.take 16).map u8v).toArray = c := ⟨_, rfl⟩
 obtain ⟨cd, hcd⟩ : ∃ c, ((longK k n).map u8v).toArray = c := ⟨_, rfl⟩
 obtain ⟨co, hco⟩ : ∃ c, ((longN n).map u8v).toArray = c := ⟨_, rfl⟩
 rw [hck, hci, hcd] at DC
 rw [hck, hcn]
 have HM := Lib.hid (show Mem w [blkE (w.heap.size + 1 + 1 + 1 + 1) 26 ((List.replicate 16 (0 : UInt8)).map u8v), blkE (w.heap.size + 1 + 1 + 1) 57 (aeZ 12), blkE (w.heap.size + 1 + 1) 23 (aeZ 32), blkE (w.heap.size + 1) 25 (n.map u8v), blkE w.heap.size 23 (k.map u8v)] (((((w.alloc (.cells ck 23)).alloc (.cells cn 25)).alloc (.cells zb32 23)).alloc (.cells #[.int .u8 0, .int .u8 0, .int .u8 0, .int .u8 0, .int .u8 0, .int .u8 0, .int .u8 0, .int .u8 0, .int .u8 0, .int .u8 0, .int .u8 0, .int .u8 0] 57)).alloc (.cells zb16 26)) from (((((((((((Mem.nil w)).alloc rfl 23 ck (k.map u8v) hck.symm)).alloc (by simp) 25 cn (n.map u8v) hcn.symm)).alloc (by simp) 23 zb32 (aeZ 32) rfl)).alloc (by simp) 57 #[.int .u8 0, .int .u8 0, .int .u8 0, .int .u8 0, .int .u8 0, .int .u8 0, .int .u8 0, .int .u8 0, .int .u8 0, .int .u8 0, .int .u8 0, .int .u8 0] (aeZ 12) rfl)).alloc (by simp) 26 zb16 ((List.replicate 16 (0 : UInt8)).map u8v) rfl))
 have HC := Lib.hid (And.intro hck (And.intro hci (And.intro hco hcd)))
 have HL := Lib.hid (And.intro hk hn)
 have HL16 := Lib.hid h16
 have HL8 := Lib.hid h8
 have HLN := Lib.hid (longN_length n hn)
 have HDC := Lib.hid DC
 clear hck hcn hci hcd hco hk hn h16 h8 DC
 go_enter Tryz.func27, Tryz.ntmps27
 go_upto_region 2 with fail
 generalize (((((w.alloc (.cells ck 23)).alloc (.cells cn 25)).alloc (.cells zb32 23)).alloc (.cells #[.int .u8 0, .int .u8 0, .int .u8 0, .int .u8 0, .int .u8 0, .int .u8 0, .int .u8 0, .int .u8 0, .int .u8 0, .int .u8 0, .int .u8 0, .int .u8 0] 57)).alloc (.cells zb16 26)) = w1 at HM ⊢
 refine wp_region_held_drew (S := fun W' => Mem w [blkE (w.heap.size + 1 + 1 + 1) 57 (aeZ 12), blkE (w.heap.size + 1 + 1) 23 (aeZ 32), blkE (w.heap.size + 1) 25 (n.map u8v), blkE w.heap.size 23 (k.map u8v)] W') (by kernel_rfl) ((HM.out.erase 0).drew) (fun hHeld => ?_)
 replace HM := Lib.hid HM.out.drew
 generalize w1.drew = wd1 at HM hHeld ⊢
 refine tf (v := ?_) 0 rfl (Or.inl ⟨by rfl, ?_⟩) ?_
 rotate_left
 · (intro w hSw; (try dsimp only at hSw); go_simp; try with_reducible rfl)
 (try simp only [Act.put, sA, s0, s1])
 refine tf (v := ?_) 1 rfl (Or.inl ⟨by rfl, ?_⟩) ?_
 rotate_left
 · (intro w hSw; (try dsimp only at hSw); go_simp; try with_reducible rfl)
 (try simp only [Act.put, sA, s0, s1])
 refine so 2 rfl fun K hK => ?_
 clear hHeld
 refine step_copy_bytes _ rfl (.tmp 8) (.tmp 9) 29 29 (by rfl) 5 Tryz.underlying29 (by kernel_rfl) (w.heap.size + 1 + 1 + 1 + 1) 0 16 16 ⟨(w.heap.size + 1), 0, none⟩ 24 24 (by rfl) (by rfl) ((List.replicate 16 (0 : UInt8)).map u8v) 26 (HM.out.blk 0 rfl) ((n.take 16).map u8v) (by rw [List.length_map, HL16.out]; rfl) (show Rd wd1 (w.heap.size + 1 + 1) (some ⟨w.heap.size + 1, 0, none⟩) 16 (n.take 16) from by have h := ((HM.out.blk 3 rfl).rd 0 16 (by rw [HL.out.2]; omega)); rwa [List.drop_zero] at h).src (by rw [List.length_map, List.length_map, HL16.out]; decide) (u8v_one _) ?_
 intro wy2 hb hg
 rw [putL_map] at hb
 replace HM := Lib.hid (show Mem w [blkE (w.heap.size + 1 + 1 + 1 + 1) 26 ((putL (List.replicate 16 0) 0 (n.take 16)).map u8v), blkE (w.heap.size + 1 + 1 + 1) 57 (aeZ 12), blkE (w.heap.size + 1 + 1) 23 (aeZ 32), blkE (w.heap.size + 1) 25 (n.map u8v), blkE w.heap.size 23 (k.map u8v)] wy2 from HM.out.put 0 rfl _ hg hb)
 clear hb hg
 refine hK.out _ _ (HM.out.erase 0) (fun hHeld => ?_)
 clear hK K
 (try simp only [Act.put, sA, s0, s1])
 refine wpAnyH_done (by kernel_rfl) ?_ _
 have hp1 : putL (List.replicate 16 0) 0 (n.take 16) = n.take 16 := by
  rw [putL, List.take_zero, List.nil_append, HL16.out, List.drop_of_length_le (by simp), List.append_nil]
 rw [hp1] at HM
 clear hp1 hHeld
 generalize hw4 : wy2 = w3 at HM ⊢
 clear hw4
 have HA := Lib.hid (show Mem w [blkE w3.heap.size 57 ((List.replicate 12 (0 : UInt8)).map u8v), blkE (w.heap.size + 1 + 1 + 1 + 1) 26 ((n.take 16).map u8v), blkE (w.heap.size + 1 + 1 + 1) 57 (aeZ 12), blkE (w.heap.size + 1 + 1) 23 (aeZ 32), blkE (w.heap.size + 1) 25 (n.map u8v), blkE w.heap.size 23 (k.map u8v)] (w3.alloc (.cells #[.int .u8 0, .int .u8 0, .int .u8 0, .int .u8 0, .int .u8 0, .int .u8 0, .int .u8 0, .int .u8 0, .int .u8 0, .int .u8 0, .int .u8 0, .int .u8 0] 57)) from HM.out.alloc rfl 57 #[.int .u8 0, .int .u8 0, .int .u8 0, .int .u8 0, .int .u8 0, .int .u8 0, .int .u8 0, .int .u8 0, .int .u8 0, .int .u8 0, .int .u8 0, .int .u8 0] ((List.replicate 12 (0 : UInt8)).map u8v) rfl)
 go_upto_region 4 with fail
 replace HM := HA
 clear HA
 generalize w3.alloc (.cells #[.int .u8 0, .int .u8 0, .int .u8 0, .int .u8 0, .int .u8 0, .int .u8 0, .int .u8 0, .int .u8 0, .int .u8 0, .int .u8 0, .int .u8 0, .int .u8 0] 57) = w4 at HM ⊢
 generalize w3.heap.size = Q at HM ⊢
 refine wp_region_held_drew (S := fun W' => Mem w [blkE (w.heap.size + 1 + 1 + 1 + 1) 26 ((n.take 16).map u8v), blkE (w.heap.size + 1 + 1 + 1) 57 (aeZ 12), blkE (w.heap.size + 1 + 1) 23 (aeZ 32), blkE (w.heap.size + 1) 25 (n.map u8v), blkE w.heap.size 23 (k.map u8v)] W') (by kernel_rfl) ((HM.out.erase 0).drew) (fun hHeld => ?_)
 replace HM := Lib.hid HM.out.drew
 generalize w4.drew = wd2 at HM hHeld ⊢
 refine tf (v := ?_) 0 rfl (Or.inl ⟨by rfl, ?_⟩) ?_
 rotate_left
 · (intro w hSw; (try dsimp only at hSw); go_simp; try with_reducible rfl)
 (try simp only [Act.put, sA, s0, s1])
 refine tf (v := ?_) 1 rfl (Or.inl ⟨by rfl, ?_⟩) ?_
 rotate_left
 · (intro w hSw; (try dsimp only at hSw); go_simp; try with_reducible rfl)
 (try simp only [Act.put, sA, s0, s1])
 refine so 2 rfl fun K hK => ?_
 clear hHeld
 refine step_copy_bytes _ rfl (.tmp 11) (.tmp 12) 29 29 (by rfl) 5 Tryz.underlying29 (by kernel_rfl) Q 4 8 8 ⟨(w.heap.size + 1), 16, none⟩ 8 8 (by rfl) (by rfl) ((List.replicate 12 (0 : UInt8)).map u8v) 57 (HM.out.blk 0 rfl) ((n.drop 16).map u8v) (by rw [List.length_map, HL8.out]; rfl) (show Rd wd2 (w.heap.size + 1 + 1) (some ⟨w.heap.size + 1, 16, none⟩) 8 (n.drop 16) from by have h := ((HM.out.blk 4 rfl).rd 16 8 (by rw [HL.out.2]; omega)); rwa [List.take_of_length_le (by rw [HL8.out]; omega)] at h).src (by rw [List.length_map, List.length_map, HL8.out]; decide) (u8v_one _) ?_
 intro wz2 hb hg
 rw [putL_map] at hb
 replace HM := Lib.hid (show Mem w [blkE Q 57 ((putL (List.replicate 12 0) 4 (n.drop 16)).map u8v), blkE (w.heap.size + 1 + 1 + 1 + 1) 26 ((n.take 16).map u8v), blkE (w.heap.size + 1 + 1 + 1) 57 (aeZ 12), blkE (w.heap.size + 1 + 1) 23 (aeZ 32), blkE (w.heap.size + 1) 25 (n.map u8v), blkE w.heap.size 23 (k.map u8v)] wz2 from HM.out.put 0 rfl _ hg hb)
 clear hb hg
 refine hK.out _ _ (HM.out.erase 0) (fun hHeld => ?_)
 clear hK K
 (try simp only [Act.put, sA, s0, s1])
 refine wpAnyH_done (by kernel_rfl) ?_ _
 have hp2 : putL (List.replicate 12 0) 4 (n.drop 16) = longN n := by
  rw [putL, HL8.out, show (List.replicate 12 (0 : UInt8)).drop (4 + 8) = [] from rfl, List.append_nil]; rfl
 rw [hp2] at HM
 clear hp2 hHeld
 go_upto_region 5 with fail
 generalize hw7 : wz2 = w7 at HM ⊢
 clear hw7
 refine wp_region_held_drew (S := fun W' => Mem w [blkE Q 57 ((longN n).map u8v), blkE (w.heap.size + 1 + 1 + 1 + 1) 26 ((n.take 16).map u8v), blkE (w.heap.size + 1) 25 (n.map u8v), blkE w.heap.size 23 (k.map u8v)] W') (by kernel_rfl) (((HM.out.erase 2).erase 2).drew) (fun hHeld => ?_)
 replace HM := Lib.hid HM.out.drew
 generalize w7.drew = wd1 at HM hHeld ⊢
 refine tf (v := .agg ck) 0 rfl (by rw [← HC.out.1]; exact yields_load_blk (by rfl) 23 (.tmp 2) rfl w.heap.size rfl 23 (k.map u8v) (fun w' hb => hb.blk 3 rfl) 32 5 Tryz.underlying23 (cells32 k HL.out.1)) ?_
 (try simp only [Act.put, sA, s0, s1])
 refine tf (v := .agg ci) 1 rfl (by rw [← HC.out.2.1]; exact yields_load_blk (by rfl) 26 (.tmp 6) rfl (w.heap.size + 1 + 1 + 1 + 1) rfl 26 ((n.take 16).map u8v) (fun w' hb => hb.blk 1 rfl) 16 5 Tryz.underlying26 (xc_cells16 _ HL16.out)) ?_
 (try simp only [Act.put, sA, s0, s1])
 refine tf (v := .agg co) 3 rfl (by rw [← HC.out.2.2.1]; exact yields_load_blk (by rfl) 57 (.tmp 7) rfl Q rfl 57 ((longN n).map u8v) (fun w' hb => hb.blk 0 rfl) 12 5 Tryz.underlying57 (ae_cellsN _ HLN.out)) ?_
 (try simp only [Act.put, sA, s0, s1])
 refine so 2 rfl fun K hK => ?_
 clear hHeld
 go_simp
 refine (HDC.out _).mono ?_
 rintro e wy2 ⟨rfl, hb⟩
 replace HM := Lib.hid (show Mem w [blkE Q 57 ((longN n).map u8v), blkE (w.heap.size + 1 + 1 + 1 + 1) 26 ((n.take 16).map u8v), blkE (w.heap.size + 1 + 1 + 1) 57 (aeZ 12), blkE (w.heap.size + 1 + 1) 23 (aeZ 32), blkE (w.heap.size + 1) 25 (n.map u8v), blkE w.heap.size 23 (k.map u8v)] wy2 from HM.out.below hb)
 clear hb
 go_wp2_with fail
 refine hK.out _ _ ((HM.out.erase 2).erase 2) (fun hHeld => ?_)
 clear hK K
 (try simp only [Act.put, sA, s0, s1])
 refine so 4 rfl fun K hK => ?_
 clear hHeld
 refine step_store_blk _ rfl 23 (.tmp 4) (.tmp 16) rfl (w.heap.size + 1 + 1) ((longK k n).map u8v) rfl (by show Value.agg cd = _; rw [HC.out.2.2.2]) 23 (aeZ 32) (HM.out.blk 3 rfl) (cells32 _ (longK_length k n)) (by rw [List.length_map, longK_length]; rfl) (u8v_one _) ?_
 intro wy3 hb hg
 replace HM := Lib.hid (show Mem w [blkE Q 57 ((longN n).map u8v), blkE (w.heap.size + 1 + 1 + 1 + 1) 26 ((n.take 16).map u8v), blkE (w.heap.size + 1 + 1 + 1) 57 (aeZ 12), blkE (w.heap.size + 1 + 1) 23 ((longK k n).map u8v), blkE (w.heap.size + 1) 25 (n.map u8v), blkE w.heap.size 23 (k.map u8v)] wy3 from HM.out.put 3 rfl _ hg hb)
 clear hb hg
 refine hK.out _ _ ((HM.out.erase 2).erase 2) (fun hHeld => ?_)
 clear hK K
 (try simp only [Act.put])
 refine so 5 rfl fun K hK => ?_
 clear hHeld
 refine step_store_blk _ rfl 57 (.tmp 5) (.tmp 17) rfl (w.heap.size + 1 + 1 + 1) ((longN n).map u8v) rfl (by show Value.agg co = _; rw [HC.out.2.2.1]) 57 (aeZ 12) (HM.out.blk 2 rfl) (ae_cellsN _ HLN.out) (by rw [List.length_map, HLN.out]; rfl) (u8v_one _) ?_
 intro wy4 hb hg
 replace HM := Lib.hid (show Mem w [blkE Q 57 ((longN n).map u8v), blkE (w.heap.size + 1 + 1 + 1 + 1) 26 ((n.take 16).map u8v), blkE (w.heap.size + 1 + 1 + 1) 57 ((longN n).map u8v), blkE (w.heap.size + 1 + 1) 23 ((longK k n).map u8v), blkE (w.heap.size + 1) 25 (n.map u8v), blkE w.heap.size 23 (k.map u8v)] wy4 from HM.out.put 2 rfl _ hg hb)
 clear hb hg
 refine hK.out _ _ ((HM.out.erase 2).erase 2) (fun hHeld => ?_)
 clear hK K
 (try simp only [Act.put])
 refine wpAnyH_done (by kernel_rfl) ?_ _
 go_wp2_with fail
 exact bodyPost_ret (results_blk2 rfl _ _ (w.heap.size + 1 + 1) 23 ((longK k n).map u8v) 32 5 rfl (HM.out.blk 3 rfl) Tryz.underlying23 (cells32 _ (longK_length k n)) (w.heap.size + 1 + 1 + 1) 57 ((longN n).map u8v) 12 5 rfl (HM.out.blk 2 rfl) Tryz.underlying57 (ae_cellsN _ HLN.out)) rfl ⟨rfl, HM.out.bel⟩
set_option maxRecDepth 100000 in
set_option maxHeartbeats 4000000 in
theorem xsealC : XSealC := by
 intro k n hk hn Ap Am np cp nm cm pl more hnp hcp hnm hcm h1 h2 w hrp hrm
 have SH := fun w' : World => xcDivide_any k n hk hn w'
 have SE := sealC (longK k n) (longN n) (longK_length k n) (longN_length n hn)
 have HLN := Lib.hid (longN_length n hn)
 obtain ⟨ck, hck⟩ : ∃ ck, (k.map u8v).toArray = ck := ⟨_, rfl⟩
 obtain ⟨cn, hcn⟩ : ∃ c, (n.map u8v).toArray = c := ⟨_, rfl⟩
 obtain ⟨cd, hcd⟩ : ∃ c, ((longK k n).map u8v).toArray = c := ⟨_, rfl⟩
 obtain ⟨co, hco⟩ : ∃ c, ((longN n).map u8v).toArray = c := ⟨_, rfl⟩
 rw [hck, hcn, hcd, hco] at SH
 rw [hcd, hco] at SE
 rw [hck, hcn]
 have HM := Lib.hid (show Mem w [blkE (w.heap.size + 1) 25 (n.map u8v), blkE w.heap.size 23 (k.map u8v)] ((w.alloc (.cells ck 23)).alloc (.cells cn 25)) from ((Mem.nil w).alloc rfl 23 ck (k.map u8v) hck.symm).alloc (by simp) 25 cn (n.map u8v) hcn.symm)
 have HC := Lib.hid (And.intro hck (And.intro hcn (And.intro hcd hco)))
 have HL := Lib.hid (And.intro hk hn)
 have HSH := Lib.hid SH
 have HSE := Lib.hid SE
 clear hck hcn hcd hco hk hn SH SE
 go_enter Tryz.func13, Tryz.ntmps13
 go_upto_region 1 with fail
 generalize ((w.alloc (.cells ck 23)).alloc (.cells cn 25)) = w1 at HM ⊢
 go_wp2_with (first | (refine wpList_load_blk rfl 23 (.tmp 4) rfl w.heap.size rfl 23 (k.map u8v) (HM.out.blk 1 rfl) 32 5 Tryz.underlying23 (cells32 k HL.out.1) ?_; rw [HC.out.1]) | (refine wpList_load_blk rfl 25 (.tmp 5) rfl (w.heap.size + 1) rfl 25 (n.map u8v) (HM.out.blk 0 rfl) 24 5 Tryz.underlying25 (xc_cellsL n HL.out.2) ?_; rw [HC.out.2.1]))
 refine (HSH.out _).mono ?_
 rintro e w2 ⟨rfl, hb⟩
 replace HM := Lib.hid (show Mem w [blkE (w.heap.size + 1) 25 (n.map u8v), blkE w.heap.size 23 (k.map u8v)] w2 from HM.out.below hb)
 clear hb
 have HA := Lib.hid (show Mem w [blkE (w2.heap.size + 1) 57 (aeZ 12), blkE w2.heap.size 23 (aeZ 32), blkE (w.heap.size + 1) 25 (n.map u8v), blkE w.heap.size 23 (k.map u8v)] ((w2.alloc (.cells zb32 23)).alloc (.cells #[.int .u8 0, .int .u8 0, .int .u8 0, .int .u8 0, .int .u8 0, .int .u8 0, .int .u8 0, .int .u8 0, .int .u8 0, .int .u8 0, .int .u8 0, .int .u8 0] 57)) from (HM.out.alloc rfl 23 zb32 (aeZ 32) rfl).alloc (by simp) 57 #[.int .u8 0, .int .u8 0, .int .u8 0, .int .u8 0, .int .u8 0, .int .u8 0, .int .u8 0, .int .u8 0, .int .u8 0, .int .u8 0, .int .u8 0, .int .u8 0] (aeZ 12) rfl)
 go_upto_region 2 with (first | (refine wpList_store_blk rfl 23 (.tmp 9) (.tmp 15) rfl w2.heap.size ((longK k n).map u8v) rfl (by show Value.agg cd = _; rw [HC.out.2.2.1]) 23 (aeZ 32) (HA.out.blk 1 rfl) (cells32 _ (longK_length k n)) (by rw [List.length_map, longK_length]; rfl) (u8v_one _) ?_; intro w3 hb3 hg3) | (refine wpList_store_blk rfl 57 (.tmp 10) (.tmp 16) rfl (w2.heap.size + 1) ((longN n).map u8v) rfl (by show Value.agg co = _; rw [HC.out.2.2.2]) 57 (aeZ 12) ((HA.out.put 1 rfl ((longK k n).map u8v) hg3 hb3).blk 0 rfl) (ae_cellsN _ HLN.out) (by rw [List.length_map, HLN.out]; rfl) (u8v_one _) ?_; intro w4 hb4 hg4))
 (try simp only [Act.put])
 replace HM := Lib.hid (show Mem w [blkE (w2.heap.size + 1) 57 ((longN n).map u8v), blkE w2.heap.size 23 ((longK k n).map u8v), blkE (w.heap.size + 1) 25 (n.map u8v), blkE w.heap.size 23 (k.map u8v)] w4 from (HA.out.put 1 rfl ((longK k n).map u8v) hg3 hb3).put 0 rfl ((longN n).map u8v) hg4 hb4)
 clear hb3 hg3 hb4 hg4 HA
 generalize w2.heap.size = P at HM ⊢
 go_wp2_with (first | (refine wpList_load_blk rfl 23 (.tmp 9) rfl P rfl 23 ((longK k n).map u8v) (HM.out.blk 1 rfl) 32 5 Tryz.underlying23 (cells32 _ (longK_length k n)) ?_; rw [HC.out.2.2.1]) | (refine wpList_load_blk rfl 57 (.tmp 10) rfl (P + 1) rfl 57 ((longN n).map u8v) (HM.out.blk 0 rfl) 12 5 Tryz.underlying57 (ae_cellsN _ HLN.out) ?_; rw [HC.out.2.2.2]))
 refine (HSE.out Ap Am np cp nm cm pl more hnp hcp hnm hcm h1 h2 _ (HM.out.arg hrp) (HM.out.arg hrm)).mono ?_
 rintro e w5 ⟨A5, c5, rfl, ho, hb⟩
 have HF := Lib.hid (And.intro (own_base ho HM.out.size) (HM.out.below hb).bel)
 clear ho hb HM
 go_wp2
 go_ret
 exact ⟨_, _, rfl, HF.out.1, HF.out.2⟩
set_option maxRecDepth 100000 in
set_option maxHeartbeats 4000000 in
theorem xopenC : XOpenC := by
 intro k n hk hn As Am ns cs0 nm cm sl more hns hcs hnm hcm h1 h2 w hrs hrm
 have SH := fun w' : World => xcDivide_any k n hk hn w'
 have SE := openC (longK k n) (longN n) (longK_length k n) (longN_length n hn)
 have HLN := Lib.hid (longN_length n hn)
 obtain ⟨ck, hck⟩ : ∃ ck, (k.map u8v).toArray = ck := ⟨_, rfl⟩
 obtain ⟨cn, hcn⟩ : ∃ c, (n.map u8v).toArray = c := ⟨_, rfl⟩
 obtain ⟨cd, hcd⟩ : ∃ c, ((longK k n).map u8v).toArray = c := ⟨_, rfl⟩
 obtain ⟨co, hco⟩ : ∃ c, ((longN n).map u8v).toArray = c := ⟨_, rfl⟩
 rw [hck, hcn, hcd, hco] at SH
 rw [hcd, hco] at SE
 rw [hck, hcn]
 have HM := Lib.hid (show Mem w [blkE (w.heap.size + 1) 25 (n.map u8v), blkE w.heap.size 23 (k.map u8v)] ((w.alloc (.cells ck 23)).alloc (.cells cn 25)) from ((Mem.nil w).alloc rfl 23 ck (k.map u8v) hck.symm).alloc (by simp) 25 cn (n.map u8v) hcn.symm)
 have HC := Lib.hid (And.intro hck (And.intro hcn (And.intro hcd hco)))
 have HL := Lib.hid (And.intro hk hn)
 have HSH := Lib.hid SH
 have HSE := Lib.hid SE
 clear hck hcn hcd hco hk hn SH SE
 have HX := Lib.hid (show openL (longK k n) (longN n) sl more = xopenL k n sl more from rfl)
 go_enter Tryz.func17, Tryz.ntmps17
 go_upto_region 1 with fail
 generalize ((w.alloc (.cells ck 23)).alloc (.cells cn 25)) = w1 at HM ⊢
 go_wp2_with (first | (refine wpList_load_blk rfl 23 (.tmp 4) rfl w.heap.size rfl 23 (k.map u8v) (HM.out.blk 1 rfl) 32 5 Tryz.underlying23 (cells32 k HL.out.1) ?_; rw [HC.out.1]) | (refine wpList_load_blk rfl 25 (.tmp 5) rfl (w.heap.size + 1) rfl 25 (n.map u8v) (HM.out.blk 0 rfl) 24 5 Tryz.underlying25 (xc_cellsL n HL.out.2) ?_; rw [HC.out.2.1]))
 refine (HSH.out _).mono ?_
 rintro e w2 ⟨rfl, hb⟩
 replace HM := Lib.hid (show Mem w [blkE (w.heap.size + 1) 25 (n.map u8v), blkE w.heap.size 23 (k.map u8v)] w2 from HM.out.below hb)
 clear hb
 have HA := Lib.hid (show Mem w [blkE (w2.heap.size + 1) 57 (aeZ 12), blkE w2.heap.size 23 (aeZ 32), blkE (w.heap.size + 1) 25 (n.map u8v), blkE w.heap.size 23 (k.map u8v)] ((w2.alloc (.cells zb32 23)).alloc (.cells #[.int .u8 0, .int .u8 0, .int .u8 0, .int .u8 0, .int .u8 0, .int .u8 0, .int .u8 0, .int .u8 0, .int .u8 0, .int .u8 0, .int .u8 0, .int .u8 0] 57)) from (HM.out.alloc rfl 23 zb32 (aeZ 32) rfl).alloc (by simp) 57 #[.int .u8 0, .int .u8 0, .int .u8 0, .int .u8 0, .int .u8 0, .int .u8 0, .int .u8 0, .int .u8 0, .int .u8 0, .int .u8 0, .int .u8 0, .int .u8 0] (aeZ 12) rfl)
 go_upto_region 2 with (first | (refine wpList_store_blk rfl 23 (.tmp 10) (.tmp 16) rfl w2.heap.size ((longK k n).map u8v) rfl (by show Value.agg cd = _; rw [HC.out.2.2.1]) 23 (aeZ 32) (HA.out.blk 1 rfl) (cells32 _ (longK_length k n)) (by rw [List.length_map, longK_length]; rfl) (u8v_one _) ?_; intro w3 hb3 hg3) | (refine wpList_store_blk rfl 57 (.tmp 11) (.tmp 17) rfl (w2.heap.size + 1) ((longN n).map u8v) rfl (by show Value.agg co = _; rw [HC.out.2.2.2]) 57 (aeZ 12) ((HA.out.put 1 rfl ((longK k n).map u8v) hg3 hb3).blk 0 rfl) (ae_cellsN _ HLN.out) (by rw [List.length_map, HLN.out]; rfl) (u8v_one _) ?_; intro w4 hb4 hg4))
 (try simp only [Act.put])
 replace HM := Lib.hid (show Mem w [blkE (w2.heap.size + 1) 57 ((longN n).map u8v), blkE w2.heap.size 23 ((longK k n).map u8v), blkE (w.heap.size + 1) 25 (n.map u8v), blkE w.heap.size 23 (k.map u8v)] w4 from (HA.out.put 1 rfl ((longK k n).map u8v) hg3 hb3).put 0 rfl ((longN n).map u8v) hg4 hb4)
 clear hb3 hg3 hb4 hg4 HA
 generalize w2.heap.size = P at HM ⊢
 go_wp2_with (first | (refine wpList_load_blk rfl 23 (.tmp 10) rfl P rfl 23 ((longK k n).map u8v) (HM.out.blk 1 rfl) 32 5 Tryz.underlying23 (cells32 _ (longK_length k n)) ?_; rw [HC.out.2.2.1]) | (refine wpList_load_blk rfl 57 (.tmp 11) rfl (P + 1) rfl 57 ((longN n).map u8v) (HM.out.blk 0 rfl) 12 5 Tryz.underlying57 (ae_cellsN _ HLN.out) ?_; rw [HC.out.2.2.2]))
 refine (HSE.out As Am ns cs0 nm cm sl more hns hcs hnm hcm h1 h2 _ (HM.out.arg hrs) (HM.out.arg hrm)).mono ?_
 rintro e w5 ⟨A5, c5, rfl, ho, hl1, hl2, hb⟩
 rw [HX.out] at ho hl1 ⊢
 have HF := Lib.hid (And.intro ho (And.intro hl1 (And.intro hl2 (HM.out.below hb).bel)))
 clear ho hb HM hl1 hl2
 go_wp2
 exact bodyPost_ret (results_tmp2 rfl _ _ _) rfl ⟨_, _, rfl, HF.out.1, HF.out.2.1, HF.out.2.2.1, HF.out.2.2.2⟩
theorem encParts3 (s : Nat) (bs : List UInt8) (hb : bs.length = 56) : (msHead 3 ++ (littleL s 4 ++ ((bs.drop 0).take 24 ++ ((bs.drop 24).take 32)))) = encB 3 (MsgM.mk [s] bs) := by
 have e : (bs.drop 0).take 24 ++ ((bs.drop 24).take 32) = bs := by
  apply List.ext_getElem
  · simp only [List.length_append, List.length_take, List.length_drop]; omega
  ·
   intro i h1 h2
   simp only [List.getElem_append, List.getElem_take, List.getElem_drop, List.length_take, List.length_drop]
   repeat' split
   all_goals (congr 1; omega)
 rw [e]
 simp only [encB, numsB, List.flatMap_cons, List.flatMap_nil, List.append_nil, List.append_assoc]
set_option maxRecDepth 100000 in
set_option maxHeartbeats 8000000 in
theorem msEncN3 : MsEncNC 15 3 := by
 intro m0 hok w
 obtain ⟨nums, bs⟩ := m0
 obtain ⟨s, hnum⟩ : ∃ s, nums = [s] := by
  have h := hok.1
  match nums, h with
  | [s], _ => exact ⟨s, rfl⟩
 subst hnum
 have HOK := Lib.hid hok
 have HH := Lib.hid (fun W => show Calls Tryz.prog 31 #[.int .i64 3] W (fun e w' => ∃ A c, e = .returned (.slice A 4 c) ∧ Rd w' w'.heap.size A 4 (msHead 3) ∧ Below W.heap.size W w') from pHeader_k 3 (by omega) W)
 have HU0 := Lib.hid (pIndex_any s (hok.2.2 s (by simp)))
 have HLEN := Lib.hid (show (encB 3 (MsgM.mk [s] bs)).length = 64 from encB_length hok)
 have hfl := encParts3 s bs hok.2.1
 obtain ⟨cm, hcm⟩ : ∃ z, (MsgM.mk [s] bs).cells.toArray = z := ⟨_, rfl⟩
 have HM := Lib.hid (show Lows w [blkL w.heap.size 40 (MsgM.mk [s] bs).cells] (w.alloc (.cells cm 40)) from (Lows.nil w).alloc 40 cm (MsgM.mk [s] bs).cells hcm.symm)
 rw [hcm]
 have HFL := Lib.hid (show ([(msHead 3 : List UInt8), (littleL s 4 : List UInt8), ((bs.drop 0).take 24 : List UInt8), ((bs.drop 24).take 32 : List UInt8)] : List (List UInt8)).flatten = encB 3 (MsgM.mk [s] bs) from by
  rw [← hfl]; simp only [List.flatten_cons, List.flatten_nil, List.append_nil])
 clear hok hfl hcm
 go_enter Tryz.func15, Tryz.ntmps15
 go_upto_region 1 with fail
 generalize w.alloc (.cells cm 40) = w1 at HM ⊢
 refine wp_region_held_drew (S := fun W' => Lows w [blkL w.heap.size 40 (MsgM.mk [s] bs).cells] W') (by kernel_rfl) (HM.out.drew) (fun hHeld => ?_)
 replace HM := Lib.hid HM.out.drew
 generalize w1.drew = wd1 at HM hHeld ⊢
 refine tf (v := ?_) 1 rfl (Or.inl ⟨by rfl, ?_⟩) ?_
 rotate_left
 · (intro w hSw; (try dsimp only at hSw); go_simp; try with_reducible rfl)
 (try simp only [Act.put, sA, s0, s1])
 refine tf (v := ?_) 2 rfl (Or.inl ⟨by rfl, ?_⟩) ?_
 rotate_left
 · (intro w hSw; (try dsimp only at hSw); have fl := msg_num (Lows.blk hSw 0 rfl) 0 s rfl; go_simp; try with_reducible rfl)
 (try simp only [Act.put, sA, s0, s1])
 refine tf (v := ?_) 4 rfl (Or.inl ⟨by rfl, ?_⟩) ?_
 rotate_left
 · (intro w hSw; (try dsimp only at hSw); go_simp; try with_reducible rfl)
 (try simp only [Act.put, sA, s0, s1])
 refine tf (v := ?_) 5 rfl (Or.inl ⟨by rfl, ?_⟩) ?_
 rotate_left
 · (intro w hSw; (try dsimp only at hSw); go_simp; try with_reducible rfl)
 (try simp only [Act.put, sA, s0, s1])
 refine tf (v := ?_) 6 rfl (Or.inl ⟨by rfl, ?_⟩) ?_
 rotate_left
 · (intro w hSw; (try dsimp only at hSw); go_simp; try with_reducible rfl)
 (try simp only [Act.put, sA, s0, s1])
 refine tf (v := ?_) 7 rfl (Or.inl ⟨by rfl, ?_⟩) ?_
 rotate_left
 · (intro w hSw; (try dsimp only at hSw); go_simp; try with_reducible rfl)
 (try simp only [Act.put, sA, s0, s1])
 refine so 0 rfl fun K hK => ?_
 clear hHeld
 go_simp
 refine (HH.out _).mono ?_
 rintro e wy2 ⟨Ah, ch, rfl, hr, hb⟩
 replace HM := Lib.hid (show Lows w [rdL Ah 4 (msHead 3), blkL w.heap.size 40 (MsgM.mk [s] bs).cells] wy2 from (HM.out.below hb).cons (rdL Ah 4 (msHead 3)) (hr))
 clear hb
 go_wp2_with fail
 refine hK.out _ _ (HM.out.tail 0) (fun hHeld => ?_)
 clear hK K
 (try simp only [Act.put, sA, s0, s1])
 refine wpAnyH_stronger (T := fun W' => Lows w [rdL Ah 4 (msHead 3), blkL w.heap.size 40 (MsgM.mk [s] bs).cells] W') (fun _ h' => (h'.tail 0)) _ _ _ _ ?_
 replace hHeld := HM.out
 refine so 3 rfl fun K hK => ?_
 clear hHeld
 go_simp
 refine (HU0.out _).mono ?_
 rintro e wy3 ⟨A0, c0, rfl, hr, hb⟩
 replace HM := Lib.hid (show Lows w [rdL A0 4 (littleL s 4), rdL Ah 4 (msHead 3), blkL w.heap.size 40 (MsgM.mk [s] bs).cells] wy3 from (HM.out.below hb).cons (rdL A0 4 (littleL s 4)) (hr))
 clear hb
 go_wp2_with fail
 refine hK.out _ _ (HM.out.tail 0) (fun hHeld => ?_)
 clear hK K
 (try simp only [Act.put, sA, s0, s1])
 refine wpAnyH_stronger (T := fun W' => Lows w [rdL A0 4 (littleL s 4), rdL Ah 4 (msHead 3), blkL w.heap.size 40 (MsgM.mk [s] bs).cells] W') (fun _ h' => (h'.tail 0)) _ _ _ _ ?_
 replace hHeld := HM.out
 refine so 8 rfl fun K hK => ?_
 clear hHeld
 go_simp
 have hm9 := HM.out.alloc 29 #[.slice Ah 4 ch, .slice A0 4 c0, .slice (some ⟨w.heap.size, 1, none⟩) 24 24, .slice (some ⟨w.heap.size, 25, none⟩) 32 32] ([.slice Ah 4 ch, .slice A0 4 c0, .slice (some ⟨w.heap.size, 1, none⟩) 24 24, .slice (some ⟨w.heap.size, 25, none⟩) 32 32]) rfl
 generalize wy3.alloc (.cells #[.slice Ah 4 ch, .slice A0 4 c0, .slice (some ⟨w.heap.size, 1, none⟩) 24 24, .slice (some ⟨w.heap.size, 25, none⟩) 32 32] 29) = wy4 at hm9 ⊢
 generalize wy3.heap.size = g7 at hm9 ⊢
 replace HM := Lib.hid (show Lows w [blkL g7 29 ([.slice Ah 4 ch, .slice A0 4 c0, .slice (some ⟨w.heap.size, 1, none⟩) 24 24, .slice (some ⟨w.heap.size, 25, none⟩) 32 32]), rdL A0 4 (littleL s 4), rdL Ah 4 (msHead 3), blkL w.heap.size 40 (MsgM.mk [s] bs).cells] wy4 from hm9)
 clear hm9
 refine hK.out _ _ (HM.out.tail 0) (fun hHeld => ?_)
 clear hK K
 (try simp only [Act.put, sA, s0, s1])
 refine wpAnyH_stronger (T := fun W' => Lows w [blkL g7 29 ([.slice Ah 4 ch, .slice A0 4 c0, .slice (some ⟨w.heap.size, 1, none⟩) 24 24, .slice (some ⟨w.heap.size, 25, none⟩) 32 32]), rdL A0 4 (littleL s 4), rdL Ah 4 (msHead 3), blkL w.heap.size 40 (MsgM.mk [s] bs).cells] W') (fun _ h' => (h'.tail 0)) _ _ _ _ ?_
 replace hHeld := HM.out
 refine so 9 rfl fun K hK => ?_
 clear hHeld
 go_simp
 refine (coJoin_new g7 29 [⟨Ah, 4, ch, msHead 3⟩, ⟨A0, 4, c0, littleL s 4⟩, ⟨(some ⟨w.heap.size, 1, none⟩), 24, 24, (bs.drop 0).take 24⟩, ⟨(some ⟨w.heap.size, 25, none⟩), 32, 32, (bs.drop 24).take 32⟩] 4 rfl (by omega) (encB 3 (MsgM.mk [s] bs)) HFL.out 64 HLEN.out (by omega) _ (HM.out.blk 0 rfl) (by
  intro p hp
  simp only [List.mem_cons, List.not_mem_nil, or_false] at hp
  rcases hp with rfl | rfl | rfl | rfl
  · exact HM.out.rd 2 rfl
  · exact HM.out.rd 1 rfl
  · exact msg_rd (HM.out.blk 3 rfl) HOK.out 1 0 24 rfl (by decide)
  · exact msg_rd (HM.out.blk 3 rfl) HOK.out 25 24 32 rfl (by decide)
  )).mono ?_
 rintro e wy5 ⟨A9, c9, rfl, hc1, hc2, hr, hb⟩
 have HRES := Lib.hid (And.intro hc1 (And.intro hc2 (And.intro (hr.from_ HM.out.size) (HM.out.below hb).bel)))
 replace HM := Lib.hid (show Lows w [blkL g7 29 ([.slice Ah 4 ch, .slice A0 4 c0, .slice (some ⟨w.heap.size, 1, none⟩) 24 24, .slice (some ⟨w.heap.size, 25, none⟩) 32 32]), rdL A0 4 (littleL s 4), rdL Ah 4 (msHead 3), blkL w.heap.size 40 (MsgM.mk [s] bs).cells] wy5 from HM.out.below hb)
 clear hr hb hc1 hc2
 go_wp2_with fail
 refine hK.out _ _ (HM.out) (fun hHeld => ?_)
 clear hK K
 (try simp only [Act.put, sA, s0, s1])
 refine tf (v := ?_) 10 rfl (Or.inl ⟨by rfl, ?_⟩) ?_
 rotate_left
 · (intro w hSw; (try dsimp only at hSw); go_simp; try with_reducible rfl)
 (try simp only [Act.put, sA, s0, s1])
 refine wpAnyH_done (by kernel_rfl) ?_ _
 clear HM hHeld
 go_wp2_with fail
 go_ret
 exact ⟨A9, c9, rfl, HRES.out.1, HRES.out.2.1, HRES.out.2.2.1, HRES.out.2.2.2⟩
/-- a slice that is long enough as an array -/
theorem run_arrayAt_off {P : Program} (w : World) (ty : TypeId) (g off n c k : Nat) (e : TypeId) (hu : P.underlying ty = some (.array k e)) (h : k ≤ n) :
 (Instr.arrayAt ty (.slice (some ⟨g, off, none⟩) n c)).run P w = .ok (.pointer (some ⟨g, off, none⟩)) w := by
 unfold Instr.arrayAt
 rw [Sem.run_bind, run_underlying hu w]
 simp [Nat.not_lt.2 h]
theorem Rd.at_obj {w : World} {B n b off : Nat} {l : List UInt8} (h : Rd w B (some ⟨b, off, none⟩) n l) (i k : Nat) : At w b (off + i) (((l.drop i).take k).map u8v) := by
 intro j v hv
 have hj : j < ((l.drop i).take k).length := by
  have := (List.getElem?_eq_some_iff.1 hv).1
  simpa using this
 have hj2 : j < k ∧ i + j < l.length := by
  rw [List.length_take, List.length_drop] at hj
  omega
 have hb := h.byt (i + j) (by rw [← h.1]; omega)
 rw [Nat.add_assoc, hb]
 rw [List.getElem?_map, List.getElem?_eq_getElem hj] at hv
 simp only [Option.map_some, Option.some.injEq] at hv
 rw [← hv, List.getElem_take, List.getElem_drop, List.getD_eq_getElem?_getD, List.getElem?_eq_getElem hj2.2]
 rfl
theorem cut_drop (l : List UInt8) (a z : Nat) : (l.drop a).take z ++ l.drop (a + z) = l.drop a := by
 rw [← List.drop_drop]
 exact List.take_append_drop _ _
set_option maxRecDepth 100000 in
theorem built_ms3 (v : Nat) (f0 f1 : List UInt8) (h0 : f0.length = 24) (h1 : f1.length = 32) : Tryz.prog.built 40 [(0, .int .u32 (v : Int)), (1, .agg (f0.map u8v).toArray), (2, .agg (f1.map u8v).toArray)] = some (MsgM.mk [v] (f0 ++ f1)).cells.toArray := by
 rw [built_of 40 [1, 24, 32] [[.int .u32 0], (List.replicate 24 (0 : UInt8)).map u8v, (List.replicate 32 (0 : UInt8)).map u8v] (by kernel_rfl) #[(0, 1), (1, 24), (25, 32)] (fun parts => by kernel_rfl) (fun i h => by
  match i, h with
  | 0, _ => rfl
  | 1, _ => rfl
  | 2, _ => rfl) _ (fun p hp => by
  simp only [List.mem_cons, List.not_mem_nil, or_false] at hp
  rcases hp with rfl | rfl | rfl
  · rfl
  · simp [Value.cells, h0]
  · simp [Value.cells, h1])]
 simp [MsgM.cells, Value.cells, u32c]
theorem parts_ms3 (l : List UInt8) (h : l.length = 64) : (l.drop 8).take 24 ++ (l.drop 32).take 32 = l.drop 8 := by
 rw [show (l.drop 32).take 32 = l.drop 32 from List.take_of_length_le (by rw [List.length_drop, h]; decide)]
 try simp only [List.append_assoc]
 rw [show l.drop 32 = l.drop (8 + 24) from rfl, cut_drop]
theorem Rd.at_all {w : World} {B n b off : Nat} {l : List UInt8} (h : Rd w B (some ⟨b, off, none⟩) n l) : At w b off (l.map u8v) := by
 have h2 := h.at_obj 0 n
 rwa [List.drop_zero, List.take_of_length_le (by rw [h.1]; exact Nat.le_refl _), Nat.add_zero] at h2
set_option maxRecDepth 100000 in
set_option maxHeartbeats 8000000 in
theorem mcReplyC : McReplyC 5 := by
 intro p nn ck mac hp hn hck hmac r hr w hlv
 have HLV := Lib.hid hlv
 have HP := Lib.hid hp
 have HN := Lib.hid hn
 have HK := Lib.hid hck
 have HMC := Lib.hid hmac
 have hok := replyM_ok (p := p) (mac := mac) hn hck hr
 have hM2 : replyM p nn ck mac r = MsgM.mk [r] (nn ++ xsealL (hideB p) nn ck mac) := rfl
 have hsl : (xsealL (hideB p) nn ck mac).length = 32 := by rw [xsealL_length, hck]
 have hhd := fun (W : World) (hl : LvBlake W) => (show Calls Tryz.prog 14 #[.string ⟨#[99, 111, 111, 107, 105, 101, 45, 45]⟩, .agg (p.map u8v).toArray] W (fun e w' => e = .returned (.agg ((hideB p).map u8v).toArray) ∧ Below W.heap.size W w') from derive_any ⟨#[99, 111, 111, 107, 105, 101, 45, 45]⟩ cookK rfl rfl p hp W hl)
 have hxs := fun (gc gm : Nat) (W : World) (h1 : Rd W W.heap.size (some ⟨gc, 0, none⟩) 16 ck) (h2 : Rd W W.heap.size (some ⟨gm, 0, none⟩) 16 mac) => (show Calls Tryz.prog 13 #[.agg ((hideB p).map u8v).toArray, .agg (nn.map u8v).toArray, .slice (some ⟨gc, 0, none⟩) 16 16, .slice (some ⟨gm, 0, none⟩) 16 16] W (fun e w' => ∃ A c', e = .returned (.slice A 32 c') ∧ w'.ownsRow W.heap.size 5 1 (.slice A 32 c') 32 ((xsealL (hideB p) nn ck mac).map u8v) ∧ Below W.heap.size W w') from xsealC (hideB p) nn (hideB_length p) hn (some ⟨gc, 0, none⟩) (some ⟨gm, 0, none⟩) 16 16 16 16 ck mac (by omega) (by decide) (by omega) (by decide) (by omega) (by omega) W h1 h2)
 have hen := msEncN3 _ hok
 rw [hM2] at hen hok ⊢
 generalize xsealL (hideB p) nn ck mac = sl at hxs hen hsl hok ⊢
 generalize hideB p = hk at hhd hxs
 have HSLN := Lib.hid hsl
 have hbt := built_ms3 r nn sl hn hsl
 obtain ⟨cp, hcp⟩ : ∃ z, (p.map u8v).toArray = z := ⟨_, rfl⟩
 obtain ⟨cn, hcn⟩ : ∃ z, (nn.map u8v).toArray = z := ⟨_, rfl⟩
 obtain ⟨cc, hcc⟩ : ∃ z, (ck.map u8v).toArray = z := ⟨_, rfl⟩
 obtain ⟨cm, hcm⟩ : ∃ z, (mac.map u8v).toArray = z := ⟨_, rfl⟩
 obtain ⟨chk, hchk⟩ : ∃ z, (hk.map u8v).toArray = z := ⟨_, rfl⟩
 obtain ⟨cs5, hcs5⟩ : ∃ z, (sl.map u8v).toArray = z := ⟨_, rfl⟩
 obtain ⟨cM2, hcM2⟩ : ∃ z, (MsgM.mk [r] (nn ++ sl)).cells.toArray = z := ⟨_, rfl⟩
 rw [hcn, hcs5, hcM2] at hbt
 rw [hcM2] at hen
 rw [hcp, hchk] at hhd
 rw [hchk, hcn] at hxs
 have HBT := Lib.hid hbt
 have HEN := Lib.hid hen
 have HHD := Lib.hid hhd
 have HXS := Lib.hid hxs
 have HCS := Lib.hid hcs5
 have HCP := Lib.hid hcp
 have HCN := Lib.hid hcn
 rw [hcp, hcn, hcc, hcm]
 have HM := Lib.hid (show Mem w [blkE (w.heap.size + 1 + 1 + 1) 27 (mac.map u8v), blkE (w.heap.size + 1 + 1) 27 (ck.map u8v), blkE (w.heap.size + 1) 25 (nn.map u8v), blkE w.heap.size 23 (p.map u8v)] ((((w.alloc (.cells cp 23)).alloc (.cells cn 25)).alloc (.cells cc 27)).alloc (.cells cm 27)) from (((((Mem.nil w).alloc rfl 23 cp (p.map u8v) hcp.symm).alloc (by simp) 25 cn (nn.map u8v) hcn.symm).alloc (by simp) 27 cc (ck.map u8v) hcc.symm).alloc (by simp) 27 cm (mac.map u8v) hcm.symm))
 clear hcp hcn hcc hcm hchk hcs5 hcM2 hbt hen hhd hxs hsl hok hM2 hp hn hck hmac hr hlv
 go_enter Tryz.func5, Tryz.ntmps5
 go_upto_region 1 with fail
 generalize ((((w.alloc (.cells cp 23)).alloc (.cells cn 25)).alloc (.cells cc 27)).alloc (.cells cm 27)) = w1 at HM ⊢
 refine wp_region_held_drew (S := fun W' => Mem w [blkE (w.heap.size + 1 + 1 + 1) 27 (mac.map u8v), blkE (w.heap.size + 1 + 1) 27 (ck.map u8v), blkE (w.heap.size + 1) 25 (nn.map u8v), blkE w.heap.size 23 (p.map u8v)] W') (by kernel_rfl) ((HM.out).drew) (fun hHeld => ?_)
 replace HM := Lib.hid HM.out.drew
 generalize w1.drew = wd1 at HM hHeld ⊢
 refine tf (v := .agg cp) 0 rfl (by rw [← HCP.out]; exact yields_load_obj (by rfl) 23 (.tmp 5) rfl w.heap.size 0 rfl (p.map u8v) (fun w' hb => (Mem.blk hb 3 rfl).all) _ Tryz.underlying23 rfl (cells32 p HP.out)) ?_
 (try simp only [Act.put, sA, s0, s1])
 refine tf (v := .agg cn) 2 rfl (by rw [← HCN.out]; exact yields_load_obj (by rfl) 25 (.tmp 6) rfl (w.heap.size + 1) 0 rfl (nn.map u8v) (fun w' hb => (Mem.blk hb 2 rfl).all) _ Tryz.underlying25 rfl (xc_cellsL nn HN.out)) ?_
 (try simp only [Act.put, sA, s0, s1])
 refine tf (v := ?_) 3 rfl (Or.inl ⟨by rfl, ?_⟩) ?_
 rotate_left
 · (intro w hSw; (try dsimp only at hSw); go_simp; try with_reducible rfl)
 (try simp only [Act.put, sA, s0, s1])
 refine tf (v := ?_) 4 rfl (Or.inl ⟨by rfl, ?_⟩) ?_
 rotate_left
 · (intro w hSw; (try dsimp only at hSw); go_simp; try with_reducible rfl)
 (try simp only [Act.put, sA, s0, s1])
 refine so 1 rfl fun K hK => ?_
 clear hHeld
 go_simp
 refine (HHD.out _ (HLV.out.below HM.out.bel)).mono ?_
 rintro e wy2 ⟨rfl, hb⟩
 replace HM := Lib.hid (show Mem w [blkE (w.heap.size + 1 + 1 + 1) 27 (mac.map u8v), blkE (w.heap.size + 1 + 1) 27 (ck.map u8v), blkE (w.heap.size + 1) 25 (nn.map u8v), blkE w.heap.size 23 (p.map u8v)] wy2 from HM.out.below hb)
 clear hb
 go_wp2_with fail
 refine hK.out _ _ (HM.out) (fun hHeld => ?_)
 clear hK K
 (try simp only [Act.put, sA, s0, s1])
 refine so 5 rfl fun K hK => ?_
 clear hHeld
 go_simp
 refine (HXS.out (w.heap.size + 1 + 1) (w.heap.size + 1 + 1 + 1) _ (blk_all (HM.out.blk 1 rfl) HK.out) (blk_all (HM.out.blk 0 rfl) HMC.out)).mono ?_
 rintro e wy3 ⟨A5, c5, rfl, ho, hb⟩
 obtain ⟨g5, rfl⟩ := (own_addr ho).2.2 (by omega)
 replace HM := Lib.hid (show Mem w [rdE wy2.heap.size wy3.heap.size (some ⟨g5, 0, none⟩) 32 sl, blkE (w.heap.size + 1 + 1 + 1) 27 (mac.map u8v), blkE (w.heap.size + 1 + 1) 27 (ck.map u8v), blkE (w.heap.size + 1) 25 (nn.map u8v), blkE w.heap.size 23 (p.map u8v)] wy3 from HM.out.callRd hb ho)
 clear hb ho
 go_wp2_with fail
 refine hK.out _ _ ((HM.out.erase 0)) (fun hHeld => ?_)
 clear hK K
 (try simp only [Act.put, sA, s0, s1])
 refine wpAnyH_stronger (T := fun W' => Mem w [rdE wy2.heap.size wy3.heap.size (some ⟨g5, 0, none⟩) 32 sl, blkE (w.heap.size + 1 + 1 + 1) 27 (mac.map u8v), blkE (w.heap.size + 1 + 1) 27 (ck.map u8v), blkE (w.heap.size + 1) 25 (nn.map u8v), blkE w.heap.size 23 (p.map u8v)] W') (fun _ h' => h'.erase 0) _ _ _ _ ?_
 replace hHeld := HM.out
 refine tf (v := ?_) 6 rfl (Or.inl ⟨by rfl, ?_⟩) ?_
 rotate_left
 · (intro w hSw; (try dsimp only at hSw); go_simp; try with_reducible rfl)
 (try simp only [Act.put, sA, s0, s1])
 refine wpAnyH_done (by kernel_rfl) ?_ _
 clear hHeld
 go_upto_region 2 with fail
 refine wp_region_held_drew (S := fun W' => Mem w [rdE wy2.heap.size wy3.heap.size (some ⟨g5, 0, none⟩) 32 sl, blkE (w.heap.size + 1 + 1 + 1) 27 (mac.map u8v), blkE (w.heap.size + 1 + 1) 27 (ck.map u8v), blkE (w.heap.size + 1) 25 (nn.map u8v), blkE w.heap.size 23 (p.map u8v)] W') (by kernel_rfl) ((HM.out).drew) (fun hHeld => ?_)
 replace HM := Lib.hid HM.out.drew
 generalize wy3.drew = wd51 at HM hHeld ⊢
 refine tf (v := ?_) 0 rfl (Or.inl ⟨by rfl, ?_⟩) ?_
 rotate_left
 · (intro w hSw; (try dsimp only at hSw); go_simp; try with_reducible rfl)
 (try simp only [Act.put, sA, s0, s1])
 refine tf (v := .agg cn) 1 rfl (by rw [← HCN.out]; exact yields_load_obj (by rfl) 25 (.tmp 6) rfl (w.heap.size + 1) 0 rfl (nn.map u8v) (fun w' hb => (Mem.blk hb 3 rfl).all) _ Tryz.underlying25 rfl (xc_cellsL nn HN.out)) ?_
 (try simp only [Act.put, sA, s0, s1])
 refine tf (v := ?_) 2 rfl (Or.inl ⟨by rfl, ?_⟩) ?_
 rotate_left
 · (intro w hSw; (try dsimp only at hSw); go_simp; try with_reducible rfl)
 (try simp only [Act.put, sA, s0, s1])
 refine tf (v := ?_) 3 rfl (Or.inl ⟨by rfl, ?_⟩) ?_
 rotate_left
 · (intro w hSw; (try dsimp only at hSw); have ha := run_arrayAt_off (P := Tryz.prog) w 22 g5 0 32 c5 32 5 Tryz.underlying22 (Nat.le_refl _); go_simp; try with_reducible rfl)
 (try simp only [Act.put, sA, s0, s1])
 refine tf (v := .agg cs5) 4 rfl (by rw [← HCS.out]; exact yields_load_obj (by rfl) 22 (.tmp 21) rfl g5 0 rfl (sl.map u8v) (fun w' hb => (Mem.rd hb 0 rfl).at_all) _ Tryz.underlying22 rfl (by rw [List.length_map, HSLN.out]; kernel_rfl)) ?_
 (try simp only [Act.put, sA, s0, s1])
 refine tf (v := .agg cM2) 5 rfl (yields_build_obj (by rfl) 40 [(0, .tmp 18), (1, .tmp 19), (2, .tmp 22)] rfl cM2 HBT.out) ?_
 (try simp only [Act.put, sA, s0, s1])
 refine so 6 rfl fun K hK => ?_
 clear hHeld
 go_simp
 refine (HEN.out _).mono ?_
 rintro e wy52 ⟨A9, c9, rfl, h1, h2, hr, hb⟩
 replace HM := Lib.hid (show Mem w [rdE wd51.heap.size wy52.heap.size A9 (msLen 3) (encB 3 (MsgM.mk [r] (nn ++ sl))), rdE wy2.heap.size wy3.heap.size (some ⟨g5, 0, none⟩) 32 sl, blkE (w.heap.size + 1 + 1 + 1) 27 (mac.map u8v), blkE (w.heap.size + 1 + 1) 27 (ck.map u8v), blkE (w.heap.size + 1) 25 (nn.map u8v), blkE w.heap.size 23 (p.map u8v)] wy52 from HM.out.call hb _ rfl rfl hr)
 have HR9 := Lib.hid (And.intro h1 h2)
 clear h1 h2 hr hb
 go_wp2_with fail
 refine hK.out _ _ ((HM.out.erase 0)) (fun hHeld => ?_)
 clear hK K
 (try simp only [Act.put, sA, s0, s1])
 refine wpAnyH_stronger (T := fun W' => Mem w [rdE wd51.heap.size wy52.heap.size A9 (msLen 3) (encB 3 (MsgM.mk [r] (nn ++ sl))), rdE wy2.heap.size wy3.heap.size (some ⟨g5, 0, none⟩) 32 sl, blkE (w.heap.size + 1 + 1 + 1) 27 (mac.map u8v), blkE (w.heap.size + 1 + 1) 27 (ck.map u8v), blkE (w.heap.size + 1) 25 (nn.map u8v), blkE w.heap.size 23 (p.map u8v)] W') (fun _ h' => h'.erase 0) _ _ _ _ ?_
 replace hHeld := HM.out
 refine tf (v := ?_) 7 rfl (Or.inl ⟨by rfl, ?_⟩) ?_
 rotate_left
 · (intro w hSw; (try dsimp only at hSw); go_simp; try with_reducible rfl)
 (try simp only [Act.put, sA, s0, s1])
 refine wpAnyH_done (by kernel_rfl) ?_ _
 clear hHeld
 go_wp2_with fail
 go_ret
 exact ⟨A9, c9, rfl, HR9.out.1, HR9.out.2, (HM.out.get 0 rfl).from_ (MemE.low HM.out.1 0 _ rfl), HM.out.bel⟩
end Go.Proofs.YtlddafkikkaonaaGreatDoor
