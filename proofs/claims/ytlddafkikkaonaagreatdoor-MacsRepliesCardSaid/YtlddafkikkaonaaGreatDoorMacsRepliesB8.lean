/-
  The contract of the reference's Block: the words of the state plus those of Core of it, each as four bytes. What the sealing of the reference asks of its own layers. The contract of the reference's filled: zero bytes up to a multiple of 16. The contract of the reference's tag of a cipher text. No statement is proved here.
-/
import Derived.Maps.AppendAt
import Derived.Outline
import Derived.Deep.DeepCutAuto
import Derived.RegionTactic
import Derived.BigRegion
import Derived.Test.YtlddafkikkaonaaGreatDoorMacsRepliesB7
namespace Go.Proofs.YtlddafkikkaonaaGreatDoor
open Go.RowKit
theorem refJoin_two (g : Nat) (t : TypeId) (A1 A2 : Option Addr) (n1 c1 n2 c2 : Nat) (l1 l2 : List UInt8) (M : Nat) (hM : n1 + n2 = M) (hn0 : 0 < M) (hn : M ≤ 1000000) (w : World) (hb : Blk w g t [.slice A1 n1 c1, .slice A2 n2 c2]) (h1 : Rd w w.heap.size A1 n1 l1) (h2 : Rd w w.heap.size A2 n2 l2) :
 Calls Tryz.prog 25 #[.slice (some ⟨g, 0, none⟩) 2 2] w fun e w' => ∃ g' c', e = .returned (.slice (some ⟨g', 0, none⟩) M c') ∧ Rd w' w'.heap.size (some ⟨g', 0, none⟩) M (l1 ++ l2) ∧ M ≤ c' ∧ c' ≤ maxLen ∧ Below w.heap.size w w' := by
 have hf : flat [⟨A1, n1, c1, l1⟩, ⟨A2, n2, c2, l2⟩] 2 = l1 ++ l2 := by simp [flat]
 have hl : (l1 ++ l2).length = M := by rw [List.length_append, h1.1, h2.1, hM]
 have hJ := refJoin_any w.heap.size 2 (some ⟨g, 0, none⟩) [⟨A1, n1, c1, l1⟩, ⟨A2, n2, c2, l2⟩] (by simp) (by show (flat _ 2).length ≤ _; rw [hf, hl]; exact hn) w (Nat.le_refl _) (fun _ => ⟨g, rfl, hb.lt, fun j hj => by
  rw [hb.cell]
  match j, hj with
  | 0, _ => exact ⟨rfl, h1⟩
  | 1, _ => exact ⟨rfl, h2⟩
  | j + 2, hj => exact absurd hj (by simp)⟩)
 refine hJ.mono ?_
 rintro e w' ⟨A', c', he, ho, hbl⟩
 have e2 : ([⟨A1, n1, c1, l1⟩, ⟨A2, n2, c2, l2⟩] : List Part).length = 2 := rfl
 rw [e2, hf, hl] at he ho
 obtain ⟨g', rfl, q1, q2⟩ := own_some ho hn0
 exact ⟨g', c', he, Rd.of_own ho, q1, q2, hbl⟩
theorem blk_rd {w : World} {g m : Nat} {t : TypeId} {l : List UInt8} (h : Blk w g t (l.map u8v)) (hl : l.length = m) : Rd w w.heap.size (some ⟨g, 0, none⟩) m l := by
 have h2 := (h.rd 0 m (by omega)).mono h.lt
 rwa [List.drop_zero, List.take_of_length_le (by omega)] at h2
set_option maxRecDepth 100000 in
set_option maxHeartbeats 8000000 in
theorem refBlock_any (k n : List UInt8) (hk : k.length = 32) (hn : n.length = 12) (c : UInt32) (w : World) :
 Calls Tryz.prog 63 #[.agg (k.map u8v).toArray, .int .u32 (c.toNat : Int), .agg (n.map u8v).toArray] w fun e w' => e = .returned (.agg ((blockL k c n).map u8v).toArray) ∧ Below w.heap.size w w' := by
 obtain ⟨i0, hi, hz0, hz1, hz2⟩ := info_parts Tryz.info5
 have LC := Lib.hid (refLit_some c.toNat (by have := c.toNat_lt; omega))
 have SC := fun (db cap : Nat) (h1 : 16 ≤ cap) (h2 : cap ≤ maxLen) (w' : World) (hr : Rd w' w'.heap.size (some ⟨db, 0, none⟩) 16 (littleL c.toNat 4 ++ n)) => refState_any k hk w'.heap.size db 0 cap (littleL c.toNat 4 ++ n) h1 h2 w' (Nat.le_refl _) hr
 rw [state_rest] at SC
 obtain ⟨ck, hck⟩ : ∃ ck, (k.map u8v).toArray = ck := ⟨_, rfl⟩
 obtain ⟨cn, hcn⟩ : ∃ cn, (n.map u8v).toArray = cn := ⟨_, rfl⟩
 rw [hck] at SC
 obtain ⟨ls, hls⟩ : ∃ ls, stateW k c n = ls := ⟨_, rfl⟩
 have HLS := Lib.hid (show ls.length = 16 by rw [← hls]; exact stateW_length k c n)
 rw [hls] at SC
 obtain ⟨sa, has⟩ : ∃ sa, (ls.map u32v).toArray = sa := ⟨_, rfl⟩
 rw [has] at SC
 have CC := fun w' : World => refCore_any ls HLS.out w'
 obtain ⟨lm, hlm⟩ : ∃ lm, coreW 10 ls = lm := ⟨_, rfl⟩
 have HLM := Lib.hid (show lm.length = 16 by rw [← hlm, coreW_length]; exact HLS.out)
 rw [has, hlm] at CC
 obtain ⟨sm, ham⟩ : ∃ sm, (lm.map u32v).toArray = sm := ⟨_, rfl⟩
 rw [ham] at CC
 have EB : blockL k c n = bytesW (lm.zipWith (· + ·) ls) := by rw [← hlm, ← hls]; rfl
 obtain ⟨ws, hws⟩ : ∃ ws, lm.zipWith (· + ·) ls = ws := ⟨_, rfl⟩
 have HWS := Lib.hid (show ws.length = 16 by rw [← hws, List.length_zipWith, HLS.out, HLM.out]; rfl)
 have HWD := Lib.hid (fun (j : Nat) (hj : j < 16) => show wd lm j + wd ls j = wd ws j by rw [← hws, word_of lm ls j HLM.out HLS.out hj])
 rw [hws] at EB
 rw [hck, hcn]
 have HK0 := Lib.hid (show Blk (w.alloc (.cells ck 23)) w.heap.size 23 (k.map u8v) by rw [← hck]; exact Blk.new w _ _)
 have HN0 := Lib.hid (show Blk ((w.alloc (.cells ck 23)).alloc (.cells cn 57)) (w.heap.size + 1) 57 (n.map u8v) by rw [← hcn]; exact Blk.new' _ (by simp) _ _)
 have HCK := Lib.hid hck
 have HAS := Lib.hid has
 have HAM := Lib.hid ham
 have HEB := Lib.hid EB
 have HSC := Lib.hid SC
 have HCC := Lib.hid CC
 have HK := Lib.hid hk
 have HN := Lib.hid hn
 clear hk hn hck hcn has ham EB SC CC hls hlm hws
 go_enter Tryz.func63, Tryz.ntmps63
 go_upto_region 1 with fail
 have hk1 := (HK0.out.alloc (.cells cn 57)).alloc (.cells z64.toArray 89)
 have hn1 := HN0.out.alloc (.cells z64.toArray 89)
 have hzz1 : Blk (((w.alloc (.cells ck 23)).alloc (.cells cn 57)).alloc (.cells z64.toArray 89)) (w.heap.size + 2) 89 z64 := Blk.new' _ (by simp) _ _
 have hbel1 : Below w.heap.size w (((w.alloc (.cells ck 23)).alloc (.cells cn 57)).alloc (.cells z64.toArray 89)) := (((Below.refl _ _).alloc (Nat.le_refl _) _).alloc (by simp) _).alloc (by simp; omega) _
 have hs1 : w.heap.size + 3 ≤ (((w.alloc (.cells ck 23)).alloc (.cells cn 57)).alloc (.cells z64.toArray 89)).heap.size := by simp
 clear HK0 HN0
 have e64 : z64.toArray = zb64 := rfl
 rw [e64] at hk1 hn1 hzz1 hbel1 hs1
 generalize (((w.alloc (.cells ck 23)).alloc (.cells cn 57)).alloc (.cells zb64 89)) = w1 at hk1 hn1 hzz1 hbel1 hs1 ⊢
 clear e64
 rw [show w.heap.size + 1 + 1 = w.heap.size + 2 from rfl]
 have H1 := Lib.hid (And.intro (show Env w w.heap.size k n [] w1 from ⟨hk1, hn1, (fun q hq => by cases hq), hbel1⟩) (And.intro hzz1 hs1))
 clear hk1 hn1 hzz1 hbel1 hs1
 have hcv : IntKind.u64.wrap (c.toNat : Int) = (c.toNat : Int) := by
  have := c.toNat_lt
  rw [IntKind.wrap_u64]
  omega
 go_cut [7] (fun v wx => ∃ P, v = .pointer (some ⟨P, 0, none⟩) ∧ Blk wx P 86 (ls.map u32v) ∧ Blk wx (w.heap.size + 2) 89 z64 ∧ Below w.heap.size w wx ∧ w.heap.size + 3 ≤ P)
 case first =>
  refine wp_region_held_drew (S := fun w' => Below w1.heap.size w1 w') (by kernel_rfl) ((Below.refl w1.heap.size w1).drew) (fun hHeld => ?_)
  refine tf (v := ?_) 1 rfl (Or.inl ⟨by rfl, ?_⟩) ?_
  rotate_left
  · (intro w hSw; (try dsimp only at hSw); go_simp; try with_reducible rfl)
  (try simp only [Act.put, sA, s0, s1])
  refine tf (v := ?_) 2 rfl (Or.inl ⟨by rfl, ?_⟩) ?_
  rotate_left
  · (intro w hSw; (try dsimp only at hSw); go_simp; try with_reducible rfl)
  (try simp only [Act.put, sA, s0, s1])
  refine tf (v := ?_) 4 rfl (Or.inl ⟨by rfl, ?_⟩) ?_
  rotate_left
  · (intro w hSw; (try dsimp only at hSw); go_simp; try with_reducible rfl)
  (try simp only [Act.put, sA, s0, s1])
  refine tf (v := .agg ck) 0 rfl ((by rw [← HCK.out]; exact yields_load_blk (by rfl) 23 (.tmp 3) rfl w.heap.size rfl 23 (k.map u8v) (fun w' hb => (H1.out.1.below hb).1) 32 5 Tryz.underlying23 (cells32 k HK.out))) ?_
  (try simp only [Act.put, sA, s0, s1])
  have EV := Lib.hid H1.out.1.drew
  have HZ := Lib.hid H1.out.2.1.drew
  generalize hwd : w1.drew = wd at hHeld EV HZ ⊢
  clear hwd
  refine step_two 3 8 rfl rfl (by kernel_rfl) (fun K hK => ?_) (fun K hK => ?_)
  ·
   go_simp
   refine (LC.out _).mono ?_
   rintro e wq ⟨gl, cl, rfl, ho, hb⟩
   replace EV := Lib.hid (EV.out.below hb)
   replace HZ := Lib.hid (HZ.out.below hb HZ.out.lt)
   replace EV := Lib.hid (EV.out.cons (Rd.of_own ho))
   go_wp2_with fail
   refine hK.out _ _ (hHeld.trans (hb.mono hHeld.size)) (fun hHeld => ?_)
   clear hK K
   (try simp only [Act.put, sA, s0, s1])
   clear ho hb
   refine step_two 5 8 rfl rfl (by kernel_rfl) (fun K hK => ?_) (fun K hK => ?_)
   ·
    go_simp
    refine hK.out _ _ (hHeld.alloc hHeld.size _) (fun hHeld => ?_)
    clear hK K
    (try simp only [Act.put, sA, s0, s1])
    replace EV := Lib.hid (EV.out.below ((Below.refl _ _).alloc (Nat.le_refl _) (.cells #[.slice (some ⟨gl, 0, none⟩) 4 cl, .slice (some ⟨w.heap.size + 1, 0, none⟩) 12 12] 29)))
    replace HZ := Lib.hid (HZ.out.below ((Below.refl _ _).alloc (Nat.le_refl _) (.cells #[.slice (some ⟨gl, 0, none⟩) 4 cl, .slice (some ⟨w.heap.size + 1, 0, none⟩) 12 12] 29)) HZ.out.lt)
    have BG := Lib.hid (show Blk ((wq).alloc (.cells #[.slice (some ⟨gl, 0, none⟩) 4 cl, .slice (some ⟨w.heap.size + 1, 0, none⟩) 12 12] 29)) (wq).heap.size 29 [.slice (some ⟨gl, 0, none⟩) 4 cl, .slice (some ⟨w.heap.size + 1, 0, none⟩) 12 12] from Blk.new _ _ _)
    generalize hwb : (wq).alloc (.cells #[.slice (some ⟨gl, 0, none⟩) 4 cl, .slice (some ⟨w.heap.size + 1, 0, none⟩) 12 12] 29) = wb at EV HZ BG hHeld ⊢
    clear hwb
    generalize hG : (wq).heap.size = gb at BG ⊢
    clear hG
    refine step_two 6 8 rfl rfl (by kernel_rfl) (fun K hK => ?_) (fun K hK => ?_)
    ·
     go_simp
     refine (refJoin_two gb 29 (some ⟨gl, 0, none⟩) (some ⟨w.heap.size + 1, 0, none⟩) 4 cl 12 12 (littleL c.toNat 4) n 16 (by omega) (by omega) (by omega) _ BG.out (EV.out.rd (by simp)) (blk_rd EV.out.2.1 HN.out)).mono ?_
     rintro e wj ⟨gj, cj, rfl, hrj, q1, q2, hb⟩
     replace EV := Lib.hid (EV.out.below hb)
     replace HZ := Lib.hid (HZ.out.below hb HZ.out.lt)
     replace BG := Lib.hid (BG.out.below hb BG.out.lt)
     replace EV := Lib.hid (EV.out.cons hrj)
     go_wp2_with fail
     refine hK.out _ _ (hHeld.trans (hb.mono hHeld.size)) (fun hHeld => ?_)
     clear hK K
     (try simp only [Act.put, sA, s0, s1])
     clear hrj hb
     refine step_two 7 8 rfl rfl (by kernel_rfl) (fun K hK => ?_) (fun K hK => ?_)
     ·
      go_simp
      refine (HSC.out gj cj q1 q2 _ (EV.out.rd (by simp))).mono ?_
      rintro e wt ⟨rfl, hb⟩
      replace EV := Lib.hid (EV.out.below hb)
      replace HZ := Lib.hid (HZ.out.below hb HZ.out.lt)
      replace BG := Lib.hid (BG.out.below hb BG.out.lt)
      go_wp2_with fail
      refine hK.out _ _ (hHeld.trans (hb.mono hHeld.size)) (fun hHeld => ?_)
      clear hK K
      (try simp only [Act.put, sA, s0, s1])
      clear hb
      refine so 8 rfl fun K hK => ?_
      have HSZ := Lib.hid hHeld.size
      go_simp
      refine hK.out _ _ (hHeld.alloc hHeld.size _) (fun hHeld => ?_)
      clear hK K
      (try simp only [Act.put, sA, s0, s1])
      replace EV := Lib.hid (EV.out.below ((Below.refl _ _).alloc (Nat.le_refl _) (.cells z16.toArray 86)))
      replace HZ := Lib.hid (HZ.out.below ((Below.refl _ _).alloc (Nat.le_refl _) (.cells z16.toArray 86)) HZ.out.lt)
      replace BG := Lib.hid (BG.out.below ((Below.refl _ _).alloc (Nat.le_refl _) (.cells z16.toArray 86)) BG.out.lt)
      have BP := Lib.hid (show Blk ((wt).alloc (.cells z16.toArray 86)) (wt).heap.size 86 z16 from Blk.new _ _ _)
      rw [z16_arr] at EV HZ BP BG
      generalize hwa : (wt).alloc (.cells zw16_ 86) = wa at EV HZ BP hHeld BG ⊢
      clear hwa
      generalize hP : (wt).heap.size = P at BP ⊢
      have HP := Lib.hid (show w1.heap.size ≤ P by rw [← hP]; exact HSZ.out)
      clear hP
      refine so 9 rfl fun K hK => ?_
      refine step_store_blk _ rfl 86 (.tmp 7) (.tmp 18) rfl P (ls.map u32v) rfl (by rw [HAS.out]; rfl) 86 z16 BP.out (cells16 ls HLS.out) (by rw [List.length_map, HLS.out]; rfl) (u32v_one _) ?_
      intro ws' hbs hgs
      have hE := Below.grown hHeld hgs hHeld.size (by have := HP.out; intro k hk; injection hk with hk; omega)
      refine hK.out _ _ hE (fun hHeld => ?_)
      clear hK K
      simp only [Act.put]
      refine wpAnyH_done (by kernel_rfl) ?_ _
      have HF := Lib.hid (And.intro hbs (And.intro (H1.out.2.1.below hE H1.out.2.1.lt) (And.intro (H1.out.1.2.2.2.trans (hE.mono H1.out.1.2.2.2.size)) (Nat.le_trans H1.out.2.2 HP.out))))
      clear hE hHeld hbs hgs
      go_wp2
      go_meet
      exact ⟨P, rfl, HF.out⟩
     ·
      have HSZ := Lib.hid hHeld.size
      go_simp
      refine hK.out _ _ (hHeld.alloc hHeld.size _) (fun hHeld => ?_)
      clear hK K
      (try simp only [Act.put, sA, s0, s1])
      replace EV := Lib.hid (EV.out.below ((Below.refl _ _).alloc (Nat.le_refl _) (.cells z16.toArray 86)))
      replace HZ := Lib.hid (HZ.out.below ((Below.refl _ _).alloc (Nat.le_refl _) (.cells z16.toArray 86)) HZ.out.lt)
      replace BG := Lib.hid (BG.out.below ((Below.refl _ _).alloc (Nat.le_refl _) (.cells z16.toArray 86)) BG.out.lt)
      have BP := Lib.hid (show Blk ((wj).alloc (.cells z16.toArray 86)) (wj).heap.size 86 z16 from Blk.new _ _ _)
      rw [z16_arr] at EV HZ BP BG
      generalize hwa : (wj).alloc (.cells zw16_ 86) = wa at EV HZ BP hHeld BG ⊢
      clear hwa
      generalize hP : (wj).heap.size = P at BP ⊢
      have HP := Lib.hid (show w1.heap.size ≤ P by rw [← hP]; exact HSZ.out)
      clear hP
      refine so 7 rfl fun K hK => ?_
      go_simp
      refine (HSC.out gj cj q1 q2 _ (EV.out.rd (by simp))).mono ?_
      rintro e wt ⟨rfl, hb⟩
      replace EV := Lib.hid (EV.out.below hb)
      replace HZ := Lib.hid (HZ.out.below hb HZ.out.lt)
      replace BP := Lib.hid (BP.out.below hb BP.out.lt)
      replace BG := Lib.hid (BG.out.below hb BG.out.lt)
      go_wp2_with fail
      refine hK.out _ _ (hHeld.trans (hb.mono hHeld.size)) (fun hHeld => ?_)
      clear hK K
      (try simp only [Act.put, sA, s0, s1])
      clear hb
      refine so 9 rfl fun K hK => ?_
      refine step_store_blk _ rfl 86 (.tmp 7) (.tmp 18) rfl P (ls.map u32v) rfl (by rw [HAS.out]; rfl) 86 z16 BP.out (cells16 ls HLS.out) (by rw [List.length_map, HLS.out]; rfl) (u32v_one _) ?_
      intro ws' hbs hgs
      have hE := Below.grown hHeld hgs hHeld.size (by have := HP.out; intro k hk; injection hk with hk; omega)
      refine hK.out _ _ hE (fun hHeld => ?_)
      clear hK K
      simp only [Act.put]
      refine wpAnyH_done (by kernel_rfl) ?_ _
      have HF := Lib.hid (And.intro hbs (And.intro (H1.out.2.1.below hE H1.out.2.1.lt) (And.intro (H1.out.1.2.2.2.trans (hE.mono H1.out.1.2.2.2.size)) (Nat.le_trans H1.out.2.2 HP.out))))
      clear hE hHeld hbs hgs
      go_wp2
      go_meet
      exact ⟨P, rfl, HF.out⟩
    ·
     have HSZ := Lib.hid hHeld.size
     go_simp
     refine hK.out _ _ (hHeld.alloc hHeld.size _) (fun hHeld => ?_)
     clear hK K
     (try simp only [Act.put, sA, s0, s1])
     replace EV := Lib.hid (EV.out.below ((Below.refl _ _).alloc (Nat.le_refl _) (.cells z16.toArray 86)))
     replace HZ := Lib.hid (HZ.out.below ((Below.refl _ _).alloc (Nat.le_refl _) (.cells z16.toArray 86)) HZ.out.lt)
     replace BG := Lib.hid (BG.out.below ((Below.refl _ _).alloc (Nat.le_refl _) (.cells z16.toArray 86)) BG.out.lt)
     have BP := Lib.hid (show Blk ((wb).alloc (.cells z16.toArray 86)) (wb).heap.size 86 z16 from Blk.new _ _ _)
     rw [z16_arr] at EV HZ BP BG
     generalize hwa : (wb).alloc (.cells zw16_ 86) = wa at EV HZ BP hHeld BG ⊢
     clear hwa
     generalize hP : (wb).heap.size = P at BP ⊢
     have HP := Lib.hid (show w1.heap.size ≤ P by rw [← hP]; exact HSZ.out)
     clear hP
     refine so 6 rfl fun K hK => ?_
     go_simp
     refine (refJoin_two gb 29 (some ⟨gl, 0, none⟩) (some ⟨w.heap.size + 1, 0, none⟩) 4 cl 12 12 (littleL c.toNat 4) n 16 (by omega) (by omega) (by omega) _ BG.out (EV.out.rd (by simp)) (blk_rd EV.out.2.1 HN.out)).mono ?_
     rintro e wj ⟨gj, cj, rfl, hrj, q1, q2, hb⟩
     replace EV := Lib.hid (EV.out.below hb)
     replace HZ := Lib.hid (HZ.out.below hb HZ.out.lt)
     replace BP := Lib.hid (BP.out.below hb BP.out.lt)
     replace BG := Lib.hid (BG.out.below hb BG.out.lt)
     replace EV := Lib.hid (EV.out.cons hrj)
     go_wp2_with fail
     refine hK.out _ _ (hHeld.trans (hb.mono hHeld.size)) (fun hHeld => ?_)
     clear hK K
     (try simp only [Act.put, sA, s0, s1])
     clear hrj hb
     refine so 7 rfl fun K hK => ?_
     go_simp
     refine (HSC.out gj cj q1 q2 _ (EV.out.rd (by simp))).mono ?_
     rintro e wt ⟨rfl, hb⟩
     replace EV := Lib.hid (EV.out.below hb)
     replace HZ := Lib.hid (HZ.out.below hb HZ.out.lt)
     replace BP := Lib.hid (BP.out.below hb BP.out.lt)
     replace BG := Lib.hid (BG.out.below hb BG.out.lt)
     go_wp2_with fail
     refine hK.out _ _ (hHeld.trans (hb.mono hHeld.size)) (fun hHeld => ?_)
     clear hK K
     (try simp only [Act.put, sA, s0, s1])
     clear hb
     refine so 9 rfl fun K hK => ?_
     refine step_store_blk _ rfl 86 (.tmp 7) (.tmp 18) rfl P (ls.map u32v) rfl (by rw [HAS.out]; rfl) 86 z16 BP.out (cells16 ls HLS.out) (by rw [List.length_map, HLS.out]; rfl) (u32v_one _) ?_
     intro ws' hbs hgs
     have hE := Below.grown hHeld hgs hHeld.size (by have := HP.out; intro k hk; injection hk with hk; omega)
     refine hK.out _ _ hE (fun hHeld => ?_)
     clear hK K
     simp only [Act.put]
     refine wpAnyH_done (by kernel_rfl) ?_ _
     have HF := Lib.hid (And.intro hbs (And.intro (H1.out.2.1.below hE H1.out.2.1.lt) (And.intro (H1.out.1.2.2.2.trans (hE.mono H1.out.1.2.2.2.size)) (Nat.le_trans H1.out.2.2 HP.out))))
     clear hE hHeld hbs hgs
     go_wp2
     go_meet
     exact ⟨P, rfl, HF.out⟩
   ·
    have HSZ := Lib.hid hHeld.size
    go_simp
    refine hK.out _ _ (hHeld.alloc hHeld.size _) (fun hHeld => ?_)
    clear hK K
    (try simp only [Act.put, sA, s0, s1])
    replace EV := Lib.hid (EV.out.below ((Below.refl _ _).alloc (Nat.le_refl _) (.cells z16.toArray 86)))
    replace HZ := Lib.hid (HZ.out.below ((Below.refl _ _).alloc (Nat.le_refl _) (.cells z16.toArray 86)) HZ.out.lt)
    have BP := Lib.hid (show Blk ((wq).alloc (.cells z16.toArray 86)) (wq).heap.size 86 z16 from Blk.new _ _ _)
    rw [z16_arr] at EV HZ BP
    generalize hwa : (wq).alloc (.cells zw16_ 86) = wa at EV HZ BP hHeld ⊢
    clear hwa
    generalize hP : (wq).heap.size = P at BP ⊢
    have HP := Lib.hid (show w1.heap.size ≤ P by rw [← hP]; exact HSZ.out)
    clear hP
    refine so 5 rfl fun K hK => ?_
    go_simp
    refine hK.out _ _ (hHeld.alloc hHeld.size _) (fun hHeld => ?_)
    clear hK K
    (try simp only [Act.put, sA, s0, s1])
    replace EV := Lib.hid (EV.out.below ((Below.refl _ _).alloc (Nat.le_refl _) (.cells #[.slice (some ⟨gl, 0, none⟩) 4 cl, .slice (some ⟨w.heap.size + 1, 0, none⟩) 12 12] 29)))
    replace HZ := Lib.hid (HZ.out.below ((Below.refl _ _).alloc (Nat.le_refl _) (.cells #[.slice (some ⟨gl, 0, none⟩) 4 cl, .slice (some ⟨w.heap.size + 1, 0, none⟩) 12 12] 29)) HZ.out.lt)
    replace BP := Lib.hid (BP.out.below ((Below.refl _ _).alloc (Nat.le_refl _) (.cells #[.slice (some ⟨gl, 0, none⟩) 4 cl, .slice (some ⟨w.heap.size + 1, 0, none⟩) 12 12] 29)) BP.out.lt)
    have BG := Lib.hid (show Blk ((wa).alloc (.cells #[.slice (some ⟨gl, 0, none⟩) 4 cl, .slice (some ⟨w.heap.size + 1, 0, none⟩) 12 12] 29)) (wa).heap.size 29 [.slice (some ⟨gl, 0, none⟩) 4 cl, .slice (some ⟨w.heap.size + 1, 0, none⟩) 12 12] from Blk.new _ _ _)
    generalize hwb : (wa).alloc (.cells #[.slice (some ⟨gl, 0, none⟩) 4 cl, .slice (some ⟨w.heap.size + 1, 0, none⟩) 12 12] 29) = wb at EV HZ BG hHeld BP ⊢
    clear hwb
    generalize hG : (wa).heap.size = gb at BG ⊢
    clear hG
    refine so 6 rfl fun K hK => ?_
    go_simp
    refine (refJoin_two gb 29 (some ⟨gl, 0, none⟩) (some ⟨w.heap.size + 1, 0, none⟩) 4 cl 12 12 (littleL c.toNat 4) n 16 (by omega) (by omega) (by omega) _ BG.out (EV.out.rd (by simp)) (blk_rd EV.out.2.1 HN.out)).mono ?_
    rintro e wj ⟨gj, cj, rfl, hrj, q1, q2, hb⟩
    replace EV := Lib.hid (EV.out.below hb)
    replace HZ := Lib.hid (HZ.out.below hb HZ.out.lt)
    replace BP := Lib.hid (BP.out.below hb BP.out.lt)
    replace BG := Lib.hid (BG.out.below hb BG.out.lt)
    replace EV := Lib.hid (EV.out.cons hrj)
    go_wp2_with fail
    refine hK.out _ _ (hHeld.trans (hb.mono hHeld.size)) (fun hHeld => ?_)
    clear hK K
    (try simp only [Act.put, sA, s0, s1])
    clear hrj hb
    refine so 7 rfl fun K hK => ?_
    go_simp
    refine (HSC.out gj cj q1 q2 _ (EV.out.rd (by simp))).mono ?_
    rintro e wt ⟨rfl, hb⟩
    replace EV := Lib.hid (EV.out.below hb)
    replace HZ := Lib.hid (HZ.out.below hb HZ.out.lt)
    replace BP := Lib.hid (BP.out.below hb BP.out.lt)
    replace BG := Lib.hid (BG.out.below hb BG.out.lt)
    go_wp2_with fail
    refine hK.out _ _ (hHeld.trans (hb.mono hHeld.size)) (fun hHeld => ?_)
    clear hK K
    (try simp only [Act.put, sA, s0, s1])
    clear hb
    refine so 9 rfl fun K hK => ?_
    refine step_store_blk _ rfl 86 (.tmp 7) (.tmp 18) rfl P (ls.map u32v) rfl (by rw [HAS.out]; rfl) 86 z16 BP.out (cells16 ls HLS.out) (by rw [List.length_map, HLS.out]; rfl) (u32v_one _) ?_
    intro ws' hbs hgs
    have hE := Below.grown hHeld hgs hHeld.size (by have := HP.out; intro k hk; injection hk with hk; omega)
    refine hK.out _ _ hE (fun hHeld => ?_)
    clear hK K
    simp only [Act.put]
    refine wpAnyH_done (by kernel_rfl) ?_ _
    have HF := Lib.hid (And.intro hbs (And.intro (H1.out.2.1.below hE H1.out.2.1.lt) (And.intro (H1.out.1.2.2.2.trans (hE.mono H1.out.1.2.2.2.size)) (Nat.le_trans H1.out.2.2 HP.out))))
    clear hE hHeld hbs hgs
    go_wp2
    go_meet
    exact ⟨P, rfl, HF.out⟩
  ·
   have HSZ := Lib.hid hHeld.size
   go_simp
   refine hK.out _ _ (hHeld.alloc hHeld.size _) (fun hHeld => ?_)
   clear hK K
   (try simp only [Act.put, sA, s0, s1])
   replace EV := Lib.hid (EV.out.below ((Below.refl _ _).alloc (Nat.le_refl _) (.cells z16.toArray 86)))
   replace HZ := Lib.hid (HZ.out.below ((Below.refl _ _).alloc (Nat.le_refl _) (.cells z16.toArray 86)) HZ.out.lt)
   have BP := Lib.hid (show Blk ((wd).alloc (.cells z16.toArray 86)) (wd).heap.size 86 z16 from Blk.new _ _ _)
   rw [z16_arr] at EV HZ BP
   generalize hwa : (wd).alloc (.cells zw16_ 86) = wa at EV HZ BP hHeld ⊢
   clear hwa
   generalize hP : (wd).heap.size = P at BP ⊢
   have HP := Lib.hid (show w1.heap.size ≤ P by rw [← hP]; exact HSZ.out)
   clear hP
   refine so 3 rfl fun K hK => ?_
   go_simp
   refine (LC.out _).mono ?_
   rintro e wq ⟨gl, cl, rfl, ho, hb⟩
   replace EV := Lib.hid (EV.out.below hb)
   replace HZ := Lib.hid (HZ.out.below hb HZ.out.lt)
   replace BP := Lib.hid (BP.out.below hb BP.out.lt)
   replace EV := Lib.hid (EV.out.cons (Rd.of_own ho))
   go_wp2_with fail
   refine hK.out _ _ (hHeld.trans (hb.mono hHeld.size)) (fun hHeld => ?_)
   clear hK K
   (try simp only [Act.put, sA, s0, s1])
   clear ho hb
   refine so 5 rfl fun K hK => ?_
   go_simp
   refine hK.out _ _ (hHeld.alloc hHeld.size _) (fun hHeld => ?_)
   clear hK K
   (try simp only [Act.put, sA, s0, s1])
   replace EV := Lib.hid (EV.out.below ((Below.refl _ _).alloc (Nat.le_refl _) (.cells #[.slice (some ⟨gl, 0, none⟩) 4 cl, .slice (some ⟨w.heap.size + 1, 0, none⟩) 12 12] 29)))
   replace HZ := Lib.hid (HZ.out.below ((Below.refl _ _).alloc (Nat.le_refl _) (.cells #[.slice (some ⟨gl, 0, none⟩) 4 cl, .slice (some ⟨w.heap.size + 1, 0, none⟩) 12 12] 29)) HZ.out.lt)
   replace BP := Lib.hid (BP.out.below ((Below.refl _ _).alloc (Nat.le_refl _) (.cells #[.slice (some ⟨gl, 0, none⟩) 4 cl, .slice (some ⟨w.heap.size + 1, 0, none⟩) 12 12] 29)) BP.out.lt)
   have BG := Lib.hid (show Blk ((wq).alloc (.cells #[.slice (some ⟨gl, 0, none⟩) 4 cl, .slice (some ⟨w.heap.size + 1, 0, none⟩) 12 12] 29)) (wq).heap.size 29 [.slice (some ⟨gl, 0, none⟩) 4 cl, .slice (some ⟨w.heap.size + 1, 0, none⟩) 12 12] from Blk.new _ _ _)
   generalize hwb : (wq).alloc (.cells #[.slice (some ⟨gl, 0, none⟩) 4 cl, .slice (some ⟨w.heap.size + 1, 0, none⟩) 12 12] 29) = wb at EV HZ BG hHeld BP ⊢
   clear hwb
   generalize hG : (wq).heap.size = gb at BG ⊢
   clear hG
   refine so 6 rfl fun K hK => ?_
   go_simp
   refine (refJoin_two gb 29 (some ⟨gl, 0, none⟩) (some ⟨w.heap.size + 1, 0, none⟩) 4 cl 12 12 (littleL c.toNat 4) n 16 (by omega) (by omega) (by omega) _ BG.out (EV.out.rd (by simp)) (blk_rd EV.out.2.1 HN.out)).mono ?_
   rintro e wj ⟨gj, cj, rfl, hrj, q1, q2, hb⟩
   replace EV := Lib.hid (EV.out.below hb)
   replace HZ := Lib.hid (HZ.out.below hb HZ.out.lt)
   replace BP := Lib.hid (BP.out.below hb BP.out.lt)
   replace BG := Lib.hid (BG.out.below hb BG.out.lt)
   replace EV := Lib.hid (EV.out.cons hrj)
   go_wp2_with fail
   refine hK.out _ _ (hHeld.trans (hb.mono hHeld.size)) (fun hHeld => ?_)
   clear hK K
   (try simp only [Act.put, sA, s0, s1])
   clear hrj hb
   refine so 7 rfl fun K hK => ?_
   go_simp
   refine (HSC.out gj cj q1 q2 _ (EV.out.rd (by simp))).mono ?_
   rintro e wt ⟨rfl, hb⟩
   replace EV := Lib.hid (EV.out.below hb)
   replace HZ := Lib.hid (HZ.out.below hb HZ.out.lt)
   replace BP := Lib.hid (BP.out.below hb BP.out.lt)
   replace BG := Lib.hid (BG.out.below hb BG.out.lt)
   go_wp2_with fail
   refine hK.out _ _ (hHeld.trans (hb.mono hHeld.size)) (fun hHeld => ?_)
   clear hK K
   (try simp only [Act.put, sA, s0, s1])
   clear hb
   refine so 9 rfl fun K hK => ?_
   refine step_store_blk _ rfl 86 (.tmp 7) (.tmp 18) rfl P (ls.map u32v) rfl (by rw [HAS.out]; rfl) 86 z16 BP.out (cells16 ls HLS.out) (by rw [List.length_map, HLS.out]; rfl) (u32v_one _) ?_
   intro ws' hbs hgs
   have hE := Below.grown hHeld hgs hHeld.size (by have := HP.out; intro k hk; injection hk with hk; omega)
   refine hK.out _ _ hE (fun hHeld => ?_)
   clear hK K
   simp only [Act.put]
   refine wpAnyH_done (by kernel_rfl) ?_ _
   have HF := Lib.hid (And.intro hbs (And.intro (H1.out.2.1.below hE H1.out.2.1.lt) (And.intro (H1.out.1.2.2.2.trans (hE.mono H1.out.1.2.2.2.size)) (Nat.le_trans H1.out.2.2 HP.out))))
   clear hE hHeld hbs hgs
   go_wp2
   go_meet
   exact ⟨P, rfl, HF.out⟩
 case rest =>
  obtain ⟨P, rfl, hcut⟩ := hcut
  have HB3 := Lib.hid hcut
  clear hcut H1 hcv
  go_wp2_with (refine wpList_load_blk rfl 86 (.tmp 7) rfl P rfl 86 (ls.map u32v) HB3.out.1 16 28 Tryz.underlying86 (cells16 ls HLS.out) ?_; rw [HAS.out])
  refine (HCC.out _).mono ?_
  rintro e w4 ⟨rfl, hb4⟩
  have HB4 := Lib.hid (show Blk w4 P 86 (ls.map u32v) ∧ Blk w4 (w.heap.size + 2) 89 z64 ∧ Below w.heap.size w w4 ∧ P + 1 ≤ w4.heap.size from ⟨HB3.out.1.below hb4 HB3.out.1.lt, HB3.out.2.1.below hb4 HB3.out.2.1.lt, HB3.out.2.2.1.trans (hb4.mono HB3.out.2.2.1.size), Nat.le_trans HB3.out.1.lt hb4.size⟩)
  have HPP := Lib.hid HB3.out.2.2.2
  clear HB3 hb4
  go_upto_region 3 with (refine wpList_store_blk rfl 86 (.tmp 8) (.tmp 20) rfl w4.heap.size (lm.map u32v) rfl (by rw [HAM.out]; rfl) 86 z16 (Blk.new w4 86 z16) (cells16 lm HLM.out) (by rw [List.length_map, HLM.out]; rfl) (u32v_one _) ?_; intro w5 hb5 hg5)
  simp only [Act.put]
  have HB5 := Lib.hid (show Blk w5 w4.heap.size 86 (lm.map u32v) ∧ Blk w5 P 86 (ls.map u32v) ∧ Blk w5 (w.heap.size + 2) 89 z64 ∧ Below w.heap.size w w5 ∧ w4.heap.size + 1 ≤ w5.heap.size by
   have h1 := HB4.out.2.2.2
   have h2 := HPP.out
   have h3 := HB4.out.2.2.1.size
   exact ⟨hb5, (HB4.out.1.alloc _).grown hg5 (by simp; omega), (HB4.out.2.1.alloc _).grown hg5 (by simp; omega), Below.grown (HB4.out.2.2.1.alloc h3 (.cells z16.toArray 86)) hg5 (by simp; omega) (by intro k hk; injection hk with hk; omega), by have := hg5.size; simpa using this⟩)
  have HO := Lib.hid (show w.heap.size + 2 < P ∧ P < w4.heap.size ∧ w4.heap.size < w5.heap.size by
   have h1 := HB4.out.2.2.2
   have h2 := HPP.out
   have h3 := HB5.out.2.2.2.2
   omega)
  clear hb5 hg5 HB4 HPP
  generalize w4.heap.size = Q at HB5 HO ⊢
  go_upto_region 5 with fail
  have h64 : z64.toArray = zb64 := rfl
  have h1 := HB5.out.1.alloc (.cells z64.toArray 89)
  have h2 := HB5.out.2.1.alloc (.cells z64.toArray 89)
  have h3 := HB5.out.2.2.1.alloc (.cells z64.toArray 89)
  have h4 := HB5.out.2.2.2.1.alloc HB5.out.2.2.2.1.size (.cells z64.toArray 89)
  have h5 : Blk (w5.alloc (.cells z64.toArray 89)) w5.heap.size 89 z64 := Blk.new w5 _ _
  rw [h64] at h1 h2 h3 h4 h5
  generalize w5.alloc (.cells zb64 89) = w6 at h1 h2 h3 h4 h5 ⊢
  clear h64 HB5
  generalize w5.heap.size = R at h5 HO ⊢
  have HB6 := Lib.hid (And.intro h1 (And.intro h2 (And.intro h3 (And.intro h5 h4))))
  clear h1 h2 h3 h4 h5
  go_loopw [21, 10] (fun i _ wr => ∃ j : Nat, j ≤ 16 ∧ i = .int .i64 j ∧ Blk wr Q 86 (lm.map u32v) ∧ Blk wr P 86 (ls.map u32v) ∧ Blk wr (w.heap.size + 2) 89 z64 ∧ Blk wr R 89 ((rowB ws j).map u8v) ∧ Below w.heap.size w wr) (fun i _ _ => 16 - (intOf i).toNat)
  case atStart => exact ⟨0, by omega, rfl, HB6.out.1, HB6.out.2.1, HB6.out.2.2.1, by rw [rowB_zero]; exact HB6.out.2.2.2.1, HB6.out.2.2.2.2⟩
  case round =>
   clear HB6
   obtain ⟨j, hj, rfl, hq, hp, hz, hr, hbel⟩ := hrel
   by_cases hlt : j < 16
   ·
    have d16 : decide ((j : Int) < 16) = true := by simp; omega
    have HB7 := Lib.hid (And.intro hq (And.intro hp (And.intro hz (And.intro hr hbel))))
    have HL := Lib.hid (refLit_some (wd ws j).toNat (by have := (wd ws j).toNat_lt; omega))
    clear hq hp hz hr hbel
    go_upto_region 7 with fail
    clear d16
    have hwr : IntKind.i64.wrap (4 * (j : Int)) = 4 * (j : Int) := IntWalk.i64_in _ (by omega)
    have hwa : IntKind.u32.wrap (((wd lm j).toNat : Int) + ((wd ls j).toNat : Int)) = ((wd ws j).toNat : Int) := by rw [u32_add, HWD.out j hlt]
    have hwc : IntKind.u64.wrap ((wd ws j).toNat : Int) = ((wd ws j).toNat : Int) := by
     have := (wd ws j).toNat_lt
     rw [IntKind.wrap_u64]
     omega
    have bj : (j : Int) < 16 := by omega
    have hsl : ∀ w' : World, (Instr.sliceAt 89 (.pointer (some ⟨R, 0, none⟩)) (some (.int .i64 (4 * (j : Int)))) none none).run Tryz.prog w' = .ok (.slice (some ⟨R, 4 * j, none⟩) (64 - 4 * j) (64 - 4 * j)) w' :=
     fun w' => run_slice_array_from (P := Tryz.prog) w' 89 5 64 Tryz.underlying89 i0 hi hz1 R .i64 (4 * j) (4 * (j : Int)) (by omega) (by omega)
    have cx : ∀ w' : World, Blk w' Q 86 (lm.map u32v) ∧ Blk w' P 86 (ls.map u32v) → w'.cell? ⟨Q, j, none⟩ = some (.int .u32 ((wd lm j).toNat : Int)) := fun w' h => h.1.word j (by have := HLM.out; omega)
    have cy : ∀ w' : World, Blk w' Q 86 (lm.map u32v) ∧ Blk w' P 86 (ls.map u32v) → w'.cell? ⟨P, j, none⟩ = some (.int .u32 ((wd ls j).toNat : Int)) := fun w' h => h.2.word j (by have := HLS.out; omega)
    refine wp_region_held_drew (S := fun w' => Blk w' Q 86 (lm.map u32v) ∧ Blk w' P 86 (ls.map u32v)) (by kernel_rfl) (And.intro HB7.out.1.drew HB7.out.2.1.drew) (fun hHeld => ?_)
    refine tf (v := ?_) 0 rfl (Or.inl ⟨by rfl, ?_⟩) ?_
    rotate_left
    · (intro w hSw; (try dsimp only at hSw); go_simp; try with_reducible rfl)
    (try simp only [Act.put, sA, s0, s1])
    refine tf (v := ?_) 1 rfl (Or.inl ⟨by rfl, ?_⟩) ?_
    rotate_left
    · (intro w hSw; (try dsimp only at hSw); go_simp; try with_reducible rfl)
    (try simp only [Act.put, sA, s0, s1])
    refine tf (v := ?_) 2 rfl (Or.inl ⟨by rfl, ?_⟩) ?_
    rotate_left
    · (intro w hSw; (try dsimp only at hSw); go_simp; try with_reducible rfl)
    (try simp only [Act.put, sA, s0, s1])
    refine tf (v := ?_) 3 rfl (Or.inl ⟨by rfl, ?_⟩) ?_
    rotate_left
    · (intro w hSw; (try dsimp only at hSw); go_simp; try with_reducible rfl)
    (try simp only [Act.put, sA, s0, s1])
    refine tf (v := ?_) 4 rfl (Or.inl ⟨by rfl, ?_⟩) ?_
    rotate_left
    · (intro w hSw; (try dsimp only at hSw); go_simp; try with_reducible rfl)
    (try simp only [Act.put, sA, s0, s1])
    refine tf (v := .int .u32 ((wd lm j).toNat : Int)) 5 rfl (Or.inl ⟨by rfl, fun w' hSw => by have h := cx w' hSw; go_simp⟩) ?_
    (try simp only [Act.put, sA, s0, s1])
    refine tf (v := ?_) 6 rfl (Or.inl ⟨by rfl, ?_⟩) ?_
    rotate_left
    · (intro w hSw; (try dsimp only at hSw); go_simp; try with_reducible rfl)
    (try simp only [Act.put, sA, s0, s1])
    refine tf (v := ?_) 7 rfl (Or.inl ⟨by rfl, ?_⟩) ?_
    rotate_left
    · (intro w hSw; (try dsimp only at hSw); go_simp; try with_reducible rfl)
    (try simp only [Act.put, sA, s0, s1])
    refine tf (v := .int .u32 ((wd ls j).toNat : Int)) 8 rfl (Or.inl ⟨by rfl, fun w' hSw => by have h := cy w' hSw; go_simp⟩) ?_
    (try simp only [Act.put, sA, s0, s1])
    refine tf (v := ?_) 9 rfl (Or.inl ⟨by rfl, ?_⟩) ?_
    rotate_left
    · (intro w hSw; (try dsimp only at hSw); go_simp; try with_reducible rfl)
    (try simp only [Act.put, sA, s0, s1])
    refine tf (v := ?_) 10 rfl (Or.inl ⟨by rfl, ?_⟩) ?_
    rotate_left
    · (intro w hSw; (try dsimp only at hSw); go_simp; try with_reducible rfl)
    (try simp only [Act.put, sA, s0, s1])
    refine so 11 rfl fun K hK => ?_
    go_simp
    refine (HL.out _).mono ?_
    rintro e wq ⟨gl, cl, rfl, hown, hbq⟩
    have HB8 := Lib.hid (show Blk wq Q 86 (lm.map u32v) ∧ Blk wq P 86 (ls.map u32v) ∧ Blk wq (w.heap.size + 2) 89 z64 ∧ Blk wq R 89 ((rowB ws j).map u8v) ∧ Below w.heap.size w wq from ⟨HB7.out.1.drew.below hbq HB7.out.1.lt, HB7.out.2.1.drew.below hbq HB7.out.2.1.lt, HB7.out.2.2.1.drew.below hbq HB7.out.2.2.1.lt, HB7.out.2.2.2.1.drew.below hbq HB7.out.2.2.2.1.lt, HB7.out.2.2.2.2.drew.trans (hbq.mono HB7.out.2.2.2.2.size)⟩)
    have HW := Lib.hid hown
    clear hown hbq
    go_wp2_with fail
    refine hK.out _ _ (And.intro HB8.out.1 HB8.out.2.1) (fun hHeld => ?_)
    clear hK K
    (try simp only [Act.put, sA, s0, s1])
    refine so 12 rfl fun K hK => ?_
    refine step_copy_bytes _ rfl (.tmp 26) (.tmp 35) 29 29 (by rfl) 5 Tryz.underlying29 (by kernel_rfl) R (4 * j) (64 - 4 * j) (64 - 4 * j) ⟨gl, 0, none⟩ 4 cl (by rfl) (by rfl) ((rowB ws j).map u8v) 89 HB8.out.2.2.2.1 ((littleL (wd ws j).toNat 4).map u8v) (by rw [List.length_map, littleL_length]; exact (Nat.min_eq_left (show 4 ≤ 64 - 4 * j by omega)).symm) ?_ (by simp only [List.length_map, littleL_length, rowB_length ws HWS.out j hj]; omega) (u8v_one _) ?_
    ·
     intro i v h
     have h' : i < 4 := by
      have := (List.getElem?_eq_some_iff.1 h).1
      simpa [littleL_length] using this
     have := HW.out.cellAt i (by omega)
     rw [Go.WideShapes.add_plain, Nat.zero_add]
     exact this.trans h
    intro w8 hb8 hg8
    rw [rowB_step ws HWS.out j hlt _ rfl] at hb8
    have HB9 := Lib.hid (show Blk w8 Q 86 (lm.map u32v) ∧ Blk w8 P 86 (ls.map u32v) ∧ Blk w8 (w.heap.size + 2) 89 z64 ∧ Blk w8 R 89 ((rowB ws (j + 1)).map u8v) ∧ Below w.heap.size w w8 by
     have := HO.out
     exact ⟨HB8.out.1.grown hg8 (by simp; omega), HB8.out.2.1.grown hg8 (by simp; omega), HB8.out.2.2.1.grown hg8 (by simp; omega), hb8, below_blk HB8.out.2.2.2.2 hg8 (by omega)⟩)
    refine hK.out _ _ (And.intro HB9.out.1 HB9.out.2.1) (fun hHeld => ?_)
    clear hK K
    (try simp only [Act.put, sA, s0, s1])
    refine wpAnyH_done (by kernel_rfl) ?_ _
    clear hb8 hg8 HB8 HB7 HW hwr hwc hsl hwa cx cy hHeld
    go_wp2
    go_roundw
    case rel => exact ⟨j + 1, by omega, by go_num, HB9.out.1, HB9.out.2.1, HB9.out.2.2.1, HB9.out.2.2.2.1, HB9.out.2.2.2.2⟩
    case measure => simp [intOf]; omega
   ·
    obtain rfl : j = 16 := by omega
    rw [rowB_end ws HWS.out] at hr
    have HB := Lib.hid (And.intro hr (And.intro hz hbel))
    clear hr hz hbel hq hp
    have HLz := Lib.hid (show (bytesW ws).length = 64 by rw [bytesW_length, HWS.out])
    obtain ⟨lz, hlz⟩ : ∃ lz, bytesW ws = lz := ⟨_, rfl⟩
    rw [hlz] at HB HLz
    have HZ := Lib.hid (HEB.out.trans hlz)
    obtain ⟨cz, hcz⟩ : ∃ cz, (lz.map u8v).toArray = cz := ⟨_, rfl⟩
    have HCZ := Lib.hid hcz
    clear hcz hlz
    rw [show ((16 : Nat) : Int) = 16 from rfl]
    go_wp2_with (first | (refine wpList_load_blk rfl 89 (.tmp 9) rfl R rfl 89 (lz.map u8v) HB.out.1 64 5 Tryz.underlying89 (cells64 lz HLz.out) ?_; rw [HCZ.out]) | (refine wpList_store_blk rfl 89 (.tmp 6) (.tmp 38) rfl (w.heap.size + 2) (lz.map u8v) rfl (by show Value.agg cz = _; rw [HCZ.out]) 89 z64 HB.out.2.1 (cells64 lz HLz.out) (by rw [List.length_map, HLz.out]; rfl) (u8v_one _) ?_; intro w9 hb9 hg9))
    exact bodyPost_ret (results_blk rfl _ _ (w.heap.size + 2) 89 (lz.map u8v) 64 5 rfl hb9 Tryz.underlying89 (cells64 lz HLz.out)) rfl ⟨by rw [HZ.out], below_blk HB.out.2.2 hg9 (by omega)⟩
/-- what the reference's sealing asks of its own layers -/
def RefBlockC : Prop := ∀ (k n : List UInt8), k.length = 32 → n.length = 12 → ∀ (c : UInt32) (w : World),
 Calls Tryz.prog 63 #[.agg (k.map u8v).toArray, .int .u32 (c.toNat : Int), .agg (n.map u8v).toArray] w fun e w' => e = .returned (.agg ((blockL k c n).map u8v).toArray) ∧ Below w.heap.size w w'
def RefPolyC : Prop := ∀ (k : List UInt8), k.length = 32 → ∀ (D : Option Addr) (n cap : Nat) (l : List UInt8), n ≤ cap → cap ≤ maxLen → ∀ w : World, Rd w w.heap.size D n l →
 Calls Tryz.prog 64 #[.agg (k.map u8v).toArray, .slice D n cap] w fun e w' => e = .returned (.agg ((tagL k l).map u8v).toArray) ∧ Below w.heap.size w w'
set_option maxRecDepth 100000 in
set_option maxHeartbeats 1000000 in
theorem refFilled_any (B c : Nat) (A : Option Addr) (n : Nat) (l : List UInt8) (hn : n ≤ 1000000) (w : World) (hB : B ≤ w.heap.size) (hr : Rd w B A n l) :
 Calls Tryz.prog 65 #[.slice A n c] w fun e w' => ∃ A' c', e = .returned (.slice A' (l ++ padL l).length c') ∧ w'.ownsRow w.heap.size 5 1 (.slice A' (l ++ padL l).length c') (l ++ padL l).length ((l ++ padL l).map u8v) ∧ Below w.heap.size w w' := by
 obtain ⟨i0, hi, hz0, hz1, hz2⟩ := info_parts Tryz.info5
 have HLN := Lib.hid hr.1
 obtain ⟨fl, hfl⟩ : ∃ fl, l ++ padL l = fl := ⟨_, rfl⟩
 rw [hfl]
 have HFL := Lib.hid hfl
 clear hfl
 have hr1 := hr.alloc hB (.cells #[] 5)
 have HR := Lib.hid hr1
 have hown0 := World.ownsRow_lit (base := w.heap.size) (e := 5) (size := 1) w #[] 0 (Nat.le_refl _) (by simp) rfl
 have hb0 : Below w.heap.size w (w.alloc (.cells #[] 5)) := (Below.refl _ _).alloc (Nat.le_refl _) _
 have H0 := Lib.hid (And.intro hown0 hb0)
 clear hr hr1 hown0 hb0
 go_enter Tryz.func65, Tryz.ntmps65
 go_upto_region 1 with fail
 go_wp2_with (refine wpList_append_rd _ rfl (.tmp 4) (.tmp 5) 29 rfl w.heap.size 5 i0 (.int .u8 0) Tryz.underlying29 hi hz0 hz1 hz2 rfl (.slice (some ⟨w.heap.size, 0, none⟩) 0 0) 0 [] rfl H0.out.1 _ _ _ _ _ rfl HR.out (by omega) H0.out.2.size ?_; intro v1 w1 hown1 hg1)
 rw [Nat.zero_add, List.nil_append] at hown1
 have HW := Lib.hid (And.intro hown1 (H0.out.2.grown hg1 H0.out.2.size (own_from H0.out.1)))
 clear hown1 hg1 H0
 obtain ⟨pn, hpn⟩ : ∃ pn, (16 - l.length % 16) % 16 = pn := ⟨_, rfl⟩
 have HP := Lib.hid hpn
 have hpl : pn ≤ 15 := by omega
 clear hpn
 go_loopw [3] (fun v wr => ∃ j : Nat, j ≤ pn ∧ wr.ownsRow w.heap.size 5 1 v (n + j) ((l ++ List.replicate j 0).map u8v) ∧ Below w.heap.size w wr) (fun v _ => n + 16 - lenS v)
 case atStart => exact ⟨0, by omega, by rw [List.replicate_zero, List.append_nil]; exact HW.out.1, HW.out.2⟩
 case round =>
  clear HW
  obtain ⟨j, hj, hown, hb⟩ := hrel
  obtain ⟨A1, c1, rfl, _⟩ := own_slice hown
  have HO := Lib.hid (And.intro hown hb)
  clear hown hb
  have hmod : (n + j) % 16 = 0 ↔ j = pn := by have := HP.out; have := HLN.out; omega
  by_cases hlt : j < pn
  ·
   have hd : ((((n : Int) + (j : Int)) % 16 != 0) = true) := by
    have : ¬ ((n : Int) + (j : Int)) % 16 = 0 := by omega
    simp [this]
   have hnew := rd_new wr 5 [0]
   have hown1 := HO.out.1.alloc (.cells ([0].map u8v).toArray 5)
   have hb1 := HO.out.2.alloc HO.out.2.size (.cells ([0].map u8v).toArray 5)
   rw [show ([0].map u8v).toArray = #[.int .u8 0] from rfl] at hnew hown1 hb1
   have HN := Lib.hid (And.intro hnew (And.intro hown1 hb1))
   clear hnew hown1 hb1
   go_upto_region 3 with fail
   clear hd
   go_wp2_with (refine wpList_append_rd _ rfl (.tmp 11) (.tmp 12) 29 rfl w.heap.size 5 i0 (.int .u8 0) Tryz.underlying29 hi hz0 hz1 hz2 rfl (.slice A1 (n + j) c1) (n + j) ((l ++ List.replicate j 0).map u8v) rfl HN.out.2.1 (wr.heap.size + 1) (some ⟨wr.heap.size, 0, none⟩) 1 1 [0] rfl HN.out.1 (by omega) HN.out.2.2.size ?_; intro v2 w2 hown2 hg2)
   have HW := Lib.hid (And.intro hown2 (HN.out.2.2.grown hg2 HN.out.2.2.size (own_from HN.out.2.1)))
   clear hown2 hg2
   go_roundw
   case rel =>
    refine ⟨j + 1, by omega, ?_, HW.out.2⟩
    have h := HW.out.1
    rw [← List.map_append, List.append_assoc, show List.replicate j (0 : UInt8) ++ [0] = List.replicate (j + 1) 0 from (List.replicate_succ').symm] at h
    exact h
   case measure =>
    obtain ⟨A3, c3, rfl, _⟩ := own_slice HW.out.1
    simp [lenS]
    omega
  ·
   obtain rfl : j = pn := by omega
   have hd : ((((n : Int) + (j : Int)) % 16 != 0) = false) := by
    have : ((n : Int) + (j : Int)) % 16 = 0 := by omega
    simp [this]
   have e : l ++ List.replicate j 0 = fl := by rw [← HFL.out, padL, HP.out]
   have e2 : n + j = fl.length := by rw [← e, List.length_append, List.length_replicate, HLN.out]
   have h := HO.out.1
   rw [e, e2] at h
   have HF := Lib.hid (And.intro h HO.out.2)
   have HE := Lib.hid e2
   clear h e e2 HO
   go_wp2
   rw [HE.out]
   go_ret
   exact ⟨_, _, rfl, HF.out.1, HF.out.2⟩
set_option maxRecDepth 100000 in
theorem refFilled_m (c : Nat) (A : Option Addr) (n : Nat) (l : List UInt8) (hn : n ≤ 1000000) (m : Nat) (hm : (l ++ padL l).length = m) (w : World) (hr : Rd w w.heap.size A n l) :
 Calls Tryz.prog 65 #[.slice A n c] w fun e w' => ∃ A' c', e = .returned (.slice A' m c') ∧ Rd w' w'.heap.size A' m (l ++ padL l) ∧ Below w.heap.size w w' := by
 refine (refFilled_any _ c A n l hn w (Nat.le_refl _) hr).mono ?_
 rintro e w' ⟨A', c', he, ho, hb⟩
 rw [hm] at he ho
 exact ⟨A', c', he, Rd.of_own ho, hb⟩
set_option maxRecDepth 100000 in
set_option maxHeartbeats 8000000 in
theorem refTag_any (HBC : RefBlockC) (HPC : RefPolyC) (k nn : List UInt8) (hk : k.length = 32) (hn : nn.length = 12) (Ac Am : Option Addr) (nc cc nm cm : Nat) (c more : List UInt8) (hnc : nc ≤ 400000) (hnm : nm ≤ 400000) (w : World) (hrc : Rd w w.heap.size Ac nc c) (hrm : Rd w w.heap.size Am nm more) :
 Calls Tryz.prog 48 #[.agg (k.map u8v).toArray, .agg (nn.map u8v).toArray, .slice Ac nc cc, .slice Am nm cm] w fun e w' => e = .returned (.agg ((sealT k nn c more).map u8v).toArray) ∧ Below w.heap.size w w' := by
 have BC := HBC k nn hk hn 0
 rw [show ((0 : UInt32).toNat : Int) = 0 from rfl] at BC
 have PC := HPC (oneK k nn) (oneK_length k nn)
 obtain ⟨ck, hck⟩ : ∃ ck, (k.map u8v).toArray = ck := ⟨_, rfl⟩
 obtain ⟨cn, hcn⟩ : ∃ cn, (nn.map u8v).toArray = cn := ⟨_, rfl⟩
 obtain ⟨ok, hok⟩ : ∃ ok, ((oneK k nn).map u8v).toArray = ok := ⟨_, rfl⟩
 have hbl := blockL_len k 0 nn
 have hone : oneK k nn = (blockL k 0 nn).take 32 := rfl
 obtain ⟨bl, hble⟩ : ∃ bl, blockL k 0 nn = bl := ⟨_, rfl⟩
 rw [hble] at BC hbl hone
 obtain ⟨cb, hcb⟩ : ∃ cb, (bl.map u8v).toArray = cb := ⟨_, rfl⟩
 rw [hck, hcn, hcb] at BC
 rw [hok] at PC
 rw [hck, hcn]
 have h0 : Blk (((w.alloc (.cells ck 23)).alloc (.cells cn 57)).alloc (.cells (aeZ 16).toArray 27)) w.heap.size 23 (k.map u8v) := by rw [← hck]; exact ((Blk.new w _ _).alloc _).alloc _
 have h1 : Blk (((w.alloc (.cells ck 23)).alloc (.cells cn 57)).alloc (.cells (aeZ 16).toArray 27)) (w.heap.size + 1) 57 (nn.map u8v) := by rw [← hcn]; exact (Blk.new' (w.alloc (.cells ck 23)) (by simp) _ _).alloc _
 have h2 : Blk (((w.alloc (.cells ck 23)).alloc (.cells cn 57)).alloc (.cells (aeZ 16).toArray 27)) (w.heap.size + 2) 27 (aeZ 16) := Blk.new' _ (by simp) _ _
 have h3 : Below w.heap.size w (((w.alloc (.cells ck 23)).alloc (.cells cn 57)).alloc (.cells (aeZ 16).toArray 27)) := (((Below.refl _ _).alloc (Nat.le_refl _) _).alloc (by simp) _).alloc (by simp; omega) _
 rw [aeZ16] at h0 h1 h2 h3
 have HLN := Lib.hid (And.intro hrc.1 hrm.1)
 obtain ⟨m1, hm1⟩ : ∃ m1, (more ++ padL more).length = m1 := ⟨_, rfl⟩
 obtain ⟨m2, hm2⟩ : ∃ m2, (c ++ padL c).length = m2 := ⟨_, rfl⟩
 have hp1 := padL_length more
 have hp2 := padL_length c
 have hm3 : m1 ≤ nm + 15 := by rw [← hm1, List.length_append]; have := hrm.1; omega
 have hm4 : m2 ≤ nc + 15 := by rw [← hm2, List.length_append]; have := hrc.1; omega
 obtain ⟨MM, hMM⟩ : ∃ MM, m1 + m2 + (8 + 8) = MM := ⟨_, rfl⟩
 have HMM := Lib.hid hMM
 have hM6 : MM ≤ 1000000 := by omega
 have HM := Lib.hid (And.intro hm1 hm2)
 clear hm1 hm2 hp1 hp2 hm3 hm4 hMM
 obtain ⟨st, hst⟩ : ∃ st, sealT k nn c more = st := ⟨_, rfl⟩
 have hstl : st.length = 16 := by rw [← hst]; exact sealT_length _ _ _ _
 obtain ⟨cs, hcs⟩ : ∃ cs, (st.map u8v).toArray = cs := ⟨_, rfl⟩
 have HST := Lib.hid (And.intro hstl (And.intro hcs hst))
 have hmac : more ++ padL more ++ (c ++ padL c) ++ (littleL nm 8 ++ littleL nc 8) = macL more c := by rw [macL, hrc.1, hrm.1]
 have HMAC := Lib.hid hmac
 clear hst hcs hstl hmac
 have HRC := Lib.hid hrc
 have HRM := Lib.hid hrm
 have HC := Lib.hid (And.intro hck (And.intro hcn hcb))
 have HOK := Lib.hid hok
 have HL := Lib.hid (And.intro hk (And.intro hn (And.intro hbl hone)))
 have HBC2 := Lib.hid BC
 have HPC2 := Lib.hid PC
 clear hck hcn hcb hok hk hn hbl hone BC PC hrc hrm HBC HPC hble
 go_enter Tryz.func48, Tryz.ntmps48
 go_upto_region 1 with fail
 generalize (((w.alloc (.cells ck 23)).alloc (.cells cn 57)).alloc (.cells zb16 27)) = w1 at h0 h1 h2 h3 ⊢
 rw [show w.heap.size + 1 + 1 = w.heap.size + 2 from rfl]
 have H1 := Lib.hid (And.intro h0 (And.intro h1 (And.intro h2 h3)))
 clear h0 h1 h2 h3
 go_wp2_with (first | (refine wpList_load_blk rfl 23 (.tmp 4) rfl w.heap.size rfl 23 (k.map u8v) H1.out.1 32 5 Tryz.underlying23 (cells32 k HL.out.1) ?_; rw [HC.out.1]) | (refine wpList_load_blk rfl 57 (.tmp 5) rfl (w.heap.size + 1) rfl 57 (nn.map u8v) H1.out.2.1 12 5 Tryz.underlying57 (ae_cellsN nn HL.out.2.1) ?_; rw [HC.out.2.1]))
 refine (HBC2.out _).mono ?_
 rintro e w2 ⟨rfl, hb2⟩
 have H2 := Lib.hid (And.intro (H1.out.2.2.1.below hb2 H1.out.2.2.1.lt) (H1.out.2.2.2.trans (hb2.mono H1.out.2.2.2.size)))
 clear hb2 H1
 go_upto_region 2 with (refine wpList_store_blk rfl 89 (.tmp 9) (.tmp 13) rfl w2.heap.size (bl.map u8v) rfl (by show Value.agg cb = _; rw [HC.out.2.2]) 89 (aeZ 64) (Blk.new w2 89 (aeZ 64)) (ae_cells64 bl HL.out.2.2.1) (by rw [List.length_map, HL.out.2.2.1]; rfl) (u8v_one _) ?_; intro w3 hb3 hg3)
 simp only [Act.put]
 have H3 := Lib.hid (show Blk w3 w2.heap.size 89 (bl.map u8v) ∧ Blk w3 (w.heap.size + 2) 27 (aeZ 16) ∧ Below w.heap.size w w3 ∧ w.heap.size + 2 < w2.heap.size from ⟨hb3, (H2.out.1.alloc _).grown hg3 (by have := H2.out.1.lt; simp; omega), below_blk (H2.out.2.alloc H2.out.2.size _) hg3 H2.out.2.size, H2.out.1.lt⟩)
 clear hb3 hg3 H2
 generalize w2.heap.size = P at H3 ⊢
 go_upto_region 3 with fail
 have H5 := Lib.hid (show Blk (w3.alloc (.cells (aeZ 32).toArray 23)) w3.heap.size 23 (aeZ 32) ∧ Blk (w3.alloc (.cells (aeZ 32).toArray 23)) P 89 (bl.map u8v) ∧ Blk (w3.alloc (.cells (aeZ 32).toArray 23)) (w.heap.size + 2) 27 (aeZ 16) ∧ Below w.heap.size w (w3.alloc (.cells (aeZ 32).toArray 23)) ∧ w.heap.size + 2 < w3.heap.size ∧ P < w3.heap.size from ⟨Blk.new w3 _ _, H3.out.1.alloc _, H3.out.2.1.alloc _, H3.out.2.2.1.alloc H3.out.2.2.1.size _, H3.out.2.1.lt, H3.out.1.lt⟩)
 rw [aeZ32] at H5
 generalize w3.alloc (.cells zb32 23) = w4 at H5 ⊢
 generalize w3.heap.size = Q at H5 ⊢
 clear H3
 have HSRC := Lib.hid (show ∀ j v, ((oneK k nn).map u8v)[j]? = some v → w4.drew.cell? ((Addr.mk P 0 none).add j) = some v by
  have h := (H5.out.2.1.drew.rd 0 32 (by rw [HL.out.2.2.1]; omega)).src
  rw [List.drop_zero, ← HL.out.2.2.2] at h
  exact h)
 refine wp_region_held_drew (S := fun _ => True) (by kernel_rfl) (trivial) (fun hHeld => ?_)
 refine tf (v := ?_) 0 rfl (Or.inl ⟨by rfl, ?_⟩) ?_
 rotate_left
 · (intro w hSw; (try dsimp only at hSw); go_simp; try with_reducible rfl)
 (try simp only [Act.put, sA, s0, s1])
 refine tf (v := ?_) 1 rfl (Or.inl ⟨by rfl, ?_⟩) ?_
 rotate_left
 · (intro w hSw; (try dsimp only at hSw); go_simp; try with_reducible rfl)
 (try simp only [Act.put, sA, s0, s1])
 refine so 2 rfl fun K hK => ?_
 refine step_copy_bytes _ rfl (.tmp 14) (.tmp 15) 29 29 (by rfl) 5 Tryz.underlying29 (by kernel_rfl) Q 0 32 32 ⟨P, 0, none⟩ 32 64 (by rfl) (by rfl) (aeZ 32) 23 H5.out.1.drew ((oneK k nn).map u8v) (by rw [List.length_map, oneK_length]; rfl) HSRC.out (by rw [List.length_map, oneK_length]; decide) (u8v_one _) ?_
 intro w6 hb6 hg6
 refine hK.out _ _ (trivial) (fun hHeld => ?_)
 clear hK K
 (try simp only [Act.put, sA, s0, s1])
 refine wpAnyH_done (by kernel_rfl) ?_ _
 have hone6 : (aeZ 32).take 0 ++ (oneK k nn).map u8v ++ (aeZ 32).drop (0 + ((oneK k nn).map u8v).length) = (oneK k nn).map u8v := by
  rw [List.take_zero, List.nil_append, List.length_map, oneK_length, List.drop_of_length_le (by simp [aeZ]), List.append_nil]
 rw [hone6] at hb6
 have HB := Lib.hid (show Blk w6 Q 23 ((oneK k nn).map u8v) ∧ Blk w6 (w.heap.size + 2) 27 (aeZ 16) ∧ Below w.heap.size w w6 from ⟨hb6, H5.out.2.2.1.drew.grown hg6 (by have := H5.out.2.2.2.2.1; simp; omega), below_blk H5.out.2.2.2.1.drew hg6 (by have := H5.out.2.2.2.2.1; omega)⟩)
 have HQ := Lib.hid H5.out.2.2.2.2.1
 clear hb6 hg6 hone6 H5 HSRC hHeld
 replace HRC := Lib.hid ((HRC.out.below HB.out.2.2).mono HB.out.2.2.size)
 replace HRM := Lib.hid ((HRM.out.below HB.out.2.2).mono HB.out.2.2.size)
 go_upto_region 4 with fail
 generalize hw7 : w6 = w7 at HB HRC HRM ⊢
 clear hw7
 refine wp_region_held_drew (S := fun w4 => Blk w4 Q 23 ((oneK k nn).map u8v)) (by kernel_rfl) (HB.out.1.drew) (fun hHeld => ?_)
 replace HB := Lib.hid (show Blk w7.drew Q 23 ((oneK k nn).map u8v) ∧ Blk w7.drew (w.heap.size + 2) 27 (aeZ 16) ∧ Below w.heap.size w w7.drew from ⟨HB.out.1.drew, HB.out.2.1.drew, HB.out.2.2.drew⟩)
 replace HRC := Lib.hid HRC.out.drew
 replace HRM := Lib.hid HRM.out.drew
 refine tf (v := .agg ok) 0 rfl (by rw [← HOK.out]; exact yields_load_blk (by rfl) 23 (.tmp 10) rfl Q rfl 23 ((oneK k nn).map u8v) (fun w' hb => hb) 32 5 Tryz.underlying23 (cells32 _ (oneK_length k nn))) ?_
 (try simp only [Act.put, sA, s0, s1])
 refine tf (v := ?_) 1 rfl (Or.inl ⟨by rfl, ?_⟩) ?_
 rotate_left
 · (intro w hSw; (try dsimp only at hSw); go_simp; try with_reducible rfl)
 (try simp only [Act.put, sA, s0, s1])
 refine tf (v := ?_) 3 rfl (Or.inl ⟨by rfl, ?_⟩) ?_
 rotate_left
 · (intro w hSw; (try dsimp only at hSw); go_simp; try with_reducible rfl)
 (try simp only [Act.put, sA, s0, s1])
 refine tf (v := ?_) 5 rfl (Or.inl ⟨by rfl, ?_⟩) ?_
 rotate_left
 · (intro w hSw; (try dsimp only at hSw); go_simp; try with_reducible rfl)
 (try simp only [Act.put, sA, s0, s1])
 refine tf (v := ?_) 6 rfl (Or.inl ⟨by rfl, ?_⟩) ?_
 rotate_left
 · (intro w hSw; (try dsimp only at hSw); go_simp; try with_reducible rfl)
 (try simp only [Act.put, sA, s0, s1])
 refine tf (v := ?_) 7 rfl (Or.inl ⟨by rfl, ?_⟩) ?_
 rotate_left
 · (intro w hSw; (try dsimp only at hSw); go_simp; try with_reducible rfl)
 (try simp only [Act.put, sA, s0, s1])
 refine tf (v := ?_) 9 rfl (Or.inl ⟨by rfl, ?_⟩) ?_
 rotate_left
 · (intro w hSw; (try dsimp only at hSw); go_simp; try with_reducible rfl)
 (try simp only [Act.put, sA, s0, s1])
 refine tf (v := ?_) 10 rfl (Or.inl ⟨by rfl, ?_⟩) ?_
 rotate_left
 · (intro w hSw; (try dsimp only at hSw); go_simp; try with_reducible rfl)
 (try simp only [Act.put, sA, s0, s1])
 refine tf (v := ?_) 11 rfl (Or.inl ⟨by rfl, ?_⟩) ?_
 rotate_left
 · (intro w hSw; (try dsimp only at hSw); go_simp; try with_reducible rfl)
 (try simp only [Act.put, sA, s0, s1])
 refine so 2 rfl fun K hK => ?_
 go_simp
 refine (refFilled_m cm Am nm more (by omega) m1 HM.out.1 _ HRM.out).mono ?_
 rintro e wa ⟨F1, d1, rfl, hf, hb⟩
 replace HRC := Lib.hid ((HRC.out.below hb).mono hb.size)
 replace HRM := Lib.hid ((HRM.out.below hb).mono hb.size)
 replace HB := Lib.hid (show Blk wa Q 23 ((oneK k nn).map u8v) ∧ Blk wa (w.heap.size + 2) 27 (aeZ 16) ∧ Below w.heap.size w wa from ⟨HB.out.1.below hb HB.out.1.lt, HB.out.2.1.below hb HB.out.2.1.lt, HB.out.2.2.trans (hb.mono HB.out.2.2.size)⟩)
 have R1 := Lib.hid hf
 clear hf
 clear hb
 go_wp2_with fail
 refine hK.out _ _ (HB.out.1) (fun hHeld => ?_)
 clear hK K
 (try simp only [Act.put, sA, s0, s1])
 refine so 4 rfl fun K hK => ?_
 go_simp
 refine (refFilled_m cc Ac nc c (by omega) m2 HM.out.2 _ HRC.out).mono ?_
 rintro e wb ⟨F2, d2, rfl, hf, hb⟩
 replace R1 := Lib.hid ((R1.out.below hb).mono hb.size)
 replace HB := Lib.hid (show Blk wb Q 23 ((oneK k nn).map u8v) ∧ Blk wb (w.heap.size + 2) 27 (aeZ 16) ∧ Below w.heap.size w wb from ⟨HB.out.1.below hb HB.out.1.lt, HB.out.2.1.below hb HB.out.2.1.lt, HB.out.2.2.trans (hb.mono HB.out.2.2.size)⟩)
 have R2 := Lib.hid hf
 clear hf
 clear hb
 go_wp2_with fail
 refine hK.out _ _ (HB.out.1) (fun hHeld => ?_)
 clear hK K
 (try simp only [Act.put, sA, s0, s1])
 refine so 8 rfl fun K hK => ?_
 go_simp
 rw [show (8 : Int) = ((8 : Nat) : Int) from rfl, show IntKind.u64.wrap (nm : Int) = (nm : Int) by rw [IntKind.wrap_u64]; omega]
 refine (refLittle_any nm (by omega) 8 (by omega) (by omega) _).mono ?_
 rintro e wc ⟨F3, d3, rfl, ho, hb⟩
 replace R1 := Lib.hid ((R1.out.below hb).mono hb.size)
 replace R2 := Lib.hid ((R2.out.below hb).mono hb.size)
 replace HB := Lib.hid (show Blk wc Q 23 ((oneK k nn).map u8v) ∧ Blk wc (w.heap.size + 2) 27 (aeZ 16) ∧ Below w.heap.size w wc from ⟨HB.out.1.below hb HB.out.1.lt, HB.out.2.1.below hb HB.out.2.1.lt, HB.out.2.2.trans (hb.mono HB.out.2.2.size)⟩)
 have R3 := Lib.hid (Rd.of_own ho)
 clear ho
 clear hb
 go_wp2_with fail
 refine hK.out _ _ (HB.out.1) (fun hHeld => ?_)
 clear hK K
 (try simp only [Act.put, sA, s0, s1])
 refine so 12 rfl fun K hK => ?_
 go_simp
 rw [show (8 : Int) = ((8 : Nat) : Int) from rfl, show IntKind.u64.wrap (nc : Int) = (nc : Int) by rw [IntKind.wrap_u64]; omega]
 refine (refLittle_any nc (by omega) 8 (by omega) (by omega) _).mono ?_
 rintro e wd ⟨F4, d4, rfl, ho, hb⟩
 replace R1 := Lib.hid ((R1.out.below hb).mono hb.size)
 replace R2 := Lib.hid ((R2.out.below hb).mono hb.size)
 replace R3 := Lib.hid ((R3.out.below hb).mono hb.size)
 replace HB := Lib.hid (show Blk wd Q 23 ((oneK k nn).map u8v) ∧ Blk wd (w.heap.size + 2) 27 (aeZ 16) ∧ Below w.heap.size w wd from ⟨HB.out.1.below hb HB.out.1.lt, HB.out.2.1.below hb HB.out.2.1.lt, HB.out.2.2.trans (hb.mono HB.out.2.2.size)⟩)
 have R4 := Lib.hid (Rd.of_own ho)
 clear ho
 clear hb
 go_wp2_with fail
 refine hK.out _ _ (HB.out.1) (fun hHeld => ?_)
 clear hK K
 (try simp only [Act.put, sA, s0, s1])
 refine so 13 rfl fun K hK => ?_
 go_simp
 have hg := Blk.new wd 29 [.slice F1 m1 d1, .slice F2 m2 d2, .slice F3 8 d3, .slice F4 8 d4]
 have hb : Below wd.heap.size wd (wd.alloc (.cells [.slice F1 m1 d1, .slice F2 m2 d2, .slice F3 8 d3, .slice F4 8 d4].toArray 29)) := (Below.refl _ _).alloc (Nat.le_refl _) _
 rw [show [Value.slice F1 m1 d1, .slice F2 m2 d2, .slice F3 8 d3, .slice F4 8 d4].toArray = #[Value.slice F1 m1 d1, .slice F2 m2 d2, .slice F3 8 d3, .slice F4 8 d4] from rfl] at hb
 have HG := Lib.hid (show Blk (wd.alloc (.cells #[Value.slice F1 m1 d1, .slice F2 m2 d2, .slice F3 8 d3, .slice F4 8 d4] 29)) wd.heap.size 29 [.slice F1 m1 d1, .slice F2 m2 d2, .slice F3 8 d3, .slice F4 8 d4] from hg)
 generalize hwe : wd.alloc (.cells #[Value.slice F1 m1 d1, .slice F2 m2 d2, .slice F3 8 d3, .slice F4 8 d4] 29) = we at HG hb ⊢
 clear hwe hg
 replace R1 := Lib.hid ((R1.out.below hb).mono hb.size)
 replace R2 := Lib.hid ((R2.out.below hb).mono hb.size)
 replace R3 := Lib.hid ((R3.out.below hb).mono hb.size)
 replace R4 := Lib.hid ((R4.out.below hb).mono hb.size)
 replace HB := Lib.hid (show Blk we Q 23 ((oneK k nn).map u8v) ∧ Blk we (w.heap.size + 2) 27 (aeZ 16) ∧ Below w.heap.size w we from ⟨HB.out.1.below hb HB.out.1.lt, HB.out.2.1.below hb HB.out.2.1.lt, HB.out.2.2.trans (hb.mono HB.out.2.2.size)⟩)
 clear hb
 generalize wd.heap.size = gj at HG ⊢
 refine hK.out _ _ (HB.out.1) (fun hHeld => ?_)
 clear hK K
 (try simp only [Act.put, sA, s0, s1])
 refine so 14 rfl fun K hK => ?_
 go_simp
 refine (refJoin_four gj 29 F1 F2 F3 F4 m1 d1 m2 d2 8 d3 8 d4 _ _ _ _ MM HMM.out hM6 _ HG.out R1.out R2.out R3.out R4.out).mono ?_
 rintro e wf ⟨AJ, cj, rfl, hJ, q1, q2, hb⟩
 rw [HMAC.out] at hJ
 have RJ := Lib.hid hJ
 replace HB := Lib.hid (show Blk wf Q 23 ((oneK k nn).map u8v) ∧ Blk wf (w.heap.size + 2) 27 (aeZ 16) ∧ Below w.heap.size w wf from ⟨HB.out.1.below hb HB.out.1.lt, HB.out.2.1.below hb HB.out.2.1.lt, HB.out.2.2.trans (hb.mono HB.out.2.2.size)⟩)
 clear hb hJ R1 R2 R3 R4 HG
 go_wp2_with fail
 refine hK.out _ _ (HB.out.1) (fun hHeld => ?_)
 clear hK K
 (try simp only [Act.put, sA, s0, s1])
 refine so 15 rfl fun K hK => ?_
 go_simp
 refine (HPC2.out AJ MM cj _ q1 q2 _ RJ.out).mono ?_
 rintro e wg ⟨rfl, hb⟩
 replace HB := Lib.hid (show Blk wg Q 23 ((oneK k nn).map u8v) ∧ Blk wg (w.heap.size + 2) 27 (aeZ 16) ∧ Below w.heap.size w wg from ⟨HB.out.1.below hb HB.out.1.lt, HB.out.2.1.below hb HB.out.2.1.lt, HB.out.2.2.trans (hb.mono HB.out.2.2.size)⟩)
 clear hb
 rw [show tagL (oneK k nn) (macL more c) = st from HST.out.2.2, HST.out.2.1]
 go_wp2_with fail
 refine hK.out _ _ (HB.out.1) (fun hHeld => ?_)
 clear hK K
 (try simp only [Act.put, sA, s0, s1])
 refine so 16 rfl fun K hK => ?_
 refine step_store_blk _ rfl 27 (.tmp 8) (.tmp 32) rfl (w.heap.size + 2) (st.map u8v) rfl (by show Value.agg cs = _; rw [HST.out.2.1]) 27 (aeZ 16) HB.out.2.1 (ae_cellsT st HST.out.1) (by rw [List.length_map, HST.out.1]; rfl) (u8v_one _) ?_
 intro w9 hb9 hg9
 have hq9 := HB.out.1.grown hg9 (by have := HQ.out; simp; omega)
 have hl9 := below_blk HB.out.2.2 hg9 (by omega)
 refine hK.out _ _ hq9 (fun hHeld => ?_)
 clear hK K
 (try simp only [Act.put])
 refine wpAnyH_done (by kernel_rfl) ?_ _
 go_wp2_with fail
 exact bodyPost_ret (results_blk rfl _ _ (w.heap.size + 2) 27 (st.map u8v) 16 5 rfl hb9 Tryz.underlying27 (ae_cellsT st HST.out.1)) rfl ⟨by rw [HST.out.2.2], hl9⟩
end Go.Proofs.YtlddafkikkaonaaGreatDoor
