/-
  The contract of the reference's Block: the words of the state plus those of Core of it, each as four bytes.
-/
import Derived.Test.YtafkedeelngnnaaChRefCore
import Derived.Test.YtafkedeelngnnaaChRefState
import Derived.Test.YtafkedeelngnnaaRefJoin
namespace Go.Proofs.Ytafkedeelngnnaa
open Go.RowKit

theorem own_some {w : World} {base e n : Nat} {A : Option Addr} {c : Nat} {xs : List Value} (h : w.ownsRow base e 1 (.slice A n c) n xs) (hn : 0 < n) : ∃ g, A = some ⟨g, 0, none⟩ ∧ n ≤ c ∧ c ≤ maxLen := by
  rcases h.2 with ⟨_, h0⟩ | ⟨g, cap, cur, hv, _, _, hnc, hcm, _⟩
  · omega
  · simp only [Value.slice.injEq] at hv
    exact ⟨g, hv.1, by rw [hv.2.2]; exact hnc, by rw [hv.2.2]; exact hcm⟩
theorem refLit_some (n : Nat) (hn : n < 18446744073709551616) (w : World) :
    Calls Try.prog 21 #[.int .u64 n, .int .i64 4] w fun e w' => ∃ g c, e = .returned (.slice (some ⟨g, 0, none⟩) 4 c) ∧ w'.ownsRow w.heap.size 5 1 (.slice (some ⟨g, 0, none⟩) 4 c) 4 ((littleL n 4).map u8v) ∧ Below w.heap.size w w' := by
  refine (refLittle_any n hn 4 (by omega) (by omega) w).mono ?_
  rintro e w' ⟨A, c, rfl, ho, hb⟩
  obtain ⟨g, rfl, _, _⟩ := own_some ho (by omega)
  exact ⟨g, c, rfl, ho, hb⟩
theorem refJoin_two (g : Nat) (t : TypeId) (A1 A2 : Option Addr) (n1 c1 n2 c2 : Nat) (l1 l2 : List UInt8) (M : Nat) (hM : n1 + n2 = M) (hn0 : 0 < M) (hn : M ≤ 1000000) (w : World) (hb : Blk w g t [.slice A1 n1 c1, .slice A2 n2 c2]) (h1 : Rd w w.heap.size A1 n1 l1) (h2 : Rd w w.heap.size A2 n2 l2) :
    Calls Try.prog 24 #[.slice (some ⟨g, 0, none⟩) 2 2] w fun e w' => ∃ g' c', e = .returned (.slice (some ⟨g', 0, none⟩) M c') ∧ Rd w' w'.heap.size (some ⟨g', 0, none⟩) M (l1 ++ l2) ∧ M ≤ c' ∧ c' ≤ maxLen ∧ Below w.heap.size w w' := by
  have hf : flat [⟨A1, n1, c1, l1⟩, ⟨A2, n2, c2, l2⟩] 2 = l1 ++ l2 := by simp [flat]
  have hl : (l1 ++ l2).length = M := by rw [List.length_append, h1.1, h2.1, hM]
  have hJ := refJoin_any w.heap.size 2 (some ⟨g, 0, none⟩) [⟨A1, n1, c1, l1⟩, ⟨A2, n2, c2, l2⟩] (by simp) (by show (flat _ 2).length ≤ _; rw [hf, hl]; exact hn) w (Nat.le_refl _) (fun _ => ⟨g, rfl, hb.lt, fun j hj => by
    rw [hb.cell]
    match j, hj with
    | 0, _ => exact ⟨rfl, h1⟩
    | 1, _ => exact ⟨rfl, h2⟩
    | j + 2, hj => exact absurd hj (by simp)⟩)
  refine hJ.mono ?_
  rintro e w' ⟨A', c', he, ho, hbl⟩
  have e2 : ([⟨A1, n1, c1, l1⟩, ⟨A2, n2, c2, l2⟩] : List Part).length = 2 := rfl
  rw [e2, hf, hl] at he ho
  obtain ⟨g', rfl, q1, q2⟩ := own_some ho hn0
  exact ⟨g', c', he, Rd.of_own ho, q1, q2, hbl⟩
theorem blk_rd {w : World} {g m : Nat} {t : TypeId} {l : List UInt8} (h : Blk w g t (l.map u8v)) (hl : l.length = m) : Rd w w.heap.size (some ⟨g, 0, none⟩) m l := by
  have h2 := (h.rd 0 m (by omega)).mono h.lt
  rwa [List.drop_zero, List.take_of_length_le (by omega)] at h2

set_option maxRecDepth 100000 in
set_option maxHeartbeats 8000000 in
theorem refBlock_any (k n : List UInt8) (hk : k.length = 32) (hn : n.length = 12) (c : UInt32) (w : World) :
    Calls Try.prog 22 #[.agg (k.map u8v).toArray, .int .u32 (c.toNat : Int), .agg (n.map u8v).toArray] w fun e w' => e = .returned (.agg ((blockL k c n).map u8v).toArray) ∧ Below w.heap.size w w' := by
  obtain ⟨i0, hi, hz0, hz1, hz2⟩ := info_parts Try.info5
  have LC := Lib.hid (refLit_some c.toNat (by have := c.toNat_lt; omega))
  have SC := fun (db cap : Nat) (h1 : 16 ≤ cap) (h2 : cap ≤ maxLen) (w' : World) (hr : Rd w' w'.heap.size (some ⟨db, 0, none⟩) 16 (littleL c.toNat 4 ++ n)) => refState_any k hk w'.heap.size db 0 cap (littleL c.toNat 4 ++ n) h1 h2 w' (Nat.le_refl _) hr
  rw [state_rest] at SC
  obtain ⟨ck, hck⟩ : ∃ ck, (k.map u8v).toArray = ck := ⟨_, rfl⟩
  obtain ⟨cn, hcn⟩ : ∃ cn, (n.map u8v).toArray = cn := ⟨_, rfl⟩
  rw [hck] at SC
  obtain ⟨ls, hls⟩ : ∃ ls, stateW k c n = ls := ⟨_, rfl⟩
  have HLS := Lib.hid (show ls.length = 16 by rw [← hls]; exact stateW_length k c n)
  rw [hls] at SC
  obtain ⟨sa, has⟩ : ∃ sa, (ls.map u32v).toArray = sa := ⟨_, rfl⟩
  rw [has] at SC
  have CC := fun w' : World => refCore_any ls HLS.out w'
  obtain ⟨lm, hlm⟩ : ∃ lm, coreW 10 ls = lm := ⟨_, rfl⟩
  have HLM := Lib.hid (show lm.length = 16 by rw [← hlm, coreW_length]; exact HLS.out)
  rw [has, hlm] at CC
  obtain ⟨sm, ham⟩ : ∃ sm, (lm.map u32v).toArray = sm := ⟨_, rfl⟩
  rw [ham] at CC
  have EB : blockL k c n = bytesW (lm.zipWith (· + ·) ls) := by rw [← hlm, ← hls]; rfl
  obtain ⟨ws, hws⟩ : ∃ ws, lm.zipWith (· + ·) ls = ws := ⟨_, rfl⟩
  have HWS := Lib.hid (show ws.length = 16 by rw [← hws, List.length_zipWith, HLS.out, HLM.out]; rfl)
  have HWD := Lib.hid (fun (j : Nat) (hj : j < 16) => show wd lm j + wd ls j = wd ws j by rw [← hws, word_of lm ls j HLM.out HLS.out hj])
  rw [hws] at EB
  rw [hck, hcn]
  have HK0 := Lib.hid (show Blk (w.alloc (.cells ck 23)) w.heap.size 23 (k.map u8v) by rw [← hck]; exact Blk.new w _ _)
  have HN0 := Lib.hid (show Blk ((w.alloc (.cells ck 23)).alloc (.cells cn 25)) (w.heap.size + 1) 25 (n.map u8v) by rw [← hcn]; exact Blk.new' _ (by simp) _ _)
  have HCK := Lib.hid hck
  have HAS := Lib.hid has
  have HAM := Lib.hid ham
  have HEB := Lib.hid EB
  have HSC := Lib.hid SC
  have HCC := Lib.hid CC
  have HK := Lib.hid hk
  have HN := Lib.hid hn
  clear hk hn hck hcn has ham EB SC CC hls hlm hws
  go_enter Try.func22, Try.ntmps22
  go_upto_region 1 with fail
  have hk1 := (HK0.out.alloc (.cells cn 25)).alloc (.cells z64.toArray 48)
  have hn1 := HN0.out.alloc (.cells z64.toArray 48)
  have hzz1 : Blk (((w.alloc (.cells ck 23)).alloc (.cells cn 25)).alloc (.cells z64.toArray 48)) (w.heap.size + 2) 48 z64 := Blk.new' _ (by simp) _ _
  have hbel1 : Below w.heap.size w (((w.alloc (.cells ck 23)).alloc (.cells cn 25)).alloc (.cells z64.toArray 48)) := (((Below.refl _ _).alloc (Nat.le_refl _) _).alloc (by simp) _).alloc (by simp; omega) _
  have hs1 : w.heap.size + 3 ≤ (((w.alloc (.cells ck 23)).alloc (.cells cn 25)).alloc (.cells z64.toArray 48)).heap.size := by simp
  clear HK0 HN0
  have e64 : z64.toArray = #[.int .u8 0, .int .u8 0, .int .u8 0, .int .u8 0, .int .u8 0, .int .u8 0, .int .u8 0, .int .u8 0, .int .u8 0, .int .u8 0, .int .u8 0, .int .u8 0, .int .u8 0, .int .u8 0, .int .u8 0, .int .u8 0, .int .u8 0, .int .u8 0, .int .u8 0, .int .u8 0, .int .u8 0, .int .u8 0, .int .u8 0, .int .u8 0, .int .u8 0, .int .u8 0, .int .u8 0, .int .u8 0, .int .u8 0, .int .u8 0, .int .u8 0, .int .u8 0, .int .u8 0, .int .u8 0, .int .u8 0, .int .u8 0, .int .u8 0, .int .u8 0, .int .u8 0, .int .u8 0, .int .u8 0, .int .u8 0, .int .u8 0, .int .u8 0, .int .u8 0, .int .u8 0, .int .u8 0, .int .u8 0, .int .u8 0, .int .u8 0, .int .u8 0, .int .u8 0, .int .u8 0, .int .u8 0, .int .u8 0, .int .u8 0, .int .u8 0, .int .u8 0, .int .u8 0, .int .u8 0, .int .u8 0, .int .u8 0, .int .u8 0, .int .u8 0] := rfl
  rw [e64] at hk1 hn1 hzz1 hbel1 hs1
  generalize (((w.alloc (.cells ck 23)).alloc (.cells cn 25)).alloc (.cells #[.int .u8 0, .int .u8 0, .int .u8 0, .int .u8 0, .int .u8 0, .int .u8 0, .int .u8 0, .int .u8 0, .int .u8 0, .int .u8 0, .int .u8 0, .int .u8 0, .int .u8 0, .int .u8 0, .int .u8 0, .int .u8 0, .int .u8 0, .int .u8 0, .int .u8 0, .int .u8 0, .int .u8 0, .int .u8 0, .int .u8 0, .int .u8 0, .int .u8 0, .int .u8 0, .int .u8 0, .int .u8 0, .int .u8 0, .int .u8 0, .int .u8 0, .int .u8 0, .int .u8 0, .int .u8 0, .int .u8 0, .int .u8 0, .int .u8 0, .int .u8 0, .int .u8 0, .int .u8 0, .int .u8 0, .int .u8 0, .int .u8 0, .int .u8 0, .int .u8 0, .int .u8 0, .int .u8 0, .int .u8 0, .int .u8 0, .int .u8 0, .int .u8 0, .int .u8 0, .int .u8 0, .int .u8 0, .int .u8 0, .int .u8 0, .int .u8 0, .int .u8 0, .int .u8 0, .int .u8 0, .int .u8 0, .int .u8 0, .int .u8 0, .int .u8 0] 48)) = w1 at hk1 hn1 hzz1 hbel1 hs1 ⊢
  clear e64
  rw [show w.heap.size + 1 + 1 = w.heap.size + 2 from rfl]
  have H1 := Lib.hid (And.intro (show Env w w.heap.size k n [] w1 from ⟨hk1, hn1, (fun q hq => by cases hq), hbel1⟩) (And.intro hzz1 hs1))
  clear hk1 hn1 hzz1 hbel1 hs1
  have hcv : IntKind.u64.wrap (c.toNat : Int) = (c.toNat : Int) := by
    have := c.toNat_lt
    rw [IntKind.wrap_u64]
    omega
  go_cut [7] (fun v wx => ∃ P, v = .pointer (some ⟨P, 0, none⟩) ∧ Blk wx P 53 (ls.map u32v) ∧ Blk wx (w.heap.size + 2) 48 z64 ∧ Below w.heap.size w wx ∧ w.heap.size + 3 ≤ P)
  case first =>
    refine wp_region_held_drew (S := fun w' => Below w1.heap.size w1 w') (by kernel_rfl) ((Below.refl w1.heap.size w1).drew) (fun hHeld => ?_)
    refine take_first (v := ?_) 1 rfl (by kernel_rfl) (by kernel_rfl) (by kernel_rfl) (fun _ _ _ h => h) (Or.inl ⟨by rfl, ?_⟩) (by assumption) ?_
    rotate_left
    · (intro w hSw; (try dsimp only at hSw); go_simp; try with_reducible rfl)
    (try simp only [Act.put, List.setIfInBounds_toArray, List.set_cons_zero, List.set_cons_succ])
    refine take_first (v := ?_) 2 rfl (by kernel_rfl) (by kernel_rfl) (by kernel_rfl) (fun _ _ _ h => h) (Or.inl ⟨by rfl, ?_⟩) (by assumption) ?_
    rotate_left
    · (intro w hSw; (try dsimp only at hSw); go_simp; try with_reducible rfl)
    (try simp only [Act.put, List.setIfInBounds_toArray, List.set_cons_zero, List.set_cons_succ])
    refine take_first (v := ?_) 4 rfl (by kernel_rfl) (by kernel_rfl) (by kernel_rfl) (fun _ _ _ h => h) (Or.inl ⟨by rfl, ?_⟩) (by assumption) ?_
    rotate_left
    · (intro w hSw; (try dsimp only at hSw); go_simp; try with_reducible rfl)
    (try simp only [Act.put, List.setIfInBounds_toArray, List.set_cons_zero, List.set_cons_succ])
    refine take_first (v := .agg ck) 0 rfl (by kernel_rfl) (by kernel_rfl) (by kernel_rfl) (fun _ _ _ h => h) ((by rw [← HCK.out]; exact yields_load_blk (by rfl) 23 (.tmp 3) rfl w.heap.size rfl 23 (k.map u8v) (fun w' hb => (H1.out.1.below hb).1) 32 5 Try.underlying23 (cells32 k HK.out))) (by assumption) ?_
    (try simp only [Act.put, List.setIfInBounds_toArray, List.set_cons_zero, List.set_cons_succ])
    have EV := Lib.hid H1.out.1.drew
    have HZ := Lib.hid H1.out.2.1.drew
    generalize hwd : w1.drew = wd at hHeld EV HZ ⊢
    clear hwd
    refine step_two 3 8 rfl rfl (by kernel_rfl) (fun K hK => ?_) (fun K hK => ?_)
    · go_simp
      refine (LC.out _).mono ?_
      rintro e wq ⟨gl, cl, rfl, ho, hb⟩
      replace EV := Lib.hid (EV.out.below hb)
      replace HZ := Lib.hid (HZ.out.below hb HZ.out.lt)
      replace EV := Lib.hid (EV.out.cons (Rd.of_own ho))
      go_wp2_with fail
      refine hK.out _ _ (hHeld.trans (hb.mono hHeld.size)) (fun hHeld => ?_)
      clear hK K
      (try simp only [Act.put, List.setIfInBounds_toArray, List.set_cons_zero, List.set_cons_succ])
      clear ho hb
      refine step_two 5 8 rfl rfl (by kernel_rfl) (fun K hK => ?_) (fun K hK => ?_)
      · go_simp
        refine hK.out _ _ (hHeld.alloc hHeld.size _) (fun hHeld => ?_)
        clear hK K
        (try simp only [Act.put, List.setIfInBounds_toArray, List.set_cons_zero, List.set_cons_succ])
        replace EV := Lib.hid (EV.out.below ((Below.refl _ _).alloc (Nat.le_refl _) (.cells #[.slice (some ⟨gl, 0, none⟩) 4 cl, .slice (some ⟨w.heap.size + 1, 0, none⟩) 12 12] 26)))
        replace HZ := Lib.hid (HZ.out.below ((Below.refl _ _).alloc (Nat.le_refl _) (.cells #[.slice (some ⟨gl, 0, none⟩) 4 cl, .slice (some ⟨w.heap.size + 1, 0, none⟩) 12 12] 26)) HZ.out.lt)
        have BG := Lib.hid (show Blk ((wq).alloc (.cells #[.slice (some ⟨gl, 0, none⟩) 4 cl, .slice (some ⟨w.heap.size + 1, 0, none⟩) 12 12] 26)) (wq).heap.size 26 [.slice (some ⟨gl, 0, none⟩) 4 cl, .slice (some ⟨w.heap.size + 1, 0, none⟩) 12 12] from Blk.new _ _ _)
        generalize hwb : (wq).alloc (.cells #[.slice (some ⟨gl, 0, none⟩) 4 cl, .slice (some ⟨w.heap.size + 1, 0, none⟩) 12 12] 26) = wb at EV HZ BG hHeld ⊢
        clear hwb
        generalize hG : (wq).heap.size = gb at BG ⊢
        clear hG
        refine step_two 6 8 rfl rfl (by kernel_rfl) (fun K hK => ?_) (fun K hK => ?_)
        · go_simp
          refine (refJoin_two gb 26 (some ⟨gl, 0, none⟩) (some ⟨w.heap.size + 1, 0, none⟩) 4 cl 12 12 (littleL c.toNat 4) n 16 (by omega) (by omega) (by omega) _ BG.out (EV.out.rd (by simp)) (blk_rd EV.out.2.1 HN.out)).mono ?_
          rintro e wj ⟨gj, cj, rfl, hrj, q1, q2, hb⟩
          replace EV := Lib.hid (EV.out.below hb)
          replace HZ := Lib.hid (HZ.out.below hb HZ.out.lt)
          replace BG := Lib.hid (BG.out.below hb BG.out.lt)
          replace EV := Lib.hid (EV.out.cons hrj)
          go_wp2_with fail
          refine hK.out _ _ (hHeld.trans (hb.mono hHeld.size)) (fun hHeld => ?_)
          clear hK K
          (try simp only [Act.put, List.setIfInBounds_toArray, List.set_cons_zero, List.set_cons_succ])
          clear hrj hb
          refine step_two 7 8 rfl rfl (by kernel_rfl) (fun K hK => ?_) (fun K hK => ?_)
          · go_simp
            refine (HSC.out gj cj q1 q2 _ (EV.out.rd (by simp))).mono ?_
            rintro e wt ⟨rfl, hb⟩
            replace EV := Lib.hid (EV.out.below hb)
            replace HZ := Lib.hid (HZ.out.below hb HZ.out.lt)
            replace BG := Lib.hid (BG.out.below hb BG.out.lt)
            go_wp2_with fail
            refine hK.out _ _ (hHeld.trans (hb.mono hHeld.size)) (fun hHeld => ?_)
            clear hK K
            (try simp only [Act.put, List.setIfInBounds_toArray, List.set_cons_zero, List.set_cons_succ])
            clear hb
            refine step_one 8 rfl (by kernel_rfl) (fun K hK => ?_)
            have HSZ := Lib.hid hHeld.size
            go_simp
            refine hK.out _ _ (hHeld.alloc hHeld.size _) (fun hHeld => ?_)
            clear hK K
            (try simp only [Act.put, List.setIfInBounds_toArray, List.set_cons_zero, List.set_cons_succ])
            replace EV := Lib.hid (EV.out.below ((Below.refl _ _).alloc (Nat.le_refl _) (.cells z16.toArray 53)))
            replace HZ := Lib.hid (HZ.out.below ((Below.refl _ _).alloc (Nat.le_refl _) (.cells z16.toArray 53)) HZ.out.lt)
            replace BG := Lib.hid (BG.out.below ((Below.refl _ _).alloc (Nat.le_refl _) (.cells z16.toArray 53)) BG.out.lt)
            have BP := Lib.hid (show Blk ((wt).alloc (.cells z16.toArray 53)) (wt).heap.size 53 z16 from Blk.new _ _ _)
            rw [z16_arr] at EV HZ BP BG
            generalize hwa : (wt).alloc (.cells #[.int .u32 0, .int .u32 0, .int .u32 0, .int .u32 0, .int .u32 0, .int .u32 0, .int .u32 0, .int .u32 0, .int .u32 0, .int .u32 0, .int .u32 0, .int .u32 0, .int .u32 0, .int .u32 0, .int .u32 0, .int .u32 0] 53) = wa at EV HZ BP hHeld BG ⊢
            clear hwa
            generalize hP : (wt).heap.size = P at BP ⊢
            have HP := Lib.hid (show w1.heap.size ≤ P by rw [← hP]; exact HSZ.out)
            clear hP
            refine step_one 9 rfl (by kernel_rfl) (fun K hK => ?_)
            refine step_store_blk _ rfl 53 (.tmp 7) (.tmp 18) rfl P (ls.map u32v) rfl (by rw [HAS.out]; rfl) 53 z16 BP.out (cells16 ls HLS.out) (by rw [List.length_map, HLS.out]; rfl) (u32v_one _) ?_
            intro ws' hbs hgs
            have hE := Below.grown hHeld hgs hHeld.size (by have := HP.out; intro k hk; injection hk with hk; omega)
            refine hK.out _ _ hE (fun hHeld => ?_)
            clear hK K
            simp only [Act.put]
            refine wpAnyH_done (by kernel_rfl) ?_ _
            have HF := Lib.hid (And.intro hbs (And.intro (H1.out.2.1.below hE H1.out.2.1.lt) (And.intro (H1.out.1.2.2.2.trans (hE.mono H1.out.1.2.2.2.size)) (Nat.le_trans H1.out.2.2 HP.out))))
            clear hE hHeld hbs hgs
            go_wp2
            go_meet
            exact ⟨P, rfl, HF.out⟩
          · have HSZ := Lib.hid hHeld.size
            go_simp
            refine hK.out _ _ (hHeld.alloc hHeld.size _) (fun hHeld => ?_)
            clear hK K
            (try simp only [Act.put, List.setIfInBounds_toArray, List.set_cons_zero, List.set_cons_succ])
            replace EV := Lib.hid (EV.out.below ((Below.refl _ _).alloc (Nat.le_refl _) (.cells z16.toArray 53)))
            replace HZ := Lib.hid (HZ.out.below ((Below.refl _ _).alloc (Nat.le_refl _) (.cells z16.toArray 53)) HZ.out.lt)
            replace BG := Lib.hid (BG.out.below ((Below.refl _ _).alloc (Nat.le_refl _) (.cells z16.toArray 53)) BG.out.lt)
            have BP := Lib.hid (show Blk ((wj).alloc (.cells z16.toArray 53)) (wj).heap.size 53 z16 from Blk.new _ _ _)
            rw [z16_arr] at EV HZ BP BG
            generalize hwa : (wj).alloc (.cells #[.int .u32 0, .int .u32 0, .int .u32 0, .int .u32 0, .int .u32 0, .int .u32 0, .int .u32 0, .int .u32 0, .int .u32 0, .int .u32 0, .int .u32 0, .int .u32 0, .int .u32 0, .int .u32 0, .int .u32 0, .int .u32 0] 53) = wa at EV HZ BP hHeld BG ⊢
            clear hwa
            generalize hP : (wj).heap.size = P at BP ⊢
            have HP := Lib.hid (show w1.heap.size ≤ P by rw [← hP]; exact HSZ.out)
            clear hP
            refine step_one 7 rfl (by kernel_rfl) (fun K hK => ?_)
            go_simp
            refine (HSC.out gj cj q1 q2 _ (EV.out.rd (by simp))).mono ?_
            rintro e wt ⟨rfl, hb⟩
            replace EV := Lib.hid (EV.out.below hb)
            replace HZ := Lib.hid (HZ.out.below hb HZ.out.lt)
            replace BP := Lib.hid (BP.out.below hb BP.out.lt)
            replace BG := Lib.hid (BG.out.below hb BG.out.lt)
            go_wp2_with fail
            refine hK.out _ _ (hHeld.trans (hb.mono hHeld.size)) (fun hHeld => ?_)
            clear hK K
            (try simp only [Act.put, List.setIfInBounds_toArray, List.set_cons_zero, List.set_cons_succ])
            clear hb
            refine step_one 9 rfl (by kernel_rfl) (fun K hK => ?_)
            refine step_store_blk _ rfl 53 (.tmp 7) (.tmp 18) rfl P (ls.map u32v) rfl (by rw [HAS.out]; rfl) 53 z16 BP.out (cells16 ls HLS.out) (by rw [List.length_map, HLS.out]; rfl) (u32v_one _) ?_
            intro ws' hbs hgs
            have hE := Below.grown hHeld hgs hHeld.size (by have := HP.out; intro k hk; injection hk with hk; omega)
            refine hK.out _ _ hE (fun hHeld => ?_)
            clear hK K
            simp only [Act.put]
            refine wpAnyH_done (by kernel_rfl) ?_ _
            have HF := Lib.hid (And.intro hbs (And.intro (H1.out.2.1.below hE H1.out.2.1.lt) (And.intro (H1.out.1.2.2.2.trans (hE.mono H1.out.1.2.2.2.size)) (Nat.le_trans H1.out.2.2 HP.out))))
            clear hE hHeld hbs hgs
            go_wp2
            go_meet
            exact ⟨P, rfl, HF.out⟩
        · have HSZ := Lib.hid hHeld.size
          go_simp
          refine hK.out _ _ (hHeld.alloc hHeld.size _) (fun hHeld => ?_)
          clear hK K
          (try simp only [Act.put, List.setIfInBounds_toArray, List.set_cons_zero, List.set_cons_succ])
          replace EV := Lib.hid (EV.out.below ((Below.refl _ _).alloc (Nat.le_refl _) (.cells z16.toArray 53)))
          replace HZ := Lib.hid (HZ.out.below ((Below.refl _ _).alloc (Nat.le_refl _) (.cells z16.toArray 53)) HZ.out.lt)
          replace BG := Lib.hid (BG.out.below ((Below.refl _ _).alloc (Nat.le_refl _) (.cells z16.toArray 53)) BG.out.lt)
          have BP := Lib.hid (show Blk ((wb).alloc (.cells z16.toArray 53)) (wb).heap.size 53 z16 from Blk.new _ _ _)
          rw [z16_arr] at EV HZ BP BG
          generalize hwa : (wb).alloc (.cells #[.int .u32 0, .int .u32 0, .int .u32 0, .int .u32 0, .int .u32 0, .int .u32 0, .int .u32 0, .int .u32 0, .int .u32 0, .int .u32 0, .int .u32 0, .int .u32 0, .int .u32 0, .int .u32 0, .int .u32 0, .int .u32 0] 53) = wa at EV HZ BP hHeld BG ⊢
          clear hwa
          generalize hP : (wb).heap.size = P at BP ⊢
          have HP := Lib.hid (show w1.heap.size ≤ P by rw [← hP]; exact HSZ.out)
          clear hP
          refine step_one 6 rfl (by kernel_rfl) (fun K hK => ?_)
          go_simp
          refine (refJoin_two gb 26 (some ⟨gl, 0, none⟩) (some ⟨w.heap.size + 1, 0, none⟩) 4 cl 12 12 (littleL c.toNat 4) n 16 (by omega) (by omega) (by omega) _ BG.out (EV.out.rd (by simp)) (blk_rd EV.out.2.1 HN.out)).mono ?_
          rintro e wj ⟨gj, cj, rfl, hrj, q1, q2, hb⟩
          replace EV := Lib.hid (EV.out.below hb)
          replace HZ := Lib.hid (HZ.out.below hb HZ.out.lt)
          replace BP := Lib.hid (BP.out.below hb BP.out.lt)
          replace BG := Lib.hid (BG.out.below hb BG.out.lt)
          replace EV := Lib.hid (EV.out.cons hrj)
          go_wp2_with fail
          refine hK.out _ _ (hHeld.trans (hb.mono hHeld.size)) (fun hHeld => ?_)
          clear hK K
          (try simp only [Act.put, List.setIfInBounds_toArray, List.set_cons_zero, List.set_cons_succ])
          clear hrj hb
          refine step_one 7 rfl (by kernel_rfl) (fun K hK => ?_)
          go_simp
          refine (HSC.out gj cj q1 q2 _ (EV.out.rd (by simp))).mono ?_
          rintro e wt ⟨rfl, hb⟩
          replace EV := Lib.hid (EV.out.below hb)
          replace HZ := Lib.hid (HZ.out.below hb HZ.out.lt)
          replace BP := Lib.hid (BP.out.below hb BP.out.lt)
          replace BG := Lib.hid (BG.out.below hb BG.out.lt)
          go_wp2_with fail
          refine hK.out _ _ (hHeld.trans (hb.mono hHeld.size)) (fun hHeld => ?_)
          clear hK K
          (try simp only [Act.put, List.setIfInBounds_toArray, List.set_cons_zero, List.set_cons_succ])
          clear hb
          refine step_one 9 rfl (by kernel_rfl) (fun K hK => ?_)
          refine step_store_blk _ rfl 53 (.tmp 7) (.tmp 18) rfl P (ls.map u32v) rfl (by rw [HAS.out]; rfl) 53 z16 BP.out (cells16 ls HLS.out) (by rw [List.length_map, HLS.out]; rfl) (u32v_one _) ?_
          intro ws' hbs hgs
          have hE := Below.grown hHeld hgs hHeld.size (by have := HP.out; intro k hk; injection hk with hk; omega)
          refine hK.out _ _ hE (fun hHeld => ?_)
          clear hK K
          simp only [Act.put]
          refine wpAnyH_done (by kernel_rfl) ?_ _
          have HF := Lib.hid (And.intro hbs (And.intro (H1.out.2.1.below hE H1.out.2.1.lt) (And.intro (H1.out.1.2.2.2.trans (hE.mono H1.out.1.2.2.2.size)) (Nat.le_trans H1.out.2.2 HP.out))))
          clear hE hHeld hbs hgs
          go_wp2
          go_meet
          exact ⟨P, rfl, HF.out⟩
      · have HSZ := Lib.hid hHeld.size
        go_simp
        refine hK.out _ _ (hHeld.alloc hHeld.size _) (fun hHeld => ?_)
        clear hK K
        (try simp only [Act.put, List.setIfInBounds_toArray, List.set_cons_zero, List.set_cons_succ])
        replace EV := Lib.hid (EV.out.below ((Below.refl _ _).alloc (Nat.le_refl _) (.cells z16.toArray 53)))
        replace HZ := Lib.hid (HZ.out.below ((Below.refl _ _).alloc (Nat.le_refl _) (.cells z16.toArray 53)) HZ.out.lt)
        have BP := Lib.hid (show Blk ((wq).alloc (.cells z16.toArray 53)) (wq).heap.size 53 z16 from Blk.new _ _ _)
        rw [z16_arr] at EV HZ BP
        generalize hwa : (wq).alloc (.cells #[.int .u32 0, .int .u32 0, .int .u32 0, .int .u32 0, .int .u32 0, .int .u32 0, .int .u32 0, .int .u32 0, .int .u32 0, .int .u32 0, .int .u32 0, .int .u32 0, .int .u32 0, .int .u32 0, .int .u32 0, .int .u32 0] 53) = wa at EV HZ BP hHeld ⊢
        clear hwa
        generalize hP : (wq).heap.size = P at BP ⊢
        have HP := Lib.hid (show w1.heap.size ≤ P by rw [← hP]; exact HSZ.out)
        clear hP
        refine step_one 5 rfl (by kernel_rfl) (fun K hK => ?_)
        go_simp
        refine hK.out _ _ (hHeld.alloc hHeld.size _) (fun hHeld => ?_)
        clear hK K
        (try simp only [Act.put, List.setIfInBounds_toArray, List.set_cons_zero, List.set_cons_succ])
        replace EV := Lib.hid (EV.out.below ((Below.refl _ _).alloc (Nat.le_refl _) (.cells #[.slice (some ⟨gl, 0, none⟩) 4 cl, .slice (some ⟨w.heap.size + 1, 0, none⟩) 12 12] 26)))
        replace HZ := Lib.hid (HZ.out.below ((Below.refl _ _).alloc (Nat.le_refl _) (.cells #[.slice (some ⟨gl, 0, none⟩) 4 cl, .slice (some ⟨w.heap.size + 1, 0, none⟩) 12 12] 26)) HZ.out.lt)
        replace BP := Lib.hid (BP.out.below ((Below.refl _ _).alloc (Nat.le_refl _) (.cells #[.slice (some ⟨gl, 0, none⟩) 4 cl, .slice (some ⟨w.heap.size + 1, 0, none⟩) 12 12] 26)) BP.out.lt)
        have BG := Lib.hid (show Blk ((wa).alloc (.cells #[.slice (some ⟨gl, 0, none⟩) 4 cl, .slice (some ⟨w.heap.size + 1, 0, none⟩) 12 12] 26)) (wa).heap.size 26 [.slice (some ⟨gl, 0, none⟩) 4 cl, .slice (some ⟨w.heap.size + 1, 0, none⟩) 12 12] from Blk.new _ _ _)
        generalize hwb : (wa).alloc (.cells #[.slice (some ⟨gl, 0, none⟩) 4 cl, .slice (some ⟨w.heap.size + 1, 0, none⟩) 12 12] 26) = wb at EV HZ BG hHeld BP ⊢
        clear hwb
        generalize hG : (wa).heap.size = gb at BG ⊢
        clear hG
        refine step_one 6 rfl (by kernel_rfl) (fun K hK => ?_)
        go_simp
        refine (refJoin_two gb 26 (some ⟨gl, 0, none⟩) (some ⟨w.heap.size + 1, 0, none⟩) 4 cl 12 12 (littleL c.toNat 4) n 16 (by omega) (by omega) (by omega) _ BG.out (EV.out.rd (by simp)) (blk_rd EV.out.2.1 HN.out)).mono ?_
        rintro e wj ⟨gj, cj, rfl, hrj, q1, q2, hb⟩
        replace EV := Lib.hid (EV.out.below hb)
        replace HZ := Lib.hid (HZ.out.below hb HZ.out.lt)
        replace BP := Lib.hid (BP.out.below hb BP.out.lt)
        replace BG := Lib.hid (BG.out.below hb BG.out.lt)
        replace EV := Lib.hid (EV.out.cons hrj)
        go_wp2_with fail
        refine hK.out _ _ (hHeld.trans (hb.mono hHeld.size)) (fun hHeld => ?_)
        clear hK K
        (try simp only [Act.put, List.setIfInBounds_toArray, List.set_cons_zero, List.set_cons_succ])
        clear hrj hb
        refine step_one 7 rfl (by kernel_rfl) (fun K hK => ?_)
        go_simp
        refine (HSC.out gj cj q1 q2 _ (EV.out.rd (by simp))).mono ?_
        rintro e wt ⟨rfl, hb⟩
        replace EV := Lib.hid (EV.out.below hb)
        replace HZ := Lib.hid (HZ.out.below hb HZ.out.lt)
        replace BP := Lib.hid (BP.out.below hb BP.out.lt)
        replace BG := Lib.hid (BG.out.below hb BG.out.lt)
        go_wp2_with fail
        refine hK.out _ _ (hHeld.trans (hb.mono hHeld.size)) (fun hHeld => ?_)
        clear hK K
        (try simp only [Act.put, List.setIfInBounds_toArray, List.set_cons_zero, List.set_cons_succ])
        clear hb
        refine step_one 9 rfl (by kernel_rfl) (fun K hK => ?_)
        refine step_store_blk _ rfl 53 (.tmp 7) (.tmp 18) rfl P (ls.map u32v) rfl (by rw [HAS.out]; rfl) 53 z16 BP.out (cells16 ls HLS.out) (by rw [List.length_map, HLS.out]; rfl) (u32v_one _) ?_
        intro ws' hbs hgs
        have hE := Below.grown hHeld hgs hHeld.size (by have := HP.out; intro k hk; injection hk with hk; omega)
        refine hK.out _ _ hE (fun hHeld => ?_)
        clear hK K
        simp only [Act.put]
        refine wpAnyH_done (by kernel_rfl) ?_ _
        have HF := Lib.hid (And.intro hbs (And.intro (H1.out.2.1.below hE H1.out.2.1.lt) (And.intro (H1.out.1.2.2.2.trans (hE.mono H1.out.1.2.2.2.size)) (Nat.le_trans H1.out.2.2 HP.out))))
        clear hE hHeld hbs hgs
        go_wp2
        go_meet
        exact ⟨P, rfl, HF.out⟩
    · have HSZ := Lib.hid hHeld.size
      go_simp
      refine hK.out _ _ (hHeld.alloc hHeld.size _) (fun hHeld => ?_)
      clear hK K
      (try simp only [Act.put, List.setIfInBounds_toArray, List.set_cons_zero, List.set_cons_succ])
      replace EV := Lib.hid (EV.out.below ((Below.refl _ _).alloc (Nat.le_refl _) (.cells z16.toArray 53)))
      replace HZ := Lib.hid (HZ.out.below ((Below.refl _ _).alloc (Nat.le_refl _) (.cells z16.toArray 53)) HZ.out.lt)
      have BP := Lib.hid (show Blk ((wd).alloc (.cells z16.toArray 53)) (wd).heap.size 53 z16 from Blk.new _ _ _)
      rw [z16_arr] at EV HZ BP
      generalize hwa : (wd).alloc (.cells #[.int .u32 0, .int .u32 0, .int .u32 0, .int .u32 0, .int .u32 0, .int .u32 0, .int .u32 0, .int .u32 0, .int .u32 0, .int .u32 0, .int .u32 0, .int .u32 0, .int .u32 0, .int .u32 0, .int .u32 0, .int .u32 0] 53) = wa at EV HZ BP hHeld ⊢
      clear hwa
      generalize hP : (wd).heap.size = P at BP ⊢
      have HP := Lib.hid (show w1.heap.size ≤ P by rw [← hP]; exact HSZ.out)
      clear hP
      refine step_one 3 rfl (by kernel_rfl) (fun K hK => ?_)
      go_simp
      refine (LC.out _).mono ?_
      rintro e wq ⟨gl, cl, rfl, ho, hb⟩
      replace EV := Lib.hid (EV.out.below hb)
      replace HZ := Lib.hid (HZ.out.below hb HZ.out.lt)
      replace BP := Lib.hid (BP.out.below hb BP.out.lt)
      replace EV := Lib.hid (EV.out.cons (Rd.of_own ho))
      go_wp2_with fail
      refine hK.out _ _ (hHeld.trans (hb.mono hHeld.size)) (fun hHeld => ?_)
      clear hK K
      (try simp only [Act.put, List.setIfInBounds_toArray, List.set_cons_zero, List.set_cons_succ])
      clear ho hb
      refine step_one 5 rfl (by kernel_rfl) (fun K hK => ?_)
      go_simp
      refine hK.out _ _ (hHeld.alloc hHeld.size _) (fun hHeld => ?_)
      clear hK K
      (try simp only [Act.put, List.setIfInBounds_toArray, List.set_cons_zero, List.set_cons_succ])
      replace EV := Lib.hid (EV.out.below ((Below.refl _ _).alloc (Nat.le_refl _) (.cells #[.slice (some ⟨gl, 0, none⟩) 4 cl, .slice (some ⟨w.heap.size + 1, 0, none⟩) 12 12] 26)))
      replace HZ := Lib.hid (HZ.out.below ((Below.refl _ _).alloc (Nat.le_refl _) (.cells #[.slice (some ⟨gl, 0, none⟩) 4 cl, .slice (some ⟨w.heap.size + 1, 0, none⟩) 12 12] 26)) HZ.out.lt)
      replace BP := Lib.hid (BP.out.below ((Below.refl _ _).alloc (Nat.le_refl _) (.cells #[.slice (some ⟨gl, 0, none⟩) 4 cl, .slice (some ⟨w.heap.size + 1, 0, none⟩) 12 12] 26)) BP.out.lt)
      have BG := Lib.hid (show Blk ((wq).alloc (.cells #[.slice (some ⟨gl, 0, none⟩) 4 cl, .slice (some ⟨w.heap.size + 1, 0, none⟩) 12 12] 26)) (wq).heap.size 26 [.slice (some ⟨gl, 0, none⟩) 4 cl, .slice (some ⟨w.heap.size + 1, 0, none⟩) 12 12] from Blk.new _ _ _)
      generalize hwb : (wq).alloc (.cells #[.slice (some ⟨gl, 0, none⟩) 4 cl, .slice (some ⟨w.heap.size + 1, 0, none⟩) 12 12] 26) = wb at EV HZ BG hHeld BP ⊢
      clear hwb
      generalize hG : (wq).heap.size = gb at BG ⊢
      clear hG
      refine step_one 6 rfl (by kernel_rfl) (fun K hK => ?_)
      go_simp
      refine (refJoin_two gb 26 (some ⟨gl, 0, none⟩) (some ⟨w.heap.size + 1, 0, none⟩) 4 cl 12 12 (littleL c.toNat 4) n 16 (by omega) (by omega) (by omega) _ BG.out (EV.out.rd (by simp)) (blk_rd EV.out.2.1 HN.out)).mono ?_
      rintro e wj ⟨gj, cj, rfl, hrj, q1, q2, hb⟩
      replace EV := Lib.hid (EV.out.below hb)
      replace HZ := Lib.hid (HZ.out.below hb HZ.out.lt)
      replace BP := Lib.hid (BP.out.below hb BP.out.lt)
      replace BG := Lib.hid (BG.out.below hb BG.out.lt)
      replace EV := Lib.hid (EV.out.cons hrj)
      go_wp2_with fail
      refine hK.out _ _ (hHeld.trans (hb.mono hHeld.size)) (fun hHeld => ?_)
      clear hK K
      (try simp only [Act.put, List.setIfInBounds_toArray, List.set_cons_zero, List.set_cons_succ])
      clear hrj hb
      refine step_one 7 rfl (by kernel_rfl) (fun K hK => ?_)
      go_simp
      refine (HSC.out gj cj q1 q2 _ (EV.out.rd (by simp))).mono ?_
      rintro e wt ⟨rfl, hb⟩
      replace EV := Lib.hid (EV.out.below hb)
      replace HZ := Lib.hid (HZ.out.below hb HZ.out.lt)
      replace BP := Lib.hid (BP.out.below hb BP.out.lt)
      replace BG := Lib.hid (BG.out.below hb BG.out.lt)
      go_wp2_with fail
      refine hK.out _ _ (hHeld.trans (hb.mono hHeld.size)) (fun hHeld => ?_)
      clear hK K
      (try simp only [Act.put, List.setIfInBounds_toArray, List.set_cons_zero, List.set_cons_succ])
      clear hb
      refine step_one 9 rfl (by kernel_rfl) (fun K hK => ?_)
      refine step_store_blk _ rfl 53 (.tmp 7) (.tmp 18) rfl P (ls.map u32v) rfl (by rw [HAS.out]; rfl) 53 z16 BP.out (cells16 ls HLS.out) (by rw [List.length_map, HLS.out]; rfl) (u32v_one _) ?_
      intro ws' hbs hgs
      have hE := Below.grown hHeld hgs hHeld.size (by have := HP.out; intro k hk; injection hk with hk; omega)
      refine hK.out _ _ hE (fun hHeld => ?_)
      clear hK K
      simp only [Act.put]
      refine wpAnyH_done (by kernel_rfl) ?_ _
      have HF := Lib.hid (And.intro hbs (And.intro (H1.out.2.1.below hE H1.out.2.1.lt) (And.intro (H1.out.1.2.2.2.trans (hE.mono H1.out.1.2.2.2.size)) (Nat.le_trans H1.out.2.2 HP.out))))
      clear hE hHeld hbs hgs
      go_wp2
      go_meet
      exact ⟨P, rfl, HF.out⟩
  case rest =>
    obtain ⟨P, rfl, hcut⟩ := hcut
    have HB3 := Lib.hid hcut
    clear hcut H1 hcv
    go_wp2_with (refine wpList_load_blk rfl 53 (.tmp 7) rfl P rfl 53 (ls.map u32v) HB3.out.1 16 41 Try.underlying53 (cells16 ls HLS.out) ?_; rw [HAS.out])
    refine (HCC.out _).mono ?_
    rintro e w4 ⟨rfl, hb4⟩
    have HB4 := Lib.hid (show Blk w4 P 53 (ls.map u32v) ∧ Blk w4 (w.heap.size + 2) 48 z64 ∧ Below w.heap.size w w4 ∧ P + 1 ≤ w4.heap.size from ⟨HB3.out.1.below hb4 HB3.out.1.lt, HB3.out.2.1.below hb4 HB3.out.2.1.lt, HB3.out.2.2.1.trans (hb4.mono HB3.out.2.2.1.size), Nat.le_trans HB3.out.1.lt hb4.size⟩)
    have HPP := Lib.hid HB3.out.2.2.2
    clear HB3 hb4
    go_upto_region 3 with (refine wpList_store_blk rfl 53 (.tmp 8) (.tmp 20) rfl w4.heap.size (lm.map u32v) rfl (by rw [HAM.out]; rfl) 53 z16 (Blk.new w4 53 z16) (cells16 lm HLM.out) (by rw [List.length_map, HLM.out]; rfl) (u32v_one _) ?_; intro w5 hb5 hg5)
    simp only [Act.put]
    have HB5 := Lib.hid (show Blk w5 w4.heap.size 53 (lm.map u32v) ∧ Blk w5 P 53 (ls.map u32v) ∧ Blk w5 (w.heap.size + 2) 48 z64 ∧ Below w.heap.size w w5 ∧ w4.heap.size + 1 ≤ w5.heap.size by
      have h1 := HB4.out.2.2.2
      have h2 := HPP.out
      have h3 := HB4.out.2.2.1.size
      exact ⟨hb5, (HB4.out.1.alloc _).grown hg5 (by simp; omega), (HB4.out.2.1.alloc _).grown hg5 (by simp; omega), Below.grown (HB4.out.2.2.1.alloc h3 (.cells z16.toArray 53)) hg5 (by simp; omega) (by intro k hk; injection hk with hk; omega), by have := hg5.size; simpa using this⟩)
    have HO := Lib.hid (show w.heap.size + 2 < P ∧ P < w4.heap.size ∧ w4.heap.size < w5.heap.size by
      have h1 := HB4.out.2.2.2
      have h2 := HPP.out
      have h3 := HB5.out.2.2.2.2
      omega)
    clear hb5 hg5 HB4 HPP
    generalize w4.heap.size = Q at HB5 HO ⊢
    go_upto_region 5 with fail
    have h64 : z64.toArray = #[.int .u8 0, .int .u8 0, .int .u8 0, .int .u8 0, .int .u8 0, .int .u8 0, .int .u8 0, .int .u8 0, .int .u8 0, .int .u8 0, .int .u8 0, .int .u8 0, .int .u8 0, .int .u8 0, .int .u8 0, .int .u8 0, .int .u8 0, .int .u8 0, .int .u8 0, .int .u8 0, .int .u8 0, .int .u8 0, .int .u8 0, .int .u8 0, .int .u8 0, .int .u8 0, .int .u8 0, .int .u8 0, .int .u8 0, .int .u8 0, .int .u8 0, .int .u8 0, .int .u8 0, .int .u8 0, .int .u8 0, .int .u8 0, .int .u8 0, .int .u8 0, .int .u8 0, .int .u8 0, .int .u8 0, .int .u8 0, .int .u8 0, .int .u8 0, .int .u8 0, .int .u8 0, .int .u8 0, .int .u8 0, .int .u8 0, .int .u8 0, .int .u8 0, .int .u8 0, .int .u8 0, .int .u8 0, .int .u8 0, .int .u8 0, .int .u8 0, .int .u8 0, .int .u8 0, .int .u8 0, .int .u8 0, .int .u8 0, .int .u8 0, .int .u8 0] := rfl
    have h1 := HB5.out.1.alloc (.cells z64.toArray 48)
    have h2 := HB5.out.2.1.alloc (.cells z64.toArray 48)
    have h3 := HB5.out.2.2.1.alloc (.cells z64.toArray 48)
    have h4 := HB5.out.2.2.2.1.alloc HB5.out.2.2.2.1.size (.cells z64.toArray 48)
    have h5 : Blk (w5.alloc (.cells z64.toArray 48)) w5.heap.size 48 z64 := Blk.new w5 _ _
    rw [h64] at h1 h2 h3 h4 h5
    generalize w5.alloc (.cells #[.int .u8 0, .int .u8 0, .int .u8 0, .int .u8 0, .int .u8 0, .int .u8 0, .int .u8 0, .int .u8 0, .int .u8 0, .int .u8 0, .int .u8 0, .int .u8 0, .int .u8 0, .int .u8 0, .int .u8 0, .int .u8 0, .int .u8 0, .int .u8 0, .int .u8 0, .int .u8 0, .int .u8 0, .int .u8 0, .int .u8 0, .int .u8 0, .int .u8 0, .int .u8 0, .int .u8 0, .int .u8 0, .int .u8 0, .int .u8 0, .int .u8 0, .int .u8 0, .int .u8 0, .int .u8 0, .int .u8 0, .int .u8 0, .int .u8 0, .int .u8 0, .int .u8 0, .int .u8 0, .int .u8 0, .int .u8 0, .int .u8 0, .int .u8 0, .int .u8 0, .int .u8 0, .int .u8 0, .int .u8 0, .int .u8 0, .int .u8 0, .int .u8 0, .int .u8 0, .int .u8 0, .int .u8 0, .int .u8 0, .int .u8 0, .int .u8 0, .int .u8 0, .int .u8 0, .int .u8 0, .int .u8 0, .int .u8 0, .int .u8 0, .int .u8 0] 48) = w6 at h1 h2 h3 h4 h5 ⊢
    clear h64 HB5
    generalize w5.heap.size = R at h5 HO ⊢
    have HB6 := Lib.hid (And.intro h1 (And.intro h2 (And.intro h3 (And.intro h5 h4))))
    clear h1 h2 h3 h4 h5
    go_loopw [21, 10] (fun i _ wr => ∃ j : Nat, j ≤ 16 ∧ i = .int .i64 j ∧ Blk wr Q 53 (lm.map u32v) ∧ Blk wr P 53 (ls.map u32v) ∧ Blk wr (w.heap.size + 2) 48 z64 ∧ Blk wr R 48 ((rowB ws j).map u8v) ∧ Below w.heap.size w wr) (fun i _ _ => 16 - (intOf i).toNat)
    case atStart => exact ⟨0, by omega, rfl, HB6.out.1, HB6.out.2.1, HB6.out.2.2.1, by rw [rowB_zero]; exact HB6.out.2.2.2.1, HB6.out.2.2.2.2⟩
    case round =>
      clear HB6
      obtain ⟨j, hj, rfl, hq, hp, hz, hr, hbel⟩ := hrel
      by_cases hlt : j < 16
      · have d16 : decide ((j : Int) < 16) = true := by simp; omega
        have HB7 := Lib.hid (And.intro hq (And.intro hp (And.intro hz (And.intro hr hbel))))
        have HL := Lib.hid (refLit_some (wd ws j).toNat (by have := (wd ws j).toNat_lt; omega))
        clear hq hp hz hr hbel
        go_upto_region 7 with fail
        clear d16
        have hwr : IntKind.i64.wrap (4 * (j : Int)) = 4 * (j : Int) := IntWalk.i64_in _ (by omega)
        have hwa : IntKind.u32.wrap (((wd lm j).toNat : Int) + ((wd ls j).toNat : Int)) = ((wd ws j).toNat : Int) := by rw [u32_add, HWD.out j hlt]
        have hwc : IntKind.u64.wrap ((wd ws j).toNat : Int) = ((wd ws j).toNat : Int) := by
          have := (wd ws j).toNat_lt
          rw [IntKind.wrap_u64]
          omega
        have bj : (j : Int) < 16 := by omega
        have hsl : ∀ w' : World, (Instr.sliceAt 48 (.pointer (some ⟨R, 0, none⟩)) (some (.int .i64 (4 * (j : Int)))) none none).run Try.prog w' = .ok (.slice (some ⟨R, 4 * j, none⟩) (64 - 4 * j) (64 - 4 * j)) w' :=
          fun w' => run_slice_array_from (P := Try.prog) w' 48 5 64 Try.underlying48 i0 hi hz1 R .i64 (4 * j) (4 * (j : Int)) (by omega) (by omega)
        have cx : ∀ w' : World, Blk w' Q 53 (lm.map u32v) ∧ Blk w' P 53 (ls.map u32v) → w'.cell? ⟨Q, j, none⟩ = some (.int .u32 ((wd lm j).toNat : Int)) := fun w' h => h.1.word j (by have := HLM.out; omega)
        have cy : ∀ w' : World, Blk w' Q 53 (lm.map u32v) ∧ Blk w' P 53 (ls.map u32v) → w'.cell? ⟨P, j, none⟩ = some (.int .u32 ((wd ls j).toNat : Int)) := fun w' h => h.2.word j (by have := HLS.out; omega)
        refine wp_region_held_drew (S := fun w' => Blk w' Q 53 (lm.map u32v) ∧ Blk w' P 53 (ls.map u32v)) (by kernel_rfl) (And.intro HB7.out.1.drew HB7.out.2.1.drew) (fun hHeld => ?_)
        refine take_first (v := ?_) 0 rfl (by kernel_rfl) (by kernel_rfl) (by kernel_rfl) (fun _ _ _ h => h) (Or.inl ⟨by rfl, ?_⟩) (by assumption) ?_
        rotate_left
        · (intro w hSw; (try dsimp only at hSw); go_simp; try with_reducible rfl)
        (try simp only [Act.put, List.setIfInBounds_toArray, List.set_cons_zero, List.set_cons_succ])
        refine take_first (v := ?_) 1 rfl (by kernel_rfl) (by kernel_rfl) (by kernel_rfl) (fun _ _ _ h => h) (Or.inl ⟨by rfl, ?_⟩) (by assumption) ?_
        rotate_left
        · (intro w hSw; (try dsimp only at hSw); go_simp; try with_reducible rfl)
        (try simp only [Act.put, List.setIfInBounds_toArray, List.set_cons_zero, List.set_cons_succ])
        refine take_first (v := ?_) 2 rfl (by kernel_rfl) (by kernel_rfl) (by kernel_rfl) (fun _ _ _ h => h) (Or.inl ⟨by rfl, ?_⟩) (by assumption) ?_
        rotate_left
        · (intro w hSw; (try dsimp only at hSw); go_simp; try with_reducible rfl)
        (try simp only [Act.put, List.setIfInBounds_toArray, List.set_cons_zero, List.set_cons_succ])
        refine take_first (v := ?_) 3 rfl (by kernel_rfl) (by kernel_rfl) (by kernel_rfl) (fun _ _ _ h => h) (Or.inl ⟨by rfl, ?_⟩) (by assumption) ?_
        rotate_left
        · (intro w hSw; (try dsimp only at hSw); go_simp; try with_reducible rfl)
        (try simp only [Act.put, List.setIfInBounds_toArray, List.set_cons_zero, List.set_cons_succ])
        refine take_first (v := ?_) 4 rfl (by kernel_rfl) (by kernel_rfl) (by kernel_rfl) (fun _ _ _ h => h) (Or.inl ⟨by rfl, ?_⟩) (by assumption) ?_
        rotate_left
        · (intro w hSw; (try dsimp only at hSw); go_simp; try with_reducible rfl)
        (try simp only [Act.put, List.setIfInBounds_toArray, List.set_cons_zero, List.set_cons_succ])
        refine take_first (v := .int .u32 ((wd lm j).toNat : Int)) 5 rfl (by kernel_rfl) (by kernel_rfl) (by kernel_rfl) (fun _ _ _ h => h) (Or.inl ⟨by rfl, fun w' hSw => by have h := cx w' hSw; go_simp⟩) (by assumption) ?_
        (try simp only [Act.put, List.setIfInBounds_toArray, List.set_cons_zero, List.set_cons_succ])
        refine take_first (v := ?_) 6 rfl (by kernel_rfl) (by kernel_rfl) (by kernel_rfl) (fun _ _ _ h => h) (Or.inl ⟨by rfl, ?_⟩) (by assumption) ?_
        rotate_left
        · (intro w hSw; (try dsimp only at hSw); go_simp; try with_reducible rfl)
        (try simp only [Act.put, List.setIfInBounds_toArray, List.set_cons_zero, List.set_cons_succ])
        refine take_first (v := ?_) 7 rfl (by kernel_rfl) (by kernel_rfl) (by kernel_rfl) (fun _ _ _ h => h) (Or.inl ⟨by rfl, ?_⟩) (by assumption) ?_
        rotate_left
        · (intro w hSw; (try dsimp only at hSw); go_simp; try with_reducible rfl)
        (try simp only [Act.put, List.setIfInBounds_toArray, List.set_cons_zero, List.set_cons_succ])
        refine take_first (v := .int .u32 ((wd ls j).toNat : Int)) 8 rfl (by kernel_rfl) (by kernel_rfl) (by kernel_rfl) (fun _ _ _ h => h) (Or.inl ⟨by rfl, fun w' hSw => by have h := cy w' hSw; go_simp⟩) (by assumption) ?_
        (try simp only [Act.put, List.setIfInBounds_toArray, List.set_cons_zero, List.set_cons_succ])
        refine take_first (v := ?_) 9 rfl (by kernel_rfl) (by kernel_rfl) (by kernel_rfl) (fun _ _ _ h => h) (Or.inl ⟨by rfl, ?_⟩) (by assumption) ?_
        rotate_left
        · (intro w hSw; (try dsimp only at hSw); go_simp; try with_reducible rfl)
        (try simp only [Act.put, List.setIfInBounds_toArray, List.set_cons_zero, List.set_cons_succ])
        refine take_first (v := ?_) 10 rfl (by kernel_rfl) (by kernel_rfl) (by kernel_rfl) (fun _ _ _ h => h) (Or.inl ⟨by rfl, ?_⟩) (by assumption) ?_
        rotate_left
        · (intro w hSw; (try dsimp only at hSw); go_simp; try with_reducible rfl)
        (try simp only [Act.put, List.setIfInBounds_toArray, List.set_cons_zero, List.set_cons_succ])
        refine step_one 11 rfl (by kernel_rfl) (fun K hK => ?_)
        go_simp
        refine (HL.out _).mono ?_
        rintro e wq ⟨gl, cl, rfl, hown, hbq⟩
        have HB8 := Lib.hid (show Blk wq Q 53 (lm.map u32v) ∧ Blk wq P 53 (ls.map u32v) ∧ Blk wq (w.heap.size + 2) 48 z64 ∧ Blk wq R 48 ((rowB ws j).map u8v) ∧ Below w.heap.size w wq from ⟨HB7.out.1.drew.below hbq HB7.out.1.lt, HB7.out.2.1.drew.below hbq HB7.out.2.1.lt, HB7.out.2.2.1.drew.below hbq HB7.out.2.2.1.lt, HB7.out.2.2.2.1.drew.below hbq HB7.out.2.2.2.1.lt, HB7.out.2.2.2.2.drew.trans (hbq.mono HB7.out.2.2.2.2.size)⟩)
        have HW := Lib.hid hown
        clear hown hbq
        go_wp2_with fail
        refine hK.out _ _ (And.intro HB8.out.1 HB8.out.2.1) (fun hHeld => ?_)
        clear hK K
        (try simp only [Act.put, List.setIfInBounds_toArray, List.set_cons_zero, List.set_cons_succ])
        refine step_one 12 rfl (by kernel_rfl) (fun K hK => ?_)
        refine step_copy_bytes _ rfl (.tmp 26) (.tmp 35) 26 26 (by rfl) 5 Try.underlying26 (by kernel_rfl) R (4 * j) (64 - 4 * j) (64 - 4 * j) ⟨gl, 0, none⟩ 4 cl (by rfl) (by rfl) ((rowB ws j).map u8v) 48 HB8.out.2.2.2.1 ((littleL (wd ws j).toNat 4).map u8v) (by rw [List.length_map, littleL_length]; exact (Nat.min_eq_left (show 4 ≤ 64 - 4 * j by omega)).symm) ?_ (by simp only [List.length_map, littleL_length, rowB_length ws HWS.out j hj]; omega) (u8v_one _) ?_
        · intro i v h
          have h' : i < 4 := by
            have := (List.getElem?_eq_some_iff.1 h).1
            simpa [littleL_length] using this
          have := HW.out.cellAt i (by omega)
          rw [Go.WideShapes.add_plain, Nat.zero_add]
          exact this.trans h
        intro w8 hb8 hg8
        rw [rowB_step ws HWS.out j hlt _ rfl] at hb8
        have HB9 := Lib.hid (show Blk w8 Q 53 (lm.map u32v) ∧ Blk w8 P 53 (ls.map u32v) ∧ Blk w8 (w.heap.size + 2) 48 z64 ∧ Blk w8 R 48 ((rowB ws (j + 1)).map u8v) ∧ Below w.heap.size w w8 by
          have := HO.out
          exact ⟨HB8.out.1.grown hg8 (by simp; omega), HB8.out.2.1.grown hg8 (by simp; omega), HB8.out.2.2.1.grown hg8 (by simp; omega), hb8, below_blk HB8.out.2.2.2.2 hg8 (by omega)⟩)
        refine hK.out _ _ (And.intro HB9.out.1 HB9.out.2.1) (fun hHeld => ?_)
        clear hK K
        (try simp only [Act.put, List.setIfInBounds_toArray, List.set_cons_zero, List.set_cons_succ])
        refine wpAnyH_done (by kernel_rfl) ?_ _
        clear hb8 hg8 HB8 HB7 HW hwr hwc hsl hwa cx cy hHeld
        go_wp2
        go_roundw
        case rel => exact ⟨j + 1, by omega, by go_num, HB9.out.1, HB9.out.2.1, HB9.out.2.2.1, HB9.out.2.2.2.1, HB9.out.2.2.2.2⟩
        case measure => simp [intOf]; omega
      · obtain rfl : j = 16 := by omega
        rw [rowB_end ws HWS.out] at hr
        have HB := Lib.hid (And.intro hr (And.intro hz hbel))
        clear hr hz hbel hq hp
        have HLz := Lib.hid (show (bytesW ws).length = 64 by rw [bytesW_length, HWS.out])
        obtain ⟨lz, hlz⟩ : ∃ lz, bytesW ws = lz := ⟨_, rfl⟩
        rw [hlz] at HB HLz
        have HZ := Lib.hid (HEB.out.trans hlz)
        obtain ⟨cz, hcz⟩ : ∃ cz, (lz.map u8v).toArray = cz := ⟨_, rfl⟩
        have HCZ := Lib.hid hcz
        clear hcz hlz
        rw [show ((16 : Nat) : Int) = 16 from rfl]
        go_wp2_with (first | (refine wpList_load_blk rfl 48 (.tmp 9) rfl R rfl 48 (lz.map u8v) HB.out.1 64 5 Try.underlying48 (cells64 lz HLz.out) ?_; rw [HCZ.out]) | (refine wpList_store_blk rfl 48 (.tmp 6) (.tmp 38) rfl (w.heap.size + 2) (lz.map u8v) rfl (by show Value.agg cz = _; rw [HCZ.out]) 48 z64 HB.out.2.1 (cells64 lz HLz.out) (by rw [List.length_map, HLz.out]; rfl) (u8v_one _) ?_; intro w9 hb9 hg9))
        exact bodyPost_ret (results_blk rfl _ _ (w.heap.size + 2) 48 (lz.map u8v) 64 5 rfl hb9 Try.underlying48 (cells64 lz HLz.out)) rfl ⟨by rw [HZ.out], below_blk HB.out.2.2 hg9 (by omega)⟩
end Go.Proofs.Ytafkedeelngnnaa
