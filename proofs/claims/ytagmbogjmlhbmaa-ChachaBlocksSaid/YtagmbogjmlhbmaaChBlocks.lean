/-
  ChachaBlocks returns true for all words and every key, counter and nonce, and changes nothing that was there: the walk.
-/
import Derived.Test.YtagmbogjmlhbmaaChEnv
import Derived.Test.YtagmbogjmlhbmaaChRefBlock
import Derived.Test.YtagmbogjmlhbmaaWordsEq
namespace Go.Proofs.Ytagmbogjmlhbmaa
open Go.RowKit

set_option maxRecDepth 100000 in
set_option maxHeartbeats 2000000 in
theorem blocks_walk (w : World) (wl : List UInt32) (k : List UInt8) (c : UInt32) (nn : List UInt8) (hw : wl.length = 16) (hk : k.length = 32) (hn : nn.length = 12) :
    Calls Try.prog 3 #[.agg (wl.map u32v).toArray, .agg (k.map u8v).toArray, .int .u32 (c.toNat : Int), .agg (nn.map u8v).toArray] w fun e w' => e = .returned (.bool true) ∧ Below w.heap.size w w' := by
  have C1 := fun w' : World => core_any wl hw w'
  have C2 := fun w' : World => refCore_any wl hw w'
  have D1 := fun w' : World => block_any k nn hk hn c w'
  have D2 := fun w' : World => refBlock_any k nn hk hn c w'
  obtain ⟨cw, hcw⟩ : ∃ cw, (wl.map u32v).toArray = cw := ⟨_, rfl⟩
  obtain ⟨ck, hck⟩ : ∃ ck, (k.map u8v).toArray = ck := ⟨_, rfl⟩
  obtain ⟨cn, hcn⟩ : ∃ cn, (nn.map u8v).toArray = cn := ⟨_, rfl⟩
  obtain ⟨lm, hlm⟩ : ∃ lm, coreW 10 wl = lm := ⟨_, rfl⟩
  obtain ⟨bl, hbl⟩ : ∃ bl, blockL k c nn = bl := ⟨_, rfl⟩
  have eqW := words_same lm (by rw [← hlm, coreW_length]; exact hw)
  have eqB := block_same bl (by rw [← hbl]; exact blockL_length _ _ _)
  rw [hlm] at C1 C2
  rw [hbl] at D1 D2
  obtain ⟨sm, hsm⟩ : ∃ sm, (lm.map u32v).toArray = sm := ⟨_, rfl⟩
  obtain ⟨sb, hsb⟩ : ∃ sb, (bl.map u8v).toArray = sb := ⟨_, rfl⟩
  rw [hcw, hsm] at C1 C2
  rw [hck, hcn, hsb] at D1 D2
  rw [hsm] at eqW
  rw [hsb] at eqB
  rw [hcw, hck, hcn]
  have HW0 := Lib.hid (show Blk (w.alloc (.cells cw 23)) w.heap.size 23 (wl.map u32v) by rw [← hcw]; exact Blk.new w _ _)
  have HK0 := Lib.hid (show Blk ((w.alloc (.cells cw 23)).alloc (.cells ck 25)) (w.heap.size + 1) 25 (k.map u8v) by rw [← hck]; exact Blk.new' _ (by simp) _ _)
  have HN0 := Lib.hid (show Blk (((w.alloc (.cells cw 23)).alloc (.cells ck 25)).alloc (.cells cn 27)) (w.heap.size + 1 + 1) 27 (nn.map u8v) by rw [← hcn]; exact Blk.new' _ (by simp) _ _)
  have HCW := Lib.hid hcw
  have HCK := Lib.hid hck
  have HCN := Lib.hid hcn
  have HW := Lib.hid hw
  have HK := Lib.hid hk
  have HN := Lib.hid hn
  replace C1 := Lib.hid C1
  replace C2 := Lib.hid C2
  replace D1 := Lib.hid D1
  replace D2 := Lib.hid D2
  clear hw hk hn hcw hck hcn hlm hbl hsm hsb
  go_enter Try.func3, Try.ntmps3
  go_upto_region 1 with fail
  have hbel1 : Below w.heap.size w (((w.alloc (.cells cw 23)).alloc (.cells ck 25)).alloc (.cells cn 27)) := (((Below.refl _ _).alloc (Nat.le_refl _) _).alloc (by simp) _).alloc (by simp; omega) _
  have E1 : Env w (w.heap.size + 1) k nn [] (((w.alloc (.cells cw 23)).alloc (.cells ck 25)).alloc (.cells cn 27)) := ⟨HK0.out.alloc _, HN0.out, (fun q hq => by cases hq), hbel1⟩
  have W1 := (HW0.out.alloc (.cells ck 25)).alloc (.cells cn 27)
  clear HW0 HK0 HN0 hbel1
  generalize ((w.alloc (.cells cw 23)).alloc (.cells ck 25)).alloc (.cells cn 27) = w1 at E1 W1 ⊢
  replace E1 := Lib.hid (And.intro E1 W1)
  clear W1
  refine wp_region_held_drew (S := fun w' => Below w1.heap.size w1 w') (by kernel_rfl) ((Below.refl w1.heap.size w1).drew) (fun hHeld => ?_)
  refine take_first (v := .agg cw) 0 rfl (by kernel_rfl) (by kernel_rfl) (by kernel_rfl) (fun _ _ _ h => h) ((by rw [← HCW.out]; exact yields_load_blk (by rfl) 23 (.tmp 4) rfl w.heap.size rfl 23 (wl.map u32v) (fun w' hb => E1.out.2.below hb E1.out.2.lt) 16 22 Try.underlying23 (cells16 wl HW.out))) (by assumption) ?_
  (try simp only [Act.put, List.setIfInBounds_toArray, List.set_cons_zero, List.set_cons_succ])
  refine take_first (v := .agg cw) 2 rfl (by kernel_rfl) (by kernel_rfl) (by kernel_rfl) (fun _ _ _ h => h) ((by rw [← HCW.out]; exact yields_load_blk (by rfl) 23 (.tmp 4) rfl w.heap.size rfl 23 (wl.map u32v) (fun w' hb => E1.out.2.below hb E1.out.2.lt) 16 22 Try.underlying23 (cells16 wl HW.out))) (by assumption) ?_
  (try simp only [Act.put, List.setIfInBounds_toArray, List.set_cons_zero, List.set_cons_succ])
  refine step_one 1 rfl (by kernel_rfl) (fun K hK => ?_)
  go_simp
  refine (C1.out _).mono ?_
  rintro e wA ⟨rfl, hbwA⟩
  go_wp2_with fail
  refine hK.out _ _ (hHeld.trans (hbwA.mono hHeld.size)) (fun hHeld => ?_)
  clear hK K hbwA
  (try simp only [Act.put, List.setIfInBounds_toArray, List.set_cons_zero, List.set_cons_succ])
  refine step_one 3 rfl (by kernel_rfl) (fun K hK => ?_)
  go_simp
  refine (C2.out _).mono ?_
  rintro e wB ⟨rfl, hbwB⟩
  go_wp2_with fail
  refine hK.out _ _ (hHeld.trans (hbwB.mono hHeld.size)) (fun hHeld => ?_)
  clear hK K hbwB
  (try simp only [Act.put, List.setIfInBounds_toArray, List.set_cons_zero, List.set_cons_succ])
  refine take_first (v := ?_) 4 rfl (by kernel_rfl) (by kernel_rfl) (by kernel_rfl) (fun _ _ _ h => h) (Or.inl ⟨by rfl, ?_⟩) (by assumption) ?_
  rotate_left
  · (intro w hSw; (try dsimp only at hSw); go_simp; try with_reducible rfl)
  (try simp only [Act.put, List.setIfInBounds_toArray, List.set_cons_zero, List.set_cons_succ])
  refine take_first (v := ?_) 5 rfl (by kernel_rfl) (by kernel_rfl) (by kernel_rfl) (fun _ _ _ h => h) (Or.inl ⟨by rfl, ?_⟩) (by assumption) ?_
  rotate_left
  · (intro w hSw; (try dsimp only at hSw); go_simp; try with_reducible rfl)
  (try simp only [Act.put, List.setIfInBounds_toArray, List.set_cons_zero, List.set_cons_succ])
  refine take_first (v := ?_) 7 rfl (by kernel_rfl) (by kernel_rfl) (by kernel_rfl) (fun _ _ _ h => h) (Or.inl ⟨by rfl, ?_⟩) (by assumption) ?_
  rotate_left
  · (intro w hSw; (try dsimp only at hSw); go_simp; try with_reducible rfl)
  (try simp only [Act.put, List.setIfInBounds_toArray, List.set_cons_zero, List.set_cons_succ])
  refine take_first (v := ?_) 11 rfl (by kernel_rfl) (by kernel_rfl) (by kernel_rfl) (fun _ _ _ h => h) (Or.inl ⟨by rfl, ?_⟩) (by assumption) ?_
  rotate_left
  · (intro w hSw; (try dsimp only at hSw); go_simp; try with_reducible rfl)
  (try simp only [Act.put, List.setIfInBounds_toArray, List.set_cons_zero, List.set_cons_succ])
  refine take_first (v := .agg ck) 6 rfl (by kernel_rfl) (by kernel_rfl) (by kernel_rfl) (fun _ _ _ h => h) ((by rw [← HCK.out]; exact yields_load_blk (by rfl) 25 (.tmp 5) rfl (w.heap.size + 1) rfl 25 (k.map u8v) (fun w' hb => (E1.out.1.below hb).1) 32 5 Try.underlying25 (cells32 k HK.out))) (by assumption) ?_
  (try simp only [Act.put, List.setIfInBounds_toArray, List.set_cons_zero, List.set_cons_succ])
  refine take_first (v := .agg cn) 8 rfl (by kernel_rfl) (by kernel_rfl) (by kernel_rfl) (fun _ _ _ h => h) ((by rw [← HCN.out]; exact yields_load_blk (by rfl) 27 (.tmp 7) rfl (w.heap.size + 1 + 1) rfl 27 (nn.map u8v) (fun w' hb => (E1.out.1.below hb).2.1) 12 5 Try.underlying27 (cells12 nn HN.out))) (by assumption) ?_
  (try simp only [Act.put, List.setIfInBounds_toArray, List.set_cons_zero, List.set_cons_succ])
  refine take_first (v := .agg ck) 10 rfl (by kernel_rfl) (by kernel_rfl) (by kernel_rfl) (fun _ _ _ h => h) ((by rw [← HCK.out]; exact yields_load_blk (by rfl) 25 (.tmp 5) rfl (w.heap.size + 1) rfl 25 (k.map u8v) (fun w' hb => (E1.out.1.below hb).1) 32 5 Try.underlying25 (cells32 k HK.out))) (by assumption) ?_
  (try simp only [Act.put, List.setIfInBounds_toArray, List.set_cons_zero, List.set_cons_succ])
  refine take_first (v := .agg cn) 12 rfl (by kernel_rfl) (by kernel_rfl) (by kernel_rfl) (fun _ _ _ h => h) ((by rw [← HCN.out]; exact yields_load_blk (by rfl) 27 (.tmp 7) rfl (w.heap.size + 1 + 1) rfl 27 (nn.map u8v) (fun w' hb => (E1.out.1.below hb).2.1) 12 5 Try.underlying27 (cells12 nn HN.out))) (by assumption) ?_
  (try simp only [Act.put, List.setIfInBounds_toArray, List.set_cons_zero, List.set_cons_succ])
  refine step_one 9 rfl (by kernel_rfl) (fun K hK => ?_)
  go_simp
  refine (D1.out _).mono ?_
  rintro e wC ⟨rfl, hbwC⟩
  go_wp2_with fail
  refine hK.out _ _ (hHeld.trans (hbwC.mono hHeld.size)) (fun hHeld => ?_)
  clear hK K hbwC
  (try simp only [Act.put, List.setIfInBounds_toArray, List.set_cons_zero, List.set_cons_succ])
  refine step_one 13 rfl (by kernel_rfl) (fun K hK => ?_)
  go_simp
  refine (D2.out _).mono ?_
  rintro e wD ⟨rfl, hbwD⟩
  go_wp2_with fail
  refine hK.out _ _ (hHeld.trans (hbwD.mono hHeld.size)) (fun hHeld => ?_)
  clear hK K hbwD
  (try simp only [Act.put, List.setIfInBounds_toArray, List.set_cons_zero, List.set_cons_succ])
  refine take_first (v := ?_) 14 rfl (by kernel_rfl) (by kernel_rfl) (by kernel_rfl) (fun _ _ _ h => h) (Or.inl ⟨by rfl, ?_⟩) (by assumption) ?_
  rotate_left
  · (intro w hSw; (try dsimp only at hSw); go_simp; try with_reducible rfl)
  (try simp only [Act.put, List.setIfInBounds_toArray, List.set_cons_zero, List.set_cons_succ])
  refine take_first (v := ?_) 15 rfl (by kernel_rfl) (by kernel_rfl) (by kernel_rfl) (fun _ _ _ h => h) (Or.inl ⟨by rfl, ?_⟩) (by assumption) ?_
  rotate_left
  · (intro w hSw; (try dsimp only at hSw); go_simp; try with_reducible rfl)
  (try simp only [Act.put, List.setIfInBounds_toArray, List.set_cons_zero, List.set_cons_succ])
  refine take_first (v := ?_) 16 rfl (by kernel_rfl) (by kernel_rfl) (by kernel_rfl) (fun _ _ _ h => h) (Or.inl ⟨by rfl, ?_⟩) (by assumption) ?_
  rotate_left
  · (intro w hSw; (try dsimp only at hSw); go_simp; try with_reducible rfl)
  (try simp only [Act.put, List.setIfInBounds_toArray, List.set_cons_zero, List.set_cons_succ])
  have BB := Lib.hid begun_any
  refine step_one 17 rfl (by kernel_rfl) (fun K hK => ?_)
  go_simp
  refine (BB.out _).mono ?_
  rintro e wE ⟨rfl, hbwE⟩
  go_wp2_with fail
  refine hK.out _ _ (hHeld.trans (hbwE.mono hHeld.size)) (fun hHeld => ?_)
  clear hK K hbwE
  (try simp only [Act.put, List.setIfInBounds_toArray, List.set_cons_zero, List.set_cons_succ])
  refine take_first (v := ?_) 18 rfl (by kernel_rfl) (by kernel_rfl) (by kernel_rfl) (fun _ _ _ h => h) (Or.inl ⟨by rfl, ?_⟩) (by assumption) ?_
  rotate_left
  · (intro w hSw; (try dsimp only at hSw); go_simp; try with_reducible rfl)
  (try simp only [Act.put, List.setIfInBounds_toArray, List.set_cons_zero, List.set_cons_succ])
  refine take_first (v := ?_) 19 rfl (by kernel_rfl) (by kernel_rfl) (by kernel_rfl) (fun _ _ _ h => h) (Or.inl ⟨by rfl, ?_⟩) (by assumption) ?_
  rotate_left
  · (intro w hSw; (try dsimp only at hSw); go_simp; try with_reducible rfl)
  (try simp only [Act.put, List.setIfInBounds_toArray, List.set_cons_zero, List.set_cons_succ])
  refine wpAnyH_done (by kernel_rfl) ?_ _
  have HEND := Lib.hid (E1.out.1.2.2.2.trans (hHeld.mono E1.out.1.2.2.2.size))
  clear hHeld eqW eqB
  go_wp2
  go_ret
  exact ⟨rfl, HEND.out⟩
end Go.Proofs.Ytagmbogjmlhbmaa
