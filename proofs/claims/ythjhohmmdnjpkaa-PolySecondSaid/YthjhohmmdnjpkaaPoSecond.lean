/-
  PolySecond returns true for every key and data, and changes nothing that was there: the walk, over what is asked of poly.Sum.
-/
import Derived.Test.YthjhohmmdnjpkaaPoBegun
import Derived.Test.YthjhohmmdnjpkaaPoLaws
import Derived.Test.YthjhohmmdnjpkaaCut
namespace Go.Proofs.Ythjhohmmdnjpkaa
open Go.RowKit

set_option maxRecDepth 100000 in
set_option maxHeartbeats 4000000 in
theorem second_walk (HS : SumC) (w : World) (k : List UInt8) (A : Option Addr) (len cap : Nat) (l : List UInt8) (hk : k.length = 32) (hlc : len ≤ cap) (hcm : cap ≤ maxLen) (hr : Rd w w.heap.size A len l) :
    Calls Try.prog 4 #[.agg (k.map u8v).toArray, .slice A len cap] w fun e w' => e = .returned (.bool true) ∧ Below w.heap.size w w' := by
  obtain ⟨i0, hi, hz0, hz1, hz2⟩ := info_parts Try.info5
  have hzl : (zeroRow k 16).length = 32 := by rw [zeroRow_length _ _ (by omega), hk]
  have hsl : (k.drop 16).length = 16 := by rw [List.length_drop, hk]
  obtain ⟨ck, hck⟩ : ∃ ck, (k.map u8v).toArray = ck := ⟨_, rfl⟩
  obtain ⟨cz, hcz⟩ : ∃ cz, ((zeroRow k 16).map u8v).toArray = cz := ⟨_, rfl⟩
  obtain ⟨cs, hcs⟩ : ∃ cs, ((k.drop 16).map u8v).toArray = cs := ⟨_, rfl⟩
  have SC1 : ∀ (D : Option Addr) (n cap : Nat) (l : List UInt8), n ≤ cap → cap ≤ maxLen → n ≤ 1000 → ∀ w : World, Rd w w.heap.size D n l → Calls Try.prog 8 #[.agg cz, .slice D n cap] w fun e w' => e = .returned (.agg cs) ∧ Below w.heap.size w w' := fun D n cap l h1 h2 h3 w h4 => by
    have h := HS (zeroRow k 16) hzl D n cap l h1 h2 h3 w h4
    rwa [tag_zero k hk l, hcz, hcs] at h
  have SC2 : ∀ w : World, Calls Try.prog 8 #[.agg ck, .slice none 0 0] w fun e w' => e = .returned (.agg cs) ∧ Below w.heap.size w w' := fun w => by
    have h := HS k hk none 0 0 [] (Nat.le_refl _) (by simp) (by omega) w (Rd.nil _ _ _)
    rwa [tag_none k hk, hck, hcs] at h
  have eqS := tag_same (k.drop 16) hsl
  rw [hcs] at eqS
  rw [hck]
  have HB0 := Lib.hid (show Blk (w.alloc (.cells ck 23)) w.heap.size 23 (k.map u8v) by rw [← hck]; exact Blk.new w _ _)
  have HR := Lib.hid hr
  have HK := Lib.hid hk
  have HZL := Lib.hid hzl
  have HSL := Lib.hid hsl
  have HCK := Lib.hid hck
  have HCZ := Lib.hid hcz
  have HCS := Lib.hid hcs
  have HSC1 := Lib.hid SC1
  have HSC2 := Lib.hid SC2
  have HBG := Lib.hid (begun_any HS)
  clear hr hk hzl hsl hck hcz hcs SC1 SC2 HS
  go_enter Try.func4, Try.ntmps4
  go_upto_region 2 with (first | (refine wpList_load_blk rfl 23 (.tmp 2) rfl w.heap.size rfl 23 (k.map u8v) HB0.out 32 5 Try.underlying23 (cells32 k HK.out) ?_; rw [HCK.out]) | (refine wpList_store_blk rfl 23 (.tmp 5) (.tmp 8) rfl (w.heap.size + 1) (k.map u8v) rfl (by show Value.agg ck = _; rw [HCK.out]) 23 z32 (Blk.new' (w.alloc (.cells ck 23)) (by simp) 23 z32) (cells32 k HK.out) (by rw [List.length_map, HK.out]; rfl) (u8v_one _) ?_; intro w1 hb1 hg1))
  simp only [Act.put]
  have H1 := Lib.hid (show Blk w1 (w.heap.size + 1) 23 (k.map u8v) ∧ Blk w1 w.heap.size 23 (k.map u8v) ∧ Below w.heap.size w w1 ∧ w.heap.size + 2 ≤ w1.heap.size from ⟨hb1, (HB0.out.alloc _).grown hg1 (by simp), Below.grown (((Below.refl _ _).alloc (Nat.le_refl _) _).alloc (by simp) (.cells z32.toArray 23)) hg1 (by simp; omega) (by intro k hk; injection hk with hk; omega), by have := hg1.size; simpa using this⟩)
  clear hb1 hg1 HB0
  go_wp2_with fail
  go_loopw [6] (fun v wr => ∃ j : Nat, j ≤ 16 ∧ v = .int .i64 (j : Int) ∧ Blk wr (w.heap.size + 1) 23 ((zeroRow k j).map u8v) ∧ Hid (Blk wr w.heap.size 23 (k.map u8v) ∧ Below w.heap.size w wr ∧ w.heap.size + 2 ≤ wr.heap.size)) (fun v _ => 16 - (intOf v).toNat)
  case atStart => exact ⟨0, by omega, rfl, by rw [zeroRow_zero]; exact H1.out.1, Lib.hid H1.out.2⟩
  case round =>
    clear H1
    obtain ⟨j, hj, rfl, hrow, HX⟩ := hrel
    by_cases hlt : j < 16
    · have d16 : decide ((j : Int) < 16) = true := by simp; omega
      have fx : ∃ u, wr.cell? ⟨w.heap.size + 1, j, none⟩ = some u := by
        rw [hrow.cell j]
        exact ⟨_, List.getElem?_eq_getElem (by rw [List.length_map, zeroRow_length _ _ (by rw [HK.out]; omega), HK.out]; omega)⟩
      obtain ⟨u, fx⟩ := fx
      have zx := hrow.frozen j
      have hset := hrow.set_ j (.int .u8 0)
      rw [show (.int .u8 0 : Value) = u8v 0 from rfl, ← List.map_set, zeroRow_set k j (by rw [HK.out]; omega), show u8v 0 = (.int .u8 0 : Value) from rfl] at hset
      have HN := Lib.hid (show Blk (wr.setCell ⟨w.heap.size + 1, j, none⟩ (.int .u8 0)) (w.heap.size + 1) 23 ((zeroRow k (j + 1)).map u8v) ∧ Blk (wr.setCell ⟨w.heap.size + 1, j, none⟩ (.int .u8 0)) w.heap.size 23 (k.map u8v) ∧ Below w.heap.size w (wr.setCell ⟨w.heap.size + 1, j, none⟩ (.int .u8 0)) ∧ w.heap.size + 2 ≤ (wr.setCell ⟨w.heap.size + 1, j, none⟩ (.int .u8 0)).heap.size from ⟨hset, HX.out.1.far (by simp) _, HX.out.2.1.setCell (by dsimp only; omega) _, by simpa [World.setCell] using HX.out.2.2⟩)
      clear hrow HX hset
      go_wp2_with fail
      go_roundw
      case rel => exact ⟨j + 1, by omega, by go_num, HN.out.1, Lib.hid HN.out.2⟩
      case measure => simp [intOf]; omega
    · obtain rfl : j = 16 := by omega
      have H2 := Lib.hid (And.intro hrow HX.out)
      clear hrow HX
      rw [show ((16 : Nat) : Int) = 16 from rfl]
      go_upto_region 7 with fail
      have ga := H2.out.1.alloc (.cells zT.toArray 29)
      have gb := H2.out.2.1.alloc (.cells zT.toArray 29)
      have gc := H2.out.2.2.1.alloc H2.out.2.2.1.size (.cells zT.toArray 29)
      have gd : Blk (wr.alloc (.cells zT.toArray 29)) wr.heap.size 29 zT := Blk.new wr _ _
      have ge : w.heap.size + 2 ≤ wr.heap.size := H2.out.2.2.2
      rw [zT_arr] at ga gb gc gd
      generalize wr.alloc (.cells #[.int .u8 0, .int .u8 0, .int .u8 0, .int .u8 0, .int .u8 0, .int .u8 0, .int .u8 0, .int .u8 0, .int .u8 0, .int .u8 0, .int .u8 0, .int .u8 0, .int .u8 0, .int .u8 0, .int .u8 0, .int .u8 0] 29) = w3 at ga gb gc gd ⊢
      clear H2
      generalize wr.heap.size = P at gd ge ⊢
      have H3 := Lib.hid (And.intro ga (And.intro gb (And.intro gc (And.intro gd ge))))
      clear ga gb gc gd ge
      refine wp_region_held_drew (S := fun _ => True) (by kernel_rfl) (trivial) (fun hHeld => ?_)
      refine take_first (v := ?_) 0 rfl (by kernel_rfl) (by kernel_rfl) (by kernel_rfl) (fun _ _ _ h => h) (Or.inl ⟨by rfl, ?_⟩) (by assumption) ?_
      rotate_left
      · (intro w hSw; (try dsimp only at hSw); go_simp; try with_reducible rfl)
      (try simp only [Act.put, List.setIfInBounds_toArray, List.set_cons_zero, List.set_cons_succ])
      refine take_first (v := ?_) 1 rfl (by kernel_rfl) (by kernel_rfl) (by kernel_rfl) (fun _ _ _ h => h) (Or.inl ⟨by rfl, ?_⟩) (by assumption) ?_
      rotate_left
      · (intro w hSw; (try dsimp only at hSw); go_simp; try with_reducible rfl)
      (try simp only [Act.put, List.setIfInBounds_toArray, List.set_cons_zero, List.set_cons_succ])
      refine step_one 2 rfl (by kernel_rfl) (fun K hK => ?_)
      refine step_copy_bytes _ rfl (.tmp 15) (.tmp 16) 24 24 (by rfl) 5 Try.underlying24 (by kernel_rfl) P 0 16 16 ⟨w.heap.size, 16, none⟩ 16 16 (by rfl) (by rfl) zT 29 H3.out.2.2.2.1.drew ((k.drop 16).map u8v) (by rw [List.length_map, HSL.out]; rfl) ?_ (by rw [List.length_map, HSL.out]; exact Nat.le_refl _) (u8v_one _) ?_
      · intro i v h
        have hi16 : i < 16 := by
          have := (List.getElem?_eq_some_iff.1 h).1
          rwa [List.length_map, HSL.out] at this
        rw [Go.WideShapes.add_plain, H3.out.2.1.drew.cell, List.getElem?_map]
        rw [List.getElem?_map, List.getElem?_drop] at h
        exact h
      intro w4 hb4 hg4
      refine hK.out _ _ (trivial) (fun hHeld => ?_)
      clear hK K
      (try simp only [Act.put, List.setIfInBounds_toArray, List.set_cons_zero, List.set_cons_succ])
      refine wpAnyH_done (by kernel_rfl) ?_ _
      have e4 : zT.take 0 ++ (k.drop 16).map u8v ++ zT.drop (0 + ((k.drop 16).map u8v).length) = (k.drop 16).map u8v := by
        have hd : zT.drop (0 + 16) = [] := rfl
        rw [List.length_map, HSL.out, hd, List.take_zero, List.nil_append, List.append_nil]
      rw [e4] at hb4
      have H4 := Lib.hid (show Blk w4 (w.heap.size + 1) 23 ((zeroRow k 16).map u8v) ∧ Blk w4 w.heap.size 23 (k.map u8v) ∧ Blk w4 P 29 ((k.drop 16).map u8v) ∧ Below w.heap.size w w4 by
        have := H3.out.2.2.2.2
        exact ⟨H3.out.1.drew.grown hg4 (by simp; omega), H3.out.2.1.drew.grown hg4 (by simp; omega), hb4, below_blk H3.out.2.2.1.drew hg4 (by omega)⟩)
      clear H3 hb4 hg4 e4 hHeld
      have HD := Lib.hid (((HR.out.below H4.out.2.2.2).mono H4.out.2.2.2.size))
      go_wp2_with fail
      refine wp_region_held_drew (S := fun w' => Below w4.heap.size w4 w') (by kernel_rfl) ((Below.refl w4.heap.size w4).drew) (fun hHeld => ?_)
      refine take_first (v := .agg cz) 0 rfl (by kernel_rfl) (by kernel_rfl) (by kernel_rfl) (fun _ _ _ h => h) (by rw [← HCZ.out]; exact yields_load_blk (by rfl) 23 (.tmp 5) rfl (w.heap.size + 1) rfl 23 ((zeroRow k 16).map u8v) (fun w' hb => H4.out.1.below hb H4.out.1.lt) 32 5 Try.underlying23 (cells32 _ HZL.out)) (by assumption) ?_
      (try simp only [Act.put, List.setIfInBounds_toArray, List.set_cons_zero, List.set_cons_succ])
      refine take_first (v := ?_) 1 rfl (by kernel_rfl) (by kernel_rfl) (by kernel_rfl) (fun _ _ _ h => h) (Or.inl ⟨by rfl, ?_⟩) (by assumption) ?_
      rotate_left
      · (intro w hSw; (try dsimp only at hSw); go_simp; try with_reducible rfl)
      (try simp only [Act.put, List.setIfInBounds_toArray, List.set_cons_zero, List.set_cons_succ])
      refine take_first (v := .agg cs) 4 rfl (by kernel_rfl) (by kernel_rfl) (by kernel_rfl) (fun _ _ _ h => h) (by rw [← HCS.out]; exact yields_load_blk (by rfl) 29 (.tmp 7) rfl P rfl 29 ((k.drop 16).map u8v) (fun w' hb => H4.out.2.2.1.below hb H4.out.2.2.1.lt) 16 5 Try.underlying29 (cells16T _ HSL.out)) (by assumption) ?_
      (try simp only [Act.put, List.setIfInBounds_toArray, List.set_cons_zero, List.set_cons_succ])
      refine step_one 2 rfl (by kernel_rfl) (fun K hK => ?_)
      go_simp
      refine (cut_any _ A len cap 100 l hlc hcm _ ((HD.out.below hHeld).mono hHeld.size)).mono ?_
      rintro e w5 ⟨rfl, hr5, rfl⟩
      go_wp2_with fail
      have HR5 := Lib.hid hr5
      clear hr5
      refine hK.out _ _ (hHeld) (fun hHeld => ?_)
      clear hK K
      (try simp only [Act.put, List.setIfInBounds_toArray, List.set_cons_zero, List.set_cons_succ])
      refine step_one 3 rfl (by kernel_rfl) (fun K hK => ?_)
      go_simp
      refine (HSC1.out A (min len 100) cap (l.take 100) (by omega) hcm (by omega) _ HR5.out).mono ?_
      rintro e w6 ⟨rfl, hb6⟩
      go_wp2_with fail
      refine hK.out _ _ (hHeld.trans (hb6.mono hHeld.size)) (fun hHeld => ?_)
      clear hK K
      (try simp only [Act.put, List.setIfInBounds_toArray, List.set_cons_zero, List.set_cons_succ])
      clear hb6
      refine take_first (v := ?_) 5 rfl (by kernel_rfl) (by kernel_rfl) (by kernel_rfl) (fun _ _ _ h => h) (Or.inl ⟨by rfl, ?_⟩) (by assumption) ?_
      rotate_left
      · (intro w hSw; (try dsimp only at hSw); go_simp; try with_reducible rfl)
      (try simp only [Act.put, List.setIfInBounds_toArray, List.set_cons_zero, List.set_cons_succ])
      refine take_first (v := ?_) 6 rfl (by kernel_rfl) (by kernel_rfl) (by kernel_rfl) (fun _ _ _ h => h) (Or.inl ⟨by rfl, ?_⟩) (by assumption) ?_
      rotate_left
      · (intro w hSw; (try dsimp only at hSw); go_simp; try with_reducible rfl)
      (try simp only [Act.put, List.setIfInBounds_toArray, List.set_cons_zero, List.set_cons_succ])
      refine take_first (v := .agg ck) 7 rfl (by kernel_rfl) (by kernel_rfl) (by kernel_rfl) (fun _ _ _ h => h) (by rw [← HCK.out]; exact yields_load_blk (by rfl) 23 (.tmp 2) rfl w.heap.size rfl 23 (k.map u8v) (fun w' hb => H4.out.2.1.below hb H4.out.2.1.lt) 32 5 Try.underlying23 (cells32 _ HK.out)) (by assumption) ?_
      (try simp only [Act.put, List.setIfInBounds_toArray, List.set_cons_zero, List.set_cons_succ])
      refine take_first (v := .agg cs) 9 rfl (by kernel_rfl) (by kernel_rfl) (by kernel_rfl) (fun _ _ _ h => h) (by rw [← HCS.out]; exact yields_load_blk (by rfl) 29 (.tmp 7) rfl P rfl 29 ((k.drop 16).map u8v) (fun w' hb => H4.out.2.2.1.below hb H4.out.2.2.1.lt) 16 5 Try.underlying29 (cells16T _ HSL.out)) (by assumption) ?_
      (try simp only [Act.put, List.setIfInBounds_toArray, List.set_cons_zero, List.set_cons_succ])
      refine step_one 8 rfl (by kernel_rfl) (fun K hK => ?_)
      go_simp
      refine (HSC2.out _).mono ?_
      rintro e w7 ⟨rfl, hb7⟩
      go_wp2_with fail
      refine hK.out _ _ (hHeld.trans (hb7.mono hHeld.size)) (fun hHeld => ?_)
      clear hK K
      (try simp only [Act.put, List.setIfInBounds_toArray, List.set_cons_zero, List.set_cons_succ])
      clear hb7
      refine take_first (v := ?_) 10 rfl (by kernel_rfl) (by kernel_rfl) (by kernel_rfl) (fun _ _ _ h => h) (Or.inl ⟨by rfl, ?_⟩) (by assumption) ?_
      rotate_left
      · (intro w hSw; (try dsimp only at hSw); go_simp; try with_reducible rfl)
      (try simp only [Act.put, List.setIfInBounds_toArray, List.set_cons_zero, List.set_cons_succ])
      refine take_first (v := ?_) 11 rfl (by kernel_rfl) (by kernel_rfl) (by kernel_rfl) (fun _ _ _ h => h) (Or.inl ⟨by rfl, ?_⟩) (by assumption) ?_
      rotate_left
      · (intro w hSw; (try dsimp only at hSw); go_simp; try with_reducible rfl)
      (try simp only [Act.put, List.setIfInBounds_toArray, List.set_cons_zero, List.set_cons_succ])
      refine take_first (v := ?_) 12 rfl (by kernel_rfl) (by kernel_rfl) (by kernel_rfl) (fun _ _ _ h => h) (Or.inl ⟨by rfl, ?_⟩) (by assumption) ?_
      rotate_left
      · (intro w hSw; (try dsimp only at hSw); go_simp; try with_reducible rfl)
      (try simp only [Act.put, List.setIfInBounds_toArray, List.set_cons_zero, List.set_cons_succ])
      refine step_one 13 rfl (by kernel_rfl) (fun K hK => ?_)
      go_simp
      refine (HBG.out _).mono ?_
      rintro e w8 ⟨rfl, hb8⟩
      go_wp2_with fail
      refine hK.out _ _ (hHeld.trans (hb8.mono hHeld.size)) (fun hHeld => ?_)
      clear hK K
      (try simp only [Act.put, List.setIfInBounds_toArray, List.set_cons_zero, List.set_cons_succ])
      clear hb8
      refine take_first (v := ?_) 14 rfl (by kernel_rfl) (by kernel_rfl) (by kernel_rfl) (fun _ _ _ h => h) (Or.inl ⟨by rfl, ?_⟩) (by assumption) ?_
      rotate_left
      · (intro w hSw; (try dsimp only at hSw); go_simp; try with_reducible rfl)
      (try simp only [Act.put, List.setIfInBounds_toArray, List.set_cons_zero, List.set_cons_succ])
      refine take_first (v := ?_) 15 rfl (by kernel_rfl) (by kernel_rfl) (by kernel_rfl) (fun _ _ _ h => h) (Or.inl ⟨by rfl, ?_⟩) (by assumption) ?_
      rotate_left
      · (intro w hSw; (try dsimp only at hSw); go_simp; try with_reducible rfl)
      (try simp only [Act.put, List.setIfInBounds_toArray, List.set_cons_zero, List.set_cons_succ])
      refine wpAnyH_done (by kernel_rfl) ?_ _
      have HEND := Lib.hid (H4.out.2.2.2.trans (hHeld.mono H4.out.2.2.2.size))
      clear hHeld eqS
      go_wp2
      go_ret
      exact ⟨rfl, HEND.out⟩
end Go.Proofs.Ythjhohmmdnjpkaa
